/- The program's search among ascending contexts, and what leans on it. -/
import Derived.Test.YtfbgekhkbbhggaaCmp
import Derived.Deep.LoopGhost
import Derived.Shelf.Abstract
namespace Go.Proofs.Ytfbgekhkbbhggaa.Search
open Go.RowKit Pairs Find2 GoodM RelM Cmp

theorem isAt_some_pl {l : List (Int × Int)} (h : Asc l) {t : Int} {i : Nat} (hi : i ≤ l.length) (h1 : ∀ j x, j < i → l[j]? = some x → x.1 < t) (h2 : ∀ x, l[i]? = some x → t ≤ x.1) : ((isAt l t).isSome = true ↔ ∃ x, l[i]? = some x ∧ x.1 = t) ∧ pl l t = i := by
  refine ⟨?_, pl_eq hi h1 h2⟩
  rw [isAt_pl h h1 h2]
  cases hx : l[i]? with
  | none => simp
  | some x =>
    by_cases e : x.1 = t
    · simp [e]
    · simp [e]
theorem isAt_found {l : List (Int × Int)} (h : Asc l) {t : Int} {k : Nat} (hk : isAt l t = some k) : pl l t = k := by
  unfold isAt at hk
  rw [List.findIdx?_eq_some_iff_getElem] at hk
  obtain ⟨hl, h1, _⟩ := hk
  have e : l[k].1 = t := by simpa using h1
  refine pl_eq (by omega) (fun j x hj hx => ?_) (fun x hx => ?_)
  · obtain ⟨d, rfl⟩ : ∃ d, k = j + d + 1 := ⟨k - j - 1, by omega⟩
    have := h.lt d j x _ hx (List.getElem?_eq_getElem hl)
    omega
  · rw [List.getElem?_eq_getElem hl] at hx
    injection hx with hx
    rw [← hx, e]
    exact Int.le_refl _
set_option maxRecDepth 100000 in
set_option maxHeartbeats 4000000 in
theorem search_any (a : Option Addr) (n c : Nat) (l : List (Int × Int)) (t : Int) (w : World) (hz : n ≤ 1048576) (h : Holds w a n l) (hA : Asc l) :
    Calls Try.prog 132 #[.slice a n c, .int .i64 t, .func (.func 133) #[] #[]] w fun e w' => e = .returned (.tuple #[.int .i64 (pl l t : Nat), .bool (isAt l t).isSome]) ∧ Below w.heap.size w w' := by
  have HH := Lib.hid h
  have HA := Lib.hid hA
  clear h hA
  go_enter Try.func132, Try.ntmps132
  go_wp2
  go_loopg [9, 10] n (fun kx s9 s10 wr => ∃ lo hi : Nat, s9 = .int .i64 lo ∧ s10 = .int .i64 hi ∧ lo ≤ hi ∧ hi ≤ n ∧ hi - lo ≤ kx ∧ Below w.heap.size w wr ∧ Hid ((∀ j x, j < lo → l[j]? = some x → x.1 < t) ∧ (∀ j x, hi ≤ j → l[j]? = some x → t ≤ x.1)))
  case atStart => exact ⟨0, n, rfl, rfl, Nat.zero_le _, Nat.le_refl _, by omega, Below.refl _ _, ⟨fun j x hj => absurd hj (by omega), fun j x hj hx => absurd (List.getElem?_eq_some_iff.1 hx).1 (by rw [HH.out.1]; omega)⟩⟩
  case round =>
    obtain ⟨lo, hi, rfl, rfl, hlh, hin, hg, hb, I⟩ := hrel
    by_cases hlt : lo < hi
    · obtain ⟨b, off, x, y, rfl, hx, e1, e2⟩ := (HH.out.below hb).at ((lo + hi) / 2) (by omega)
      have HX := Lib.hid hx
      have hcall := place1_any x y t wr
      clear hx
      by_cases hyx : x < t
      · have hcm : cmpI x t < 0 := (cmpI_lt x t).2 hyx
        generalize cmpI x t = r at *
        go_wp2_with fail
        refine hcall.mono ?_
        rintro e w' ⟨rfl, hq⟩
        go_wp2_with fail
        go_roundg (hi - ((lo + hi) / 2 + 1))
        case measure => omega
        case rel =>
          exact ⟨(lo + hi) / 2 + 1, hi, by rw [show ((lo : Int) + (hi : Int)) / 2 + 1 = (((lo + hi) / 2 + 1 : Nat) : Int) by omega], rfl, by omega, hin, Nat.le_refl _, hb.trans (hq.mono hb.size), ⟨fun j z hj hz => by have := HA.out.le (i := j) (j := (lo + hi) / 2) (by omega) hz HX.out; simp at this; omega, I.out.2⟩⟩
      · have hcm : ¬ cmpI x t < 0 := fun h => hyx ((cmpI_lt x t).1 h)
        generalize cmpI x t = r at *
        go_wp2_with fail
        refine hcall.mono ?_
        rintro e w' ⟨rfl, hq⟩
        go_wp2_with fail
        go_roundg ((lo + hi) / 2 - lo)
        case measure => omega
        case rel =>
          exact ⟨lo, (lo + hi) / 2, rfl, by rw [show ((lo : Int) + (hi : Int)) / 2 = (((lo + hi) / 2 : Nat) : Int) by omega], by omega, by omega, Nat.le_refl _, hb.trans (hq.mono hb.size), ⟨I.out.1, fun j z hj hz => by have := HA.out.le (i := (lo + hi) / 2) (j := j) hj HX.out hz; simp at this; omega⟩⟩
    · obtain rfl : hi = lo := by omega
      have hM := isAt_some_pl HA.out (i := hi) (by rw [HH.out.1]; exact hin) I.out.1 (fun x hx => I.out.2 hi x (Nat.le_refl _) hx)
      have HM := Lib.hid hM.1
      have HP := Lib.hid hM.2
      clear hM
      by_cases hn : hi < n
      · obtain ⟨b, off, x, y, rfl, hx, e1, e2⟩ := (HH.out.below hb).at hi hn
        have HX := Lib.hid hx
        have hcall := place1_any x y t wr
        clear hx
        by_cases hyx : x = t
        · have hs : (isAt l t).isSome = true := HM.out.2 ⟨_, HX.out, hyx⟩
          have hcm : cmpI x t = 0 := (cmpI_eq x t).2 hyx
          subst hyx
          have HS := Lib.hid hs
          clear hs
          rw [hcm] at hcall
          clear hcm
          go_wp2_with fail
          refine hcall.mono ?_
          rintro e w' ⟨rfl, hq⟩
          go_wp2_with fail
          go_ret2
          exact ⟨by rw [HP.out, HS.out]; rfl, hb.trans (hq.mono hb.size)⟩
        · have hs : (isAt l t).isSome = false := by
            rw [← Bool.not_eq_true, HM.out]
            rintro ⟨z, hz, ht⟩
            rw [HX.out] at hz
            injection hz with hz
            subst hz
            exact hyx ht
          have hcm : ¬ cmpI x t = 0 := fun h => hyx ((cmpI_eq x t).1 h)
          have HS := Lib.hid hs
          clear hs
          generalize cmpI x t = r at *
          have hcq : (r == 0) = false := by simpa using hcm
          go_wp2_with fail
          refine hcall.mono ?_
          rintro e w' ⟨rfl, hq⟩
          go_wp2_with fail
          go_ret2
          exact ⟨by rw [HP.out, HS.out]; rfl, hb.trans (hq.mono hb.size)⟩
      · have hs : (isAt l t).isSome = false := by
          rw [← Bool.not_eq_true, HM.out]
          rintro ⟨z, hz, ht⟩
          have := (List.getElem?_eq_some_iff.1 hz).1
          rw [HH.out.1] at this
          omega
        have HS := Lib.hid hs
        clear hs
        go_wp2
        go_ret2
        exact ⟨by rw [HP.out, HS.out]; rfl, hb⟩
end Go.Proofs.Ytfbgekhkbbhggaa.Search
