/- The program's search among ascending contexts, and what leans on it. -/
import Derived.Test.YtcbfnhghhbgdkaaExactResolvesRecordSaidPartaj
import Derived.Deep.LoopGhost
import Derived.Shelf.Abstract
import Derived.BigQuiet
import Derived.Deep.RegionWith
namespace Go.Proofs.Ytcbfnhghhbgdkaa.Search
open Go.RowKit Pairs Find2 GoodM RelM Cmp

theorem isAt_some_pl {l : List (Int × Int)} (h : Asc l) {t : Int} {i : Nat} (hi : i ≤ l.length) (h1 : ∀ j x, j < i → l[j]? = some x → x.1 < t) (h2 : ∀ x, l[i]? = some x → t ≤ x.1) : ((isAt l t).isSome = true ↔ ∃ x, l[i]? = some x ∧ x.1 = t) ∧ pl l t = i := by
  refine ⟨?_, pl_eq hi h1 h2⟩
  rw [isAt_pl h h1 h2]
  cases hx : l[i]? with
  | none => simp
  | some x =>
    by_cases e : x.1 = t
    · simp [e]
    · simp [e]
theorem isAt_found {l : List (Int × Int)} (h : Asc l) {t : Int} {k : Nat} (hk : isAt l t = some k) : pl l t = k := by
  unfold isAt at hk
  rw [List.findIdx?_eq_some_iff_getElem] at hk
  obtain ⟨hl, h1, _⟩ := hk
  have e : l[k].1 = t := by simpa using h1
  refine pl_eq (by omega) (fun j x hj hx => ?_) (fun x hx => ?_)
  · obtain ⟨d, rfl⟩ : ∃ d, k = j + d + 1 := ⟨k - j - 1, by omega⟩
    have := h.lt d j x _ hx (List.getElem?_eq_getElem hl)
    omega
  · rw [List.getElem?_eq_getElem hl] at hx
    injection hx with hx
    rw [← hx, e]
    exact Int.le_refl _
set_option maxRecDepth 100000 in
set_option maxHeartbeats 4000000 in
theorem search_any (a : Option Addr) (n c : Nat) (l : List (Int × Int)) (t : Int) (w : World) (hz : n ≤ 1048576) (h : Holds w a n l) (hA : Asc l) :
    Calls Try.prog 49 #[.slice a n c, .int .i64 t, .func (.func 50) #[] #[]] w fun e w' => e = .returned (.tuple #[.int .i64 (pl l t : Nat), .bool (isAt l t).isSome]) ∧ Below w.heap.size w w' := by
  have HH := Lib.hid h
  have HA := Lib.hid hA
  clear h hA
  go_enter Try.func49, Try.ntmps49
  go_wp2
  go_loopg [9, 10] n (fun kx s9 s10 wr => ∃ lo hi : Nat, s9 = .int .i64 lo ∧ s10 = .int .i64 hi ∧ lo ≤ hi ∧ hi ≤ n ∧ hi - lo ≤ kx ∧ Below w.heap.size w wr ∧ Hid ((∀ j x, j < lo → l[j]? = some x → x.1 < t) ∧ (∀ j x, hi ≤ j → l[j]? = some x → t ≤ x.1)))
  case atStart => exact ⟨0, n, rfl, rfl, Nat.zero_le _, Nat.le_refl _, by omega, Below.refl _ _, ⟨fun j x hj => absurd hj (by omega), fun j x hj hx => absurd (List.getElem?_eq_some_iff.1 hx).1 (by rw [HH.out.1]; omega)⟩⟩
  case round =>
    obtain ⟨lo, hi, rfl, rfl, hlh, hin, hg, hb, I⟩ := hrel
    by_cases hlt : lo < hi
    · obtain ⟨b, off, x, y, rfl, hx, e1, e2⟩ := (HH.out.below hb).at ((lo + hi) / 2) (by omega)
      have HX := Lib.hid hx
      have hcall := place1_any x y t wr
      clear hx
      by_cases hyx : x < t
      · have hcm : cmpI x t < 0 := (cmpI_lt x t).2 hyx
        generalize cmpI x t = r at *
        go_wp2_with fail
        refine hcall.mono ?_
        rintro e w' ⟨rfl, hq⟩
        go_wp2_with fail
        go_roundg (hi - ((lo + hi) / 2 + 1))
        case measure => omega
        case rel =>
          exact ⟨(lo + hi) / 2 + 1, hi, by rw [show ((lo : Int) + (hi : Int)) / 2 + 1 = (((lo + hi) / 2 + 1 : Nat) : Int) by omega], rfl, by omega, hin, Nat.le_refl _, hb.trans (hq.mono hb.size), ⟨fun j z hj hz => by have := HA.out.le (i := j) (j := (lo + hi) / 2) (by omega) hz HX.out; simp at this; omega, I.out.2⟩⟩
      · have hcm : ¬ cmpI x t < 0 := fun h => hyx ((cmpI_lt x t).1 h)
        generalize cmpI x t = r at *
        go_wp2_with fail
        refine hcall.mono ?_
        rintro e w' ⟨rfl, hq⟩
        go_wp2_with fail
        go_roundg ((lo + hi) / 2 - lo)
        case measure => omega
        case rel =>
          exact ⟨lo, (lo + hi) / 2, rfl, by rw [show ((lo : Int) + (hi : Int)) / 2 = (((lo + hi) / 2 : Nat) : Int) by omega], by omega, by omega, Nat.le_refl _, hb.trans (hq.mono hb.size), ⟨I.out.1, fun j z hj hz => by have := HA.out.le (i := (lo + hi) / 2) (j := j) hj HX.out hz; simp at this; omega⟩⟩
    · obtain rfl : hi = lo := by omega
      have hM := isAt_some_pl HA.out (i := hi) (by rw [HH.out.1]; exact hin) I.out.1 (fun x hx => I.out.2 hi x (Nat.le_refl _) hx)
      have HM := Lib.hid hM.1
      have HP := Lib.hid hM.2
      clear hM
      by_cases hn : hi < n
      · obtain ⟨b, off, x, y, rfl, hx, e1, e2⟩ := (HH.out.below hb).at hi hn
        have HX := Lib.hid hx
        have hcall := place1_any x y t wr
        clear hx
        by_cases hyx : x = t
        · have hs : (isAt l t).isSome = true := HM.out.2 ⟨_, HX.out, hyx⟩
          have hcm : cmpI x t = 0 := (cmpI_eq x t).2 hyx
          subst hyx
          have HS := Lib.hid hs
          clear hs
          rw [hcm] at hcall
          clear hcm
          go_wp2_with fail
          refine hcall.mono ?_
          rintro e w' ⟨rfl, hq⟩
          go_wp2_with fail
          go_ret2
          exact ⟨by rw [HP.out, HS.out]; rfl, hb.trans (hq.mono hb.size)⟩
        · have hs : (isAt l t).isSome = false := by
            rw [← Bool.not_eq_true, HM.out]
            rintro ⟨z, hz, ht⟩
            rw [HX.out] at hz
            injection hz with hz
            subst hz
            exact hyx ht
          have hcm : ¬ cmpI x t = 0 := fun h => hyx ((cmpI_eq x t).1 h)
          have HS := Lib.hid hs
          clear hs
          generalize cmpI x t = r at *
          have hcq : (r == 0) = false := by simpa using hcm
          go_wp2_with fail
          refine hcall.mono ?_
          rintro e w' ⟨rfl, hq⟩
          go_wp2_with fail
          go_ret2
          exact ⟨by rw [HP.out, HS.out]; rfl, hb.trans (hq.mono hb.size)⟩
      · have hs : (isAt l t).isSome = false := by
          rw [← Bool.not_eq_true, HM.out]
          rintro ⟨z, hz, ht⟩
          have := (List.getElem?_eq_some_iff.1 hz).1
          rw [HH.out.1] at this
          omega
        have HS := Lib.hid hs
        clear hs
        go_wp2
        go_ret2
        exact ⟨by rw [HP.out, HS.out]; rfl, hb⟩
end Go.Proofs.Ytcbfnhghhbgdkaa.Search
/- The program's IsValidRecord answers whether a record is valid. -/
namespace Go.Proofs.Ytcbfnhghhbgdkaa.Avc
open Go.RowKit Pairs Find2 GoodM RelM Cmp Search

def LastOf (l : List (Int × Int)) (k : Nat) (z : Int) : Prop := (k = 0 → z = 0) ∧ ∀ p, 0 < k → l[k - 1]? = some p → p.1 = z
theorem stepC {l : List (Int × Int)} {k : Nat} {z x y : Int} (hp : Past l k) (hl : LastOf l k z) (hx : l[k]? = some (x, y)) : okC l k = decide (z < x ∧ x ≤ 999 ∧ 1 ≤ y ∧ y ≤ 4) := by
  unfold okC
  rw [hx]
  cases k with
  | zero =>
    have := hl.1 rfl
    subst this
    rw [Bool.eq_iff_iff]
    simp
    omega
  | succ j =>
    have hj : j < l.length := by have := (List.getElem?_eq_some_iff.1 hx).1; omega
    have hok := hp j (by omega)
    unfold okC at hok
    rw [List.getElem?_eq_getElem hj] at hok
    have hz := hl.2 l[j] (by omega) (by rw [Nat.add_sub_cancel]; exact List.getElem?_eq_getElem hj)
    rw [Nat.add_sub_cancel, List.getElem?_eq_getElem hj]
    rw [Bool.eq_iff_iff]
    simp at hok ⊢
    omega
def vc (l : List (Int × Int)) : Bool := decide (l.length ≤ 10) && (List.range l.length).all (okC l)
theorem vc_big {l : List (Int × Int)} (h : ¬ l.length ≤ 10) : vc l = false := by unfold vc; rw [decide_eq_false h]; rfl
theorem vc_bad {l : List (Int × Int)} {k : Nat} (hk : k < l.length) (h : okC l k = false) : vc l = false := by
  unfold vc
  have e : (List.range l.length).all (okC l) = false := by
    rw [List.all_eq_false]
    exact ⟨k, List.mem_range.2 hk, by rw [h]; simp⟩
  rw [e, Bool.and_false]
theorem vc_true {l : List (Int × Int)} (h : l.length ≤ 10) (hp : Past l l.length) : vc l = true := by
  unfold vc
  rw [decide_eq_true h, List.all_eq_true.2 (fun j hj => hp j (List.mem_range.1 hj))]
  rfl
theorem vc_asc {l : List (Int × Int)} (h : vc l = true) : Asc l ∧ l.length ≤ 10 := by
  unfold vc at h
  simp only [Bool.and_eq_true, decide_eq_true_eq, List.all_eq_true, List.mem_range] at h
  exact ⟨asc_of_ok h.2, h.1⟩
set_option maxRecDepth 100000 in
set_option maxHeartbeats 4000000 in
theorem areValidContexts_any (a : Option Addr) (n c : Nat) (l : List (Int × Int)) (w : World) (h : Holds w a n l) :
    Calls Try.prog 28 #[.slice a n c] w fun e w' => e = .returned (.bool (vc l)) ∧ Below w.heap.size w w' := by
  have HH := Lib.hid h
  clear h
  go_enter Try.func28, Try.ntmps28
  by_cases hl : (10 : Int) < (n : Int)
  · have HG := Lib.hid (vc_big (l := l) (by rw [HH.out.1]; omega))
    go_wp2_with fail
    go_ret
    exact ⟨by rw [HG.out]; rfl, Below.refl _ _⟩
  · go_wp2_with fail
    go_loopw [3, 11] (fun s3 s11 wr => ∃ k : Nat, k ≤ n ∧ s11 = .int .i64 k ∧ ∃ z : Int, s3 = .int .i64 z ∧ Below w.heap.size w wr ∧ Hid (Past l k ∧ LastOf l k z)) (fun _ s11 _ => n - (intOf s11).toNat)
    case atStart => exact ⟨0, Nat.zero_le _, rfl, 0, rfl, Below.refl _ _, ⟨fun j hj => absurd hj (by omega), fun _ => rfl, fun p hp => absurd hp (by omega)⟩⟩
    case round =>
      obtain ⟨k, hk, rfl, z, rfl, hb, HM⟩ := hrel
      by_cases hlt : k < n
      · obtain ⟨b, off, x, y, rfl, hx, e1, e2⟩ := (HH.out.below hb).at k hlt
        have HX := Lib.hid hx
        have hkl : k < l.length := by rw [HH.out.1]; exact hlt
        have hi : (k : Int) < (n : Int) := by omega
        have hb7 := below_alloc wr (.cells #[.int .i64 x, .int .i64 y] 53)
        have u1 := box_first wr (.int .i64 x) (.int .i64 y) 53
        have u2' := box_second wr (.int .i64 x) (.int .i64 y) 53
        have hbb := hb.trans (hb7.mono hb.size)
        have HS := Lib.hid (stepC HM.out.1 HM.out.2 hx)
        clear hx
        clear hb7
        by_cases h1 : x ≤ z
        · have HG := Lib.hid (vc_bad hkl (HS.out.trans (decide_eq_false (by omega))))
          go_wp2_with fail
          go_ret
          exact ⟨by rw [HG.out]; rfl, hbb⟩
        · by_cases h2 : 999 < x
          · have HG := Lib.hid (vc_bad hkl (HS.out.trans (decide_eq_false (by omega))))
            go_wp2_with fail
            go_ret
            exact ⟨by rw [HG.out]; rfl, hbb⟩
          · by_cases h3 : 1 ≤ y ∧ y ≤ 4
            · have HG := Lib.hid (HM.out.1.next (HS.out.trans (decide_eq_true ⟨by omega, by omega, h3.1, h3.2⟩)))
              go_wp2_with fail
              refine (isKind_true y h3.1 h3.2 _).mono ?_
              rintro e w' ⟨rfl, rfl⟩
              go_wp2_with fail
              exact ⟨⟨k + 1, by omega, by go_num, x, rfl, hbb, HG.out, fun h => absurd h (by omega), fun p _ hp => by rw [Nat.add_sub_cancel, HX.out] at hp; injection hp with hp; rw [← hp]⟩, by simp [intOf]; omega⟩
            · have HG := Lib.hid (vc_bad hkl (HS.out.trans (decide_eq_false (fun h => h3 ⟨h.2.2.1, h.2.2.2⟩))))
              go_wp2_with fail
              refine (isKind_false y h3 _).mono ?_
              rintro e w' ⟨rfl, rfl⟩
              go_wp2_with fail
              go_ret
              exact ⟨by rw [HG.out]; rfl, hbb⟩
      · obtain rfl : k = n := by omega
        have HG := Lib.hid (vc_true (l := l) (by rw [HH.out.1]; omega) (by rw [HH.out.1]; exact HM.out.1))
        go_wp2_with fail
        go_ret
        exact ⟨by rw [HG.out]; rfl, hb⟩
end Go.Proofs.Ytcbfnhghhbgdkaa.Avc
