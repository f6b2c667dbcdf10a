/- The program's comparisons: cmp.Compare, cmp.Or, compareRelations, and small tests. -/
import Derived.Test.YtbdplgcdnpcnfaaExactOrderPhasesSaidPartag
import Derived.Test.YtbdplgcdnpcnfaaExactOrderPhasesSaidPartac
import Derived.Lib.QuietBelow
import Derived.StillTailTactics
import Derived.Deep.LoopGhost
import Derived.Shelf.Abstract
namespace Go.Proofs.Ytbdplgcdnpcnfaa.Cmp
open Go.RowKit Pairs Find2 GoodM RelM RecEq

def cmpI (x y : Int) : Int := if x < y then -1 else if y < x then 1 else 0
theorem cmpI_lt (x y : Int) : cmpI x y < 0 ↔ x < y := by
  unfold cmpI
  by_cases h1 : x < y
  · rw [if_pos h1]; simp [h1]
  · rw [if_neg h1]
    by_cases h2 : y < x
    · rw [if_pos h2]; simp [h1]
    · rw [if_neg h2]; simp [h1]
theorem cmpI_eq (x y : Int) : cmpI x y = 0 ↔ x = y := by
  unfold cmpI
  by_cases h1 : x < y
  · rw [if_pos h1]; simp; omega
  · rw [if_neg h1]
    by_cases h2 : y < x
    · rw [if_pos h2]; simp; omega
    · rw [if_neg h2]; simp; omega
theorem compare_any (x y : Int) (w : World) : Calls Try.prog 101 #[.int .i64 x, .int .i64 y] w fun e w' => e = .returned (.int .i64 (cmpI x y)) ∧ w' = w := by
  go_enter Try.func101, Try.ntmps101
  unfold cmpI
  by_cases h1 : x < y
  · rw [if_pos h1]
    go_wp2
    go_ret
    exact ⟨rfl, rfl⟩
  · rw [if_neg h1]
    by_cases h2 : y < x
    · rw [if_pos h2]
      go_wp2
      go_ret
      exact ⟨rfl, rfl⟩
    · rw [if_neg h2]
      go_wp2
      go_ret
      exact ⟨rfl, rfl⟩
theorem isKind_true (k : Int) (h1 : 1 ≤ k) (h2 : k ≤ 4) (w : World) : Calls Try.prog 104 #[.int .i64 k] w fun e w' => e = .returned (.bool true) ∧ w' = w := by
  go_enter Try.func104, Try.ntmps104
  go_wp2
  go_ret
  exact ⟨rfl, rfl⟩
theorem isKind_false (k : Int) (h : ¬ (1 ≤ k ∧ k ≤ 4)) (w : World) : Calls Try.prog 104 #[.int .i64 k] w fun e w' => e = .returned (.bool false) ∧ w' = w := by
  go_enter Try.func104, Try.ntmps104
  by_cases h1 : 1 ≤ k
  · have h2 : ¬ k ≤ 4 := fun h2 => h ⟨h1, h2⟩
    clear h
    go_wp2
    go_ret
    exact ⟨rfl, rfl⟩
  · clear h
    go_wp2
    go_ret
    exact ⟨rfl, rfl⟩
/-- The closure of placeOfContext: a context's number against a number. -/
theorem place1_any (x y t : Int) (w : World) : Calls Try.prog 100 #[.agg #[.int .i64 x, .int .i64 y], .int .i64 t] w fun e w' => e = .returned (.int .i64 (cmpI x t)) ∧ Below w.heap.size w w' := by
  have hb := below_alloc w (.cells #[.int .i64 x, .int .i64 y] 66)
  have hc := fun W => compare_any x t W
  generalize cmpI x t = r at *
  go_enter Try.func100, Try.ntmps100
  go_wp2_with (go_at_call 101; refine (hc _).mono ?_; rintro e w' ⟨rfl, rfl⟩)
  go_ret
  exact ⟨rfl, hb⟩
/-- The first that is not 0. -/
def orI (x y : Int) : Int := if x = 0 then y else x
theorem or_any (x y : Int) (b : Nat) (w : World) (h0 : w.cell? ⟨b, 0, none⟩ = some (.int .i64 x)) (h1 : w.cell? ⟨b, 1, none⟩ = some (.int .i64 y)) :
    Calls Try.prog 107 #[.slice (some ⟨b, 0, none⟩) 2 2] w fun e w' => e = .returned (.int .i64 (orI x y)) ∧ w' = w := by
  go_enter Try.func107, Try.ntmps107
  go_wp2
  go_loop [8] (fun i => ∃ k : Nat, k ≤ 2 ∧ i = .int .i64 k ∧ Hid ((0 < k → x = 0) ∧ (1 < k → y = 0))) (fun i => 2 - (intOf i).toNat)
  case atStart => exact ⟨0, by omega, rfl, ⟨fun h => absurd h (by omega), fun h => absurd h (by omega)⟩⟩
  case round =>
    obtain ⟨k, hk, rfl, HK⟩ := hrel
    match k, hk, HK with
    | 0, _, HK =>
      by_cases hx : x = 0
      · subst hx
        go_wp2
        go_round
        case rel => exact ⟨1, by omega, rfl, ⟨fun _ => by trivial, fun h => absurd h (by omega)⟩⟩
        case measure => simp [intOf]
      · go_wp2
        go_ret
        exact ⟨by unfold orI; rw [if_neg hx]; rfl, rfl⟩
    | 1, _, HK =>
      have hx := HK.out.1 (by omega)
      subst hx
      by_cases hy : y = 0
      · subst hy
        go_wp2
        go_round
        case rel => exact ⟨2, by omega, rfl, ⟨fun _ => by trivial, fun _ => by trivial⟩⟩
        case measure => simp [intOf]
      · go_wp2
        go_ret
        exact ⟨by unfold orI; rw [if_pos rfl]; rfl, rfl⟩
    | 2, _, HK =>
      have hx := HK.out.1 (by omega)
      have hy := HK.out.2 (by omega)
      subst hx hy
      go_wp2
      go_ret
      exact ⟨by unfold orI; rw [if_pos rfl]; rfl, rfl⟩
def cmpR (p q : Int × Int) : Int := orI (cmpI p.1 q.1) (cmpI p.2 q.2)
theorem cmpR_lt (p q : Int × Int) : cmpR p q < 0 ↔ before p q = true := by
  unfold cmpR orI
  rw [before_iff]
  by_cases h : cmpI p.1 q.1 = 0
  · rw [if_pos h, cmpI_lt]
    rw [cmpI_eq] at h
    omega
  · rw [if_neg h, cmpI_lt]
    rw [cmpI_eq] at h
    omega
theorem cmpR_eq (p q : Int × Int) : cmpR p q = 0 ↔ p = q := by
  unfold cmpR orI
  by_cases h : cmpI p.1 q.1 = 0
  · rw [if_pos h, cmpI_eq]
    rw [cmpI_eq] at h
    constructor
    · intro h2; exact Prod.ext h h2
    · intro h2; rw [h2]
  · rw [if_neg h]
    constructor
    · intro h2; exact absurd h2 h
    · intro h2; rw [h2] at h; exact absurd ((cmpI_eq _ _).2 rfl) h
set_option maxRecDepth 100000 in
set_option maxHeartbeats 2000000 in
theorem compareRel_any (a b c d : Int) (w : World) : Calls Try.prog 105 #[.agg #[.int .i64 a, .int .i64 b], .agg #[.int .i64 c, .int .i64 d]] w fun e w' => e = .returned (.int .i64 (cmpR (a, b) (c, d))) ∧ Below w.heap.size w w' ∧ w.drawn ≤ w'.drawn := by
  obtain ⟨hs, x1, x2, y1, y2, hb0⟩ := boxes2 w (.int .i64 a) (.int .i64 b) (.int .i64 c) (.int .i64 d) 89 89
  have hd0 : ((w.alloc (.cells #[.int .i64 a, .int .i64 b] 89)).alloc (.cells #[.int .i64 c, .int .i64 d] 89)).drawn = w.drawn := rfl
  have HD := Lib.hid hd0
  have HS := Lib.hid hs
  clear hd0 hs
  have hc1 := fun W => compare_any a c W
  have hc2 := fun W => compare_any b d W
  have e0 : cmpR (a, b) (c, d) = orI (cmpI a c) (cmpI b d) := rfl
  rw [e0]
  clear e0
  generalize cmpI a c = r1 at *
  generalize cmpI b d = r2 at *
  go_enter Try.func105, Try.ntmps105
  go_wp2_with fail
  generalize (w.alloc (.cells #[.int .i64 a, .int .i64 b] 89)).alloc (.cells #[.int .i64 c, .int .i64 d] 89) = W at *
  have HC1 := Lib.hid (hc1 { W with drawn := W.drawn + 1 })
  have HC2 := Lib.hid (hc2 { W with drawn := W.drawn + 1 })
  clear hc1 hc2
  refine wp_region_still_tail 10 (by kernel_rfl) (by kernel_rfl) ?_
  simp only [List.take_succ_cons, List.take_zero, List.drop_succ_cons, List.drop_zero]
  repeat still_step
  still_call HC1.out
  repeat still_step
  still_call HC2.out
  repeat still_step
  refine wpStill_nil ?_
  go_wp2_with fail
  refine (or_any r1 r2 W.heap.size (W.alloc (.cells #[.int .i64 r1, .int .i64 r2] 3)).drew (box_first W (.int .i64 r1) (.int .i64 r2) 3) (box_second W (.int .i64 r1) (.int .i64 r2) 3)).mono ?_
  rintro e w' ⟨rfl, rfl⟩
  go_wp2_with fail
  go_ret
  refine ⟨rfl, (hb0.trans ((below_alloc W (.cells #[.int .i64 r1, .int .i64 r2] 3)).mono hb0.size)).drew, ?_⟩
  show w.drawn ≤ W.drawn + 1
  rw [HD.out]
  omega
end Go.Proofs.Ytbdplgcdnpcnfaa.Cmp
/- The program's search among ascending contexts, and what leans on it. -/
namespace Go.Proofs.Ytbdplgcdnpcnfaa.Search
open Go.RowKit Pairs Find2 GoodM RelM Cmp

theorem isAt_some_pl {l : List (Int × Int)} (h : Asc l) {t : Int} {i : Nat} (hi : i ≤ l.length) (h1 : ∀ j x, j < i → l[j]? = some x → x.1 < t) (h2 : ∀ x, l[i]? = some x → t ≤ x.1) : ((isAt l t).isSome = true ↔ ∃ x, l[i]? = some x ∧ x.1 = t) ∧ pl l t = i := by
  refine ⟨?_, pl_eq hi h1 h2⟩
  rw [isAt_pl h h1 h2]
  cases hx : l[i]? with
  | none => simp
  | some x =>
    by_cases e : x.1 = t
    · simp [e]
    · simp [e]
theorem isAt_found {l : List (Int × Int)} (h : Asc l) {t : Int} {k : Nat} (hk : isAt l t = some k) : pl l t = k := by
  unfold isAt at hk
  rw [List.findIdx?_eq_some_iff_getElem] at hk
  obtain ⟨hl, h1, _⟩ := hk
  have e : l[k].1 = t := by simpa using h1
  refine pl_eq (by omega) (fun j x hj hx => ?_) (fun x hx => ?_)
  · obtain ⟨d, rfl⟩ : ∃ d, k = j + d + 1 := ⟨k - j - 1, by omega⟩
    have := h.lt d j x _ hx (List.getElem?_eq_getElem hl)
    omega
  · rw [List.getElem?_eq_getElem hl] at hx
    injection hx with hx
    rw [← hx, e]
    exact Int.le_refl _
set_option maxRecDepth 100000 in
set_option maxHeartbeats 4000000 in
theorem search_any (a : Option Addr) (n c : Nat) (l : List (Int × Int)) (t : Int) (w : World) (hz : n ≤ 1048576) (h : Holds w a n l) (hA : Asc l) :
    Calls Try.prog 99 #[.slice a n c, .int .i64 t, .func (.func 100) #[] #[]] w fun e w' => e = .returned (.tuple #[.int .i64 (pl l t : Nat), .bool (isAt l t).isSome]) ∧ Below w.heap.size w w' := by
  have HH := Lib.hid h
  have HA := Lib.hid hA
  clear h hA
  go_enter Try.func99, Try.ntmps99
  go_wp2
  go_loopg [9, 10] n (fun kx s9 s10 wr => ∃ lo hi : Nat, s9 = .int .i64 lo ∧ s10 = .int .i64 hi ∧ lo ≤ hi ∧ hi ≤ n ∧ hi - lo ≤ kx ∧ Below w.heap.size w wr ∧ Hid ((∀ j x, j < lo → l[j]? = some x → x.1 < t) ∧ (∀ j x, hi ≤ j → l[j]? = some x → t ≤ x.1)))
  case atStart => exact ⟨0, n, rfl, rfl, Nat.zero_le _, Nat.le_refl _, by omega, Below.refl _ _, ⟨fun j x hj => absurd hj (by omega), fun j x hj hx => absurd (List.getElem?_eq_some_iff.1 hx).1 (by rw [HH.out.1]; omega)⟩⟩
  case round =>
    obtain ⟨lo, hi, rfl, rfl, hlh, hin, hg, hb, I⟩ := hrel
    by_cases hlt : lo < hi
    · obtain ⟨b, off, x, y, rfl, hx, e1, e2⟩ := (HH.out.below hb).at ((lo + hi) / 2) (by omega)
      have HX := Lib.hid hx
      have hcall := place1_any x y t wr
      clear hx
      by_cases hyx : x < t
      · have hcm : cmpI x t < 0 := (cmpI_lt x t).2 hyx
        generalize cmpI x t = r at *
        go_wp2_with fail
        refine hcall.mono ?_
        rintro e w' ⟨rfl, hq⟩
        go_wp2_with fail
        go_roundg (hi - ((lo + hi) / 2 + 1))
        case measure => omega
        case rel =>
          exact ⟨(lo + hi) / 2 + 1, hi, by rw [show ((lo : Int) + (hi : Int)) / 2 + 1 = (((lo + hi) / 2 + 1 : Nat) : Int) by omega], rfl, by omega, hin, Nat.le_refl _, hb.trans (hq.mono hb.size), ⟨fun j z hj hz => by have := HA.out.le (i := j) (j := (lo + hi) / 2) (by omega) hz HX.out; simp at this; omega, I.out.2⟩⟩
      · have hcm : ¬ cmpI x t < 0 := fun h => hyx ((cmpI_lt x t).1 h)
        generalize cmpI x t = r at *
        go_wp2_with fail
        refine hcall.mono ?_
        rintro e w' ⟨rfl, hq⟩
        go_wp2_with fail
        go_roundg ((lo + hi) / 2 - lo)
        case measure => omega
        case rel =>
          exact ⟨lo, (lo + hi) / 2, rfl, by rw [show ((lo : Int) + (hi : Int)) / 2 = (((lo + hi) / 2 : Nat) : Int) by omega], by omega, by omega, Nat.le_refl _, hb.trans (hq.mono hb.size), ⟨I.out.1, fun j z hj hz => by have := HA.out.le (i := (lo + hi) / 2) (j := j) hj HX.out hz; simp at this; omega⟩⟩
    · obtain rfl : hi = lo := by omega
      have hM := isAt_some_pl HA.out (i := hi) (by rw [HH.out.1]; exact hin) I.out.1 (fun x hx => I.out.2 hi x (Nat.le_refl _) hx)
      have HM := Lib.hid hM.1
      have HP := Lib.hid hM.2
      clear hM
      by_cases hn : hi < n
      · obtain ⟨b, off, x, y, rfl, hx, e1, e2⟩ := (HH.out.below hb).at hi hn
        have HX := Lib.hid hx
        have hcall := place1_any x y t wr
        clear hx
        by_cases hyx : x = t
        · have hs : (isAt l t).isSome = true := HM.out.2 ⟨_, HX.out, hyx⟩
          have hcm : cmpI x t = 0 := (cmpI_eq x t).2 hyx
          subst hyx
          have HS := Lib.hid hs
          clear hs
          rw [hcm] at hcall
          clear hcm
          go_wp2_with fail
          refine hcall.mono ?_
          rintro e w' ⟨rfl, hq⟩
          go_wp2_with fail
          go_ret2
          exact ⟨by rw [HP.out, HS.out]; rfl, hb.trans (hq.mono hb.size)⟩
        · have hs : (isAt l t).isSome = false := by
            rw [← Bool.not_eq_true, HM.out]
            rintro ⟨z, hz, ht⟩
            rw [HX.out] at hz
            injection hz with hz
            subst hz
            exact hyx ht
          have hcm : ¬ cmpI x t = 0 := fun h => hyx ((cmpI_eq x t).1 h)
          have HS := Lib.hid hs
          clear hs
          generalize cmpI x t = r at *
          have hcq : (r == 0) = false := by simpa using hcm
          go_wp2_with fail
          refine hcall.mono ?_
          rintro e w' ⟨rfl, hq⟩
          go_wp2_with fail
          go_ret2
          exact ⟨by rw [HP.out, HS.out]; rfl, hb.trans (hq.mono hb.size)⟩
      · have hs : (isAt l t).isSome = false := by
          rw [← Bool.not_eq_true, HM.out]
          rintro ⟨z, hz, ht⟩
          have := (List.getElem?_eq_some_iff.1 hz).1
          rw [HH.out.1] at this
          omega
        have HS := Lib.hid hs
        clear hs
        go_wp2
        go_ret2
        exact ⟨by rw [HP.out, HS.out]; rfl, hb⟩
end Go.Proofs.Ytbdplgcdnpcnfaa.Search
