/- The program's comparisons: cmp.Compare, cmp.Or, compareRelations, and small tests. -/
import Derived.Test.YtfbgekhkbbhggaaRelM
import Derived.Test.YtfbgekhkbbhggaaRecEq
import Derived.Lib.QuietBelow
import Derived.StillTailTactics
namespace Go.Proofs.Ytfbgekhkbbhggaa.Cmp
open Go.RowKit Pairs Find2 GoodM RelM RecEq

def cmpI (x y : Int) : Int := if x < y then -1 else if y < x then 1 else 0
theorem cmpI_lt (x y : Int) : cmpI x y < 0 ↔ x < y := by
  unfold cmpI
  by_cases h1 : x < y
  · rw [if_pos h1]; simp [h1]
  · rw [if_neg h1]
    by_cases h2 : y < x
    · rw [if_pos h2]; simp [h1]
    · rw [if_neg h2]; simp [h1]
theorem cmpI_eq (x y : Int) : cmpI x y = 0 ↔ x = y := by
  unfold cmpI
  by_cases h1 : x < y
  · rw [if_pos h1]; simp; omega
  · rw [if_neg h1]
    by_cases h2 : y < x
    · rw [if_pos h2]; simp; omega
    · rw [if_neg h2]; simp; omega
theorem compare_any (x y : Int) (w : World) : Calls Try.prog 134 #[.int .i64 x, .int .i64 y] w fun e w' => e = .returned (.int .i64 (cmpI x y)) ∧ w' = w := by
  go_enter Try.func134, Try.ntmps134
  unfold cmpI
  by_cases h1 : x < y
  · rw [if_pos h1]
    go_wp2
    go_ret
    exact ⟨rfl, rfl⟩
  · rw [if_neg h1]
    by_cases h2 : y < x
    · rw [if_pos h2]
      go_wp2
      go_ret
      exact ⟨rfl, rfl⟩
    · rw [if_neg h2]
      go_wp2
      go_ret
      exact ⟨rfl, rfl⟩
theorem isKind_true (k : Int) (h1 : 1 ≤ k) (h2 : k ≤ 4) (w : World) : Calls Try.prog 124 #[.int .i64 k] w fun e w' => e = .returned (.bool true) ∧ w' = w := by
  go_enter Try.func124, Try.ntmps124
  go_wp2
  go_ret
  exact ⟨rfl, rfl⟩
theorem isKind_false (k : Int) (h : ¬ (1 ≤ k ∧ k ≤ 4)) (w : World) : Calls Try.prog 124 #[.int .i64 k] w fun e w' => e = .returned (.bool false) ∧ w' = w := by
  go_enter Try.func124, Try.ntmps124
  by_cases h1 : 1 ≤ k
  · have h2 : ¬ k ≤ 4 := fun h2 => h ⟨h1, h2⟩
    clear h
    go_wp2
    go_ret
    exact ⟨rfl, rfl⟩
  · clear h
    go_wp2
    go_ret
    exact ⟨rfl, rfl⟩
/-- The closure of placeOfContext: a context's number against a number. -/
theorem place1_any (x y t : Int) (w : World) : Calls Try.prog 133 #[.agg #[.int .i64 x, .int .i64 y], .int .i64 t] w fun e w' => e = .returned (.int .i64 (cmpI x t)) ∧ Below w.heap.size w w' := by
  have hb := below_alloc w (.cells #[.int .i64 x, .int .i64 y] 123)
  have hc := fun W => compare_any x t W
  generalize cmpI x t = r at *
  go_enter Try.func133, Try.ntmps133
  go_wp2_with (go_at_call 134; refine (hc _).mono ?_; rintro e w' ⟨rfl, rfl⟩)
  go_ret
  exact ⟨rfl, hb⟩
/-- The first that is not 0. -/
def orI (x y : Int) : Int := if x = 0 then y else x
theorem or_any (x y : Int) (b : Nat) (w : World) (h0 : w.cell? ⟨b, 0, none⟩ = some (.int .i64 x)) (h1 : w.cell? ⟨b, 1, none⟩ = some (.int .i64 y)) :
    Calls Try.prog 135 #[.slice (some ⟨b, 0, none⟩) 2 2] w fun e w' => e = .returned (.int .i64 (orI x y)) ∧ w' = w := by
  go_enter Try.func135, Try.ntmps135
  go_wp2
  go_loop [8] (fun i => ∃ k : Nat, k ≤ 2 ∧ i = .int .i64 k ∧ Hid ((0 < k → x = 0) ∧ (1 < k → y = 0))) (fun i => 2 - (intOf i).toNat)
  case atStart => exact ⟨0, by omega, rfl, ⟨fun h => absurd h (by omega), fun h => absurd h (by omega)⟩⟩
  case round =>
    obtain ⟨k, hk, rfl, HK⟩ := hrel
    match k, hk, HK with
    | 0, _, HK =>
      by_cases hx : x = 0
      · subst hx
        go_wp2
        go_round
        case rel => exact ⟨1, by omega, rfl, ⟨fun _ => by trivial, fun h => absurd h (by omega)⟩⟩
        case measure => simp [intOf]
      · go_wp2
        go_ret
        exact ⟨by unfold orI; rw [if_neg hx]; rfl, rfl⟩
    | 1, _, HK =>
      have hx := HK.out.1 (by omega)
      subst hx
      by_cases hy : y = 0
      · subst hy
        go_wp2
        go_round
        case rel => exact ⟨2, by omega, rfl, ⟨fun _ => by trivial, fun _ => by trivial⟩⟩
        case measure => simp [intOf]
      · go_wp2
        go_ret
        exact ⟨by unfold orI; rw [if_pos rfl]; rfl, rfl⟩
    | 2, _, HK =>
      have hx := HK.out.1 (by omega)
      have hy := HK.out.2 (by omega)
      subst hx hy
      go_wp2
      go_ret
      exact ⟨by unfold orI; rw [if_pos rfl]; rfl, rfl⟩
def cmpR (p q : Int × Int) : Int := orI (cmpI p.1 q.1) (cmpI p.2 q.2)
theorem cmpR_lt (p q : Int × Int) : cmpR p q < 0 ↔ before p q = true := by
  unfold cmpR orI
  rw [before_iff]
  by_cases h : cmpI p.1 q.1 = 0
  · rw [if_pos h, cmpI_lt]
    rw [cmpI_eq] at h
    omega
  · rw [if_neg h, cmpI_lt]
    rw [cmpI_eq] at h
    omega
theorem cmpR_eq (p q : Int × Int) : cmpR p q = 0 ↔ p = q := by
  unfold cmpR orI
  by_cases h : cmpI p.1 q.1 = 0
  · rw [if_pos h, cmpI_eq]
    rw [cmpI_eq] at h
    constructor
    · intro h2; exact Prod.ext h h2
    · intro h2; rw [h2]
  · rw [if_neg h]
    constructor
    · intro h2; exact absurd h2 h
    · intro h2; rw [h2] at h; exact absurd ((cmpI_eq _ _).2 rfl) h
set_option maxRecDepth 100000 in
set_option maxHeartbeats 2000000 in
theorem compareRel_any (a b c d : Int) (w : World) : Calls Try.prog 126 #[.agg #[.int .i64 a, .int .i64 b], .agg #[.int .i64 c, .int .i64 d]] w fun e w' => e = .returned (.int .i64 (cmpR (a, b) (c, d))) ∧ Below w.heap.size w w' ∧ w.drawn ≤ w'.drawn := by
  obtain ⟨hs, x1, x2, y1, y2, hb0⟩ := boxes2 w (.int .i64 a) (.int .i64 b) (.int .i64 c) (.int .i64 d) 125 125
  have hd0 : ((w.alloc (.cells #[.int .i64 a, .int .i64 b] 125)).alloc (.cells #[.int .i64 c, .int .i64 d] 125)).drawn = w.drawn := rfl
  have HD := Lib.hid hd0
  have HS := Lib.hid hs
  clear hd0 hs
  have hc1 := fun W => compare_any a c W
  have hc2 := fun W => compare_any b d W
  have e0 : cmpR (a, b) (c, d) = orI (cmpI a c) (cmpI b d) := rfl
  rw [e0]
  clear e0
  generalize cmpI a c = r1 at *
  generalize cmpI b d = r2 at *
  go_enter Try.func126, Try.ntmps126
  go_wp2_with fail
  generalize (w.alloc (.cells #[.int .i64 a, .int .i64 b] 125)).alloc (.cells #[.int .i64 c, .int .i64 d] 125) = W at *
  have HC1 := Lib.hid (hc1 { W with drawn := W.drawn + 1 })
  have HC2 := Lib.hid (hc2 { W with drawn := W.drawn + 1 })
  clear hc1 hc2
  refine wp_region_still_tail 10 (by kernel_rfl) (by kernel_rfl) ?_
  simp only [List.take_succ_cons, List.take_zero, List.drop_succ_cons, List.drop_zero]
  repeat still_step
  still_call HC1.out
  repeat still_step
  still_call HC2.out
  repeat still_step
  refine wpStill_nil ?_
  go_wp2_with fail
  refine (or_any r1 r2 W.heap.size (W.alloc (.cells #[.int .i64 r1, .int .i64 r2] 3)).drew (box_first W (.int .i64 r1) (.int .i64 r2) 3) (box_second W (.int .i64 r1) (.int .i64 r2) 3)).mono ?_
  rintro e w' ⟨rfl, rfl⟩
  go_wp2_with fail
  go_ret
  refine ⟨rfl, (hb0.trans ((below_alloc W (.cells #[.int .i64 r1, .int .i64 r2] 3)).mono hb0.size)).drew, ?_⟩
  show w.drawn ≤ W.drawn + 1
  rw [HD.out]
  omega
end Go.Proofs.Ytfbgekhkbbhggaa.Cmp
