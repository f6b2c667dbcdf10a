/- The closure of the program's CombineDistributions; commonYears. -/
import Derived.Test.YtfnbjfmegikciaaCoM
import Derived.Test.YtfnbjfmegikciaaWwI
namespace Go.Proofs.Ytfnbjfmegikciaa.CoC
open Go Go.RowKit Go.Shelf Pairs Rec Keep GivesI DvM DvG DvI Di ShI RdM Yr AtM WwI CoM
set_option linter.unusedVariables false
theorem common_any (x1 t1 x2 t2 : Int) (w : World) :
    Calls Try.prog 58 #[.agg #[.int .i64 x1, .int .i64 t1], .agg #[.int .i64 x2, .int .i64 t2]] w fun e w' => e = .returned (.agg #[.int .i64 (max x1 x2), .int .i64 (min t1 t2)]) ∧ Below w.heap.size w w' := by
  have hb := below_alloc2 w (.cells #[.int .i64 x1, .int .i64 t1] 53) (.cells #[.int .i64 x2, .int .i64 t2] 53)
  obtain ⟨hs, a1, a2, b1, b2, -, -, -⟩ := two w (.int .i64 x1) (.int .i64 t1) (.int .i64 x2) (.int .i64 t2) 53 53
  go_enter Try.func58, Try.ntmps58
  go_wp2_with fail
  all_goals (try simp only [Exit.inBlock, Exit.then])
  all_goals (refine bodyPost_ret (v := .agg #[.int .i64 (max x1 x2), .int .i64 (min t1 t2)]) ?_ rfl ⟨rfl, by first | exact below_alloc3 _ _ _ _ | exact hb⟩)
  all_goals first
    | (rw [show max x1 x2 = x1 by omega, show min t1 t2 = t1 by omega]; simp [results, Try.results58, go_sem])
    | (rw [show max x1 x2 = x1 by omega, show min t1 t2 = t2 by omega]; simp [results, Try.results58, go_sem])
    | (rw [show max x1 x2 = x2 by omega, show min t1 t2 = t1 by omega]; simp [results, Try.results58, go_sem])
    | (rw [show max x1 x2 = x2 by omega, show min t1 t2 = t2 by omega]; simp [results, Try.results58, go_sem])
set_option maxRecDepth 100000 in
set_option maxHeartbeats 4000000 in
theorem clo_any (fa : Int) (pa : Option Addr) (na ca : Nat) (Ma : List Int) (fb : Int) (pb : Option Addr) (nb cb : Nat) (Mb : List Int) (y : Int) (A B : Nat) (w : World) (hna : na ≤ 1048576) (hnb : nb ≤ 1048576) (hfa : -1000000000 ≤ fa ∧ fa ≤ 1000000000) (hfb : -1000000000 ≤ fb ∧ fb ≤ 1000000000) (hy : -1000000000 ≤ y ∧ y ≤ 1000000000)
    (hMa : ∀ x ∈ Ma, 0 ≤ x ∧ x ≤ 1000000) (hMb : ∀ x ∈ Mb, 0 ≤ x ∧ x ≤ 1000000) (ha : HoldsI w pa na Ma) (hb : HoldsI w pb nb Mb)
    (a0 : w.cell? ⟨A, 0, none⟩ = some (.int .i64 fa)) (a1 : w.cell? ⟨A, 1, none⟩ = some (.slice pa na ca)) (b0 : w.cell? ⟨B, 0, none⟩ = some (.int .i64 fb)) (b1 : w.cell? ⟨B, 1, none⟩ = some (.slice pb nb cb)) :
    Calls Try.prog 59 #[.int .i64 y, .pointer (some ⟨A, 0, none⟩), .pointer (some ⟨B, 0, none⟩)] w fun e w' => e = .returned (.int .i64 (pr fa Ma fb Mb y)) ∧ Below w.heap.size w w' := by
  have h1 := wat_bd (f := fa) (m := 1000000) (by omega) hMa y
  have h2 := wat_bd (f := fb) (m := 1000000) (by omega) hMb y
  have cA : ∀ d os, Calls Try.prog 53 #[.agg #[.int .i64 fa, .slice pa na ca], .int .i64 y] (Sort.grow (redrawn w d) os) fun e w'' => e = .returned (.int .i64 (wat fa Ma y)) ∧ ∃ p : Regrown, w'' = Sort.grow (redrawn w p.d) p.os := fun d os => Calls.regrown_of (weightAt_any fa pa na ca Ma y _ hna hfa hy (ha.below (below_regrown w d os)))
  have cB : ∀ d os, Calls Try.prog 53 #[.agg #[.int .i64 fb, .slice pb nb cb], .int .i64 y] (Sort.grow (redrawn w d) os) fun e w'' => e = .returned (.int .i64 (wat fb Mb y)) ∧ ∃ p : Regrown, w'' = Sort.grow (redrawn w p.d) p.os := fun d os => Calls.regrown_of (weightAt_any fb pb nb cb Mb y _ hnb hfb hy (hb.below (below_regrown w d os)))
  have HE := Lib.hid (show pr fa Ma fb Mb y = wat fa Ma y * wat fb Mb y from rfl)
  obtain ⟨u, hu⟩ : ∃ u, u = wat fa Ma y := ⟨_, rfl⟩
  obtain ⟨v, hv⟩ : ∃ v, v = wat fb Mb y := ⟨_, rfl⟩
  rw [← hu] at cA h1 HE
  rw [← hv] at cB h2 HE
  have hm1 : 0 ≤ u * v := Int.mul_nonneg h1.1 h2.1
  have hm2 : u * v ≤ 1000000 * 1000000 := Int.mul_le_mul h1.2 h2.2 h2.1 (by omega)
  have hw1 : IntKind.i64.wrap (u * v) = u * v := by rw [IntKind.wrap_i64]; omega
  clear hu hv hm1 hm2 hMa hMb ha hb
  have k1 := cell_regrown a0
  have k2 := cell_regrown a1
  have k3 := cell_regrown b0
  have k4 := cell_regrown b1
  go_enter Try.func59, Try.ntmps59
  go_wp2_with fail
  refine wp_region_quiet_below (by kernel_rfl) (by kernel_rfl) ?_
  repeat (go_big_quiet_step ((go_at_call 53; (first | with_reducible exact cA _ _ | with_reducible exact cB _ _))))
  refine wpQuiet_nil ?_
  intro _ hw'
  obtain ⟨⟨dq, osq⟩, hw''⟩ := hw'
  subst hw''
  have HBQ := Lib.hid (below_regrown w dq osq)
  clear k1 k2 k3 k4 a0 a1 b0 b1 cA cB
  generalize Sort.grow (redrawn w dq) osq = W5 at *
  go_wp2_with fail
  go_ret
  exact ⟨by rw [HE.out]; rfl, HBQ.out⟩
end Go.Proofs.Ytfnbjfmegikciaa.CoC
