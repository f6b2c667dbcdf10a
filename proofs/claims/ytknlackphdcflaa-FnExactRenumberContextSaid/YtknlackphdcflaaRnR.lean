/- The program's renumberRelation: a relation whose numbers are replaced. -/
import Derived.Test.YtknlackphdcflaaRw
namespace Go.Proofs.Ytknlackphdcflaa.RnR
open Go.RowKit Pairs Rec RecEq Keep Row2 Copy Two SwapM
set_option maxHeartbeats 2000000 in
theorem renumber_any (o n a b : Int) (w : World) : Calls Try.prog 90 #[.agg #[.int .i64 a, .int .i64 b], .int .i64 o, .int .i64 n] w fun e w' => e = .returned (.agg #[.int .i64 (rn o n a), .int .i64 (rn o n b)]) ∧ Below w.heap.size w w' := by
  by_cases ha : a = o
  all_goals by_cases hb : b = o
  all_goals (first | (have qa := beq_false_of_ne ha; rw [rn_other ha]; clear ha) | (subst ha; rw [rn_same]) | fail)
  all_goals (first | (have qb := beq_false_of_ne hb; rw [rn_other hb]; clear hb) | (subst hb; rw [rn_same]) | (clear hb; try rw [rn_same]) | fail)
  all_goals go_enter Try.func90, Try.ntmps90
  all_goals go_wp2
  all_goals refine bodyPost_ret ?_ rfl ⟨rfl, ((Below.refl _ _).alloc (Nat.le_refl _) _).alloc (by simp) _⟩
  all_goals simp [results, Try.results90, go_sem]
end Go.Proofs.Ytknlackphdcflaa.RnR
