/- What AddRelation answers. -/
import Derived.Test.YtknlackphdcflaaGives
import Derived.Test.YtknlackphdcflaaRelM
namespace Go.Proofs.Ytknlackphdcflaa.AddRM
open GoodM RelM Gives
def addR (x y : Int) : RR := fun l m => if good l m = true ∧ good l (link m (x, y)) = true then some (l, link m (x, y)) else none
theorem addR_none {x y : Int} {l m : List (Int × Int)} (h : ¬ (good l m = true ∧ good l (link m (x, y)) = true)) : addR x y l m = none := by unfold addR; rw [if_neg h]
theorem addR_some {x y : Int} {l m : List (Int × Int)} (h1 : good l m = true) (h2 : good l (link m (x, y)) = true) : addR x y l m = some (l, link m (x, y)) := by unfold addR; rw [if_pos ⟨h1, h2⟩]
end Go.Proofs.Ytknlackphdcflaa.AddRM
