/- ShortestInterval: its answer. -/
import Derived.Test.YtfnbjfmegikciaaPoI
import Derived.Test.YtfnbjfmegikciaaFvI
namespace Go.Proofs.Ytfnbjfmegikciaa.SiM
open DvM Yr In AtM PoI FvI
def siP (num den f : Int) (M : List Int) : Int × Int × Bool :=
  if okD f M && isF num den then ((fst2 (fun q => decide (least num den M ≤ sw f M (yrs q.1 q.2))) (ivs f (f + M.length - 1))).1.1, (fst2 (fun q => decide (least num den M ≤ sw f M (yrs q.1 q.2))) (ivs f (f + M.length - 1))).1.2, (fst2 (fun q => decide (least num den M ≤ sw f M (yrs q.1 q.2))) (ivs f (f + M.length - 1))).2) else (0, 0, false)
theorem siP_no {num den f : Int} {M : List Int} (h : okD f M = true → isF num den = true → False) : siP num den f M = (0, 0, false) := by
  unfold siP
  rw [if_neg]
  intro e
  rw [Bool.and_eq_true] at e
  exact h e.1 e.2
theorem siP_yes {num den f : Int} {M : List Int} (h1 : okD f M = true) (h2 : isF num den = true) : siP num den f M = ((fst2 (fun q => decide (least num den M ≤ sw f M (yrs q.1 q.2))) (ivs f (f + M.length - 1))).1.1, (fst2 (fun q => decide (least num den M ≤ sw f M (yrs q.1 q.2))) (ivs f (f + M.length - 1))).1.2, (fst2 (fun q => decide (least num den M ≤ sw f M (yrs q.1 q.2))) (ivs f (f + M.length - 1))).2) := by
  unfold siP
  rw [h1, h2]
  rfl
end Go.Proofs.Ytfnbjfmegikciaa.SiM
