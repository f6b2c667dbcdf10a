/- What EquateContexts answers. -/
import Derived.Test.YtknlackphdcflaaGives
import Derived.Test.YtknlackphdcflaaSwapM
namespace Go.Proofs.Ytknlackphdcflaa.EquM
open Find2 GoodM RelM Gives SwapM
def kindAt (l : List (Int × Int)) (i : Nat) : Option Int := (l[i]?).map (·.2)
def eqM (keep drop : Int) : RR := fun l m =>
  if good l m = true then match isAt l keep, isAt l drop with
    | some i, some j => if i ≠ j ∧ kindAt l i = kindAt l j then some (l.take j ++ l.drop (j + 1), swapM drop keep m) else none
    | _, _ => none
  else none
variable {keep drop : Int} {l m : List (Int × Int)} {i j : Nat}
theorem eqM_bad (h : good l m = false) : eqM keep drop l m = none := by unfold eqM; rw [if_neg (by rw [h]; simp)]
theorem eqM_noK (h : isAt l keep = none) : eqM keep drop l m = none := by
  unfold eqM
  rw [h]
  split <;> rfl
theorem eqM_noD (h : isAt l drop = none) : eqM keep drop l m = none := by
  unfold eqM
  rw [h]
  split
  · cases isAt l keep <;> rfl
  · rfl
theorem eqM_no (hi : isAt l keep = some i) (hj : isAt l drop = some j) (h : ¬ (i ≠ j ∧ kindAt l i = kindAt l j)) : eqM keep drop l m = none := by
  unfold eqM
  rw [hi, hj]
  split
  · exact if_neg h
  · rfl
theorem eqM_some (hg : good l m = true) (hi : isAt l keep = some i) (hj : isAt l drop = some j) (h1 : i ≠ j) (h2 : kindAt l i = kindAt l j) : eqM keep drop l m = some (l.take j ++ l.drop (j + 1), swapM drop keep m) := by
  unfold eqM
  rw [if_pos hg, hi, hj]
  exact if_pos ⟨h1, h2⟩
theorem isAt_lt {z : Int} {k : Nat} (h : isAt l z = some k) : k < l.length := by
  unfold isAt at h
  rw [List.findIdx?_eq_some_iff_getElem] at h
  exact h.1
theorem kindAt_is {x u : Int} (h : l[i]? = some (x, u)) : kindAt l i = some u := by unfold kindAt; rw [h]; rfl
end Go.Proofs.Ytknlackphdcflaa.EquM
