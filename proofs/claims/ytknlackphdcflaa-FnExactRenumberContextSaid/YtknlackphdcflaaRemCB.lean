/- The model's RemoveContext: a record without a context and its relations. -/
import Derived.Test.YtknlackphdcflaaTwo
import Derived.Test.YtknlackphdcflaaGood2
import Derived.Test.YtknlackphdcflaaGives
import Derived.Deep.DeepCutAuto
import Derived.Deep.RegionLaw
namespace Go.Proofs.Ytknlackphdcflaa.RemCS
open Go.RowKit Pairs Rec RecEq Find2 GoodM Keep Row2 Copy Two Gives

def notC (z : Int) (p : Int × Int) : Bool := decide (p.1 ≠ z)
def notR (z : Int) (p : Int × Int) : Bool := decide (p.1 ≠ z ∧ p.2 ≠ z)
def remC (z : Int) : RR := fun l m => if good l m = true ∧ (isAt l z).isSome = true then some (l.filter (notC z), m.filter (notR z)) else none
theorem remC_none {z : Int} {l m : List (Int × Int)} (h : ¬ (good l m = true ∧ (isAt l z).isSome = true)) : remC z l m = none := by unfold remC; rw [if_neg h]
theorem remC_some {z : Int} {l m : List (Int × Int)} (h1 : good l m = true) (h2 : (isAt l z).isSome = true) : remC z l m = some (l.filter (notC z), m.filter (notR z)) := by unfold remC; rw [if_pos ⟨h1, h2⟩]
theorem good_few {l m : List (Int × Int)} (h : good l m = true) : l.length ≤ 10 ∧ m.length ≤ 24 := by
  unfold good at h
  simp only [Bool.and_eq_true, decide_eq_true_eq] at h
  exact ⟨h.1.1.1, h.1.1.2⟩
theorem filt_next (q : Int × Int → Bool) {m : List (Int × Int)} {k : Nat} {x y : Int} (hx : m[k]? = some (x, y)) : (m.take (k + 1)).filter q = (m.take k).filter q ++ (if q (x, y) then [(x, y)] else []) := by
  rw [List.take_add_one, hx, List.filter_append]
  cases h : q (x, y) <;> simp [h]
theorem filt_len (q : Int × Int → Bool) (m : List (Int × Int)) (k : Nat) : ((m.take k).filter q).length ≤ k :=
  Nat.le_trans (List.length_filter_le _ _) (by rw [List.length_take]; omega)
theorem new_pair (w : World) (x y : Value) (t : TypeId) : ∀ j u, [x, y][j]? = some u → (w.alloc (.cells #[x, y] t)).drew.cell? ((⟨w.heap.size, 0, none⟩ : Addr).add j) = some u := by
  intro j u hj
  match j, hj with
  | 0, hj =>
    simp at hj
    subst hj
    exact box_first w x y t
  | 1, hj =>
    simp at hj
    subst hj
    exact box_second w x y t
theorem own_drew {w : World} {B e s : Nat} {v : Value} {n : Nat} {xs : List Value} (h : w.ownsRow B e s v n xs) : w.drew.ownsRow B e s v n xs := h
end Go.Proofs.Ytknlackphdcflaa.RemCS
