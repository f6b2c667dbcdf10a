/- Maps from numbers to bools that hold only true: sets of numbers. -/
import Derived.Test.YtaikphcemldikaaOrder
namespace Go.Proofs.Ytaikphcemldikaa.Sets
open Go.RowKit Go.Maps Pairs Chain Find2 GoodM Lows Queue From MapStep Order
theorem zeroB (w : World) : (zeroValue 4).run Try.prog w = .ok (.bool false) w := by kernel_rfl
def bR : Value → Option (Dat × List MemPlace)
  | .bool b => some (.lit (.bool b), [])
  | _ => none
theorem bR_inv {v : Value} {b : Bool} {ps : List MemPlace} (h : bR v = some (.lit (.bool b), ps)) : v = .bool b := by
  unfold bR at h
  split at h
  · injection h with h
    injection h with h _
    injection h with h
    injection h with h
    rw [h]
  · cases h
def SetAt (w : World) (g n : Nat) (S : Int → Bool) : Prop := ∃ D : Dat, w.ownsMap Try.prog 3 bR g n D ∧ ∀ z, D.atKey (.int .i64 z) (.lit (.bool false)) = .lit (.bool (S z))
theorem isMap_of {w : World} {g n : Nat} {D : Dat} (h : w.ownsMap Try.prog 3 bR g n D) : IsMap D := by
  obtain ⟨_, _, _, _, _, hD⟩ := h
  exact ⟨_, hD⟩
theorem SetAt.kept {w w' : World} {g n : Nat} {S : Int → Bool} {row : Option Nat} (h : SetAt w g n S) (hg : w.grownBy w' row) (hne : some g ≠ row) : SetAt w' g n S := by
  obtain ⟨D, ho, hS⟩ := h
  exact ⟨D, ho.kept hg hne, hS⟩
theorem SetAt.below {w w' : World} {g n : Nat} {S : Int → Bool} (h : SetAt w g n S) (hb : Below w.heap.size w w') : SetAt w' g n S := h.kept (grown_none hb) (by simp)
theorem SetAt.lt {w : World} {g n : Nat} {S : Int → Bool} (h : SetAt w g n S) : g < w.heap.size := by
  obtain ⟨D, ho, _⟩ := h
  exact ho.lt
theorem set_new (w : World) : SetAt (w.alloc (.map #[] 0)) w.heap.size 0 (fun _ => false) := ⟨_, World.ownsMap_made w Try.prog 3 bR, fun _ => rfl⟩
theorem set_put {w w2 : World} {g n : Nat} {S S' : Int → Bool} {D : Dat} {x : Int} (ho : w.ownsMap Try.prog 3 bR g n D) (hS : ∀ z, D.atKey (.int .i64 z) (.lit (.bool false)) = .lit (.bool (S z)))
    (hown : w2.ownsMap Try.prog 3 bR g (n + 1) (D.put (.int .i64 x) (.lit (.bool true)))) (hx : ∀ z, S' z = (S z || (x == z))) : SetAt w2 g (n + 1) S' := by
  refine ⟨_, hown, fun z => ?_⟩
  by_cases e : x = z
  · subst e
    rw [atKey_put_same (isMap_of ho) (show WideAt.IsKeyLit (.int .i64 x) from trivial) _ _, hx]
    simp
  · rw [atKey_put_other (by intro h2; injection h2 with _ h2; exact e h2.symm), hS, hx]
    simp [e]
theorem set_look {w : World} {g n : Nat} {S : Int → Bool} (h : SetAt w g n S) {x : Int} (hx : -1000000 ≤ x ∧ x ≤ 1000000) : (Instr.lookup 107 (.map (some g)) (.int .i64 x) false).run Try.prog w = .ok (.bool (S x)) w := by
  obtain ⟨D, ho, hS⟩ := h
  obtain ⟨v, ps, hrun, hv⟩ := ho.lookup law Try.underlying107 (zeroB w) (zd := .lit (.bool false)) (zp := []) rfl (keyI hx)
  rw [hS] at hv
  rw [bR_inv hv] at hrun
  exact hrun
end Go.Proofs.Ytaikphcemldikaa.Sets
