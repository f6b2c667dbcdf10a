/- What a function that makes a list of a record and of dated contexts is said to do: a row of its own. -/
import Derived.Test.YtmjhgjlnpnkmkaaDaM
namespace Go.Proofs.Ytmjhgjlnpnkmkaa.DaG
open Go.RowKit Pairs Rec RecEq Keep GivesI Da DaT
def ResV (ok : Bool) (L : List (Int × Int)) (w : World) (e : Ending) (w' : World) : Prop :=
  ∃ (p : Option Addr) (k d : Nat), e = .returned (.tuple #[.slice p k d, .bool ok]) ∧ w'.ownsRow w.heap.size 64 2 (.slice p k d) k (flat L) ∧ k ≤ 1048576 ∧ Below w.heap.size w w'
def ResD (ok : Bool) (L : List Dt) (w : World) (e : Ending) (w' : World) : Prop :=
  ∃ (p : Option Addr) (k d : Nat), e = .returned (.tuple #[.slice p k d, .bool ok]) ∧ w'.ownsRow w.heap.size 66 3 (.slice p k d) k (flatD L) ∧ k ≤ 1048576 ∧ Below w.heap.size w w'
/-- Two boxes, of two cells and of three. -/
theorem boxes23 (w : World) (u v x y z : Value) (t1 t2 : TypeId) :
    w.heap.size < ((w.alloc (.cells #[u, v] t1)).alloc (.cells #[x, y, z] t2)).heap.size ∧
    ((w.alloc (.cells #[u, v] t1)).alloc (.cells #[x, y, z] t2)).cell? ⟨w.heap.size, 0, none⟩ = some u ∧
    ((w.alloc (.cells #[u, v] t1)).alloc (.cells #[x, y, z] t2)).cell? ⟨w.heap.size, 1, none⟩ = some v ∧
    w.heap.size + 1 < ((w.alloc (.cells #[u, v] t1)).alloc (.cells #[x, y, z] t2)).heap.size ∧
    (((w.alloc (.cells #[u, v] t1)).alloc (.cells #[x, y, z] t2)).cell? ⟨w.heap.size + 1, 0, none⟩ = some x ∧ ((w.alloc (.cells #[u, v] t1)).alloc (.cells #[x, y, z] t2)).cell? ⟨w.heap.size + 1, 1, none⟩ = some y ∧ ((w.alloc (.cells #[u, v] t1)).alloc (.cells #[x, y, z] t2)).cell? ⟨w.heap.size + 1, 2, none⟩ = some z) ∧
    Below w.heap.size w ((w.alloc (.cells #[u, v] t1)).alloc (.cells #[x, y, z] t2)) := by
  have e : ∀ (w : World) (o : Obj), (w.alloc o).heap = w.heap.push o := fun _ _ => rfl
  have i0 : ((w.alloc (.cells #[u, v] t1)).alloc (.cells #[x, y, z] t2)).heap[w.heap.size]? = some (.cells #[u, v] t1) := by
    rw [e, e, Array.getElem?_push, if_neg (by simp), Array.getElem?_push, if_pos rfl]
  have i1 : ((w.alloc (.cells #[u, v] t1)).alloc (.cells #[x, y, z] t2)).heap[w.heap.size + 1]? = some (.cells #[x, y, z] t2) := by
    rw [e, e, Array.getElem?_push, if_pos (by simp)]
  refine ⟨by rw [e, e]; simp; omega, ?_, ?_, by rw [e, e]; simp, (cells3 i1).1, below_alloc2 _ _ _⟩
  · unfold World.cell?; rw [i0]; rfl
  · unfold World.cell?; rw [i0]; rfl
theorem box3h (w : World) (x y z : Value) (t : TypeId) : (w.alloc (.cells #[x, y, z] t)).heap[w.heap.size]? = some (.cells #[x, y, z] t) := by
  have e : ∀ (w : World) (o : Obj), (w.alloc o).heap = w.heap.push o := fun _ _ => rfl
  rw [e, Array.getElem?_push, if_pos rfl]
theorem cells_below {w w' : World} {b : Nat} {x y z : Value} (h : b < w.heap.size ∧ w.cell? ⟨b, 0, none⟩ = some x ∧ w.cell? ⟨b, 1, none⟩ = some y ∧ w.cell? ⟨b, 2, none⟩ = some z) (hb : Below w.heap.size w w') :
    w'.cell? ⟨b, 0, none⟩ = some x ∧ w'.cell? ⟨b, 1, none⟩ = some y ∧ w'.cell? ⟨b, 2, none⟩ = some z :=
  ⟨(hb.cell (p := ⟨b, 0, none⟩) h.1).trans h.2.1, (hb.cell (p := ⟨b, 1, none⟩) h.1).trans h.2.2.1, (hb.cell (p := ⟨b, 2, none⟩) h.1).trans h.2.2.2⟩
end Go.Proofs.Ytmjhgjlnpnkmkaa.DaG
