/- The program's ShiftDistribution. -/
import Derived.Test.YtfbgekhkbbhggaaDvI
import Derived.Test.YtfbgekhkbbhggaaAppI
namespace Go.Proofs.Ytfbgekhkbbhggaa.ShI
open Go.RowKit Pairs Rec Keep GivesI DvM DvG DvI AppI Di
set_option linter.unusedVariables false
/-- Two boxes, the second one a result. -/
theorem two (w : World) (u1 v1 u2 v2 : Value) (t1 t2 : TypeId) :
    ((w.alloc (.cells #[u1, v1] t1)).alloc (.cells #[u2, v2] t2)).heap.size = w.heap.size + 2 ∧
    ((w.alloc (.cells #[u1, v1] t1)).alloc (.cells #[u2, v2] t2)).cell? ⟨w.heap.size, 0, none⟩ = some u1 ∧
    ((w.alloc (.cells #[u1, v1] t1)).alloc (.cells #[u2, v2] t2)).cell? ⟨w.heap.size, 1, none⟩ = some v1 ∧
    ((w.alloc (.cells #[u1, v1] t1)).alloc (.cells #[u2, v2] t2)).cell? ⟨w.heap.size + 1, 0, none⟩ = some u2 ∧
    ((w.alloc (.cells #[u1, v1] t1)).alloc (.cells #[u2, v2] t2)).cell? ⟨w.heap.size + 1, 1, none⟩ = some v2 ∧
    ((w.alloc (.cells #[u1, v1] t1)).alloc (.cells #[u2, v2] t2)).frozen? ⟨w.heap.size + 1, 0, none⟩ = false ∧
    ((w.alloc (.cells #[u1, v1] t1)).alloc (.cells #[u2, v2] t2)).frozen? ⟨w.heap.size + 1, 1, none⟩ = false ∧
    Below w.heap.size w ((w.alloc (.cells #[u1, v1] t1)).alloc (.cells #[u2, v2] t2)) := by
  have e : ∀ (w : World) (o : Obj), (w.alloc o).heap = w.heap.push o := fun _ _ => rfl
  have i0 : ((w.alloc (.cells #[u1, v1] t1)).alloc (.cells #[u2, v2] t2)).heap[w.heap.size]? = some (.cells #[u1, v1] t1) := by
    rw [e, e, Array.getElem?_push, if_neg (by simp), Array.getElem?_push, if_pos rfl]
  have i1 : ((w.alloc (.cells #[u1, v1] t1)).alloc (.cells #[u2, v2] t2)).heap[w.heap.size + 1]? = some (.cells #[u2, v2] t2) := by
    rw [e, e, Array.getElem?_push, if_pos (by simp)]
  refine ⟨by rw [e, e]; simp, ?_, ?_, ?_, ?_, ?_, ?_, below_alloc2 _ _ _⟩
  · unfold World.cell?; rw [i0]; rfl
  · unfold World.cell?; rw [i0]; rfl
  · unfold World.cell?; rw [i1]; rfl
  · unfold World.cell?; rw [i1]; rfl
  · unfold World.frozen?; rw [i1]; rfl
  · unfold World.frozen?; rw [i1]; rfl
/-- A box at g that a call has kept. -/
structure Bx (w : World) (g : Nat) (u v : Value) : Prop where
  c0 : w.cell? ⟨g, 0, none⟩ = some u
  c1 : w.cell? ⟨g, 1, none⟩ = some v
  f0 : w.frozen? ⟨g, 0, none⟩ = false
  f1 : w.frozen? ⟨g, 1, none⟩ = false
  lt : g < w.heap.size
theorem Bx.below {w w' : World} {g : Nat} {u v : Value} (h : Bx w g u v) (b : Below w.heap.size w w') : Bx w' g u v :=
  ⟨(b.cell (p := ⟨g, 0, none⟩) h.lt).trans h.c0, (b.cell (p := ⟨g, 1, none⟩) h.lt).trans h.c1, (b.frozen (p := ⟨g, 0, none⟩) h.lt).trans h.f0, (b.frozen (p := ⟨g, 1, none⟩) h.lt).trans h.f1, Nat.lt_of_lt_of_le h.lt b.size⟩
theorem bx_put {w : World} {g : Nat} {u v : Value} (h : Bx w g u v) (u' v' : Value) : Bx ((w.setCell ⟨g, 0, none⟩ u').setCell ⟨g, 1, none⟩ v') g u' v' := by
  have e : (⟨g, 0, none⟩ : Addr) ≠ ⟨g, 1, none⟩ := by intro e; cases congrArg Addr.off e
  have e' : (⟨g, 1, none⟩ : Addr) ≠ ⟨g, 0, none⟩ := Ne.symm e
  have k1 := (World.cell?_setCell_other (w := w) (a := ⟨g, 0, none⟩) (b := ⟨g, 1, none⟩) (v := u') (h := by first | exact e | exact e')).trans h.c1
  have k0 := World.cell?_setCell_same (w := w) (a := ⟨g, 0, none⟩) (v := u') (h := h.c0)
  refine ⟨(World.cell?_setCell_other (w := w.setCell ⟨g, 0, none⟩ u') (a := ⟨g, 1, none⟩) (b := ⟨g, 0, none⟩) (v := v') (h := by first | exact e | exact e')).trans k0, World.cell?_setCell_same (w := w.setCell ⟨g, 0, none⟩ u') (a := ⟨g, 1, none⟩) (v := v') (h := k1), ?_, ?_, ?_⟩
  · rw [World.frozen?_setCell, World.frozen?_setCell]; exact h.f0
  · rw [World.frozen?_setCell, World.frozen?_setCell]; exact h.f1
  · have := h.lt; simpa [World.setCell] using this
theorem bx_other {w : World} {g k : Nat} {u v : Value} (h : Bx w g u v) (hne : g ≠ k) (u' v' : Value) : Bx ((w.setCell ⟨k, 0, none⟩ u').setCell ⟨k, 1, none⟩ v') g u v := by
  have n0 : ∀ i j, (⟨k, i, none⟩ : Addr) ≠ ⟨g, j, none⟩ := fun i j e => hne (congrArg Addr.block e).symm
  have n1 : ∀ i j, (⟨g, i, none⟩ : Addr) ≠ ⟨k, j, none⟩ := fun i j e => hne (congrArg Addr.block e)
  refine ⟨?_, ?_, ?_, ?_, ?_⟩
  · rw [World.cell?_setCell_other (h := by first | exact n0 _ _ | exact n1 _ _), World.cell?_setCell_other (h := by first | exact n0 _ _ | exact n1 _ _)]; exact h.c0
  · rw [World.cell?_setCell_other (h := by first | exact n0 _ _ | exact n1 _ _), World.cell?_setCell_other (h := by first | exact n0 _ _ | exact n1 _ _)]; exact h.c1
  · rw [World.frozen?_setCell, World.frozen?_setCell]; exact h.f0
  · rw [World.frozen?_setCell, World.frozen?_setCell]; exact h.f1
  · have := h.lt; simpa [World.setCell] using this
theorem cell_off {X : World} {b i k : Nat} {u : Value} (u' v' : Value) (h : X.cell? ⟨b, i, none⟩ = some u) (hne : b ≠ k) : ((X.setCell ⟨k, 0, none⟩ u').setCell ⟨k, 1, none⟩ v').cell? ⟨b, i, none⟩ = some u := by
  have n0 : ∀ i j, (⟨k, i, none⟩ : Addr) ≠ ⟨b, j, none⟩ := fun i j e => hne (congrArg Addr.block e).symm
  have n1 : ∀ i j, (⟨b, i, none⟩ : Addr) ≠ ⟨k, j, none⟩ := fun i j e => hne (congrArg Addr.block e)
  rw [World.cell?_setCell_other (h := by first | exact n0 _ _ | exact n1 _ _), World.cell?_setCell_other (h := by first | exact n0 _ _ | exact n1 _ _)]
  exact h
theorem bx_new (w : World) (u v : Value) (T : TypeId) : Bx (w.alloc (.cells #[u, v] T)) w.heap.size u v := by
  have e : (w.alloc (.cells #[u, v] T)).heap[w.heap.size]? = some (.cells #[u, v] T) := by
    show (w.heap.push _)[w.heap.size]? = _
    rw [Array.getElem?_push, if_pos rfl]
  refine ⟨box_first w u v T, box_second w u v T, ?_, ?_, by simp⟩
  · unfold World.frozen?; rw [e]; rfl
  · unfold World.frozen?; rw [e]; rfl
/-- What the drawn region leaves. -/
def Rel (w wc : World) (gb : Nat) (p8 : Option Addr) (n d8 : Nat) (z : Int) (M : List Int) : Prop :=
  Bx wc gb (.int .i64 z) (.slice p8 n d8) ∧ wc.ownsRow (w.heap.size + 2) 3 1 (.slice p8 n d8) n (ints M) ∧ Bx wc (w.heap.size + 1) (.int .i64 0) (.slice none 0 0) ∧ Below w.heap.size w wc
theorem rel_put {w X : World} {gb : Nat} {p8 : Option Addr} {n d8 : Nat} {z : Int} {M : List Int} {u v : Value} {B : Nat} (hb : Bx X gb u v) (ho : X.ownsRow B 3 1 (.slice p8 n d8) n (ints M)) (hB : gb < B) (hw : w.heap.size + 2 ≤ B) (hr : Bx X (w.heap.size + 1) (.int .i64 0) (.slice none 0 0)) (hne : w.heap.size + 1 < gb) (hbel : Below w.heap.size w X) :
    Rel w ((X.setCell ⟨gb, 0, none⟩ (.int .i64 z)).setCell ⟨gb, 1, none⟩ (.slice p8 n d8)) gb p8 n d8 z M :=
  ⟨bx_put hb _ _, ownsRow_base (ownsRow_setCell_below (ownsRow_setCell_below ho (a := ⟨gb, 0, none⟩) hB _) (a := ⟨gb, 1, none⟩) hB _) hw, bx_other hr (by omega) _ _, (hbel.setCell (p := ⟨gb, 0, none⟩) (by show w.heap.size ≤ gb; omega) _).setCell (p := ⟨gb, 1, none⟩) (by show w.heap.size ≤ gb; omega) _⟩
theorem rel_new {w X : World} {p8 : Option Addr} {n d8 : Nat} {z : Int} {M : List Int} {B : Nat} {T : TypeId} (ho : X.ownsRow B 3 1 (.slice p8 n d8) n (ints M)) (hw : w.heap.size + 2 ≤ B) (hr : Bx X (w.heap.size + 1) (.int .i64 0) (.slice none 0 0)) (hbel : Below w.heap.size w X) :
    Rel w (X.alloc (.cells #[.int .i64 z, .slice p8 n d8] T)) X.heap.size p8 n d8 z M :=
  ⟨bx_new _ _ _ _, ownsRow_base (ownsRow_below ho (below_alloc X _)) hw, hr.below (below_alloc X _), hbel.trans ((below_alloc X _).mono hbel.size)⟩
def shP (y f : Int) (M : List Int) : Option (Int × List Int) := if okD f M && okD (f + y) M then some (f + y, M) else none
theorem shP_no {y f : Int} {M : List Int} (h : okD f M = true → okD (f + y) M = true → False) : shP y f M = none := by
  unfold shP
  rw [if_neg]
  intro e
  rw [Bool.and_eq_true] at e
  exact h e.1 e.2
theorem shP_yes {y f : Int} {M : List Int} (h1 : okD f M = true) (h2 : okD (f + y) M = true) : shP y f M = some (f + y, M) := by
  unfold shP
  rw [h1, h2]
  rfl
end Go.Proofs.Ytfbgekhkbbhggaa.ShI
