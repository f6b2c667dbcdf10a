/- A record under way in a box: two rows of its own that grow. -/
import Derived.Test.YtbdplgcdnpcnfaaExactOrderPhasesSaidPartax
import Derived.Deep.AppendLies
namespace Go.Proofs.Ytbdplgcdnpcnfaa.Two
open Go.RowKit Pairs Rec Keep Row2 Copy

/-- In the box gb lie two rows of their own, made after it; all that lay before it is as it was. -/
structure Two (E wr : World) (gb : Nat) (v1 v2 : Value) (L1 L2 : List (Int × Int)) : Prop where
  box : wr.heap[gb]? = some (.cells #[v1, v2] 33)
  ctx : wr.ownsRow (gb + 1) 66 2 v1 L1.length (flat L1)
  rel : wr.ownsRow (gb + 1) 89 2 v2 L2.length (flat L2)
  ne : ∀ g, v1.ownBlock = some g → v2.ownBlock ≠ some g
  bel : Below gb E wr
theorem Two.cells {E wr : World} {gb : Nat} {v1 v2 : Value} {L1 L2 : List (Int × Int)} (h : Two E wr gb v1 v2 L1 L2) : wr.cell? ⟨gb, 0, none⟩ = some v1 ∧ wr.cell? ⟨gb, 1, none⟩ = some v2 ∧ wr.frozen? ⟨gb, 0, none⟩ = false ∧ wr.frozen? ⟨gb, 1, none⟩ = false ∧ gb < wr.heap.size := by
  have hb := h.box
  refine ⟨by simp [World.cell?, hb], by simp [World.cell?, hb], by simp only [World.frozen?, hb]; rfl, by simp only [World.frozen?, hb]; rfl, (Array.getElem?_eq_some_iff.1 hb).1⟩
theorem own_ne {w : World} {B e s : Nat} {v : Value} {n : Nat} {xs : List Value} (h : w.ownsRow (B + 1) e s v n xs) : v.ownBlock ≠ some B := by
  intro hv
  have := (h.lt B hv).1
  omega
theorem flat_app (l1 l2 : List (Int × Int)) : flat (l1 ++ l2) = flat l1 ++ flat l2 := by unfold flat; rw [List.flatMap_append]
theorem setCell_block {w : World} {g : Nat} {u v a : Value} {T : TypeId} (h : w.heap[g]? = some (.cells #[u, v] T)) : (w.setCell ⟨g, 0, none⟩ a).heap[g]? = some (.cells #[a, v] T) ∧ (w.setCell ⟨g, 1, none⟩ a).heap[g]? = some (.cells #[u, a] T) := by
  constructor
  · have := heap_setCell_same w g 0 #[u, v] T a h
    simpa using this
  · have := heap_setCell_same w g 1 #[u, v] T a h
    simpa using this
theorem setCell_far {w : World} {g o : Nat} {u : Value} {B e s : Nat} {v : Value} {n : Nat} {xs : List Value} (h : w.ownsRow B e s v n xs) (hne : v.ownBlock ≠ some g) : (w.setCell ⟨g, o, none⟩ u).ownsRow B e s v n xs :=
  (Kept.setCell (S := fun b => b = g) (Kept.refl _ w) (g := g) rfl u).owns h (fun _ hb hs => hne (hs ▸ hb))
theorem own_form {T : TypeId} {B n : Nat} {w : World} {v : Value} {xs : List Value} (h : w.ownsRow B T 2 v n xs) : ∃ p d, v = .slice p n d := by
  rcases h.2 with ⟨hv, hn⟩ | ⟨g, cap, cur, hv, _⟩
  · subst hn
    exact ⟨none, 0, hv⟩
  · exact ⟨_, cap, hv⟩
/-- The record that is handed back: what lies in the box, behind a store into another box r. -/
theorem Two.got {E wr : World} {gb r B : Nat} {p1 p2 : Option Addr} {d1 d2 : Nat} {L1 L2 : List (Int × Int)} (h : Two E wr gb (.slice p1 L1.length d1) (.slice p2 L2.length d2) L1 L2) (hr : r ≤ gb) (hB : B ≤ gb) (u v : Value) :
    Got ((wr.setCell ⟨r, 0, none⟩ u).setCell ⟨r, 1, none⟩ v) B p1 L1.length d1 p2 L2.length d2 L1 L2 := by
  have f1 : (Value.slice p1 L1.length d1).ownBlock ≠ some r := fun e => by have := (h.ctx.lt r e).1; omega
  have f2 : (Value.slice p2 L2.length d2).ownBlock ≠ some r := fun e => by have := (h.rel.lt r e).1; omega
  exact ⟨ownsRow_base (setCell_far (setCell_far h.ctx f1) f1) (by omega), ownsRow_base (setCell_far (setCell_far h.rel f2) f2) (by omega), h.ne⟩
/-- What the box holds behind an append to one of the rows. -/
theorem Two.after {E wr w1 : World} {gb : Nat} {v1 v2 : Value} {L1 L2 : List (Int × Int)} (h : Two E wr gb v1 v2 L1 L2) {o : Obj} {r : Option Nat} (hgrow : (wr.alloc o).drew.grownBy w1 r) (hr : r ≠ some gb) :
    w1.cell? ⟨gb, 0, none⟩ = some v1 ∧ w1.cell? ⟨gb, 1, none⟩ = some v2 ∧ w1.frozen? ⟨gb, 0, none⟩ = false ∧ w1.frozen? ⟨gb, 1, none⟩ = false := by
  have ha := below_alloc wr o
  have hlt := h.cells.2.2.2.2
  have hb : w1.heap[gb]? = some (.cells #[v1, v2] 33) := (hgrow.block gb (Nat.lt_of_lt_of_le hlt ha.size) (Ne.symm hr)).trans ((ha.block gb hlt).trans h.box)
  exact ⟨by simp [World.cell?, hb], by simp [World.cell?, hb], by simp only [World.frozen?, hb]; rfl, by simp only [World.frozen?, hb]; rfl⟩
/-- A pair more in the first row: behind the making of the pair's own block W1 (of wr), an append and the store into the box. -/
theorem Two.more1 {E wr w1 : World} {gb : Nat} {v1 v2 : Value} {L1 L2 : List (Int × Int)} (h : Two E wr gb v1 v2 L1 L2) {o : Obj} {x y : Int} {g cap : Nat}
    (hown : w1.ownsRow (gb + 1) 66 2 (.slice (some ⟨g, 0, none⟩) (L1.length + 1) cap) (L1.length + 1) (flat L1 ++ [.int .i64 x, .int .i64 y])) (hgrow : (wr.alloc o).drew.grownBy w1 v1.ownBlock) (hat : v1.ownBlock = some g ∨ g = wr.heap.size + 1) :
    Two E (w1.setCell ⟨gb, 0, none⟩ (.slice (some ⟨g, 0, none⟩) (L1.length + 1) cap)) gb (.slice (some ⟨g, 0, none⟩) (L1.length + 1) cap) v2 (L1 ++ [(x, y)]) L2 := by
  have ha := below_alloc wr o
  have h1 := ownsRow_below h.ctx ha
  have h2 := ownsRow_below h.rel ha
  have hlt := h.cells.2.2.2.2
  have hb1 : w1.heap[gb]? = some (.cells #[v1, v2] 33) := (hgrow.block gb (Nat.lt_of_lt_of_le hlt ha.size) (Ne.symm (own_ne h1))).trans ((ha.block gb hlt).trans h.box)
  have hr1 : w1.ownsRow (gb + 1) 89 2 v2 L2.length (flat L2) := by
    refine World.ownsRow.kept (w := (wr.alloc o).drew) h2 hgrow ?_
    cases hv : v2.ownBlock with
    | none => exact .inl rfl
    | some b => exact .inr (fun e => h.ne b e.symm hv)
  have hgg : gb ≠ g := by
    have := (hown.lt g rfl).1
    omega
  refine ⟨(setCell_block hb1).1, ?_, setCell_far hr1 (own_ne hr1), ?_, ?_⟩
  · rw [List.length_append, flat_app]
    exact setCell_far hown (fun e => hgg (by simpa [Value.ownBlock] using e.symm))
  · intro b hb hv
    have e1 : g = b := by simpa [Value.ownBlock] using hb
    subst e1
    rcases hat with hat | hat
    · exact h.ne g hat hv
    · have := (h.rel.lt g hv).2
      omega
  · refine Below.setCell (p := ⟨gb, 0, none⟩) ?_ (Nat.le_refl _) _
    exact ((h.bel.trans (ha.mono (Nat.le_of_lt hlt))).drew).grown hgrow (by have := ha.size; show gb ≤ (wr.alloc o).heap.size; omega) (fun k hk => by have := (h.ctx.lt k hk).1; omega)
/-- The same in the second row. -/
theorem Two.more2 {E wr w1 : World} {gb : Nat} {v1 v2 : Value} {L1 L2 : List (Int × Int)} (h : Two E wr gb v1 v2 L1 L2) {o : Obj} {x y : Int} {g cap : Nat}
    (hown : w1.ownsRow (gb + 1) 89 2 (.slice (some ⟨g, 0, none⟩) (L2.length + 1) cap) (L2.length + 1) (flat L2 ++ [.int .i64 x, .int .i64 y])) (hgrow : (wr.alloc o).drew.grownBy w1 v2.ownBlock) (hat : v2.ownBlock = some g ∨ g = wr.heap.size + 1) :
    Two E (w1.setCell ⟨gb, 1, none⟩ (.slice (some ⟨g, 0, none⟩) (L2.length + 1) cap)) gb v1 (.slice (some ⟨g, 0, none⟩) (L2.length + 1) cap) L1 (L2 ++ [(x, y)]) := by
  have ha := below_alloc wr o
  have h1 := ownsRow_below h.ctx ha
  have h2 := ownsRow_below h.rel ha
  have hlt := h.cells.2.2.2.2
  have hb1 : w1.heap[gb]? = some (.cells #[v1, v2] 33) := (hgrow.block gb (Nat.lt_of_lt_of_le hlt ha.size) (Ne.symm (own_ne h2))).trans ((ha.block gb hlt).trans h.box)
  have hr1 : w1.ownsRow (gb + 1) 66 2 v1 L1.length (flat L1) := by
    refine World.ownsRow.kept (w := (wr.alloc o).drew) h1 hgrow ?_
    cases hv : v1.ownBlock with
    | none => exact .inl rfl
    | some b => exact .inr (fun e => h.ne b hv e.symm)
  have hgg : gb ≠ g := by
    have := (hown.lt g rfl).1
    omega
  refine ⟨(setCell_block hb1).2, setCell_far hr1 (own_ne hr1), ?_, ?_, ?_⟩
  · rw [List.length_append, flat_app]
    exact setCell_far hown (fun e => hgg (by simpa [Value.ownBlock] using e.symm))
  · intro b hb hv
    have e1 : g = b := by simpa [Value.ownBlock] using hv
    subst e1
    rcases hat with hat | hat
    · exact h.ne g hb hat
    · have := (h.ctx.lt g hb).2
      omega
  · refine Below.setCell (p := ⟨gb, 1, none⟩) ?_ (Nat.le_refl _) _
    exact ((h.bel.trans (ha.mono (Nat.le_of_lt hlt))).drew).grown hgrow (by have := ha.size; show gb ≤ (wr.alloc o).heap.size; omega) (fun k hk => by have := (h.rel.lt k hk).1; omega)
end Go.Proofs.Ytbdplgcdnpcnfaa.Two
/- Rows of pairs whose whole block is known, and a pair's own new block. -/
namespace Go.Proofs.Ytbdplgcdnpcnfaa.RowTake
open Go.RowKit Pairs Rec RecEq Keep Row2 Copy Two
theorem block_of_own {T : TypeId} {w : World} {B g n : Nat} {l : List (Int × Int)} (h : w.ownsRow B T 2 (.slice (some ⟨g, 0, none⟩) n n) n (flat l)) : w.heap[g]? = some (.cells (flat l).toArray T) := by
  rcases h.2 with ⟨hv, _⟩ | ⟨g', cap, cur, hv, _, hh, _, _, hs, ht⟩
  · cases hv
  · injection hv with h1 h2 h3
    injection h1 with h1
    injection h1 with h1 _ _
    subst h1 h3
    rw [hh]
    have e : cur.toList = flat l := by
      rw [← ht, List.take_of_length_le (by simp; omega)]
    rw [← e]
theorem own_of_take {X : World} {g n c B : Nat} {T : TypeId} {l : List (Int × Int)} {ys : List Value} (h : X.heap[g]? = some (.cells ys.toArray T)) (hc : ys.length = c * 2) (hl : l.length = n) (hn : n ≤ c) (hm : c ≤ 1048576) (ht : ys.take (n * 2) = flat l) (hB : B ≤ g) : X.ownsRow B T 2 (.slice (some ⟨g, 0, none⟩) n c) n (flat l) :=
  ⟨by rw [flat_len, hl], .inr ⟨g, c, ys.toArray, rfl, hB, h, hn, by unfold maxLen; omega, by simpa using hc, ht⟩⟩
theorem new_pair (w : World) (x y : Value) (t : TypeId) : ∀ j u, [x, y][j]? = some u → (w.alloc (.cells #[x, y] t)).drew.cell? ((⟨w.heap.size, 0, none⟩ : Addr).add j) = some u := by
  intro j u hj
  match j, hj with
  | 0, hj =>
    simp at hj
    subst hj
    exact box_first w x y t
  | 1, hj =>
    simp at hj
    subst hj
    exact box_second w x y t
theorem own_drew {w : World} {B e s : Nat} {v : Value} {n : Nat} {xs : List Value} (h : w.ownsRow B e s v n xs) : w.drew.ownsRow B e s v n xs := h
end Go.Proofs.Ytbdplgcdnpcnfaa.RowTake
