/- The program's copyRecord: a record of its own. -/
import Derived.Test.YtcbfnhghhbgdkaaExactResolvesRecordSaidPartbd
import Derived.Test.YtcbfnhghhbgdkaaExactResolvesRecordSaidPartag
import Derived.Deep.RegionHeld3
import Derived.Deep.DeepCutAuto
import Derived.Deep.AppendLies
namespace Go.Proofs.Ytcbfnhghhbgdkaa.Copy
open Go.RowKit Pairs Rec RecEq Keep Row2

theorem blocks3 (W : World) (o1 o2 o3 : Obj) : (((W.alloc o1).alloc o2).alloc o3).drew.heap[W.heap.size]? = some o1 ∧ (((W.alloc o1).alloc o2).alloc o3).drew.heap[W.heap.size + 1]? = some o2 ∧ (((W.alloc o1).alloc o2).alloc o3).drew.heap[W.heap.size + 2]? = some o3 ∧ Below W.heap.size W (((W.alloc o1).alloc o2).alloc o3).drew := by
  have e : ∀ (w : World) (o : Obj), (w.alloc o).heap = w.heap.push o := fun _ _ => rfl
  have d : ∀ (w : World), w.drew.heap = w.heap := fun _ => rfl
  refine ⟨?_, ?_, ?_, (((below_alloc W o1).alloc (by simp) o2).alloc (by simp; omega) o3).drew⟩
  · rw [d, e, e, e, Array.getElem?_push, if_neg (by simp; omega), Array.getElem?_push, if_neg (by simp), Array.getElem?_push, if_pos rfl]
  · rw [d, e, e, e, Array.getElem?_push, if_neg (by simp), Array.getElem?_push, if_pos (by simp)]
  · rw [d, e, e, e, Array.getElem?_push, if_pos (by simp)]
theorem flat_one (l : List (Int × Int)) : ∀ v ∈ flat l, v.oneCell' = true := by
  intro v hv
  unfold flat at hv
  rw [List.mem_flatMap] at hv
  obtain ⟨p, _, hp⟩ := hv
  simp at hp
  rcases hp with rfl | rfl <;> rfl
theorem flat_at {l : List (Int × Int)} {j : Nat} {v : Value} (h : (flat l)[j]? = some v) : ∃ x, l[j / 2]? = some x ∧ ((j = j / 2 * 2 ∧ v = .int .i64 x.1) ∨ (j = j / 2 * 2 + 1 ∧ v = .int .i64 x.2)) := by
  have hl := (List.getElem?_eq_some_iff.1 h).1
  rw [flat_len] at hl
  have hk : j / 2 < l.length := by omega
  have hx : l[j / 2]? = some l[j / 2] := List.getElem?_eq_getElem hk
  have e := flat_get l (j / 2) l[j / 2].1 l[j / 2].2 hx
  refine ⟨_, hx, ?_⟩
  by_cases hj : j = j / 2 * 2
  · refine .inl ⟨hj, ?_⟩
    rw [hj, e.1] at h
    injection h with h
    exact h.symm
  · have hj2 : j = j / 2 * 2 + 1 := by omega
    refine .inr ⟨hj2, ?_⟩
    rw [hj2, e.2] at h
    injection h with h
    exact h.symm
/-- The cells of a row, as a source. -/
theorem holds_src {w : World} {a : Option Addr} {n : Nat} {l : List (Int × Int)} (h : Holds w a n l) : 0 < n → ∃ ad, a = some ad ∧ ∀ j v, (flat l)[j]? = some v → w.cell? (ad.add j) = some v := by
  intro hn
  rcases h.2 with h0 | ⟨b, off, ha, hb, hc⟩
  · omega
  · refine ⟨_, ha, fun j v hj => ?_⟩
    obtain ⟨x, hx, h2⟩ := flat_at hj
    have := hc (j / 2) x hx
    rw [Addr.add_lit]
    rcases h2 with ⟨e, rfl⟩ | ⟨e, rfl⟩
    · rw [show off + j = off + j / 2 * 2 by omega]
      exact this.1
    · rw [show off + j = off + j / 2 * 2 + 1 by omega]
      exact this.2
theorem sizeContext : (Try.prog.info? 53).map (·.size) = some 2 := by kernel_rfl
theorem sizeRelation : (Try.prog.info? 43).map (·.size) = some 2 := by kernel_rfl
theorem setRow_cell {w w2 : World} {g : Nat} {cs : Array Value} (h : Hid (w2 = w.setRow g cs)) {p : Addr} {v : Value} (hp : w.cell? p = some v) (hne : p.block ≠ g) : w2.cell? p = some v := by
  rw [h.out, cell_setRow_other _ _ _ _ hne]
  exact hp
theorem splice_all (L cs : List Value) (h : L.length = cs.length) : splice L 0 cs = cs := by
  unfold splice
  rw [List.take_zero, List.nil_append, Nat.zero_add, List.drop_of_length_le (by omega), List.append_nil]
theorem fz {W w : World} (h : Below W.heap.size W w) (p : Addr) (hp : p.block < W.heap.size) (hf : W.frozen? p = false) : w.frozen? p = false :=
  (World.frozen?_of_block (h.block p.block hp)).trans hf
theorem fz_box2 (w : World) (u1 v1 u2 v2 : Value) (t1 t2 : TypeId) : ((w.alloc (.cells #[u1, v1] t1)).alloc (.cells #[u2, v2] t2)).frozen? ⟨w.heap.size + 1, 0, none⟩ = false ∧ ((w.alloc (.cells #[u1, v1] t1)).alloc (.cells #[u2, v2] t2)).frozen? ⟨w.heap.size + 1, 1, none⟩ = false := by
  have e : ∀ (w : World) (o : Obj), (w.alloc o).heap = w.heap.push o := fun _ _ => rfl
  have i1 : ((w.alloc (.cells #[u1, v1] t1)).alloc (.cells #[u2, v2] t2)).heap[w.heap.size + 1]? = some (.cells #[u2, v2] t2) := by
    rw [e, e, Array.getElem?_push, if_pos (by simp)]
  constructor <;> (simp only [World.frozen?, i1]; rfl)
theorem own_of_block {X : World} {g n B : Nat} {T : TypeId} {l : List (Int × Int)} (h : X.heap[g]? = some (.cells (flat l).toArray T)) (hl : l.length = n) (hn : n ≤ 1048576) (hB : B ≤ g) : X.ownsRow B T 2 (.slice (some ⟨g, 0, none⟩) n n) n (flat l) := by
  have e : (flat l).length = n * 2 := by rw [flat_len, hl]
  exact ⟨e, .inr ⟨g, n, (flat l).toArray, rfl, hB, h, Nat.le_refl _, by unfold maxLen; omega, by simpa using e, by rw [← e]; exact List.take_length⟩⟩
theorem set2_cells {w : World} {g : Nat} {u v a b : Value} (h0 : w.cell? ⟨g, 0, none⟩ = some a) (h1 : w.cell? ⟨g, 1, none⟩ = some b) :
    ((w.setCell ⟨g, 0, none⟩ u).setCell ⟨g, 1, none⟩ v).cell? ⟨g, 0, none⟩ = some u ∧ ((w.setCell ⟨g, 0, none⟩ u).setCell ⟨g, 1, none⟩ v).cell? ⟨g, 1, none⟩ = some v := by
  constructor
  · rw [World.cell?_setCell_other _ _ _ _ (by simp)]
    exact World.cell?_setCell_same _ _ _ h0
  · refine World.cell?_setCell_same _ _ _ (u := b) ?_
    rw [World.cell?_setCell_other _ _ _ _ (by simp)]
    exact h1
/-- Behind the making of the rows and their box. -/
def Mid (W wc : World) (s3 : Value) (n1 n2 : Nat) : Prop := ∃ g1 g2 gb : Nat, s3 = .pointer (some ⟨gb, 0, none⟩) ∧ wc.heap[g1]? = some (.cells (zeros n1).toArray 53) ∧ wc.heap[g2]? = some (.cells (zeros n2).toArray 43) ∧
  wc.heap[gb]? = some (.cells #[.slice (some ⟨g1, 0, none⟩) n1 n1, .slice (some ⟨g2, 0, none⟩) n2 n2] 33) ∧ (g1 ≠ g2 ∧ g1 ≠ gb ∧ g2 ≠ gb ∧ W.heap.size ≤ g1 ∧ W.heap.size ≤ g2 ∧ W.heap.size ≤ gb) ∧ Below W.heap.size W wc
theorem mid123 (W : World) (n1 n2 : Nat) : Mid W (((W.alloc (.cells (zeros n1).toArray 53)).alloc (.cells (zeros n2).toArray 43)).alloc (.cells #[.slice (some ⟨W.heap.size, 0, none⟩) n1 n1, .slice (some ⟨W.heap.size + 1, 0, none⟩) n2 n2] 33)).drew (.pointer (some ⟨W.heap.size + 2, 0, none⟩)) n1 n2 := by
  obtain ⟨h1, h2, h3, hb⟩ := blocks3 W (.cells (zeros n1).toArray 53) (.cells (zeros n2).toArray 43) (.cells #[.slice (some ⟨W.heap.size, 0, none⟩) n1 n1, .slice (some ⟨W.heap.size + 1, 0, none⟩) n2 n2] 33)
  exact ⟨_, _, _, rfl, h1, h2, h3, by omega, hb⟩
theorem mid132 (W : World) (n1 n2 : Nat) : Mid W (((W.alloc (.cells (zeros n1).toArray 53)).alloc (.cells #[.slice (some ⟨W.heap.size, 0, none⟩) n1 n1, .slice (some ⟨W.heap.size + 2, 0, none⟩) n2 n2] 33)).alloc (.cells (zeros n2).toArray 43)).drew (.pointer (some ⟨W.heap.size + 1, 0, none⟩)) n1 n2 := by
  obtain ⟨h1, h2, h3, hb⟩ := blocks3 W (.cells (zeros n1).toArray 53) (.cells #[.slice (some ⟨W.heap.size, 0, none⟩) n1 n1, .slice (some ⟨W.heap.size + 2, 0, none⟩) n2 n2] 33) (.cells (zeros n2).toArray 43)
  exact ⟨_, _, _, rfl, h1, h3, h2, by omega, hb⟩
theorem mid213 (W : World) (n1 n2 : Nat) : Mid W (((W.alloc (.cells (zeros n2).toArray 43)).alloc (.cells (zeros n1).toArray 53)).alloc (.cells #[.slice (some ⟨W.heap.size + 1, 0, none⟩) n1 n1, .slice (some ⟨W.heap.size, 0, none⟩) n2 n2] 33)).drew (.pointer (some ⟨W.heap.size + 2, 0, none⟩)) n1 n2 := by
  obtain ⟨h1, h2, h3, hb⟩ := blocks3 W (.cells (zeros n2).toArray 43) (.cells (zeros n1).toArray 53) (.cells #[.slice (some ⟨W.heap.size + 1, 0, none⟩) n1 n1, .slice (some ⟨W.heap.size, 0, none⟩) n2 n2] 33)
  exact ⟨_, _, _, rfl, h2, h1, h3, by omega, hb⟩
theorem mid231 (W : World) (n1 n2 : Nat) : Mid W (((W.alloc (.cells (zeros n2).toArray 43)).alloc (.cells #[.slice (some ⟨W.heap.size + 2, 0, none⟩) n1 n1, .slice (some ⟨W.heap.size, 0, none⟩) n2 n2] 33)).alloc (.cells (zeros n1).toArray 53)).drew (.pointer (some ⟨W.heap.size + 1, 0, none⟩)) n1 n2 := by
  obtain ⟨h1, h2, h3, hb⟩ := blocks3 W (.cells (zeros n2).toArray 43) (.cells #[.slice (some ⟨W.heap.size + 2, 0, none⟩) n1 n1, .slice (some ⟨W.heap.size, 0, none⟩) n2 n2] 33) (.cells (zeros n1).toArray 53)
  exact ⟨_, _, _, rfl, h3, h1, h2, by omega, hb⟩
theorem mid312 (W : World) (n1 n2 : Nat) : Mid W (((W.alloc (.cells #[.slice (some ⟨W.heap.size + 1, 0, none⟩) n1 n1, .slice (some ⟨W.heap.size + 2, 0, none⟩) n2 n2] 33)).alloc (.cells (zeros n1).toArray 53)).alloc (.cells (zeros n2).toArray 43)).drew (.pointer (some ⟨W.heap.size, 0, none⟩)) n1 n2 := by
  obtain ⟨h1, h2, h3, hb⟩ := blocks3 W (.cells #[.slice (some ⟨W.heap.size + 1, 0, none⟩) n1 n1, .slice (some ⟨W.heap.size + 2, 0, none⟩) n2 n2] 33) (.cells (zeros n1).toArray 53) (.cells (zeros n2).toArray 43)
  exact ⟨_, _, _, rfl, h2, h3, h1, by omega, hb⟩
theorem mid321 (W : World) (n1 n2 : Nat) : Mid W (((W.alloc (.cells #[.slice (some ⟨W.heap.size + 2, 0, none⟩) n1 n1, .slice (some ⟨W.heap.size + 1, 0, none⟩) n2 n2] 33)).alloc (.cells (zeros n2).toArray 43)).alloc (.cells (zeros n1).toArray 53)).drew (.pointer (some ⟨W.heap.size, 0, none⟩)) n1 n2 := by
  obtain ⟨h1, h2, h3, hb⟩ := blocks3 W (.cells #[.slice (some ⟨W.heap.size + 2, 0, none⟩) n1 n1, .slice (some ⟨W.heap.size + 1, 0, none⟩) n2 n2] 33) (.cells (zeros n2).toArray 43) (.cells (zeros n1).toArray 53)
  exact ⟨_, _, _, rfl, h3, h2, h1, by omega, hb⟩
end Go.Proofs.Ytcbfnhghhbgdkaa.Copy
/- A record under way in a box: two rows of its own that grow. -/
namespace Go.Proofs.Ytcbfnhghhbgdkaa.Two
open Go.RowKit Pairs Rec Keep Row2 Copy

/-- In the box gb lie two rows of their own, made after it; all that lay before it is as it was. -/
structure Two (E wr : World) (gb : Nat) (v1 v2 : Value) (L1 L2 : List (Int × Int)) : Prop where
  box : wr.heap[gb]? = some (.cells #[v1, v2] 33)
  ctx : wr.ownsRow (gb + 1) 53 2 v1 L1.length (flat L1)
  rel : wr.ownsRow (gb + 1) 43 2 v2 L2.length (flat L2)
  ne : ∀ g, v1.ownBlock = some g → v2.ownBlock ≠ some g
  bel : Below gb E wr
theorem Two.cells {E wr : World} {gb : Nat} {v1 v2 : Value} {L1 L2 : List (Int × Int)} (h : Two E wr gb v1 v2 L1 L2) : wr.cell? ⟨gb, 0, none⟩ = some v1 ∧ wr.cell? ⟨gb, 1, none⟩ = some v2 ∧ wr.frozen? ⟨gb, 0, none⟩ = false ∧ wr.frozen? ⟨gb, 1, none⟩ = false ∧ gb < wr.heap.size := by
  have hb := h.box
  refine ⟨by simp [World.cell?, hb], by simp [World.cell?, hb], by simp only [World.frozen?, hb]; rfl, by simp only [World.frozen?, hb]; rfl, (Array.getElem?_eq_some_iff.1 hb).1⟩
theorem own_ne {w : World} {B e s : Nat} {v : Value} {n : Nat} {xs : List Value} (h : w.ownsRow (B + 1) e s v n xs) : v.ownBlock ≠ some B := by
  intro hv
  have := (h.lt B hv).1
  omega
theorem flat_app (l1 l2 : List (Int × Int)) : flat (l1 ++ l2) = flat l1 ++ flat l2 := by unfold flat; rw [List.flatMap_append]
theorem setCell_block {w : World} {g : Nat} {u v a : Value} {T : TypeId} (h : w.heap[g]? = some (.cells #[u, v] T)) : (w.setCell ⟨g, 0, none⟩ a).heap[g]? = some (.cells #[a, v] T) ∧ (w.setCell ⟨g, 1, none⟩ a).heap[g]? = some (.cells #[u, a] T) := by
  constructor
  · have := heap_setCell_same w g 0 #[u, v] T a h
    simpa using this
  · have := heap_setCell_same w g 1 #[u, v] T a h
    simpa using this
theorem setCell_far {w : World} {g o : Nat} {u : Value} {B e s : Nat} {v : Value} {n : Nat} {xs : List Value} (h : w.ownsRow B e s v n xs) (hne : v.ownBlock ≠ some g) : (w.setCell ⟨g, o, none⟩ u).ownsRow B e s v n xs :=
  (Kept.setCell (S := fun b => b = g) (Kept.refl _ w) (g := g) rfl u).owns h (fun _ hb hs => hne (hs ▸ hb))
theorem own_form {T : TypeId} {B n : Nat} {w : World} {v : Value} {xs : List Value} (h : w.ownsRow B T 2 v n xs) : ∃ p d, v = .slice p n d := by
  rcases h.2 with ⟨hv, hn⟩ | ⟨g, cap, cur, hv, _⟩
  · subst hn
    exact ⟨none, 0, hv⟩
  · exact ⟨_, cap, hv⟩
/-- The record that is handed back: what lies in the box, behind a store into another box r. -/
theorem Two.got {E wr : World} {gb r B : Nat} {p1 p2 : Option Addr} {d1 d2 : Nat} {L1 L2 : List (Int × Int)} (h : Two E wr gb (.slice p1 L1.length d1) (.slice p2 L2.length d2) L1 L2) (hr : r ≤ gb) (hB : B ≤ gb) (u v : Value) :
    Got ((wr.setCell ⟨r, 0, none⟩ u).setCell ⟨r, 1, none⟩ v) B p1 L1.length d1 p2 L2.length d2 L1 L2 := by
  have f1 : (Value.slice p1 L1.length d1).ownBlock ≠ some r := fun e => by have := (h.ctx.lt r e).1; omega
  have f2 : (Value.slice p2 L2.length d2).ownBlock ≠ some r := fun e => by have := (h.rel.lt r e).1; omega
  exact ⟨ownsRow_base (setCell_far (setCell_far h.ctx f1) f1) (by omega), ownsRow_base (setCell_far (setCell_far h.rel f2) f2) (by omega), h.ne⟩
/-- What the box holds behind an append to one of the rows. -/
theorem Two.after {E wr w1 : World} {gb : Nat} {v1 v2 : Value} {L1 L2 : List (Int × Int)} (h : Two E wr gb v1 v2 L1 L2) {o : Obj} {r : Option Nat} (hgrow : (wr.alloc o).drew.grownBy w1 r) (hr : r ≠ some gb) :
    w1.cell? ⟨gb, 0, none⟩ = some v1 ∧ w1.cell? ⟨gb, 1, none⟩ = some v2 ∧ w1.frozen? ⟨gb, 0, none⟩ = false ∧ w1.frozen? ⟨gb, 1, none⟩ = false := by
  have ha := below_alloc wr o
  have hlt := h.cells.2.2.2.2
  have hb : w1.heap[gb]? = some (.cells #[v1, v2] 33) := (hgrow.block gb (Nat.lt_of_lt_of_le hlt ha.size) (Ne.symm hr)).trans ((ha.block gb hlt).trans h.box)
  exact ⟨by simp [World.cell?, hb], by simp [World.cell?, hb], by simp only [World.frozen?, hb]; rfl, by simp only [World.frozen?, hb]; rfl⟩
/-- A pair more in the first row: behind the making of the pair's own block W1 (of wr), an append and the store into the box. -/
theorem Two.more1 {E wr w1 : World} {gb : Nat} {v1 v2 : Value} {L1 L2 : List (Int × Int)} (h : Two E wr gb v1 v2 L1 L2) {o : Obj} {x y : Int} {g cap : Nat}
    (hown : w1.ownsRow (gb + 1) 53 2 (.slice (some ⟨g, 0, none⟩) (L1.length + 1) cap) (L1.length + 1) (flat L1 ++ [.int .i64 x, .int .i64 y])) (hgrow : (wr.alloc o).drew.grownBy w1 v1.ownBlock) (hat : v1.ownBlock = some g ∨ g = wr.heap.size + 1) :
    Two E (w1.setCell ⟨gb, 0, none⟩ (.slice (some ⟨g, 0, none⟩) (L1.length + 1) cap)) gb (.slice (some ⟨g, 0, none⟩) (L1.length + 1) cap) v2 (L1 ++ [(x, y)]) L2 := by
  have ha := below_alloc wr o
  have h1 := ownsRow_below h.ctx ha
  have h2 := ownsRow_below h.rel ha
  have hlt := h.cells.2.2.2.2
  have hb1 : w1.heap[gb]? = some (.cells #[v1, v2] 33) := (hgrow.block gb (Nat.lt_of_lt_of_le hlt ha.size) (Ne.symm (own_ne h1))).trans ((ha.block gb hlt).trans h.box)
  have hr1 : w1.ownsRow (gb + 1) 43 2 v2 L2.length (flat L2) := by
    refine World.ownsRow.kept (w := (wr.alloc o).drew) h2 hgrow ?_
    cases hv : v2.ownBlock with
    | none => exact .inl rfl
    | some b => exact .inr (fun e => h.ne b e.symm hv)
  have hgg : gb ≠ g := by
    have := (hown.lt g rfl).1
    omega
  refine ⟨(setCell_block hb1).1, ?_, setCell_far hr1 (own_ne hr1), ?_, ?_⟩
  · rw [List.length_append, flat_app]
    exact setCell_far hown (fun e => hgg (by simpa [Value.ownBlock] using e.symm))
  · intro b hb hv
    have e1 : g = b := by simpa [Value.ownBlock] using hb
    subst e1
    rcases hat with hat | hat
    · exact h.ne g hat hv
    · have := (h.rel.lt g hv).2
      omega
  · refine Below.setCell (p := ⟨gb, 0, none⟩) ?_ (Nat.le_refl _) _
    exact ((h.bel.trans (ha.mono (Nat.le_of_lt hlt))).drew).grown hgrow (by have := ha.size; show gb ≤ (wr.alloc o).heap.size; omega) (fun k hk => by have := (h.ctx.lt k hk).1; omega)
/-- The same in the second row. -/
theorem Two.more2 {E wr w1 : World} {gb : Nat} {v1 v2 : Value} {L1 L2 : List (Int × Int)} (h : Two E wr gb v1 v2 L1 L2) {o : Obj} {x y : Int} {g cap : Nat}
    (hown : w1.ownsRow (gb + 1) 43 2 (.slice (some ⟨g, 0, none⟩) (L2.length + 1) cap) (L2.length + 1) (flat L2 ++ [.int .i64 x, .int .i64 y])) (hgrow : (wr.alloc o).drew.grownBy w1 v2.ownBlock) (hat : v2.ownBlock = some g ∨ g = wr.heap.size + 1) :
    Two E (w1.setCell ⟨gb, 1, none⟩ (.slice (some ⟨g, 0, none⟩) (L2.length + 1) cap)) gb v1 (.slice (some ⟨g, 0, none⟩) (L2.length + 1) cap) L1 (L2 ++ [(x, y)]) := by
  have ha := below_alloc wr o
  have h1 := ownsRow_below h.ctx ha
  have h2 := ownsRow_below h.rel ha
  have hlt := h.cells.2.2.2.2
  have hb1 : w1.heap[gb]? = some (.cells #[v1, v2] 33) := (hgrow.block gb (Nat.lt_of_lt_of_le hlt ha.size) (Ne.symm (own_ne h2))).trans ((ha.block gb hlt).trans h.box)
  have hr1 : w1.ownsRow (gb + 1) 53 2 v1 L1.length (flat L1) := by
    refine World.ownsRow.kept (w := (wr.alloc o).drew) h1 hgrow ?_
    cases hv : v1.ownBlock with
    | none => exact .inl rfl
    | some b => exact .inr (fun e => h.ne b hv e.symm)
  have hgg : gb ≠ g := by
    have := (hown.lt g rfl).1
    omega
  refine ⟨(setCell_block hb1).2, setCell_far hr1 (own_ne hr1), ?_, ?_, ?_⟩
  · rw [List.length_append, flat_app]
    exact setCell_far hown (fun e => hgg (by simpa [Value.ownBlock] using e.symm))
  · intro b hb hv
    have e1 : g = b := by simpa [Value.ownBlock] using hv
    subst e1
    rcases hat with hat | hat
    · exact h.ne g hb hat
    · have := (h.ctx.lt g hb).2
      omega
  · refine Below.setCell (p := ⟨gb, 1, none⟩) ?_ (Nat.le_refl _) _
    exact ((h.bel.trans (ha.mono (Nat.le_of_lt hlt))).drew).grown hgrow (by have := ha.size; show gb ≤ (wr.alloc o).heap.size; omega) (fun k hk => by have := (h.rel.lt k hk).1; omega)
end Go.Proofs.Ytcbfnhghhbgdkaa.Two
