/- Rows of pairs whose whole block is known, and a pair's own new block. -/
import Derived.Test.YtcbfnhghhbgdkaaExactResolvesRecordSaidPartbe
import Derived.Deep.RegionLaw
import Derived.Laws.AppendOwnNone
import Derived.OwnWalk
import Derived.Deep.Upon
import Derived.Deep.DeepCutAuto
import Derived.BigQuiet
namespace Go.Proofs.Ytcbfnhghhbgdkaa.RowTake
open Go.RowKit Pairs Rec RecEq Keep Row2 Copy Two
theorem block_of_own {T : TypeId} {w : World} {B g n : Nat} {l : List (Int × Int)} (h : w.ownsRow B T 2 (.slice (some ⟨g, 0, none⟩) n n) n (flat l)) : w.heap[g]? = some (.cells (flat l).toArray T) := by
  rcases h.2 with ⟨hv, _⟩ | ⟨g', cap, cur, hv, _, hh, _, _, hs, ht⟩
  · cases hv
  · injection hv with h1 h2 h3
    injection h1 with h1
    injection h1 with h1 _ _
    subst h1 h3
    rw [hh]
    have e : cur.toList = flat l := by
      rw [← ht, List.take_of_length_le (by simp; omega)]
    rw [← e]
theorem own_of_take {X : World} {g n c B : Nat} {T : TypeId} {l : List (Int × Int)} {ys : List Value} (h : X.heap[g]? = some (.cells ys.toArray T)) (hc : ys.length = c * 2) (hl : l.length = n) (hn : n ≤ c) (hm : c ≤ 1048576) (ht : ys.take (n * 2) = flat l) (hB : B ≤ g) : X.ownsRow B T 2 (.slice (some ⟨g, 0, none⟩) n c) n (flat l) :=
  ⟨by rw [flat_len, hl], .inr ⟨g, c, ys.toArray, rfl, hB, h, hn, by unfold maxLen; omega, by simpa using hc, ht⟩⟩
theorem new_pair (w : World) (x y : Value) (t : TypeId) : ∀ j u, [x, y][j]? = some u → (w.alloc (.cells #[x, y] t)).drew.cell? ((⟨w.heap.size, 0, none⟩ : Addr).add j) = some u := by
  intro j u hj
  match j, hj with
  | 0, hj =>
    simp at hj
    subst hj
    exact box_first w x y t
  | 1, hj =>
    simp at hj
    subst hj
    exact box_second w x y t
theorem own_drew {w : World} {B e s : Nat} {v : Value} {n : Nat} {xs : List Value} (h : w.ownsRow B e s v n xs) : w.drew.ownsRow B e s v n xs := h
end Go.Proofs.Ytcbfnhghhbgdkaa.RowTake
/- A record under way in a box, made since a world; append of nothing. -/
namespace Go.Proofs.Ytcbfnhghhbgdkaa.TwoBs
open Go.RowKit Pairs Rec RecEq Keep Row2 Copy Two RowTake
theorem filt_next (q : Int × Int → Bool) {m : List (Int × Int)} {k : Nat} {x y : Int} (hx : m[k]? = some (x, y)) : (m.take (k + 1)).filter q = (m.take k).filter q ++ (if q (x, y) then [(x, y)] else []) := by
  rw [List.take_add_one, hx, List.filter_append]
  cases h : q (x, y) <;> simp [h]
theorem filt_len (q : Int × Int → Bool) (m : List (Int × Int)) (k : Nat) : ((m.take k).filter q).length ≤ k :=
  Nat.le_trans (List.length_filter_le _ _) (by rw [List.length_take]; omega)
/-- In the box gb lie two rows of their own, made since E; all that lay in E is as it was. -/
structure TwoB (E wr : World) (gb : Nat) (v1 v2 : Value) (L1 L2 : List (Int × Int)) : Prop where
  box : wr.heap[gb]? = some (.cells #[v1, v2] 33)
  ctx : wr.ownsRow E.heap.size 53 2 v1 L1.length (flat L1)
  rel : wr.ownsRow E.heap.size 43 2 v2 L2.length (flat L2)
  ne : ∀ g, v1.ownBlock = some g → v2.ownBlock ≠ some g
  n1 : v1.ownBlock ≠ some gb
  n2 : v2.ownBlock ≠ some gb
  bel : Below E.heap.size E wr
  ge : E.heap.size ≤ gb
theorem TwoB.cells {E wr : World} {gb : Nat} {v1 v2 : Value} {L1 L2 : List (Int × Int)} (h : TwoB E wr gb v1 v2 L1 L2) : wr.cell? ⟨gb, 0, none⟩ = some v1 ∧ wr.cell? ⟨gb, 1, none⟩ = some v2 ∧ wr.frozen? ⟨gb, 0, none⟩ = false ∧ wr.frozen? ⟨gb, 1, none⟩ = false ∧ gb < wr.heap.size := by
  have hb := h.box
  refine ⟨by simp [World.cell?, hb], by simp [World.cell?, hb], by simp only [World.frozen?, hb]; rfl, by simp only [World.frozen?, hb]; rfl, (Array.getElem?_eq_some_iff.1 hb).1⟩
theorem TwoB.drawn {E wr wq : World} {gb : Nat} {v1 v2 : Value} {L1 L2 : List (Int × Int)} (h : TwoB E wr gb v1 v2 L1 L2) (hb : Below wr.heap.size wr wq) : TwoB E wq gb v1 v2 L1 L2 :=
  ⟨(hb.block gb h.cells.2.2.2.2).trans h.box, ownsRow_below h.ctx hb, ownsRow_below h.rel hb, h.ne, h.n1, h.n2, h.bel.trans (hb.mono h.bel.size), h.ge⟩
theorem TwoB.after {E wr w1 : World} {gb : Nat} {v1 v2 : Value} {L1 L2 : List (Int × Int)} (h : TwoB E wr gb v1 v2 L1 L2) {o : Obj} {r : Option Nat} (hgrow : (wr.alloc o).drew.grownBy w1 r) (hr : r ≠ some gb) :
    w1.cell? ⟨gb, 0, none⟩ = some v1 ∧ w1.cell? ⟨gb, 1, none⟩ = some v2 ∧ w1.frozen? ⟨gb, 0, none⟩ = false ∧ w1.frozen? ⟨gb, 1, none⟩ = false := by
  have ha := below_alloc wr o
  have hlt := h.cells.2.2.2.2
  have hb : w1.heap[gb]? = some (.cells #[v1, v2] 33) := (hgrow.block gb (Nat.lt_of_lt_of_le hlt ha.size) (Ne.symm hr)).trans ((ha.block gb hlt).trans h.box)
  exact ⟨by simp [World.cell?, hb], by simp [World.cell?, hb], by simp only [World.frozen?, hb]; rfl, by simp only [World.frozen?, hb]; rfl⟩
theorem TwoB.more2 {E wr w1 : World} {gb : Nat} {v1 v2 : Value} {L1 L2 : List (Int × Int)} (h : TwoB E wr gb v1 v2 L1 L2) {o : Obj} {x y : Int} {g cap : Nat}
    (hown : w1.ownsRow E.heap.size 43 2 (.slice (some ⟨g, 0, none⟩) (L2.length + 1) cap) (L2.length + 1) (flat L2 ++ [.int .i64 x, .int .i64 y])) (hgrow : (wr.alloc o).drew.grownBy w1 v2.ownBlock) (hat : v2.ownBlock = some g ∨ g = wr.heap.size + 1) :
    TwoB E (w1.setCell ⟨gb, 1, none⟩ (.slice (some ⟨g, 0, none⟩) (L2.length + 1) cap)) gb v1 (.slice (some ⟨g, 0, none⟩) (L2.length + 1) cap) L1 (L2 ++ [(x, y)]) := by
  have ha := below_alloc wr o
  have h1 := ownsRow_below h.ctx ha
  have hlt := h.cells.2.2.2.2
  have hb1 : w1.heap[gb]? = some (.cells #[v1, v2] 33) := (hgrow.block gb (Nat.lt_of_lt_of_le hlt ha.size) (Ne.symm h.n2)).trans ((ha.block gb hlt).trans h.box)
  have hr1 : w1.ownsRow E.heap.size 53 2 v1 L1.length (flat L1) := by
    refine World.ownsRow.kept (w := (wr.alloc o).drew) h1 hgrow ?_
    cases hv : v1.ownBlock with
    | none => exact .inl rfl
    | some b => exact .inr (fun e => h.ne b hv e.symm)
  have hgg : g ≠ gb := by
    rcases hat with hat | hat
    · intro e
      exact h.n2 (e ▸ hat)
    · omega
  have hng : (Value.slice (some ⟨g, 0, none⟩) (L2.length + 1) cap).ownBlock ≠ some gb := fun e => hgg (by simpa [Value.ownBlock] using e)
  refine ⟨(setCell_block hb1).2, setCell_far hr1 h.n1, ?_, ?_, h.n1, hng, ?_, h.ge⟩
  · rw [List.length_append, flat_app]
    exact setCell_far hown hng
  · intro b hb hv
    have e1 : g = b := by simpa [Value.ownBlock] using hv
    subst e1
    rcases hat with hat | hat
    · exact h.ne g hb hat
    · have := (h.ctx.lt g hb).2
      omega
  · refine Below.setCell (p := ⟨gb, 1, none⟩) ?_ h.ge _
    exact ((h.bel.trans (ha.mono h.bel.size)).drew).grown hgrow (by have := ha.size; have := h.bel.size; show E.heap.size ≤ (wr.alloc o).heap.size; omega) (fun k hk => (h.rel.lt k hk).1)
theorem TwoB.afterX {E wr X w1 : World} {gb : Nat} {v1 v2 : Value} {L1 L2 : List (Int × Int)} (h : TwoB E wr gb v1 v2 L1 L2) (hX : Below wr.heap.size wr X) {r : Option Nat} (hgrow : X.grownBy w1 r) (hr : r ≠ some gb) :
    w1.cell? ⟨gb, 0, none⟩ = some v1 ∧ w1.cell? ⟨gb, 1, none⟩ = some v2 ∧ w1.frozen? ⟨gb, 0, none⟩ = false ∧ w1.frozen? ⟨gb, 1, none⟩ = false := by
  have hlt := h.cells.2.2.2.2
  have hb : w1.heap[gb]? = some (.cells #[v1, v2] 33) := (hgrow.block gb (Nat.lt_of_lt_of_le hlt hX.size) (Ne.symm hr)).trans ((hX.block gb hlt).trans h.box)
  exact ⟨by simp [World.cell?, hb], by simp [World.cell?, hb], by simp only [World.frozen?, hb]; rfl, by simp only [World.frozen?, hb]; rfl⟩
/-- A pair more in the second row, behind whatever X that kept all. -/
theorem TwoB.app2 {E wr X w1 : World} {gb : Nat} {v1 v2 : Value} {L1 L2 : List (Int × Int)} (h : TwoB E wr gb v1 v2 L1 L2) (hX : Below wr.heap.size wr X) {x y : Int} {g cap : Nat}
    (hown : w1.ownsRow E.heap.size 43 2 (.slice (some ⟨g, 0, none⟩) (L2.length + 1) cap) (L2.length + 1) (flat L2 ++ [.int .i64 x, .int .i64 y])) (hgrow : X.grownBy w1 v2.ownBlock) (hat : v2.ownBlock = some g ∨ wr.heap.size ≤ g) :
    TwoB E (w1.setCell ⟨gb, 1, none⟩ (.slice (some ⟨g, 0, none⟩) (L2.length + 1) cap)) gb v1 (.slice (some ⟨g, 0, none⟩) (L2.length + 1) cap) L1 (L2 ++ [(x, y)]) := by
  have h1 := ownsRow_below h.ctx hX
  have hlt := h.cells.2.2.2.2
  have hb1 : w1.heap[gb]? = some (.cells #[v1, v2] 33) := (hgrow.block gb (Nat.lt_of_lt_of_le hlt hX.size) (Ne.symm h.n2)).trans ((hX.block gb hlt).trans h.box)
  have hr1 : w1.ownsRow E.heap.size 53 2 v1 L1.length (flat L1) := by
    refine World.ownsRow.kept (w := X) h1 hgrow ?_
    cases hv : v1.ownBlock with
    | none => exact .inl rfl
    | some b => exact .inr (fun e => h.ne b hv e.symm)
  have hgg : g ≠ gb := by
    rcases hat with hat | hat
    · intro e
      exact h.n2 (e ▸ hat)
    · omega
  have hng : (Value.slice (some ⟨g, 0, none⟩) (L2.length + 1) cap).ownBlock ≠ some gb := fun e => hgg (by simpa [Value.ownBlock] using e)
  refine ⟨(setCell_block hb1).2, setCell_far hr1 h.n1, ?_, ?_, h.n1, hng, ?_, h.ge⟩
  · rw [List.length_append, flat_app]
    exact setCell_far hown hng
  · intro b hb hv
    have e1 : g = b := by simpa [Value.ownBlock] using hv
    subst e1
    rcases hat with hat | hat
    · exact h.ne g hb hat
    · have := (h.ctx.lt g hb).2
      omega
  · refine Below.setCell (p := ⟨gb, 1, none⟩) ?_ h.ge _
    exact (h.bel.trans (hX.mono h.bel.size)).grown hgrow (by have := hX.size; have := h.bel.size; omega) (fun k hk => (h.rel.lt k hk).1)
theorem TwoB.got {E wr : World} {gb r B : Nat} {p1 p2 : Option Addr} {d1 d2 : Nat} {L1 L2 : List (Int × Int)} (h : TwoB E wr gb (.slice p1 L1.length d1) (.slice p2 L2.length d2) L1 L2) (hr : r < E.heap.size) (hB : B ≤ E.heap.size) (u v : Value) :
    Got ((wr.setCell ⟨r, 0, none⟩ u).setCell ⟨r, 1, none⟩ v) B p1 L1.length d1 p2 L2.length d2 L1 L2 := by
  have f1 : (Value.slice p1 L1.length d1).ownBlock ≠ some r := fun e => by have := (h.ctx.lt r e).1; omega
  have f2 : (Value.slice p2 L2.length d2).ownBlock ≠ some r := fun e => by have := (h.rel.lt r e).1; omega
  exact ⟨ownsRow_base (setCell_far (setCell_far h.ctx f1) f1) hB, ownsRow_base (setCell_far (setCell_far h.rel f2) f2) hB, h.ne⟩
theorem twoB_new {E w3 : World} {v1 : Value} {L1 : List (Int × Int)} (ho : w3.ownsRow E.heap.size 53 2 v1 L1.length (flat L1)) (hb : Below E.heap.size E w3) : TwoB E (w3.alloc (.cells #[v1, .slice none 0 0] 33)) w3.heap.size v1 (.slice none 0 0) L1 [] :=
  ⟨heap_alloc_new w3 _, ho.alloc _, World.ownsRow_nil _ _ _ _, (fun g _ h => by cases h), (fun e => by have := (ho.lt _ e).2; omega), (fun h => by cases h), hb.alloc hb.size _, hb.size⟩
theorem wpList_append_nothing {P : Program} {w : World} {ops : Array Oper} {rest : List Oper} {o : Oper} {a : Act} {Q : Exit → Act → World → Prop} (hgd : o.guard = none) (s x : Operand) (t : TypeId)
    (ho : o.op = .call { callee := .builtin .append, args := #[s, x], argTypes := #[t, t] })
    (e : TypeId) (i : TypeInfo) (ht : P.underlying t = some (.slice e)) (hi : P.info? e = some i) (base a1 : Option Addr) (sLen sCap c1 : Nat) (hle : sLen ≤ sCap)
    (hs : a.eval s = .slice base sLen sCap) (hx : a.eval x = .slice a1 0 c1) (h : wpList P ops Q rest (a.put o.dst (.slice base sLen sCap)) w) : wpList P ops Q (o :: rest) a w := by
  refine wpList_plain hgd fun K hK => ?_
  have hrun := run_append_nothing (P := P) w t t o.type e i ht hi base sLen sCap hle (.slice a1 0 c1) ⟨.inl ⟨_, ht⟩, (fun _ => by simp [Builtin.lenOf]), (by cases a1 <;> simp [Builtin.firstCells, loadCells, loadCellsFrom]), (by cases a1 <;> simp [Builtin.firstCells, loadCells, loadCellsFrom]), by simp, by simp⟩
  unfold Oper.wp
  simp [execOp, ho, resolve, invoke, builtin, hs, hx, hrun, Result.andThen]
  exact hK _ _ h
theorem own_here {g k : Nat} (h : (Value.slice (some ⟨g, 0, none⟩) 0 0).ownBlock = some k) : g ≤ k := Nat.le_of_eq (by simpa [Value.ownBlock] using h)
theorem empty_own {T : TypeId} (w : World) : (w.alloc (.cells #[] T)).ownsRow w.heap.size T 2 (.slice (some ⟨w.heap.size, 0, none⟩) 0 0) 0 [] :=
  World.ownsRow_made w #[] 0 (Nat.le_refl _) (by unfold maxLen; omega) (by simp)
end Go.Proofs.Ytcbfnhghhbgdkaa.TwoBs
