/- What AddRelation answers. -/
import Derived.Test.YthcjembekadijaaOrderSaidPartat
import Derived.Test.YthcjembekadijaaOrderSaidPartam
import Derived.Test.YthcjembekadijaaOrderSaidPartal
import Derived.Test.YthcjembekadijaaOrderSaidPartad
import Derived.Test.YthcjembekadijaaOrderSaidPartax
import Derived.Deep.RegionLaw
import Derived.Laws.AppendOwnNone
import Derived.OwnWalk
import Derived.Deep.Upon
import Derived.Deep.DeepCutAuto
import Derived.BigQuiet
import Derived.Test.YthcjembekadijaaOrderSaidPartao
import Derived.Test.YthcjembekadijaaOrderSaidPartaq
import Derived.Maps.AppendAt
import Derived.Test.YthcjembekadijaaRenumberSaidPartac
import Derived.Test.YthcjembekadijaaOrderSaidPartaw
import Derived.Test.YthcjembekadijaaOrderSaidPartac
namespace Go.Proofs.Ythcjembekadijaa.AddRM
open GoodM RelM Gives
def addR (x y : Int) : RR := fun l m => if good l m = true ∧ good l (link m (x, y)) = true then some (l, link m (x, y)) else none
theorem addR_none {x y : Int} {l m : List (Int × Int)} (h : ¬ (good l m = true ∧ good l (link m (x, y)) = true)) : addR x y l m = none := by unfold addR; rw [if_neg h]
theorem addR_some {x y : Int} {l m : List (Int × Int)} (h1 : good l m = true) (h2 : good l (link m (x, y)) = true) : addR x y l m = some (l, link m (x, y)) := by unfold addR; rw [if_pos ⟨h1, h2⟩]
end Go.Proofs.Ythcjembekadijaa.AddRM
/- The model's RemoveRelation: a record without a relation. -/
namespace Go.Proofs.Ythcjembekadijaa.RemRS
open Go.RowKit Pairs Rec RecEq Find2 GoodM RelM Keep Row2 Copy Two Gives Eq2

def ne2 (u v : Int) (p : Int × Int) : Bool := decide (p ≠ (u, v))
def remR (u v : Int) : RR := fun l m => if good l m = true ∧ (u, v) ∈ m then some (l, m.filter (ne2 u v)) else none
theorem remR_none {u v : Int} {l m : List (Int × Int)} (h : ¬ (good l m = true ∧ (u, v) ∈ m)) : remR u v l m = none := by unfold remR; rw [if_neg h]
theorem remR_some {u v : Int} {l m : List (Int × Int)} (h1 : good l m = true) (h2 : (u, v) ∈ m) : remR u v l m = some (l, m.filter (ne2 u v)) := by unfold remR; rw [if_pos ⟨h1, h2⟩]
theorem good_few {l m : List (Int × Int)} (h : good l m = true) : l.length ≤ 10 ∧ m.length ≤ 24 := by
  unfold good at h
  simp only [Bool.and_eq_true, decide_eq_true_eq] at h
  exact ⟨h.1.1.1, h.1.1.2⟩
theorem filt_next (q : Int × Int → Bool) {m : List (Int × Int)} {k : Nat} {x y : Int} (hx : m[k]? = some (x, y)) : (m.take (k + 1)).filter q = (m.take k).filter q ++ (if q (x, y) then [(x, y)] else []) := by
  rw [List.take_add_one, hx, List.filter_append]
  cases h : q (x, y) <;> simp [h]
theorem filt_len (q : Int × Int → Bool) (m : List (Int × Int)) (k : Nat) : ((m.take k).filter q).length ≤ k :=
  Nat.le_trans (List.length_filter_le _ _) (by rw [List.length_take]; omega)
theorem new_pair (w : World) (x y : Value) (t : TypeId) : ∀ j u, [x, y][j]? = some u → (w.alloc (.cells #[x, y] t)).drew.cell? ((⟨w.heap.size, 0, none⟩ : Addr).add j) = some u := by
  intro j u hj
  match j, hj with
  | 0, hj =>
    simp at hj
    subst hj
    exact box_first w x y t
  | 1, hj =>
    simp at hj
    subst hj
    exact box_second w x y t
theorem own_drew {w : World} {B e s : Nat} {v : Value} {n : Nat} {xs : List Value} (h : w.ownsRow B e s v n xs) : w.drew.ownsRow B e s v n xs := h
/-- All are kept just where none is the one. -/
theorem filt_all {u v : Int} {m : List (Int × Int)} : (m.filter (ne2 u v)).length = m.length ↔ (u, v) ∉ m := by
  rw [List.length_filter_eq_length_iff]
  constructor
  · intro h hm
    have := h _ hm
    unfold ne2 at this
    simp at this
  · intro h p hp
    unfold ne2
    exact decide_eq_true (fun e => h (e ▸ hp))
theorem boxes222 (w : World) (u1 v1 u2 v2 u3 v3 : Value) (t1 t2 t3 : TypeId) :
    let W := ((w.alloc (.cells #[u1, v1] t1)).alloc (.cells #[u2, v2] t2)).alloc (.cells #[u3, v3] t3)
    W.heap.size = w.heap.size + 3 ∧ W.cell? ⟨w.heap.size, 0, none⟩ = some u1 ∧ W.cell? ⟨w.heap.size, 1, none⟩ = some v1 ∧ W.cell? ⟨w.heap.size + 1, 0, none⟩ = some u2 ∧ W.cell? ⟨w.heap.size + 1, 1, none⟩ = some v2 ∧ W.cell? ⟨w.heap.size + 2, 0, none⟩ = some u3 ∧ W.cell? ⟨w.heap.size + 2, 1, none⟩ = some v3 ∧
      W.frozen? ⟨w.heap.size + 2, 0, none⟩ = false ∧ W.frozen? ⟨w.heap.size + 2, 1, none⟩ = false ∧ Below w.heap.size w W := by
  have e : ∀ (w : World) (o : Obj), (w.alloc o).heap = w.heap.push o := fun _ _ => rfl
  have i0 : (((w.alloc (.cells #[u1, v1] t1)).alloc (.cells #[u2, v2] t2)).alloc (.cells #[u3, v3] t3)).heap[w.heap.size]? = some (.cells #[u1, v1] t1) := by
    rw [e, e, e, Array.getElem?_push, if_neg (by simp; omega), Array.getElem?_push, if_neg (by simp), Array.getElem?_push, if_pos rfl]
  have i1 : (((w.alloc (.cells #[u1, v1] t1)).alloc (.cells #[u2, v2] t2)).alloc (.cells #[u3, v3] t3)).heap[w.heap.size + 1]? = some (.cells #[u2, v2] t2) := by
    rw [e, e, e, Array.getElem?_push, if_neg (by simp), Array.getElem?_push, if_pos (by simp)]
  have i2 : (((w.alloc (.cells #[u1, v1] t1)).alloc (.cells #[u2, v2] t2)).alloc (.cells #[u3, v3] t3)).heap[w.heap.size + 2]? = some (.cells #[u3, v3] t3) := by
    rw [e, e, e, Array.getElem?_push, if_pos (by simp)]
  refine ⟨by rw [e, e, e]; simp, ?_, ?_, ?_, ?_, ?_, ?_, ?_, ?_, below_alloc3 _ _ _ _⟩
  · simp only [World.cell?, i0]; rfl
  · simp only [World.cell?, i0]; rfl
  · simp only [World.cell?, i1]; rfl
  · simp only [World.cell?, i1]; rfl
  · simp only [World.cell?, i2]; rfl
  · simp only [World.cell?, i2]; rfl
  · simp only [World.frozen?, i2]; rfl
  · simp only [World.frozen?, i2]; rfl
/-- In the box gb lie two rows of their own, made since E; all that lay in E is as it was. -/
structure TwoB (E wr : World) (gb : Nat) (v1 v2 : Value) (L1 L2 : List (Int × Int)) : Prop where
  box : wr.heap[gb]? = some (.cells #[v1, v2] 27)
  ctx : wr.ownsRow E.heap.size 55 2 v1 L1.length (flat L1)
  rel : wr.ownsRow E.heap.size 39 2 v2 L2.length (flat L2)
  ne : ∀ g, v1.ownBlock = some g → v2.ownBlock ≠ some g
  n1 : v1.ownBlock ≠ some gb
  n2 : v2.ownBlock ≠ some gb
  bel : Below E.heap.size E wr
  ge : E.heap.size ≤ gb
theorem TwoB.cells {E wr : World} {gb : Nat} {v1 v2 : Value} {L1 L2 : List (Int × Int)} (h : TwoB E wr gb v1 v2 L1 L2) : wr.cell? ⟨gb, 0, none⟩ = some v1 ∧ wr.cell? ⟨gb, 1, none⟩ = some v2 ∧ wr.frozen? ⟨gb, 0, none⟩ = false ∧ wr.frozen? ⟨gb, 1, none⟩ = false ∧ gb < wr.heap.size := by
  have hb := h.box
  refine ⟨by simp [World.cell?, hb], by simp [World.cell?, hb], by simp only [World.frozen?, hb]; rfl, by simp only [World.frozen?, hb]; rfl, (Array.getElem?_eq_some_iff.1 hb).1⟩
theorem TwoB.drawn {E wr wq : World} {gb : Nat} {v1 v2 : Value} {L1 L2 : List (Int × Int)} (h : TwoB E wr gb v1 v2 L1 L2) (hb : Below wr.heap.size wr wq) : TwoB E wq gb v1 v2 L1 L2 :=
  ⟨(hb.block gb h.cells.2.2.2.2).trans h.box, ownsRow_below h.ctx hb, ownsRow_below h.rel hb, h.ne, h.n1, h.n2, h.bel.trans (hb.mono h.bel.size), h.ge⟩
theorem TwoB.after {E wr w1 : World} {gb : Nat} {v1 v2 : Value} {L1 L2 : List (Int × Int)} (h : TwoB E wr gb v1 v2 L1 L2) {o : Obj} {r : Option Nat} (hgrow : (wr.alloc o).drew.grownBy w1 r) (hr : r ≠ some gb) :
    w1.cell? ⟨gb, 0, none⟩ = some v1 ∧ w1.cell? ⟨gb, 1, none⟩ = some v2 ∧ w1.frozen? ⟨gb, 0, none⟩ = false ∧ w1.frozen? ⟨gb, 1, none⟩ = false := by
  have ha := below_alloc wr o
  have hlt := h.cells.2.2.2.2
  have hb : w1.heap[gb]? = some (.cells #[v1, v2] 27) := (hgrow.block gb (Nat.lt_of_lt_of_le hlt ha.size) (Ne.symm hr)).trans ((ha.block gb hlt).trans h.box)
  exact ⟨by simp [World.cell?, hb], by simp [World.cell?, hb], by simp only [World.frozen?, hb]; rfl, by simp only [World.frozen?, hb]; rfl⟩
theorem TwoB.more2 {E wr w1 : World} {gb : Nat} {v1 v2 : Value} {L1 L2 : List (Int × Int)} (h : TwoB E wr gb v1 v2 L1 L2) {o : Obj} {x y : Int} {g cap : Nat}
    (hown : w1.ownsRow E.heap.size 39 2 (.slice (some ⟨g, 0, none⟩) (L2.length + 1) cap) (L2.length + 1) (flat L2 ++ [.int .i64 x, .int .i64 y])) (hgrow : (wr.alloc o).drew.grownBy w1 v2.ownBlock) (hat : v2.ownBlock = some g ∨ g = wr.heap.size + 1) :
    TwoB E (w1.setCell ⟨gb, 1, none⟩ (.slice (some ⟨g, 0, none⟩) (L2.length + 1) cap)) gb v1 (.slice (some ⟨g, 0, none⟩) (L2.length + 1) cap) L1 (L2 ++ [(x, y)]) := by
  have ha := below_alloc wr o
  have h1 := ownsRow_below h.ctx ha
  have hlt := h.cells.2.2.2.2
  have hb1 : w1.heap[gb]? = some (.cells #[v1, v2] 27) := (hgrow.block gb (Nat.lt_of_lt_of_le hlt ha.size) (Ne.symm h.n2)).trans ((ha.block gb hlt).trans h.box)
  have hr1 : w1.ownsRow E.heap.size 55 2 v1 L1.length (flat L1) := by
    refine World.ownsRow.kept (w := (wr.alloc o).drew) h1 hgrow ?_
    cases hv : v1.ownBlock with
    | none => exact .inl rfl
    | some b => exact .inr (fun e => h.ne b hv e.symm)
  have hgg : g ≠ gb := by
    rcases hat with hat | hat
    · intro e
      exact h.n2 (e ▸ hat)
    · omega
  have hng : (Value.slice (some ⟨g, 0, none⟩) (L2.length + 1) cap).ownBlock ≠ some gb := fun e => hgg (by simpa [Value.ownBlock] using e)
  refine ⟨(setCell_block hb1).2, setCell_far hr1 h.n1, ?_, ?_, h.n1, hng, ?_, h.ge⟩
  · rw [List.length_append, flat_app]
    exact setCell_far hown hng
  · intro b hb hv
    have e1 : g = b := by simpa [Value.ownBlock] using hv
    subst e1
    rcases hat with hat | hat
    · exact h.ne g hb hat
    · have := (h.ctx.lt g hb).2
      omega
  · refine Below.setCell (p := ⟨gb, 1, none⟩) ?_ h.ge _
    exact ((h.bel.trans (ha.mono h.bel.size)).drew).grown hgrow (by have := ha.size; have := h.bel.size; show E.heap.size ≤ (wr.alloc o).heap.size; omega) (fun k hk => (h.rel.lt k hk).1)
theorem TwoB.got {E wr : World} {gb r B : Nat} {p1 p2 : Option Addr} {d1 d2 : Nat} {L1 L2 : List (Int × Int)} (h : TwoB E wr gb (.slice p1 L1.length d1) (.slice p2 L2.length d2) L1 L2) (hr : r < E.heap.size) (hB : B ≤ E.heap.size) (u v : Value) :
    Got ((wr.setCell ⟨r, 0, none⟩ u).setCell ⟨r, 1, none⟩ v) B p1 L1.length d1 p2 L2.length d2 L1 L2 := by
  have f1 : (Value.slice p1 L1.length d1).ownBlock ≠ some r := fun e => by have := (h.ctx.lt r e).1; omega
  have f2 : (Value.slice p2 L2.length d2).ownBlock ≠ some r := fun e => by have := (h.rel.lt r e).1; omega
  exact ⟨ownsRow_base (setCell_far (setCell_far h.ctx f1) f1) hB, ownsRow_base (setCell_far (setCell_far h.rel f2) f2) hB, h.ne⟩
theorem twoB_new {E w3 : World} {v1 : Value} {L1 : List (Int × Int)} (ho : w3.ownsRow E.heap.size 55 2 v1 L1.length (flat L1)) (hb : Below E.heap.size E w3) : TwoB E (w3.alloc (.cells #[v1, .slice none 0 0] 27)) w3.heap.size v1 (.slice none 0 0) L1 [] :=
  ⟨heap_alloc_new w3 _, ho.alloc _, World.ownsRow_nil _ _ _ _, (fun g _ h => by cases h), (fun e => by have := (ho.lt _ e).2; omega), (fun h => by cases h), hb.alloc hb.size _, hb.size⟩
theorem wpList_append_nothing {P : Program} {w : World} {ops : Array Oper} {rest : List Oper} {o : Oper} {a : Act} {Q : Exit → Act → World → Prop} (hgd : o.guard = none) (s x : Operand) (t : TypeId)
    (ho : o.op = .call { callee := .builtin .append, args := #[s, x], argTypes := #[t, t] })
    (e : TypeId) (i : TypeInfo) (ht : P.underlying t = some (.slice e)) (hi : P.info? e = some i) (base a1 : Option Addr) (sLen sCap c1 : Nat) (hle : sLen ≤ sCap)
    (hs : a.eval s = .slice base sLen sCap) (hx : a.eval x = .slice a1 0 c1) (h : wpList P ops Q rest (a.put o.dst (.slice base sLen sCap)) w) : wpList P ops Q (o :: rest) a w := by
  refine wpList_plain hgd fun K hK => ?_
  have hrun := run_append_nothing (P := P) w t t o.type e i ht hi base sLen sCap hle (.slice a1 0 c1) ⟨.inl ⟨_, ht⟩, (fun _ => by simp [Builtin.lenOf]), (by cases a1 <;> simp [Builtin.firstCells, loadCells, loadCellsFrom]), (by cases a1 <;> simp [Builtin.firstCells, loadCells, loadCellsFrom]), by simp, by simp⟩
  unfold Oper.wp
  simp [execOp, ho, resolve, invoke, builtin, hs, hx, hrun, Result.andThen]
  exact hK _ _ h
theorem own_here {g k : Nat} (h : (Value.slice (some ⟨g, 0, none⟩) 0 0).ownBlock = some k) : g ≤ k := Nat.le_of_eq (by simpa [Value.ownBlock] using h)
theorem empty_own {T : TypeId} (w : World) : (w.alloc (.cells #[] T)).ownsRow w.heap.size T 2 (.slice (some ⟨w.heap.size, 0, none⟩) 0 0) 0 [] :=
  World.ownsRow_made w #[] 0 (Nat.le_refl _) (by unfold maxLen; omega) (by simp)
end Go.Proofs.Ythcjembekadijaa.RemRS
/- The program's RelationsOf: the relations in which a number occurs. -/
namespace Go.Proofs.Ythcjembekadijaa.RelOf
open Go.RowKit Pairs Rec Find2 GoodM RelM Keep Idx

def occ (z : Int) (p : Int × Int) : Bool := decide (p.1 = z ∨ p.2 = z)
theorem occursIn_true (z x y : Int) (h : x = z ∨ y = z) (w : World) : Calls Try.prog 87 #[.int .i64 z, .agg #[.int .i64 x, .int .i64 y]] w fun e w' => e = .returned (.bool true) ∧ Below w.heap.size w w' := by
  have hb := below_alloc w (.cells #[.int .i64 x, .int .i64 y] 39)
  go_enter Try.func87, Try.ntmps87
  by_cases h1 : x = z
  · subst h1
    clear h
    go_wp2
    go_ret
    exact ⟨rfl, hb⟩
  · have h2 : y = z := h.resolve_left h1
    have hq : (x == z) = false := by simpa using h1
    subst h2
    clear h
    go_wp2
    go_ret
    exact ⟨rfl, hb⟩
theorem occursIn_false (z x y : Int) (h1 : ¬ x = z) (h2 : ¬ y = z) (w : World) : Calls Try.prog 87 #[.int .i64 z, .agg #[.int .i64 x, .int .i64 y]] w fun e w' => e = .returned (.bool false) ∧ Below w.heap.size w w' := by
  have hb := below_alloc w (.cells #[.int .i64 x, .int .i64 y] 39)
  have hq : (x == z) = false := by simpa using h1
  have hq2 : (y == z) = false := by simpa using h2
  go_enter Try.func87, Try.ntmps87
  go_wp2
  go_ret
  exact ⟨rfl, hb⟩
theorem cell_two_new (w : World) (x y : Value) (t : TypeId) : ∀ j u, [x, y][j]? = some u → (w.alloc (.cells #[x, y] t)).cell? ((⟨w.heap.size, 0, none⟩ : Addr).add j) = some u := by
  intro j u hj
  match j, hj with
  | 0, hj =>
    simp at hj
    subst hj
    exact box_first w x y t
  | 1, hj =>
    simp at hj
    subst hj
    exact box_second w x y t
theorem flat_append (l1 l2 : List (Int × Int)) : flat (l1 ++ l2) = flat l1 ++ flat l2 := by unfold flat; rw [List.flatMap_append]
theorem flat_one (x y : Int) : flat [(x, y)] = [.int .i64 x, .int .i64 y] := rfl
/-- How a filtered row grows. -/
theorem filt_next (q : Int × Int → Bool) {m : List (Int × Int)} {k : Nat} {x y : Int} (hx : m[k]? = some (x, y)) : (m.take (k + 1)).filter q = (m.take k).filter q ++ (if q (x, y) then [(x, y)] else []) := by
  rw [List.take_add_one, hx, List.filter_append]
  cases h : q (x, y) <;> simp [h]
theorem filt_len (q : Int × Int → Bool) (m : List (Int × Int)) (k : Nat) : ((m.take k).filter q).length ≤ k :=
  Nat.le_trans (List.length_filter_le _ _) (by rw [List.length_take]; omega)
/-- A row under way: a value that owns what the filter has kept of the first k. -/
def Got1 (T : TypeId) (B : Nat) (w wr : World) (v : Value) (q : Int × Int → Bool) (m : List (Int × Int)) (k : Nat) : Prop :=
  wr.ownsRow B T 2 v ((m.take k).filter q).length (flat ((m.take k).filter q)) ∧ Below B w wr
theorem own_form {T : TypeId} {B n : Nat} {w : World} {v : Value} {xs : List Value} (h : w.ownsRow B T 2 v n xs) : ∃ p d, v = .slice p n d := by
  rcases h.2 with ⟨hv, hn⟩ | ⟨g, cap, cur, hv, _⟩
  · subst hn
    exact ⟨none, 0, hv⟩
  · exact ⟨_, cap, hv⟩
def relsOf (z : Int) (l m : List (Int × Int)) : Option (List (Int × Int)) := if good l m = true ∧ (isAt l z).isSome = true then some (m.filter (occ z)) else none
theorem good_few {l m : List (Int × Int)} (h : good l m = true) : l.length ≤ 10 ∧ m.length ≤ 24 := by
  unfold good at h
  simp only [Bool.and_eq_true, decide_eq_true_eq] at h
  exact ⟨h.1.1.1, h.1.1.2⟩
theorem relsOf_none {z : Int} {l m : List (Int × Int)} (h : ¬ (good l m = true ∧ (isAt l z).isSome = true)) : relsOf z l m = none := by unfold relsOf; rw [if_neg h]
theorem relsOf_some {z : Int} {l m : List (Int × Int)} (h1 : good l m = true) (h2 : (isAt l z).isSome = true) : relsOf z l m = some (m.filter (occ z)) := by unfold relsOf; rw [if_pos ⟨h1, h2⟩]
theorem empty_own {T : TypeId} (w : World) : (w.alloc (.cells #[] T)).ownsRow w.heap.size T 2 (.slice (some ⟨w.heap.size, 0, none⟩) 0 0) 0 [] :=
  World.ownsRow_made w #[] 0 (Nat.le_refl _) (by unfold maxLen; omega) (by simp)
set_option maxRecDepth 100000 in
set_option maxHeartbeats 4000000 in
theorem impl_any (z : Int) : GivesS.Gives 44 (.int .i64 z) (relsOf z) := by
  intro a1 a2 n1 c1 n2 c2 l m w hz1 hz2 h1 h2
  obtain ⟨i0, hi, hy0, hy1, hy2⟩ := info_parts infoRelation
  have hb := below_alloc w (.cells #[.slice a1 n1 c1, .slice a2 n2 c2] 27)
  have hf := box_first w (.slice a1 n1 c1) (.slice a2 n2 c2) 27
  have hf2 := box_second w (.slice a1 n1 c1) (.slice a2 n2 c2) 27
  have H1 := Lib.hid (h1.below hb)
  have H2 := Lib.hid (h2.below hb)
  have hsz : w.heap.size < (w.alloc (.cells #[.slice a1 n1 c1, .slice a2 n2 c2] 27)).heap.size := by simp
  clear h1 h2
  go_enter Try.func44, Try.ntmps44
  go_wp2_with fail
  generalize w.alloc (.cells #[.slice a1 n1 c1, .slice a2 n2 c2] 27) = W at *
  refine (impl_Index a1 a2 n1 c1 n2 c2 l m z W hz1 hz2 H1.out H2.out).mono ?_
  rintro e w1 ⟨rfl, b1⟩
  have hbb := hb.trans (b1.mono hb.size)
  by_cases hg : good l m = true ∧ (isAt l z).isSome = true
  · have hi1 : idx l m z = (find l z, true) := by unfold idx; rw [if_pos hg]
    rw [hi1]
    clear hi1
    have HE := Lib.hid (relsOf_some hg.1 hg.2)
    have hn2 : n2 ≤ 24 := by rw [← H2.out.1]; exact (good_few hg.1).2
    clear hg
    have r2 := (b1.cell (p := ⟨w.heap.size, 1, none⟩) hsz).trans hf2
    have hsz1 := Nat.lt_of_lt_of_le hsz b1.size
    have he0 := below_alloc w1 (.cells #[] 39)
    have s2 := (he0.cell (p := ⟨w.heap.size, 1, none⟩) hsz1).trans r2
    have ho0 := empty_own (T := 39) w1
    have HM3 : Hid (∀ wr, Below w1.heap.size (w1.alloc (.cells #[] 39)) wr → Holds wr a2 n2 m) := fun wr hwr => (H2.out.below b1).below (he0.trans hwr)
    have HB2 := Lib.hid (hbb.trans (he0.mono hbb.size))
    have hG0 : Got1 39 w1.heap.size (w1.alloc (.cells #[] 39)) (w1.alloc (.cells #[] 39)) (.slice (some ⟨w1.heap.size, 0, none⟩) 0 0) (occ z) m 0 := ⟨ho0, Below.refl _ _⟩
    clear hf hf2 b1 hbb r2 ho0 he0
    go_wp2_with fail
    have hsz2 : w1.heap.size < (w1.alloc (.cells #[] 39)).heap.size := by simp
    generalize w1.alloc (.cells #[] 39) = W2 at *
    go_loopw [8, 24] (fun s8 s24 wr => ∃ k : Nat, k ≤ n2 ∧ s24 = .int .i64 k ∧ Got1 39 w1.heap.size W2 wr s8 (occ z) m k) (fun _ s24 _ => n2 - (intOf s24).toNat)
    case atStart => exact ⟨0, Nat.zero_le _, rfl, hG0⟩
    case round =>
      obtain ⟨k, hk, rfl, hR⟩ := hrel
      clear hG0
      by_cases hlt : k < n2
      · obtain ⟨b, off, x, y, rfl, hx, e1, e2⟩ := (HM3.out wr hR.2).at k hlt
        have HX := Lib.hid (filt_next (occ z) hx)
        have hkn : (k : Int) < (n2 : Int) := by omega
        have hb7 := below_alloc wr (.cells #[.int .i64 x, .int .i64 y] 39)
        have u1 := box_first wr (.int .i64 x) (.int .i64 y) 39
        have u2' := box_second wr (.int .i64 x) (.int .i64 y) 39
        have hsz7 : wr.heap.size < (wr.alloc (.cells #[.int .i64 x, .int .i64 y] 39)).heap.size := by simp
        have hBs : w1.heap.size ≤ wr.heap.size := Nat.le_trans (Nat.le_of_lt hsz2) hR.2.size
        have HR := Lib.hid hR
        clear hx hR
        go_wp2_with fail
        generalize wr.alloc (.cells #[.int .i64 x, .int .i64 y] 39) = W7 at *
        clear e1 e2
        by_cases ho : x = z ∨ y = z
        · refine (occursIn_true z x y ho W7).mono ?_
          rintro e w8 ⟨rfl, b8⟩
          have b78 := hb7.trans (b8.mono hb7.size)
          have v1 := (b8.cell (p := ⟨wr.heap.size, 0, none⟩) hsz7).trans u1
          have v2 := (b8.cell (p := ⟨wr.heap.size, 1, none⟩) hsz7).trans u2'
          have hown := ownsRow_below HR.out.1 b78
          have hfl := filt_len (occ z) m k
          have ho1 : occ z (x, y) = true := decide_eq_true ho
          have HO := Lib.hid ho1
          have HBD := Lib.hid (HR.out.2.trans (b78.mono hBs))
          have hs8 := b78.size
          clear ho ho1 u1 u2' b8 hb7 b78
          go_wp2_with (at_builtin; refine wpList_append_own _ rfl _ _ 25 rfl w1.heap.size 39 i0 (.agg #[.int .i64 0, .int .i64 0]) 2 16 Try.underlying25 hi hy0 hy1 hy2 rfl (by decide) _ _ _ rfl (hown.alloc _) ⟨w8.heap.size, 0, none⟩ 1 1 [.int .i64 x, .int .i64 y] rfl rfl (cell_two_new _ _ _ _) (by simp [Value.oneCell']) (by unfold maxLen; omega) (by omega) (by simp; omega) ?_; intro v' w9 hown' hgrow hnil)
          have hG : Got1 39 w1.heap.size W2 w9 v' (occ z) m (k + 1) := by
            unfold Got1
            rw [HX.out, HO.out, if_pos rfl, List.length_append, flat_append, flat_one]
            refine ⟨hown', ?_⟩
            exact (HBD.out.alloc (by omega) _).grown hgrow (by simp; omega) (fun j hj => (hown.lt j hj).1)
          have HG := Lib.hid hG
          clear hG hown' hgrow hown hnil
          exact ⟨⟨k + 1, by omega, by go_num, HG.out⟩, by simp [intOf]; omega⟩
        · have hx1 : ¬ x = z := fun h => ho (.inl h)
          have hx2 : ¬ y = z := fun h => ho (.inr h)
          refine (occursIn_false z x y hx1 hx2 W7).mono ?_
          rintro e w8 ⟨rfl, b8⟩
          have b78 := hb7.trans (b8.mono hb7.size)
          have hG : Got1 39 w1.heap.size W2 w8 u8 (occ z) m (k + 1) := by
            unfold Got1
            rw [HX.out, if_neg (by unfold occ; simp [hx1, hx2]), List.append_nil]
            exact ⟨ownsRow_below HR.out.1 b78, HR.out.2.trans (b78.mono hBs)⟩
          have HG := Lib.hid hG
          clear hG ho hx1 hx2
          go_wp2_with fail
          exact ⟨⟨k + 1, by omega, by go_num, HG.out⟩, by simp [intOf]; omega⟩
      · obtain rfl : k = n2 := by omega
        have hkn : ¬ (k : Int) < (k : Int) := by omega
        have hown := hR.1
        rw [List.take_of_length_le (by rw [(HM3.out wr hR.2).1]; omega)] at hown
        have hfl : (m.filter (occ z)).length ≤ 24 := Nat.le_trans (List.length_filter_le _ _) (by rw [(HM3.out wr hR.2).1]; omega)
        have HBD := Lib.hid (HB2.out.trans (hR.2.mono (by have := HB2.out.size; omega)))
        have HO := Lib.hid hown
        obtain ⟨p, d, rfl⟩ := own_form hown
        clear hown hR
        go_wp2_with fail
        go_ret2
        rw [HE.out]
        exact ⟨_, _, _, rfl, ownsRow_base HO.out (by omega), by show (m.filter (occ z)).length ≤ _; omega, HBD.out⟩
  · have hi1 : idx l m z = (0, false) := by unfold idx; rw [if_neg hg]
    rw [hi1]
    clear hi1
    have HE := Lib.hid (relsOf_none hg)
    clear hg
    go_wp2_with fail
    go_ret2
    rw [HE.out]
    exact ⟨_, _, _, rfl, ownsRow_base (empty_own _) hbb.size, by omega, hbb.trans ((below_alloc _ _).mono hbb.size)⟩
end Go.Proofs.Ythcjembekadijaa.RelOf
/- A valid record, said of its members; what a record is that has been changed and changed back. -/
namespace Go.Proofs.Ythcjembekadijaa.GoodE
open Pairs Find2 GoodM RelM SwapM EquM SortC
open RemC (isAt_split)
def AscP (l : List (Int × Int)) : Prop := l.Pairwise (fun a b => a.1 < b.1)
theorem ascP_of {l : List (Int × Int)} (h : Asc l) : AscP l := by
  unfold AscP
  rw [List.pairwise_iff_getElem]
  intro i j hi hj hij
  obtain ⟨d, rfl⟩ : ∃ d, j = i + d + 1 := ⟨j - i - 1, by omega⟩
  exact h.lt d i _ _ (List.getElem?_eq_getElem hi) (List.getElem?_eq_getElem hj)
theorem AscP.ext {l1 l2 : List (Int × Int)} (h1 : AscP l1) (h2 : AscP l2) (h : ∀ x, x ∈ l1 ↔ x ∈ l2) : l1 = l2 := by
  have n1 : l1.Nodup := h1.imp (fun {a b} hab e => by subst e; omega)
  have n2 : l2.Nodup := h2.imp (fun {a b} hab e => by subst e; omega)
  have hp : l1.Perm l2 := (List.perm_ext_iff_of_nodup n1 n2).2 h
  refine hp.eq_of_pairwise (le := fun (p q : Int × Int) => p.1 < q.1) ?_ h1 h2
  intro a b _ _ h3 h4
  omega
structure Good (l m : List (Int × Int)) : Prop where
  few1 : l.length ≤ 10
  few2 : m.length ≤ 24
  asc : AscP l
  num : ∀ p ∈ l, 1 ≤ p.1 ∧ p.1 ≤ 999 ∧ 1 ≤ p.2 ∧ p.2 ≤ 4
  up : Up m
  rel : ∀ p ∈ m, p.1 ≠ p.2 ∧ (∃ u, (p.1, u) ∈ l) ∧ ∃ v, (p.2, v) ∈ l
theorem isAt_of_mem {l : List (Int × Int)} {x u : Int} (h : (x, u) ∈ l) : ∃ i, isAt l x = some i := by
  have h1 : (isAt l x).isSome = true := by
    unfold isAt
    rw [List.findIdx?_isSome, List.any_eq_true]
    exact ⟨(x, u), h, by simp⟩
  exact Option.isSome_iff_exists.1 h1
theorem mem_of_isAt {l : List (Int × Int)} {x : Int} (h : (isAt l x).isSome = true) : ∃ u, (x, u) ∈ l := by
  unfold isAt at h
  rw [List.findIdx?_isSome, List.any_eq_true] at h
  obtain ⟨⟨a, u⟩, h1, h2⟩ := h
  obtain rfl : a = x := by simpa using h2
  exact ⟨u, h1⟩
theorem isAt_none_of {l : List (Int × Int)} {x : Int} (h : ∀ u, (x, u) ∉ l) : isAt l x = none := by
  cases hh : isAt l x with
  | none => rfl
  | some i => obtain ⟨u, hu⟩ := mem_of_isAt (l := l) (x := x) (by rw [hh]; rfl); exact absurd hu (h u)
theorem good_of {l m : List (Int × Int)} (h : Good l m) : good l m = true := by
  refine good_true h.few1 h.few2 (fun j hj => ?_) (fun j hj => ?_)
  · have hx := List.getElem?_eq_getElem hj
    obtain ⟨h1, h2, h3, h4⟩ := h.num _ (List.getElem_mem hj)
    cases j with
    | zero => exact okC_first (x := l[0].1) (y := l[0].2) hx ⟨h1, h2⟩ ⟨h3, h4⟩
    | succ k =>
      have hk : k < l.length := by omega
      exact okC_next (x := l[k + 1].1) (y := l[k + 1].2) (p := l[k].1) (q := l[k].2) hx (List.getElem?_eq_getElem hk) ⟨h1, h2⟩ ⟨h3, h4⟩ (List.pairwise_iff_getElem.1 h.asc k (k + 1) hk hj (by omega))
  · have hx := List.getElem?_eq_getElem hj
    obtain ⟨h0, ⟨u, h1⟩, v, h2⟩ := h.rel _ (List.getElem_mem hj)
    obtain ⟨i, h1⟩ := isAt_of_mem h1
    obtain ⟨k, h2⟩ := isAt_of_mem h2
    cases j with
    | zero => exact okR_first (x := m[0].1) (y := m[0].2) hx h0 h1 h2
    | succ j =>
      have hk : j < m.length := by omega
      rw [okR_prev (x := m[j + 1].1) (y := m[j + 1].2) (p := m[j].1) (q := m[j].2) hx (List.getElem?_eq_getElem hk) h0 h1 h2]
      exact List.pairwise_iff_getElem.1 h.up j (j + 1) hk hj (by omega)
theorem good_is {l m : List (Int × Int)} (h : good l m = true) : Good l m := by
  have h0 := h
  unfold good at h
  simp only [Bool.and_eq_true, decide_eq_true_eq, List.all_eq_true, List.mem_range] at h
  obtain ⟨⟨⟨h1, h2⟩, h3⟩, h4⟩ := h
  refine ⟨h1, h2, ascP_of (asc_of_ok h3), fun p hp => ?_, ?_, fun p hp => ?_⟩
  · obtain ⟨k, hk, e⟩ := List.getElem_of_mem hp
    have := h3 k hk
    unfold okC at this
    rw [List.getElem?_eq_getElem hk, e] at this
    simp only [Bool.and_eq_true, decide_eq_true_eq] at this
    exact ⟨this.1.1.1.1, this.1.1.1.2, this.1.1.2, this.1.2⟩
  · unfold Up
    rw [List.pairwise_iff_getElem]
    intro i j hi hj hij
    have hu : ∀ i x y, m[i]? = some x → m[i + 1]? = some y → before x y = true := by
      intro i x y hx hy
      have hl := (List.getElem?_eq_some_iff.1 hy).1
      have hk := h4 (i + 1) hl
      unfold okR at hk
      rw [hy, Nat.add_sub_cancel, hx] at hk
      unfold before
      simp only [Bool.and_eq_true, Bool.or_eq_true, decide_eq_true_eq] at hk
      rcases hk.2 with h0 | h0
      · omega
      · exact decide_eq_true h0
    have hd : ∀ (d i : Nat) (x y : Int × Int), m[i]? = some x → m[i + d + 1]? = some y → before x y = true := by
      intro d
      induction d with
      | zero => exact fun i x y hx hy => hu i x y hx hy
      | succ d ih =>
        intro i x y hx hy
        have hl : i + d + 1 < m.length := by
          have := (List.getElem?_eq_some_iff.1 hy).1
          omega
        have hz : m[i + d + 1]? = some m[i + d + 1] := List.getElem?_eq_getElem hl
        exact before_trans (ih i x _ hx hz) (hu (i + d + 1) _ y hz hy)
    obtain ⟨d, rfl⟩ : ∃ d, j = i + d + 1 := ⟨j - i - 1, by omega⟩
    exact hd d i _ _ (List.getElem?_eq_getElem hi) (List.getElem?_eq_getElem hj)
  · obtain ⟨k, hk, e⟩ := List.getElem_of_mem hp
    have := h4 k hk
    unfold okR at this
    rw [List.getElem?_eq_getElem hk, e] at this
    simp only [Bool.and_eq_true, decide_eq_true_eq] at this
    exact ⟨this.1.1.1, mem_of_isAt this.1.1.2, mem_of_isAt this.1.2⟩
theorem AscP.one {l : List (Int × Int)} (h : AscP l) {x u v : Int} (h1 : (x, u) ∈ l) (h2 : (x, v) ∈ l) : u = v := by
  obtain ⟨i, hi, e1⟩ := List.getElem_of_mem h1
  obtain ⟨j, hj, e2⟩ := List.getElem_of_mem h2
  have hp := List.pairwise_iff_getElem.1 h
  rcases Nat.lt_trichotomy i j with hij | hij | hij
  · have := hp i j hi hj hij
    rw [e1, e2] at this
    exact absurd this (by simp)
  · subst hij
    rw [e1] at e2
    injection e2
  · have := hp j i hj hi hij
    rw [e1, e2] at this
    exact absurd this (by simp)
theorem ascP_ins {l : List (Int × Int)} (h : AscP l) {x k : Int} (hx : ∀ u, (x, u) ∉ l) : AscP (ins l (pl l x) (x, k)) := by
  unfold ins AscP
  have h' := h
  rw [← List.take_append_drop (pl l x) l] at h'
  unfold AscP at h'
  rw [List.pairwise_append] at h' ⊢
  have hne : ∀ p ∈ l, p.1 ≠ x := fun p hp e => hx p.2 (by rw [← e]; exact hp)
  have ht : ∀ p ∈ l.take (pl l x), p.1 < x := by
    intro p hp
    obtain ⟨j, hj, he⟩ := List.mem_take_iff_getElem.1 hp
    have := List.not_of_lt_findIdx (p := fun (p : Int × Int) => decide (x ≤ p.1)) (xs := l) (show j < _ from by unfold pl at hj; omega)
    rw [he] at this
    simpa using this
  have hd : ∀ p ∈ l.drop (pl l x), x < p.1 := by
    intro p hp
    have hpl := List.mem_of_mem_drop hp
    have h1 := hne p hpl
    obtain ⟨j, hj, he⟩ := List.getElem_of_mem hp
    rw [List.getElem_drop] at he
    rw [List.length_drop] at hj
    have hlt : pl l x < l.length := by omega
    have hat : x ≤ l[pl l x].1 := by
      have := List.findIdx_getElem (p := fun (p : Int × Int) => decide (x ≤ p.1)) (xs := l) (w := hlt)
      unfold pl
      simpa using this
    by_cases hj0 : j = 0
    · subst hj0
      simp only [Nat.add_zero] at he
      rw [he] at hat
      omega
    · have := List.pairwise_iff_getElem.1 h (pl l x) (pl l x + j) hlt (by omega) (by omega)
      rw [he] at this
      omega
  refine ⟨h'.1, ?_, ?_⟩
  · rw [List.pairwise_cons]
    exact ⟨fun p hp => hd p hp, h'.2.1⟩
  · intro a ha b hb
    rcases List.mem_cons.1 hb with rfl | hb
    · exact ht a ha
    · exact h'.2.2 a ha b hb
theorem ascP_filter {l : List (Int × Int)} (h : AscP l) (q : Int × Int → Bool) : AscP (l.filter q) := List.Pairwise.filter _ h
theorem up_filter {m : List (Int × Int)} (h : Up m) (q : Int × Int → Bool) : Up (m.filter q) := List.Pairwise.filter _ h
/-- Where a number stands, and with which kind. -/
theorem isAt_at {l : List (Int × Int)} {z : Int} {i : Nat} (h : isAt l z = some i) : ∃ u, l[i]? = some (z, u) := by
  unfold isAt at h
  rw [List.findIdx?_eq_some_iff_getElem] at h
  obtain ⟨hl, h1, _⟩ := h
  have e : l[i].1 = z := by simpa using h1
  exact ⟨l[i].2, by rw [List.getElem?_eq_getElem hl, ← e]⟩
theorem mem_rest {l m : List (Int × Int)} {z : Int} {i : Nat} (hg : good l m = true) (hi : isAt l z = some i) {p : Int × Int} : p ∈ rest l i ↔ p ∈ l ∧ p.1 ≠ z := by
  obtain ⟨_, _, _, h3⟩ := isAt_split hg hi
  unfold rest
  rw [h3, List.mem_filter]
  unfold RemCS.notC
  simp
theorem asc_rest {l m : List (Int × Int)} {z : Int} {i : Nat} (hg : good l m = true) (hi : isAt l z = some i) : AscP (rest l i) := by
  obtain ⟨_, _, _, h3⟩ := isAt_split hg hi
  unfold rest
  rw [h3]
  exact ascP_filter (good_is hg).asc _
theorem mem_swap {o n : Int} {m : List (Int × Int)} {y : Int × Int} : y ∈ swapM o n m ↔ (∃ p ∈ m, rnp o n p = y) ∧ y.1 ≠ y.2 := by
  unfold swapM
  rw [mem_fold]
  unfold pre nz
  rw [List.mem_filter, List.mem_map]
  simp
theorem up_swap {o n : Int} {m : List (Int × Int)} : Up (swapM o n m) := by
  unfold swapM
  exact up_fold _ _ up_nil
end Go.Proofs.Ythcjembekadijaa.GoodE
