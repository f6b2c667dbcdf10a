/- The model's RemoveRelation: a record without a relation. -/
import Derived.Test.YtldalomoojhbkabTwo
import Derived.Test.YtldalomoojhbkabGood2
import Derived.Test.YtldalomoojhbkabGives
import Derived.Test.YtldalomoojhbkabEq2
import Derived.Deep.RegionLaw
import Derived.Laws.AppendOwnNone
import Derived.OwnWalk
import Derived.Deep.Upon
import Derived.Deep.DeepCutAuto
import Derived.BigQuiet
namespace Go.Proofs.Ytldalomoojhbkab.RemRS
open Go.RowKit Pairs Rec RecEq Find2 GoodM RelM Keep Row2 Copy Two Gives Eq2

def ne2 (u v : Int) (p : Int × Int) : Bool := decide (p ≠ (u, v))
def remR (u v : Int) : RR := fun l m => if good l m = true ∧ (u, v) ∈ m then some (l, m.filter (ne2 u v)) else none
theorem remR_none {u v : Int} {l m : List (Int × Int)} (h : ¬ (good l m = true ∧ (u, v) ∈ m)) : remR u v l m = none := by unfold remR; rw [if_neg h]
theorem remR_some {u v : Int} {l m : List (Int × Int)} (h1 : good l m = true) (h2 : (u, v) ∈ m) : remR u v l m = some (l, m.filter (ne2 u v)) := by unfold remR; rw [if_pos ⟨h1, h2⟩]
theorem good_few {l m : List (Int × Int)} (h : good l m = true) : l.length ≤ 10 ∧ m.length ≤ 24 := by
  unfold good at h
  simp only [Bool.and_eq_true, decide_eq_true_eq] at h
  exact ⟨h.1.1.1, h.1.1.2⟩
theorem filt_next (q : Int × Int → Bool) {m : List (Int × Int)} {k : Nat} {x y : Int} (hx : m[k]? = some (x, y)) : (m.take (k + 1)).filter q = (m.take k).filter q ++ (if q (x, y) then [(x, y)] else []) := by
  rw [List.take_add_one, hx, List.filter_append]
  cases h : q (x, y) <;> simp [h]
theorem filt_len (q : Int × Int → Bool) (m : List (Int × Int)) (k : Nat) : ((m.take k).filter q).length ≤ k :=
  Nat.le_trans (List.length_filter_le _ _) (by rw [List.length_take]; omega)
theorem new_pair (w : World) (x y : Value) (t : TypeId) : ∀ j u, [x, y][j]? = some u → (w.alloc (.cells #[x, y] t)).drew.cell? ((⟨w.heap.size, 0, none⟩ : Addr).add j) = some u := by
  intro j u hj
  match j, hj with
  | 0, hj =>
    simp at hj
    subst hj
    exact box_first w x y t
  | 1, hj =>
    simp at hj
    subst hj
    exact box_second w x y t
theorem own_drew {w : World} {B e s : Nat} {v : Value} {n : Nat} {xs : List Value} (h : w.ownsRow B e s v n xs) : w.drew.ownsRow B e s v n xs := h
/-- All are kept just where none is the one. -/
theorem filt_all {u v : Int} {m : List (Int × Int)} : (m.filter (ne2 u v)).length = m.length ↔ (u, v) ∉ m := by
  rw [List.length_filter_eq_length_iff]
  constructor
  · intro h hm
    have := h _ hm
    unfold ne2 at this
    simp at this
  · intro h p hp
    unfold ne2
    exact decide_eq_true (fun e => h (e ▸ hp))
theorem boxes222 (w : World) (u1 v1 u2 v2 u3 v3 : Value) (t1 t2 t3 : TypeId) :
    let W := ((w.alloc (.cells #[u1, v1] t1)).alloc (.cells #[u2, v2] t2)).alloc (.cells #[u3, v3] t3)
    W.heap.size = w.heap.size + 3 ∧ W.cell? ⟨w.heap.size, 0, none⟩ = some u1 ∧ W.cell? ⟨w.heap.size, 1, none⟩ = some v1 ∧ W.cell? ⟨w.heap.size + 1, 0, none⟩ = some u2 ∧ W.cell? ⟨w.heap.size + 1, 1, none⟩ = some v2 ∧ W.cell? ⟨w.heap.size + 2, 0, none⟩ = some u3 ∧ W.cell? ⟨w.heap.size + 2, 1, none⟩ = some v3 ∧
      W.frozen? ⟨w.heap.size + 2, 0, none⟩ = false ∧ W.frozen? ⟨w.heap.size + 2, 1, none⟩ = false ∧ Below w.heap.size w W := by
  have e : ∀ (w : World) (o : Obj), (w.alloc o).heap = w.heap.push o := fun _ _ => rfl
  have i0 : (((w.alloc (.cells #[u1, v1] t1)).alloc (.cells #[u2, v2] t2)).alloc (.cells #[u3, v3] t3)).heap[w.heap.size]? = some (.cells #[u1, v1] t1) := by
    rw [e, e, e, Array.getElem?_push, if_neg (by simp; omega), Array.getElem?_push, if_neg (by simp), Array.getElem?_push, if_pos rfl]
  have i1 : (((w.alloc (.cells #[u1, v1] t1)).alloc (.cells #[u2, v2] t2)).alloc (.cells #[u3, v3] t3)).heap[w.heap.size + 1]? = some (.cells #[u2, v2] t2) := by
    rw [e, e, e, Array.getElem?_push, if_neg (by simp), Array.getElem?_push, if_pos (by simp)]
  have i2 : (((w.alloc (.cells #[u1, v1] t1)).alloc (.cells #[u2, v2] t2)).alloc (.cells #[u3, v3] t3)).heap[w.heap.size + 2]? = some (.cells #[u3, v3] t3) := by
    rw [e, e, e, Array.getElem?_push, if_pos (by simp)]
  refine ⟨by rw [e, e, e]; simp, ?_, ?_, ?_, ?_, ?_, ?_, ?_, ?_, below_alloc3 _ _ _ _⟩
  · simp only [World.cell?, i0]; rfl
  · simp only [World.cell?, i0]; rfl
  · simp only [World.cell?, i1]; rfl
  · simp only [World.cell?, i1]; rfl
  · simp only [World.cell?, i2]; rfl
  · simp only [World.cell?, i2]; rfl
  · simp only [World.frozen?, i2]; rfl
  · simp only [World.frozen?, i2]; rfl
/-- In the box gb lie two rows of their own, made since E; all that lay in E is as it was. -/
structure TwoB (E wr : World) (gb : Nat) (v1 v2 : Value) (L1 L2 : List (Int × Int)) : Prop where
  box : wr.heap[gb]? = some (.cells #[v1, v2] 32)
  ctx : wr.ownsRow E.heap.size 74 2 v1 L1.length (flat L1)
  rel : wr.ownsRow E.heap.size 36 2 v2 L2.length (flat L2)
  ne : ∀ g, v1.ownBlock = some g → v2.ownBlock ≠ some g
  n1 : v1.ownBlock ≠ some gb
  n2 : v2.ownBlock ≠ some gb
  bel : Below E.heap.size E wr
  ge : E.heap.size ≤ gb
theorem TwoB.cells {E wr : World} {gb : Nat} {v1 v2 : Value} {L1 L2 : List (Int × Int)} (h : TwoB E wr gb v1 v2 L1 L2) : wr.cell? ⟨gb, 0, none⟩ = some v1 ∧ wr.cell? ⟨gb, 1, none⟩ = some v2 ∧ wr.frozen? ⟨gb, 0, none⟩ = false ∧ wr.frozen? ⟨gb, 1, none⟩ = false ∧ gb < wr.heap.size := by
  have hb := h.box
  refine ⟨by simp [World.cell?, hb], by simp [World.cell?, hb], by simp only [World.frozen?, hb]; rfl, by simp only [World.frozen?, hb]; rfl, (Array.getElem?_eq_some_iff.1 hb).1⟩
theorem TwoB.drawn {E wr wq : World} {gb : Nat} {v1 v2 : Value} {L1 L2 : List (Int × Int)} (h : TwoB E wr gb v1 v2 L1 L2) (hb : Below wr.heap.size wr wq) : TwoB E wq gb v1 v2 L1 L2 :=
  ⟨(hb.block gb h.cells.2.2.2.2).trans h.box, ownsRow_below h.ctx hb, ownsRow_below h.rel hb, h.ne, h.n1, h.n2, h.bel.trans (hb.mono h.bel.size), h.ge⟩
theorem TwoB.after {E wr w1 : World} {gb : Nat} {v1 v2 : Value} {L1 L2 : List (Int × Int)} (h : TwoB E wr gb v1 v2 L1 L2) {o : Obj} {r : Option Nat} (hgrow : (wr.alloc o).drew.grownBy w1 r) (hr : r ≠ some gb) :
    w1.cell? ⟨gb, 0, none⟩ = some v1 ∧ w1.cell? ⟨gb, 1, none⟩ = some v2 ∧ w1.frozen? ⟨gb, 0, none⟩ = false ∧ w1.frozen? ⟨gb, 1, none⟩ = false := by
  have ha := below_alloc wr o
  have hlt := h.cells.2.2.2.2
  have hb : w1.heap[gb]? = some (.cells #[v1, v2] 32) := (hgrow.block gb (Nat.lt_of_lt_of_le hlt ha.size) (Ne.symm hr)).trans ((ha.block gb hlt).trans h.box)
  exact ⟨by simp [World.cell?, hb], by simp [World.cell?, hb], by simp only [World.frozen?, hb]; rfl, by simp only [World.frozen?, hb]; rfl⟩
theorem TwoB.more2 {E wr w1 : World} {gb : Nat} {v1 v2 : Value} {L1 L2 : List (Int × Int)} (h : TwoB E wr gb v1 v2 L1 L2) {o : Obj} {x y : Int} {g cap : Nat}
    (hown : w1.ownsRow E.heap.size 36 2 (.slice (some ⟨g, 0, none⟩) (L2.length + 1) cap) (L2.length + 1) (flat L2 ++ [.int .i64 x, .int .i64 y])) (hgrow : (wr.alloc o).drew.grownBy w1 v2.ownBlock) (hat : v2.ownBlock = some g ∨ g = wr.heap.size + 1) :
    TwoB E (w1.setCell ⟨gb, 1, none⟩ (.slice (some ⟨g, 0, none⟩) (L2.length + 1) cap)) gb v1 (.slice (some ⟨g, 0, none⟩) (L2.length + 1) cap) L1 (L2 ++ [(x, y)]) := by
  have ha := below_alloc wr o
  have h1 := ownsRow_below h.ctx ha
  have hlt := h.cells.2.2.2.2
  have hb1 : w1.heap[gb]? = some (.cells #[v1, v2] 32) := (hgrow.block gb (Nat.lt_of_lt_of_le hlt ha.size) (Ne.symm h.n2)).trans ((ha.block gb hlt).trans h.box)
  have hr1 : w1.ownsRow E.heap.size 74 2 v1 L1.length (flat L1) := by
    refine World.ownsRow.kept (w := (wr.alloc o).drew) h1 hgrow ?_
    cases hv : v1.ownBlock with
    | none => exact .inl rfl
    | some b => exact .inr (fun e => h.ne b hv e.symm)
  have hgg : g ≠ gb := by
    rcases hat with hat | hat
    · intro e
      exact h.n2 (e ▸ hat)
    · omega
  have hng : (Value.slice (some ⟨g, 0, none⟩) (L2.length + 1) cap).ownBlock ≠ some gb := fun e => hgg (by simpa [Value.ownBlock] using e)
  refine ⟨(setCell_block hb1).2, setCell_far hr1 h.n1, ?_, ?_, h.n1, hng, ?_, h.ge⟩
  · rw [List.length_append, flat_app]
    exact setCell_far hown hng
  · intro b hb hv
    have e1 : g = b := by simpa [Value.ownBlock] using hv
    subst e1
    rcases hat with hat | hat
    · exact h.ne g hb hat
    · have := (h.ctx.lt g hb).2
      omega
  · refine Below.setCell (p := ⟨gb, 1, none⟩) ?_ h.ge _
    exact ((h.bel.trans (ha.mono h.bel.size)).drew).grown hgrow (by have := ha.size; have := h.bel.size; show E.heap.size ≤ (wr.alloc o).heap.size; omega) (fun k hk => (h.rel.lt k hk).1)
theorem TwoB.got {E wr : World} {gb r B : Nat} {p1 p2 : Option Addr} {d1 d2 : Nat} {L1 L2 : List (Int × Int)} (h : TwoB E wr gb (.slice p1 L1.length d1) (.slice p2 L2.length d2) L1 L2) (hr : r < E.heap.size) (hB : B ≤ E.heap.size) (u v : Value) :
    Got ((wr.setCell ⟨r, 0, none⟩ u).setCell ⟨r, 1, none⟩ v) B p1 L1.length d1 p2 L2.length d2 L1 L2 := by
  have f1 : (Value.slice p1 L1.length d1).ownBlock ≠ some r := fun e => by have := (h.ctx.lt r e).1; omega
  have f2 : (Value.slice p2 L2.length d2).ownBlock ≠ some r := fun e => by have := (h.rel.lt r e).1; omega
  exact ⟨ownsRow_base (setCell_far (setCell_far h.ctx f1) f1) hB, ownsRow_base (setCell_far (setCell_far h.rel f2) f2) hB, h.ne⟩
theorem twoB_new {E w3 : World} {v1 : Value} {L1 : List (Int × Int)} (ho : w3.ownsRow E.heap.size 74 2 v1 L1.length (flat L1)) (hb : Below E.heap.size E w3) : TwoB E (w3.alloc (.cells #[v1, .slice none 0 0] 32)) w3.heap.size v1 (.slice none 0 0) L1 [] :=
  ⟨heap_alloc_new w3 _, ho.alloc _, World.ownsRow_nil _ _ _ _, (fun g _ h => by cases h), (fun e => by have := (ho.lt _ e).2; omega), (fun h => by cases h), hb.alloc hb.size _, hb.size⟩
theorem wpList_append_nothing {P : Program} {w : World} {ops : Array Oper} {rest : List Oper} {o : Oper} {a : Act} {Q : Exit → Act → World → Prop} (hgd : o.guard = none) (s x : Operand) (t : TypeId)
    (ho : o.op = .call { callee := .builtin .append, args := #[s, x], argTypes := #[t, t] })
    (e : TypeId) (i : TypeInfo) (ht : P.underlying t = some (.slice e)) (hi : P.info? e = some i) (base a1 : Option Addr) (sLen sCap c1 : Nat) (hle : sLen ≤ sCap)
    (hs : a.eval s = .slice base sLen sCap) (hx : a.eval x = .slice a1 0 c1) (h : wpList P ops Q rest (a.put o.dst (.slice base sLen sCap)) w) : wpList P ops Q (o :: rest) a w := by
  refine wpList_plain hgd fun K hK => ?_
  have hrun := run_append_nothing (P := P) w t t o.type e i ht hi base sLen sCap hle (.slice a1 0 c1) ⟨.inl ⟨_, ht⟩, (fun _ => by simp [Builtin.lenOf]), (by cases a1 <;> simp [Builtin.firstCells, loadCells, loadCellsFrom]), (by cases a1 <;> simp [Builtin.firstCells, loadCells, loadCellsFrom]), by simp, by simp⟩
  unfold Oper.wp
  simp [execOp, ho, resolve, invoke, builtin, hs, hx, hrun, Result.andThen]
  exact hK _ _ h
theorem own_here {g k : Nat} (h : (Value.slice (some ⟨g, 0, none⟩) 0 0).ownBlock = some k) : g ≤ k := Nat.le_of_eq (by simpa [Value.ownBlock] using h)
theorem empty_own {T : TypeId} (w : World) : (w.alloc (.cells #[] T)).ownsRow w.heap.size T 2 (.slice (some ⟨w.heap.size, 0, none⟩) 0 0) 0 [] :=
  World.ownsRow_made w #[] 0 (Nat.le_refl _) (by unfold maxLen; omega) (by simp)
set_option maxRecDepth 100000 in
set_option maxHeartbeats 8000000 in
theorem spec_any (zu zv : Int) : Gives1 17 (.agg #[.int .i64 zu, .int .i64 zv]) (remR zu zv) := by
  intro a1 a2 n1 c1 n2 c2 l m w hz1 hz2 h1 h2
  obtain ⟨i1, hi1, hy0, hy1, hy2⟩ := info_parts infoContext
  obtain ⟨i2, hi2, hv0, hv1, hv2⟩ := info_parts infoRelation
  obtain ⟨hs, x1, x2, x3, x4, y1, y2, fy1, fy2, hb0⟩ := boxes222 w (.slice a1 n1 c1) (.slice a2 n2 c2) (.int .i64 zu) (.int .i64 zv) (.slice none 0 0) (.slice none 0 0) 32 36 32
  have HS := Lib.hid hs
  have H1 := Lib.hid (h1.below hb0)
  have H2 := Lib.hid (h2.below hb0)
  clear h1 h2 hs
  go_enter Try.func17, Try.ntmps17
  go_wp2_with fail
  generalize ((w.alloc (.cells #[.slice a1 n1 c1, .slice a2 n2 c2] 32)).alloc (.cells #[.int .i64 zu, .int .i64 zv] 36)).alloc (.cells #[.slice none 0 0, .slice none 0 0] 32) = W at *
  have lw : w.heap.size < W.heap.size := by rw [HS.out]; omega
  have lw1 : w.heap.size + 1 < W.heap.size := by rw [HS.out]; omega
  have lw2 : w.heap.size + 2 < W.heap.size := by rw [HS.out]; omega
  refine (Good2.l2Good_any a1 a2 n1 c1 n2 c2 l m W H1.out H2.out).mono ?_
  rintro e w1 ⟨rfl, b1⟩
  have r1 := (b1.cell (p := ⟨w.heap.size, 0, none⟩) lw).trans x1
  have r2 := (b1.cell (p := ⟨w.heap.size, 1, none⟩) lw).trans x2
  have s1 := (b1.cell (p := ⟨w.heap.size + 2, 0, none⟩) lw2).trans y1
  have s2 := (b1.cell (p := ⟨w.heap.size + 2, 1, none⟩) lw2).trans y2
  have t1 := fz b1 ⟨w.heap.size + 2, 0, none⟩ lw2 fy1
  have t2 := fz b1 ⟨w.heap.size + 2, 1, none⟩ lw2 fy2
  have HB1 := Lib.hid (hb0.trans (b1.mono hb0.size))
  cases hg : good l m with
  | false =>
    have HE := Lib.hid (remR_none (u := zu) (v := zv) (l := l) (m := m) (by rw [hg]; simp))
    clear hg
    go_wp2_with fail
    obtain ⟨q1, q2⟩ := set2_cells (u := .slice none 0 0) (v := .slice none 0 0) s1 s2
    refine bodyPost_ret (v := .tuple #[.agg #[.slice none 0 0, .slice none 0 0], .bool false]) (by simp [results, Try.results17, go_sem, q1, q2]) rfl ?_
    rw [HE.out]
    exact ⟨none, 0, 0, none, 0, 0, rfl, Got.nil _ _, by omega, by omega, ((HB1.out.setCell (p := ⟨w.heap.size + 2, 0, none⟩) (by show _ ≤ w.heap.size + 2; omega) _).setCell (p := ⟨w.heap.size + 2, 1, none⟩) (by show _ ≤ w.heap.size + 2; omega) _)⟩
  | true =>
    have HV := Lib.hid hg
    clear hg
    have hn1 : n1 ≤ 10 := by rw [← H1.out.1]; exact (good_few HV.out).1
    have hn2 : n2 ≤ 24 := by rw [← H2.out.1]; exact (good_few HV.out).2
    have HA := Lib.hid (holds_src ((H1.out.below b1).below (below_alloc w1 (.cells #[] 74))))
    have HE1 : Hid ((flat l).length = n1 * 2) := by unfold Hid; rw [flat_len, H1.out.1]
    have hem := empty_own (T := 74) w1
    have r1' := ((below_alloc w1 (.cells #[] 74)).cell (p := ⟨w.heap.size, 0, none⟩) (Nat.lt_of_lt_of_le lw b1.size)).trans r1
    have HM3 : Hid (∀ wr, Below w1.heap.size w1 wr → (Holds wr a2 n2 m ∧ wr.cell? ⟨w.heap.size, 1, none⟩ = some (.slice a2 n2 c2)) ∧ wr.cell? ⟨w.heap.size + 1, 0, none⟩ = some (.int .i64 zu) ∧ wr.cell? ⟨w.heap.size + 1, 1, none⟩ = some (.int .i64 zv)) := fun wr hwr =>
      have hh := b1.trans (hwr.mono b1.size)
      ⟨⟨H2.out.below hh, (hh.cell (p := ⟨w.heap.size, 1, none⟩) lw).trans x2⟩, (hh.cell (p := ⟨w.heap.size + 1, 0, none⟩) lw1).trans x3, (hh.cell (p := ⟨w.heap.size + 1, 1, none⟩) lw1).trans x4⟩
    have HM4 : Hid (∀ wr, Below w1.heap.size w1 wr → (wr.cell? ⟨w.heap.size + 2, 0, none⟩ = some (.slice none 0 0) ∧ wr.cell? ⟨w.heap.size + 2, 1, none⟩ = some (.slice none 0 0)) ∧ wr.frozen? ⟨w.heap.size + 2, 0, none⟩ = false ∧ wr.frozen? ⟨w.heap.size + 2, 1, none⟩ = false ∧ Below w.heap.size w wr) := fun wr hwr =>
      have hh := b1.trans (hwr.mono b1.size)
      ⟨⟨(hh.cell (p := ⟨w.heap.size + 2, 0, none⟩) lw2).trans y1, (hh.cell (p := ⟨w.heap.size + 2, 1, none⟩) lw2).trans y2⟩, fz hh ⟨w.heap.size + 2, 0, none⟩ lw2 fy1, fz hh ⟨w.heap.size + 2, 1, none⟩ lw2 fy2, hb0.trans (hh.mono hb0.size)⟩
    have hs1 : W.heap.size ≤ w1.heap.size := b1.size
    have HLL := Lib.hid H1.out.1
    have HML := Lib.hid H2.out.1
    clear x1 x2 x3 x4 y1 y2 fy1 fy2 s1 s2 t1 t2 r2 b1
    go_upto_region 3 with fail
    go_cut [6] (fun s6 wc => ∃ gb v1, s6 = .pointer (some ⟨gb, 0, none⟩) ∧ TwoB w1 wc gb v1 (.slice none 0 0) l [])
    case first =>
      by_cases hn0 : n1 = 0
      · subst hn0
        have hl0 : l = [] := List.eq_nil_of_length_eq_zero HLL.out
        have hT' := twoB_new (E := w1) (L1 := []) hem (below_alloc w1 _)
        rw [show (w1.alloc (.cells #[] 74)).heap.size = w1.heap.size + 1 by simp] at hT'
        have HT := Lib.hid hT'
        clear hT'
        clear hem
        go_wp2_with (at_builtin; refine wpList_append_nothing rfl _ _ 29 rfl 74 i1 Try.underlying29 hi1 (some ⟨w1.heap.size, 0, none⟩) a1 0 0 c1 (Nat.le_refl _) rfl rfl ?_)
        go_meet
        rw [hl0]
        exact ⟨_, _, rfl, HT.out⟩
      · obtain ⟨ad, rfl, hsrc⟩ := HA.out (by omega)
        go_wp2_with (at_builtin; refine wpList_append_lies _ rfl _ _ 29 rfl w1.heap.size 74 i1 (.agg #[.int .i64 0, .int .i64 0]) 2 16 Try.underlying29 hi1 hy0 hy1 hy2 rfl (by decide) _ _ _ rfl hem ad n1 c1 (flat l) rfl HE1.out hsrc (flat_one l) (by omega) (by unfold maxLen; omega) (by omega) (by simp) (w1.heap.size + 1) (by simp) ?_; intro g cap w3 hown' hgrow hat hltg)
        have HT : Hid (TwoB w1 (w3.alloc (.cells #[.slice (some ⟨g, 0, none⟩) (0 + n1) cap, .slice none 0 0] 32)) w3.heap.size (.slice (some ⟨g, 0, none⟩) (0 + n1) cap) (.slice none 0 0) l []) :=
          twoB_new (by rw [HLL.out]; simpa using hown') ((below_alloc w1 _).grown hgrow (by simp) (fun k hk => own_here hk))
        clear hown' hgrow hat hltg hem
        simp only [Nat.zero_add] at HT
        go_meet
        exact ⟨_, _, rfl, HT.out⟩
    case rest =>
      obtain ⟨gb, v1, rfl, hT0⟩ := hcut
      have hT0' : TwoB w1 wc gb v1 (.slice none 0 0) l ((m.take 0).filter (ne2 zu zv)) := hT0
      clear hT0 HA hem r1 r1'
      have hN := differ2
      have hG := guard2
      go_wp2_with fail
      go_loopw [7] (fun s7 wr => ∃ k : Nat, k ≤ n2 ∧ s7 = .int .i64 k ∧ ∃ v2, TwoB w1 wr gb v1 v2 l ((m.take k).filter (ne2 zu zv))) (fun s7 _ => n2 - (intOf s7).toNat)
      case atStart => exact ⟨0, Nat.zero_le _, rfl, _, hT0'⟩
      case round =>
        clear hT0'
        obtain ⟨j, hj, rfl, v2, hT⟩ := hrel
        have p2 := (HM3.out wr hT.bel).1.2
        have p3 := (HM3.out wr hT.bel).2.1
        have p4 := (HM3.out wr hT.bel).2.2
        by_cases hlt2 : j < n2
        · obtain ⟨b, off, x, y, rfl, hx, e1, e2⟩ := (HM3.out wr hT.bel).1.1.at j hlt2
          have HX := Lib.hid (filt_next (ne2 zu zv) hx)
          have HXX := Lib.hid hx
          have hjn : (j : Int) < (n2 : Int) := by omega
          have hfl := filt_len (ne2 zu zv) m j
          obtain ⟨o1, o2, o3, o4, o5⟩ := hT.cells
          have HT := Lib.hid hT
          clear hx hT
          by_cases hxy : x = zu ∧ y = zv
          · obtain ⟨rfl, rfl⟩ := hxy
            have hT2 : TwoB w1 wr gb v1 v2 l ((m.take (j + 1)).filter (ne2 x y)) := by
              rw [HX.out, if_neg (by unfold ne2; simp), List.append_nil]
              exact HT.out
            have HT2 := Lib.hid hT2
            clear hT2
            go_wp2_with fail
            go_quiet (fail)
            go_wp2_with fail
            exact ⟨⟨j + 1, by omega, by go_num, v2, HT2.out.drawn (Joins.below_draws _ _ _)⟩, by simp [intOf]; omega⟩
          · have hbo : (x == zu && y == zv) = false := by
              cases e : (x == zu && y == zv) with
              | false => rfl
              | true =>
                simp at e
                exact absurd e hxy
            have HO : Hid (ne2 zu zv (x, y) = true) := decide_eq_true (fun e => hxy (by injection e with e3 e4; exact ⟨e3, e4⟩))
            clear hxy
            go_wp2_with fail
            go_quiet (fail)
            go_wp2_with fail
            have hTd := HT.out.drawn (Joins.below_draws wr.heap.size wr nq)
            clear p2 p3 p4 e1 e2 o1 o2 o3 o4 o5 hN hG
            generalize wr.drewN nq = wq at *
            have p2 := (HM3.out wq hTd.bel).1.2
            obtain ⟨b', off', x', y', hbe, hx', e1, e2⟩ := (HM3.out wq hTd.bel).1.1.at j hlt2
            obtain ⟨rfl, rfl⟩ : b' = b ∧ off' = off := by
              injection hbe with hbe
              injection hbe with h1 h2 h3
              exact ⟨h1.symm, h2.symm⟩
            obtain ⟨rfl, rfl⟩ : x' = x ∧ y' = y := by
              have hh := HXX.out
              rw [hx'] at hh
              injection hh with hh
              injection hh with h1 h2
              exact ⟨h1, h2⟩
            obtain ⟨o1, o2, o3, o4, o5⟩ := hTd.cells
            have HTd := Lib.hid hTd
            have hown := hTd.rel
            have hle := hTd.bel.size
            clear hbe hx' hTd
            go_region_law (first | (refine step_append_lies _ (by rfl) _ _ _ (by rfl) w1.heap.size 36 i2 _ 2 16 Try.underlying30 hi2 hv0 hv1 hv2 rfl (by omega) v2 _ _ (by rfl) (own_drew (hown.alloc _)) ⟨wq.heap.size, 0, none⟩ 1 1 [.int .i64 x', .int .i64 y'] (by rfl) (by rfl) (new_pair wq _ _ _) (by simp [Value.oneCell']) (by omega) (by unfold maxLen; omega) (by omega) (by simp; omega) (wq.heap.size + 1) (by simp) ?_; intro g cap w9 hown9 hgrow hat hltg; have hc9 := (HTd.out.after hgrow HTd.out.n2).2.1; have hf9 := (HTd.out.after hgrow HTd.out.n2).2.2.2))
            all_goals (have HT2 := Lib.hid (HTd.out.more2 hown9 hgrow hat))
            all_goals (have HX' : Hid ((m.take (j + 1)).filter (ne2 zu zv) = (m.take j).filter (ne2 zu zv) ++ [(x', y')]) := by unfold Hid; rw [HX.out, HO.out, if_pos rfl])
            all_goals (clear hown9 hgrow hat hltg hc9 hf9)
            all_goals go_wp2_with fail
            all_goals exact ⟨⟨j + 1, by omega, by go_num, _, by rw [HX'.out]; exact HT2.out⟩, by simp [intOf]; omega⟩
        · obtain rfl : j = n2 := by omega
          have hjn : ¬ (j : Int) < (j : Int) := by omega
          have hT2 := hT
          rw [List.take_of_length_le (by rw [HML.out]; omega)] at hT2
          obtain ⟨o1, o2, o3, o4, o5⟩ := hT2.cells
          have hM4 := HM4.out wr hT.bel
          have s1 := hM4.1.1
          have s2 := hM4.1.2
          have t1 := hM4.2.1
          have t2 := hM4.2.2.1
          have HBD := Lib.hid hM4.2.2.2
          obtain ⟨pa, da, rfl⟩ := own_form hT2.ctx
          obtain ⟨pb, db, rfl⟩ := own_form hT2.rel
          have HT := Lib.hid hT2
          have HF1 : Hid (l.length ≤ 10) := (good_few HV.out).1
          have HF2 : Hid ((m.filter (ne2 zu zv)).length ≤ 24) := Nat.le_trans (List.length_filter_le _ _) (good_few HV.out).2
          have HGE : Hid (w.heap.size + 2 < w1.heap.size) := by unfold Hid; omega
          clear hT hT2 hM4
          by_cases hm : (zu, zv) ∈ m
          · have HE := Lib.hid (remR_some HV.out hm)
            have hne : ¬ ((m.filter (ne2 zu zv)).length : Int) = (j : Int) := by
              intro e
              have : (m.filter (ne2 zu zv)).length = m.length := by rw [HML.out]; omega
              exact filt_all.1 this hm
            have hneb : (((m.filter (ne2 zu zv)).length : Int) == (j : Int)) = false := by simpa using hne
            clear hm
            go_wp2_with fail
            obtain ⟨q1, q2⟩ := set2_cells (u := .slice pa l.length da) (v := .slice pb (m.filter (ne2 zu zv)).length db) s1 s2
            refine bodyPost_ret (v := .tuple #[.agg #[.slice pa l.length da, .slice pb (m.filter (ne2 zu zv)).length db], .bool true]) (by simp [results, Try.results17, go_sem, q1, q2]) rfl ?_
            rw [HE.out]
            exact ⟨pa, _, da, pb, _, db, rfl, HT.out.got HGE.out (by have := HGE.out; omega) _ _, by have := HF1.out; show l.length ≤ _; omega, by have := HF2.out; show (m.filter (ne2 zu zv)).length ≤ _; omega, ((HBD.out.setCell (p := ⟨w.heap.size + 2, 0, none⟩) (by show _ ≤ w.heap.size + 2; omega) _).setCell (p := ⟨w.heap.size + 2, 1, none⟩) (by show _ ≤ w.heap.size + 2; omega) _)⟩
          · have HE := Lib.hid (remR_none (u := zu) (v := zv) (l := l) (m := m) (fun h => hm h.2))
            have hlen : (m.filter (ne2 zu zv)).length = j := by rw [filt_all.2 hm, HML.out]
            have HLE := Lib.hid hlen
            have hneb : (((m.filter (ne2 zu zv)).length : Int) == (j : Int)) = true := by rw [hlen]; simp
            clear hm hlen
            go_wp2_with fail
            obtain ⟨q1, q2⟩ := set2_cells (u := .slice none 0 0) (v := .slice none 0 0) s1 s2
            refine bodyPost_ret (v := .tuple #[.agg #[.slice none 0 0, .slice none 0 0], .bool false]) (by simp [results, Try.results17, go_sem, q1, q2]) rfl ?_
            rw [HE.out]
            exact ⟨none, 0, 0, none, 0, 0, rfl, Got.nil _ _, by omega, by omega, ((HBD.out.setCell (p := ⟨w.heap.size + 2, 0, none⟩) (by show _ ≤ w.heap.size + 2; omega) _).setCell (p := ⟨w.heap.size + 2, 1, none⟩) (by show _ ≤ w.heap.size + 2; omega) _)⟩
end Go.Proofs.Ytldalomoojhbkab.RemRS
