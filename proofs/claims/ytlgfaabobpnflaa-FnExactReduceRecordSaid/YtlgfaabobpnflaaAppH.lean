/- append of a slice of pairs, empty or not, onto a row of one's own: at the run, at a list, at a step of a drawn region. -/
import Derived.Test.YtlgfaabobpnflaaCopy
import Derived.Deep.AppendLies
import Derived.Deep.Upon
import Derived.OwnWalk
namespace Go.Proofs.Ytlgfaabobpnflaa.AppH
open Go.RowKit Pairs Rec Row2 Copy

theorem run_append_holds {P : Program} (w : World) (t ty : TypeId) (base : Nat) (e : TypeId) (i : TypeInfo) (z : Value) (ht : P.underlying t = some (.slice e)) (hi : P.info? e = some i) (hz : i.zero = some z)
    (hsize : i.size = 2) (hby : i.bytes = 16) (hzs : z.cells.size = 2) (g n cap : Nat) (xs : List Value) (hown : w.ownsRow base e 2 (.slice (some ⟨g, 0, none⟩) n cap) n xs)
    (a1 : Option Addr) (m c : Nat) (l : List (Int × Int)) (hl : Holds w a1 m l) (h63 : n + m ≤ 1048576) (hbase : base ≤ w.heap.size) (H : Nat) (hH : w.heap.size = H) :
    ∃ g' cap' w', (Builtin.append_ #[t, t] ty #[.slice (some ⟨g, 0, none⟩) n cap, .slice a1 m c]).run P w = .ok (.slice (some ⟨g', 0, none⟩) (n + m) cap') w' ∧
      w'.ownsRow base e 2 (.slice (some ⟨g', 0, none⟩) (n + m) cap') (n + m) (xs ++ flat l) ∧ w.grownBy w' (some g) ∧ (g' = g ∨ g' = H) ∧ g' < w'.heap.size := by
  rcases Nat.eq_zero_or_pos m with h0 | hm
  · subst h0
    have hl0 : l = [] := List.eq_nil_of_length_eq_zero hl.1
    subst hl0
    rcases hown.2 with ⟨e0, _⟩ | ⟨g0, cap0, cur, ev, hb, hg, hle, _⟩
    · cases e0
    · have hc : cap = cap0 := by injection ev
      have hg0 : g = g0 := by injection ev with e1; injection e1 with e1; injection e1
      subst hc
      subst hg0
      refine ⟨g, cap, w, run_append_nothing (P := P) w t t ty e i ht hi (some ⟨g, 0, none⟩) n cap hle (.slice a1 0 c) ⟨.inl ⟨_, ht⟩, (fun _ => by simp [Builtin.lenOf]), (by cases a1 <;> simp [Builtin.firstCells, loadCells, loadCellsFrom]), (by cases a1 <;> simp [Builtin.firstCells, loadCells, loadCellsFrom]), by simp, by simp⟩, ?_, World.grownBy.refl w _, .inl rfl, (Array.getElem?_eq_some_iff.1 hg).1⟩
      have : flat ([] : List (Int × Int)) = [] := rfl
      rw [this, List.append_nil]
      exact hown
  · obtain ⟨ad, rfl, hnews⟩ := holds_src hl hm
    obtain ⟨g', cap', w', hr, h2, h3, h4, h5⟩ := run_append_lies (P := P) w t ty base e i z 2 16 ht hi hz hsize hby hzs (by decide) _ n xs hown ad m c (flat l) (by rw [flat_len, hl.1]) hnews (flat_one l) hm (by unfold maxLen; omega) (by omega) hbase H hH
    refine ⟨g', cap', w', hr, h2, h3, ?_, h5⟩
    rcases h4 with h4 | h4
    · exact .inl (by have e : some g = some g' := h4; injection e with e; exact e.symm)
    · exact .inr h4
theorem wp_append_holds {P : Program} {w : World} {o : Oper} {a : Act} {K : Act → World → Prop} {Q : Exit → Act → World → Prop} (s x : Operand) (t : TypeId)
    (ho : o.op = .call { callee := .builtin .append, args := #[s, x], argTypes := #[t, t] })
    (base : Nat) (e : TypeId) (i : TypeInfo) (z : Value) (ht : P.underlying t = some (.slice e)) (hi : P.info? e = some i) (hz : i.zero = some z)
    (hsize : i.size = 2) (hby : i.bytes = 16) (hzs : z.cells.size = 2) (g n cap : Nat) (xs : List Value) (hs : a.eval s = .slice (some ⟨g, 0, none⟩) n cap) (hown : w.ownsRow base e 2 (.slice (some ⟨g, 0, none⟩) n cap) n xs)
    (a1 : Option Addr) (m c : Nat) (l : List (Int × Int)) (hx : a.eval x = .slice a1 m c) (hl : Holds w a1 m l) (h63 : n + m ≤ 1048576) (hbase : base ≤ w.heap.size) (H : Nat) (hH : w.heap.size = H)
    (h : ∀ g' cap' w', w'.ownsRow base e 2 (.slice (some ⟨g', 0, none⟩) (n + m) cap') (n + m) (xs ++ flat l) → w.grownBy w' (some g) → (g' = g ∨ g' = H) → g' < w'.heap.size → K (a.put o.dst (.slice (some ⟨g', 0, none⟩) (n + m) cap')) w') : o.wp P a w K Q := by
  obtain ⟨g', cap', w', hr, h2, h3, h4, h5⟩ := run_append_holds (P := P) w t o.type base e i z ht hi hz hsize hby hzs g n cap xs hown a1 m c l hl h63 hbase H hH
  unfold Oper.wp execOp
  simp only [ho, resolve, invoke, builtin, Sem.run_bind, Sem.run_pure, Result.andThen_ok, List.map_toArray, List.map_cons, List.map_nil, hs, hx, hr]
  exact h g' cap' w' h2 h3 h4 h5
theorem wpList_append_holds {P : Program} {w : World} {ops : Array Oper} {rest : List Oper} {o : Oper} {a : Act} {Q : Exit → Act → World → Prop} (hgd : o.guard = none) (s x : Operand) (t : TypeId)
    (ho : o.op = .call { callee := .builtin .append, args := #[s, x], argTypes := #[t, t] })
    (base : Nat) (e : TypeId) (i : TypeInfo) (z : Value) (ht : P.underlying t = some (.slice e)) (hi : P.info? e = some i) (hz : i.zero = some z)
    (hsize : i.size = 2) (hby : i.bytes = 16) (hzs : z.cells.size = 2) (g n cap : Nat) (xs : List Value) (hs : a.eval s = .slice (some ⟨g, 0, none⟩) n cap) (hown : w.ownsRow base e 2 (.slice (some ⟨g, 0, none⟩) n cap) n xs)
    (a1 : Option Addr) (m c : Nat) (l : List (Int × Int)) (hx : a.eval x = .slice a1 m c) (hl : Holds w a1 m l) (h63 : n + m ≤ 1048576) (hbase : base ≤ w.heap.size) (H : Nat) (hH : w.heap.size = H)
    (h : ∀ g' cap' w', w'.ownsRow base e 2 (.slice (some ⟨g', 0, none⟩) (n + m) cap') (n + m) (xs ++ flat l) → w.grownBy w' (some g) → (g' = g ∨ g' = H) → g' < w'.heap.size → wpList P ops Q rest (a.put o.dst (.slice (some ⟨g', 0, none⟩) (n + m) cap')) w') : wpList P ops Q (o :: rest) a w :=
  wpList_plain hgd fun _ hK => wp_append_holds s x t ho base e i z ht hi hz hsize hby hzs g n cap xs hs hown a1 m c l hx hl h63 hbase H hH fun g' cap' w' h2 h3 h4 h5 => hK _ _ (h g' cap' w' h2 h3 h4 h5)
theorem step_append_holds {P : Program} {w : World} {ops : Array Oper} {o : Oper} {a : Act} {K : Act → World → Prop} {Q : Exit → Act → World → Prop} {E : Prop} (hgd : o.guard = none) (s x : Operand) (t : TypeId)
    (ho : o.op = .call { callee := .builtin .append, args := #[s, x], argTypes := #[t, t] })
    (base : Nat) (e : TypeId) (i : TypeInfo) (z : Value) (ht : P.underlying t = some (.slice e)) (hi : P.info? e = some i) (hz : i.zero = some z)
    (hsize : i.size = 2) (hby : i.bytes = 16) (hzs : z.cells.size = 2) (g n cap : Nat) (xs : List Value) (hs : a.eval s = .slice (some ⟨g, 0, none⟩) n cap) (hown : w.ownsRow base e 2 (.slice (some ⟨g, 0, none⟩) n cap) n xs)
    (a1 : Option Addr) (m c : Nat) (l : List (Int × Int)) (hx : a.eval x = .slice a1 m c) (hl : Holds w a1 m l) (h63 : n + m ≤ 1048576) (hbase : base ≤ w.heap.size) (H : Nat) (hH : w.heap.size = H)
    (h : ∀ g' cap' w', w'.ownsRow base e 2 (.slice (some ⟨g', 0, none⟩) (n + m) cap') (n + m) (xs ++ flat l) → w.grownBy w' (some g) → (g' = g ∨ g' = H) → g' < w'.heap.size → K (a.put o.dst (.slice (some ⟨g', 0, none⟩) (n + m) cap')) w') :
    if Region.wanted o (yielded ops a.tmps) = true then Oper.wp P o a w K Q else E := by
  have hw : Region.wanted o (yielded ops a.tmps) = true := by simp [Region.wanted, hgd]
  rw [if_pos hw]
  exact wp_append_holds s x t ho base e i z ht hi hz hsize hby hzs g n cap xs hs hown a1 m c l hx hl h63 hbase H hH h
end Go.Proofs.Ytlgfaabobpnflaa.AppH
