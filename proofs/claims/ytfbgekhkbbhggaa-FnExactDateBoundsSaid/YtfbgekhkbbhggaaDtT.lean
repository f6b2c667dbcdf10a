/- Lists of datings in the world: rows of two cells, a row of years of one's own and a weight; such a list that grows in a box. -/
import Derived.Test.YtfbgekhkbbhggaaChE
import Derived.Test.YtfbgekhkbbhggaaDr
import Derived.Test.YtfbgekhkbbhggaaCcI
import Derived.Test.YtfbgekhkbbhggaaOvI
namespace Go.Proofs.Ytfbgekhkbbhggaa.DtT
open Go Go.RowKit Go.Shelf Pairs Rec Keep GivesI Zh Dr DvM ChM ShI Yr AppI OvI
set_option linter.unusedVariables false
abbrev Dg := List Int × Int
/-- The cells of a list of datings: the years of each lie in a row of their own. -/
def AtT (V : World) (B : Nat) (vs : List Value) (L : List Dg) : Prop :=
  vs.length = L.length * 2 ∧ ∀ i ys z, L[i]? = some (ys, z) → ∃ q k c, vs[i * 2]? = some (.slice q k c) ∧ vs[i * 2 + 1]? = some (.int .i64 z) ∧ V.ownsRow B 3 1 (.slice q k c) k (ints ys)
def OwnT (V : World) (B : Nat) (v : Value) (n : Nat) (L : List Dg) : Prop := ∃ vs, V.ownsRow B 94 2 v n vs ∧ AtT V B vs L
theorem AtT.map {V V' : World} {B B' : Nat} {vs : List Value} {L : List Dg} (h : AtT V B vs L) (f : ∀ q k c ys, V.ownsRow B 3 1 (.slice q k c) k (ints ys) → V'.ownsRow B' 3 1 (.slice q k c) k (ints ys)) : AtT V' B' vs L :=
  ⟨h.1, fun i ys z hi => by obtain ⟨q, k, c, e1, e2, e3⟩ := h.2 i ys z hi; exact ⟨q, k, c, e1, e2, f _ _ _ _ e3⟩⟩
theorem OwnT.below {V V' : World} {B : Nat} {v : Value} {n : Nat} {L : List Dg} (h : OwnT V B v n L) (b : Below V.heap.size V V') : OwnT V' B v n L := by
  obtain ⟨vs, h1, h2⟩ := h
  exact ⟨vs, ownsRow_below h1 b, h2.map fun _ _ _ _ h => ownsRow_below h b⟩
theorem OwnT.base {V : World} {B B' : Nat} {v : Value} {n : Nat} {L : List Dg} (h : OwnT V B v n L) (hB : B' ≤ B) : OwnT V B' v n L := by
  obtain ⟨vs, h1, h2⟩ := h
  exact ⟨vs, ownsRow_base h1 hB, h2.map fun _ _ _ _ h => ownsRow_base h hB⟩
theorem OwnT.len {V : World} {B : Nat} {v : Value} {n : Nat} {L : List Dg} (h : OwnT V B v n L) : n = L.length := by
  obtain ⟨vs, h1, h2⟩ := h
  have e1 := h1.1
  have e2 := h2.1
  omega
theorem OwnT.grown {V V' : World} {B : Nat} {v : Value} {n : Nat} {L : List Dg} {row : Option Nat} (h : OwnT V B v n L) (hg : V.grownBy V' row) (hr : ∀ r, row = some r → ∃ o : Obj, V.heap[r]? = some o ∧ o.isCells = false) : OwnT V' B v n L := by
  have key : ∀ {T s v n xs}, V.ownsRow B T s v n xs → V'.ownsRow B T s v n xs := fun {T s v n xs} h => own_grown h hg (fun k hk e => by
    obtain ⟨o, ho, hc⟩ := hr k e.symm
    obtain ⟨o', ho', hc'⟩ := own_cells h k hk
    rw [ho] at ho'
    injection ho' with ho'
    rw [ho', hc'] at hc
    cases hc)
  obtain ⟨vs, h1, h2⟩ := h
  exact ⟨vs, key h1, h2.map fun _ _ _ _ h => key h⟩
/-- Rows of other types are other blocks. -/
theorem own_type {V : World} {B s n : Nat} {T : TypeId} {v : Value} {xs : List Value} (h : V.ownsRow B T s v n xs) {b : Nat} {cs : Array Value} {T' : TypeId} {z : Nat × Nat} (hb : V.heap[b]? = some (.cells cs T' z)) (hT : T ≠ T') : v.ownBlock ≠ some b := by
  intro e
  rcases h.2 with ⟨hv, _⟩ | ⟨g, cap, cur, hv, _, hh, _⟩
  · subst hv
    cases e
  · subst hv
    have : g = b := by simpa [Value.ownBlock] using e
    subst this
    rw [hh] at hb
    injection hb with hb
    injection hb with _ h2 _
    exact hT h2
theorem own_apart {V : World} {B B' s s' n n' : Nat} {T T' : TypeId} {v v' : Value} {xs xs' : List Value} (h : V.ownsRow B T s v n xs) (h' : V.ownsRow B' T' s' v' n' xs') (hT : T ≠ T') : ∀ b, v.ownBlock = some b → v'.ownBlock ≠ some b := by
  intro b hb
  rcases h.2 with ⟨hv, _⟩ | ⟨g, cap, cur, hv, _, hh, _⟩
  · subst hv
    cases hb
  · subst hv
    have : g = b := by simpa [Value.ownBlock] using hb
    subst this
    exact own_type h' hh (fun e => hT e.symm)
theorem OwnT.set {V : World} {B : Nat} {v : Value} {n : Nat} {L : List Dg} (h : OwnT V B v n L) {b : Nat} {cs : Array Value} {T' : TypeId} {z : Nat × Nat} (hb : V.heap[b]? = some (.cells cs T' z)) (h1 : 94 ≠ T') (h2 : 3 ≠ T') (u : Value) : OwnT (V.setCell ⟨b, 0, none⟩ u) B v n L := by
  have key : ∀ {T s v n xs}, T ≠ T' → V.ownsRow B T s v n xs → (V.setCell ⟨b, 0, none⟩ u).ownsRow B T s v n xs := fun {T s v n xs} hT h => own_grown h (grownBy_setCell' V b u) (fun k hk e => by
    injection e with e
    subst e
    exact own_type h hb hT hk)
  obtain ⟨vs, k1, k2⟩ := h
  exact ⟨vs, key h1 k1, k2.map fun _ _ _ _ h => key h2 h⟩
/-- A list of datings that grows, told in a box. -/
structure Lw (V : World) (B b : Nat) (q : Option Addr) (d : Nat) (L : List Dg) : Prop where
  box : Boxed V b 91 (.slice q L.length d)
  own : OwnT V B (.slice q L.length d) L.length L
theorem Lw.below {V V' : World} {B b d : Nat} {q : Option Addr} {L : List Dg} (h : Lw V B b q d L) (k : Below V.heap.size V V') : Lw V' B b q d L :=
  ⟨(k.block _ h.box.lt).trans h.box, h.own.below k⟩
theorem Lw.grown {V V' : World} {B b d : Nat} {q : Option Addr} {L : List Dg} {row : Option Nat} (h : Lw V B b q d L) (hg : V.grownBy V' row) (hr : ∀ r, row = some r → ∃ o : Obj, V.heap[r]? = some o ∧ o.isCells = false) : Lw V' B b q d L := by
  refine ⟨h.box.kept hg (fun e => ?_), h.own.grown hg hr⟩
  obtain ⟨o, ho, hc⟩ := hr b e.symm
  have := h.box
  unfold Boxed at this
  rw [this] at ho
  injection ho with ho
  rw [← ho] at hc
  cases hc
theorem infoT : (Try.prog.info? 94).map (fun i => (i.zero, i.size, i.bytes)) = some (some (.agg #[.slice none 0 0, .int .i64 0]), 2, 32) := by kernel_rfl
theorem own_cap2 {V : World} {B n d s : Nat} {T : TypeId} {p : Option Addr} {xs : List Value} (h : V.ownsRow B T s (.slice p n d) n xs) : n ≤ d := by
  rcases h.2 with ⟨hv, h0⟩ | ⟨g, cap, cur, hv, _, _, hle, _⟩
  · omega
  · injection hv with _ _ h3
    omega
theorem AtT.one {V : World} {B : Nat} {vs : List Value} {L : List Dg} (h : AtT V B vs L) : ∀ u ∈ vs, u.oneCell' = true := by
  intro u hu
  obtain ⟨i, hi, he⟩ := List.mem_iff_getElem.1 hu
  have hil : i / 2 < L.length := by have := h.1; omega
  obtain ⟨q, k, c, e1, e2, _⟩ := h.2 (i / 2) L[i / 2].1 L[i / 2].2 (List.getElem?_eq_getElem hil)
  have hg : vs[i]? = some u := by rw [List.getElem?_eq_getElem hi, he]
  rcases Nat.mod_two_eq_zero_or_one i with h0 | h0
  · rw [show i / 2 * 2 = i by omega, hg] at e1
    injection e1 with e1
    rw [e1]
    rfl
  · rw [show i / 2 * 2 + 1 = i by omega, hg] at e2
    injection e2 with e2
    rw [e2]
    rfl
theorem AtT.app {V : World} {B : Nat} {vs vs2 : List Value} {L L2 : List Dg} (h : AtT V B vs L) (h2 : AtT V B vs2 L2) : AtT V B (vs ++ vs2) (L ++ L2) := by
  refine ⟨by rw [List.length_append, List.length_append, h.1, h2.1]; omega, fun i ys z hi => ?_⟩
  by_cases hl : i < L.length
  · rw [List.getElem?_append_left hl] at hi
    obtain ⟨q, k, c, e1, e2, e3⟩ := h.2 i ys z hi
    have := h.1
    exact ⟨q, k, c, by rw [List.getElem?_append_left (by omega)]; exact e1, by rw [List.getElem?_append_left (by omega)]; exact e2, e3⟩
  · rw [List.getElem?_append_right (by omega)] at hi
    obtain ⟨q, k, c, e1, e2, e3⟩ := h2.2 (i - L.length) ys z hi
    have := h.1
    refine ⟨q, k, c, ?_, ?_, e3⟩
    · rw [List.getElem?_append_right (by omega), show i * 2 - vs.length = (i - L.length) * 2 by omega]; exact e1
    · rw [List.getElem?_append_right (by omega), show i * 2 + 1 - vs.length = (i - L.length) * 2 + 1 by omega]; exact e2
/-- A list behind it. -/
theorem Lw.app {V : World} {B b d : Nat} {q : Option Addr} {L : List Dg} (h : Lw V B b q d L) (hB : B ≤ V.heap.size) {p2 : Option Addr} {m c2 : Nat} {L2 : List Dg} (h2 : OwnT V B (.slice p2 m c2) m L2) (hl : L.length + m ≤ 1048576) (ty : TypeId) :
    ∃ (q' : Option Addr) (cap' : Nat) (V' : World), (Builtin.append_ #[91, 91] ty #[.slice q L.length d, .slice p2 m c2]).run Try.prog V = .ok (.slice q' (L.length + m) cap') V' ∧
      Boxed V' b 91 (.slice q L.length d) ∧ Lw (V'.setCell ⟨b, 0, none⟩ (.slice q' (L.length + m) cap')) B b q' cap' (L ++ L2) ∧ V.grownBy V' (Value.slice q L.length d).ownBlock ∧
      ∀ r, r < V.heap.size → (Value.slice q L.length d).ownBlock ≠ some r → (Value.slice q' (L.length + m) cap').ownBlock ≠ some r := by
  obtain ⟨i0, hi, hy0, hy1, hy2⟩ := info_parts infoT
  have hm := h2.len
  obtain ⟨vs, o1, t1⟩ := h.own
  obtain ⟨vs2, o2, t2⟩ := h2
  have done : ∀ {V' : World} {q' : Option Addr} {cap' : Nat}, Boxed V' b 91 (.slice q L.length d) → OwnT V' B (.slice q' (L.length + m) cap') (L.length + m) (L ++ L2) → Lw (V'.setCell ⟨b, 0, none⟩ (.slice q' (L.length + m) cap')) B b q' cap' (L ++ L2) := by
    intro V' q' cap' hb ho
    have e : (L ++ L2).length = L.length + m := by rw [List.length_append, ← hm]
    refine ⟨?_, ?_⟩
    · rw [e]; exact hb.set _
    · rw [e]; exact ho.set hb (by decide) (by decide) _
  rcases Nat.eq_zero_or_pos m with h0 | hmp
  · subst h0
    have hl0 : L2 = [] := List.eq_nil_of_length_eq_zero hm.symm
    subst hl0
    refine ⟨q, d, V, run_append_nothing (P := Try.prog) V 91 91 ty 94 i0 Try.underlying91 hi q L.length d (own_cap2 o1) (.slice p2 0 c2) ⟨.inl ⟨_, Try.underlying91⟩, (fun _ => by simp [Builtin.lenOf]), (by cases p2 <;> simp [Builtin.firstCells, loadCells, loadCellsFrom]), (by cases p2 <;> simp [Builtin.firstCells, loadCells, loadCellsFrom]), by simp, by simp⟩, h.box, done h.box ?_, World.grownBy.refl V _, fun r _ hr e => hr (by
      cases q with
      | none => simp [Value.ownBlock] at e
      | some a => simpa [Value.ownBlock] using e)⟩
    rw [List.append_nil, Nat.add_zero]
    exact ⟨vs, o1, t1⟩
  · have hs : ∃ g2, p2 = some ⟨g2, 0, none⟩ := by
      rcases o2.2 with ⟨_, h0⟩ | ⟨g, cap, cur, hv, _⟩
      · omega
      · injection hv with e1
        exact ⟨g, e1⟩
    obtain ⟨g2, rfl⟩ := hs
    have hl2 : vs2.length = m * 2 := o2.1
    obtain ⟨g', cap', V', hr, h3, h4, h5, _⟩ := run_append_lies (P := Try.prog) V 91 ty B 94 i0 (.agg #[.slice none 0 0, .int .i64 0]) 2 32 Try.underlying91 hi hy0 hy1 hy2 rfl (by decide) _ L.length vs o1 ⟨g2, 0, none⟩ m c2 vs2 hl2
      (fun j u hj => by
        rw [Addr.add_lit, Nat.zero_add]
        have hjl := (List.getElem?_eq_some_iff.1 hj).1
        rw [o2.cellAt j (by omega)]
        exact hj)
      t2.one hmp (by unfold maxLen; omega) (by omega) hB _ rfl
    refine ⟨some ⟨g', 0, none⟩, cap', V', hr, h.box.kept h4 (h.box.not_row (by decide) o1), done (h.box.kept h4 (h.box.not_row (by decide) o1)) ⟨vs ++ vs2, h3, ?_⟩, h4, fun r hr hne e => by
      have e2 : g' = r := by simpa [Value.ownBlock] using e
      rcases h5 with h5 | h5
      · exact hne (by rw [h5, e2])
      · omega⟩
    have tt := t1.app t2
    exact tt.map fun q k c ys hy => own_grown hy h4 (fun b' hb' e => own_apart hy o1 (by decide) b' hb' e.symm)
end Go.Proofs.Ytfbgekhkbbhggaa.DtT
