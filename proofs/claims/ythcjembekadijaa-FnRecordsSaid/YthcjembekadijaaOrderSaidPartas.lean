/- append of a slice of pairs, empty or not, onto a row of one's own: at the run, at a list, at a step of a drawn region. -/
import Derived.Test.YthcjembekadijaaOrderSaidPartak
import Derived.Deep.AppendLies
import Derived.Deep.Upon
import Derived.OwnWalk
import Derived.Test.YthcjembekadijaaOrderSaidPartac
namespace Go.Proofs.Ythcjembekadijaa.AppH
open Go.RowKit Pairs Rec Row2 Copy

theorem run_append_holds {P : Program} (w : World) (t ty : TypeId) (base : Nat) (e : TypeId) (i : TypeInfo) (z : Value) (ht : P.underlying t = some (.slice e)) (hi : P.info? e = some i) (hz : i.zero = some z)
    (hsize : i.size = 2) (hby : i.bytes = 16) (hzs : z.cells.size = 2) (g n cap : Nat) (xs : List Value) (hown : w.ownsRow base e 2 (.slice (some ⟨g, 0, none⟩) n cap) n xs)
    (a1 : Option Addr) (m c : Nat) (l : List (Int × Int)) (hl : Holds w a1 m l) (h63 : n + m ≤ 1048576) (hbase : base ≤ w.heap.size) (H : Nat) (hH : w.heap.size = H) :
    ∃ g' cap' w', (Builtin.append_ #[t, t] ty #[.slice (some ⟨g, 0, none⟩) n cap, .slice a1 m c]).run P w = .ok (.slice (some ⟨g', 0, none⟩) (n + m) cap') w' ∧
      w'.ownsRow base e 2 (.slice (some ⟨g', 0, none⟩) (n + m) cap') (n + m) (xs ++ flat l) ∧ w.grownBy w' (some g) ∧ (g' = g ∨ g' = H) ∧ g' < w'.heap.size := by
  rcases Nat.eq_zero_or_pos m with h0 | hm
  · subst h0
    have hl0 : l = [] := List.eq_nil_of_length_eq_zero hl.1
    subst hl0
    rcases hown.2 with ⟨e0, _⟩ | ⟨g0, cap0, cur, ev, hb, hg, hle, _⟩
    · cases e0
    · have hc : cap = cap0 := by injection ev
      have hg0 : g = g0 := by injection ev with e1; injection e1 with e1; injection e1
      subst hc
      subst hg0
      refine ⟨g, cap, w, run_append_nothing (P := P) w t t ty e i ht hi (some ⟨g, 0, none⟩) n cap hle (.slice a1 0 c) ⟨.inl ⟨_, ht⟩, (fun _ => by simp [Builtin.lenOf]), (by cases a1 <;> simp [Builtin.firstCells, loadCells, loadCellsFrom]), (by cases a1 <;> simp [Builtin.firstCells, loadCells, loadCellsFrom]), by simp, by simp⟩, ?_, World.grownBy.refl w _, .inl rfl, (Array.getElem?_eq_some_iff.1 hg).1⟩
      have : flat ([] : List (Int × Int)) = [] := rfl
      rw [this, List.append_nil]
      exact hown
  · obtain ⟨ad, rfl, hnews⟩ := holds_src hl hm
    obtain ⟨g', cap', w', hr, h2, h3, h4, h5⟩ := run_append_lies (P := P) w t ty base e i z 2 16 ht hi hz hsize hby hzs (by decide) _ n xs hown ad m c (flat l) (by rw [flat_len, hl.1]) hnews (flat_one l) hm (by unfold maxLen; omega) (by omega) hbase H hH
    refine ⟨g', cap', w', hr, h2, h3, ?_, h5⟩
    rcases h4 with h4 | h4
    · exact .inl (by have e : some g = some g' := h4; injection e with e; exact e.symm)
    · exact .inr h4
theorem wp_append_holds {P : Program} {w : World} {o : Oper} {a : Act} {K : Act → World → Prop} {Q : Exit → Act → World → Prop} (s x : Operand) (t : TypeId)
    (ho : o.op = .call { callee := .builtin .append, args := #[s, x], argTypes := #[t, t] })
    (base : Nat) (e : TypeId) (i : TypeInfo) (z : Value) (ht : P.underlying t = some (.slice e)) (hi : P.info? e = some i) (hz : i.zero = some z)
    (hsize : i.size = 2) (hby : i.bytes = 16) (hzs : z.cells.size = 2) (g n cap : Nat) (xs : List Value) (hs : a.eval s = .slice (some ⟨g, 0, none⟩) n cap) (hown : w.ownsRow base e 2 (.slice (some ⟨g, 0, none⟩) n cap) n xs)
    (a1 : Option Addr) (m c : Nat) (l : List (Int × Int)) (hx : a.eval x = .slice a1 m c) (hl : Holds w a1 m l) (h63 : n + m ≤ 1048576) (hbase : base ≤ w.heap.size) (H : Nat) (hH : w.heap.size = H)
    (h : ∀ g' cap' w', w'.ownsRow base e 2 (.slice (some ⟨g', 0, none⟩) (n + m) cap') (n + m) (xs ++ flat l) → w.grownBy w' (some g) → (g' = g ∨ g' = H) → g' < w'.heap.size → K (a.put o.dst (.slice (some ⟨g', 0, none⟩) (n + m) cap')) w') : o.wp P a w K Q := by
  obtain ⟨g', cap', w', hr, h2, h3, h4, h5⟩ := run_append_holds (P := P) w t o.type base e i z ht hi hz hsize hby hzs g n cap xs hown a1 m c l hl h63 hbase H hH
  unfold Oper.wp execOp
  simp only [ho, resolve, invoke, builtin, Sem.run_bind, Sem.run_pure, Result.andThen_ok, List.map_toArray, List.map_cons, List.map_nil, hs, hx, hr]
  exact h g' cap' w' h2 h3 h4 h5
theorem wpList_append_holds {P : Program} {w : World} {ops : Array Oper} {rest : List Oper} {o : Oper} {a : Act} {Q : Exit → Act → World → Prop} (hgd : o.guard = none) (s x : Operand) (t : TypeId)
    (ho : o.op = .call { callee := .builtin .append, args := #[s, x], argTypes := #[t, t] })
    (base : Nat) (e : TypeId) (i : TypeInfo) (z : Value) (ht : P.underlying t = some (.slice e)) (hi : P.info? e = some i) (hz : i.zero = some z)
    (hsize : i.size = 2) (hby : i.bytes = 16) (hzs : z.cells.size = 2) (g n cap : Nat) (xs : List Value) (hs : a.eval s = .slice (some ⟨g, 0, none⟩) n cap) (hown : w.ownsRow base e 2 (.slice (some ⟨g, 0, none⟩) n cap) n xs)
    (a1 : Option Addr) (m c : Nat) (l : List (Int × Int)) (hx : a.eval x = .slice a1 m c) (hl : Holds w a1 m l) (h63 : n + m ≤ 1048576) (hbase : base ≤ w.heap.size) (H : Nat) (hH : w.heap.size = H)
    (h : ∀ g' cap' w', w'.ownsRow base e 2 (.slice (some ⟨g', 0, none⟩) (n + m) cap') (n + m) (xs ++ flat l) → w.grownBy w' (some g) → (g' = g ∨ g' = H) → g' < w'.heap.size → wpList P ops Q rest (a.put o.dst (.slice (some ⟨g', 0, none⟩) (n + m) cap')) w') : wpList P ops Q (o :: rest) a w :=
  wpList_plain hgd fun _ hK => wp_append_holds s x t ho base e i z ht hi hz hsize hby hzs g n cap xs hs hown a1 m c l hx hl h63 hbase H hH fun g' cap' w' h2 h3 h4 h5 => hK _ _ (h g' cap' w' h2 h3 h4 h5)
theorem step_append_holds {P : Program} {w : World} {ops : Array Oper} {o : Oper} {a : Act} {K : Act → World → Prop} {Q : Exit → Act → World → Prop} {E : Prop} (hgd : o.guard = none) (s x : Operand) (t : TypeId)
    (ho : o.op = .call { callee := .builtin .append, args := #[s, x], argTypes := #[t, t] })
    (base : Nat) (e : TypeId) (i : TypeInfo) (z : Value) (ht : P.underlying t = some (.slice e)) (hi : P.info? e = some i) (hz : i.zero = some z)
    (hsize : i.size = 2) (hby : i.bytes = 16) (hzs : z.cells.size = 2) (g n cap : Nat) (xs : List Value) (hs : a.eval s = .slice (some ⟨g, 0, none⟩) n cap) (hown : w.ownsRow base e 2 (.slice (some ⟨g, 0, none⟩) n cap) n xs)
    (a1 : Option Addr) (m c : Nat) (l : List (Int × Int)) (hx : a.eval x = .slice a1 m c) (hl : Holds w a1 m l) (h63 : n + m ≤ 1048576) (hbase : base ≤ w.heap.size) (H : Nat) (hH : w.heap.size = H)
    (h : ∀ g' cap' w', w'.ownsRow base e 2 (.slice (some ⟨g', 0, none⟩) (n + m) cap') (n + m) (xs ++ flat l) → w.grownBy w' (some g) → (g' = g ∨ g' = H) → g' < w'.heap.size → K (a.put o.dst (.slice (some ⟨g', 0, none⟩) (n + m) cap')) w') :
    if Region.wanted o (yielded ops a.tmps) = true then Oper.wp P o a w K Q else E := by
  have hw : Region.wanted o (yielded ops a.tmps) = true := by simp [Region.wanted, hgd]
  rw [if_pos hw]
  exact wp_append_holds s x t ho base e i z ht hi hz hsize hby hzs g n cap xs hs hown a1 m c l hx hl h63 hbase H hH h
end Go.Proofs.Ythcjembekadijaa.AppH
/- A source of pairs at any address, empty or not; append of it onto a row of one's own; the place of a number. -/
namespace Go.Proofs.Ythcjembekadijaa.PSrc
open Go.RowKit Pairs Rec Row2 Copy GoodM

theorem block_add (a : Addr) (n : Nat) : (a.add n).block = a.block := by unfold Addr.add; split <;> rfl
theorem add_add (a : Addr) (i j : Nat) : (a.add i).add j = a.add (i + j) := by
  unfold Addr.add
  by_cases hi : i = 0 <;> by_cases hj : j = 0 <;> simp [hi, hj, Nat.add_assoc]
/-- A source of pairs: it is empty, or its cells are there. -/
def Src (w : World) (a : Option Addr) (n : Nat) (l : List (Int × Int)) : Prop :=
  l.length = n ∧ (0 < n → ∃ ad, a = some ad ∧ ad.block < w.heap.size ∧ ∀ j v, (flat l)[j]? = some v → w.cell? (ad.add j) = some v)
theorem Src.of {w : World} {a : Option Addr} {n : Nat} {l : List (Int × Int)} (h : Holds w a n l) : Src w a n l := by
  refine ⟨h.1, fun hn => ?_⟩
  obtain ⟨ad, ha, hc⟩ := holds_src h hn
  rcases h.2 with h0 | ⟨b, off, hb, hlt, _⟩
  · omega
  · rw [ha] at hb
    injection hb with hb
    subst hb
    exact ⟨_, ha, hlt, hc⟩
theorem Src.below {w w' : World} {a : Option Addr} {n : Nat} {l : List (Int × Int)} (h : Src w a n l) (hb : Below w.heap.size w w') : Src w' a n l := by
  refine ⟨h.1, fun hn => ?_⟩
  obtain ⟨ad, ha, hlt, hc⟩ := h.2 hn
  exact ⟨ad, ha, Nat.lt_of_lt_of_le hlt hb.size, fun j v hj => (hb.cell (p := ad.add j) (by rw [block_add]; exact hlt)).trans (hc j v hj)⟩
theorem flat_take : ∀ (l : List (Int × Int)) (i : Nat), flat (l.take i) = (flat l).take (i * 2)
  | [], i => by simp [flat]
  | p :: l, 0 => by simp [flat]
  | p :: l, i + 1 => by
    rw [List.take_succ_cons, flat_cons, flat_cons, flat_take l i, show (i + 1) * 2 = i * 2 + 1 + 1 by omega, List.take_succ_cons, List.take_succ_cons]
theorem flat_drop : ∀ (l : List (Int × Int)) (i : Nat), flat (l.drop i) = (flat l).drop (i * 2)
  | [], i => by simp [flat]
  | p :: l, 0 => by simp
  | p :: l, i + 1 => by
    rw [List.drop_succ_cons, flat_cons, flat_drop l i, show (i + 1) * 2 = i * 2 + 1 + 1 by omega, List.drop_succ_cons, List.drop_succ_cons]
theorem Src.take {w : World} {a : Option Addr} {n : Nat} {l : List (Int × Int)} (h : Src w a n l) {i : Nat} (hi : i ≤ n) : Src w a i (l.take i) := by
  refine ⟨by rw [List.length_take, h.1]; omega, fun h0 => ?_⟩
  obtain ⟨ad, ha, hlt, hc⟩ := h.2 (by omega)
  refine ⟨ad, ha, hlt, fun j v hj => hc j v ?_⟩
  rw [flat_take] at hj
  have hl := (List.getElem?_eq_some_iff.1 hj).1
  rw [List.length_take] at hl
  rw [List.getElem?_take_of_lt (by omega)] at hj
  exact hj
theorem Src.cut {w : World} {a : Option Addr} {n : Nat} {l : List (Int × Int)} (h : Src w a n l) {i c : Nat} (hi : i ≤ n) (hc : n ≤ c) : Src w (if c = i then a else a.map (·.add (i * 2))) (n - i) (l.drop i) := by
  refine ⟨by rw [List.length_drop, h.1], fun h0 => ?_⟩
  obtain ⟨ad, rfl, hlt, hcell⟩ := h.2 (by omega)
  rw [if_neg (by omega)]
  refine ⟨ad.add (i * 2), rfl, by rw [block_add]; exact hlt, fun j v hj => ?_⟩
  rw [add_add]
  rw [flat_drop, List.getElem?_drop] at hj
  exact hcell _ v hj
theorem Src.pair {w : World} {k : Nat} {x y : Int} {T : TypeId} (h : w.heap[k]? = some (.cells #[.int .i64 x, .int .i64 y] T)) : Src w (some ⟨k, 0, none⟩) 1 [(x, y)] := by
  refine ⟨rfl, fun _ => ⟨_, rfl, (Array.getElem?_eq_some_iff.1 h).1, fun j v hj => ?_⟩⟩
  rw [Addr.add_lit, Nat.zero_add]
  simp only [World.cell?, h]
  match j, hj with
  | 0, hj => simpa [flat] using hj
  | 1, hj => simpa [flat] using hj
theorem pl_le (l : List (Int × Int)) (t : Int) : pl l t ≤ l.length := List.findIdx_le_length
theorem pl_lt {l : List (Int × Int)} {t : Int} {j : Nat} {y : Int × Int} (hj : j < pl l t) (hy : l[j]? = some y) : y.1 < t := by
  have := List.not_of_lt_findIdx (p := fun p : Int × Int => decide (t ≤ p.1)) (xs := l) hj
  have e := (List.getElem?_eq_some_iff.1 hy).2
  rw [e] at this
  simp at this
  exact this
theorem pl_at {l : List (Int × Int)} {t : Int} {y : Int × Int} (hy : l[pl l t]? = some y) : ¬ y.1 < t := by
  have hl := (List.getElem?_eq_some_iff.1 hy).1
  have := List.findIdx_getElem (p := fun p : Int × Int => decide (t ≤ p.1)) (xs := l) (w := hl)
  have e : l[l.findIdx fun p => decide (t ≤ p.1)]'hl = y := (List.getElem?_eq_some_iff.1 hy).2
  simp only [e] at this
  simp at this
  omega
theorem run_append_src {P : Program} (w : World) (t ty : TypeId) (base : Nat) (e : TypeId) (i : TypeInfo) (z : Value) (ht : P.underlying t = some (.slice e)) (hi : P.info? e = some i) (hz : i.zero = some z)
    (hsize : i.size = 2) (hby : i.bytes = 16) (hzs : z.cells.size = 2) (g n cap : Nat) (xs : List Value) (hown : w.ownsRow base e 2 (.slice (some ⟨g, 0, none⟩) n cap) n xs)
    (a1 : Option Addr) (m c : Nat) (l : List (Int × Int)) (hl : Src w a1 m l) (h63 : n + m ≤ 1048576) (hbase : base ≤ w.heap.size) (H : Nat) (hH : w.heap.size = H) :
    ∃ g' cap' w', (Builtin.append_ #[t, t] ty #[.slice (some ⟨g, 0, none⟩) n cap, .slice a1 m c]).run P w = .ok (.slice (some ⟨g', 0, none⟩) (n + m) cap') w' ∧
      w'.ownsRow base e 2 (.slice (some ⟨g', 0, none⟩) (n + m) cap') (n + m) (xs ++ flat l) ∧ w.grownBy w' (some g) ∧ (g' = g ∨ g' = H) ∧ g' < w'.heap.size := by
  rcases Nat.eq_zero_or_pos m with h0 | hm
  · subst h0
    have hl0 : l = [] := List.eq_nil_of_length_eq_zero hl.1
    subst hl0
    rcases hown.2 with ⟨e0, _⟩ | ⟨g0, cap0, cur, ev, hb, hg, hle, _⟩
    · cases e0
    · have hc : cap = cap0 := by injection ev
      have hg0 : g = g0 := by injection ev with e1; injection e1 with e1; injection e1
      subst hc
      subst hg0
      refine ⟨g, cap, w, run_append_nothing (P := P) w t t ty e i ht hi (some ⟨g, 0, none⟩) n cap hle (.slice a1 0 c) ⟨.inl ⟨_, ht⟩, (fun _ => by simp [Builtin.lenOf]), (by cases a1 <;> simp [Builtin.firstCells, loadCells, loadCellsFrom]), (by cases a1 <;> simp [Builtin.firstCells, loadCells, loadCellsFrom]), by simp, by simp⟩, ?_, World.grownBy.refl w _, .inl rfl, (Array.getElem?_eq_some_iff.1 hg).1⟩
      have : flat ([] : List (Int × Int)) = [] := rfl
      rw [this, List.append_nil]
      exact hown
  · obtain ⟨ad, rfl, _, hnews⟩ := hl.2 hm
    obtain ⟨g', cap', w', hr, h2, h3, h4, h5⟩ := run_append_lies (P := P) w t ty base e i z 2 16 ht hi hz hsize hby hzs (by decide) _ n xs hown ad m c (flat l) (by rw [flat_len, hl.1]) hnews (flat_one l) hm (by unfold maxLen; omega) (by omega) hbase H hH
    refine ⟨g', cap', w', hr, h2, h3, ?_, h5⟩
    rcases h4 with h4 | h4
    · exact .inl (by have e : some g = some g' := h4; injection e with e; exact e.symm)
    · exact .inr h4
theorem wp_append_src {P : Program} {w : World} {o : Oper} {a : Act} {K : Act → World → Prop} {Q : Exit → Act → World → Prop} (s x : Operand) (t : TypeId)
    (ho : o.op = .call { callee := .builtin .append, args := #[s, x], argTypes := #[t, t] })
    (base : Nat) (e : TypeId) (i : TypeInfo) (z : Value) (ht : P.underlying t = some (.slice e)) (hi : P.info? e = some i) (hz : i.zero = some z)
    (hsize : i.size = 2) (hby : i.bytes = 16) (hzs : z.cells.size = 2) (g n cap : Nat) (xs : List Value) (hs : a.eval s = .slice (some ⟨g, 0, none⟩) n cap) (hown : w.ownsRow base e 2 (.slice (some ⟨g, 0, none⟩) n cap) n xs)
    (a1 : Option Addr) (m c : Nat) (l : List (Int × Int)) (hx : a.eval x = .slice a1 m c) (hl : Src w a1 m l) (h63 : n + m ≤ 1048576) (hbase : base ≤ w.heap.size) (H : Nat) (hH : w.heap.size = H)
    (h : ∀ g' cap' w', w'.ownsRow base e 2 (.slice (some ⟨g', 0, none⟩) (n + m) cap') (n + m) (xs ++ flat l) → w.grownBy w' (some g) → (g' = g ∨ g' = H) → g' < w'.heap.size → K (a.put o.dst (.slice (some ⟨g', 0, none⟩) (n + m) cap')) w') : o.wp P a w K Q := by
  obtain ⟨g', cap', w', hr, h2, h3, h4, h5⟩ := run_append_src (P := P) w t o.type base e i z ht hi hz hsize hby hzs g n cap xs hown a1 m c l hl h63 hbase H hH
  unfold Oper.wp execOp
  simp only [ho, resolve, invoke, builtin, Sem.run_bind, Sem.run_pure, Result.andThen_ok, List.map_toArray, List.map_cons, List.map_nil, hs, hx, hr]
  exact h g' cap' w' h2 h3 h4 h5
theorem wpList_append_src {P : Program} {w : World} {ops : Array Oper} {rest : List Oper} {o : Oper} {a : Act} {Q : Exit → Act → World → Prop} (hgd : o.guard = none) (s x : Operand) (t : TypeId)
    (ho : o.op = .call { callee := .builtin .append, args := #[s, x], argTypes := #[t, t] })
    (base : Nat) (e : TypeId) (i : TypeInfo) (z : Value) (ht : P.underlying t = some (.slice e)) (hi : P.info? e = some i) (hz : i.zero = some z)
    (hsize : i.size = 2) (hby : i.bytes = 16) (hzs : z.cells.size = 2) (g n cap : Nat) (xs : List Value) (hs : a.eval s = .slice (some ⟨g, 0, none⟩) n cap) (hown : w.ownsRow base e 2 (.slice (some ⟨g, 0, none⟩) n cap) n xs)
    (a1 : Option Addr) (m c : Nat) (l : List (Int × Int)) (hx : a.eval x = .slice a1 m c) (hl : Src w a1 m l) (h63 : n + m ≤ 1048576) (hbase : base ≤ w.heap.size) (H : Nat) (hH : w.heap.size = H)
    (h : ∀ g' cap' w', w'.ownsRow base e 2 (.slice (some ⟨g', 0, none⟩) (n + m) cap') (n + m) (xs ++ flat l) → w.grownBy w' (some g) → (g' = g ∨ g' = H) → g' < w'.heap.size → wpList P ops Q rest (a.put o.dst (.slice (some ⟨g', 0, none⟩) (n + m) cap')) w') : wpList P ops Q (o :: rest) a w :=
  wpList_plain hgd fun _ hK => wp_append_src s x t ho base e i z ht hi hz hsize hby hzs g n cap xs hs hown a1 m c l hx hl h63 hbase H hH fun g' cap' w' h2 h3 h4 h5 => hK _ _ (h g' cap' w' h2 h3 h4 h5)
theorem step_append_src {P : Program} {w : World} {ops : Array Oper} {o : Oper} {a : Act} {K : Act → World → Prop} {Q : Exit → Act → World → Prop} {E : Prop} (hgd : o.guard = none) (s x : Operand) (t : TypeId)
    (ho : o.op = .call { callee := .builtin .append, args := #[s, x], argTypes := #[t, t] })
    (base : Nat) (e : TypeId) (i : TypeInfo) (z : Value) (ht : P.underlying t = some (.slice e)) (hi : P.info? e = some i) (hz : i.zero = some z)
    (hsize : i.size = 2) (hby : i.bytes = 16) (hzs : z.cells.size = 2) (g n cap : Nat) (xs : List Value) (hs : a.eval s = .slice (some ⟨g, 0, none⟩) n cap) (hown : w.ownsRow base e 2 (.slice (some ⟨g, 0, none⟩) n cap) n xs)
    (a1 : Option Addr) (m c : Nat) (l : List (Int × Int)) (hx : a.eval x = .slice a1 m c) (hl : Src w a1 m l) (h63 : n + m ≤ 1048576) (hbase : base ≤ w.heap.size) (H : Nat) (hH : w.heap.size = H)
    (h : ∀ g' cap' w', w'.ownsRow base e 2 (.slice (some ⟨g', 0, none⟩) (n + m) cap') (n + m) (xs ++ flat l) → w.grownBy w' (some g) → (g' = g ∨ g' = H) → g' < w'.heap.size → K (a.put o.dst (.slice (some ⟨g', 0, none⟩) (n + m) cap')) w') :
    if Region.wanted o (yielded ops a.tmps) = true then Oper.wp P o a w K Q else E := by
  have hw : Region.wanted o (yielded ops a.tmps) = true := by simp [Region.wanted, hgd]
  rw [if_pos hw]
  exact wp_append_src s x t ho base e i z ht hi hz hsize hby hzs g n cap xs hs hown a1 m c l hx hl h63 hbase H hH h
end Go.Proofs.Ythcjembekadijaa.PSrc
