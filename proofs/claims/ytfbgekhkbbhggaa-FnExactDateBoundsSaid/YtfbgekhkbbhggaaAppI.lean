/- append of a list of ints onto an empty row of one's own: slices.Clone and the model's l1Own over ints. -/
import Derived.Test.YtfbgekhkbbhggaaDi
import Derived.Deep.AppendLies
import Derived.Deep.Upon
import Derived.OwnWalk
import Derived.Lib.SliceRun
namespace Go.Proofs.Ytfbgekhkbbhggaa.AppI
open Go.RowKit Pairs Rec Keep GivesI
set_option linter.unusedVariables false
theorem ints_one (L : List Int) : ∀ v ∈ ints L, v.oneCell' = true := by
  intro v hv
  unfold ints at hv
  obtain ⟨x, _, rfl⟩ := List.mem_map.1 hv
  rfl
theorem ints_get {L : List Int} {j : Nat} {v : Value} (h : (ints L)[j]? = some v) : ∃ x, L[j]? = some x ∧ v = .int .i64 x := by
  unfold ints at h
  rw [List.getElem?_map] at h
  cases hx : L[j]? with
  | none => rw [hx] at h; cases h
  | some x => rw [hx] at h; injection h with h; exact ⟨x, rfl, h.symm⟩
theorem held_src {w : World} {a : Option Addr} {n : Nat} {L : List Int} (h : HoldsI w a n L) (hn : 0 < n) : ∃ ad, a = some ad ∧ ∀ j v, (ints L)[j]? = some v → w.cell? (ad.add j) = some v := by
  rcases h.2 with h0 | ⟨b, off, ha, hb, hc⟩
  · omega
  · refine ⟨_, ha, fun j v hj => ?_⟩
    obtain ⟨x, hx, rfl⟩ := ints_get hj
    rw [Addr.add_lit]
    exact hc j x hx
theorem run_app {P : Program} (w : World) (t ty : TypeId) (base : Nat) (e : TypeId) (i : TypeInfo) (z : Value) (ht : P.underlying t = some (.slice e)) (hi : P.info? e = some i) (hz : i.zero = some z)
    (hsize : i.size = 1) (hby : i.bytes = 8) (hzs : z.cells.size = 1) (g n cap : Nat) (xs : List Value) (hown : w.ownsRow base e 1 (.slice (some ⟨g, 0, none⟩) n cap) n xs)
    (a1 : Option Addr) (m c : Nat) (L : List Int) (hl : HoldsI w a1 m L) (h63 : n + m ≤ 1048576) (hbase : base ≤ w.heap.size) (H : Nat) (hH : w.heap.size = H) :
    ∃ g' cap' w', (Builtin.append_ #[t, t] ty #[.slice (some ⟨g, 0, none⟩) n cap, .slice a1 m c]).run P w = .ok (.slice (some ⟨g', 0, none⟩) (n + m) cap') w' ∧
      w'.ownsRow base e 1 (.slice (some ⟨g', 0, none⟩) (n + m) cap') (n + m) (xs ++ ints L) ∧ w.grownBy w' (some g) ∧ (g' = g ∨ g' = H) ∧ g' < w'.heap.size := by
  rcases Nat.eq_zero_or_pos m with h0 | hm
  · subst h0
    have hl0 : L = [] := List.eq_nil_of_length_eq_zero hl.1
    subst hl0
    rcases hown.2 with ⟨e0, _⟩ | ⟨g0, cap0, cur, ev, hb, hg, hle, _⟩
    · cases e0
    · have hc : cap = cap0 := by injection ev
      have hg0 : g = g0 := by injection ev with e1; injection e1 with e1; injection e1
      subst hc
      subst hg0
      refine ⟨g, cap, w, run_append_nothing (P := P) w t t ty e i ht hi (some ⟨g, 0, none⟩) n cap hle (.slice a1 0 c) ⟨.inl ⟨_, ht⟩, (fun _ => by simp [Builtin.lenOf]), (by cases a1 <;> simp [Builtin.firstCells, loadCells, loadCellsFrom]), (by cases a1 <;> simp [Builtin.firstCells, loadCells, loadCellsFrom]), by simp, by simp⟩, ?_, World.grownBy.refl w _, .inl rfl, (Array.getElem?_eq_some_iff.1 hg).1⟩
      have : ints ([] : List Int) = [] := rfl
      rw [this, List.append_nil]
      exact hown
  · obtain ⟨ad, rfl, hnews⟩ := held_src hl hm
    obtain ⟨g', cap', w', hr, h2, h3, h4, h5⟩ := run_append_lies (P := P) w t ty base e i z 1 8 ht hi hz hsize hby hzs (by decide) _ n xs hown ad m c (ints L) (by rw [ints_len, hl.1, Nat.mul_one]) hnews (ints_one L) hm (by unfold maxLen; omega) (by omega) hbase H hH
    refine ⟨g', cap', w', hr, h2, h3, ?_, h5⟩
    rcases h4 with h4 | h4
    · exact .inl (by have e : some g = some g' := h4; injection e with e; exact e.symm)
    · exact .inr h4
theorem wpList_app {P : Program} {w : World} {ops : Array Oper} {rest : List Oper} {o : Oper} {a : Act} {Q : Exit → Act → World → Prop} (hgd : o.guard = none) (s x : Operand) (t : TypeId)
    (ho : o.op = .call { callee := .builtin .append, args := #[s, x], argTypes := #[t, t] })
    (base : Nat) (e : TypeId) (i : TypeInfo) (z : Value) (ht : P.underlying t = some (.slice e)) (hi : P.info? e = some i) (hz : i.zero = some z)
    (hsize : i.size = 1) (hby : i.bytes = 8) (hzs : z.cells.size = 1) (g n cap : Nat) (xs : List Value) (hs : a.eval s = .slice (some ⟨g, 0, none⟩) n cap) (hown : w.ownsRow base e 1 (.slice (some ⟨g, 0, none⟩) n cap) n xs)
    (a1 : Option Addr) (m c : Nat) (L : List Int) (hx : a.eval x = .slice a1 m c) (hl : HoldsI w a1 m L) (h63 : n + m ≤ 1048576) (hbase : base ≤ w.heap.size) (H : Nat) (hH : w.heap.size = H)
    (h : ∀ g' cap' w', w'.ownsRow base e 1 (.slice (some ⟨g', 0, none⟩) (n + m) cap') (n + m) (xs ++ ints L) → w.grownBy w' (some g) → (g' = g ∨ g' = H) → g' < w'.heap.size → wpList P ops Q rest (a.put o.dst (.slice (some ⟨g', 0, none⟩) (n + m) cap')) w') : wpList P ops Q (o :: rest) a w := by
  refine wpList_plain hgd fun _ hK => ?_
  obtain ⟨g', cap', w', hr, h2, h3, h4, h5⟩ := run_app (P := P) w t o.type base e i z ht hi hz hsize hby hzs g n cap xs hown a1 m c L hl h63 hbase H hH
  unfold Oper.wp execOp
  simp only [ho, resolve, invoke, builtin, Sem.run_bind, Sem.run_pure, Result.andThen_ok, List.map_toArray, List.map_cons, List.map_nil, hs, hx, hr]
  exact hK _ _ (h g' cap' w' h2 h3 h4 h5)
theorem empty_own (w : World) : (w.alloc (.cells #[] 3)).ownsRow w.heap.size 3 1 (.slice (some ⟨w.heap.size, 0, none⟩) 0 0) 0 [] :=
  World.ownsRow_made w #[] 0 (Nat.le_refl _) (by unfold maxLen; omega) (by simp)
theorem own_here {g k : Nat} (h : some g = some k) : g ≤ k := Nat.le_of_eq (by simpa using h)
def CloAns (L : List Int) (n : Nat) (w : World) (e : Ending) (w' : World) : Prop := ∃ (p : Option Addr) (d : Nat), e = .returned (.slice p n d) ∧ w'.ownsRow w.heap.size 3 1 (.slice p n d) n (ints L) ∧ Below w.heap.size w w'
set_option maxRecDepth 100000 in
set_option maxHeartbeats 2000000 in
theorem own_any (a : Option Addr) (n c : Nat) (L : List Int) (hz : n ≤ 1048576) (w : World) (h : HoldsI w a n L) :
    Calls Try.prog 72 #[.slice a n c] w (CloAns L n w) := by
  obtain ⟨i1, hi1, hy0, hy1, hy2⟩ := info_parts IntT.infoI
  have HH := Lib.hid (h.below (below_alloc w (.cells #[] 3)))
  have hem := empty_own w
  clear h
  go_enter Try.func72, Try.ntmps72
  go_wp2_with (at_builtin; refine wpList_app rfl _ _ 41 rfl w.heap.size 3 i1 (.int .i64 0) Try.underlying41 hi1 hy0 hy1 hy2 rfl w.heap.size 0 0 [] rfl hem a n c L rfl HH.out (by omega) (by simp) (w.heap.size + 1) (by simp) ?_; intro g cap w3 hown' hgrow hat hltg)
  go_ret
  exact ⟨_, _, rfl, by simpa using hown', (below_alloc w _).grown hgrow (by simp) (fun k hk => own_here hk)⟩
set_option maxRecDepth 100000 in
set_option maxHeartbeats 2000000 in
theorem clone_any (a : Option Addr) (n c : Nat) (L : List Int) (hz : n ≤ 1048576) (w : World) (h : HoldsI w a n L) :
    Calls Try.prog 75 #[.slice a n c] w (CloAns L n w) := by
  obtain ⟨i1, hi1, hy0, hy1, hy2⟩ := info_parts IntT.infoI
  have q22 : ∀ (w : World) (a : Option Addr) (n c n' c' : Nat), (binOp .eql 41 (.slice a n c) (.slice none n' c')).run Try.prog w = .ok (.bool a.isNone) w := fun w a n c n' c' => Lib.run_eql_slice_nil w _ _ a n c n' c' Try.underlying41
  cases a with
  | none =>
    rcases h.2 with h0 | ⟨b, off, hp, _⟩
    · subst h0
      have hl0 : L = [] := List.eq_nil_of_length_eq_zero h.1
      subst hl0
      clear h
      go_enter Try.func75, Try.ntmps75
      go_wp2_with fail
      go_ret
      exact ⟨none, 0, rfl, World.ownsRow_nil _ _ _ _, Below.refl _ _⟩
    · cases hp
  | some ad =>
    have HH := Lib.hid (h.below (below_alloc w (.cells #[] 3)))
    have hem := empty_own w
    clear h
    go_enter Try.func75, Try.ntmps75
    go_wp2_with (at_builtin; refine wpList_app rfl _ _ 41 rfl w.heap.size 3 i1 (.int .i64 0) Try.underlying41 hi1 hy0 hy1 hy2 rfl w.heap.size 0 0 [] rfl hem (some ad) n c L rfl HH.out (by omega) (by simp) (w.heap.size + 1) (by simp) ?_; intro g cap w3 hown' hgrow hat hltg)
    go_ret
    exact ⟨_, _, rfl, by simpa using hown', (below_alloc w _).grown hgrow (by simp) (fun k hk => own_here hk)⟩
end Go.Proofs.Ytfbgekhkbbhggaa.AppI
