/- append of a curve onto an empty row of one's own: slices.Clone over points; a point of a row written anew. -/
import Derived.Test.YtlpcgchekhoieaaCuM
import Derived.Test.YtlpcgchekhoieaaDi
import Derived.Deep.AppendLies
import Derived.Deep.Upon
import Derived.OwnWalk
import Derived.Lib.SliceRun
namespace Go.Proofs.Ytlpcgchekhoieaa.AppT
open Go.RowKit Pairs Rec Keep GivesI Cu CuT
set_option linter.unusedVariables false
theorem flatD_one (L : List Dt) : ∀ v ∈ flatD L, v.oneCell' = true := by
  intro v hv
  unfold flatD at hv
  obtain ⟨x, _, hx⟩ := List.mem_flatMap.1 hv
  simp only [List.mem_cons, List.not_mem_nil, or_false] at hx
  rcases hx with rfl | rfl | rfl <;> rfl
theorem flatD_src : ∀ (L : List Dt) (j : Nat) (v : Value), (flatD L)[j]? = some v → ∃ i q, L[i]? = some q ∧ ((j = i * 3 ∧ v = .int .i64 q.1) ∨ (j = i * 3 + 1 ∧ v = .int .i64 q.2.1) ∨ (j = i * 3 + 2 ∧ v = .int .i64 q.2.2))
  | [], j, v, h => by simp [flatD] at h
  | p :: L, j, v, h => by
    rw [flatD_cons] at h
    match j, h with
    | 0, h => exact ⟨0, p, rfl, .inl ⟨rfl, by simpa using h.symm⟩⟩
    | 1, h => exact ⟨0, p, rfl, .inr (.inl ⟨rfl, by simpa using h.symm⟩)⟩
    | 2, h => exact ⟨0, p, rfl, .inr (.inr ⟨rfl, by simpa using h.symm⟩)⟩
    | j + 3, h =>
      obtain ⟨i, q, hq, hh⟩ := flatD_src L j v (by simpa using h)
      refine ⟨i + 1, q, by simpa using hq, ?_⟩
      rcases hh with ⟨h1, h2⟩ | ⟨h1, h2⟩ | ⟨h1, h2⟩
      · exact .inl ⟨by omega, h2⟩
      · exact .inr (.inl ⟨by omega, h2⟩)
      · exact .inr (.inr ⟨by omega, h2⟩)
theorem held_src {w : World} {a : Option Addr} {n : Nat} {L : List Dt} (h : HoldsD w a n L) (hn : 0 < n) : ∃ ad, a = some ad ∧ ∀ j v, (flatD L)[j]? = some v → w.cell? (ad.add j) = some v := by
  rcases h.2 with h0 | ⟨b, off, ha, hb, hc⟩
  · omega
  · refine ⟨_, ha, fun j v hj => ?_⟩
    obtain ⟨i, q, hq, hh⟩ := flatD_src L j v hj
    rw [Addr.add_lit]
    obtain ⟨c0, c1, c2⟩ := hc i q hq
    rcases hh with ⟨rfl, rfl⟩ | ⟨rfl, rfl⟩ | ⟨rfl, rfl⟩
    · exact c0
    · exact c1
    · exact c2
theorem run_app {P : Program} (w : World) (t ty : TypeId) (base : Nat) (e : TypeId) (i : TypeInfo) (z : Value) (ht : P.underlying t = some (.slice e)) (hi : P.info? e = some i) (hz : i.zero = some z)
    (hsize : i.size = 3) (hby : i.bytes = 24) (hzs : z.cells.size = 3) (g n cap : Nat) (xs : List Value) (hown : w.ownsRow base e 3 (.slice (some ⟨g, 0, none⟩) n cap) n xs)
    (a1 : Option Addr) (m c : Nat) (L : List Dt) (hl : HoldsD w a1 m L) (h63 : n + m ≤ 1048576) (hbase : base ≤ w.heap.size) (H : Nat) (hH : w.heap.size = H) :
    ∃ g' cap' w', (Builtin.append_ #[t, t] ty #[.slice (some ⟨g, 0, none⟩) n cap, .slice a1 m c]).run P w = .ok (.slice (some ⟨g', 0, none⟩) (n + m) cap') w' ∧
      w'.ownsRow base e 3 (.slice (some ⟨g', 0, none⟩) (n + m) cap') (n + m) (xs ++ flatD L) ∧ w.grownBy w' (some g) ∧ (g' = g ∨ g' = H) ∧ g' < w'.heap.size := by
  rcases Nat.eq_zero_or_pos m with h0 | hm
  · subst h0
    have hl0 : L = [] := List.eq_nil_of_length_eq_zero hl.1
    subst hl0
    rcases hown.2 with ⟨e0, _⟩ | ⟨g0, cap0, cur, ev, hb, hg, hle, _⟩
    · cases e0
    · have hc : cap = cap0 := by injection ev
      have hg0 : g = g0 := by injection ev with e1; injection e1 with e1; injection e1
      subst hc
      subst hg0
      refine ⟨g, cap, w, run_append_nothing (P := P) w t t ty e i ht hi (some ⟨g, 0, none⟩) n cap hle (.slice a1 0 c) ⟨.inl ⟨_, ht⟩, (fun _ => by simp [Builtin.lenOf]), (by cases a1 <;> simp [Builtin.firstCells, loadCells, loadCellsFrom]), (by cases a1 <;> simp [Builtin.firstCells, loadCells, loadCellsFrom]), by simp, by simp⟩, ?_, World.grownBy.refl w _, .inl rfl, (Array.getElem?_eq_some_iff.1 hg).1⟩
      have : flatD ([] : List Dt) = [] := rfl
      rw [this, List.append_nil]
      exact hown
  · obtain ⟨ad, rfl, hnews⟩ := held_src hl hm
    obtain ⟨g', cap', w', hr, h2, h3, h4, h5⟩ := run_append_lies (P := P) w t ty base e i z 3 24 ht hi hz hsize hby hzs (by decide) _ n xs hown ad m c (flatD L) (by rw [flatD_len, hl.1]) hnews (flatD_one L) hm (by unfold maxLen; omega) (by omega) hbase H hH
    refine ⟨g', cap', w', hr, h2, h3, ?_, h5⟩
    rcases h4 with h4 | h4
    · exact .inl (by have e : some g = some g' := h4; injection e with e; exact e.symm)
    · exact .inr h4
theorem wpList_app {P : Program} {w : World} {ops : Array Oper} {rest : List Oper} {o : Oper} {a : Act} {Q : Exit → Act → World → Prop} (hgd : o.guard = none) (s x : Operand) (t : TypeId)
    (ho : o.op = .call { callee := .builtin .append, args := #[s, x], argTypes := #[t, t] })
    (base : Nat) (e : TypeId) (i : TypeInfo) (z : Value) (ht : P.underlying t = some (.slice e)) (hi : P.info? e = some i) (hz : i.zero = some z)
    (hsize : i.size = 3) (hby : i.bytes = 24) (hzs : z.cells.size = 3) (g n cap : Nat) (xs : List Value) (hs : a.eval s = .slice (some ⟨g, 0, none⟩) n cap) (hown : w.ownsRow base e 3 (.slice (some ⟨g, 0, none⟩) n cap) n xs)
    (a1 : Option Addr) (m c : Nat) (L : List Dt) (hx : a.eval x = .slice a1 m c) (hl : HoldsD w a1 m L) (h63 : n + m ≤ 1048576) (hbase : base ≤ w.heap.size) (H : Nat) (hH : w.heap.size = H)
    (h : ∀ g' cap' w', w'.ownsRow base e 3 (.slice (some ⟨g', 0, none⟩) (n + m) cap') (n + m) (xs ++ flatD L) → w.grownBy w' (some g) → (g' = g ∨ g' = H) → g' < w'.heap.size → wpList P ops Q rest (a.put o.dst (.slice (some ⟨g', 0, none⟩) (n + m) cap')) w') : wpList P ops Q (o :: rest) a w := by
  refine wpList_plain hgd fun _ hK => ?_
  obtain ⟨g', cap', w', hr, h2, h3, h4, h5⟩ := run_app (P := P) w t o.type base e i z ht hi hz hsize hby hzs g n cap xs hown a1 m c L hl h63 hbase H hH
  unfold Oper.wp execOp
  simp only [ho, resolve, invoke, builtin, Sem.run_bind, Sem.run_pure, Result.andThen_ok, List.map_toArray, List.map_cons, List.map_nil, hs, hx, hr]
  exact hK _ _ (h g' cap' w' h2 h3 h4 h5)
theorem empty_own (w : World) : (w.alloc (.cells #[] 75)).ownsRow w.heap.size 75 3 (.slice (some ⟨w.heap.size, 0, none⟩) 0 0) 0 [] :=
  World.ownsRow_made w #[] 0 (Nat.le_refl _) (by unfold maxLen; omega) (by simp)
theorem own_here {g k : Nat} (h : some g = some k) : g ≤ k := Nat.le_of_eq (by simpa using h)
def CloAns (L : List Dt) (n : Nat) (w : World) (e : Ending) (w' : World) : Prop := ∃ (p : Option Addr) (d : Nat), e = .returned (.slice p n d) ∧ w'.ownsRow w.heap.size 75 3 (.slice p n d) n (flatD L) ∧ Below w.heap.size w w'
set_option maxRecDepth 100000 in
set_option maxHeartbeats 2000000 in
theorem clone_any (ad : Addr) (n c : Nat) (L : List Dt) (hz : n ≤ 1048576) (w : World) (h : HoldsD w (some ad) n L) :
    Calls Try.prog 79 #[.slice (some ad) n c] w (CloAns L n w) := by
  obtain ⟨i1, hi1, hy0, hy1, hy2⟩ := info_parts infoCurvePoint
  have q22 : ∀ (w : World) (a : Option Addr) (n c n' c' : Nat), (binOp .eql 25 (.slice a n c) (.slice none n' c')).run Try.prog w = .ok (.bool a.isNone) w := fun w a n c n' c' => Lib.run_eql_slice_nil w _ _ a n c n' c' Try.underlying25
  have HH := Lib.hid (h.below (below_alloc w (.cells #[] 75)))
  have hem := empty_own w
  clear h
  go_enter Try.func79, Try.ntmps79
  go_wp2_with (at_builtin; refine wpList_app rfl _ _ 25 rfl w.heap.size 75 i1 (.agg #[.int .i64 0, .int .i64 0, .int .i64 0]) Try.underlying25 hi1 hy0 hy1 hy2 rfl w.heap.size 0 0 [] rfl hem (some ad) n c L rfl HH.out (by omega) (by simp) (w.heap.size + 1) (by simp) ?_; intro g cap w3 hown' hgrow hat hltg)
  go_ret
  exact ⟨_, _, rfl, by simpa using hown', (below_alloc w _).grown hgrow (by simp) (fun k hk => own_here hk)⟩
/-- A point of which the Age and the Error are written anew. -/
theorem flatD_set : ∀ (X : List Dt) (i : Nat) (x y z y' z' : Int), X[i]? = some (x, y, z) → ((flatD X).set (i * 3 + 1) (.int .i64 y')).set (i * 3 + 2) (.int .i64 z') = flatD (X.set i (x, y', z'))
  | [], i, x, y, z, y', z', h => by simp at h
  | p :: X, 0, x, y, z, y', z', h => by
    obtain rfl : p = (x, y, z) := by simpa using h
    rfl
  | p :: X, i + 1, x, y, z, y', z', h => by
    have h' : X[i]? = some (x, y, z) := by simpa using h
    have e := flatD_set X i x y z y' z' h'
    rw [List.set_cons_succ, flatD_cons, flatD_cons, ← e, show (i + 1) * 3 + 1 = i * 3 + 1 + 1 + 1 + 1 by omega, show (i + 1) * 3 + 2 = i * 3 + 2 + 1 + 1 + 1 by omega]
    rfl
def mid (f : Dt → Dt) (L : List Dt) (i : Nat) : List Dt := (L.map f).take i ++ L.drop i
theorem mid_zero (f : Dt → Dt) (L : List Dt) : mid f L 0 = L := by unfold mid; simp
theorem mid_full (f : Dt → Dt) (L : List Dt) : mid f L L.length = L.map f := by
  unfold mid
  rw [List.take_of_length_le (by rw [List.length_map]; exact Nat.le_refl _), List.drop_of_length_le (Nat.le_refl _), List.append_nil]
theorem mid_at {f : Dt → Dt} {L : List Dt} {i : Nat} {q : Dt} (h : L[i]? = some q) : (mid f L i)[i]? = some q := by
  have hl := (List.getElem?_eq_some_iff.1 h).1
  unfold mid
  rw [List.getElem?_append_right (by rw [List.length_take, List.length_map]; omega), List.length_take, List.length_map, List.getElem?_drop, show i + (i - min i L.length) = i by omega]
  exact h
theorem mid_next {f : Dt → Dt} {L : List Dt} {i : Nat} {q : Dt} (h : L[i]? = some q) : (mid f L i).set i (f q) = mid f L (i + 1) := by
  have hl := (List.getElem?_eq_some_iff.1 h).1
  apply List.ext_getElem?
  intro j
  have hm1 : ((L.map f).take i).length = i := by rw [List.length_take, List.length_map]; omega
  have hm2 : ((L.map f).take (i + 1)).length = i + 1 := by rw [List.length_take, List.length_map]; omega
  by_cases e : j = i
  · subst e
    rw [List.getElem?_set_self (by unfold mid; rw [List.length_append, hm1, List.length_drop]; omega)]
    unfold mid
    rw [List.getElem?_append_left (by omega), List.getElem?_take_of_lt (by omega), List.getElem?_map, h]
    rfl
  · rw [List.getElem?_set_ne (fun e' => e e'.symm)]
    unfold mid
    by_cases hj : j < i
    · rw [List.getElem?_append_left (by omega), List.getElem?_append_left (by omega), List.getElem?_take_of_lt hj, List.getElem?_take_of_lt (by omega)]
    · rw [List.getElem?_append_right (by omega), List.getElem?_append_right (by omega), hm1, hm2, List.getElem?_drop, List.getElem?_drop]
      congr 1
      omega
end Go.Proofs.Ytlpcgchekhoieaa.AppT
