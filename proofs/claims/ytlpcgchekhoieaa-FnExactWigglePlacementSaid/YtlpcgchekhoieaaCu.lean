/- Rows of three ints each (points of a curve) in the world; how such a row comes in as an argument. -/
import Derived.Test.YtlpcgchekhoieaaIb
import Derived.Deep.Strs
import Derived.ChangeSlices
namespace Go.Proofs.Ytlpcgchekhoieaa.Cu
open Go.ChangeShapes Go.WideShapes Go.RowKit Go.Deep Pairs Rec Keep GivesI RecOpen
abbrev Dt := Int × Int × Int
def At (w : World) (b off : Nat) (x : Dt) : Prop :=
  w.cell? ⟨b, off, none⟩ = some (.int .i64 x.1) ∧ w.cell? ⟨b, off + 1, none⟩ = some (.int .i64 x.2.1) ∧ w.cell? ⟨b, off + 2, none⟩ = some (.int .i64 x.2.2)
def HoldsD (w : World) (a : Option Addr) (n : Nat) (L : List Dt) : Prop :=
  L.length = n ∧ (n = 0 ∨ ∃ b off, a = some ⟨b, off, none⟩ ∧ b < w.heap.size ∧ ∀ i x, L[i]? = some x → At w b (off + i * 3) x)
theorem At.below {w w' : World} {b off : Nat} {x : Dt} (h : At w b off x) (hb : Below w.heap.size w w') (hlt : b < w.heap.size) : At w' b off x :=
  ⟨(hb.cell (p := ⟨b, off, none⟩) hlt).trans h.1, (hb.cell (p := ⟨b, off + 1, none⟩) hlt).trans h.2.1, (hb.cell (p := ⟨b, off + 2, none⟩) hlt).trans h.2.2⟩
theorem HoldsD.below {w w' : World} {a : Option Addr} {n : Nat} {L : List Dt} (h : HoldsD w a n L) (hb : Below w.heap.size w w') : HoldsD w' a n L := by
  obtain ⟨h1, h2⟩ := h
  refine ⟨h1, ?_⟩
  rcases h2 with h2 | ⟨b, off, ha, hbw, hc⟩
  · exact .inl h2
  · exact .inr ⟨b, off, ha, Nat.lt_of_lt_of_le hbw hb.size, fun i x hi => (hc i x hi).below hb hbw⟩
theorem HoldsD.at {w : World} {a : Option Addr} {n : Nat} {L : List Dt} (h : HoldsD w a n L) (k : Nat) (hk : k < n) :
    ∃ (b off : Nat) (x y z : Int), a = some ⟨b, off, none⟩ ∧ L[k]? = some (x, y, z) ∧ w.cell? ⟨b, off + k * 3, none⟩ = some (.int .i64 x) ∧ w.cell? ⟨b, off + k * 3 + 1, none⟩ = some (.int .i64 y) ∧ w.cell? ⟨b, off + k * 3 + 2, none⟩ = some (.int .i64 z) := by
  obtain ⟨h1, h2⟩ := h
  rcases h2 with h2 | ⟨b, off, ha, hbw, hc⟩
  · omega
  · have hl : k < L.length := by omega
    obtain ⟨e1, e2, e3⟩ := hc k L[k] (List.getElem?_eq_getElem hl)
    exact ⟨b, off, L[k].1, L[k].2.1, L[k].2.2, ha, List.getElem?_eq_getElem hl, e1, e2, e3⟩
theorem HoldsD.take {w : World} {a : Option Addr} {n : Nat} {L : List Dt} (h : HoldsD w a n L) (k : Nat) (hk : k ≤ n) : HoldsD w a k (L.take k) := by
  obtain ⟨h1, h2⟩ := h
  refine ⟨by rw [List.length_take]; omega, ?_⟩
  rcases h2 with h2 | ⟨b, off, ha, hbw, hc⟩
  · exact .inl (by omega)
  · refine .inr ⟨b, off, ha, hbw, fun i x hi => ?_⟩
    have hik : i < k := by have := (List.getElem?_eq_some_iff.1 hi).1; rw [List.length_take] at this; omega
    rw [List.getElem?_take_of_lt hik] at hi
    exact hc i x hi
/-- The cells of a row. -/
def flatD (L : List Dt) : List Value := L.flatMap fun p => [.int .i64 p.1, .int .i64 p.2.1, .int .i64 p.2.2]
theorem flatD_cons (p : Dt) (L : List Dt) : flatD (p :: L) = .int .i64 p.1 :: .int .i64 p.2.1 :: .int .i64 p.2.2 :: flatD L := rfl
theorem flatD_app (L M : List Dt) : flatD (L ++ M) = flatD L ++ flatD M := by unfold flatD; rw [List.flatMap_append]
theorem flatD_len : ∀ L : List Dt, (flatD L).length = L.length * 3
  | [] => rfl
  | p :: L => by rw [flatD_cons, List.length_cons, List.length_cons, List.length_cons, flatD_len L, List.length_cons]; omega
theorem flatD_get : ∀ (L : List Dt) (k : Nat) (x y z : Int), L[k]? = some (x, y, z) → (flatD L)[k * 3]? = some (.int .i64 x) ∧ (flatD L)[k * 3 + 1]? = some (.int .i64 y) ∧ (flatD L)[k * 3 + 2]? = some (.int .i64 z)
  | [], k, x, y, z, h => by simp at h
  | p :: L, 0, x, y, z, h => by
    obtain rfl : p = (x, y, z) := by simpa using h
    rw [flatD_cons]
    exact ⟨rfl, rfl, rfl⟩
  | p :: L, k + 1, x, y, z, h => by
    have h' : L[k]? = some (x, y, z) := by simpa using h
    have e := flatD_get L k x y z h'
    rw [flatD_cons, show (k + 1) * 3 = k * 3 + 1 + 1 + 1 by omega]
    exact e
theorem holds_ownD {w : World} {T : TypeId} {B n c : Nat} {p : Option Addr} {L : List Dt} (h : w.ownsRow B T 3 (.slice p n c) n (flatD L)) : HoldsD w p n L := by
  have hl : L.length = n := by have := h.1; rw [flatD_len] at this; omega
  rcases h.2 with ⟨hv, hn⟩ | ⟨g, cap, cur, hv, hr⟩
  · exact ⟨hl, .inl hn⟩
  · injection hv with h1 h2 h3
    subst h1 h3
    refine ⟨hl, .inr ⟨g, 0, rfl, (h.lt g rfl).2, fun i x hi => ?_⟩⟩
    have hil : i < L.length := (List.getElem?_eq_some_iff.1 hi).1
    have e := flatD_get L i x.1 x.2.1 x.2.2 hi
    refine ⟨?_, ?_, ?_⟩
    · rw [Nat.zero_add, h.cellAt (i * 3) (by omega)]
      exact e.1
    · rw [Nat.zero_add, h.cellAt (i * 3 + 1) (by omega)]
      exact e.2.1
    · rw [Nat.zero_add, h.cellAt (i * 3 + 2) (by omega)]
      exact e.2.2
theorem three {α : Type} {cs : List α} (h : cs.length = 3) : ∃ a b c, cs = [a, b, c] := by
  rcases cs with _ | ⟨a, _ | ⟨b, _ | ⟨c, _ | ⟨d, r⟩⟩⟩⟩
  · cases h
  · cases h
  · cases h
  · exact ⟨a, b, c, rfl⟩
  · simp at h
section
variable {H : Type} {enc : TypeId × Value → H} {w : World} {base : Nat} {spare : Nat → Bool} {held : Bool}
theorem open_point {e : TypeId} {f0 f1 f2 : Field} {fuel : Nat} {cs : List Value} {x : DataW H × List MemPlace} (he : Try.prog.underlying e = some (.struct #[f0, f1, f2]))
    (o0 : f0.offset = 0) (o1 : f1.offset = 1) (o2 : f2.offset = 2) (c0 : Try.prog.cellsOf f0.type = 1) (c1 : Try.prog.cellsOf f1.type = 1) (c2 : Try.prog.cellsOf f2.type = 1) (ce : Try.prog.cellsOf e = 3)
    (t0 : Try.prog.underlying f0.type = some (.int .i64)) (t1 : Try.prog.underlying f1.type = some (.int .i64)) (t2 : Try.prog.underlying f2.type = some (.int .i64))
    (h : DataW.trod enc Try.prog w base spare held fuel e cs = some x) : ∃ q : Dt, cs = [.int .i64 q.1, .int .i64 q.2.1, .int .i64 q.2.2] := by
  obtain ⟨y0, y1, y2, n, _, hl, h0, h1, h2⟩ := trod_struct3 he h
  rw [ce] at hl
  obtain ⟨a, b, c, rfl⟩ := three hl
  obtain ⟨p, hp, _⟩ := DataW.trod_int t0 h0
  obtain ⟨q, hq, _⟩ := DataW.trod_int t1 h1
  obtain ⟨r, hr, _⟩ := DataW.trod_int t2 h2
  rw [o0, c0] at hp
  rw [o1, c1] at hq
  rw [o2, c2] at hr
  simp only [List.drop_zero, List.take_succ_cons, List.take_zero, List.drop_succ_cons, List.cons.injEq, and_true] at hp hq hr
  exact ⟨(p, q, r), by rw [hp, hq, hr]⟩
/-- A slice of points, as a cell. -/
theorem open_pointS {t e : TypeId} {f0 f1 f2 : Field} {fuel : Nat} {v : Value} {x : DataW H × List MemPlace} (ht : Try.prog.underlying t = some (.slice e)) (he : Try.prog.underlying e = some (.struct #[f0, f1, f2]))
    (o0 : f0.offset = 0) (o1 : f1.offset = 1) (o2 : f2.offset = 2) (c0 : Try.prog.cellsOf f0.type = 1) (c1 : Try.prog.cellsOf f1.type = 1) (c2 : Try.prog.cellsOf f2.type = 1) (ce : Try.prog.cellsOf e = 3)
    (t0 : Try.prog.underlying f0.type = some (.int .i64)) (t1 : Try.prog.underlying f1.type = some (.int .i64)) (t2 : Try.prog.underlying f2.type = some (.int .i64))
    (h : DataW.trod enc Try.prog w base spare held fuel t [v] = some x) : ∃ (a : Option Addr) (n c : Nat) (L : List Dt), v = .slice a n c ∧ n ≤ 9223372036854775807 ∧ HoldsD w a n L := by
  rcases open_slice ht h with ⟨hcs, _⟩ | ⟨a, len, cap, m, k, D, Pl, hcs, _, hl, hm, hmm, _, hi⟩
  · obtain rfl : v = .slice none 0 0 := by simpa using hcs
    exact ⟨none, 0, 0, [], rfl, by omega, rfl, .inl rfl⟩
  · obtain rfl : v = .slice (some a) len cap := by simpa using hcs
    unfold maxLen at hm
    have hlm : len ≤ m := by rw [hmm]; split <;> omega
    have hval : ∀ i, i < m → ∃ q : Dt, w.cell? (a.add (i * 3)) = some (.int .i64 q.1) ∧ w.cell? (a.add (i * 3 + 1)) = some (.int .i64 q.2.1) ∧ w.cell? (a.add (i * 3 + 2)) = some (.int .i64 q.2.2) := by
      intro i him
      obtain ⟨cs', h1, h2⟩ := hi i him
      rw [ce] at h1
      obtain ⟨_, hlen, hcell⟩ := World.cells?_some h1
      obtain ⟨q, rfl⟩ := open_point he o0 o1 o2 c0 c1 c2 ce t0 t1 t2 h2
      have e0 := hcell 0 (by omega)
      have e1 := hcell 1 (by omega)
      have e2 := hcell 2 (by omega)
      rw [add_add] at e0 e1 e2
      exact ⟨q, by simpa using e0, by simpa using e1, by simpa using e2⟩
    have hall : ∀ n, n ≤ m → ∃ l : List Dt, l.length = n ∧ ∀ i q, l[i]? = some q → w.cell? (a.add (i * 3)) = some (.int .i64 q.1) ∧ w.cell? (a.add (i * 3 + 1)) = some (.int .i64 q.2.1) ∧ w.cell? (a.add (i * 3 + 2)) = some (.int .i64 q.2.2) := by
      intro n
      induction n with
      | zero => exact fun _ => ⟨[], rfl, fun i p hp => by simp at hp⟩
      | succ n ih =>
        intro hn
        obtain ⟨l, hl, hp⟩ := ih (by omega)
        obtain ⟨p, h1⟩ := hval n (by omega)
        refine ⟨l ++ [p], by simp [hl], fun i q hq => ?_⟩
        by_cases hin : i < n
        · rw [List.getElem?_append_left (by omega)] at hq
          exact hp i q hq
        · have hle : i < (l ++ [p]).length := (List.getElem?_eq_some_iff.1 hq).1
          have hi' : i = n := by simp [hl] at hle; omega
          subst hi'
          rw [List.getElem?_append_right (by omega), hl, Nat.sub_self] at hq
          obtain rfl : p = q := by simpa using hq
          exact h1
    obtain ⟨l, hll, hp⟩ := hall len hlm
    refine ⟨some a, len, cap, l, rfl, by omega, hll, ?_⟩
    by_cases h0 : len = 0
    · exact .inl h0
    · right
      obtain ⟨b, off, spot⟩ := a
      have hc := (hp 0 (l[0]'(by omega)) (List.getElem?_eq_getElem (by omega))).1
      have hspot : spot = none := by simpa [Addr.add] using World.cell?_spot hc
      subst hspot
      refine ⟨b, off, rfl, ?_, fun i p hi => ?_⟩
      · have := cell_lt hc
        rw [add_block] at this
        exact this
      · have e := hp i p hi
        rw [add_eq, add_eq, add_eq] at e
        exact e
theorem agg_cells {cs : Array Value} {q : Dt} (h : (Value.agg cs).cells.toList = [.int .i64 q.1, .int .i64 q.2.1, .int .i64 q.2.2]) : cs = #[.int .i64 q.1, .int .i64 q.2.1, .int .i64 q.2.2] := by
  have h' : cs.toList = [.int .i64 q.1, .int .i64 q.2.1, .int .i64 q.2.2] := h
  exact Array.ext' h'
end
end Go.Proofs.Ytlpcgchekhoieaa.Cu
namespace Go.Proofs.Ytlpcgchekhoieaa.CuP
open Go.ChangeShapes Go.WideShapes Go.RowKit Go.Deep Pairs Rec RecOpen
section
variable {H : Type} {enc : TypeId × Value → H} {w : World} {base : Nat} {spare : Nat → Bool} {held : Bool}
/-- A slice of pairs of ints, as a cell. -/
theorem open_pairS {t e : TypeId} {f0 f1 : Field} {fuel : Nat} {v : Value} {x : DataW H × List MemPlace} (ht : Try.prog.underlying t = some (.slice e)) (he : Try.prog.underlying e = some (.struct #[f0, f1]))
    (ce : Try.prog.cellsOf e = 2) (o0 : f0.offset = 0) (o1 : f1.offset = 1) (c0 : Try.prog.cellsOf f0.type = 1) (c1 : Try.prog.cellsOf f1.type = 1) (t0 : Try.prog.underlying f0.type = some (.int .i64)) (t1 : Try.prog.underlying f1.type = some (.int .i64))
    (h : DataW.trod enc Try.prog w base spare held fuel t [v] = some x) : ∃ (a : Option Addr) (n c : Nat) (l : List (Int × Int)), v = .slice a n c ∧ n ≤ 9223372036854775807 ∧ Holds w a n l := by
  rcases open_slice_pairs ht he ce o0 o1 c0 c1 h with ⟨hcs, _⟩ | ⟨a, len, cap, m, k, V0, V1, D0, D1, P0, P1, hcs, _, hl, hm, hmm, _, hi⟩
  · obtain rfl : v = .slice none 0 0 := by simpa using hcs
    exact ⟨none, 0, 0, [], rfl, by omega, rfl, .inl rfl⟩
  · obtain rfl : v = .slice (some a) len cap := by simpa using hcs
    unfold maxLen at hm
    have hlm : len ≤ m := by rw [hmm]; split <;> omega
    have hval : ∀ i, i < m → ∃ p : Int × Int, w.cell? (a.add (i * 2)) = some (.int .i64 p.1) ∧ w.cell? (a.add (i * 2 + 1)) = some (.int .i64 p.2) := by
      intro i him
      obtain ⟨h0, h1, h2, h3⟩ := hi i him
      obtain ⟨p, hp, _⟩ := DataW.trod_int t0 h2
      obtain ⟨q, hq, _⟩ := DataW.trod_int t1 h3
      simp only [List.cons.injEq, and_true] at hp hq
      exact ⟨(p, q), by rw [h0, hp], by rw [h1, hq]⟩
    have hall : ∀ n, n ≤ m → ∃ l : List (Int × Int), l.length = n ∧ ∀ i p, l[i]? = some p → w.cell? (a.add (i * 2)) = some (.int .i64 p.1) ∧ w.cell? (a.add (i * 2 + 1)) = some (.int .i64 p.2) := by
      intro n
      induction n with
      | zero => exact fun _ => ⟨[], rfl, fun i p hp => by simp at hp⟩
      | succ n ih =>
        intro hn
        obtain ⟨l, hl, hp⟩ := ih (by omega)
        obtain ⟨p, h1, h2⟩ := hval n (by omega)
        refine ⟨l ++ [p], by simp [hl], fun i q hq => ?_⟩
        by_cases hin : i < n
        · rw [List.getElem?_append_left (by omega)] at hq
          exact hp i q hq
        · have hle : i < (l ++ [p]).length := (List.getElem?_eq_some_iff.1 hq).1
          have hi' : i = n := by simp [hl] at hle; omega
          subst hi'
          rw [List.getElem?_append_right (by omega), hl, Nat.sub_self] at hq
          obtain rfl : p = q := by simpa using hq
          exact ⟨h1, h2⟩
    obtain ⟨l, hll, hp⟩ := hall len hlm
    refine ⟨some a, len, cap, l, rfl, by omega, hll, ?_⟩
    by_cases h0 : len = 0
    · exact .inl h0
    · right
      obtain ⟨b, off, spot⟩ := a
      have hc := (hp 0 (l[0]'(by omega)) (List.getElem?_eq_getElem (by omega))).1
      have hspot : spot = none := by simpa [Addr.add] using World.cell?_spot hc
      subst hspot
      refine ⟨b, off, rfl, ?_, fun i p hi => ?_⟩
      · have := cell_lt hc
        rw [add_block] at this
        exact this
      · have e := hp i p hi
        rw [add_eq, add_eq] at e
        exact e
end
end Go.Proofs.Ytlpcgchekhoieaa.CuP
