/- Rows of distributions in the world: a first year and a list of weights, two cells each; how such a row comes in as an argument. -/
import Derived.Test.YtfbgekhkbbhggaaDi
import Derived.ChangeSlices
namespace Go.Proofs.Ytfbgekhkbbhggaa.Zh
open Go.ChangeShapes Go.WideShapes Go.RowKit Go.Deep Pairs Rec Keep GivesI RecOpen
abbrev Pt := Int × List Int
def At (w : World) (b off : Nat) (x : Pt) : Prop :=
  w.cell? ⟨b, off, none⟩ = some (.int .i64 x.1) ∧ ∃ p k c, w.cell? ⟨b, off + 1, none⟩ = some (.slice p k c) ∧ HoldsI w p k x.2
def HoldsZ (w : World) (a : Option Addr) (n : Nat) (L : List Pt) : Prop :=
  L.length = n ∧ (n = 0 ∨ ∃ b off, a = some ⟨b, off, none⟩ ∧ b < w.heap.size ∧ ∀ i x, L[i]? = some x → At w b (off + i * 2) x)
theorem At.below {w w' : World} {b off : Nat} {x : Pt} (h : At w b off x) (hb : Below w.heap.size w w') (hlt : b < w.heap.size) : At w' b off x := by
  obtain ⟨h1, p, k, c, h2, h3⟩ := h
  exact ⟨(hb.cell (p := ⟨b, off, none⟩) hlt).trans h1, p, k, c, (hb.cell (p := ⟨b, off + 1, none⟩) hlt).trans h2, h3.below hb⟩
theorem HoldsZ.below {w w' : World} {a : Option Addr} {n : Nat} {L : List Pt} (h : HoldsZ w a n L) (hb : Below w.heap.size w w') : HoldsZ w' a n L := by
  obtain ⟨h1, h2⟩ := h
  refine ⟨h1, ?_⟩
  rcases h2 with h2 | ⟨b, off, ha, hbw, hc⟩
  · exact .inl h2
  · exact .inr ⟨b, off, ha, Nat.lt_of_lt_of_le hbw hb.size, fun i x hi => (hc i x hi).below hb hbw⟩
theorem HoldsZ.at {w : World} {a : Option Addr} {n : Nat} {L : List Pt} (h : HoldsZ w a n L) (k : Nat) (hk : k < n) :
    ∃ (b off : Nat) (s : Int) (M : List Int) (p : Option Addr) (j c : Nat), a = some ⟨b, off, none⟩ ∧ L[k]? = some (s, M) ∧ w.cell? ⟨b, off + k * 2, none⟩ = some (.int .i64 s) ∧ w.cell? ⟨b, off + k * 2 + 1, none⟩ = some (.slice p j c) ∧ HoldsI w p j M := by
  obtain ⟨h1, h2⟩ := h
  rcases h2 with h2 | ⟨b, off, ha, hbw, hc⟩
  · omega
  · have hl : k < L.length := by omega
    obtain ⟨e1, p, j, c, e2, e3⟩ := hc k L[k] (List.getElem?_eq_getElem hl)
    exact ⟨b, off, L[k].1, L[k].2, p, j, c, ha, List.getElem?_eq_getElem hl, e1, e2, e3⟩
theorem HoldsZ.take {w : World} {a : Option Addr} {n : Nat} {L : List Pt} (h : HoldsZ w a n L) (k : Nat) (hk : k ≤ n) : HoldsZ w a k (L.take k) := by
  obtain ⟨h1, h2⟩ := h
  refine ⟨by rw [List.length_take]; omega, ?_⟩
  rcases h2 with h2 | ⟨b, off, ha, hbw, hc⟩
  · exact .inl (by omega)
  · refine .inr ⟨b, off, ha, hbw, fun i x hi => ?_⟩
    have hik : i < k := by have := (List.getElem?_eq_some_iff.1 hi).1; rw [List.length_take] at this; omega
    rw [List.getElem?_take_of_lt hik] at hi
    exact hc i x hi
/-- How great the parts are: no longer than z. -/
def Sm (L : List Pt) (z : Nat) : Prop := ∀ x ∈ L, x.2.length ≤ z

section
variable {H : Type} {enc : TypeId × Value → H} {w : World} {base : Nat} {spare : Nat → Bool} {held : Bool}
/-- A row of distributions, as a cell. -/
theorem open_dists {t e u : TypeId} {f0 f1 : Field} {fuel : Nat} {v : Value} {x : DataW H × List MemPlace} (ht : Try.prog.underlying t = some (.slice e)) (he : Try.prog.underlying e = some (.struct #[f0, f1]))
    (ce : Try.prog.cellsOf e = 2) (o0 : f0.offset = 0) (o1 : f1.offset = 1) (c0 : Try.prog.cellsOf f0.type = 1) (c1 : Try.prog.cellsOf f1.type = 1) (t0 : Try.prog.underlying f0.type = some (.int .i64)) (t1 : Try.prog.underlying f1.type = some (.slice u))
    (tu : Try.prog.underlying u = some (.int .i64)) (cu : Try.prog.cellsOf u = 1)
    (h : DataW.trod enc Try.prog w base spare held fuel t [v] = some x) : ∃ (a : Option Addr) (n c : Nat) (L : List Pt), v = .slice a n c ∧ n ≤ 9223372036854775807 ∧ HoldsZ w a n L ∧ Sm L 9223372036854775807 := by
  rcases open_slice_pairs ht he ce o0 o1 c0 c1 h with ⟨hcs, _⟩ | ⟨a, len, cap, m, k, V0, V1, D0, D1, P0, P1, hcs, _, hl, hm, hmm, _, hi⟩
  · obtain rfl : v = .slice none 0 0 := by simpa using hcs
    exact ⟨none, 0, 0, [], rfl, by omega, ⟨rfl, .inl rfl⟩, fun x hx => by simp at hx⟩
  · obtain rfl : v = .slice (some a) len cap := by simpa using hcs
    unfold maxLen at hm
    have hlm : len ≤ m := by rw [hmm]; split <;> omega
    have hval : ∀ i, i < m → ∃ q : Pt, (w.cell? (a.add (i * 2)) = some (.int .i64 q.1) ∧ ∃ p k c, w.cell? (a.add (i * 2 + 1)) = some (.slice p k c) ∧ HoldsI w p k q.2) ∧ q.2.length ≤ 9223372036854775807 := by
      intro i him
      obtain ⟨h0, h1, h2, h3⟩ := hi i him
      obtain ⟨s, hs, _⟩ := DataW.trod_int t0 h2
      obtain ⟨p, j, c, M, hv, hj, hM⟩ := Da.open_intS t1 tu cu h3
      simp only [List.cons.injEq, and_true] at hs
      exact ⟨(s, M), ⟨by rw [h0, hs], p, j, c, by rw [h1, hv], hM⟩, by have := hM.1; simp only; omega⟩
    have hall : ∀ n, n ≤ m → ∃ l : List Pt, l.length = n ∧ Sm l 9223372036854775807 ∧ ∀ i q, l[i]? = some q → (w.cell? (a.add (i * 2)) = some (.int .i64 q.1) ∧ ∃ p k c, w.cell? (a.add (i * 2 + 1)) = some (.slice p k c) ∧ HoldsI w p k q.2) := by
      intro n
      induction n with
      | zero => exact fun _ => ⟨[], rfl, fun x hx => by simp at hx, fun i p hp => by simp at hp⟩
      | succ n ih =>
        intro hn
        obtain ⟨l, hl, hs, hp⟩ := ih (by omega)
        obtain ⟨p, h1, h2⟩ := hval n (by omega)
        refine ⟨l ++ [p], by simp [hl], fun x hx => ?_, fun i q hq => ?_⟩
        · rcases List.mem_append.1 hx with hx | hx
          · exact hs x hx
          · obtain rfl : x = p := by simpa using hx
            exact h2
        by_cases hin : i < n
        · rw [List.getElem?_append_left (by omega)] at hq
          exact hp i q hq
        · have hle : i < (l ++ [p]).length := (List.getElem?_eq_some_iff.1 hq).1
          have hi' : i = n := by simp [hl] at hle; omega
          subst hi'
          rw [List.getElem?_append_right (by omega), hl, Nat.sub_self] at hq
          obtain rfl : p = q := by simpa using hq
          exact h1
    obtain ⟨l, hll, hS, hp⟩ := hall len hlm
    refine ⟨some a, len, cap, l, rfl, by omega, ⟨hll, ?_⟩, hS⟩
    by_cases h0 : len = 0
    · exact .inl h0
    · right
      obtain ⟨b, off, spot⟩ := a
      have hc := (hp 0 (l[0]'(by omega)) (List.getElem?_eq_getElem (by omega))).1
      have hspot : spot = none := by simpa [Addr.add] using World.cell?_spot hc
      subst hspot
      refine ⟨b, off, rfl, ?_, fun i p hi => ?_⟩
      · have := cell_lt hc
        rw [add_block] at this
        exact this
      · have e := hp i p hi
        rw [add_eq, add_eq] at e
        exact e
end
end Go.Proofs.Ytfbgekhkbbhggaa.Zh
