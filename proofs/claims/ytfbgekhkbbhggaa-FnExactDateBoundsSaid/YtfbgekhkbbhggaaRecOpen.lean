/- A record that comes in as an argument: its two slices, and the pairs that they hold. -/
import Derived.Test.YtfbgekhkbbhggaaPairs
import Derived.Deep.SlicePairs
import Derived.ChangeArms
namespace Go.Proofs.Ytfbgekhkbbhggaa.RecOpen
open Go.ChangeShapes Go.WideShapes Go.RowKit Go.Deep Pairs

theorem add_eq (b off i : Nat) : (⟨b, off, none⟩ : Addr).add i = ⟨b, off + i, none⟩ := by
  unfold Addr.add
  by_cases h : i = 0
  · subst h; simp
  · simp [h]
theorem add_block (x : Addr) (i : Nat) : (x.add i).block = x.block := by
  unfold Addr.add
  split <;> rfl
theorem cell_lt {w : World} {a : Addr} {v : Value} (h : w.cell? a = some v) : a.block < w.heap.size := by
  cases hb : w.heap[a.block]? with
  | none => simp [World.cell?, hb] at h
  | some o => exact (Array.getElem?_eq_some_iff.1 hb).1

section
variable {H : Type} {enc : TypeId × Value → H} {w : World} {base : Nat} {spare : Nat → Bool} {held : Bool}
/-- A slice of pairs of ints, as a cell. -/
theorem open_pairs {t e : TypeId} {f0 f1 : Field} {fuel : Nat} {v : Value} {x : DataW H × List MemPlace} (ht : Try.prog.underlying t = some (.slice e)) (he : Try.prog.underlying e = some (.struct #[f0, f1]))
    (ce : Try.prog.cellsOf e = 2) (o0 : f0.offset = 0) (o1 : f1.offset = 1) (c0 : Try.prog.cellsOf f0.type = 1) (c1 : Try.prog.cellsOf f1.type = 1) (t0 : Try.prog.underlying f0.type = some (.int .i64)) (t1 : Try.prog.underlying f1.type = some (.int .i64))
    (h : DataW.trod enc Try.prog w base spare held fuel t [v] = some x) : ∃ (a : Option Addr) (n c : Nat) (l : List (Int × Int)), v = .slice a n c ∧ n ≤ 9223372036854775807 ∧ Holds w a n l := by
  rcases open_slice_pairs ht he ce o0 o1 c0 c1 h with ⟨hcs, _⟩ | ⟨a, len, cap, m, k, V0, V1, D0, D1, P0, P1, hcs, _, hl, hm, hmm, _, hi⟩
  · obtain rfl : v = .slice none 0 0 := by simpa using hcs
    exact ⟨none, 0, 0, [], rfl, by omega, rfl, .inl rfl⟩
  · obtain rfl : v = .slice (some a) len cap := by simpa using hcs
    unfold maxLen at hm
    have hlm : len ≤ m := by rw [hmm]; split <;> omega
    have hval : ∀ i, i < m → ∃ p : Int × Int, w.cell? (a.add (i * 2)) = some (.int .i64 p.1) ∧ w.cell? (a.add (i * 2 + 1)) = some (.int .i64 p.2) := by
      intro i him
      obtain ⟨h0, h1, h2, h3⟩ := hi i him
      obtain ⟨p, hp, _⟩ := DataW.trod_int t0 h2
      obtain ⟨q, hq, _⟩ := DataW.trod_int t1 h3
      simp only [List.cons.injEq, and_true] at hp hq
      exact ⟨(p, q), by rw [h0, hp], by rw [h1, hq]⟩
    have hall : ∀ n, n ≤ m → ∃ l : List (Int × Int), l.length = n ∧ ∀ i p, l[i]? = some p → w.cell? (a.add (i * 2)) = some (.int .i64 p.1) ∧ w.cell? (a.add (i * 2 + 1)) = some (.int .i64 p.2) := by
      intro n
      induction n with
      | zero => exact fun _ => ⟨[], rfl, fun i p hp => by simp at hp⟩
      | succ n ih =>
        intro hn
        obtain ⟨l, hl, hp⟩ := ih (by omega)
        obtain ⟨p, h1, h2⟩ := hval n (by omega)
        refine ⟨l ++ [p], by simp [hl], fun i q hq => ?_⟩
        by_cases hin : i < n
        · rw [List.getElem?_append_left (by omega)] at hq
          exact hp i q hq
        · have hle : i < (l ++ [p]).length := (List.getElem?_eq_some_iff.1 hq).1
          have hi' : i = n := by simp [hl] at hle; omega
          subst hi'
          rw [List.getElem?_append_right (by omega), hl, Nat.sub_self] at hq
          obtain rfl : p = q := by simpa using hq
          exact ⟨h1, h2⟩
    obtain ⟨l, hll, hp⟩ := hall len hlm
    refine ⟨some a, len, cap, l, rfl, by omega, hll, ?_⟩
    by_cases h0 : len = 0
    · exact .inl h0
    · right
      obtain ⟨b, off, spot⟩ := a
      have hc := (hp 0 (l[0]'(by omega)) (List.getElem?_eq_getElem (by omega))).1
      have hspot : spot = none := by simpa [Addr.add] using World.cell?_spot hc
      subst hspot
      refine ⟨b, off, rfl, ?_, fun i p hi => ?_⟩
      · have := cell_lt hc
        rw [add_block] at this
        exact this
      · have e := hp i p hi
        rw [add_eq, add_eq] at e
        exact e
end
end Go.Proofs.Ytfbgekhkbbhggaa.RecOpen
