/- The bits of a small set, in ascending order, and how its lowest bit is taken away. -/
import Derived.Lib.TrailingZeros
namespace Go.Proofs.YtjllbbkpmmnkgaaDoor.BlM
def bl (s : Nat) : List Nat := (List.range 10).filter s.testBit
theorem bl_zero : bl 0 = [] := by unfold bl; simp
theorem mem_bl {s i : Nat} (hs : s < 1024) : i ∈ bl s ↔ s.testBit i = true := by
  unfold bl
  rw [List.mem_filter, List.mem_range]
  refine ⟨fun h => h.2, fun h => ⟨?_, h⟩⟩
  apply Classical.byContradiction
  intro hi
  rw [Nat.testBit_lt_two_pow (Nat.lt_of_lt_of_le hs (Nat.pow_le_pow_right (n := 2) (i := 10) (j := i) (by decide) (by omega)))] at h
  cases h
/-- The lowest bit. -/
theorem low {s : Nat} (h0 : s ≠ 0) (hs : s < 1024) : s.testBit (Go.Lib.ctz 64 s) = true ∧ Go.Lib.ctz 64 s < 10 ∧ (∀ i, i < Go.Lib.ctz 64 s → s.testBit i = false) ∧ (∀ i, (s &&& (s - 1)).testBit i = (s.testBit i && decide (i ≠ Go.Lib.ctz 64 s))) := by
  have e : Go.Lib.ctz 64 s = Go.Lib.ctzFrom 64 s := by unfold Go.Lib.ctz; rw [if_neg h0]
  obtain ⟨m, hm, hk⟩ := Go.Lib.ctzFrom_spec 64 s (by omega) (Nat.lt_of_lt_of_le hs (by decide))
  rw [e]
  generalize Go.Lib.ctzFrom 64 s = k at hm hk
  have t1 : ∀ i, s.testBit i = if i < k then false else (2 * m + 1).testBit (i - k) := by
    intro i
    rw [hm, Nat.mul_comm, Nat.testBit_mul_two_pow]
    by_cases hi : k ≤ i
    · rw [if_neg (by omega), decide_eq_true hi, Bool.true_and]
    · rw [if_pos (by omega), decide_eq_false hi, Bool.false_and]
  have hkt : s.testBit k = true := by rw [t1, if_neg (by omega), Nat.sub_self]; simp
  have hk10 : k < 10 := by
    apply Classical.byContradiction
    intro hn
    rw [Nat.testBit_lt_two_pow (Nat.lt_of_lt_of_le hs (Nat.pow_le_pow_right (n := 2) (i := 10) (j := k) (by decide) (by omega)))] at hkt
    cases hkt
  refine ⟨hkt, hk10, fun i hi => by rw [t1, if_pos hi], fun i => ?_⟩
  have e1 : s - 1 = 2 ^ k * (2 * m) + (2 ^ k - 1) := by
    have h2 : 2 ^ k * (2 * m + 1) = 2 ^ k * (2 * m) + 2 ^ k := by rw [Nat.mul_add, Nat.mul_one]
    have h3 : 0 < 2 ^ k := Nat.two_pow_pos k
    omega
  rw [Nat.testBit_and, e1, Nat.two_pow_add_eq_or_of_lt (by have := Nat.two_pow_pos k; omega), Nat.testBit_or, Nat.testBit_two_pow_sub_one, Nat.mul_comm, Nat.testBit_mul_two_pow, t1]
  by_cases hi : i < k
  · simp [hi]
  · by_cases e2 : i = k
    · subst e2
      simp
    · have h3 : i - k = (i - k - 1) + 1 := by omega
      have h4 : k ≤ i := by omega
      simp only [if_neg hi, decide_eq_true h4, decide_eq_false hi, Bool.true_and, Bool.or_false]
      rw [h3, Nat.testBit_succ, Nat.testBit_succ]
      have d1 : (2 * m + 1) / 2 = m := by omega
      have d2 : 2 * m / 2 = m := by omega
      rw [d1, d2]
      simp [e2]
theorem range_split (k : Nat) (hk : k < 10) : List.range 10 = List.range k ++ k :: (List.range (9 - k)).map (fun i => k + 1 + i) := by
  rcases (show k = 0 ∨ k = 1 ∨ k = 2 ∨ k = 3 ∨ k = 4 ∨ k = 5 ∨ k = 6 ∨ k = 7 ∨ k = 8 ∨ k = 9 by omega) with h | h | h | h | h | h | h | h | h | h <;> subst h <;> rfl
theorem bl_step {s : Nat} (h0 : s ≠ 0) (hs : s < 1024) : bl s = Go.Lib.ctz 64 s :: bl (s &&& (s - 1)) := by
  obtain ⟨h1, h2, h3, h4⟩ := low h0 hs
  generalize Go.Lib.ctz 64 s = k at h1 h2 h3 h4
  unfold bl
  rw [range_split k h2, List.filter_append, List.filter_append, List.filter_cons, List.filter_cons]
  have f1 : (List.range k).filter s.testBit = [] := List.filter_eq_nil_iff.2 fun i hi => by rw [h3 i (List.mem_range.1 hi)]; simp
  have f2 : (List.range k).filter (s &&& (s - 1)).testBit = [] := List.filter_eq_nil_iff.2 fun i hi => by rw [h4, h3 i (List.mem_range.1 hi)]; simp
  have f3 : (s &&& (s - 1)).testBit k = false := by rw [h4]; simp
  rw [f1, f2, if_pos h1, f3]
  simp only [List.nil_append, Bool.false_eq_true, if_false]
  congr 1
  apply List.filter_congr
  intro i hi
  obtain ⟨j, _, rfl⟩ := List.mem_map.1 hi
  rw [h4]
  have : k + 1 + j ≠ k := by omega
  simp [this]
theorem rest_lt {s : Nat} (hs : s < 1024) : s &&& (s - 1) < 1024 := Nat.lt_of_le_of_lt Nat.and_le_left hs
theorem bl_len (s : Nat) : (bl s).length ≤ 10 := by
  unfold bl
  have := List.length_filter_le s.testBit (List.range 10)
  rw [List.length_range] at this
  exact this
end Go.Proofs.YtjllbbkpmmnkgaaDoor.BlM
