/- The pairs of a context and one that it is later than, in the order in which they come. -/
import Derived.Test.YtmjhgjlnpnkmkaaRedS
namespace Go.Proofs.Ytmjhgjlnpnkmkaa.LpM
open Go.RowKit Pairs Find2 GoodM Chain
def num (l : List (Int × Int)) (i : Nat) : Int := (l[i]?.map (·.1)).getD 0
theorem num_at {l : List (Int × Int)} {i : Nat} {x y : Int} (h : l[i]? = some (x, y)) : num l i = x := by unfold num; rw [h]; rfl
noncomputable def lt (l m : List (Int × Int)) (i j : Nat) : Bool := later m (num l i) (num l j)
noncomputable def row (l m : List (Int × Int)) (i k : Nat) : List (Nat × Nat) := ((List.range k).filter (lt l m i)).map (fun j => (i, j))
/-- The pairs ahead of (i, j). -/
noncomputable def upto (l m : List (Int × Int)) (i j : Nat) : List (Nat × Nat) := ((List.range i).flatMap fun a => row l m a l.length) ++ row l m i j
noncomputable def prs (l m : List (Int × Int)) : List (Nat × Nat) := (List.range l.length).flatMap fun a => row l m a l.length
theorem row_succ (l m : List (Int × Int)) (i k : Nat) : row l m i (k + 1) = row l m i k ++ (if lt l m i k = true then [(i, k)] else []) := by
  unfold row
  rw [List.range_succ, List.filter_append, List.map_append]
  congr 1
  by_cases h : lt l m i k = true
  · rw [if_pos h, List.filter_cons_of_pos h]
    rfl
  · rw [if_neg h, List.filter_cons_of_neg h]
    rfl
theorem upto_zero (l m : List (Int × Int)) : upto l m 0 0 = [] := rfl
theorem upto_hit {l m : List (Int × Int)} {i j : Nat} (h : lt l m i j = true) : upto l m i (j + 1) = upto l m i j ++ [(i, j)] := by
  unfold upto
  rw [row_succ, if_pos h, List.append_assoc]
theorem upto_miss {l m : List (Int × Int)} {i j : Nat} (h : lt l m i j = false) : upto l m i (j + 1) = upto l m i j := by
  unfold upto
  rw [row_succ, if_neg (by rw [h]; simp), List.append_nil]
theorem upto_next (l m : List (Int × Int)) (i : Nat) : upto l m (i + 1) 0 = upto l m i l.length := by
  unfold upto
  rw [List.range_succ, List.flatMap_append]
  simp [row]
theorem upto_all (l m : List (Int × Int)) : upto l m l.length 0 = prs l m := by
  unfold upto prs row
  simp
theorem row_pre (l m : List (Int × Int)) (i : Nat) {j k : Nat} (h : j ≤ k) : row l m i j <+: row l m i k := by
  induction k with
  | zero => obtain rfl : j = 0 := by omega
            exact List.prefix_refl _
  | succ k ih =>
    by_cases e : j = k + 1
    · subst e; exact List.prefix_refl _
    · rw [row_succ]
      exact (ih (by omega)).trans (List.prefix_append _ _)
theorem upto_pre {l m : List (Int × Int)} {i j : Nat} (hi : i < l.length) (hj : j ≤ l.length) : upto l m i j <+: prs l m := by
  have h1 : upto l m i j <+: upto l m i l.length := by
    unfold upto
    exact (List.prefix_append_right_inj _).2 (row_pre l m i hj)
  have h2 : ∀ d, i + d + 1 ≤ l.length → upto l m i l.length <+: upto l m (i + d + 1) 0 := by
    intro d
    induction d with
    | zero => intro _; rw [upto_next]; exact List.prefix_refl _
    | succ d ih =>
      intro hd
      have a := ih (by omega)
      have b : upto l m (i + d + 1) 0 <+: upto l m (i + d + 1) l.length := by
        unfold upto
        exact (List.prefix_append_right_inj _).2 (row_pre l m _ (by omega))
      rw [show i + (d + 1) + 1 = i + d + 1 + 1 by omega, upto_next]
      exact a.trans b
  have h3 := h2 (l.length - i - 1) (by omega)
  rw [show i + (l.length - i - 1) + 1 = l.length by omega, upto_all] at h3
  exact h1.trans h3
theorem mem_prs {l m : List (Int × Int)} {x : Nat × Nat} : x ∈ prs l m ↔ x.1 < l.length ∧ x.2 < l.length ∧ lt l m x.1 x.2 = true := by
  unfold prs row
  rw [List.mem_flatMap]
  constructor
  · rintro ⟨a, ha, hx⟩
    rw [List.mem_map] at hx
    obtain ⟨j, hj, rfl⟩ := hx
    rw [List.mem_filter] at hj
    exact ⟨List.mem_range.1 ha, List.mem_range.1 hj.1, hj.2⟩
  · rintro ⟨h1, h2, h3⟩
    exact ⟨x.1, List.mem_range.2 h1, List.mem_map.2 ⟨x.2, List.mem_filter.2 ⟨List.mem_range.2 h2, h3⟩, rfl⟩⟩
end Go.Proofs.Ytmjhgjlnpnkmkaa.LpM
