/- The rows of the matrix: mathematics. -/
import Derived.Test.YtlgfaabobpnflaaLinkM
import Derived.Test.YtlgfaabobpnflaaSS
import Derived.Test.YtlgfaabobpnflaaThat
namespace Go.Proofs.Ytlgfaabobpnflaa.RowsM
open Pairs Rec Chain Find2 GoodM OrdM DepM RedM DepS LinkM That
/-- The contexts of a depth, in ascending order. -/
noncomputable def atD (l m : Ps) (d : Nat) (x : Int) : Bool := depth l m x == (d : Int)
noncomputable def rowAt (l m : Ps) (d : Nat) : List Int := sel (atD l m d) l
noncomputable def rowsTo (l m : Ps) (d : Nat) : List (List Int) := (List.range d).map (rowAt l m)
theorem rowsTo_len (l m : Ps) (d : Nat) : (rowsTo l m d).length = d := by unfold rowsTo; simp
theorem rowsTo_next (l m : Ps) (d : Nat) : rowsTo l m (d + 1) = rowsTo l m d ++ [rowAt l m d] := by unfold rowsTo; rw [List.range_succ, List.map_append]; rfl
theorem rowsTo_at (l m : Ps) {d j : Nat} (h : j < d) : (rowsTo l m d)[j]? = some (rowAt l m j) := by unfold rowsTo; rw [List.getElem?_map, List.getElem?_range h]; rfl
theorem rowAt_len (l m : Ps) (d : Nat) : (rowAt l m d).length ≤ l.length := sel_len _ l
theorem mem_rowAt {l m : Ps} {d : Nat} {x : Int} : x ∈ rowAt l m d ↔ x ∈ keys l ∧ depth l m x = (d : Int) := by
  unfold rowAt sel atD keys
  constructor
  · intro h
    obtain ⟨p, hp, rfl⟩ := List.mem_map.1 h
    obtain ⟨h1, h2⟩ := List.mem_filter.1 hp
    exact ⟨List.mem_map.2 ⟨p, h1, rfl⟩, by simpa using h2⟩
  · rintro ⟨h1, h2⟩
    obtain ⟨p, hp, rfl⟩ := List.mem_map.1 h1
    exact List.mem_map.2 ⟨p, List.mem_filter.2 ⟨hp, by simpa using h2⟩, rfl⟩
/-- Behind a row that is not empty, every row before it is not empty either. -/
theorem row_down {l m : Ps} (hg : good l m = true) (hc : (l.any fun p => later m p.1 p.1) = false) {d : Nat} (h : rowAt l m (d + 1) ≠ []) : rowAt l m d ≠ [] := by
  obtain ⟨x, hx⟩ := List.exists_mem_of_ne_nil _ h
  obtain ⟨hk, hd⟩ := mem_rowAt.1 hx
  rcases (depth_dep hg hc).at0 x with h0 | ⟨u, _, hm, he⟩
  · rw [hd] at h0
    omega
  · intro e
    have hu : u ∈ rowAt l m d := mem_rowAt.2 ⟨(ends_key hg hm).1, by rw [hd] at he; omega⟩
    rw [e] at hu
    cases hu
theorem row_below {l m : Ps} (hg : good l m = true) (hc : (l.any fun p => later m p.1 p.1) = false) : ∀ {d k : Nat}, k ≤ d → rowAt l m d ≠ [] → rowAt l m k ≠ []
  | 0, k, hk, h => by rw [Nat.le_zero.1 hk]; exact h
  | d + 1, k, hk, h => by
    rcases Nat.lt_or_ge d k with h1 | h1
    · rw [show k = d + 1 by omega]
      exact h
    · exact row_below hg hc h1 (row_down hg hc h)
theorem row_empty {l m : Ps} (hg : good l m = true) (hc : (l.any fun p => later m p.1 p.1) = false) {d k : Nat} (h : rowAt l m d = []) (hk : d ≤ k) : rowAt l m k = [] := by
  cases e : rowAt l m k with
  | nil => rfl
  | cons a t => exact absurd h (row_below hg hc hk (by rw [e]; simp))
theorem cnt_or {α : Type} {p q r : α → Bool} (h1 : ∀ x, r x = (p x || q x)) (h2 : ∀ x, p x = true → q x = false) : ∀ L : List α, (L.filter r).length = (L.filter p).length + (L.filter q).length
  | [] => rfl
  | x :: t => by
    have ih := cnt_or h1 h2 t
    simp only [List.filter_cons, h1]
    cases hp : p x with
    | true =>
      rw [h2 x hp]
      simp only [Bool.true_or, if_true, List.length_cons, Bool.false_eq_true, if_false]
      omega
    | false =>
      cases hq : q x with
      | true =>
        simp only [Bool.or_true, if_true, List.length_cons, Bool.false_eq_true, if_false]
        omega
      | false =>
        simp only [Bool.or_false, Bool.false_eq_true, if_false]
        exact ih
noncomputable def sumTo (l m : Ps) : Nat → Nat
  | 0 => 0
  | d + 1 => sumTo l m d + (rowAt l m d).length
theorem count_rows (l m : Ps) : ∀ d : Nat, sumTo l m d ≤ (l.filter (fun p => decide (depth l m p.1 < (d : Int)))).length
  | 0 => Nat.zero_le _
  | d + 1 => by
    have ih := count_rows l m d
    have e : (l.filter (fun p => decide (depth l m p.1 < ((d + 1 : Nat) : Int)))).length = (l.filter (fun p => decide (depth l m p.1 < (d : Int)))).length + (l.filter (fun p => atD l m d p.1)).length := by
      refine cnt_or (fun p => ?_) (fun p h => ?_) l
      · unfold atD
        rw [Bool.eq_iff_iff]
        simp
        omega
      · unfold atD
        simp at h ⊢
        omega
    rw [e]
    show sumTo l m d + (rowAt l m d).length ≤ _
    have e2 : (rowAt l m d).length = (l.filter (fun p => atD l m d p.1)).length := by unfold rowAt sel; rw [List.length_map]
    omega
theorem sumTo_le (l m : Ps) (d : Nat) : sumTo l m d ≤ l.length := Nat.le_trans (count_rows l m d) (List.length_filter_le _ _)
theorem off_rows (l m : Ps) (D : Nat) : ∀ d : Nat, d ≤ D → SS.off (rowsTo l m D) d = sumTo l m d
  | 0, _ => rfl
  | d + 1, h => by
    rw [SS.off_next (rowsTo_at l m (show d < D by omega)), off_rows l m D d (by omega)]
    rfl
theorem off_le (l m : Ps) (D : Nat) : SS.off (rowsTo l m D) D ≤ l.length := by rw [off_rows l m D D (Nat.le_refl _)]; exact sumTo_le l m D
theorem sum_ge {l m : Ps} : ∀ d : Nat, (∀ k, k < d → rowAt l m k ≠ []) → d ≤ sumTo l m d
  | 0, _ => Nat.zero_le _
  | d + 1, h => by
    have ih := sum_ge d (fun k hk => h k (by omega))
    have h2 : 0 < (rowAt l m d).length := List.length_pos_iff.2 (h d (by omega))
    show d + 1 ≤ sumTo l m d + (rowAt l m d).length
    omega
def IsHgt (l m : Ps) (D : Nat) : Prop := D ≤ l.length ∧ rowAt l m D = [] ∧ ∀ k, k < D → rowAt l m k ≠ []
theorem has_hgt (l m : Ps) : ∃ D, IsHgt l m D := by
  by_cases h : ∀ k, k < l.length + 1 → rowAt l m k ≠ []
  · have h1 := sum_ge _ h
    have h2 := sumTo_le l m (l.length + 1)
    omega
  · have h' : ∃ k, k < l.length + 1 ∧ rowAt l m k = [] := by
      apply Classical.byContradiction
      intro hn
      exact h (fun k hk e => hn ⟨k, hk, e⟩)
    obtain ⟨k, hk, he⟩ := h'
    have aux : ∀ k, rowAt l m k = [] → ∃ D, D ≤ k ∧ rowAt l m D = [] ∧ ∀ j, j < D → rowAt l m j ≠ [] := by
      intro k
      induction k using Nat.strongRecOn with
      | _ k ih =>
        intro he
        by_cases h : ∃ j, j < k ∧ rowAt l m j = []
        · obtain ⟨j, hj, hje⟩ := h
          obtain ⟨D, h1, h2⟩ := ih j hj hje
          exact ⟨D, by omega, h2⟩
        · exact ⟨k, Nat.le_refl _, he, fun j hj e => h ⟨j, hj, e⟩⟩
    obtain ⟨D, h1, h2, h3⟩ := aux k he
    exact ⟨D, by omega, h2, h3⟩
/-- How many rows there are. -/
noncomputable def hgt (l m : Ps) : Nat := Classical.choose (has_hgt l m)
theorem hgt_is (l m : Ps) : IsHgt l m (hgt l m) := Classical.choose_spec (has_hgt l m)
noncomputable def rowsP (l m : Ps) : Option (List (List Int)) := if good l m = true then (if (l.any fun p => later m p.1 p.1) = true then none else some (rowsTo l m (hgt l m))) else none
theorem rows_bad {l m : Ps} (h : good l m = false) : rowsP l m = none := by unfold rowsP; rw [if_neg (by rw [h]; simp)]
theorem rows_cyc {l m : Ps} (h : good l m = true) (h2 : (l.any fun p => later m p.1 p.1) = true) : rowsP l m = none := by unfold rowsP; rw [if_pos h, if_pos h2]
theorem rows_yes {l m : Ps} (h : good l m = true) (h2 : (l.any fun p => later m p.1 p.1) = false) : rowsP l m = some (rowsTo l m (hgt l m)) := by unfold rowsP; rw [if_pos h, if_neg (by rw [h2]; simp)]
/-- A row is empty just from the height on. -/
theorem at_hgt {l m : Ps} {d : Nat} (h : d ≤ hgt l m) : rowAt l m d = [] ↔ d = hgt l m := by
  constructor
  · intro e
    rcases Nat.lt_or_ge d (hgt l m) with h1 | h1
    · exact absurd e ((hgt_is l m).2.2 d h1)
    · omega
  · rintro rfl
    exact (hgt_is l m).2.1
end Go.Proofs.Ytlgfaabobpnflaa.RowsM
