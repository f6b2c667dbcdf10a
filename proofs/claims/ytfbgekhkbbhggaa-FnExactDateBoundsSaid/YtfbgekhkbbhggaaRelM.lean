/- Relations in their order: inserting, removing. -/
import Derived.Test.YtfbgekhkbbhggaaGoodM
namespace Go.Proofs.Ytfbgekhkbbhggaa.RelM
open Pairs Find2 GoodM
theorem before_iff (p q : Int × Int) : before p q = true ↔ p.1 < q.1 ∨ p.1 = q.1 ∧ p.2 < q.2 := by unfold before; simp
theorem before_trans {p q r : Int × Int} (h1 : before p q = true) (h2 : before q r = true) : before p r = true := by
  rw [before_iff] at *; omega
theorem before_irrefl (p : Int × Int) : before p p = false := by
  unfold before; simp
theorem before_total {p q : Int × Int} (h1 : before p q = false) (h2 : before q p = false) : p = q := by
  have h1' : ¬ before p q = true := by simp [h1]
  have h2' : ¬ before q p = true := by simp [h2]
  rw [before_iff] at *
  apply Prod.ext <;> omega
def Up (m : List (Int × Int)) : Prop := m.Pairwise (fun p q => before p q = true)
theorem Up.ext {m1 m2 : List (Int × Int)} (h1 : Up m1) (h2 : Up m2) (h : ∀ x, x ∈ m1 ↔ x ∈ m2) : m1 = m2 := by
  have n1 : m1.Nodup := h1.imp (fun {a b} hab e => by subst e; rw [before_irrefl] at hab; cases hab)
  have n2 : m2.Nodup := h2.imp (fun {a b} hab e => by subst e; rw [before_irrefl] at hab; cases hab)
  have hp : m1.Perm m2 := (List.perm_ext_iff_of_nodup n1 n2).2 h
  refine hp.eq_of_pairwise (le := fun p q => before p q = true) ?_ h1 h2
  intro a b _ _ h3 h4
  have := before_trans h3 h4
  rw [before_irrefl] at this; cases this
def ins (l : List (Int × Int)) (i : Nat) (x : Int × Int) : List (Int × Int) := l.take i ++ x :: l.drop i
theorem mem_ins {l : List (Int × Int)} {i : Nat} {x y : Int × Int} : y ∈ ins l i x ↔ y = x ∨ y ∈ l := by
  unfold ins
  rw [List.mem_append, List.mem_cons]
  conv => rhs; rw [← List.take_append_drop i l, List.mem_append]
  constructor
  · rintro (h | h | h) <;> simp [h]
  · rintro (h | h | h) <;> simp [h]
theorem ins_len (l : List (Int × Int)) (i : Nat) (x : Int × Int) : (ins l i x).length = l.length + 1 := by
  unfold ins
  have := congrArg List.length (List.take_append_drop i l)
  rw [List.length_append] at this
  rw [List.length_append, List.length_cons]
  omega
theorem erase_filter {l : List (Int × Int)} {i : Nat} {x : Int × Int} (q : Int × Int → Bool) (hx : l[i]? = some x) (hq : q x = false) (ho : ∀ j y, j ≠ i → l[j]? = some y → q y = true) : l.eraseIdx i = l.filter q := by
  have hl := (List.getElem?_eq_some_iff.1 hx).1
  have e : l = l.take i ++ x :: l.drop (i + 1) := by
    conv => lhs; rw [← List.take_append_drop i l, List.drop_eq_getElem_cons hl]
    rw [(List.getElem?_eq_some_iff.1 hx).2]
  rw [List.eraseIdx_eq_take_drop_succ]
  have h1 : (l.take i).filter q = l.take i := by
    rw [List.filter_eq_self]
    intro y hy
    obtain ⟨j, hj, he⟩ := List.mem_take_iff_getElem.1 hy
    exact ho j y (by omega) (by rw [← he]; exact List.getElem?_eq_getElem (by omega))
  have h2 : (l.drop (i + 1)).filter q = l.drop (i + 1) := by
    rw [List.filter_eq_self]
    intro y hy
    obtain ⟨j, hj, he⟩ := List.mem_drop_iff_getElem.1 hy
    exact ho (j + (i + 1)) y (by omega) (by rw [← he]; rw [show j + (i+1) = i + 1 + j by omega]; exact List.getElem?_eq_getElem (by omega))
  conv => rhs; rw [e, List.filter_append, List.filter_cons, hq, h1, h2]
  simp
def plR (m : List (Int × Int)) (x : Int × Int) : Nat := m.findIdx (fun p => !before p x)
theorem plR_le (m : List (Int × Int)) (x : Int × Int) : plR m x ≤ m.length := List.findIdx_le_length
theorem plR_lt {m : List (Int × Int)} {x : Int × Int} {j : Nat} {y : Int × Int} (hj : j < plR m x) (hy : m[j]? = some y) : before y x = true := by
  have := List.not_of_lt_findIdx (p := fun p => !before p x) (xs := m) hj
  have e := (List.getElem?_eq_some_iff.1 hy).2
  rw [e] at this
  simpa using this
theorem plR_at {m : List (Int × Int)} {x y : Int × Int} (hy : m[plR m x]? = some y) : before y x = false := by
  have hl := (List.getElem?_eq_some_iff.1 hy).1
  have := List.findIdx_getElem (p := fun p => !before p x) (xs := m) (w := hl)
  have e : m[m.findIdx fun p => !before p x]'hl = y := (List.getElem?_eq_some_iff.1 hy).2
  simp only [e] at this
  simpa using this
theorem plR_eq {m : List (Int × Int)} {x : Int × Int} {i : Nat} (hi : i ≤ m.length) (h1 : ∀ j y, j < i → m[j]? = some y → before y x = true) (h2 : ∀ y, m[i]? = some y → before y x = false) : plR m x = i := by
  unfold plR
  by_cases e : i < m.length
  · rw [List.findIdx_eq e]
    refine ⟨by simp [h2 _ (List.getElem?_eq_getElem e)], fun j hj => ?_⟩
    have := h1 j _ hj (List.getElem?_eq_getElem (by omega))
    simp [this]
  · obtain rfl : i = m.length := by omega
    rw [List.findIdx_eq_length]
    intro y hy
    obtain ⟨j, hj, rfl⟩ := List.getElem_of_mem hy
    have := h1 j _ hj (List.getElem?_eq_getElem hj)
    simp [this]
/-- A relation at its place, unless it is there. -/
def link (m : List (Int × Int)) (x : Int × Int) : List (Int × Int) := if m[plR m x]? = some x then m else ins m (plR m x) x
theorem mem_link {m : List (Int × Int)} {x y : Int × Int} : y ∈ link m x ↔ y = x ∨ y ∈ m := by
  unfold link
  by_cases h : m[plR m x]? = some x
  · rw [if_pos h]
    constructor
    · exact .inr
    · rintro (rfl | h2)
      · exact List.mem_of_getElem? h
      · exact h2
  · rw [if_neg h]; exact mem_ins
theorem up_link {m : List (Int × Int)} (h : Up m) (x : Int × Int) : Up (link m x) := by
  unfold link
  by_cases e : m[plR m x]? = some x
  · rw [if_pos e]; exact h
  · rw [if_neg e]
    unfold ins Up
    have h' := h
    unfold Up at h'
    rw [← List.take_append_drop (plR m x) m, List.pairwise_append] at h'
    have hd : ∀ y, y ∈ m.drop (plR m x) → before x y = true := by
      intro y hy
      cases hz : m[plR m x]? with
      | none =>
        have := List.getElem?_eq_none_iff.1 hz
        rw [List.drop_of_length_le this] at hy; simp at hy
      | some z =>
        have hb := plR_at hz
        have hl := (List.getElem?_eq_some_iff.1 hz).1
        have hzx : before x z = true := by
          cases hb2 : before x z with
          | true => rfl
          | false => exact absurd (by rw [hz, before_total hb hb2]) e
        rw [List.drop_eq_getElem_cons hl, (List.getElem?_eq_some_iff.1 hz).2] at hy
        rcases List.mem_cons.1 hy with rfl | hy
        · exact hzx
        · have := h'.2.1
          rw [List.drop_eq_getElem_cons hl, (List.getElem?_eq_some_iff.1 hz).2, List.pairwise_cons] at this
          exact before_trans hzx (this.1 y hy)
    have ht : ∀ y, y ∈ m.take (plR m x) → before y x = true := by
      intro y hy
      obtain ⟨j, hj, he⟩ := List.mem_take_iff_getElem.1 hy
      exact plR_lt (m := m) (j := j) (by omega) (by rw [← he]; exact List.getElem?_eq_getElem (by omega))
    rw [List.pairwise_append]
    refine ⟨h'.1, List.pairwise_cons.2 ⟨hd, h'.2.1⟩, ?_⟩
    intro a ha b hb
    rcases List.mem_cons.1 hb with rfl | hb
    · exact ht a ha
    · exact h'.2.2 a ha b hb
end Go.Proofs.Ytfbgekhkbbhggaa.RelM
