/- Which records are valid, and where a number stands among ascending contexts. -/
import Derived.Test.YtcbfnhghhbgdkaaExactResolvesRecordSaidPartaa
namespace Go.Proofs.Ytcbfnhghhbgdkaa.GoodM
open Go.RowKit Pairs Find2

def okC (l : List (Int × Int)) (i : Nat) : Bool :=
  match l[i]? with
  | none => true
  | some x => decide (1 ≤ x.1) && decide (x.1 ≤ 999) && decide (1 ≤ x.2) && decide (x.2 ≤ 4) && (decide (i = 0) || match l[i - 1]? with | none => true | some p => decide (p.1 < x.1))
def okR (l m : List (Int × Int)) (i : Nat) : Bool :=
  match m[i]? with
  | none => true
  | some x => decide (x.1 ≠ x.2) && (isAt l x.1).isSome && (isAt l x.2).isSome && (decide (i = 0) || match m[i - 1]? with | none => true | some p => decide (p.1 < x.1 ∨ p.1 = x.1 ∧ p.2 < x.2))
def good (l m : List (Int × Int)) : Bool :=
  decide (l.length ≤ 10) && decide (m.length ≤ 24) && (List.range l.length).all (okC l) && (List.range m.length).all (okR l m)

def before (p q : Int × Int) : Bool := decide (p.1 < q.1 ∨ p.1 = q.1 ∧ p.2 < q.2)
theorem okC_first {l : List (Int × Int)} {x y : Int} (hx : l[0]? = some (x, y)) (h1 : 1 ≤ x ∧ x ≤ 999) (h2 : 1 ≤ y ∧ y ≤ 4) : okC l 0 = true := by
  unfold okC
  rw [hx]
  simp [h1, h2]
theorem okC_next {l : List (Int × Int)} {j : Nat} {x y p q : Int} (hx : l[j + 1]? = some (x, y)) (hp : l[j]? = some (p, q)) (h1 : 1 ≤ x ∧ x ≤ 999) (h2 : 1 ≤ y ∧ y ≤ 4) (h3 : p < x) : okC l (j + 1) = true := by
  unfold okC
  rw [hx, Nat.add_sub_cancel, hp]
  simp [h1, h2, h3]
theorem okC_bad1 {l : List (Int × Int)} {k : Nat} {x y : Int} (hx : l[k]? = some (x, y)) (h : ¬ (1 ≤ x ∧ x ≤ 999)) : okC l k = false := by
  unfold okC
  rw [hx]
  by_cases h1 : 1 ≤ x
  · have h2 : ¬ x ≤ 999 := fun h2 => h ⟨h1, h2⟩
    simp [h2]
  · simp [h1]
theorem okC_bad2 {l : List (Int × Int)} {k : Nat} {x y : Int} (hx : l[k]? = some (x, y)) (h : ¬ (1 ≤ y ∧ y ≤ 4)) : okC l k = false := by
  unfold okC
  rw [hx]
  by_cases h1 : 1 ≤ y
  · have h2 : ¬ y ≤ 4 := fun h2 => h ⟨h1, h2⟩
    simp [h2]
  · simp [h1]
theorem okC_bad3 {l : List (Int × Int)} {j : Nat} {x y p q : Int} (hx : l[j + 1]? = some (x, y)) (hp : l[j]? = some (p, q)) (h : ¬ p < x) : okC l (j + 1) = false := by
  unfold okC
  rw [hx, Nat.add_sub_cancel, hp]
  simp [h]
theorem good_badC {l m : List (Int × Int)} {k : Nat} (hk : k < l.length) (h : okC l k = false) : good l m = false := by
  unfold good
  have e : (List.range l.length).all (okC l) = false := by
    rw [List.all_eq_false]
    exact ⟨k, List.mem_range.2 hk, by rw [h]; simp⟩
  rw [e]
  simp
theorem good_badR {l m : List (Int × Int)} {k : Nat} (hk : k < m.length) (h : okR l m k = false) : good l m = false := by
  unfold good
  have e : (List.range m.length).all (okR l m) = false := by
    rw [List.all_eq_false]
    exact ⟨k, List.mem_range.2 hk, by rw [h]; simp⟩
  rw [e, Bool.and_false]
theorem good_true {l m : List (Int × Int)} (h1 : l.length ≤ 10) (h2 : m.length ≤ 24) (h3 : ∀ j, j < l.length → okC l j = true) (h4 : ∀ j, j < m.length → okR l m j = true) : good l m = true := by
  unfold good
  rw [decide_eq_true h1, decide_eq_true h2, List.all_eq_true.2 (fun j hj => h3 j (List.mem_range.1 hj)), List.all_eq_true.2 (fun j hj => h4 j (List.mem_range.1 hj))]
  rfl
theorem good_big {l m : List (Int × Int)} (h : ¬ (l.length ≤ 10 ∧ m.length ≤ 24)) : good l m = false := by
  unfold good
  by_cases h1 : l.length ≤ 10
  · rw [decide_eq_false (p := m.length ≤ 24) (fun h2 => h ⟨h1, h2⟩)]
    simp
  · rw [decide_eq_false (p := l.length ≤ 10) h1]
    simp
def Past (l : List (Int × Int)) (k : Nat) : Prop := ∀ j, j < k → okC l j = true
theorem Past.next {l : List (Int × Int)} {k : Nat} (h : Past l k) (hk : okC l k = true) : Past l (k + 1) := by
  intro j hj
  by_cases e : j = k
  · exact e ▸ hk
  · exact h j (by omega)
theorem okR_bad1 {l m : List (Int × Int)} {k : Nat} {x : Int} (hx : m[k]? = some (x, x)) : okR l m k = false := by
  unfold okR
  rw [hx]
  simp
theorem okR_bad2 {l m : List (Int × Int)} {k : Nat} {x y : Int} (hx : m[k]? = some (x, y)) (h : isAt l x = none) : okR l m k = false := by
  unfold okR
  rw [hx]
  simp [h]
theorem okR_bad3 {l m : List (Int × Int)} {k : Nat} {x y : Int} (hx : m[k]? = some (x, y)) (h : isAt l y = none) : okR l m k = false := by
  unfold okR
  rw [hx]
  simp [h]
theorem okR_first {l m : List (Int × Int)} {x y : Int} {i j : Nat} (hx : m[0]? = some (x, y)) (h0 : x ≠ y) (h1 : isAt l x = some i) (h2 : isAt l y = some j) : okR l m 0 = true := by
  unfold okR
  rw [hx]
  simp [h0, h1, h2]
theorem okR_prev {l m : List (Int × Int)} {k : Nat} {x y p q : Int} {i j : Nat} (hx : m[k + 1]? = some (x, y)) (hp : m[k]? = some (p, q)) (h0 : x ≠ y) (h1 : isAt l x = some i) (h2 : isAt l y = some j) : okR l m (k + 1) = before (p, q) (x, y) := by
  unfold okR before
  rw [hx, Nat.add_sub_cancel, hp]
  simp [h0, h1, h2]
def PastR (l m : List (Int × Int)) (k : Nat) : Prop := ∀ j, j < k → okR l m j = true
theorem PastR.next {l m : List (Int × Int)} {k : Nat} (h : PastR l m k) (hk : okR l m k = true) : PastR l m (k + 1) := by
  intro j hj
  by_cases e : j = k
  · exact e ▸ hk
  · exact h j (by omega)

def Asc (l : List (Int × Int)) : Prop := ∀ i x y, l[i]? = some x → l[i + 1]? = some y → x.1 < y.1
theorem Asc.lt {l : List (Int × Int)} (h : Asc l) : ∀ (d i : Nat) (x y : Int × Int), l[i]? = some x → l[i + d + 1]? = some y → x.1 < y.1
  | 0, i, x, y, hx, hy => h i x y hx hy
  | d + 1, i, x, y, hx, hy => by
    have hl : i + d + 1 < l.length := by
      have := (List.getElem?_eq_some_iff.1 hy).1
      omega
    have hz : l[i + d + 1]? = some l[i + d + 1] := List.getElem?_eq_getElem hl
    have h1 := Asc.lt h d i x _ hx hz
    have h2 := h (i + d + 1) _ y hz hy
    omega
theorem Asc.le {l : List (Int × Int)} (h : Asc l) {i j : Nat} {x y : Int × Int} (hij : i ≤ j) (hx : l[i]? = some x) (hy : l[j]? = some y) : x.1 ≤ y.1 := by
  by_cases e : i = j
  · subst e; rw [hx] at hy; cases hy; exact Int.le_refl _
  · obtain ⟨d, rfl⟩ : ∃ d, j = i + d + 1 := ⟨j - i - 1, by omega⟩
    have := h.lt d i x y hx hy
    omega
/-- The place of a number among ascending contexts. -/
def pl (l : List (Int × Int)) (t : Int) : Nat := l.findIdx (fun p => decide (t ≤ p.1))
theorem pl_eq {l : List (Int × Int)} {t : Int} {i : Nat} (hi : i ≤ l.length) (h1 : ∀ j x, j < i → l[j]? = some x → x.1 < t) (h2 : ∀ x, l[i]? = some x → t ≤ x.1) : pl l t = i := by
  unfold pl
  by_cases e : i < l.length
  · rw [List.findIdx_eq e]
    refine ⟨decide_eq_true (h2 _ (List.getElem?_eq_getElem e)), fun j hj => decide_eq_false ?_⟩
    have := h1 j _ hj (List.getElem?_eq_getElem (by omega))
    omega
  · obtain rfl : i = l.length := by omega
    rw [List.findIdx_eq_length]
    intro x hx
    obtain ⟨j, hj, rfl⟩ := List.getElem_of_mem hx
    have := h1 j _ hj (List.getElem?_eq_getElem hj)
    exact decide_eq_false (by omega)
theorem isAt_pl {l : List (Int × Int)} (h : Asc l) {t : Int} {i : Nat} (h1 : ∀ j x, j < i → l[j]? = some x → x.1 < t) (h2 : ∀ x, l[i]? = some x → t ≤ x.1) :
    isAt l t = (match l[i]? with | some x => if x.1 = t then some i else none | none => none) := by
  unfold isAt
  cases hx : l[i]? with
  | none =>
    have hl := List.getElem?_eq_none_iff.1 hx
    rw [List.findIdx?_eq_none_iff]
    intro x hx
    obtain ⟨j, hj, rfl⟩ := List.getElem_of_mem hx
    have := h1 j _ (by omega) (List.getElem?_eq_getElem hj)
    simp; omega
  | some x =>
    have hl := (List.getElem?_eq_some_iff.1 hx).1
    show _ = if x.1 = t then some i else none
    by_cases e : x.1 = t
    · rw [if_pos e, List.findIdx?_eq_some_iff_getElem]
      refine ⟨hl, ?_, ?_⟩
      · rw [(List.getElem?_eq_some_iff.1 hx).2]; simp [e]
      · intro j hj
        have := h1 j _ hj (List.getElem?_eq_getElem (by omega))
        simp; omega
    · rw [if_neg e, List.findIdx?_eq_none_iff]
      intro z hz
      obtain ⟨j, hj, rfl⟩ := List.getElem_of_mem hz
      simp
      by_cases hji : j < i
      · have := h1 j _ hji (List.getElem?_eq_getElem hj)
        omega
      · have := h.le (i := i) (j := j) (by omega) hx (List.getElem?_eq_getElem hj)
        have := h2 x hx
        omega
theorem asc_of_ok {l : List (Int × Int)} (h : ∀ j, j < l.length → okC l j = true) : Asc l := by
  intro i x y hx hy
  have hl := (List.getElem?_eq_some_iff.1 hy).1
  have := h (i + 1) hl
  unfold okC at this
  rw [hy, Nat.add_sub_cancel, hx] at this
  simp at this
  omega
end Go.Proofs.Ytcbfnhghhbgdkaa.GoodM
/- Relations in their order: inserting, removing. -/
namespace Go.Proofs.Ytcbfnhghhbgdkaa.RelM
open Pairs Find2 GoodM
theorem before_iff (p q : Int × Int) : before p q = true ↔ p.1 < q.1 ∨ p.1 = q.1 ∧ p.2 < q.2 := by unfold before; simp
theorem before_trans {p q r : Int × Int} (h1 : before p q = true) (h2 : before q r = true) : before p r = true := by
  rw [before_iff] at *; omega
theorem before_irrefl (p : Int × Int) : before p p = false := by
  unfold before; simp
theorem before_total {p q : Int × Int} (h1 : before p q = false) (h2 : before q p = false) : p = q := by
  have h1' : ¬ before p q = true := by simp [h1]
  have h2' : ¬ before q p = true := by simp [h2]
  rw [before_iff] at *
  apply Prod.ext <;> omega
def Up (m : List (Int × Int)) : Prop := m.Pairwise (fun p q => before p q = true)
theorem Up.ext {m1 m2 : List (Int × Int)} (h1 : Up m1) (h2 : Up m2) (h : ∀ x, x ∈ m1 ↔ x ∈ m2) : m1 = m2 := by
  have n1 : m1.Nodup := h1.imp (fun {a b} hab e => by subst e; rw [before_irrefl] at hab; cases hab)
  have n2 : m2.Nodup := h2.imp (fun {a b} hab e => by subst e; rw [before_irrefl] at hab; cases hab)
  have hp : m1.Perm m2 := (List.perm_ext_iff_of_nodup n1 n2).2 h
  refine hp.eq_of_pairwise (le := fun p q => before p q = true) ?_ h1 h2
  intro a b _ _ h3 h4
  have := before_trans h3 h4
  rw [before_irrefl] at this; cases this
def ins (l : List (Int × Int)) (i : Nat) (x : Int × Int) : List (Int × Int) := l.take i ++ x :: l.drop i
theorem mem_ins {l : List (Int × Int)} {i : Nat} {x y : Int × Int} : y ∈ ins l i x ↔ y = x ∨ y ∈ l := by
  unfold ins
  rw [List.mem_append, List.mem_cons]
  conv => rhs; rw [← List.take_append_drop i l, List.mem_append]
  constructor
  · rintro (h | h | h) <;> simp [h]
  · rintro (h | h | h) <;> simp [h]
theorem ins_len (l : List (Int × Int)) (i : Nat) (x : Int × Int) : (ins l i x).length = l.length + 1 := by
  unfold ins
  have := congrArg List.length (List.take_append_drop i l)
  rw [List.length_append] at this
  rw [List.length_append, List.length_cons]
  omega
theorem erase_filter {l : List (Int × Int)} {i : Nat} {x : Int × Int} (q : Int × Int → Bool) (hx : l[i]? = some x) (hq : q x = false) (ho : ∀ j y, j ≠ i → l[j]? = some y → q y = true) : l.eraseIdx i = l.filter q := by
  have hl := (List.getElem?_eq_some_iff.1 hx).1
  have e : l = l.take i ++ x :: l.drop (i + 1) := by
    conv => lhs; rw [← List.take_append_drop i l, List.drop_eq_getElem_cons hl]
    rw [(List.getElem?_eq_some_iff.1 hx).2]
  rw [List.eraseIdx_eq_take_drop_succ]
  have h1 : (l.take i).filter q = l.take i := by
    rw [List.filter_eq_self]
    intro y hy
    obtain ⟨j, hj, he⟩ := List.mem_take_iff_getElem.1 hy
    exact ho j y (by omega) (by rw [← he]; exact List.getElem?_eq_getElem (by omega))
  have h2 : (l.drop (i + 1)).filter q = l.drop (i + 1) := by
    rw [List.filter_eq_self]
    intro y hy
    obtain ⟨j, hj, he⟩ := List.mem_drop_iff_getElem.1 hy
    exact ho (j + (i + 1)) y (by omega) (by rw [← he]; rw [show j + (i+1) = i + 1 + j by omega]; exact List.getElem?_eq_getElem (by omega))
  conv => rhs; rw [e, List.filter_append, List.filter_cons, hq, h1, h2]
  simp
def plR (m : List (Int × Int)) (x : Int × Int) : Nat := m.findIdx (fun p => !before p x)
theorem plR_le (m : List (Int × Int)) (x : Int × Int) : plR m x ≤ m.length := List.findIdx_le_length
theorem plR_lt {m : List (Int × Int)} {x : Int × Int} {j : Nat} {y : Int × Int} (hj : j < plR m x) (hy : m[j]? = some y) : before y x = true := by
  have := List.not_of_lt_findIdx (p := fun p => !before p x) (xs := m) hj
  have e := (List.getElem?_eq_some_iff.1 hy).2
  rw [e] at this
  simpa using this
theorem plR_at {m : List (Int × Int)} {x y : Int × Int} (hy : m[plR m x]? = some y) : before y x = false := by
  have hl := (List.getElem?_eq_some_iff.1 hy).1
  have := List.findIdx_getElem (p := fun p => !before p x) (xs := m) (w := hl)
  have e : m[m.findIdx fun p => !before p x]'hl = y := (List.getElem?_eq_some_iff.1 hy).2
  simp only [e] at this
  simpa using this
theorem plR_eq {m : List (Int × Int)} {x : Int × Int} {i : Nat} (hi : i ≤ m.length) (h1 : ∀ j y, j < i → m[j]? = some y → before y x = true) (h2 : ∀ y, m[i]? = some y → before y x = false) : plR m x = i := by
  unfold plR
  by_cases e : i < m.length
  · rw [List.findIdx_eq e]
    refine ⟨by simp [h2 _ (List.getElem?_eq_getElem e)], fun j hj => ?_⟩
    have := h1 j _ hj (List.getElem?_eq_getElem (by omega))
    simp [this]
  · obtain rfl : i = m.length := by omega
    rw [List.findIdx_eq_length]
    intro y hy
    obtain ⟨j, hj, rfl⟩ := List.getElem_of_mem hy
    have := h1 j _ hj (List.getElem?_eq_getElem hj)
    simp [this]
/-- A relation at its place, unless it is there. -/
def link (m : List (Int × Int)) (x : Int × Int) : List (Int × Int) := if m[plR m x]? = some x then m else ins m (plR m x) x
theorem mem_link {m : List (Int × Int)} {x y : Int × Int} : y ∈ link m x ↔ y = x ∨ y ∈ m := by
  unfold link
  by_cases h : m[plR m x]? = some x
  · rw [if_pos h]
    constructor
    · exact .inr
    · rintro (rfl | h2)
      · exact List.mem_of_getElem? h
      · exact h2
  · rw [if_neg h]; exact mem_ins
theorem up_link {m : List (Int × Int)} (h : Up m) (x : Int × Int) : Up (link m x) := by
  unfold link
  by_cases e : m[plR m x]? = some x
  · rw [if_pos e]; exact h
  · rw [if_neg e]
    unfold ins Up
    have h' := h
    unfold Up at h'
    rw [← List.take_append_drop (plR m x) m, List.pairwise_append] at h'
    have hd : ∀ y, y ∈ m.drop (plR m x) → before x y = true := by
      intro y hy
      cases hz : m[plR m x]? with
      | none =>
        have := List.getElem?_eq_none_iff.1 hz
        rw [List.drop_of_length_le this] at hy; simp at hy
      | some z =>
        have hb := plR_at hz
        have hl := (List.getElem?_eq_some_iff.1 hz).1
        have hzx : before x z = true := by
          cases hb2 : before x z with
          | true => rfl
          | false => exact absurd (by rw [hz, before_total hb hb2]) e
        rw [List.drop_eq_getElem_cons hl, (List.getElem?_eq_some_iff.1 hz).2] at hy
        rcases List.mem_cons.1 hy with rfl | hy
        · exact hzx
        · have := h'.2.1
          rw [List.drop_eq_getElem_cons hl, (List.getElem?_eq_some_iff.1 hz).2, List.pairwise_cons] at this
          exact before_trans hzx (this.1 y hy)
    have ht : ∀ y, y ∈ m.take (plR m x) → before y x = true := by
      intro y hy
      obtain ⟨j, hj, he⟩ := List.mem_take_iff_getElem.1 hy
      exact plR_lt (m := m) (j := j) (by omega) (by rw [← he]; exact List.getElem?_eq_getElem (by omega))
    rw [List.pairwise_append]
    refine ⟨h'.1, List.pairwise_cons.2 ⟨hd, h'.2.1⟩, ?_⟩
    intro a ha b hb
    rcases List.mem_cons.1 hb with rfl | hb
    · exact ht a ha
    · exact h'.2.2 a ha b hb
end Go.Proofs.Ytcbfnhghhbgdkaa.RelM
