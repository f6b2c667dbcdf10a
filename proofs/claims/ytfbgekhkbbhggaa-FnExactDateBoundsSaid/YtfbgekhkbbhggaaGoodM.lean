/- Which records are valid, and where a number stands among ascending contexts. -/
import Derived.Test.YtfbgekhkbbhggaaFind2
namespace Go.Proofs.Ytfbgekhkbbhggaa.GoodM
open Go.RowKit Pairs Find2

def okC (l : List (Int × Int)) (i : Nat) : Bool :=
  match l[i]? with
  | none => true
  | some x => decide (1 ≤ x.1) && decide (x.1 ≤ 999) && decide (1 ≤ x.2) && decide (x.2 ≤ 4) && (decide (i = 0) || match l[i - 1]? with | none => true | some p => decide (p.1 < x.1))
def okR (l m : List (Int × Int)) (i : Nat) : Bool :=
  match m[i]? with
  | none => true
  | some x => decide (x.1 ≠ x.2) && (isAt l x.1).isSome && (isAt l x.2).isSome && (decide (i = 0) || match m[i - 1]? with | none => true | some p => decide (p.1 < x.1 ∨ p.1 = x.1 ∧ p.2 < x.2))
def good (l m : List (Int × Int)) : Bool :=
  decide (l.length ≤ 10) && decide (m.length ≤ 24) && (List.range l.length).all (okC l) && (List.range m.length).all (okR l m)

def before (p q : Int × Int) : Bool := decide (p.1 < q.1 ∨ p.1 = q.1 ∧ p.2 < q.2)
theorem okC_first {l : List (Int × Int)} {x y : Int} (hx : l[0]? = some (x, y)) (h1 : 1 ≤ x ∧ x ≤ 999) (h2 : 1 ≤ y ∧ y ≤ 4) : okC l 0 = true := by
  unfold okC
  rw [hx]
  simp [h1, h2]
theorem okC_next {l : List (Int × Int)} {j : Nat} {x y p q : Int} (hx : l[j + 1]? = some (x, y)) (hp : l[j]? = some (p, q)) (h1 : 1 ≤ x ∧ x ≤ 999) (h2 : 1 ≤ y ∧ y ≤ 4) (h3 : p < x) : okC l (j + 1) = true := by
  unfold okC
  rw [hx, Nat.add_sub_cancel, hp]
  simp [h1, h2, h3]
theorem okC_bad1 {l : List (Int × Int)} {k : Nat} {x y : Int} (hx : l[k]? = some (x, y)) (h : ¬ (1 ≤ x ∧ x ≤ 999)) : okC l k = false := by
  unfold okC
  rw [hx]
  by_cases h1 : 1 ≤ x
  · have h2 : ¬ x ≤ 999 := fun h2 => h ⟨h1, h2⟩
    simp [h2]
  · simp [h1]
theorem okC_bad2 {l : List (Int × Int)} {k : Nat} {x y : Int} (hx : l[k]? = some (x, y)) (h : ¬ (1 ≤ y ∧ y ≤ 4)) : okC l k = false := by
  unfold okC
  rw [hx]
  by_cases h1 : 1 ≤ y
  · have h2 : ¬ y ≤ 4 := fun h2 => h ⟨h1, h2⟩
    simp [h2]
  · simp [h1]
theorem okC_bad3 {l : List (Int × Int)} {j : Nat} {x y p q : Int} (hx : l[j + 1]? = some (x, y)) (hp : l[j]? = some (p, q)) (h : ¬ p < x) : okC l (j + 1) = false := by
  unfold okC
  rw [hx, Nat.add_sub_cancel, hp]
  simp [h]
theorem good_badC {l m : List (Int × Int)} {k : Nat} (hk : k < l.length) (h : okC l k = false) : good l m = false := by
  unfold good
  have e : (List.range l.length).all (okC l) = false := by
    rw [List.all_eq_false]
    exact ⟨k, List.mem_range.2 hk, by rw [h]; simp⟩
  rw [e]
  simp
theorem good_badR {l m : List (Int × Int)} {k : Nat} (hk : k < m.length) (h : okR l m k = false) : good l m = false := by
  unfold good
  have e : (List.range m.length).all (okR l m) = false := by
    rw [List.all_eq_false]
    exact ⟨k, List.mem_range.2 hk, by rw [h]; simp⟩
  rw [e, Bool.and_false]
theorem good_true {l m : List (Int × Int)} (h1 : l.length ≤ 10) (h2 : m.length ≤ 24) (h3 : ∀ j, j < l.length → okC l j = true) (h4 : ∀ j, j < m.length → okR l m j = true) : good l m = true := by
  unfold good
  rw [decide_eq_true h1, decide_eq_true h2, List.all_eq_true.2 (fun j hj => h3 j (List.mem_range.1 hj)), List.all_eq_true.2 (fun j hj => h4 j (List.mem_range.1 hj))]
  rfl
theorem good_big {l m : List (Int × Int)} (h : ¬ (l.length ≤ 10 ∧ m.length ≤ 24)) : good l m = false := by
  unfold good
  by_cases h1 : l.length ≤ 10
  · rw [decide_eq_false (p := m.length ≤ 24) (fun h2 => h ⟨h1, h2⟩)]
    simp
  · rw [decide_eq_false (p := l.length ≤ 10) h1]
    simp
def Past (l : List (Int × Int)) (k : Nat) : Prop := ∀ j, j < k → okC l j = true
theorem Past.next {l : List (Int × Int)} {k : Nat} (h : Past l k) (hk : okC l k = true) : Past l (k + 1) := by
  intro j hj
  by_cases e : j = k
  · exact e ▸ hk
  · exact h j (by omega)
theorem okR_bad1 {l m : List (Int × Int)} {k : Nat} {x : Int} (hx : m[k]? = some (x, x)) : okR l m k = false := by
  unfold okR
  rw [hx]
  simp
theorem okR_bad2 {l m : List (Int × Int)} {k : Nat} {x y : Int} (hx : m[k]? = some (x, y)) (h : isAt l x = none) : okR l m k = false := by
  unfold okR
  rw [hx]
  simp [h]
theorem okR_bad3 {l m : List (Int × Int)} {k : Nat} {x y : Int} (hx : m[k]? = some (x, y)) (h : isAt l y = none) : okR l m k = false := by
  unfold okR
  rw [hx]
  simp [h]
theorem okR_first {l m : List (Int × Int)} {x y : Int} {i j : Nat} (hx : m[0]? = some (x, y)) (h0 : x ≠ y) (h1 : isAt l x = some i) (h2 : isAt l y = some j) : okR l m 0 = true := by
  unfold okR
  rw [hx]
  simp [h0, h1, h2]
theorem okR_prev {l m : List (Int × Int)} {k : Nat} {x y p q : Int} {i j : Nat} (hx : m[k + 1]? = some (x, y)) (hp : m[k]? = some (p, q)) (h0 : x ≠ y) (h1 : isAt l x = some i) (h2 : isAt l y = some j) : okR l m (k + 1) = before (p, q) (x, y) := by
  unfold okR before
  rw [hx, Nat.add_sub_cancel, hp]
  simp [h0, h1, h2]
def PastR (l m : List (Int × Int)) (k : Nat) : Prop := ∀ j, j < k → okR l m j = true
theorem PastR.next {l m : List (Int × Int)} {k : Nat} (h : PastR l m k) (hk : okR l m k = true) : PastR l m (k + 1) := by
  intro j hj
  by_cases e : j = k
  · exact e ▸ hk
  · exact h j (by omega)

def Asc (l : List (Int × Int)) : Prop := ∀ i x y, l[i]? = some x → l[i + 1]? = some y → x.1 < y.1
theorem Asc.lt {l : List (Int × Int)} (h : Asc l) : ∀ (d i : Nat) (x y : Int × Int), l[i]? = some x → l[i + d + 1]? = some y → x.1 < y.1
  | 0, i, x, y, hx, hy => h i x y hx hy
  | d + 1, i, x, y, hx, hy => by
    have hl : i + d + 1 < l.length := by
      have := (List.getElem?_eq_some_iff.1 hy).1
      omega
    have hz : l[i + d + 1]? = some l[i + d + 1] := List.getElem?_eq_getElem hl
    have h1 := Asc.lt h d i x _ hx hz
    have h2 := h (i + d + 1) _ y hz hy
    omega
theorem Asc.le {l : List (Int × Int)} (h : Asc l) {i j : Nat} {x y : Int × Int} (hij : i ≤ j) (hx : l[i]? = some x) (hy : l[j]? = some y) : x.1 ≤ y.1 := by
  by_cases e : i = j
  · subst e; rw [hx] at hy; cases hy; exact Int.le_refl _
  · obtain ⟨d, rfl⟩ : ∃ d, j = i + d + 1 := ⟨j - i - 1, by omega⟩
    have := h.lt d i x y hx hy
    omega
/-- The place of a number among ascending contexts. -/
def pl (l : List (Int × Int)) (t : Int) : Nat := l.findIdx (fun p => decide (t ≤ p.1))
theorem pl_eq {l : List (Int × Int)} {t : Int} {i : Nat} (hi : i ≤ l.length) (h1 : ∀ j x, j < i → l[j]? = some x → x.1 < t) (h2 : ∀ x, l[i]? = some x → t ≤ x.1) : pl l t = i := by
  unfold pl
  by_cases e : i < l.length
  · rw [List.findIdx_eq e]
    refine ⟨decide_eq_true (h2 _ (List.getElem?_eq_getElem e)), fun j hj => decide_eq_false ?_⟩
    have := h1 j _ hj (List.getElem?_eq_getElem (by omega))
    omega
  · obtain rfl : i = l.length := by omega
    rw [List.findIdx_eq_length]
    intro x hx
    obtain ⟨j, hj, rfl⟩ := List.getElem_of_mem hx
    have := h1 j _ hj (List.getElem?_eq_getElem hj)
    exact decide_eq_false (by omega)
theorem isAt_pl {l : List (Int × Int)} (h : Asc l) {t : Int} {i : Nat} (h1 : ∀ j x, j < i → l[j]? = some x → x.1 < t) (h2 : ∀ x, l[i]? = some x → t ≤ x.1) :
    isAt l t = (match l[i]? with | some x => if x.1 = t then some i else none | none => none) := by
  unfold isAt
  cases hx : l[i]? with
  | none =>
    have hl := List.getElem?_eq_none_iff.1 hx
    rw [List.findIdx?_eq_none_iff]
    intro x hx
    obtain ⟨j, hj, rfl⟩ := List.getElem_of_mem hx
    have := h1 j _ (by omega) (List.getElem?_eq_getElem hj)
    simp; omega
  | some x =>
    have hl := (List.getElem?_eq_some_iff.1 hx).1
    show _ = if x.1 = t then some i else none
    by_cases e : x.1 = t
    · rw [if_pos e, List.findIdx?_eq_some_iff_getElem]
      refine ⟨hl, ?_, ?_⟩
      · rw [(List.getElem?_eq_some_iff.1 hx).2]; simp [e]
      · intro j hj
        have := h1 j _ hj (List.getElem?_eq_getElem (by omega))
        simp; omega
    · rw [if_neg e, List.findIdx?_eq_none_iff]
      intro z hz
      obtain ⟨j, hj, rfl⟩ := List.getElem_of_mem hz
      simp
      by_cases hji : j < i
      · have := h1 j _ hji (List.getElem?_eq_getElem hj)
        omega
      · have := h.le (i := i) (j := j) (by omega) hx (List.getElem?_eq_getElem hj)
        have := h2 x hx
        omega
theorem asc_of_ok {l : List (Int × Int)} (h : ∀ j, j < l.length → okC l j = true) : Asc l := by
  intro i x y hx hy
  have hl := (List.getElem?_eq_some_iff.1 hy).1
  have := h (i + 1) hl
  unfold okC at this
  rw [hy, Nat.add_sub_cancel, hx] at this
  simp at this
  omega
end Go.Proofs.Ytfbgekhkbbhggaa.GoodM
