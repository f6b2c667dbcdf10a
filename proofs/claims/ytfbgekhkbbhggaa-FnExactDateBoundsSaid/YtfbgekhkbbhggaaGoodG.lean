/- A valid record, said of its members. -/
import Derived.Test.YtfbgekhkbbhggaaGoodM
import Derived.Test.YtfbgekhkbbhggaaRelM
namespace Go.Proofs.Ytfbgekhkbbhggaa.GoodE
open Pairs Find2 GoodM RelM
def AscP (l : List (Int × Int)) : Prop := l.Pairwise (fun a b => a.1 < b.1)
theorem ascP_of {l : List (Int × Int)} (h : Asc l) : AscP l := by
  unfold AscP
  rw [List.pairwise_iff_getElem]
  intro i j hi hj hij
  obtain ⟨d, rfl⟩ : ∃ d, j = i + d + 1 := ⟨j - i - 1, by omega⟩
  exact h.lt d i _ _ (List.getElem?_eq_getElem hi) (List.getElem?_eq_getElem hj)
theorem AscP.ext {l1 l2 : List (Int × Int)} (h1 : AscP l1) (h2 : AscP l2) (h : ∀ x, x ∈ l1 ↔ x ∈ l2) : l1 = l2 := by
  have n1 : l1.Nodup := h1.imp (fun {a b} hab e => by subst e; omega)
  have n2 : l2.Nodup := h2.imp (fun {a b} hab e => by subst e; omega)
  have hp : l1.Perm l2 := (List.perm_ext_iff_of_nodup n1 n2).2 h
  refine hp.eq_of_pairwise (le := fun (p q : Int × Int) => p.1 < q.1) ?_ h1 h2
  intro a b _ _ h3 h4
  omega
structure Good (l m : List (Int × Int)) : Prop where
  few1 : l.length ≤ 10
  few2 : m.length ≤ 24
  asc : AscP l
  num : ∀ p ∈ l, 1 ≤ p.1 ∧ p.1 ≤ 999 ∧ 1 ≤ p.2 ∧ p.2 ≤ 4
  up : Up m
  rel : ∀ p ∈ m, p.1 ≠ p.2 ∧ (∃ u, (p.1, u) ∈ l) ∧ ∃ v, (p.2, v) ∈ l
theorem isAt_of_mem {l : List (Int × Int)} {x u : Int} (h : (x, u) ∈ l) : ∃ i, isAt l x = some i := by
  have h1 : (isAt l x).isSome = true := by
    unfold isAt
    rw [List.findIdx?_isSome, List.any_eq_true]
    exact ⟨(x, u), h, by simp⟩
  exact Option.isSome_iff_exists.1 h1
theorem mem_of_isAt {l : List (Int × Int)} {x : Int} (h : (isAt l x).isSome = true) : ∃ u, (x, u) ∈ l := by
  unfold isAt at h
  rw [List.findIdx?_isSome, List.any_eq_true] at h
  obtain ⟨⟨a, u⟩, h1, h2⟩ := h
  obtain rfl : a = x := by simpa using h2
  exact ⟨u, h1⟩
theorem isAt_none_of {l : List (Int × Int)} {x : Int} (h : ∀ u, (x, u) ∉ l) : isAt l x = none := by
  cases hh : isAt l x with
  | none => rfl
  | some i => obtain ⟨u, hu⟩ := mem_of_isAt (l := l) (x := x) (by rw [hh]; rfl); exact absurd hu (h u)
theorem good_of {l m : List (Int × Int)} (h : Good l m) : good l m = true := by
  refine good_true h.few1 h.few2 (fun j hj => ?_) (fun j hj => ?_)
  · have hx := List.getElem?_eq_getElem hj
    obtain ⟨h1, h2, h3, h4⟩ := h.num _ (List.getElem_mem hj)
    cases j with
    | zero => exact okC_first (x := l[0].1) (y := l[0].2) hx ⟨h1, h2⟩ ⟨h3, h4⟩
    | succ k =>
      have hk : k < l.length := by omega
      exact okC_next (x := l[k + 1].1) (y := l[k + 1].2) (p := l[k].1) (q := l[k].2) hx (List.getElem?_eq_getElem hk) ⟨h1, h2⟩ ⟨h3, h4⟩ (List.pairwise_iff_getElem.1 h.asc k (k + 1) hk hj (by omega))
  · have hx := List.getElem?_eq_getElem hj
    obtain ⟨h0, ⟨u, h1⟩, v, h2⟩ := h.rel _ (List.getElem_mem hj)
    obtain ⟨i, h1⟩ := isAt_of_mem h1
    obtain ⟨k, h2⟩ := isAt_of_mem h2
    cases j with
    | zero => exact okR_first (x := m[0].1) (y := m[0].2) hx h0 h1 h2
    | succ j =>
      have hk : j < m.length := by omega
      rw [okR_prev (x := m[j + 1].1) (y := m[j + 1].2) (p := m[j].1) (q := m[j].2) hx (List.getElem?_eq_getElem hk) h0 h1 h2]
      exact List.pairwise_iff_getElem.1 h.up j (j + 1) hk hj (by omega)
theorem good_is {l m : List (Int × Int)} (h : good l m = true) : Good l m := by
  have h0 := h
  unfold good at h
  simp only [Bool.and_eq_true, decide_eq_true_eq, List.all_eq_true, List.mem_range] at h
  obtain ⟨⟨⟨h1, h2⟩, h3⟩, h4⟩ := h
  refine ⟨h1, h2, ascP_of (asc_of_ok h3), fun p hp => ?_, ?_, fun p hp => ?_⟩
  · obtain ⟨k, hk, e⟩ := List.getElem_of_mem hp
    have := h3 k hk
    unfold okC at this
    rw [List.getElem?_eq_getElem hk, e] at this
    simp only [Bool.and_eq_true, decide_eq_true_eq] at this
    exact ⟨this.1.1.1.1, this.1.1.1.2, this.1.1.2, this.1.2⟩
  · unfold Up
    rw [List.pairwise_iff_getElem]
    intro i j hi hj hij
    have hu : ∀ i x y, m[i]? = some x → m[i + 1]? = some y → before x y = true := by
      intro i x y hx hy
      have hl := (List.getElem?_eq_some_iff.1 hy).1
      have hk := h4 (i + 1) hl
      unfold okR at hk
      rw [hy, Nat.add_sub_cancel, hx] at hk
      unfold before
      simp only [Bool.and_eq_true, Bool.or_eq_true, decide_eq_true_eq] at hk
      rcases hk.2 with h0 | h0
      · omega
      · exact decide_eq_true h0
    have hd : ∀ (d i : Nat) (x y : Int × Int), m[i]? = some x → m[i + d + 1]? = some y → before x y = true := by
      intro d
      induction d with
      | zero => exact fun i x y hx hy => hu i x y hx hy
      | succ d ih =>
        intro i x y hx hy
        have hl : i + d + 1 < m.length := by
          have := (List.getElem?_eq_some_iff.1 hy).1
          omega
        have hz : m[i + d + 1]? = some m[i + d + 1] := List.getElem?_eq_getElem hl
        exact before_trans (ih i x _ hx hz) (hu (i + d + 1) _ y hz hy)
    obtain ⟨d, rfl⟩ : ∃ d, j = i + d + 1 := ⟨j - i - 1, by omega⟩
    exact hd d i _ _ (List.getElem?_eq_getElem hi) (List.getElem?_eq_getElem hj)
  · obtain ⟨k, hk, e⟩ := List.getElem_of_mem hp
    have := h4 k hk
    unfold okR at this
    rw [List.getElem?_eq_getElem hk, e] at this
    simp only [Bool.and_eq_true, decide_eq_true_eq] at this
    exact ⟨this.1.1.1, mem_of_isAt this.1.1.2, mem_of_isAt this.1.2⟩
theorem AscP.one {l : List (Int × Int)} (h : AscP l) {x u v : Int} (h1 : (x, u) ∈ l) (h2 : (x, v) ∈ l) : u = v := by
  obtain ⟨i, hi, e1⟩ := List.getElem_of_mem h1
  obtain ⟨j, hj, e2⟩ := List.getElem_of_mem h2
  have hp := List.pairwise_iff_getElem.1 h
  rcases Nat.lt_trichotomy i j with hij | hij | hij
  · have := hp i j hi hj hij
    rw [e1, e2] at this
    exact absurd this (by simp)
  · subst hij
    rw [e1] at e2
    injection e2
  · have := hp j i hj hi hij
    rw [e1, e2] at this
    exact absurd this (by simp)
theorem ascP_ins {l : List (Int × Int)} (h : AscP l) {x k : Int} (hx : ∀ u, (x, u) ∉ l) : AscP (ins l (pl l x) (x, k)) := by
  unfold ins AscP
  have h' := h
  rw [← List.take_append_drop (pl l x) l] at h'
  unfold AscP at h'
  rw [List.pairwise_append] at h' ⊢
  have hne : ∀ p ∈ l, p.1 ≠ x := fun p hp e => hx p.2 (by rw [← e]; exact hp)
  have ht : ∀ p ∈ l.take (pl l x), p.1 < x := by
    intro p hp
    obtain ⟨j, hj, he⟩ := List.mem_take_iff_getElem.1 hp
    have := List.not_of_lt_findIdx (p := fun (p : Int × Int) => decide (x ≤ p.1)) (xs := l) (show j < _ from by unfold pl at hj; omega)
    rw [he] at this
    simpa using this
  have hd : ∀ p ∈ l.drop (pl l x), x < p.1 := by
    intro p hp
    have hpl := List.mem_of_mem_drop hp
    have h1 := hne p hpl
    obtain ⟨j, hj, he⟩ := List.getElem_of_mem hp
    rw [List.getElem_drop] at he
    rw [List.length_drop] at hj
    have hlt : pl l x < l.length := by omega
    have hat : x ≤ l[pl l x].1 := by
      have := List.findIdx_getElem (p := fun (p : Int × Int) => decide (x ≤ p.1)) (xs := l) (w := hlt)
      unfold pl
      simpa using this
    by_cases hj0 : j = 0
    · subst hj0
      simp only [Nat.add_zero] at he
      rw [he] at hat
      omega
    · have := List.pairwise_iff_getElem.1 h (pl l x) (pl l x + j) hlt (by omega) (by omega)
      rw [he] at this
      omega
  refine ⟨h'.1, ?_, ?_⟩
  · rw [List.pairwise_cons]
    exact ⟨fun p hp => hd p hp, h'.2.1⟩
  · intro a ha b hb
    rcases List.mem_cons.1 hb with rfl | hb
    · exact ht a ha
    · exact h'.2.2 a ha b hb
theorem ascP_filter {l : List (Int × Int)} (h : AscP l) (q : Int × Int → Bool) : AscP (l.filter q) := List.Pairwise.filter _ h
theorem up_filter {m : List (Int × Int)} (h : Up m) (q : Int × Int → Bool) : Up (m.filter q) := List.Pairwise.filter _ h
/-- Where a number stands, and with which kind. -/
theorem isAt_at {l : List (Int × Int)} {z : Int} {i : Nat} (h : isAt l z = some i) : ∃ u, l[i]? = some (z, u) := by
  unfold isAt at h
  rw [List.findIdx?_eq_some_iff_getElem] at h
  obtain ⟨hl, h1, _⟩ := h
  have e : l[i].1 = z := by simpa using h1
  exact ⟨l[i].2, by rw [List.getElem?_eq_getElem hl, ← e]⟩
end Go.Proofs.Ytfbgekhkbbhggaa.GoodE
