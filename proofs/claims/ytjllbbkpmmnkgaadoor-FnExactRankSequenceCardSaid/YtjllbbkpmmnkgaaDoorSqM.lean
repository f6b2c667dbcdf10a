/- Sequences, in plain words: lists of all contexts in which every context comes behind those that are later; sets of contexts as bits. -/
import Derived.Test.YtjllbbkpmmnkgaaDoorChain
import Derived.Test.YtjllbbkpmmnkgaaDoorGoodM
namespace Go.Proofs.YtjllbbkpmmnkgaaDoor.SqM
open Pairs Find2 GoodM Chain
theorem at_num {l : Ps} (hA : Asc l) {x y : Int} {i : Nat} (hx : l[i]? = some (x, y)) : isAt l x = some i := by
  have e : (isAt l x).isSome = true := isAt_keys.2 (List.mem_map.2 ⟨(x, y), List.mem_of_getElem? hx, rfl⟩)
  obtain ⟨j, hj⟩ := Option.isSome_iff_exists.1 e
  obtain ⟨y2, hy2⟩ := isAt_num hj
  rcases Nat.lt_trichotomy j i with h | h | h
  · have := hA.lt (i - j - 1) j (x, y2) (x, y) hy2 (by rw [show j + (i - j - 1) + 1 = i by omega]; exact hx)
    simp at this
  · rw [hj, h]
  · have := hA.lt (j - i - 1) i (x, y) (x, y2) hx (by rw [show i + (j - i - 1) + 1 = j by omega]; exact hy2)
    simp at this
theorem kl_len (l : Ps) : (keys l).length = l.length := by unfold keys; simp
theorem kl_nodup {l : Ps} (hA : Asc l) : (keys l).Nodup := by
  unfold List.Nodup
  rw [List.pairwise_iff_getElem]
  intro i j hi hj hij e
  rw [kl_len] at hi hj
  have h1 : (keys l)[i]'(by rw [kl_len]; exact hi) = l[i].1 := by unfold keys; simp
  have h2 : (keys l)[j]'(by rw [kl_len]; exact hj) = l[j].1 := by unfold keys; simp
  rw [h1, h2] at e
  have := hA.lt (j - i - 1) i l[i] l[j] (List.getElem?_eq_getElem (by omega)) (by rw [show i + (j - i - 1) + 1 = j by omega]; exact List.getElem?_eq_getElem hj)
  omega
/-- x may come next behind P. -/
def okAt (l m : Ps) (P : List Int) (x : Int) : Prop := x ∈ keys l ∧ x ∉ P ∧ ∀ y, (y, x) ∈ m → y ∈ P
def OkUp (l m : Ps) (L : List Int) (k : Nat) : Prop := ∀ j x, j < k → L[j]? = some x → okAt l m (L.take j) x
theorem OkUp.zero (l m : Ps) (L : List Int) : OkUp l m L 0 := fun _ _ h => absurd h (Nat.not_lt_zero _)
theorem OkUp.next {l m : Ps} {L : List Int} {k : Nat} {x : Int} (h : OkUp l m L k) (hx : L[k]? = some x) (ho : okAt l m (L.take k) x) : OkUp l m L (k + 1) := by
  intro j z hj hz
  by_cases e : j = k
  · subst e
    rw [hx] at hz
    injection hz with hz
    subst hz
    exact ho
  · exact h j z (by omega) hz
open Classical in
noncomputable def isSq (l m : Ps) (L : List Int) : Bool := decide (OkUp l m L L.length ∧ L.length = l.length)
open Classical in
theorem isSq_bad {l m : Ps} {L : List Int} {k : Nat} {x : Int} (hx : L[k]? = some x) (h : ¬ okAt l m (L.take k) x) : isSq l m L = false := by
  unfold isSq
  rw [decide_eq_false_iff_not]
  rintro ⟨h1, _⟩
  exact h (h1 k x (List.getElem?_eq_some_iff.1 hx).1 hx)
open Classical in
theorem isSq_end {l m : Ps} {L : List Int} (h : OkUp l m L L.length) : isSq l m L = decide (L.length = l.length) := by
  unfold isSq
  by_cases e : L.length = l.length
  · rw [decide_eq_true ⟨h, e⟩, decide_eq_true e]
  · rw [decide_eq_false (fun k => e k.2), decide_eq_false e]
open Classical in
theorem isSq_yes {l m : Ps} {L : List Int} (h : isSq l m L = true) : OkUp l m L L.length ∧ L.length = l.length := by
  unfold isSq at h
  exact of_decide_eq_true h
theorem take_mono {L : List Int} {j k : Nat} {x : Int} (hjk : j ≤ k) (h : x ∈ L.take j) : x ∈ L.take k := by
  obtain ⟨i, hi⟩ := List.mem_iff_getElem?.1 h
  have hij : i < j := by
    have := (List.getElem?_eq_some_iff.1 hi).1
    rw [List.length_take] at this
    omega
  rw [List.getElem?_take_of_lt hij] at hi
  exact List.mem_iff_getElem?.2 ⟨i, by rw [List.getElem?_take_of_lt (by omega)]; exact hi⟩
theorem closed {l m : Ps} {L : List Int} {k : Nat} (h : OkUp l m L k) {y x : Int} (r : Chain.Reach m y x) : x ∈ L.take k → y ∈ L.take k := by
  have step : ∀ {a b : Int}, (a, b) ∈ m → b ∈ L.take k → a ∈ L.take k := by
    intro a b e hb
    obtain ⟨j, hj⟩ := List.mem_iff_getElem?.1 hb
    have hjk : j < k := by
      have := (List.getElem?_eq_some_iff.1 hj).1
      rw [List.length_take] at this
      omega
    rw [List.getElem?_take_of_lt hjk] at hj
    exact take_mono (by omega) ((h j b hjk hj).2.2 a e)
  induction r with
  | one e => exact step e
  | more _ e ih => exact fun hc => ih (step e hc)
theorem ready_iff {l m : Ps} {L : List Int} {k : Nat} (h : OkUp l m L k) (x : Int) : (∀ y, Chain.Reach m y x → y ∈ L.take k) ↔ (∀ y, (y, x) ∈ m → y ∈ L.take k) := by
  constructor
  · exact fun q y e => q y (.one e)
  · intro q y r
    cases r with
    | one e => exact q y e
    | more r e => exact closed h r (q _ e)
/-- The bits of p are the contexts of P. -/
def Rep (l : Ps) (p : Nat) (P : List Int) : Prop := p < 2 ^ l.length ∧ ∀ i x y, l[i]? = some (x, y) → (p.testBit i = true ↔ x ∈ P)
theorem rep_zero (l : Ps) : Rep l 0 [] := ⟨Nat.two_pow_pos _, fun i x y _ => by simp⟩
theorem rep_next {l : Ps} (hA : Asc l) {p : Nat} {P : List Int} (h : Rep l p P) {x : Int} {i : Nat} (hx : isAt l x = some i) : Rep l (p ||| 2 ^ i) (P ++ [x]) := by
  refine ⟨Nat.or_lt_two_pow h.1 (Nat.pow_lt_pow_right (by decide) (isAt_lt hx)), fun j z y hz => ?_⟩
  rw [Nat.testBit_or, Nat.testBit_two_pow, List.mem_append, List.mem_singleton, Bool.or_eq_true, h.2 j z y hz, decide_eq_true_iff]
  constructor
  · rintro (q | q)
    · exact .inl q
    · subst q
      exact .inr (isAt_inj (at_num hA hz) hx)
  · rintro (q | q)
    · exact .inl q
    · subst q
      rw [at_num hA hz] at hx
      injection hx with hx
      exact .inr hx.symm
theorem nodup_ok {l m : Ps} {L : List Int} (h : OkUp l m L L.length) : L.Nodup := by
  unfold List.Nodup
  rw [List.pairwise_iff_getElem]
  intro i j hi hj hij e
  have h1 : L[j]? = some L[j] := List.getElem?_eq_getElem hj
  have h2 : L[i]? = some L[i] := List.getElem?_eq_getElem hi
  refine (h j L[j] hj h1).2.1 ?_
  rw [← e]
  exact List.mem_iff_getElem?.2 ⟨i, by rw [List.getElem?_take_of_lt hij]; exact h2⟩
theorem full_bits {n p : Nat} (hp : p < 2 ^ n) : p = 2 ^ n - 1 ↔ ∀ i, i < n → p.testBit i = true := by
  constructor
  · rintro rfl i hi
    rw [Nat.testBit_two_pow_sub_one]
    exact decide_eq_true hi
  · intro h
    apply Nat.eq_of_testBit_eq
    intro i
    rw [Nat.testBit_two_pow_sub_one]
    by_cases hi : i < n
    · rw [h i hi, decide_eq_true hi]
    · rw [decide_eq_false hi]
      exact Nat.testBit_lt_two_pow (Nat.lt_of_lt_of_le hp (Nat.pow_le_pow_right (by decide) (by omega)))
theorem full_iff {l m : Ps} (hA : Asc l) {L : List Int} {p : Nat} (ho : OkUp l m L L.length) (hr : Rep l p L) : p = 2 ^ l.length - 1 ↔ L.length = l.length := by
  have hsub : ∀ x ∈ L, x ∈ keys l := by
    intro x hx
    obtain ⟨j, hj⟩ := List.mem_iff_getElem?.1 hx
    exact (ho j x (List.getElem?_eq_some_iff.1 hj).1 hj).1
  have hle := nodup_le L (keys l) (nodup_ok ho) hsub
  rw [kl_len] at hle
  rw [full_bits hr.1]
  constructor
  · intro h
    have hk : ∀ x ∈ keys l, x ∈ L := by
      intro x hx
      obtain ⟨i, hi⟩ := Option.isSome_iff_exists.1 (isAt_keys.2 hx)
      obtain ⟨y, hy⟩ := isAt_num hi
      exact (hr.2 i x y hy).1 (h i (isAt_lt hi))
    have := nodup_le (keys l) L (kl_nodup hA) hk
    rw [kl_len] at this
    omega
  · intro e i hi
    have hx : l[i]? = some (l[i].1, l[i].2) := List.getElem?_eq_getElem hi
    refine (hr.2 i _ _ hx).2 ?_
    apply Classical.byContradiction
    intro hn
    have h1 : (l[i].1 :: L).Nodup := List.nodup_cons.2 ⟨hn, nodup_ok ho⟩
    have h2 := nodup_le (l[i].1 :: L) (keys l) h1 (fun x hx' => by
      rcases List.mem_cons.1 hx' with q | q
      · subst q
        exact List.mem_map.2 ⟨_, List.mem_of_getElem? hx, rfl⟩
      · exact hsub x q)
    rw [kl_len, List.length_cons] at h2
    omega
end Go.Proofs.YtjllbbkpmmnkgaaDoor.SqM
