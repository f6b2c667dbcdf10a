/- What is left of a record without a set of relations, and the cycle that is found there. -/
import Derived.Test.YtcbfnhghhbgdkaaExactResolvesRecordSaidPartac
import Derived.Test.YtcbfnhghhbgdkaaExactResolvesRecordSaidPartba
namespace Go.Proofs.Ytcbfnhghhbgdkaa.WitM
open Pairs Find2 GoodM RelM GoodE Chain CycM CycI CycL
/-- A relation of a set. -/
def inS (S : Ps) (p : Int × Int) : Bool := S.any fun q => q.1 == p.1 && q.2 == p.2
theorem inS_iff {S : Ps} {p : Int × Int} : inS S p = true ↔ p ∈ S := by
  unfold inS
  rw [List.any_eq_true]
  constructor
  · rintro ⟨q, hq, h⟩
    simp at h
    have e : q = p := Prod.ext h.1 h.2
    rw [← e]
    exact hq
  · intro h
    exact ⟨p, h, by simp⟩
/-- What is left without a set. -/
def lft (S m : Ps) : Ps := m.filter fun p => !inS S p
theorem mem_lft {S m : Ps} {p : Int × Int} : p ∈ lft S m ↔ p ∈ m ∧ p ∉ S := by
  unfold lft
  rw [List.mem_filter]
  constructor
  · rintro ⟨h1, h2⟩
    refine ⟨h1, fun h => ?_⟩
    rw [inS_iff.2 h] at h2
    cases h2
  · rintro ⟨h1, h2⟩
    refine ⟨h1, ?_⟩
    cases h : inS S p with
    | false => rfl
    | true => exact absurd (inS_iff.1 h) h2
theorem lft_good {l m S : Ps} (h : good l m = true) : good l (lft S m) = true := by
  have hG := good_is h
  exact good_of ⟨hG.few1, Nat.le_trans (List.length_filter_le _ _) hG.few2, hG.asc, hG.num, up_filter hG.up _, fun p hp => hG.rel p (mem_lft.1 hp).1⟩
theorem lft_nil (m : Ps) : lft [] m = m := by
  unfold lft
  rw [List.filter_eq_self]
  intro p _
  rfl
/-- The relations from each of some numbers to the next one, around. -/
def prs (C : List Int) : Ps := (List.range C.length).map fun i => (C[i]?.getD 0, C[(i + 1) % C.length]?.getD 0)
theorem prs_len (C : List Int) : (prs C).length = C.length := by unfold prs; simp
theorem prs_take (C : List Int) (k : Nat) (hk : k < C.length) : (prs C).take (k + 1) = (prs C).take k ++ [(C[k]?.getD 0, C[(k + 1) % C.length]?.getD 0)] := by
  rw [List.take_add_one]
  unfold prs
  rw [List.getElem?_map, List.getElem?_range hk]
  rfl
/-- The cycle that a record has without a set. -/
noncomputable def wit (l m S : Ps) : Ps := prs (cycM (lft S m) (keys l))
theorem wit_nil {l m S : Ps} (hg : good l m = true) : wit l m S = [] ↔ loop l (lft S m) = false := by
  have h := cyc_iff (lft_good (S := S) hg)
  have hl : (wit l m S).length = (cycM (lft S m) (keys l)).length := prs_len _
  rw [← List.length_eq_zero_iff, hl]
  constructor
  · intro h0
    cases hh : loop l (lft S m) with
    | false => rfl
    | true => have := h.2 hh; omega
  · intro h0
    by_cases hp : 0 < (cycM (lft S m) (keys l)).length
    · rw [h.1 hp] at h0
      cases h0
    · omega
end Go.Proofs.Ytcbfnhghhbgdkaa.WitM
/- A set of relations of a record, and whether it resolves it. No program in this text. -/
namespace Go.Proofs.Ytcbfnhghhbgdkaa.RvM
open Pairs Find2 GoodM RelM GoodE Chain CycM CycL WitM
def Sk (m S : Ps) (k : Nat) : Prop := ∀ (i : Nat) (x : Int × Int), i < k → S[i]? = some x → x ∈ m ∧ ∀ y, 0 < i → S[i - 1]? = some y → before y x = true
open Classical in
noncomputable def st (m S : Ps) : Bool := decide (Sk m S S.length)
theorem st_yes {m S : Ps} (h : Sk m S S.length) : st m S = true := by unfold st; simp [h]
theorem st_no {m S : Ps} (h : ¬ Sk m S S.length) : st m S = false := by unfold st; simp [h]
theorem st_iff {m S : Ps} : st m S = true ↔ Sk m S S.length := by unfold st; simp
theorem Sk.next {m S : Ps} {k : Nat} {x : Int × Int} (h : Sk m S k) (hx : S[k]? = some x) (hm : x ∈ m) (hu : ∀ y, 0 < k → S[k - 1]? = some y → before y x = true) : Sk m S (k + 1) := fun i z hi hz => by
  by_cases e : i = k
  · subst e
    rw [hx] at hz
    injection hz with hz
    subst hz
    exact ⟨hm, hu⟩
  · exact h i z (by omega) hz
theorem st_bad {m S : Ps} {k : Nat} {x : Int × Int} (hx : S[k]? = some x) (h : ¬ (x ∈ m ∧ ∀ y, 0 < k → S[k - 1]? = some y → before y x = true)) : st m S = false :=
  st_no fun r => h (r k x (List.getElem?_eq_some_iff.1 hx).1 hx)
noncomputable def rvP (l m S : Ps) : Bool × Bool := if good l m = true ∧ st m S = true then (!loop l (lft S m), true) else (false, false)
theorem rv_bad {l m S : Ps} (h : good l m = false) : rvP l m S = (false, false) := by unfold rvP; rw [if_neg (by rw [h]; simp)]
theorem rv_no {l m S : Ps} (h : st m S = false) : rvP l m S = (false, false) := by unfold rvP; rw [if_neg (by rw [h]; simp)]
theorem rv_yes {l m S : Ps} (h : good l m = true) (h2 : st m S = true) : rvP l m S = (!loop l (lft S m), true) := by unfold rvP; rw [if_pos ⟨h, h2⟩]
theorem up_inj {m : Ps} (h : RelM.Up m) {i j : Nat} {x : Int × Int} (hi : m[i]? = some x) (hj : m[j]? = some x) : i = j := by
  obtain ⟨h1, e1⟩ := List.getElem?_eq_some_iff.1 hi
  obtain ⟨h2, e2⟩ := List.getElem?_eq_some_iff.1 hj
  have irr : before x x = false := by unfold before; simp
  rcases Nat.lt_trichotomy i j with hlt | he | hgt
  · have := List.pairwise_iff_getElem.1 h i j h1 h2 hlt
    rw [e1, e2, irr] at this
    cases this
  · exact he
  · have := List.pairwise_iff_getElem.1 h j i h2 h1 hgt
    rw [e1, e2, irr] at this
    cases this
/-- The indices J tell the relations of S in m. -/
def Idx (m S : Ps) (J : List Int) (k : Nat) : Prop := J.length = k ∧ ∀ (i : Nat), i < k → ∃ (j : Nat) (x : Int × Int), J[i]? = some (j : Int) ∧ S[i]? = some x ∧ m[j]? = some x
theorem Idx.next {m S : Ps} {J : List Int} {k j : Nat} {x : Int × Int} (h : Idx m S J k) (hx : S[k]? = some x) (hj : m[j]? = some x) : Idx m S (J ++ [(j : Int)]) (k + 1) := by
  refine ⟨by rw [List.length_append, h.1]; rfl, fun i hi => ?_⟩
  by_cases e : i = k
  · subst e
    exact ⟨j, x, by rw [List.getElem?_append_right (by rw [h.1]; exact Nat.le_refl _), h.1, Nat.sub_self]; rfl, hx, hj⟩
  · obtain ⟨j', x', h1, h2, h3⟩ := h.2 i (by omega)
    exact ⟨j', x', by rw [List.getElem?_append_left (by rw [h.1]; omega)]; exact h1, h2, h3⟩
theorem Idx.mem {m S : Ps} {J : List Int} (hu : RelM.Up m) (h : Idx m S J S.length) {k : Nat} {x : Int × Int} (hx : m[k]? = some x) : (k : Int) ∈ J ↔ x ∈ S := by
  constructor
  · intro hk
    obtain ⟨i, hi, e⟩ := List.getElem_of_mem hk
    obtain ⟨j, y, h1, h2, h3⟩ := h.2 i (by rw [← h.1]; exact hi)
    rw [List.getElem?_eq_getElem hi, e] at h1
    injection h1 with h1
    obtain rfl : k = j := by omega
    rw [hx] at h3
    injection h3 with h3
    rw [h3]
    exact List.mem_of_getElem? h2
  · intro hs
    obtain ⟨i, hi, e⟩ := List.getElem_of_mem hs
    obtain ⟨j, y, h1, h2, h3⟩ := h.2 i hi
    rw [List.getElem?_eq_getElem hi, e] at h2
    injection h2 with h2
    subst h2
    obtain rfl := up_inj hu hx h3
    exact List.mem_of_getElem? h1
theorem lft_next (S : Ps) {m : Ps} {k : Nat} {x : Int × Int} (hx : m[k]? = some x) : lft S (m.take (k + 1)) = lft S (m.take k) ++ (if inS S x = true then [] else [x]) := by
  unfold lft
  rw [List.take_add_one, hx, List.filter_append]
  congr 1
  cases h : inS S x <;> simp [h]
theorem lft_len (S m : Ps) : (lft S m).length ≤ m.length := List.length_filter_le _ _
end Go.Proofs.Ytcbfnhghhbgdkaa.RvM
