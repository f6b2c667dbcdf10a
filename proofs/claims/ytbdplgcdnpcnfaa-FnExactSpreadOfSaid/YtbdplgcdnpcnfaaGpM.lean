/- Groupings: names, members, and what a valid grouping of a record is. No program in this text. -/
import Derived.Test.YtbdplgcdnpcnfaaPh
import Derived.Test.YtbdplgcdnpcnfaaChain
namespace Go.Proofs.Ytbdplgcdnpcnfaa.GpM
open Chain Find2 Ph
def lo (c : UInt8) : Bool := decide (97 ≤ c.toNat) && decide (c.toNat ≤ 122)
def di (c : UInt8) : Bool := decide (48 ≤ c.toNat) && decide (c.toNat ≤ 57)
def NmP (s : ByteArray) : Prop := 1 ≤ s.size ∧ s.size ≤ 8 ∧ (∀ h : 0 < s.size, lo s[0] = true) ∧ ∀ j, ∀ h : j < s.size, (lo s[j] || di s[j]) = true
open Classical in
noncomputable def nm (s : ByteArray) : Bool := decide (NmP s)
theorem nm_yes {s : ByteArray} (h : NmP s) : nm s = true := by unfold nm; simp [h]
theorem nm_no {s : ByteArray} (h : ¬ NmP s) : nm s = false := by unfold nm; simp [h]
theorem nm_iff {s : ByteArray} : nm s = true ↔ NmP s := by unfold nm; simp
def Up (M : List Int) : Prop := ∀ i x y, M[i]? = some x → M[i + 1]? = some y → x < y
def MbP (l : Ps) (M : List Int) : Prop := M ≠ [] ∧ Up M ∧ ∀ x ∈ M, x ∈ keys l
open Classical in
noncomputable def mb (l : Ps) (M : List Int) : Bool := decide (MbP l M)
theorem mb_yes {l : Ps} {M : List Int} (h : MbP l M) : mb l M = true := by unfold mb; simp [h]
theorem mb_no {l : Ps} {M : List Int} (h : ¬ MbP l M) : mb l M = false := by unfold mb; simp [h]
theorem mb_iff {l : Ps} {M : List Int} : mb l M = true ↔ MbP l M := by unfold mb; simp
def inM (M : List Int) (z : Int) : Bool := M.contains z
theorem inM_iff {M : List Int} {z : Int} : inM M z = true ↔ z ∈ M := by unfold inM; simp
theorem inM_no {M : List Int} {z : Int} : inM M z = false ↔ z ∉ M := by unfold inM; simp
/-- Two phases that collide: the same name, or a member of both. -/
def col (p q : Pt) : Bool := decide (q.1 = p.1) || p.2.any (fun z => inM q.2 z)
theorem col_no {p q : Pt} : col p q = false ↔ q.1 ≠ p.1 ∧ ∀ z ∈ p.2, z ∉ q.2 := by
  unfold col
  rw [Bool.or_eq_false_iff, List.any_eq_false]
  simp only [decide_eq_false_iff_not, inM_iff]
def OkP (l : Ps) (L : List Pt) (i : Nat) (x : Pt) : Prop := NmP x.1 ∧ MbP l x.2 ∧ (L.take i).any (col x) = false
def GpP (l : Ps) (L : List Pt) : Prop := L.length ≤ 6 ∧ ∀ i x, L[i]? = some x → OkP l L i x
open Classical in
noncomputable def gp (l : Ps) (L : List Pt) : Bool := decide (GpP l L)
theorem gp_yes {l : Ps} {L : List Pt} (h : GpP l L) : gp l L = true := by unfold gp; simp [h]
theorem gp_no {l : Ps} {L : List Pt} (h : ¬ GpP l L) : gp l L = false := by unfold gp; simp [h]
theorem gp_iff {l : Ps} {L : List Pt} : gp l L = true ↔ GpP l L := by unfold gp; simp
theorem gp_big {l : Ps} {L : List Pt} (h : ¬ L.length ≤ 6) : gp l L = false := gp_no fun g => h g.1
theorem gp_bad {l : Ps} {L : List Pt} {i : Nat} {x : Pt} (hx : L[i]? = some x) (h : ¬ OkP l L i x) : gp l L = false := gp_no fun g => h (g.2 i x hx)
/-- The first phase with a member, or -1. -/
def at? (L : List Pt) (z : Int) : Option Nat := L.findIdx? (fun p => inM p.2 z)
def phs (L : List Pt) (z : Int) : Int := match at? L z with | some i => (i : Int) | none => -1
theorem phs_some {L : List Pt} {z : Int} {k : Nat} (h : at? L z = some k) : phs L z = (k : Int) := by unfold phs; rw [h]
theorem phs_none {L : List Pt} {z : Int} (h : at? L z = none) : phs L z = -1 := by unfold phs; rw [h]
theorem at_here {L : List Pt} {z : Int} {k : Nat} {x : Pt} (hp : ∀ j y, j < k → L[j]? = some y → inM y.2 z = false) (hx : L[k]? = some x) (h : inM x.2 z = true) : at? L z = some k := by
  unfold at?
  rw [List.findIdx?_eq_some_iff_getElem]
  obtain ⟨hk, hxe⟩ := List.getElem?_eq_some_iff.1 hx
  refine ⟨hk, by rw [hxe]; exact h, fun j hj => ?_⟩
  rw [hp j _ hj (List.getElem?_eq_getElem (by omega))]
  simp
theorem at_none {L : List Pt} {z : Int} (hp : ∀ j y, j < L.length → L[j]? = some y → inM y.2 z = false) : at? L z = none := by
  unfold at?
  rw [List.findIdx?_eq_none_iff]
  intro x hx
  obtain ⟨j, hj, e⟩ := List.getElem_of_mem hx
  rw [hp j x hj (by rw [List.getElem?_eq_getElem hj, e])]
theorem at_lt {L : List Pt} {z : Int} {k : Nat} (h : at? L z = some k) : ∃ x, L[k]? = some x ∧ z ∈ x.2 := by
  unfold at? at h
  obtain ⟨hk, hq, _⟩ := List.findIdx?_eq_some_iff_getElem.1 h
  exact ⟨L[k], List.getElem?_eq_getElem hk, inM_iff.1 hq⟩
theorem at_prev {L : List Pt} {z : Int} {k j : Nat} {y : Pt} (h : at? L z = some k) (hj : j < k) (hy : L[j]? = some y) : z ∉ y.2 := by
  unfold at? at h
  obtain ⟨hk, _, hp⟩ := List.findIdx?_eq_some_iff_getElem.1 h
  have e := hp j hj
  obtain ⟨hjl, hye⟩ := List.getElem?_eq_some_iff.1 hy
  rw [hye] at e
  exact inM_no.1 (by simpa using e)
theorem at_never {L : List Pt} {z : Int} (h : at? L z = none) {y : Pt} (hy : y ∈ L) : z ∉ y.2 := by
  unfold at? at h
  exact inM_no.1 (List.findIdx?_eq_none_iff.1 h y hy)
theorem phs_rng (L : List Pt) (z : Int) : -1 ≤ phs L z ∧ phs L z < (L.length : Int) := by
  cases h : at? L z with
  | none => rw [phs_none h]; omega
  | some k =>
    rw [phs_some h]
    obtain ⟨x, hx, _⟩ := at_lt h
    have := (List.getElem?_eq_some_iff.1 hx).1
    omega
/-- A member of the i-th phase that is in no phase ahead of it. -/
theorem phs_is {L : List Pt} {i : Nat} {x : Pt} {z : Int} (hx : L[i]? = some x) (hz : z ∈ x.2) : phs L z = (i : Int) ↔ ∀ j y, j < i → L[j]? = some y → z ∉ y.2 := by
  constructor
  · intro h j y hj hy
    cases ha : at? L z with
    | none => rw [phs_none ha] at h; omega
    | some k =>
      rw [phs_some ha] at h
      obtain rfl : k = i := by omega
      exact at_prev ha hj hy
  · intro h
    rw [phs_some (at_here (fun j y hj hy => inM_no.2 (h j y hj hy)) hx (inM_iff.2 hz))]
theorem colT {L : List Pt} {i : Nat} {x : Pt} : (L.take i).any (col x) = false ↔ ∀ j y, j < i → L[j]? = some y → y.1 ≠ x.1 ∧ ∀ z ∈ x.2, z ∉ y.2 := by
  rw [List.any_eq_false]
  constructor
  · intro h j y hj hy
    have e := h y (List.mem_of_getElem? (by rw [List.getElem?_take_of_lt hj]; exact hy))
    exact col_no.1 (by simpa using e)
  · intro h y hy
    obtain ⟨j, hj, e⟩ := List.getElem_of_mem hy
    rw [List.length_take] at hj
    rw [List.getElem_take] at e
    have := col_no.2 (h j y (by omega) (by rw [List.getElem?_eq_getElem (by omega), e]))
    rw [this]
    simp
end Go.Proofs.Ytbdplgcdnpcnfaa.GpM
