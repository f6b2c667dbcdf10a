/- The program's and the model's IsLater. -/
import Derived.Test.YtmjhgjlnpnkmkaaOrder
import Derived.Test.YtmjhgjlnpnkmkaaTable
import Derived.Test.YtmjhgjlnpnkmkaaIdx
namespace Go.Proofs.Ytmjhgjlnpnkmkaa.IsLater
open Go.RowKit Pairs Rec Chain Find2 GoodM Lows Order Bit Table Idx
/-- Is it valid, and are both contexts there? -/
def has2 (l m : List (Int × Int)) (a b : Int) : Bool := good l m && (isAt l a).isSome && (isAt l b).isSome
theorem has2_iff {l m : List (Int × Int)} {a b : Int} : has2 l m a b = true ↔ good l m = true ∧ (∃ i, isAt l a = some i) ∧ ∃ j, isAt l b = some j := by
  unfold has2
  simp [Option.isSome_iff_exists, and_assoc]
theorem has2_no {l m : List (Int × Int)} {a b : Int} (h : ¬ (good l m = true ∧ (∃ i, isAt l a = some i) ∧ ∃ j, isAt l b = some j)) : has2 l m a b = false := by
  cases e : has2 l m a b with
  | false => rfl
  | true => exact absurd (has2_iff.1 e) h
noncomputable def latP (a b : Int) (l m : List (Int × Int)) : Bool × Bool := if has2 l m a b = true then (later m a b, true) else (false, false)
theorem latP_no {l m : List (Int × Int)} {a b : Int} (h : has2 l m a b = false) : latP a b l m = (false, false) := by unfold latP; rw [if_neg (by rw [h]; simp)]
theorem latP_yes {l m : List (Int × Int)} {a b : Int} (h : has2 l m a b = true) : latP a b l m = (later m a b, true) := by unfold latP; rw [if_pos h]
theorem at_keys {l : List (Int × Int)} {a : Int} {i : Nat} (h : isAt l a = some i) : a ∈ keys l := isAt_keys.1 (by rw [h]; rfl)
theorem rng_at {l m : List (Int × Int)} (h : good l m = true) {a : Int} {i : Nat} (hi : isAt l a = some i) : 1 ≤ a ∧ a ≤ 999 := by
  obtain ⟨y, hy⟩ := isAt_num hi
  exact nums h hy
/-- A bit of the table. -/
theorem tbit {l m : List (Int × Int)} {n1 : Nat} {L : List Nat} (hg : good l m = true) (hl : l.length = n1) (T : Tbl n1 L (W (Ed l m) n1)) {a b : Int} {i j x : Nat} (hi : isAt l a = some i) (hj : isAt l b = some j) (hx : L[i]? = some x) : x.testBit j = later m a b := by
  have h1 := T.bit i x j hx (by rw [← hl]; exact isAt_lt hj)
  rw [← hl, w_iff (good_ends hg) hi hj, ← later_iff] at h1
  cases e1 : x.testBit j <;> cases e2 : later m a b <;> simp_all
theorem row_at {L : List Nat} {i : Nat} {z : Int} (h : (intsN L)[i]? = some z) : ∃ x : Nat, L[i]? = some x ∧ z = (x : Int) := by
  unfold intsN at h
  rw [List.getElem?_map, Option.map_eq_some_iff] at h
  obtain ⟨x, hx, rfl⟩ := h
  exact ⟨x, hx, rfl⟩
end Go.Proofs.Ytmjhgjlnpnkmkaa.IsLater
