/- The first conflict, in plain words. -/
import Derived.Test.YtmjhgjlnpnkmkaaLpM
import Derived.Test.YtmjhgjlnpnkmkaaIvM
namespace Go.Proofs.Ytmjhgjlnpnkmkaa.FcM
open Go.RowKit Pairs Find2 GoodM Chain Da EvM IvM LpM
def fr (O : List (Int × Int)) (i : Nat) : Int := (O[i]?.map (·.1)).getD 0
def tt (O : List (Int × Int)) (i : Nat) : Int := (O[i]?.map (·.2)).getD 0
theorem fr_at {O : List (Int × Int)} {i : Nat} {x y : Int} (h : O[i]? = some (x, y)) : fr O i = x := by unfold fr; rw [h]; rfl
theorem tt_at {O : List (Int × Int)} {i : Nat} {x y : Int} (h : O[i]? = some (x, y)) : tt O i = y := by unfold tt; rw [h]; rfl
/-- A pair of contexts in conflict. -/
def cf (O : List (Int × Int)) (x : Nat × Nat) : Bool := decide (tt O x.1 < fr O x.2)
noncomputable def fc (l m : List (Int × Int)) (L : List Dt) : Option (Nat × Nat) := (prs l m).find? (cf (own l L))
abbrev R4 := Int × Int × Bool × Bool
def ans (l : List (Int × Int)) : Option (Nat × Nat) → R4
  | some x => (num l x.1, num l x.2, true, true)
  | none => (0, 0, false, true)
noncomputable def fcP (l m : List (Int × Int)) (L : List Dt) : R4 := if evP l m L = true then ans l (fc l m L) else (0, 0, false, false)
theorem fcP_no {l m : List (Int × Int)} {L : List Dt} (h : evP l m L = false) : fcP l m L = (0, 0, false, false) := by unfold fcP; rw [if_neg (by rw [h]; simp)]
theorem fcP_yes {l m : List (Int × Int)} {L : List Dt} (h : evP l m L = true) : fcP l m L = ans l (fc l m L) := by unfold fcP; rw [if_pos h]
theorem fc_hit {O : List (Int × Int)} {S pre : List (Nat × Nat)} {x : Nat × Nat} (h1 : pre ++ [x] <+: S) (h2 : pre.find? (cf O) = none) (h3 : cf O x = true) : S.find? (cf O) = some x := by
  obtain ⟨t, rfl⟩ := h1
  rw [List.find?_append, List.find?_append, h2]
  simp [h3]
theorem fc_next {O : List (Int × Int)} {pre : List (Nat × Nat)} {x : Nat × Nat} (h2 : pre.find? (cf O) = none) (h3 : cf O x = false) : (pre ++ [x]).find? (cf O) = none := by
  rw [List.find?_append, h2]
  simp [h3]
theorem ev_parts {l m : List (Int × Int)} {L : List Dt} (h : evP l m L = true) : good l m = true ∧ evi l L = true := by
  unfold evP at h
  simp only [Bool.and_eq_true] at h
  exact ⟨h.1.1, h.2⟩
end Go.Proofs.Ytmjhgjlnpnkmkaa.FcM
