/- Contradictory relations and contexts: mathematics. -/
import Derived.Test.YtkaafocadjhlnaaRedM
namespace Go.Proofs.Ytkaafocadjhlnaa.ConM
open Pairs Rec Chain Find2 GoodM OrdM RedM
/-- A relation whose Lower context is later than its Upper one. -/
noncomputable def con (m : Ps) (p : Int × Int) : Bool := later m p.2 p.1
noncomputable def conP (l m : Ps) : Option Ps := if good l m = true then some (m.filter (con m)) else none
theorem con_bad {l m : Ps} (h : good l m = false) : conP l m = none := by unfold conP; rw [if_neg (by rw [h]; simp)]
theorem con_yes {l m : Ps} (h : good l m = true) : conP l m = some (m.filter (con m)) := by unfold conP; rw [if_pos h]
/-- The places of what meets a condition. -/
def plc (q : Int × Int → Bool) (m : Ps) (k : Nat) : List Nat := (List.range k).filter fun i => match m[i]? with | some p => q p | none => false
theorem plc_zero (q : Int × Int → Bool) (m : Ps) : plc q m 0 = [] := rfl
theorem plc_next (q : Int × Int → Bool) {m : Ps} {k : Nat} {p : Int × Int} (h : m[k]? = some p) : plc q m (k + 1) = plc q m k ++ (if q p = true then [k] else []) := by
  unfold plc
  rw [List.range_succ, List.filter_append]
  cases hq : q p <;> simp [h, hq]
theorem plc_len (q : Int × Int → Bool) (m : Ps) (k : Nat) : (plc q m k).length ≤ k := by
  unfold plc
  exact Nat.le_trans (List.length_filter_le _ _) (by simp)
theorem plc_lt {q : Int × Int → Bool} {m : Ps} {k i : Nat} (h : i ∈ plc q m k) : i < k := by
  unfold plc at h
  exact List.mem_range.1 (List.mem_filter.1 h).1
theorem plc_has {q : Int × Int → Bool} {m : Ps} {k i : Nat} (h : i ∈ plc q m k) : ∃ p, m[i]? = some p ∧ q p = true := by
  unfold plc at h
  have := (List.mem_filter.1 h).2
  split at this
  · exact ⟨_, by assumption, this⟩
  · cases this
/-- What stands at some places. -/
def pickAt (m : Ps) (J : List Nat) : Ps := J.filterMap fun i => m[i]?
theorem pickAt_append (m : Ps) (J K : List Nat) : pickAt m (J ++ K) = pickAt m J ++ pickAt m K := by unfold pickAt; rw [List.filterMap_append]
theorem pickAt_one {m : Ps} {i : Nat} {p : Int × Int} (h : m[i]? = some p) : pickAt m [i] = [p] := by unfold pickAt; simp [h]
theorem pickAt_next {m : Ps} {J : List Nat} {k i : Nat} {p : Int × Int} (hj : J[k]? = some i) (h : m[i]? = some p) : pickAt m (J.take (k + 1)) = pickAt m (J.take k) ++ [p] := by
  rw [List.take_add_one, hj, pickAt_append]
  congr 1
  exact pickAt_one h
theorem pickAt_len (m : Ps) (J : List Nat) : (pickAt m J).length ≤ J.length := by unfold pickAt; exact List.length_filterMap_le _ _
theorem pick_plc (q : Int × Int → Bool) (m : Ps) : ∀ k, k ≤ m.length → pickAt m (plc q m k) = (m.take k).filter q
  | 0, _ => by simp [plc_zero, pickAt]
  | k + 1, h => by
    have hk : m[k]? = some (m[k]'(by omega)) := List.getElem?_eq_getElem _
    generalize m[k]'_ = p at hk
    rw [plc_next q hk, pickAt_append, pick_plc q m k (by omega), List.take_add_one, hk, List.filter_append]
    cases hq : q p with
    | true => rw [if_pos rfl, pickAt_one hk]; simp [hq]
    | false => rw [if_neg (by simp)]; simp [hq, pickAt]
theorem pick_all (q : Int × Int → Bool) {m : Ps} {n : Nat} (h : m.length = n) : pickAt m (plc q m n) = m.filter q := by rw [pick_plc q m n (by omega), List.take_of_length_le (by omega)]
end Go.Proofs.Ytkaafocadjhlnaa.ConM
