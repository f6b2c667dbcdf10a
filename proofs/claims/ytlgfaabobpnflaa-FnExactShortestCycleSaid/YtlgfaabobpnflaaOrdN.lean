/- The model's search for the next context, with bits: mathematics. -/
import Derived.Test.YtlgfaabobpnflaaOrdM
namespace Go.Proofs.Ytlgfaabobpnflaa.OrdN
open Pairs Rec Chain Find2 GoodM OrdM
noncomputable def dn (l : Ps) (d : Nat) (x : Int) : Bool := match isAt l x with | some i => d.testBit i | none => false
theorem dn_at {l : Ps} {d : Nat} {x : Int} {i : Nat} (h : isAt l x = some i) : dn l d x = d.testBit i := by unfold dn; rw [h]
theorem dn_zero (l : Ps) : dn l 0 = fun _ => false := by
  funext x
  unfold dn
  split <;> simp
theorem dn_set {l m : Ps} {d : Nat} {x y : Int} {i : Nat} (hg : good l m = true) (hx : l[i]? = some (x, y)) : dn l (d ||| 2 ^ i) = fun z => dn l d z || z == x := by
  have hxi := Consist.num_at hg hx
  funext z
  unfold dn
  cases hz : isAt l z with
  | none =>
    have : z ≠ x := fun e => by rw [e, hxi] at hz; cases hz
    simp [this]
  | some j =>
    simp only
    rw [Nat.testBit_or, Nat.testBit_two_pow]
    by_cases e : i = j
    · subst e
      have : z = x := isAt_inj hz hxi
      simp [this]
    · have : z ≠ x := fun e2 => by rw [e2, hxi] at hz; exact e (Option.some.inj hz)
      simp [e, this]
theorem keys_at {l : Ps} {i : Nat} {x y : Int} (hx : l[i]? = some (x, y)) : (keys l)[i]? = some x := by unfold keys; rw [List.getElem?_map, hx]; rfl
theorem keys_len (l : Ps) : (keys l).length = l.length := by unfold keys; simp
theorem find_at {q : Int → Bool} {K : List Int} {k : Nat} {x : Int} (hp : ∀ j y, j < k → K[j]? = some y → q y = false) (hx : K[k]? = some x) (hq : q x = true) : K.find? q = some x := by
  rw [List.find?_eq_some_iff_append]
  obtain ⟨hk, e⟩ := List.getElem?_eq_some_iff.1 hx
  refine ⟨hq, K.take k, K.drop (k + 1), by rw [← e, List.getElem_cons_drop, List.take_append_drop], fun a ha => ?_⟩
  obtain ⟨j, hj, rfl⟩ := List.getElem_of_mem ha
  have hj' : j < k := by have := hj; rw [List.length_take] at this; omega
  rw [List.getElem_take, hp j _ hj' (List.getElem?_eq_getElem _)]
  rfl
theorem find_no {q : Int → Bool} {K : List Int} (hp : ∀ j y, j < K.length → K[j]? = some y → q y = false) : K.find? q = none := by
  rw [List.find?_eq_none]
  intro x hx
  obtain ⟨j, hj, rfl⟩ := List.getElem_of_mem hx
  rw [hp j _ hj (List.getElem?_eq_getElem hj)]
  simp
def rdk (rel : Int → Int → Bool) (K : List Int) (D : Int → Bool) (n : Int) (k : Nat) : Bool := !D n && (K.take k).all (fun x => !rel x n || D x)
theorem rdk_next {rel : Int → Int → Bool} {K : List Int} {D : Int → Bool} {n z : Int} {k : Nat} (hz : K[k]? = some z) : rdk rel K D n (k + 1) = (rdk rel K D n k && (!rel z n || D z)) := by
  unfold rdk
  rw [List.take_add_one, hz, Option.toList_some, List.all_append]
  simp only [List.all_cons, List.all_nil, Bool.and_true, Bool.and_assoc]
theorem rdk_zero (rel : Int → Int → Bool) (K : List Int) (D : Int → Bool) (n : Int) : rdk rel K D n 0 = !D n := by unfold rdk; simp
theorem rdk_end (rel : Int → Int → Bool) (K : List Int) (D : Int → Bool) (n : Int) : rdk rel K D n K.length = rdy rel K D n := by unfold rdk rdy; rw [List.take_length]
def numsO (l : Ps) (O : List Nat) : List Int := O.map (fun i => (keys l)[i]?.getD 0)
theorem nums_snoc {l : Ps} {O : List Nat} {i : Nat} {x y : Int} (hx : l[i]? = some (x, y)) : numsO l (O ++ [i]) = numsO l O ++ [x] := by
  unfold numsO
  rw [List.map_append]
  simp [keys_at hx]
theorem nums_at {l : Ps} {O : List Nat} {k i : Nat} {x y : Int} (hi : O[k]? = some i) (hx : l[i]? = some (x, y)) : numsO l (O.take (k + 1)) = numsO l (O.take k) ++ [x] := by
  rw [List.take_add_one, hi, Option.toList_some, nums_snoc hx]
end Go.Proofs.Ytlgfaabobpnflaa.OrdN
