/- A reduced record, and a closed one: mathematics. -/
import Derived.Test.YtlgfaabobpnflaaRedM
import Derived.Test.YtlgfaabobpnflaaGivesN0
namespace Go.Proofs.Ytlgfaabobpnflaa.RedcM
open Pairs Rec Chain Find2 GoodM OrdM RedM Gives
noncomputable def kept (m : Ps) (p : Int × Int) : Bool := !red m p
noncomputable def redcP : RR := fun l m => if good l m = true then (if (l.any fun p => later m p.1 p.1) = true then none else some (l, m.filter (kept m))) else none
theorem redc_bad {l m : Ps} (h : good l m = false) : redcP l m = none := by unfold redcP; rw [if_neg (by rw [h]; simp)]
theorem redc_cyc {l m : Ps} (h : good l m = true) (h2 : (l.any fun p => later m p.1 p.1) = true) : redcP l m = none := by unfold redcP; rw [if_pos h, if_pos h2]
theorem redc_yes {l m : Ps} (h : good l m = true) (h2 : (l.any fun p => later m p.1 p.1) = false) : redcP l m = some (l, m.filter (kept m)) := by unfold redcP; rw [if_pos h, if_neg (by rw [h2]; simp)]
/-- The pairs of contexts of which the first one is later than the second one. -/
noncomputable def clo (l m : Ps) (p : Int × Int) : List (Int × Int) := (l.filter (fun q => later m p.1 q.1)).map (fun q => (p.1, q.1))
noncomputable def clos (l m : Ps) : List (Int × Int) := l.flatMap (clo l m)
noncomputable def closP : RR := fun l m => if good l m = true then (if (l.any fun p => later m p.1 p.1) = true then none else if good l (clos l m) = true then some (l, clos l m) else none) else none
theorem clos_bad {l m : Ps} (h : good l m = false) : closP l m = none := by unfold closP; rw [if_neg (by rw [h]; simp)]
theorem clos_cyc {l m : Ps} (h : good l m = true) (h2 : (l.any fun p => later m p.1 p.1) = true) : closP l m = none := by unfold closP; rw [if_pos h, if_pos h2]
theorem clos_big {l m : Ps} (h : good l m = true) (h2 : (l.any fun p => later m p.1 p.1) = false) (h3 : good l (clos l m) = false) : closP l m = none := by unfold closP; rw [if_pos h, if_neg (by rw [h2]; simp), if_neg (by rw [h3]; simp)]
theorem clos_yes {l m : Ps} (h : good l m = true) (h2 : (l.any fun p => later m p.1 p.1) = false) (h3 : good l (clos l m) = true) : closP l m = some (l, clos l m) := by unfold closP; rw [if_pos h, if_neg (by rw [h2]; simp), if_pos h3]
theorem clo_next {l m : Ps} {p q : Int × Int} {k : Nat} (hq : l[k]? = some q) : clo (l.take (k + 1)) m p = clo (l.take k) m p ++ (if later m p.1 q.1 = true then [(p.1, q.1)] else []) := by
  unfold clo
  rw [List.take_add_one, hq, Option.toList_some, List.filter_append, List.map_append]
  cases h : later m p.1 q.1 <;> simp [h]
theorem clo_len (l m : Ps) (p : Int × Int) (k : Nat) : (clo (l.take k) m p).length ≤ k := by
  unfold clo
  rw [List.length_map]
  exact Nat.le_trans (List.length_filter_le _ _) (by rw [List.length_take]; omega)
theorem clos_next {l m : Ps} {p : Int × Int} {k : Nat} (hp : l[k]? = some p) : (l.take (k + 1)).flatMap (clo l m) = (l.take k).flatMap (clo l m) ++ clo l m p := by
  rw [List.take_add_one, hp, Option.toList_some, List.flatMap_append, List.flatMap_singleton]
theorem clos_len (l m : Ps) : ∀ (k : Nat), ((l.take k).flatMap (clo l m)).length ≤ k * l.length
  | 0 => by simp
  | k + 1 => by
    have ih := clos_len l m k
    cases h : l[k]? with
    | none =>
      rw [List.take_add_one, h, Option.toList_none, List.append_nil, Nat.add_mul]
      omega
    | some p =>
      rw [clos_next h, List.length_append, Nat.add_mul]
      have h2 := clo_len l m p l.length
      rw [List.take_length] at h2
      omega
end Go.Proofs.Ytlgfaabobpnflaa.RedcM
