/- Links of the matrix: mathematics. -/
import Derived.Test.YtlgfaabobpnflaaDepS
import Derived.Test.YtlgfaabobpnflaaRedM
namespace Go.Proofs.Ytlgfaabobpnflaa.LinkM
open Pairs Rec Chain Find2 GoodM OrdM DepM RedM DepS
noncomputable def link (l m : Ps) (p : Int × Int) : Bool := depth l m p.2 == depth l m p.1 + 1
noncomputable def linkP (l m : Ps) : Option Ps := if good l m = true then (if (l.any fun p => later m p.1 p.1) = true then none else some (m.filter (link l m))) else none
theorem link_bad {l m : Ps} (h : good l m = false) : linkP l m = none := by unfold linkP; rw [if_neg (by rw [h]; simp)]
theorem link_cyc {l m : Ps} (h : good l m = true) (h2 : (l.any fun p => later m p.1 p.1) = true) : linkP l m = none := by unfold linkP; rw [if_pos h, if_pos h2]
theorem link_yes {l m : Ps} (h : good l m = true) (h2 : (l.any fun p => later m p.1 p.1) = false) : linkP l m = some (m.filter (link l m)) := by unfold linkP; rw [if_pos h, if_neg (by rw [h2]; simp)]
theorem up_edge {l m : Ps} (hg : good l m = true) (hc : (l.any fun p => later m p.1 p.1) = false) {u x : Int} (h : (u, x) ∈ m) : depth l m u + 1 ≤ depth l m x :=
  (depth_dep hg hc).up u x h ((order_topo hg hc).all u (ends_key hg h).1 rfl)
theorem up_later {l m : Ps} (hg : good l m = true) (hc : (l.any fun p => later m p.1 p.1) = false) {u x : Int} (h : Chain.Reach m u x) : depth l m u + 1 ≤ depth l m x := by
  induction h with
  | one e => exact up_edge hg hc e
  | more _ e ih => have := up_edge hg hc e; omega
/-- A relation from a row to the next one is never redundant. -/
theorem link_red {l m : Ps} (hg : good l m = true) (hc : (l.any fun p => later m p.1 p.1) = false) {p : Int × Int} (h : link l m p = true) : red m p = false := by
  cases hr : red m p with
  | false => rfl
  | true =>
    exfalso
    unfold red at hr
    obtain ⟨y, hy, h2⟩ := List.any_eq_true.1 hr
    simp only [Bool.and_eq_true, beq_iff_eq] at h2
    have e1 := up_edge hg hc (u := y.1) (x := y.2) hy
    have e2 := up_later hg hc (later_iff.1 h2.2)
    unfold link at h
    rw [beq_iff_eq] at h
    rw [h2.1] at e1
    omega
end Go.Proofs.Ytlgfaabobpnflaa.LinkM
