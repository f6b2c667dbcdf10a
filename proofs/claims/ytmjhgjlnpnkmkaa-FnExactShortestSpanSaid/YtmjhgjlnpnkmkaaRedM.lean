/- Redundant relations: mathematics. -/
import Derived.Test.YtmjhgjlnpnkmkaaOrdM
namespace Go.Proofs.Ytmjhgjlnpnkmkaa.RedM
open Pairs Rec Chain Find2 GoodM OrdM
noncomputable def red (m : Ps) (p : Int × Int) : Bool := m.any (fun y => y.1 == p.1 && later m y.2 p.2)
noncomputable def redP (l m : Ps) : Option Ps := if good l m = true then (if (l.any fun p => later m p.1 p.1) = true then none else some (m.filter (red m))) else none
theorem red_bad {l m : Ps} (h : good l m = false) : redP l m = none := by unfold redP; rw [if_neg (by rw [h]; simp)]
theorem red_cyc {l m : Ps} (h : good l m = true) (h2 : (l.any fun p => later m p.1 p.1) = true) : redP l m = none := by unfold redP; rw [if_pos h, if_pos h2]
theorem red_yes {l m : Ps} (h : good l m = true) (h2 : (l.any fun p => later m p.1 p.1) = false) : redP l m = some (m.filter (red m)) := by unfold redP; rw [if_pos h, if_neg (by rw [h2]; simp)]
theorem ends_key {l m : Ps} (hg : good l m = true) {x y : Int} (h : (x, y) ∈ m) : x ∈ keys l ∧ y ∈ keys l := by
  obtain ⟨⟨i, hi⟩, ⟨j, hj⟩⟩ := Table.good_ends hg x y h
  exact ⟨isAt_keys.1 (by rw [hi]; rfl), isAt_keys.1 (by rw [hj]; rfl)⟩
/-- Without cycles, no chain from a context leads back to it, so that the model's further test is idle. -/
theorem red_alt {l m : Ps} (hg : good l m = true) (hc : (l.any fun p => later m p.1 p.1) = false) (p : Int × Int) : red m p = m.any (fun y => y.1 == p.1 && !(y.2 == p.2) && later m y.2 p.2) := by
  unfold red
  have e : ∀ y ∈ m, (y.1 == p.1 && later m y.2 p.2) = (y.1 == p.1 && !(y.2 == p.2) && later m y.2 p.2) := fun y hy => by
    cases hl : later m y.2 p.2 with
    | false => simp
    | true =>
      have hne : y.2 ≠ p.2 := fun e => by
        have := irrefl hc y.2 (ends_key hg (x := y.1) (y := y.2) hy).2
        rw [e] at this hl
        rw [this] at hl
        cases hl
      simp [hne]
  rw [Bool.eq_iff_iff, List.any_eq_true, List.any_eq_true]
  exact ⟨fun ⟨y, hy, h⟩ => ⟨y, hy, (e y hy) ▸ h⟩, fun ⟨y, hy, h⟩ => ⟨y, hy, (e y hy).symm ▸ h⟩⟩
end Go.Proofs.Ytmjhgjlnpnkmkaa.RedM
