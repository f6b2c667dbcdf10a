/- The frame of the law FnExactWigglePlacement: from a walk of the law to what the row says. -/
import Derived.Test.YtlpcgchekhoieaaCu
namespace Go.Proofs.Ytlpcgchekhoieaa.FWigglePlacement
open Go.ChangeShapes Go.WideShapes Go.ChangeAt Go.RowKit
open Pairs Rec RecOpen LawKit
set_option linter.unusedVariables false

theorem field_int {H : Type} {enc : TypeId × Value → H} {w : World} {base : Nat} {spare : Nat → Bool} {held : Bool} {t : TypeId} {fuel : Nat} {v : Value} {x : DataW H × List MemPlace} (t0 : Try.prog.underlying t = some (.int .i64)) (h : DataW.trod enc Try.prog w base spare held fuel t [v] = some x) : ∃ y : Int, v = .int .i64 y := by
  obtain ⟨p, hp, _⟩ := DataW.trod_int t0 h
  simp only [List.cons.injEq, and_true] at hp
  exact ⟨p, hp⟩
set_option maxRecDepth 100000 in
theorem lifted (hw : ∀ (r0 : Option Addr) (m0 b0 : Nat) (M0 : List Cu.Dt) (r1 : Option Addr) (m1 b1 : Nat) (M1 : List (Int × Int)) (r2 : Option Addr) (m2 b2 : Nat) (M2 : List Int) (w : World), m0 ≤ 9223372036854775807 → Cu.HoldsD w r0 m0 M0 → m1 ≤ 9223372036854775807 → Holds w r1 m1 M1 → m2 ≤ 9223372036854775807 → GivesI.HoldsI w r2 m2 M2 → Calls Try.prog 11 #[.slice r0 m0 b0, .slice r1 m1 b1, .slice r2 m2 b2] w fun e w' => e = .returned (.bool true) ∧ Below w.heap.size w w') (os : Os) (started : os.Started) (H : Type) (enc : TypeId × Value → H) :
    ReturnsInHanded {} Try.checked os 11 .any (Rows.fnExactWigglePlacementSpec.pre6 enc Try.prog Try.f11 Rows.fnExactWigglePlacementRow.domain false) (Rows.fnExactWigglePlacementSpec.post enc Try.prog Try.f11 false true false false) := by
  refine returnsInHanded_of_change (C := Try.checked) own started (by kernel_rfl) Try.func11
    (ChangeSpec.witness6 (enc := enc) (C := Try.checked) false ⟨#[], #[.slice none 0 0, .slice none 0 0, .slice none 0 0], []⟩ 8 (by kernel_rfl) (by kernel_rfl) (by kernel_rfl) (by kernel_rfl)) ?_
  intro W base args ds gs before hval0 hW hcnd _
  have hval : ∀ (j : Nat) t v, Try.f11.params[j]? = some t → args[j]? = some v → Value.okWide Try.prog W .any base t v := hval0
  have hW' := hW
  obtain ⟨p, q, hA0, hV, rfl, hfz, hnd⟩ := hW
  have hA : DataW.TrodAll enc Try.prog W 0 (fun _ => true) true Try.f11.params.toList args.toList ds p := hA0
  rw [Try.params11] at hA hval
  obtain ⟨v0, vs0, d0, ds0, p0, q0, hargs, rfl, rfl, h0, r0⟩ := trodAll_cons hA
  obtain ⟨v1, vs1, d1, ds1, p1, q1, rfl, rfl, rfl, h1, r1⟩ := trodAll_cons r0
  obtain ⟨v2, vs2, d2, ds2, p2, q2, rfl, rfl, rfl, h2, r2⟩ := trodAll_cons r1
  obtain ⟨rfl, rfl, rfl⟩ := trodAll_nil r2
  obtain rfl : args = #[v0, v1, v2] := by cases args; simp_all
  obtain ⟨rfl, rfl⟩ := trodVars_none hV
  have k0 := h0
  have lt0 : ∀ x ∈ p0, x.block < W.heap.size := by obtain ⟨m, hm⟩ := k0; exact DataW.trod_lt m _ _ _ hm
  obtain ⟨ra0, rn0, rc0, rfl⟩ := okWide_slice Try.underlying22 (hval 0 22 v0 rfl rfl)
  obtain ⟨q1, q2, q3, RM0, hqs, zz0, HH0⟩ : ∃ (a : Option Addr) (n c : Nat) (L : List Cu.Dt), Value.slice ra0 rn0 rc0 = .slice a n c ∧ n ≤ 9223372036854775807 ∧ Cu.HoldsD W a n L := by
    obtain ⟨fuel, hf⟩ := h0
    exact Cu.open_pointS Try.underlying22 Try.underlying77 rfl rfl rfl (by kernel_rfl) (by kernel_rfl) (by kernel_rfl) (by kernel_rfl) Try.underlying3 Try.underlying3 Try.underlying3 hf
  injection hqs with hp1 hp2 hp3
  subst hp1 hp2 hp3
  have k1 := h1
  have lt1 : ∀ x ∈ p1, x.block < W.heap.size := by obtain ⟨m, hm⟩ := k1; exact DataW.trod_lt m _ _ _ hm
  obtain ⟨ra1, rn1, rc1, rfl⟩ := okWide_slice Try.underlying50 (hval 1 50 v1 rfl rfl)
  obtain ⟨q1, q2, q3, RM1, hqs, zz1, HH1⟩ : ∃ (a : Option Addr) (n c : Nat) (L : List (Int × Int)), Value.slice ra1 rn1 rc1 = .slice a n c ∧ n ≤ 9223372036854775807 ∧ Holds W a n L := by
    obtain ⟨fuel, hf⟩ := h1
    exact CuP.open_pairS Try.underlying50 Try.underlying40 rfl rfl (by kernel_rfl) (by kernel_rfl) (by kernel_rfl) Try.underlying3 Try.underlying3 hf
  injection hqs with hp1 hp2 hp3
  subst hp1 hp2 hp3
  have k2 := h2
  have lt2 : ∀ x ∈ p2, x.block < W.heap.size := by obtain ⟨m, hm⟩ := k2; exact DataW.trod_lt m _ _ _ hm
  obtain ⟨ra2, rn2, rc2, rfl⟩ := okWide_slice Try.underlying32 (hval 2 32 v2 rfl rfl)
  obtain ⟨q1, q2, q3, RM2, hqs, zz2, HH2⟩ : ∃ (a : Option Addr) (n c : Nat) (L : List Int), Value.slice ra2 rn2 rc2 = .slice a n c ∧ n ≤ 9223372036854775807 ∧ GivesI.HoldsI W a n L := by
    obtain ⟨fuel, hf⟩ := h2
    exact Da.open_intS Try.underlying32 Try.underlying3 (by kernel_rfl) hf
  injection hqs with hp1 hp2 hp3
  subst hp1 hp2 hp3
  clear hA0 hval0
  refine (hw ra0 rn0 rc0 RM0 ra1 rn1 rc1 RM1 ra2 rn2 rc2 RM2 W zz0 HH0 zz1 HH1 zz2 HH2).mono fun e W' ⟨he, bel⟩ => ?_
  subst he
  exact ⟨_, rfl, _, _, _, [], _, [], hW', trodAll_mk1 (shut_bool Try.underlying4 _), (trodAll_cons_mk (Below.trod LawKit.laidOut (by kernel_rfl) (of_decide_eq_true (by kernel_rfl)) k0 bel lt0) (trodAll_cons_mk (Below.trod LawKit.laidOut (by kernel_rfl) (of_decide_eq_true (by kernel_rfl)) k1 bel lt1) (trodAll_cons_mk (Below.trod LawKit.laidOut (by kernel_rfl) (of_decide_eq_true (by kernel_rfl)) k2 bel lt2) trodAll_mk0))), rfl, bel.frame _, fun h => by cases h⟩

theorem over (hw : ∀ (r0 : Option Addr) (m0 b0 : Nat) (M0 : List Cu.Dt) (r1 : Option Addr) (m1 b1 : Nat) (M1 : List (Int × Int)) (r2 : Option Addr) (m2 b2 : Nat) (M2 : List Int) (w : World), m0 ≤ 9223372036854775807 → Cu.HoldsD w r0 m0 M0 → m1 ≤ 9223372036854775807 → Holds w r1 m1 M1 → m2 ≤ 9223372036854775807 → GivesI.HoldsI w r2 m2 M2 → Calls Try.prog 11 #[.slice r0 m0 b0, .slice r1 m1 b1, .slice r2 m2 b2] w fun e w' => e = .returned (.bool true) ∧ Below w.heap.size w w') : Rows.fnExactWigglePlacementRow.holds Try.pinned (OpenSpec.ofChange Rows.fnExactWigglePlacementSpec) :=
  OpenClaim.holds_of_wide 11 Try.f11 rfl rfl rfl rfl rfl rfl rfl ⟨rfl, rfl, rfl, rfl, rfl⟩ rfl rfl rfl rfl rfl (by kernel_rfl) Try.func11 (by kernel_rfl)
    (of_decide_eq_true (by kernel_rfl)) (by unfold Func.isWrapper; first | (rw [if_pos (by decide +kernel)]; kernel_rfl) | (rw [if_neg (by decide +kernel)]; exact ⟨rfl, rfl⟩))
    (fun os started H enc _ => lifted hw os started H enc)
end Go.Proofs.Ytlpcgchekhoieaa.FWigglePlacement
