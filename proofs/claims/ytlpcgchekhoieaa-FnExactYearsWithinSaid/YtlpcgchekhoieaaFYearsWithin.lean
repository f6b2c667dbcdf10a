/- The frame of the law FnExactYearsWithin: from a walk of the law to what the row says. -/
import Derived.Test.YtlpcgchekhoieaaCu
namespace Go.Proofs.Ytlpcgchekhoieaa.FYearsWithin
open Go.ChangeShapes Go.WideShapes Go.ChangeAt Go.RowKit
open Pairs Rec RecOpen LawKit
set_option linter.unusedVariables false

theorem field_int {H : Type} {enc : TypeId × Value → H} {w : World} {base : Nat} {spare : Nat → Bool} {held : Bool} {t : TypeId} {fuel : Nat} {v : Value} {x : DataW H × List MemPlace} (t0 : Try.prog.underlying t = some (.int .i64)) (h : DataW.trod enc Try.prog w base spare held fuel t [v] = some x) : ∃ y : Int, v = .int .i64 y := by
  obtain ⟨p, hp, _⟩ := DataW.trod_int t0 h
  simp only [List.cons.injEq, and_true] at hp
  exact ⟨p, hp⟩
set_option maxRecDepth 100000 in
theorem lifted (hw : ∀ (r0 : Option Addr) (m0 b0 : Nat) (M0 : List Cu.Dt) (y1 : Int) (y2 : Int) (w : World), m0 ≤ 9223372036854775807 → Cu.HoldsD w r0 m0 M0 → Calls Try.prog 5 #[.slice r0 m0 b0, .int .i64 y1, .int .i64 y2] w fun e w' => e = .returned (.bool true) ∧ Below w.heap.size w w') (os : Os) (started : os.Started) (H : Type) (enc : TypeId × Value → H) :
    ReturnsInHanded {} Try.checked os 5 .any (Rows.fnExactYearsWithinSpec.pre6 enc Try.prog Try.f5 Rows.fnExactYearsWithinRow.domain false) (Rows.fnExactYearsWithinSpec.post enc Try.prog Try.f5 false true false false) := by
  refine returnsInHanded_of_change (C := Try.checked) own started (by kernel_rfl) Try.func5
    (ChangeSpec.witness6 (enc := enc) (C := Try.checked) false ⟨#[], #[.slice none 0 0, .int .i64 0, .int .i64 0], []⟩ 8 (by kernel_rfl) (by kernel_rfl) (by kernel_rfl) (by kernel_rfl)) ?_
  intro W base args ds gs before hval0 hW hcnd _
  have hval : ∀ (j : Nat) t v, Try.f5.params[j]? = some t → args[j]? = some v → Value.okWide Try.prog W .any base t v := hval0
  have hW' := hW
  obtain ⟨p, q, hA0, hV, rfl, hfz, hnd⟩ := hW
  have hA : DataW.TrodAll enc Try.prog W 0 (fun _ => true) true Try.f5.params.toList args.toList ds p := hA0
  rw [Try.params5] at hA hval
  obtain ⟨v0, vs0, d0, ds0, p0, q0, hargs, rfl, rfl, h0, r0⟩ := trodAll_cons hA
  obtain ⟨v1, vs1, d1, ds1, p1, q1, rfl, rfl, rfl, h1, r1⟩ := trodAll_cons r0
  obtain ⟨v2, vs2, d2, ds2, p2, q2, rfl, rfl, rfl, h2, r2⟩ := trodAll_cons r1
  obtain ⟨rfl, rfl, rfl⟩ := trodAll_nil r2
  obtain rfl : args = #[v0, v1, v2] := by cases args; simp_all
  obtain ⟨rfl, rfl⟩ := trodVars_none hV
  have k0 := h0
  have lt0 : ∀ x ∈ p0, x.block < W.heap.size := by obtain ⟨m, hm⟩ := k0; exact DataW.trod_lt m _ _ _ hm
  obtain ⟨ra0, rn0, rc0, rfl⟩ := okWide_slice Try.underlying22 (hval 0 22 v0 rfl rfl)
  obtain ⟨q1, q2, q3, RM0, hqs, zz0, HH0⟩ : ∃ (a : Option Addr) (n c : Nat) (L : List Cu.Dt), Value.slice ra0 rn0 rc0 = .slice a n c ∧ n ≤ 9223372036854775807 ∧ Cu.HoldsD W a n L := by
    obtain ⟨fuel, hf⟩ := h0
    exact Cu.open_pointS Try.underlying22 Try.underlying77 rfl rfl rfl (by kernel_rfl) (by kernel_rfl) (by kernel_rfl) (by kernel_rfl) Try.underlying3 Try.underlying3 Try.underlying3 hf
  injection hqs with hp1 hp2 hp3
  subst hp1 hp2 hp3
  obtain ⟨y1, rfl, rfl, rfl, wz1⟩ := open_int Try.underlying3 (hval 1 3 v1 rfl rfl) h1
  obtain ⟨y2, rfl, rfl, rfl, wz2⟩ := open_int Try.underlying3 (hval 2 3 v2 rfl rfl) h2
  clear hA0 hval0
  refine (hw ra0 rn0 rc0 RM0 y1 y2 W zz0 HH0).mono fun e W' ⟨he, bel⟩ => ?_
  subst he
  exact ⟨_, rfl, _, _, _, [], _, [], hW', trodAll_mk1 (shut_bool Try.underlying4 _), (trodAll_cons_mk (Below.trod LawKit.laidOut (by kernel_rfl) (of_decide_eq_true (by kernel_rfl)) k0 bel lt0) (trodAll_cons_mk (shut_int Try.underlying3 wz1) (trodAll_cons_mk (shut_int Try.underlying3 wz2) trodAll_mk0))), rfl, bel.frame _, fun h => by cases h⟩

theorem over (hw : ∀ (r0 : Option Addr) (m0 b0 : Nat) (M0 : List Cu.Dt) (y1 : Int) (y2 : Int) (w : World), m0 ≤ 9223372036854775807 → Cu.HoldsD w r0 m0 M0 → Calls Try.prog 5 #[.slice r0 m0 b0, .int .i64 y1, .int .i64 y2] w fun e w' => e = .returned (.bool true) ∧ Below w.heap.size w w') : Rows.fnExactYearsWithinRow.holds Try.pinned (OpenSpec.ofChange Rows.fnExactYearsWithinSpec) :=
  OpenClaim.holds_of_wide 5 Try.f5 rfl rfl rfl rfl rfl rfl rfl ⟨rfl, rfl, rfl, rfl, rfl⟩ rfl rfl rfl rfl rfl (by kernel_rfl) Try.func5 (by kernel_rfl)
    (of_decide_eq_true (by kernel_rfl)) (by unfold Func.isWrapper; first | (rw [if_pos (by decide +kernel)]; kernel_rfl) | (rw [if_neg (by decide +kernel)]; exact ⟨rfl, rfl⟩))
    (fun os started H enc _ => lifted hw os started H enc)
end Go.Proofs.Ytlpcgchekhoieaa.FYearsWithin
