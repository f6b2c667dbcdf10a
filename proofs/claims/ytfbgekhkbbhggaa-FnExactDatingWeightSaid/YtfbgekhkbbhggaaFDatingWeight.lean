/- The frame of the law FnExactDatingWeight: from a walk of the law to what the row says. -/
import Derived.Test.YtfbgekhkbbhggaaDr
namespace Go.Proofs.Ytfbgekhkbbhggaa.FDatingWeight
open Go.ChangeShapes Go.WideShapes Go.ChangeAt Go.RowKit
open Pairs Rec RecOpen LawKit
set_option linter.unusedVariables false

theorem field_int {H : Type} {enc : TypeId × Value → H} {w : World} {base : Nat} {spare : Nat → Bool} {held : Bool} {t : TypeId} {fuel : Nat} {v : Value} {x : DataW H × List MemPlace} (t0 : Try.prog.underlying t = some (.int .i64)) (h : DataW.trod enc Try.prog w base spare held fuel t [v] = some x) : ∃ y : Int, v = .int .i64 y := by
  obtain ⟨p, hp, _⟩ := DataW.trod_int t0 h
  simp only [List.cons.injEq, and_true] at hp
  exact ⟨p, hp⟩
theorem wf_rg {n : Int} (h : (Lit.int .i64 n).wf = true) : -9223372036854775808 ≤ n ∧ n ≤ 9223372036854775807 := by
  unfold Lit.wf at h
  rw [Bool.and_eq_true, decide_eq_true_iff, decide_eq_true_iff] at h
  exact h
set_option maxRecDepth 100000 in
theorem lifted (hw : ∀ (a1 a2 a3 : Option Addr) (n1 c1 n2 c2 n3 c3 : Nat) (l1 l2 : List (Int × Int)) (Z : List Zh.Pt) (r1 : Option Addr) (m1 b1 : Nat) (M1 : List Int) (w : World), n1 ≤ 9223372036854775807 → n2 ≤ 9223372036854775807 → n3 ≤ 9223372036854775807 → Holds w a1 n1 l1 → Holds w a2 n2 l2 → Zh.HoldsZ w a3 n3 Z → Zh.Sm Z 9223372036854775807 → m1 ≤ 9223372036854775807 → GivesI.HoldsI w r1 m1 M1 → Calls Try.prog 4 #[.agg #[.slice a1 n1 c1, .slice a2 n2 c2, .slice a3 n3 c3], .slice r1 m1 b1] w fun e w' => e = .returned (.bool true) ∧ Below w.heap.size w w') (os : Os) (started : os.Started) (H : Type) (enc : TypeId × Value → H) :
    ReturnsInHanded {} Try.checked os 4 .any (Rows.fnExactDatingWeightSpec.pre6 enc Try.prog Try.f4 Rows.fnExactDatingWeightRow.domain false) (Rows.fnExactDatingWeightSpec.post enc Try.prog Try.f4 false true false false) := by
  refine returnsInHanded_of_change (C := Try.checked) own started (by kernel_rfl) Try.func4
    (ChangeSpec.witness6 (enc := enc) (C := Try.checked) false ⟨#[], #[.agg #[.slice none 0 0, .slice none 0 0, .slice none 0 0], .slice none 0 0], []⟩ 8 (by kernel_rfl) (by kernel_rfl) (by kernel_rfl) (by kernel_rfl)) ?_
  intro W base args ds gs before hval0 hW hcnd _
  have hval : ∀ (j : Nat) t v, Try.f4.params[j]? = some t → args[j]? = some v → Value.okWide Try.prog W .any base t v := hval0
  have hW' := hW
  obtain ⟨p, q, hA0, hV, rfl, hfz, hnd⟩ := hW
  have hA : DataW.TrodAll enc Try.prog W 0 (fun _ => true) true Try.f4.params.toList args.toList ds p := hA0
  rw [Try.params4] at hA hval
  obtain ⟨v0, vs0, d0, ds0, p0, q0, hargs, rfl, rfl, h0, r0⟩ := trodAll_cons hA
  obtain ⟨v1, vs1, d1, ds1, p1, q1, rfl, rfl, rfl, h1, r1⟩ := trodAll_cons r0
  obtain ⟨rfl, rfl, rfl⟩ := trodAll_nil r1
  obtain rfl : args = #[v0, v1] := by cases args; simp_all
  obtain ⟨rfl, rfl⟩ := trodVars_none hV
  have k0 := h0
  have lt0 : ∀ x ∈ p0, x.block < W.heap.size := by obtain ⟨m, hm⟩ := k0; exact DataW.trod_lt m _ _ _ hm
  obtain ⟨u0, u1, u2, y0, y1, y2, m0, m1, m2, rfl, hu0, hu1, hu2⟩ := Dr.open_dr Try.underlying28 (by kernel_rfl) Try.underlying25 rfl rfl (by kernel_rfl) (by kernel_rfl) rfl rfl (by kernel_rfl) (by kernel_rfl) (hval 0 28 v0 rfl rfl) h0
  obtain ⟨a1, n1, c1, l1, rfl, z1, H1⟩ := open_pairs Try.underlying22 Try.underlying135 (by kernel_rfl) rfl rfl (by kernel_rfl) (by kernel_rfl) Try.underlying3 Try.underlying3 hu0
  obtain ⟨a2, n2, c2, l2, rfl, z2, H2⟩ := open_pairs Try.underlying23 Try.underlying137 (by kernel_rfl) rfl rfl (by kernel_rfl) (by kernel_rfl) Try.underlying3 Try.underlying3 hu1
  obtain ⟨a3, n3, c3, Z, rfl, z3, H3, H4⟩ := Zh.open_dists Try.underlying26 Try.underlying66 (by kernel_rfl) rfl rfl (by kernel_rfl) (by kernel_rfl) Try.underlying3 Try.underlying41 Try.underlying3 (by kernel_rfl) hu2
  have k1 := h1
  have lt1 : ∀ x ∈ p1, x.block < W.heap.size := by obtain ⟨m, hm⟩ := k1; exact DataW.trod_lt m _ _ _ hm
  obtain ⟨ra1, rn1, rc1, rfl⟩ := okWide_slice Try.underlying41 (hval 1 41 v1 rfl rfl)
  obtain ⟨q1, q2, q3, RM1, hqs, zz1, HH1⟩ : ∃ (a : Option Addr) (n c : Nat) (L : List Int), Value.slice ra1 rn1 rc1 = .slice a n c ∧ n ≤ 9223372036854775807 ∧ GivesI.HoldsI W a n L := by
    obtain ⟨fuel, hf⟩ := h1
    exact Da.open_intS Try.underlying41 Try.underlying3 (by kernel_rfl) hf
  injection hqs with hp1 hp2 hp3
  subst hp1 hp2 hp3
  clear hA0 hval0
  refine (hw a1 a2 a3 n1 c1 n2 c2 n3 c3 l1 l2 Z ra1 rn1 rc1 RM1 W z1 z2 z3 H1 H2 H3 H4 zz1 HH1).mono fun e W' ⟨he, bel⟩ => ?_
  subst he
  exact ⟨_, rfl, _, _, _, [], _, [], hW', trodAll_mk1 (shut_bool Try.underlying4 _), (trodAll_cons_mk (Below.trod LawKit.laidOut (by kernel_rfl) (of_decide_eq_true (by kernel_rfl)) k0 bel lt0) (trodAll_cons_mk (Below.trod LawKit.laidOut (by kernel_rfl) (of_decide_eq_true (by kernel_rfl)) k1 bel lt1) trodAll_mk0)), rfl, bel.frame _, fun h => by cases h⟩

theorem over (hw : ∀ (a1 a2 a3 : Option Addr) (n1 c1 n2 c2 n3 c3 : Nat) (l1 l2 : List (Int × Int)) (Z : List Zh.Pt) (r1 : Option Addr) (m1 b1 : Nat) (M1 : List Int) (w : World), n1 ≤ 9223372036854775807 → n2 ≤ 9223372036854775807 → n3 ≤ 9223372036854775807 → Holds w a1 n1 l1 → Holds w a2 n2 l2 → Zh.HoldsZ w a3 n3 Z → Zh.Sm Z 9223372036854775807 → m1 ≤ 9223372036854775807 → GivesI.HoldsI w r1 m1 M1 → Calls Try.prog 4 #[.agg #[.slice a1 n1 c1, .slice a2 n2 c2, .slice a3 n3 c3], .slice r1 m1 b1] w fun e w' => e = .returned (.bool true) ∧ Below w.heap.size w w') : Rows.fnExactDatingWeightRow.holds Try.pinned (OpenSpec.ofChange Rows.fnExactDatingWeightSpec) :=
  OpenClaim.holds_of_wide 4 Try.f4 rfl rfl rfl rfl rfl rfl rfl ⟨rfl, rfl, rfl, rfl, rfl⟩ rfl rfl rfl rfl rfl (by kernel_rfl) Try.func4 (by kernel_rfl)
    (of_decide_eq_true (by kernel_rfl)) (by unfold Func.isWrapper; first | (rw [if_pos (by decide +kernel)]; kernel_rfl) | (rw [if_neg (by decide +kernel)]; exact ⟨rfl, rfl⟩))
    (fun os started H enc _ => lifted hw os started H enc)
end Go.Proofs.Ytfbgekhkbbhggaa.FDatingWeight
