/- FnExactWouldContradict: at every argument WouldContradict answers as its model does, and leaves its arguments as they were. No condition. -/
import Derived.Test.YthcjembekadijaaOrderSaidPartbc
import Derived.Test.YthcjembekadijaaOrderSaidPartah
import Derived.Test.YthcjembekadijaaOrderSaidPartaa
import Derived.WalkKit
import Derived.ProofKit
import Derived.OpenShut
import Derived.ShutString
import Derived.ChangeOld
import Derived.Below
namespace Go.Proofs.Ythcjembekadijaa.WcI
open Go.RowKit Pairs Rec RecEq Chain Find2 GoodM Lows Order Bit Table Idx IsLater
def okW (l m : List (Int × Int)) (a b : Int) : Bool := has2 l m a b && !(a == b)
noncomputable def wcP (a b : Int) (l m : List (Int × Int)) : Bool × Bool := if okW l m a b = true then (later m b a, true) else (false, false)
theorem wc_no {l m : List (Int × Int)} {a b : Int} (h : okW l m a b = false) : wcP a b l m = (false, false) := by unfold wcP; rw [if_neg (by rw [h]; simp)]
theorem wc_yes {l m : List (Int × Int)} {a b : Int} (h1 : has2 l m a b = true) (h2 : a ≠ b) : wcP a b l m = (later m b a, true) := by unfold wcP okW; rw [if_pos (by rw [h1]; simpa using h2)]
theorem ok_no1 {l m : List (Int × Int)} {a b : Int} (h : has2 l m a b = false) : okW l m a b = false := by unfold okW; rw [h]; rfl
theorem ok_no2 {l m : List (Int × Int)} {a : Int} : okW l m a a = false := by unfold okW; simp
set_option maxRecDepth 100000 in
set_option maxHeartbeats 4000000 in
theorem impl_any (a b : Int) (a1 a2 : Option Addr) (n1 c1 n2 c2 : Nat) (l m : List (Int × Int)) (w : World) (hz1 : n1 ≤ 1048576) (hz2 : n2 ≤ 1048576) (h1 : Holds w a1 n1 l) (h2 : Holds w a2 n2 m) :
    Calls Try.prog 20 #[.agg #[.slice a1 n1 c1, .slice a2 n2 c2], .agg #[.int .i64 a, .int .i64 b]] w fun e w' => e = .returned (.tuple #[.bool (wcP a b l m).1, .bool (wcP a b l m).2]) ∧ Below w.heap.size w w' := by
  obtain ⟨hs, f1, f2, f3, f4, hb⟩ := boxes2 w (.slice a1 n1 c1) (.slice a2 n2 c2) (.int .i64 a) (.int .i64 b) 27 39
  have H1 := Lib.hid (h1.below hb)
  have H2 := Lib.hid (h2.below hb)
  have HSZ := Lib.hid hs
  clear h1 h2 hs
  go_enter Try.func20, Try.ntmps20
  go_wp2_with fail
  generalize (w.alloc (.cells #[.slice a1 n1 c1, .slice a2 n2 c2] 27)).alloc (.cells #[.int .i64 a, .int .i64 b] 39) = W at *
  have hlt : w.heap.size < W.heap.size := by rw [HSZ.out]; omega
  have hlt1 : w.heap.size + 1 < W.heap.size := by rw [HSZ.out]; omega
  have HF : Hid (∀ X, Below W.heap.size W X → X.cell? ⟨w.heap.size, 0, none⟩ = some (.slice a1 n1 c1) ∧ X.cell? ⟨w.heap.size, 1, none⟩ = some (.slice a2 n2 c2) ∧ X.cell? ⟨w.heap.size + 1, 0, none⟩ = some (.int .i64 a) ∧ X.cell? ⟨w.heap.size + 1, 1, none⟩ = some (.int .i64 b)) := fun X hX => ⟨(hX.cell (p := ⟨w.heap.size, 0, none⟩) hlt).trans f1, (hX.cell (p := ⟨w.heap.size, 1, none⟩) hlt).trans f2, (hX.cell (p := ⟨w.heap.size + 1, 0, none⟩) hlt1).trans f3, (hX.cell (p := ⟨w.heap.size + 1, 1, none⟩) hlt1).trans f4⟩
  refine (hasContexts_any a b a1 a2 n1 c1 n2 c2 l m W hz1 hz2 H1.out H2.out).mono ?_
  rintro e w1 ⟨rfl, b1⟩
  have B1 := Lib.hid b1
  obtain ⟨k1, k2, k3, k4⟩ := HF.out w1 b1
  have hb1 := hb.trans (b1.mono hb.size)
  clear f1 f2 f3 f4 b1
  cases hh : has2 l m a b with
  | false =>
    have HE := Lib.hid (wc_no (ok_no1 hh))
    clear hh
    go_wp2_with fail
    go_ret2
    exact ⟨by rw [HE.out]; rfl, hb1⟩
  | true =>
    by_cases hab : a = b
    · subst hab
      have HE := Lib.hid (wc_no (ok_no2 (l := l) (m := m) (a := a)))
      clear hh
      go_wp2_with fail
      go_ret2
      exact ⟨by rw [HE.out]; rfl, hb1⟩
    · have HE := Lib.hid (wc_yes hh hab)
      have habb : (a == b) = false := by rw [beq_eq_false_iff_ne]; exact hab
      obtain ⟨hg, ⟨i, hi⟩, j, hj⟩ := has2_iff.1 hh
      have hra := rng_at hg hi
      have hrb := rng_at hg hj
      have HG := Lib.hid hg
      have HJ := Lib.hid (at_keys hj)
      clear hh hg hi hj
      go_wp2_with fail
      refine (orderOf_any a1 a2 n1 c1 n2 c2 l m w1 HG.out (H1.out.below B1.out) (H2.out.below B1.out)).mono ?_
      rintro e w2 ⟨bx, rfl, ho, b2⟩
      have HO := Lib.hid ho
      have hb2 := hb1.trans (b2.mono hb1.size)
      obtain ⟨k1, k2, k3, k4⟩ := HF.out w2 (B1.out.trans (b2.mono B1.out.size))
      clear ho b2
      go_wp2_with fail
      refine (isLater_any bx l m b a w2 HO.out HJ.out (by omega) (by omega)).mono ?_
      rintro e w3 ⟨rfl, rfl⟩
      go_wp2_with fail
      go_ret2
      exact ⟨by rw [HE.out]; rfl, hb2⟩
end Go.Proofs.Ythcjembekadijaa.WcI
/- The frame of FnSuspects: from a walk to the statement. -/
namespace Go.Proofs.Ythcjembekadijaa.FFnSuspects
open Go.ChangeShapes Go.WideShapes Go.ChangeAt Go.RowKit
set_option linter.unusedVariables false
theorem own : ownKnob Try.prog.godebug = none := by kernel_rfl
theorem laidOut : laidOutB Try.prog = true := by kernel_rfl
/-! ### THE ROW's STEP: WRITTEN OUT: LEAVE IT -/
set_option maxRecDepth 100000 in
theorem lifted (walk : ∀ (a : Option Addr) (len cap : Nat) (zs : List Int) (w : World), LawC.IsRow .u8 w a len cap zs → Calls Try.prog 4 #[.slice a len cap] w fun e w' => e = .returned (.bool true) ∧ Below w.heap.size w w') (os : Os) (started : os.Started) (H : Type) (enc : TypeId × Value → H) :
    ReturnsInHanded {} Try.checked os 4 .any (Rows.fnSuspectsSpec.pre6 enc Try.prog Try.f4 Rows.fnSuspectsRow.domain false) (Rows.fnSuspectsSpec.post enc Try.prog Try.f4 false true false false) := by
  refine returnsInHanded_of_change (C := Try.checked) own started (by kernel_rfl) Try.func4
    (ChangeSpec.witness6 (enc := enc) (C := Try.checked) false ⟨#[], #[.slice none 0 0], []⟩ 8 (by kernel_rfl) (by kernel_rfl) (by kernel_rfl) (by kernel_rfl)) ?_
  intro W base args ds gs before hval0 hW hcnd _
  have hval : ∀ (j : Nat) t v, Try.f4.params[j]? = some t → args[j]? = some v → Value.okWide Try.prog W .any base t v := hval0
  have hW' := hW
  obtain ⟨p, q, hA0, hV, rfl, hfz, hnd⟩ := hW
  have hA : DataW.TrodAll enc Try.prog W 0 (fun _ => true) true Try.f4.params.toList args.toList ds p := hA0
  rw [Try.params4] at hA hval
  obtain ⟨v0, vs0, d0, ds0, p0, q0, hargs, rfl, rfl, h0, r0⟩ := trodAll_cons hA
  obtain ⟨rfl, rfl, rfl⟩ := trodAll_nil r0
  obtain rfl : args = #[v0] := by cases args; simp_all
  obtain ⟨rfl, rfl⟩ := trodVars_none hV
  obtain ⟨a0, len0, cap0, rfl⟩ := okWide_slice Try.underlying22 (hval 0 22 v0 rfl rfl)
  have k0 := h0
  have lt0 : ∀ x ∈ p0, x.block < W.heap.size := by obtain ⟨m, hm⟩ := k0; exact DataW.trod_lt m _ _ _ hm
  obtain ⟨z0, w0⟩ : ∃ zs, LawC.IsRow .u8 W a0 len0 cap0 zs := by
    obtain ⟨fuel, hf⟩ := h0
    rcases open_ints Try.underlying22 Try.underlying5 (by kernel_rfl) hf with ⟨hcs, _⟩ | ⟨x, l, c, zs, hcs, _, hl, hm, hz, _, hcell, hwz⟩
    · simp [Value.cells] at hcs
      obtain ⟨rfl, rfl, rfl⟩ := hcs
      exact ⟨[], .inl ⟨rfl, rfl, rfl, rfl⟩⟩
    · simp [Value.cells] at hcs
      obtain ⟨rfl, rfl, rfl⟩ := hcs
      exact ⟨zs, .inr ⟨_, rfl, hl, hm, by simpa using hz, hcell, hwz⟩⟩
  clear hA0 hval0
  refine (walk a0 len0 cap0 z0 W w0).mono fun e W' ⟨he, bel⟩ => ?_
  subst he
  exact ⟨_, rfl, _, _, _, [], _, [], hW', trodAll_mk1 (shut_bool Try.underlying4 _), (trodAll_cons_mk (Below.trod laidOut (by kernel_rfl) (of_decide_eq_true (by kernel_rfl)) k0 bel lt0) trodAll_mk0), rfl, bel.frame _, fun h => by cases h⟩

theorem over (walk : ∀ (a : Option Addr) (len cap : Nat) (zs : List Int) (w : World), LawC.IsRow .u8 w a len cap zs → Calls Try.prog 4 #[.slice a len cap] w fun e w' => e = .returned (.bool true) ∧ Below w.heap.size w w') : Rows.fnSuspectsRow.holds Try.pinned (OpenSpec.ofChange Rows.fnSuspectsSpec) :=
  OpenClaim.holds_of_wide 4 Try.f4 rfl rfl rfl rfl rfl rfl rfl ⟨rfl, rfl, rfl, rfl, rfl⟩ rfl rfl rfl rfl rfl (by kernel_rfl) Try.func4 (by kernel_rfl)
    (of_decide_eq_true (by kernel_rfl)) (by unfold Func.isWrapper; first | (rw [if_pos (by decide +kernel)]; kernel_rfl) | (rw [if_neg (by decide +kernel)]; exact ⟨rfl, rfl⟩))
    (fun os started H enc _ => lifted walk os started H enc)
end Go.Proofs.Ythcjembekadijaa.FFnSuspects
