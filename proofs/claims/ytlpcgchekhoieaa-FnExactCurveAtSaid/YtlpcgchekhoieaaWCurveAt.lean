/- The walk of the law FnExactCurveAt, from contracts of the program's and of the model's CurveAt. -/
import Derived.Test.YtlpcgchekhoieaaCuG
namespace Go.Proofs.Ytlpcgchekhoieaa.WCurveAt
open Go.ChangeShapes Go.WideShapes Go.ChangeAt Go.RowKit
open Pairs Rec RecOpen
set_option linter.unusedVariables false
set_option maxRecDepth 100000 in
set_option maxHeartbeats 16000000 in
theorem walk (F : List Cu.Dt → Int → Int × Int × Bool) (hI : ∀ (p0 : Option Addr) (n0 : Nat) (M0 : List Cu.Dt) (y1 : Int) (w : World), n0 ≤ 1048576 → Cu.HoldsD w p0 n0 M0 → Calls Try.prog 20 #[.slice p0 n0 n0, .int .i64 y1] w (fun e w' => e = .returned (.tuple #[.int .i64 ((F M0 y1).1), .int .i64 ((F M0 y1).2.1), .bool ((F M0 y1).2.2)]) ∧ Below w.heap.size w w')) (hM : ∀ (p0 : Option Addr) (n0 : Nat) (M0 : List Cu.Dt) (y1 : Int) (w : World), n0 ≤ 1048576 → Cu.HoldsD w p0 n0 M0 → Calls Try.prog 19 #[.slice p0 n0 n0, .int .i64 y1] w (fun e w' => e = .returned (.tuple #[.int .i64 ((F M0 y1).1), .int .i64 ((F M0 y1).2.1), .bool ((F M0 y1).2.2)]) ∧ Below w.heap.size w w')) (p0 : Option Addr) (n0 c0 : Nat) (M0 : List Cu.Dt) (y1 : Int) (w : World) (z0 : n0 ≤ 9223372036854775807) (H0 : Cu.HoldsD w p0 n0 M0) :
    Calls Try.prog 4 #[.slice p0 n0 c0, .int .i64 y1] w fun e w' => e = .returned (.bool true) ∧ Below w.heap.size w w' := by
  have H00 := Lib.hid H0
  have hI1 := fun (q0 : Option Addr) (w : World) h0a h0b => hI q0 n0 M0 y1 w h0a h0b
  have hM1 := fun (q0 : Option Addr) (w : World) h0a h0b => hM q0 n0 M0 y1 w h0a h0b
  clear hI hM
  generalize F M0 y1 = FF at hI1 hM1
  obtain ⟨r1, r2, r3⟩ := FF
  have HI := Lib.hid hI1
  have HM := Lib.hid hM1
  clear hI1 hM1
  have K0 := Lib.hid H0
  clear H0
  have HB := Lib.hid (Below.refl w.heap.size w)
  go_enter Try.func4, Try.ntmps4
  go_wp2_with fail
  refine (CuT.szCurvePointS_any p0 n0 c0 (1048576) (by omega) (by omega) z0 _).mono ?_
  rintro e ww ⟨rfl, hww⟩
  subst hww
  by_cases hbig0 : (1048576 : Int) < (n0 : Int)
  · rw [if_pos hbig0]
    go_wp2_with fail
    go_ret
    exact ⟨rfl, HB.out⟩
  rw [if_neg hbig0]
  have hs0 : n0 ≤ 1048576 := by omega
  have hnn0 : ¬ (1048576 : Int) - n0 < 0 := by omega
  go_wp2_with fail
  refine (CuT.toCurvePointS_any p0 n0 c0 M0 hs0 _ K0.out).mono ?_
  rintro e wcm0 ⟨gm0, rfl, o, b⟩
  replace K0 := Lib.hid (K0.out.below b)
  replace HB := Lib.hid (HB.out.trans (b.mono HB.out.size))
  clear b
  have Gm0 := Lib.hid (Cu.holds_ownD o)
  clear o
  go_wp2_with fail
  refine (HM.out _ _ hs0 Gm0.out).mono ?_
  rintro e w3 ⟨rfl, b⟩
  replace K0 := Lib.hid (K0.out.below b)
  replace Gm0 := Lib.hid (Gm0.out.below b)
  replace HB := Lib.hid (HB.out.trans (b.mono HB.out.size))
  clear b
  clear Gm0
  have hzw := Lib.hid HB.out.size
  go_wp2_with fail
  refine (CuT.toCurvePointS_any p0 n0 c0 M0 hs0 _ K0.out).mono ?_
  rintro e wcx0 ⟨gx0, rfl, o, b⟩
  replace K0 := Lib.hid (K0.out.below b)
  replace HB := Lib.hid (HB.out.trans (b.mono HB.out.size))
  clear b
  have Gx0 := Lib.hid (Cu.holds_ownD o)
  clear o
  go_wp2_with fail
  refine (HI.out _ _ hs0 Gx0.out).mono ?_
  rintro e w7 ⟨rfl, b⟩
  replace K0 := Lib.hid (K0.out.below b)
  replace Gx0 := Lib.hid (Gx0.out.below b)
  replace HB := Lib.hid (HB.out.trans (b.mono HB.out.size))
  clear b
  go_wp2_with fail
  refine (CuT.toCurvePointS_any p0 n0 c0 M0 hs0 _ K0.out).mono ?_
  rintro e wd0 ⟨gd0, rfl, o, b⟩
  replace K0 := Lib.hid (K0.out.below b)
  replace Gx0 := Lib.hid (Gx0.out.below b)
  replace HB := Lib.hid (HB.out.trans (b.mono HB.out.size))
  clear b
  have Gd := Lib.hid (Cu.holds_ownD o)
  clear o
  go_wp2_with fail
  refine (CuT.eqCurvePointS_same (some ⟨gx0, 0, none⟩) (some ⟨gd0, 0, none⟩) n0 n0 n0 M0 hs0 _ Gx0.out Gd.out).mono ?_
  rintro e we0 ⟨rfl, b⟩
  clear Gd
  replace K0 := Lib.hid (K0.out.below b)
  replace Gx0 := Lib.hid (Gx0.out.below b)
  replace HB := Lib.hid (HB.out.trans (b.mono HB.out.size))
  clear b
  go_wp2_with fail
  go_ret
  exact ⟨rfl, HB.out⟩
end Go.Proofs.Ytlpcgchekhoieaa.WCurveAt
