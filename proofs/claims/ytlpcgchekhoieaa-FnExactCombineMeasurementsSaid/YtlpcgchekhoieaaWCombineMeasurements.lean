/- The walk of the law FnExactCombineMeasurements, from contracts of the program's and of the model's CombineMeasurements. -/
import Derived.Test.YtlpcgchekhoieaaCuG
namespace Go.Proofs.Ytlpcgchekhoieaa.WCombineMeasurements
open Go.ChangeShapes Go.WideShapes Go.ChangeAt Go.RowKit
open Pairs Rec RecOpen
set_option linter.unusedVariables false
set_option maxRecDepth 100000 in
set_option maxHeartbeats 16000000 in
theorem walk (F : List (Int × Int) → Int × Int × Bool) (hI : ∀ (p0 : Option Addr) (n0 : Nat) (M0 : List (Int × Int)) (w : World), n0 ≤ 1048576 → Holds w p0 n0 M0 → Calls Try.prog 36 #[.slice p0 n0 n0] w (fun e w' => e = .returned (.tuple #[.agg #[.int .i64 (F M0).1, .int .i64 (F M0).2.1], .bool (F M0).2.2]) ∧ Below w.heap.size w w')) (hM : ∀ (p0 : Option Addr) (n0 : Nat) (M0 : List (Int × Int)) (w : World), n0 ≤ 1048576 → Holds w p0 n0 M0 → Calls Try.prog 34 #[.slice p0 n0 n0] w (fun e w' => e = .returned (.tuple #[.agg #[.int .i64 (F M0).1, .int .i64 (F M0).2.1], .bool (F M0).2.2]) ∧ Below w.heap.size w w')) (p0 : Option Addr) (n0 c0 : Nat) (M0 : List (Int × Int)) (w : World) (z0 : n0 ≤ 9223372036854775807) (H0 : Holds w p0 n0 M0) :
    Calls Try.prog 7 #[.slice p0 n0 c0] w fun e w' => e = .returned (.bool true) ∧ Below w.heap.size w w' := by
  have H00 := Lib.hid H0
  have hI1 := fun (q0 : Option Addr) (w : World) h0a h0b => hI q0 n0 M0 w h0a h0b
  have hM1 := fun (q0 : Option Addr) (w : World) h0a h0b => hM q0 n0 M0 w h0a h0b
  clear hI hM
  generalize F M0 = FF at hI1 hM1
  obtain ⟨r1, r2, r3⟩ := FF
  have HI := Lib.hid hI1
  have HM := Lib.hid hM1
  clear hI1 hM1
  have K0 := Lib.hid H0
  clear H0
  have HB := Lib.hid (Below.refl w.heap.size w)
  go_enter Try.func7, Try.ntmps7
  go_wp2_with fail
  refine (Me.szMeasurementS_any p0 n0 c0 (1048576) (by omega) (by omega) z0 _).mono ?_
  rintro e ww ⟨rfl, hww⟩
  subst hww
  by_cases hbig0 : (1048576 : Int) < (n0 : Int)
  · rw [if_pos hbig0]
    go_wp2_with fail
    go_ret
    exact ⟨rfl, HB.out⟩
  rw [if_neg hbig0]
  have hs0 : n0 ≤ 1048576 := by omega
  have hnn0 : ¬ (1048576 : Int) - n0 < 0 := by omega
  go_wp2_with fail
  refine (Me.toMeasurementS_any p0 n0 c0 M0 hs0 _ K0.out).mono ?_
  rintro e wcm0 ⟨gm0, rfl, o, b⟩
  replace K0 := Lib.hid (K0.out.below b)
  replace HB := Lib.hid (HB.out.trans (b.mono HB.out.size))
  clear b
  have Gm0 := Lib.hid (Keep.holds_own o)
  clear o
  go_wp2_with fail
  refine (HM.out _ _ hs0 Gm0.out).mono ?_
  rintro e w3 ⟨rfl, b⟩
  replace K0 := Lib.hid (K0.out.below b)
  replace Gm0 := Lib.hid (Gm0.out.below b)
  replace HB := Lib.hid (HB.out.trans (b.mono HB.out.size))
  clear b
  clear Gm0
  have b := below_alloc w3 (.cells #[.int .i64 r1, .int .i64 r2] 45)
  have x1 := box_first w3 (.int .i64 r1) (.int .i64 r2) 45
  have x2 := box_second w3 (.int .i64 r1) (.int .i64 r2) 45
  have xl : w3.heap.size < (w3.alloc (.cells #[.int .i64 r1, .int .i64 r2] 45)).heap.size := by simp
  replace K0 := Lib.hid (K0.out.below b)
  replace HB := Lib.hid (HB.out.trans (b.mono HB.out.size))
  clear b
  go_wp2_with fail
  generalize w3.alloc (.cells #[.int .i64 r1, .int .i64 r2] 45) = W3 at *
  have hzw := Lib.hid HB.out.size
  go_wp2_with fail
  refine (Me.toMeasurementS_any p0 n0 c0 M0 hs0 _ K0.out).mono ?_
  rintro e wcx0 ⟨gx0, rfl, o, b⟩
  replace x1 := (b.cell (p := ⟨w3.heap.size, 0, none⟩) xl).trans x1
  replace x2 := (b.cell (p := ⟨w3.heap.size, 1, none⟩) xl).trans x2
  replace xl := Nat.lt_of_lt_of_le xl b.size
  replace K0 := Lib.hid (K0.out.below b)
  replace HB := Lib.hid (HB.out.trans (b.mono HB.out.size))
  clear b
  have Gx0 := Lib.hid (Keep.holds_own o)
  clear o
  go_wp2_with fail
  refine (HI.out _ _ hs0 Gx0.out).mono ?_
  rintro e w7 ⟨rfl, b⟩
  replace x1 := (b.cell (p := ⟨w3.heap.size, 0, none⟩) xl).trans x1
  replace x2 := (b.cell (p := ⟨w3.heap.size, 1, none⟩) xl).trans x2
  replace xl := Nat.lt_of_lt_of_le xl b.size
  replace K0 := Lib.hid (K0.out.below b)
  replace Gx0 := Lib.hid (Gx0.out.below b)
  replace HB := Lib.hid (HB.out.trans (b.mono HB.out.size))
  clear b
  have b := below_alloc w7 (.cells #[.int .i64 r1, .int .i64 r2] 45)
  have u1 := box_first w7 (.int .i64 r1) (.int .i64 r2) 45
  have u2 := box_second w7 (.int .i64 r1) (.int .i64 r2) 45
  have ul : w7.heap.size < (w7.alloc (.cells #[.int .i64 r1, .int .i64 r2] 45)).heap.size := by simp
  replace x1 := (b.cell (p := ⟨w3.heap.size, 0, none⟩) xl).trans x1
  replace x2 := (b.cell (p := ⟨w3.heap.size, 1, none⟩) xl).trans x2
  replace xl := Nat.lt_of_lt_of_le xl b.size
  replace K0 := Lib.hid (K0.out.below b)
  replace Gx0 := Lib.hid (Gx0.out.below b)
  replace HB := Lib.hid (HB.out.trans (b.mono HB.out.size))
  clear b
  go_wp2_with fail
  generalize w7.alloc (.cells #[.int .i64 r1, .int .i64 r2] 45) = W7 at *
  refine (Me.eqMeasurement_same r1 r2 _).mono ?_
  rintro e w8 ⟨rfl, b⟩
  replace x1 := (b.cell (p := ⟨w3.heap.size, 0, none⟩) xl).trans x1
  replace x2 := (b.cell (p := ⟨w3.heap.size, 1, none⟩) xl).trans x2
  replace xl := Nat.lt_of_lt_of_le xl b.size
  replace u1 := (b.cell (p := ⟨w7.heap.size, 0, none⟩) ul).trans u1
  replace u2 := (b.cell (p := ⟨w7.heap.size, 1, none⟩) ul).trans u2
  replace ul := Nat.lt_of_lt_of_le ul b.size
  replace K0 := Lib.hid (K0.out.below b)
  replace Gx0 := Lib.hid (Gx0.out.below b)
  replace HB := Lib.hid (HB.out.trans (b.mono HB.out.size))
  clear b
  go_wp2_with fail
  refine (Me.toMeasurementS_any p0 n0 c0 M0 hs0 _ K0.out).mono ?_
  rintro e wd0 ⟨gd0, rfl, o, b⟩
  replace x1 := (b.cell (p := ⟨w3.heap.size, 0, none⟩) xl).trans x1
  replace x2 := (b.cell (p := ⟨w3.heap.size, 1, none⟩) xl).trans x2
  replace xl := Nat.lt_of_lt_of_le xl b.size
  replace u1 := (b.cell (p := ⟨w7.heap.size, 0, none⟩) ul).trans u1
  replace u2 := (b.cell (p := ⟨w7.heap.size, 1, none⟩) ul).trans u2
  replace ul := Nat.lt_of_lt_of_le ul b.size
  replace K0 := Lib.hid (K0.out.below b)
  replace Gx0 := Lib.hid (Gx0.out.below b)
  replace HB := Lib.hid (HB.out.trans (b.mono HB.out.size))
  clear b
  have Gd := Lib.hid (Keep.holds_own o)
  clear o
  go_wp2_with fail
  refine (Me.eqMeasurementS_same (some ⟨gx0, 0, none⟩) (some ⟨gd0, 0, none⟩) n0 n0 n0 M0 hs0 _ Gx0.out Gd.out).mono ?_
  rintro e we0 ⟨rfl, b⟩
  clear Gd
  replace x1 := (b.cell (p := ⟨w3.heap.size, 0, none⟩) xl).trans x1
  replace x2 := (b.cell (p := ⟨w3.heap.size, 1, none⟩) xl).trans x2
  replace xl := Nat.lt_of_lt_of_le xl b.size
  replace u1 := (b.cell (p := ⟨w7.heap.size, 0, none⟩) ul).trans u1
  replace u2 := (b.cell (p := ⟨w7.heap.size, 1, none⟩) ul).trans u2
  replace ul := Nat.lt_of_lt_of_le ul b.size
  replace K0 := Lib.hid (K0.out.below b)
  replace Gx0 := Lib.hid (Gx0.out.below b)
  replace HB := Lib.hid (HB.out.trans (b.mono HB.out.size))
  clear b
  go_wp2_with fail
  go_ret
  exact ⟨rfl, HB.out⟩
end Go.Proofs.Ytlpcgchekhoieaa.WCombineMeasurements
