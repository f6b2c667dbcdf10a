/- The walk of the law FnExactWigglePlacement, from contracts of the program's and of the model's WigglePlacement. -/
import Derived.Test.YtlpcgchekhoieaaCuG
namespace Go.Proofs.Ytlpcgchekhoieaa.WWigglePlacement
open Go.ChangeShapes Go.WideShapes Go.ChangeAt Go.RowKit
open Pairs Rec RecOpen
set_option linter.unusedVariables false
set_option maxRecDepth 100000 in
set_option maxHeartbeats 16000000 in
theorem walk (F : List Cu.Dt → List (Int × Int) → List Int → Option (Int × List Int)) (hI : ∀ (p0 : Option Addr) (n0 : Nat) (M0 : List Cu.Dt) (p1 : Option Addr) (n1 : Nat) (M1 : List (Int × Int)) (p2 : Option Addr) (n2 : Nat) (M2 : List Int) (w : World), n0 ≤ 1048576 → Cu.HoldsD w p0 n0 M0 → n1 ≤ 1048576 → Holds w p1 n1 M1 → n2 ≤ 1048576 → GivesI.HoldsI w p2 n2 M2 → Calls Try.prog 48 #[.slice p0 n0 n0, .slice p1 n1 n1, .slice p2 n2 n2] w (Di.ResZ (F M0 M1 M2).isSome ((F M0 M1 M2).getD (0, [])).1 ((F M0 M1 M2).getD (0, [])).2 w)) (hM : ∀ (p0 : Option Addr) (n0 : Nat) (M0 : List Cu.Dt) (p1 : Option Addr) (n1 : Nat) (M1 : List (Int × Int)) (p2 : Option Addr) (n2 : Nat) (M2 : List Int) (w : World), n0 ≤ 1048576 → Cu.HoldsD w p0 n0 M0 → n1 ≤ 1048576 → Holds w p1 n1 M1 → n2 ≤ 1048576 → GivesI.HoldsI w p2 n2 M2 → Calls Try.prog 46 #[.slice p0 n0 n0, .slice p1 n1 n1, .slice p2 n2 n2] w (Di.ResZ (F M0 M1 M2).isSome ((F M0 M1 M2).getD (0, [])).1 ((F M0 M1 M2).getD (0, [])).2 w)) (p0 : Option Addr) (n0 c0 : Nat) (M0 : List Cu.Dt) (p1 : Option Addr) (n1 c1 : Nat) (M1 : List (Int × Int)) (p2 : Option Addr) (n2 c2 : Nat) (M2 : List Int) (w : World) (z0 : n0 ≤ 9223372036854775807) (H0 : Cu.HoldsD w p0 n0 M0) (z1 : n1 ≤ 9223372036854775807) (H1 : Holds w p1 n1 M1) (z2 : n2 ≤ 9223372036854775807) (H2 : GivesI.HoldsI w p2 n2 M2) :
    Calls Try.prog 11 #[.slice p0 n0 c0, .slice p1 n1 c1, .slice p2 n2 c2] w fun e w' => e = .returned (.bool true) ∧ Below w.heap.size w w' := by
  have H00 := Lib.hid H0
  have H01 := Lib.hid H1
  have H02 := Lib.hid H2
  have hI1 := fun (q0 q1 q2 : Option Addr) (w : World) h0a h0b h1a h1b h2a h2b => hI q0 n0 M0 q1 n1 M1 q2 n2 M2 w h0a h0b h1a h1b h2a h2b
  have hM1 := fun (q0 q1 q2 : Option Addr) (w : World) h0a h0b h1a h1b h2a h2b => hM q0 n0 M0 q1 n1 M1 q2 n2 M2 w h0a h0b h1a h1b h2a h2b
  clear hI hM
  generalize (F M0 M1 M2).isSome = ok at hI1 hM1
  generalize ((F M0 M1 M2).getD (0, [])).1 = fr at hI1 hM1
  generalize ((F M0 M1 M2).getD (0, [])).2 = A at hI1 hM1
  have HI := Lib.hid hI1
  have HM := Lib.hid hM1
  clear hI1 hM1
  have K0 := Lib.hid H0
  clear H0
  have K1 := Lib.hid H1
  clear H1
  have K2 := Lib.hid H2
  clear H2
  have HB := Lib.hid (Below.refl w.heap.size w)
  go_enter Try.func11, Try.ntmps11
  by_cases hbig2 : (1048576 : Int) < (n2 : Int)
  · go_wp2_with fail
    go_ret
    exact ⟨rfl, HB.out⟩
  have hs2 : n2 ≤ 1048576 := by omega
  go_wp2_with fail
  refine (CuT.szCurvePointS_any p0 n0 c0 (1048576) (by omega) (by omega) z0 _).mono ?_
  rintro e ww ⟨rfl, hww⟩
  subst hww
  by_cases hbig0 : (1048576 : Int) < (n0 : Int)
  · rw [if_pos hbig0]
    go_wp2_with fail
    go_ret
    exact ⟨rfl, HB.out⟩
  rw [if_neg hbig0]
  have hs0 : n0 ≤ 1048576 := by omega
  have hnn0 : ¬ (1048576 : Int) - n0 < 0 := by omega
  go_wp2_with fail
  refine (Me.szMeasurementS_any p1 n1 c1 (1048576 - n0) (by omega) (by omega) z1 _).mono ?_
  rintro e ww ⟨rfl, hww⟩
  subst hww
  by_cases hbig1 : (1048576 : Int) - n0 < (n1 : Int)
  · rw [if_pos hbig1]
    go_wp2_with fail
    go_ret
    exact ⟨rfl, HB.out⟩
  rw [if_neg hbig1]
  have hs1 : n1 ≤ 1048576 := by omega
  have hnn1 : ¬ (1048576 : Int) - n0 - n1 < 0 := by omega
  go_wp2_with fail
  refine (CuT.toCurvePointS_any p0 n0 c0 M0 hs0 _ K0.out).mono ?_
  rintro e wcm0 ⟨gm0, rfl, o, b⟩
  replace K0 := Lib.hid (K0.out.below b)
  replace K1 := Lib.hid (K1.out.below b)
  replace K2 := Lib.hid (K2.out.below b)
  replace HB := Lib.hid (HB.out.trans (b.mono HB.out.size))
  clear b
  have Gm0 := Lib.hid (Cu.holds_ownD o)
  clear o
  go_wp2_with fail
  refine (Me.toMeasurementS_any p1 n1 c1 M1 hs1 _ K1.out).mono ?_
  rintro e wcm1 ⟨gm1, rfl, o, b⟩
  replace K0 := Lib.hid (K0.out.below b)
  replace K1 := Lib.hid (K1.out.below b)
  replace K2 := Lib.hid (K2.out.below b)
  replace Gm0 := Lib.hid (Gm0.out.below b)
  replace HB := Lib.hid (HB.out.trans (b.mono HB.out.size))
  clear b
  have Gm1 := Lib.hid (Keep.holds_own o)
  clear o
  go_wp2_with fail
  refine (IntT.toIntS_any p2 n2 c2 M2 hs2 _ K2.out).mono ?_
  rintro e wcm2 ⟨gm2, rfl, o, b⟩
  replace K0 := Lib.hid (K0.out.below b)
  replace K1 := Lib.hid (K1.out.below b)
  replace K2 := Lib.hid (K2.out.below b)
  replace Gm0 := Lib.hid (Gm0.out.below b)
  replace Gm1 := Lib.hid (Gm1.out.below b)
  replace HB := Lib.hid (HB.out.trans (b.mono HB.out.size))
  clear b
  have Gm2 := Lib.hid (GivesI.holds_own o)
  clear o
  go_wp2_with fail
  refine (HM.out _ _ _ _ hs0 Gm0.out hs1 Gm1.out hs2 Gm2.out).mono ?_
  rintro e w3 ⟨pW, kW, dW, rfl, o, hkW, b⟩
  replace K0 := Lib.hid (K0.out.below b)
  replace K1 := Lib.hid (K1.out.below b)
  replace K2 := Lib.hid (K2.out.below b)
  replace Gm0 := Lib.hid (Gm0.out.below b)
  replace Gm1 := Lib.hid (Gm1.out.below b)
  replace Gm2 := Lib.hid (Gm2.out.below b)
  replace HB := Lib.hid (HB.out.trans (b.mono HB.out.size))
  clear b
  have OW := Lib.hid o
  have ow1 := Lib.hid (fun b hb => (Di.own_bd o b hb).2)
  clear o
  clear Gm0
  clear Gm1
  clear Gm2
  have b := below_alloc w3 (.cells #[.int .i64 fr, .slice pW kW dW] 42)
  have x1 := box_first w3 (.int .i64 fr) (.slice pW kW dW) 42
  have x2 := box_second w3 (.int .i64 fr) (.slice pW kW dW) 42
  have xl : w3.heap.size < (w3.alloc (.cells #[.int .i64 fr, .slice pW kW dW] 42)).heap.size := by simp
  replace K0 := Lib.hid (K0.out.below b)
  replace K1 := Lib.hid (K1.out.below b)
  replace K2 := Lib.hid (K2.out.below b)
  replace OW := Lib.hid (ownsRow_below OW.out b)
  replace HB := Lib.hid (HB.out.trans (b.mono HB.out.size))
  clear b
  go_wp2_with fail
  generalize w3.alloc (.cells #[.int .i64 fr, .slice pW kW dW] 42) = W3 at *
  have hz1 := Lib.hid xl
  have hzw := Lib.hid HB.out.size
  go_wp2_with fail
  refine (CuT.toCurvePointS_any p0 n0 c0 M0 hs0 _ K0.out).mono ?_
  rintro e wcx0 ⟨gx0, rfl, o, b⟩
  replace x1 := (b.cell (p := ⟨w3.heap.size, 0, none⟩) xl).trans x1
  replace x2 := (b.cell (p := ⟨w3.heap.size, 1, none⟩) xl).trans x2
  replace xl := Nat.lt_of_lt_of_le xl b.size
  replace K0 := Lib.hid (K0.out.below b)
  replace K1 := Lib.hid (K1.out.below b)
  replace K2 := Lib.hid (K2.out.below b)
  replace OW := Lib.hid (ownsRow_below OW.out b)
  replace HB := Lib.hid (HB.out.trans (b.mono HB.out.size))
  clear b
  have OX0 := Lib.hid o
  have hg0 := Lib.hid (o.lt gx0 rfl)
  clear o
  go_wp2_with fail
  refine (Me.toMeasurementS_any p1 n1 c1 M1 hs1 _ K1.out).mono ?_
  rintro e wcx1 ⟨gx1, rfl, o, b⟩
  replace x1 := (b.cell (p := ⟨w3.heap.size, 0, none⟩) xl).trans x1
  replace x2 := (b.cell (p := ⟨w3.heap.size, 1, none⟩) xl).trans x2
  replace xl := Nat.lt_of_lt_of_le xl b.size
  replace K0 := Lib.hid (K0.out.below b)
  replace K1 := Lib.hid (K1.out.below b)
  replace K2 := Lib.hid (K2.out.below b)
  replace OW := Lib.hid (ownsRow_below OW.out b)
  replace OX0 := Lib.hid (ownsRow_below OX0.out b)
  replace HB := Lib.hid (HB.out.trans (b.mono HB.out.size))
  clear b
  have OX1 := Lib.hid o
  have hg1 := Lib.hid (o.lt gx1 rfl)
  clear o
  go_wp2_with fail
  refine (IntT.toIntS_any p2 n2 c2 M2 hs2 _ K2.out).mono ?_
  rintro e wcx2 ⟨gx2, rfl, o, b⟩
  replace x1 := (b.cell (p := ⟨w3.heap.size, 0, none⟩) xl).trans x1
  replace x2 := (b.cell (p := ⟨w3.heap.size, 1, none⟩) xl).trans x2
  replace xl := Nat.lt_of_lt_of_le xl b.size
  replace K0 := Lib.hid (K0.out.below b)
  replace K1 := Lib.hid (K1.out.below b)
  replace K2 := Lib.hid (K2.out.below b)
  replace OW := Lib.hid (ownsRow_below OW.out b)
  replace OX0 := Lib.hid (ownsRow_below OX0.out b)
  replace OX1 := Lib.hid (ownsRow_below OX1.out b)
  replace HB := Lib.hid (HB.out.trans (b.mono HB.out.size))
  clear b
  have OX2 := Lib.hid o
  have hg2 := Lib.hid (o.lt gx2 rfl)
  clear o
  go_wp2_with fail
  refine (HI.out _ _ _ _ hs0 (Cu.holds_ownD OX0.out) hs1 (Keep.holds_own OX1.out) hs2 (GivesI.holds_own OX2.out)).mono ?_
  rintro e w7 ⟨pG, kG, dG, rfl, o, hkG, b⟩
  have hz3 := Lib.hid b.size
  replace x1 := (b.cell (p := ⟨w3.heap.size, 0, none⟩) xl).trans x1
  replace x2 := (b.cell (p := ⟨w3.heap.size, 1, none⟩) xl).trans x2
  replace xl := Nat.lt_of_lt_of_le xl b.size
  replace K0 := Lib.hid (K0.out.below b)
  replace K1 := Lib.hid (K1.out.below b)
  replace K2 := Lib.hid (K2.out.below b)
  replace OW := Lib.hid (ownsRow_below OW.out b)
  replace OX0 := Lib.hid (ownsRow_below OX0.out b)
  replace OX1 := Lib.hid (ownsRow_below OX1.out b)
  replace OX2 := Lib.hid (ownsRow_below OX2.out b)
  replace HB := Lib.hid (HB.out.trans (b.mono HB.out.size))
  clear b
  have OG := Lib.hid o
  have og1 := Lib.hid (Di.own_bd o)
  clear o
  have hkk : kG = kW := by have h1 := OG.out.1; have h2 := OW.out.1; rw [GivesI.ints_len] at h1 h2; omega
  subst hkk
  have b := below_alloc w7 (.cells #[.int .i64 fr, .slice pG kG dG] 42)
  have u1 := box_first w7 (.int .i64 fr) (.slice pG kG dG) 42
  have u2 := box_second w7 (.int .i64 fr) (.slice pG kG dG) 42
  have ul : w7.heap.size < (w7.alloc (.cells #[.int .i64 fr, .slice pG kG dG] 42)).heap.size := by simp
  replace x1 := (b.cell (p := ⟨w3.heap.size, 0, none⟩) xl).trans x1
  replace x2 := (b.cell (p := ⟨w3.heap.size, 1, none⟩) xl).trans x2
  replace xl := Nat.lt_of_lt_of_le xl b.size
  replace K0 := Lib.hid (K0.out.below b)
  replace K1 := Lib.hid (K1.out.below b)
  replace K2 := Lib.hid (K2.out.below b)
  replace OW := Lib.hid (ownsRow_below OW.out b)
  replace OX0 := Lib.hid (ownsRow_below OX0.out b)
  replace OX1 := Lib.hid (ownsRow_below OX1.out b)
  replace OX2 := Lib.hid (ownsRow_below OX2.out b)
  replace OG := Lib.hid (ownsRow_below OG.out b)
  replace HB := Lib.hid (HB.out.trans (b.mono HB.out.size))
  clear b
  go_wp2_with fail
  generalize w7.alloc (.cells #[.int .i64 fr, .slice pG kG dG] 42) = W7 at *
  refine (Di.eqDist_same fr pG pW kG dG dW A hkG _ (GivesI.holds_own OG.out) (GivesI.holds_own OW.out)).mono ?_
  rintro e w8 ⟨rfl, b⟩
  replace x1 := (b.cell (p := ⟨w3.heap.size, 0, none⟩) xl).trans x1
  replace x2 := (b.cell (p := ⟨w3.heap.size, 1, none⟩) xl).trans x2
  replace xl := Nat.lt_of_lt_of_le xl b.size
  replace u1 := (b.cell (p := ⟨w7.heap.size, 0, none⟩) ul).trans u1
  replace u2 := (b.cell (p := ⟨w7.heap.size, 1, none⟩) ul).trans u2
  replace ul := Nat.lt_of_lt_of_le ul b.size
  replace K0 := Lib.hid (K0.out.below b)
  replace K1 := Lib.hid (K1.out.below b)
  replace K2 := Lib.hid (K2.out.below b)
  replace OW := Lib.hid (ownsRow_below OW.out b)
  replace OX0 := Lib.hid (ownsRow_below OX0.out b)
  replace OX1 := Lib.hid (ownsRow_below OX1.out b)
  replace OX2 := Lib.hid (ownsRow_below OX2.out b)
  replace OG := Lib.hid (ownsRow_below OG.out b)
  replace HB := Lib.hid (HB.out.trans (b.mono HB.out.size))
  clear b
  go_wp2_with fail
  refine (CuT.toCurvePointS_any p0 n0 c0 M0 hs0 _ K0.out).mono ?_
  rintro e wd0 ⟨gd0, rfl, o, b⟩
  replace x1 := (b.cell (p := ⟨w3.heap.size, 0, none⟩) xl).trans x1
  replace x2 := (b.cell (p := ⟨w3.heap.size, 1, none⟩) xl).trans x2
  replace xl := Nat.lt_of_lt_of_le xl b.size
  replace u1 := (b.cell (p := ⟨w7.heap.size, 0, none⟩) ul).trans u1
  replace u2 := (b.cell (p := ⟨w7.heap.size, 1, none⟩) ul).trans u2
  replace ul := Nat.lt_of_lt_of_le ul b.size
  replace K0 := Lib.hid (K0.out.below b)
  replace K1 := Lib.hid (K1.out.below b)
  replace K2 := Lib.hid (K2.out.below b)
  replace OW := Lib.hid (ownsRow_below OW.out b)
  replace OX0 := Lib.hid (ownsRow_below OX0.out b)
  replace OX1 := Lib.hid (ownsRow_below OX1.out b)
  replace OX2 := Lib.hid (ownsRow_below OX2.out b)
  replace OG := Lib.hid (ownsRow_below OG.out b)
  replace HB := Lib.hid (HB.out.trans (b.mono HB.out.size))
  clear b
  have Gd := Lib.hid (Cu.holds_ownD o)
  clear o
  go_wp2_with fail
  refine (CuT.eqCurvePointS_same (some ⟨gx0, 0, none⟩) (some ⟨gd0, 0, none⟩) n0 n0 n0 M0 hs0 _ (Cu.holds_ownD OX0.out) Gd.out).mono ?_
  rintro e we0 ⟨rfl, b⟩
  clear Gd
  replace x1 := (b.cell (p := ⟨w3.heap.size, 0, none⟩) xl).trans x1
  replace x2 := (b.cell (p := ⟨w3.heap.size, 1, none⟩) xl).trans x2
  replace xl := Nat.lt_of_lt_of_le xl b.size
  replace u1 := (b.cell (p := ⟨w7.heap.size, 0, none⟩) ul).trans u1
  replace u2 := (b.cell (p := ⟨w7.heap.size, 1, none⟩) ul).trans u2
  replace ul := Nat.lt_of_lt_of_le ul b.size
  replace K0 := Lib.hid (K0.out.below b)
  replace K1 := Lib.hid (K1.out.below b)
  replace K2 := Lib.hid (K2.out.below b)
  replace OW := Lib.hid (ownsRow_below OW.out b)
  replace OX0 := Lib.hid (ownsRow_below OX0.out b)
  replace OX1 := Lib.hid (ownsRow_below OX1.out b)
  replace OX2 := Lib.hid (ownsRow_below OX2.out b)
  replace OG := Lib.hid (ownsRow_below OG.out b)
  replace HB := Lib.hid (HB.out.trans (b.mono HB.out.size))
  clear b
  go_wp2_with fail
  refine (Me.toMeasurementS_any p1 n1 c1 M1 hs1 _ K1.out).mono ?_
  rintro e wd1 ⟨gd1, rfl, o, b⟩
  replace x1 := (b.cell (p := ⟨w3.heap.size, 0, none⟩) xl).trans x1
  replace x2 := (b.cell (p := ⟨w3.heap.size, 1, none⟩) xl).trans x2
  replace xl := Nat.lt_of_lt_of_le xl b.size
  replace u1 := (b.cell (p := ⟨w7.heap.size, 0, none⟩) ul).trans u1
  replace u2 := (b.cell (p := ⟨w7.heap.size, 1, none⟩) ul).trans u2
  replace ul := Nat.lt_of_lt_of_le ul b.size
  replace K0 := Lib.hid (K0.out.below b)
  replace K1 := Lib.hid (K1.out.below b)
  replace K2 := Lib.hid (K2.out.below b)
  replace OW := Lib.hid (ownsRow_below OW.out b)
  replace OX0 := Lib.hid (ownsRow_below OX0.out b)
  replace OX1 := Lib.hid (ownsRow_below OX1.out b)
  replace OX2 := Lib.hid (ownsRow_below OX2.out b)
  replace OG := Lib.hid (ownsRow_below OG.out b)
  replace HB := Lib.hid (HB.out.trans (b.mono HB.out.size))
  clear b
  have Gd := Lib.hid (Keep.holds_own o)
  clear o
  go_wp2_with fail
  refine (Me.eqMeasurementS_same (some ⟨gx1, 0, none⟩) (some ⟨gd1, 0, none⟩) n1 n1 n1 M1 hs1 _ (Keep.holds_own OX1.out) Gd.out).mono ?_
  rintro e we1 ⟨rfl, b⟩
  clear Gd
  replace x1 := (b.cell (p := ⟨w3.heap.size, 0, none⟩) xl).trans x1
  replace x2 := (b.cell (p := ⟨w3.heap.size, 1, none⟩) xl).trans x2
  replace xl := Nat.lt_of_lt_of_le xl b.size
  replace u1 := (b.cell (p := ⟨w7.heap.size, 0, none⟩) ul).trans u1
  replace u2 := (b.cell (p := ⟨w7.heap.size, 1, none⟩) ul).trans u2
  replace ul := Nat.lt_of_lt_of_le ul b.size
  replace K0 := Lib.hid (K0.out.below b)
  replace K1 := Lib.hid (K1.out.below b)
  replace K2 := Lib.hid (K2.out.below b)
  replace OW := Lib.hid (ownsRow_below OW.out b)
  replace OX0 := Lib.hid (ownsRow_below OX0.out b)
  replace OX1 := Lib.hid (ownsRow_below OX1.out b)
  replace OX2 := Lib.hid (ownsRow_below OX2.out b)
  replace OG := Lib.hid (ownsRow_below OG.out b)
  replace HB := Lib.hid (HB.out.trans (b.mono HB.out.size))
  clear b
  go_wp2_with fail
  refine (IntT.toIntS_any p2 n2 c2 M2 hs2 _ K2.out).mono ?_
  rintro e wd2 ⟨gd2, rfl, o, b⟩
  replace x1 := (b.cell (p := ⟨w3.heap.size, 0, none⟩) xl).trans x1
  replace x2 := (b.cell (p := ⟨w3.heap.size, 1, none⟩) xl).trans x2
  replace xl := Nat.lt_of_lt_of_le xl b.size
  replace u1 := (b.cell (p := ⟨w7.heap.size, 0, none⟩) ul).trans u1
  replace u2 := (b.cell (p := ⟨w7.heap.size, 1, none⟩) ul).trans u2
  replace ul := Nat.lt_of_lt_of_le ul b.size
  replace K0 := Lib.hid (K0.out.below b)
  replace K1 := Lib.hid (K1.out.below b)
  replace K2 := Lib.hid (K2.out.below b)
  replace OW := Lib.hid (ownsRow_below OW.out b)
  replace OX0 := Lib.hid (ownsRow_below OX0.out b)
  replace OX1 := Lib.hid (ownsRow_below OX1.out b)
  replace OX2 := Lib.hid (ownsRow_below OX2.out b)
  replace OG := Lib.hid (ownsRow_below OG.out b)
  replace HB := Lib.hid (HB.out.trans (b.mono HB.out.size))
  clear b
  have Gd := Lib.hid (GivesI.holds_own o)
  clear o
  go_wp2_with fail
  refine (GivesI.eq_same (some ⟨gx2, 0, none⟩) (some ⟨gd2, 0, none⟩) n2 n2 n2 M2 hs2 _ (GivesI.holds_own OX2.out) Gd.out).mono ?_
  rintro e we2 ⟨rfl, b⟩
  clear Gd
  replace x1 := (b.cell (p := ⟨w3.heap.size, 0, none⟩) xl).trans x1
  replace x2 := (b.cell (p := ⟨w3.heap.size, 1, none⟩) xl).trans x2
  replace xl := Nat.lt_of_lt_of_le xl b.size
  replace u1 := (b.cell (p := ⟨w7.heap.size, 0, none⟩) ul).trans u1
  replace u2 := (b.cell (p := ⟨w7.heap.size, 1, none⟩) ul).trans u2
  replace ul := Nat.lt_of_lt_of_le ul b.size
  replace K0 := Lib.hid (K0.out.below b)
  replace K1 := Lib.hid (K1.out.below b)
  replace K2 := Lib.hid (K2.out.below b)
  replace OW := Lib.hid (ownsRow_below OW.out b)
  replace OX0 := Lib.hid (ownsRow_below OX0.out b)
  replace OX1 := Lib.hid (ownsRow_below OX1.out b)
  replace OX2 := Lib.hid (ownsRow_below OX2.out b)
  replace OG := Lib.hid (ownsRow_below OG.out b)
  replace HB := Lib.hid (HB.out.trans (b.mono HB.out.size))
  clear b
  go_wp2_with fail
  refine (CuM.markD_any w3.heap.size (some ⟨gx0, 0, none⟩) n0 n0 1 (Cu.flatD M0) (by omega) (by omega) hs0 _ (Keep.ownsRow_base OX0.out (by have q1 := hz1.out; have q2 := hzw.out; have q5 := hz3.out; have q10 := hg0.out; have q11 := hg1.out; have q12 := hg2.out; omega))).mono ?_
  rintro e wm0 ⟨rfl, -, kk⟩
  have e2 : ∀ b, (Value.slice (some ⟨gx0, 0, none⟩) n0 n0).ownBlock = some b → b = gx0 := fun b hb => by simpa [Value.ownBlock, eq_comm] using hb
  have q1 := hz1.out; have q2 := hzw.out; have q5 := hz3.out; have q10 := hg0.out; have q11 := hg1.out; have q12 := hg2.out
  replace x1 := kk.cell x1 (by intro hq; have := e2 _ hq; simp only at this; omega)
  replace x2 := kk.cell x2 (by intro hq; have := e2 _ hq; simp only at this; omega)
  replace xl := Nat.lt_of_lt_of_le xl kk.size
  replace u1 := kk.cell u1 (by intro hq; have := e2 _ hq; simp only at this; omega)
  replace u2 := kk.cell u2 (by intro hq; have := e2 _ hq; simp only at this; omega)
  replace ul := Nat.lt_of_lt_of_le ul kk.size
  replace K0 := Lib.hid (CuG.heldKeptD H00.out K0.out kk (fun b hb hq => by have := e2 _ hq; omega))
  replace K1 := Lib.hid (CuG.heldKeptP H01.out K1.out kk (fun b hb hq => by have := e2 _ hq; omega))
  replace K2 := Lib.hid (Di.heldKept H02.out K2.out kk (fun b hb hq => by have := e2 _ hq; omega))
  replace OW := Lib.hid (kk.owns OW.out (fun b hb hq => by have h1 := e2 _ hq; have h2 := ow1.out b hb; omega))
  replace OG := Lib.hid (kk.owns OG.out (fun b hb hq => by have h1 := e2 _ hq; have h2 := og1.out b hb; omega))
  replace OX1 := Lib.hid (kk.owns OX1.out (fun b hb hq => by have h1 := e2 _ hq; have h3 : b = gx1 := (by simpa [Value.ownBlock, eq_comm] using hb); have q1 := hz1.out; have q2 := hzw.out; have q5 := hz3.out; have q10 := hg0.out; have q11 := hg1.out; have q12 := hg2.out; omega))
  replace OX2 := Lib.hid (kk.owns OX2.out (fun b hb hq => by have h1 := e2 _ hq; have h3 : b = gx2 := (by simpa [Value.ownBlock, eq_comm] using hb); have q1 := hz1.out; have q2 := hzw.out; have q5 := hz3.out; have q10 := hg0.out; have q11 := hg1.out; have q12 := hg2.out; omega))
  replace HB := Lib.hid (HB.out.trans (kk.below (B := w.heap.size) (fun b hq => by have := e2 _ hq; omega) HB.out.size))
  clear kk OX0 e2
  clear q1 q2 q5 q10 q11 q12
  go_wp2_with fail
  refine (Me.markMe_any w3.heap.size (some ⟨gx1, 0, none⟩) n1 n1 (1 + 3 * (n0 : Int)) (flat M1) (by omega) (by omega) hs1 _ (Keep.ownsRow_base OX1.out (by have q1 := hz1.out; have q2 := hzw.out; have q5 := hz3.out; have q10 := hg0.out; have q11 := hg1.out; have q12 := hg2.out; omega))).mono ?_
  rintro e wm1 ⟨rfl, -, kk⟩
  have e2 : ∀ b, (Value.slice (some ⟨gx1, 0, none⟩) n1 n1).ownBlock = some b → b = gx1 := fun b hb => by simpa [Value.ownBlock, eq_comm] using hb
  have q1 := hz1.out; have q2 := hzw.out; have q5 := hz3.out; have q10 := hg0.out; have q11 := hg1.out; have q12 := hg2.out
  replace x1 := kk.cell x1 (by intro hq; have := e2 _ hq; simp only at this; omega)
  replace x2 := kk.cell x2 (by intro hq; have := e2 _ hq; simp only at this; omega)
  replace xl := Nat.lt_of_lt_of_le xl kk.size
  replace u1 := kk.cell u1 (by intro hq; have := e2 _ hq; simp only at this; omega)
  replace u2 := kk.cell u2 (by intro hq; have := e2 _ hq; simp only at this; omega)
  replace ul := Nat.lt_of_lt_of_le ul kk.size
  replace K0 := Lib.hid (CuG.heldKeptD H00.out K0.out kk (fun b hb hq => by have := e2 _ hq; omega))
  replace K1 := Lib.hid (CuG.heldKeptP H01.out K1.out kk (fun b hb hq => by have := e2 _ hq; omega))
  replace K2 := Lib.hid (Di.heldKept H02.out K2.out kk (fun b hb hq => by have := e2 _ hq; omega))
  replace OW := Lib.hid (kk.owns OW.out (fun b hb hq => by have h1 := e2 _ hq; have h2 := ow1.out b hb; omega))
  replace OG := Lib.hid (kk.owns OG.out (fun b hb hq => by have h1 := e2 _ hq; have h2 := og1.out b hb; omega))
  replace OX2 := Lib.hid (kk.owns OX2.out (fun b hb hq => by have h1 := e2 _ hq; have h3 : b = gx2 := (by simpa [Value.ownBlock, eq_comm] using hb); have q1 := hz1.out; have q2 := hzw.out; have q5 := hz3.out; have q10 := hg0.out; have q11 := hg1.out; have q12 := hg2.out; omega))
  replace HB := Lib.hid (HB.out.trans (kk.below (B := w.heap.size) (fun b hq => by have := e2 _ hq; omega) HB.out.size))
  clear kk OX1 e2
  clear q1 q2 q5 q10 q11 q12
  go_wp2_with fail
  refine (GivesI.mark_any w3.heap.size (some ⟨gx2, 0, none⟩) n2 n2 (1 + 3 * (n0 : Int) + 2 * (n1 : Int)) (GivesI.ints M2) (by omega) (by omega) hs2 _ (Keep.ownsRow_base OX2.out (by have q1 := hz1.out; have q2 := hzw.out; have q5 := hz3.out; have q10 := hg0.out; have q11 := hg1.out; have q12 := hg2.out; omega))).mono ?_
  rintro e wm2 ⟨rfl, -, kk⟩
  have e2 : ∀ b, (Value.slice (some ⟨gx2, 0, none⟩) n2 n2).ownBlock = some b → b = gx2 := fun b hb => by simpa [Value.ownBlock, eq_comm] using hb
  have q1 := hz1.out; have q2 := hzw.out; have q5 := hz3.out; have q10 := hg0.out; have q11 := hg1.out; have q12 := hg2.out
  replace x1 := kk.cell x1 (by intro hq; have := e2 _ hq; simp only at this; omega)
  replace x2 := kk.cell x2 (by intro hq; have := e2 _ hq; simp only at this; omega)
  replace xl := Nat.lt_of_lt_of_le xl kk.size
  replace u1 := kk.cell u1 (by intro hq; have := e2 _ hq; simp only at this; omega)
  replace u2 := kk.cell u2 (by intro hq; have := e2 _ hq; simp only at this; omega)
  replace ul := Nat.lt_of_lt_of_le ul kk.size
  replace K0 := Lib.hid (CuG.heldKeptD H00.out K0.out kk (fun b hb hq => by have := e2 _ hq; omega))
  replace K1 := Lib.hid (CuG.heldKeptP H01.out K1.out kk (fun b hb hq => by have := e2 _ hq; omega))
  replace K2 := Lib.hid (Di.heldKept H02.out K2.out kk (fun b hb hq => by have := e2 _ hq; omega))
  replace OW := Lib.hid (kk.owns OW.out (fun b hb hq => by have h1 := e2 _ hq; have h2 := ow1.out b hb; omega))
  replace OG := Lib.hid (kk.owns OG.out (fun b hb hq => by have h1 := e2 _ hq; have h2 := og1.out b hb; omega))
  replace HB := Lib.hid (HB.out.trans (kk.below (B := w.heap.size) (fun b hq => by have := e2 _ hq; omega) HB.out.size))
  clear kk OX2 e2
  clear q1 q2 q5 q10 q11 q12
  have hnk : ¬ (1 : Int) + 3 * (n0 : Int) + 2 * (n1 : Int) + (n2 : Int) < 0 := by omega
  have hnb : decide ((1 : Int) + 3 * (n0 : Int) + 2 * (n1 : Int) + (n2 : Int) < 0) = false := decide_eq_false hnk
  go_wp2_with fail
  refine (Di.eqDist_same fr pG pW kG dG dW A hkG _ (GivesI.holds_own OG.out) (GivesI.holds_own OW.out)).mono ?_
  rintro e w12 ⟨rfl, b⟩
  replace x1 := (b.cell (p := ⟨w3.heap.size, 0, none⟩) xl).trans x1
  replace x2 := (b.cell (p := ⟨w3.heap.size, 1, none⟩) xl).trans x2
  replace xl := Nat.lt_of_lt_of_le xl b.size
  replace u1 := (b.cell (p := ⟨w7.heap.size, 0, none⟩) ul).trans u1
  replace u2 := (b.cell (p := ⟨w7.heap.size, 1, none⟩) ul).trans u2
  replace ul := Nat.lt_of_lt_of_le ul b.size
  replace K0 := Lib.hid (K0.out.below b)
  replace K1 := Lib.hid (K1.out.below b)
  replace K2 := Lib.hid (K2.out.below b)
  replace OW := Lib.hid (ownsRow_below OW.out b)
  replace OG := Lib.hid (ownsRow_below OG.out b)
  replace HB := Lib.hid (HB.out.trans (b.mono HB.out.size))
  clear b
  go_wp2_with fail
  refine (Di.markDist_any _ fr pG kG dG 1 (GivesI.ints A) (by omega) (by omega) hkG _ OG.out).mono ?_
  rintro e w13 ⟨rfl, om, kk⟩
  have q1 := hz1.out; have q2 := hzw.out; have q5 := hz3.out; have q10 := hg0.out; have q11 := hg1.out; have q12 := hg2.out
  replace x1 := kk.cell x1 (by intro hq; have := og1.out _ hq; simp only at this; omega)
  replace x2 := kk.cell x2 (by intro hq; have := og1.out _ hq; simp only at this; omega)
  replace xl := Nat.lt_of_lt_of_le xl kk.size
  replace u1 := kk.cell u1 (by intro hq; have := og1.out _ hq; simp only at this; omega)
  replace u2 := kk.cell u2 (by intro hq; have := og1.out _ hq; simp only at this; omega)
  replace ul := Nat.lt_of_lt_of_le ul kk.size
  replace K0 := Lib.hid (CuG.heldKeptD H00.out K0.out kk (fun b hb hq => by have := og1.out _ hq; omega))
  replace K1 := Lib.hid (CuG.heldKeptP H01.out K1.out kk (fun b hb hq => by have := og1.out _ hq; omega))
  replace K2 := Lib.hid (Di.heldKept H02.out K2.out kk (fun b hb hq => by have := og1.out _ hq; omega))
  replace OW := Lib.hid (kk.owns OW.out (fun b hb hq => by have h1 := og1.out _ hq; have h2 := ow1.out b hb; omega))
  replace HB := Lib.hid (HB.out.trans (kk.below (B := w.heap.size) (fun b hq => by have := og1.out _ hq; omega) HB.out.size))
  have MG := Lib.hid (GivesI.holds_own om)
  clear kk om OG
  clear q1 q2 q5 q10 q11 q12
  have hkn : ¬ (1 : Int) + (kG : Int) < 0 := by omega
  have hkb : decide ((1 : Int) + (kG : Int) < 0) = false := decide_eq_false hkn
  go_wp2_with fail
  refine (Di.heldDist_any fr pG kG dG 1 (by omega) (by omega) hkG _ MG.out).mono ?_
  rintro e w14 ⟨rfl, b⟩
  replace x1 := (b.cell (p := ⟨w3.heap.size, 0, none⟩) xl).trans x1
  replace x2 := (b.cell (p := ⟨w3.heap.size, 1, none⟩) xl).trans x2
  replace xl := Nat.lt_of_lt_of_le xl b.size
  replace u1 := (b.cell (p := ⟨w7.heap.size, 0, none⟩) ul).trans u1
  replace u2 := (b.cell (p := ⟨w7.heap.size, 1, none⟩) ul).trans u2
  replace ul := Nat.lt_of_lt_of_le ul b.size
  replace K0 := Lib.hid (K0.out.below b)
  replace K1 := Lib.hid (K1.out.below b)
  replace K2 := Lib.hid (K2.out.below b)
  replace MG := Lib.hid (MG.out.below b)
  replace OW := Lib.hid (ownsRow_below OW.out b)
  replace HB := Lib.hid (HB.out.trans (b.mono HB.out.size))
  clear b
  go_wp2_with fail
  refine (CuT.toCurvePointS_any p0 n0 c0 M0 hs0 _ K0.out).mono ?_
  rintro e wch0 ⟨gh0, rfl, o, b⟩
  replace x1 := (b.cell (p := ⟨w3.heap.size, 0, none⟩) xl).trans x1
  replace x2 := (b.cell (p := ⟨w3.heap.size, 1, none⟩) xl).trans x2
  replace xl := Nat.lt_of_lt_of_le xl b.size
  replace u1 := (b.cell (p := ⟨w7.heap.size, 0, none⟩) ul).trans u1
  replace u2 := (b.cell (p := ⟨w7.heap.size, 1, none⟩) ul).trans u2
  replace ul := Nat.lt_of_lt_of_le ul b.size
  replace K0 := Lib.hid (K0.out.below b)
  replace K1 := Lib.hid (K1.out.below b)
  replace K2 := Lib.hid (K2.out.below b)
  replace MG := Lib.hid (MG.out.below b)
  replace OW := Lib.hid (ownsRow_below OW.out b)
  replace HB := Lib.hid (HB.out.trans (b.mono HB.out.size))
  clear b
  have Gh0 := Lib.hid (Cu.holds_ownD o)
  clear o
  go_wp2_with fail
  refine (Me.toMeasurementS_any p1 n1 c1 M1 hs1 _ K1.out).mono ?_
  rintro e wch1 ⟨gh1, rfl, o, b⟩
  replace x1 := (b.cell (p := ⟨w3.heap.size, 0, none⟩) xl).trans x1
  replace x2 := (b.cell (p := ⟨w3.heap.size, 1, none⟩) xl).trans x2
  replace xl := Nat.lt_of_lt_of_le xl b.size
  replace u1 := (b.cell (p := ⟨w7.heap.size, 0, none⟩) ul).trans u1
  replace u2 := (b.cell (p := ⟨w7.heap.size, 1, none⟩) ul).trans u2
  replace ul := Nat.lt_of_lt_of_le ul b.size
  replace K0 := Lib.hid (K0.out.below b)
  replace K1 := Lib.hid (K1.out.below b)
  replace K2 := Lib.hid (K2.out.below b)
  replace MG := Lib.hid (MG.out.below b)
  replace Gh0 := Lib.hid (Gh0.out.below b)
  replace OW := Lib.hid (ownsRow_below OW.out b)
  replace HB := Lib.hid (HB.out.trans (b.mono HB.out.size))
  clear b
  have Gh1 := Lib.hid (Keep.holds_own o)
  clear o
  go_wp2_with fail
  refine (IntT.toIntS_any p2 n2 c2 M2 hs2 _ K2.out).mono ?_
  rintro e wch2 ⟨gh2, rfl, o, b⟩
  replace x1 := (b.cell (p := ⟨w3.heap.size, 0, none⟩) xl).trans x1
  replace x2 := (b.cell (p := ⟨w3.heap.size, 1, none⟩) xl).trans x2
  replace xl := Nat.lt_of_lt_of_le xl b.size
  replace u1 := (b.cell (p := ⟨w7.heap.size, 0, none⟩) ul).trans u1
  replace u2 := (b.cell (p := ⟨w7.heap.size, 1, none⟩) ul).trans u2
  replace ul := Nat.lt_of_lt_of_le ul b.size
  replace K0 := Lib.hid (K0.out.below b)
  replace K1 := Lib.hid (K1.out.below b)
  replace K2 := Lib.hid (K2.out.below b)
  replace MG := Lib.hid (MG.out.below b)
  replace Gh0 := Lib.hid (Gh0.out.below b)
  replace Gh1 := Lib.hid (Gh1.out.below b)
  replace OW := Lib.hid (ownsRow_below OW.out b)
  replace HB := Lib.hid (HB.out.trans (b.mono HB.out.size))
  clear b
  have Gh2 := Lib.hid (GivesI.holds_own o)
  clear o
  go_wp2_with fail
  refine (HI.out _ _ _ _ hs0 Gh0.out hs1 Gh1.out hs2 Gh2.out).mono ?_
  rintro e w16 ⟨pH, kH, dH, rfl, o, hkH, b⟩
  replace x1 := (b.cell (p := ⟨w3.heap.size, 0, none⟩) xl).trans x1
  replace x2 := (b.cell (p := ⟨w3.heap.size, 1, none⟩) xl).trans x2
  replace xl := Nat.lt_of_lt_of_le xl b.size
  replace u1 := (b.cell (p := ⟨w7.heap.size, 0, none⟩) ul).trans u1
  replace u2 := (b.cell (p := ⟨w7.heap.size, 1, none⟩) ul).trans u2
  replace ul := Nat.lt_of_lt_of_le ul b.size
  replace K0 := Lib.hid (K0.out.below b)
  replace K1 := Lib.hid (K1.out.below b)
  replace K2 := Lib.hid (K2.out.below b)
  replace MG := Lib.hid (MG.out.below b)
  replace Gh0 := Lib.hid (Gh0.out.below b)
  replace Gh1 := Lib.hid (Gh1.out.below b)
  replace Gh2 := Lib.hid (Gh2.out.below b)
  replace OW := Lib.hid (ownsRow_below OW.out b)
  replace HB := Lib.hid (HB.out.trans (b.mono HB.out.size))
  clear b
  have OH := Lib.hid o
  clear o
  have hkk : kH = kG := by have h1 := OH.out.1; have h2 := OW.out.1; rw [GivesI.ints_len] at h1 h2; omega
  subst hkk
  have b := below_alloc w16 (.cells #[.int .i64 fr, .slice pH kH dH] 42)
  have h1 := box_first w16 (.int .i64 fr) (.slice pH kH dH) 42
  have h2 := box_second w16 (.int .i64 fr) (.slice pH kH dH) 42
  have hl : w16.heap.size < (w16.alloc (.cells #[.int .i64 fr, .slice pH kH dH] 42)).heap.size := by simp
  replace x1 := (b.cell (p := ⟨w3.heap.size, 0, none⟩) xl).trans x1
  replace x2 := (b.cell (p := ⟨w3.heap.size, 1, none⟩) xl).trans x2
  replace xl := Nat.lt_of_lt_of_le xl b.size
  replace u1 := (b.cell (p := ⟨w7.heap.size, 0, none⟩) ul).trans u1
  replace u2 := (b.cell (p := ⟨w7.heap.size, 1, none⟩) ul).trans u2
  replace ul := Nat.lt_of_lt_of_le ul b.size
  replace K0 := Lib.hid (K0.out.below b)
  replace K1 := Lib.hid (K1.out.below b)
  replace K2 := Lib.hid (K2.out.below b)
  replace MG := Lib.hid (MG.out.below b)
  replace Gh0 := Lib.hid (Gh0.out.below b)
  replace Gh1 := Lib.hid (Gh1.out.below b)
  replace Gh2 := Lib.hid (Gh2.out.below b)
  replace OW := Lib.hid (ownsRow_below OW.out b)
  replace OH := Lib.hid (ownsRow_below OH.out b)
  replace HB := Lib.hid (HB.out.trans (b.mono HB.out.size))
  clear b
  go_wp2_with fail
  generalize w16.alloc (.cells #[.int .i64 fr, .slice pH kH dH] 42) = W16 at *
  refine (Di.eqDist_same fr pH pW kH dH dW A hkH _ (GivesI.holds_own OH.out) (GivesI.holds_own OW.out)).mono ?_
  rintro e w17 ⟨rfl, b⟩
  replace x1 := (b.cell (p := ⟨w3.heap.size, 0, none⟩) xl).trans x1
  replace x2 := (b.cell (p := ⟨w3.heap.size, 1, none⟩) xl).trans x2
  replace xl := Nat.lt_of_lt_of_le xl b.size
  replace u1 := (b.cell (p := ⟨w7.heap.size, 0, none⟩) ul).trans u1
  replace u2 := (b.cell (p := ⟨w7.heap.size, 1, none⟩) ul).trans u2
  replace ul := Nat.lt_of_lt_of_le ul b.size
  replace h1 := (b.cell (p := ⟨w16.heap.size, 0, none⟩) hl).trans h1
  replace h2 := (b.cell (p := ⟨w16.heap.size, 1, none⟩) hl).trans h2
  replace hl := Nat.lt_of_lt_of_le hl b.size
  replace K0 := Lib.hid (K0.out.below b)
  replace K1 := Lib.hid (K1.out.below b)
  replace K2 := Lib.hid (K2.out.below b)
  replace MG := Lib.hid (MG.out.below b)
  replace Gh0 := Lib.hid (Gh0.out.below b)
  replace Gh1 := Lib.hid (Gh1.out.below b)
  replace Gh2 := Lib.hid (Gh2.out.below b)
  replace OW := Lib.hid (ownsRow_below OW.out b)
  replace OH := Lib.hid (ownsRow_below OH.out b)
  replace HB := Lib.hid (HB.out.trans (b.mono HB.out.size))
  clear b
  go_wp2_with fail
  refine (Di.heldDist_any fr pG kH dG 1 (by omega) (by omega) hkH _ MG.out).mono ?_
  rintro e w18 ⟨rfl, b⟩
  replace x1 := (b.cell (p := ⟨w3.heap.size, 0, none⟩) xl).trans x1
  replace x2 := (b.cell (p := ⟨w3.heap.size, 1, none⟩) xl).trans x2
  replace xl := Nat.lt_of_lt_of_le xl b.size
  replace u1 := (b.cell (p := ⟨w7.heap.size, 0, none⟩) ul).trans u1
  replace u2 := (b.cell (p := ⟨w7.heap.size, 1, none⟩) ul).trans u2
  replace ul := Nat.lt_of_lt_of_le ul b.size
  replace h1 := (b.cell (p := ⟨w16.heap.size, 0, none⟩) hl).trans h1
  replace h2 := (b.cell (p := ⟨w16.heap.size, 1, none⟩) hl).trans h2
  replace hl := Nat.lt_of_lt_of_le hl b.size
  replace K0 := Lib.hid (K0.out.below b)
  replace K1 := Lib.hid (K1.out.below b)
  replace K2 := Lib.hid (K2.out.below b)
  replace MG := Lib.hid (MG.out.below b)
  replace Gh0 := Lib.hid (Gh0.out.below b)
  replace Gh1 := Lib.hid (Gh1.out.below b)
  replace Gh2 := Lib.hid (Gh2.out.below b)
  replace OW := Lib.hid (ownsRow_below OW.out b)
  replace OH := Lib.hid (ownsRow_below OH.out b)
  replace HB := Lib.hid (HB.out.trans (b.mono HB.out.size))
  clear b
  go_wp2_with fail
  go_ret
  exact ⟨rfl, HB.out⟩
end Go.Proofs.Ytlpcgchekhoieaa.WWigglePlacement
