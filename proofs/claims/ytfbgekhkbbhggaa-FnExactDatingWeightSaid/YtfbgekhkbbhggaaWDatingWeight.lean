/- The walk of the law FnExactDatingWeight, from contracts of the program's and of the model's DatingWeight. -/
import Derived.Test.YtfbgekhkbbhggaaDrS
namespace Go.Proofs.Ytfbgekhkbbhggaa.WDatingWeight
open Go.ChangeShapes Go.WideShapes Go.ChangeAt Go.RowKit
open Pairs Rec RecEq RecOpen
set_option linter.unusedVariables false
set_option maxRecDepth 100000 in
set_option maxHeartbeats 16000000 in
theorem walk (F : List (Int × Int) → List (Int × Int) → List Zh.Pt → List Int → Int × Bool) (hI : ∀ (a1 a2 a3 : Option Addr) (n1 n2 n3 : Nat) (l m : List (Int × Int)) (Z : List Zh.Pt) (p0 : Option Addr) (m0 : Nat) (M0 : List Int) (w : World), Dr.Arg w a1 n1 a2 n2 a3 n3 l m Z → m0 ≤ 1048576 → GivesI.HoldsI w p0 m0 M0 → Calls Try.prog 21 #[.agg #[.slice a1 n1 n1, .slice a2 n2 n2, .slice a3 n3 n3], .slice p0 m0 m0] w (fun e w' => e = .returned (.tuple #[.int .i64 ((F l m Z M0).1), .bool ((F l m Z M0).2)]) ∧ Below w.heap.size w w')) (hM : ∀ (a1 a2 a3 : Option Addr) (n1 n2 n3 : Nat) (l m : List (Int × Int)) (Z : List Zh.Pt) (p0 : Option Addr) (m0 : Nat) (M0 : List Int) (w : World), Dr.Arg w a1 n1 a2 n2 a3 n3 l m Z → m0 ≤ 1048576 → GivesI.HoldsI w p0 m0 M0 → Calls Try.prog 19 #[.agg #[.slice a1 n1 n1, .slice a2 n2 n2, .slice a3 n3 n3], .slice p0 m0 m0] w (fun e w' => e = .returned (.tuple #[.int .i64 ((F l m Z M0).1), .bool ((F l m Z M0).2)]) ∧ Below w.heap.size w w')) (a1 a2 a3 : Option Addr) (n1 c1 n2 c2 n3 c3 : Nat) (l m : List (Int × Int)) (Z : List Zh.Pt) (p0 : Option Addr) (m0 b0 : Nat) (M0 : List Int) (w : World) (ny1 : n1 ≤ 9223372036854775807) (ny2 : n2 ≤ 9223372036854775807) (ny3 : n3 ≤ 9223372036854775807) (H1 : Holds w a1 n1 l) (H2 : Holds w a2 n2 m) (H3 : Zh.HoldsZ w a3 n3 Z) (H4 : Zh.Sm Z 9223372036854775807) (z0 : m0 ≤ 9223372036854775807) (J0 : GivesI.HoldsI w p0 m0 M0) :
    Calls Try.prog 4 #[.agg #[.slice a1 n1 c1, .slice a2 n2 c2, .slice a3 n3 c3], .slice p0 m0 b0] w fun e w' => e = .returned (.bool true) ∧ Below w.heap.size w w' := by
  have hI1 := fun (q1 q2 q3 : Option Addr) (s0 : Option Addr) (w : World) hA h0a h0b => hI q1 q2 q3 n1 n2 n3 l m Z s0 m0 M0 w hA h0a h0b
  have hM1 := fun (q1 q2 q3 : Option Addr) (s0 : Option Addr) (w : World) hA h0a h0b => hM q1 q2 q3 n1 n2 n3 l m Z s0 m0 M0 w hA h0a h0b
  clear hI hM
  generalize F l m Z M0 = FF at hI1 hM1
  obtain ⟨r1, r2⟩ := FF
  have HI := Lib.hid hI1
  have HM := Lib.hid hM1
  clear hI1 hM1
  have K1 := Lib.hid H1
  have K2 := Lib.hid H2
  have K3 := Lib.hid H3
  have K4 := Lib.hid H4
  clear H1 H2 H3 H4
  have J0x := Lib.hid J0
  clear J0
  have HB := Lib.hid (Below.refl w.heap.size w)
  go_enter Try.func4, Try.ntmps4
  by_cases hbig0 : (1048576 : Int) < (m0 : Int)
  · go_wp2_with fail
    go_ret
    exact ⟨rfl, below_alloc _ _⟩
  have hs0 : m0 ≤ 1048576 := by omega
  have b := below_alloc w (.cells #[.slice a1 n1 c1, .slice a2 n2 c2, .slice a3 n3 c3] 28)
  obtain ⟨f1, f2, f3⟩ := Dr.box3 w (.slice a1 n1 c1) (.slice a2 n2 c2) (.slice a3 n3 c3) 28
  have fl : w.heap.size < (w.alloc (.cells #[.slice a1 n1 c1, .slice a2 n2 c2, .slice a3 n3 c3] 28)).heap.size := by simp
  replace J0x := Lib.hid (J0x.out.below b)
  replace K1 := Lib.hid (K1.out.below b)
  replace K2 := Lib.hid (K2.out.below b)
  replace K3 := Lib.hid (K3.out.below b)
  replace HB := Lib.hid (HB.out.trans (b.mono HB.out.size))
  clear b
  go_wp2_with fail
  generalize w.alloc (.cells #[.slice a1 n1 c1, .slice a2 n2 c2, .slice a3 n3 c3] 28) = W at *
  have HB0 := Lib.hid HB.out
  refine (Dr.szDR_any a1 a2 a3 n1 c1 n2 c2 n3 c3 Z ny1 ny2 ny3 _ K3.out K4.out).mono ?_
  rintro e w1 ⟨r, rfl, hr, b⟩
  replace f1 := (b.cell (p := ⟨w.heap.size, 0, none⟩) fl).trans f1
  replace f2 := (b.cell (p := ⟨w.heap.size, 1, none⟩) fl).trans f2
  replace f3 := (b.cell (p := ⟨w.heap.size, 2, none⟩) fl).trans f3
  replace fl := Nat.lt_of_lt_of_le fl b.size
  replace J0x := Lib.hid (J0x.out.below b)
  replace K1 := Lib.hid (K1.out.below b)
  replace K2 := Lib.hid (K2.out.below b)
  replace K3 := Lib.hid (K3.out.below b)
  replace HB := Lib.hid (HB.out.trans (b.mono HB.out.size))
  clear b
  rcases hr with hr | ⟨hr0, hr1, hn1, hn2, hn3, hSm, hT⟩
  · go_wp2_with fail
    go_ret
    exact ⟨rfl, HB.out⟩
  have hrn : ¬ r < 0 := by omega
  have K := Lib.hid (show Dr.Arg w1 a1 n1 a2 n2 a3 n3 l m Z from ⟨hn1, hn2, hn3, K1.out, K2.out, K3.out, hSm⟩)
  have HZ := Lib.hid (show Z.length = n3 from K3.out.1)
  clear hSm hT K1 K2 K3 K4
  go_wp2_with fail
  refine (Dr.toDR_any a1 a2 a3 n1 c1 n2 c2 n3 c3 l m Z _ K.out).mono ?_
  rintro e w2 ⟨gm1, gm2, gm3, rfl, o, b⟩
  have Gm := Lib.hid (o.arg HZ.out K.out.s1 K.out.s2 K.out.s3 K.out.sm)
  clear o
  replace f1 := (b.cell (p := ⟨w.heap.size, 0, none⟩) fl).trans f1
  replace f2 := (b.cell (p := ⟨w.heap.size, 1, none⟩) fl).trans f2
  replace f3 := (b.cell (p := ⟨w.heap.size, 2, none⟩) fl).trans f3
  replace fl := Nat.lt_of_lt_of_le fl b.size
  replace J0x := Lib.hid (J0x.out.below b)
  replace K := Lib.hid (K.out.below b)
  replace HB := Lib.hid (HB.out.trans (b.mono HB.out.size))
  clear b
  go_wp2_with fail
  refine (IntT.toIntS_any p0 m0 b0 M0 hs0 _ J0x.out).mono ?_
  rintro e w2i0 ⟨gmi0, rfl, o, b⟩
  have Gmi0 := Lib.hid (GivesI.holds_own o)
  clear o
  replace f1 := (b.cell (p := ⟨w.heap.size, 0, none⟩) fl).trans f1
  replace f2 := (b.cell (p := ⟨w.heap.size, 1, none⟩) fl).trans f2
  replace f3 := (b.cell (p := ⟨w.heap.size, 2, none⟩) fl).trans f3
  replace fl := Nat.lt_of_lt_of_le fl b.size
  replace J0x := Lib.hid (J0x.out.below b)
  replace K := Lib.hid (K.out.below b)
  replace Gm := Lib.hid (Gm.out.below b)
  replace HB := Lib.hid (HB.out.trans (b.mono HB.out.size))
  clear b
  go_wp2_with fail
  refine (HM.out _ _ _ _ _ Gm.out hs0 Gmi0.out).mono ?_
  rintro e w3 ⟨rfl, b⟩
  replace f1 := (b.cell (p := ⟨w.heap.size, 0, none⟩) fl).trans f1
  replace f2 := (b.cell (p := ⟨w.heap.size, 1, none⟩) fl).trans f2
  replace f3 := (b.cell (p := ⟨w.heap.size, 2, none⟩) fl).trans f3
  replace fl := Nat.lt_of_lt_of_le fl b.size
  replace J0x := Lib.hid (J0x.out.below b)
  replace Gmi0 := Lib.hid (Gmi0.out.below b)
  replace K := Lib.hid (K.out.below b)
  replace Gm := Lib.hid (Gm.out.below b)
  replace HB := Lib.hid (HB.out.trans (b.mono HB.out.size))
  clear b
  clear Gm
  clear Gmi0
  go_wp2_with fail
  refine (Dr.toDR_any a1 a2 a3 n1 c1 n2 c2 n3 c3 l m Z _ K.out).mono ?_
  rintro e w4 ⟨gx1, gx2, gx3, rfl, o, b⟩
  have Gx := Lib.hid (o.arg HZ.out K.out.s1 K.out.s2 K.out.s3 K.out.sm)
  clear o
  replace f1 := (b.cell (p := ⟨w.heap.size, 0, none⟩) fl).trans f1
  replace f2 := (b.cell (p := ⟨w.heap.size, 1, none⟩) fl).trans f2
  replace f3 := (b.cell (p := ⟨w.heap.size, 2, none⟩) fl).trans f3
  replace fl := Nat.lt_of_lt_of_le fl b.size
  replace J0x := Lib.hid (J0x.out.below b)
  replace K := Lib.hid (K.out.below b)
  replace HB := Lib.hid (HB.out.trans (b.mono HB.out.size))
  clear b
  have b := below_alloc w4 (.cells #[.slice (some ⟨gx1, 0, none⟩) n1 n1, .slice (some ⟨gx2, 0, none⟩) n2 n2, .slice (some ⟨gx3, 0, none⟩) n3 n3] 37)
  obtain ⟨x1, x2, x3⟩ := Dr.box3 w4 (.slice (some ⟨gx1, 0, none⟩) n1 n1) (.slice (some ⟨gx2, 0, none⟩) n2 n2) (.slice (some ⟨gx3, 0, none⟩) n3 n3) 37
  have xl : w4.heap.size < (w4.alloc (.cells #[.slice (some ⟨gx1, 0, none⟩) n1 n1, .slice (some ⟨gx2, 0, none⟩) n2 n2, .slice (some ⟨gx3, 0, none⟩) n3 n3] 37)).heap.size := by simp
  replace f1 := (b.cell (p := ⟨w.heap.size, 0, none⟩) fl).trans f1
  replace f2 := (b.cell (p := ⟨w.heap.size, 1, none⟩) fl).trans f2
  replace f3 := (b.cell (p := ⟨w.heap.size, 2, none⟩) fl).trans f3
  replace fl := Nat.lt_of_lt_of_le fl b.size
  replace J0x := Lib.hid (J0x.out.below b)
  replace K := Lib.hid (K.out.below b)
  replace Gx := Lib.hid (Gx.out.below b)
  replace HB := Lib.hid (HB.out.trans (b.mono HB.out.size))
  clear b
  go_wp2_with fail
  generalize w4.alloc (.cells #[.slice (some ⟨gx1, 0, none⟩) n1 n1, .slice (some ⟨gx2, 0, none⟩) n2 n2, .slice (some ⟨gx3, 0, none⟩) n3 n3] 37) = W5 at *
  refine (IntT.toIntS_any p0 m0 b0 M0 hs0 _ J0x.out).mono ?_
  rintro e w5i0 ⟨gxi0, rfl, o, b⟩
  have Gxi0 := Lib.hid (GivesI.holds_own o)
  clear o
  replace f1 := (b.cell (p := ⟨w.heap.size, 0, none⟩) fl).trans f1
  replace f2 := (b.cell (p := ⟨w.heap.size, 1, none⟩) fl).trans f2
  replace f3 := (b.cell (p := ⟨w.heap.size, 2, none⟩) fl).trans f3
  replace fl := Nat.lt_of_lt_of_le fl b.size
  replace x1 := (b.cell (p := ⟨w4.heap.size, 0, none⟩) xl).trans x1
  replace x2 := (b.cell (p := ⟨w4.heap.size, 1, none⟩) xl).trans x2
  replace x3 := (b.cell (p := ⟨w4.heap.size, 2, none⟩) xl).trans x3
  replace xl := Nat.lt_of_lt_of_le xl b.size
  replace J0x := Lib.hid (J0x.out.below b)
  replace K := Lib.hid (K.out.below b)
  replace Gx := Lib.hid (Gx.out.below b)
  replace HB := Lib.hid (HB.out.trans (b.mono HB.out.size))
  clear b
  go_wp2_with fail
  refine (HI.out _ _ _ _ _ Gx.out hs0 Gxi0.out).mono ?_
  rintro e w6 ⟨rfl, b⟩
  replace f1 := (b.cell (p := ⟨w.heap.size, 0, none⟩) fl).trans f1
  replace f2 := (b.cell (p := ⟨w.heap.size, 1, none⟩) fl).trans f2
  replace f3 := (b.cell (p := ⟨w.heap.size, 2, none⟩) fl).trans f3
  replace fl := Nat.lt_of_lt_of_le fl b.size
  replace x1 := (b.cell (p := ⟨w4.heap.size, 0, none⟩) xl).trans x1
  replace x2 := (b.cell (p := ⟨w4.heap.size, 1, none⟩) xl).trans x2
  replace x3 := (b.cell (p := ⟨w4.heap.size, 2, none⟩) xl).trans x3
  replace xl := Nat.lt_of_lt_of_le xl b.size
  replace J0x := Lib.hid (J0x.out.below b)
  replace Gxi0 := Lib.hid (Gxi0.out.below b)
  replace K := Lib.hid (K.out.below b)
  replace Gx := Lib.hid (Gx.out.below b)
  replace HB := Lib.hid (HB.out.trans (b.mono HB.out.size))
  clear b
  have KD := Lib.hid (K.out.below (Below.refl _ _).drew)
  have GD := Lib.hid (Gx.out.below (Below.refl _ _).drew)
  go_wp2_with fail
  go_region_held3 (fun w' => w'.cell? ⟨w4.heap.size, 0, none⟩ = some (.slice (some ⟨gx1, 0, none⟩) n1 n1) ∧ w'.cell? ⟨w4.heap.size, 1, none⟩ = some (.slice (some ⟨gx2, 0, none⟩) n2 n2) ∧ w'.cell? ⟨w4.heap.size, 2, none⟩ = some (.slice (some ⟨gx3, 0, none⟩) n3 n3) ∧ w4.heap.size < w'.heap.size ∧ w'.cell? ⟨w.heap.size, 0, none⟩ = some (.slice a1 n1 c1) ∧ w'.cell? ⟨w.heap.size, 1, none⟩ = some (.slice a2 n2 c2) ∧ w'.cell? ⟨w.heap.size, 2, none⟩ = some (.slice a3 n3 c3) ∧ w.heap.size < w'.heap.size)
    (first | go_keep | (exact ⟨by assumption, by assumption, by assumption, by assumption, by assumption, by assumption, by assumption, by assumption⟩))
    (first
      | (go_at_call 16; refine (DrS.toDR_keeps a1 a2 a3 n1 c1 n2 c2 n3 c3 l m Z w6.drew KD.out ⟨x1, x2, x3, xl, f1, f2, f3, fl⟩).mono ?_; rintro e wd ⟨gd1, gd2, gd3, rfl, od, bd, ⟨s1, s2, s3, s4, s5, s6, s7, s8⟩⟩)
      | (go_at_call 18; refine (DrS.eqDR_keeps (some ⟨gx1, 0, none⟩) (some ⟨gx2, 0, none⟩) (some ⟨gx3, 0, none⟩) (some ⟨gd1, 0, none⟩) (some ⟨gd2, 0, none⟩) (some ⟨gd3, 0, none⟩) n1 n1 n2 n2 n3 n3 n1 n2 n3 l m Z wd (GD.out.below bd) od ⟨s1, s2, s3, s4, s5, s6, s7, s8⟩).mono ?_; rintro e w7 ⟨rfl, be, ⟨t1, t2, t3, t4, t5, t6, t7, t8⟩⟩))
  have b : Below w6.heap.size w6 w7 := (Below.refl w6.heap.size w6).drew.trans (bd.trans (be.mono bd.size))
  clear od bd be KD GD s1 s2 s3 s4 s5 s6 s7 s8 t1 t2 t3 t4 t5 t6 t7 t8
  replace f1 := (b.cell (p := ⟨w.heap.size, 0, none⟩) fl).trans f1
  replace f2 := (b.cell (p := ⟨w.heap.size, 1, none⟩) fl).trans f2
  replace f3 := (b.cell (p := ⟨w.heap.size, 2, none⟩) fl).trans f3
  replace fl := Nat.lt_of_lt_of_le fl b.size
  replace x1 := (b.cell (p := ⟨w4.heap.size, 0, none⟩) xl).trans x1
  replace x2 := (b.cell (p := ⟨w4.heap.size, 1, none⟩) xl).trans x2
  replace x3 := (b.cell (p := ⟨w4.heap.size, 2, none⟩) xl).trans x3
  replace xl := Nat.lt_of_lt_of_le xl b.size
  replace J0x := Lib.hid (J0x.out.below b)
  replace Gxi0 := Lib.hid (Gxi0.out.below b)
  replace K := Lib.hid (K.out.below b)
  replace Gx := Lib.hid (Gx.out.below b)
  replace HB := Lib.hid (HB.out.trans (b.mono HB.out.size))
  clear b
  go_wp2_with fail
  refine (IntT.toIntS_any p0 m0 b0 M0 hs0 _ J0x.out).mono ?_
  rintro e w8i0 ⟨gdi0, rfl, o, b⟩
  have Gdi0 := Lib.hid (GivesI.holds_own o)
  clear o
  replace f1 := (b.cell (p := ⟨w.heap.size, 0, none⟩) fl).trans f1
  replace f2 := (b.cell (p := ⟨w.heap.size, 1, none⟩) fl).trans f2
  replace f3 := (b.cell (p := ⟨w.heap.size, 2, none⟩) fl).trans f3
  replace fl := Nat.lt_of_lt_of_le fl b.size
  replace x1 := (b.cell (p := ⟨w4.heap.size, 0, none⟩) xl).trans x1
  replace x2 := (b.cell (p := ⟨w4.heap.size, 1, none⟩) xl).trans x2
  replace x3 := (b.cell (p := ⟨w4.heap.size, 2, none⟩) xl).trans x3
  replace xl := Nat.lt_of_lt_of_le xl b.size
  replace J0x := Lib.hid (J0x.out.below b)
  replace Gxi0 := Lib.hid (Gxi0.out.below b)
  replace K := Lib.hid (K.out.below b)
  replace Gx := Lib.hid (Gx.out.below b)
  replace HB := Lib.hid (HB.out.trans (b.mono HB.out.size))
  clear b
  go_wp2_with fail
  refine (GivesI.eq_same _ _ m0 m0 m0 M0 hs0 _ Gxi0.out Gdi0.out).mono ?_
  rintro e w9i0 ⟨rfl, b⟩
  replace f1 := (b.cell (p := ⟨w.heap.size, 0, none⟩) fl).trans f1
  replace f2 := (b.cell (p := ⟨w.heap.size, 1, none⟩) fl).trans f2
  replace f3 := (b.cell (p := ⟨w.heap.size, 2, none⟩) fl).trans f3
  replace fl := Nat.lt_of_lt_of_le fl b.size
  replace x1 := (b.cell (p := ⟨w4.heap.size, 0, none⟩) xl).trans x1
  replace x2 := (b.cell (p := ⟨w4.heap.size, 1, none⟩) xl).trans x2
  replace x3 := (b.cell (p := ⟨w4.heap.size, 2, none⟩) xl).trans x3
  replace xl := Nat.lt_of_lt_of_le xl b.size
  replace J0x := Lib.hid (J0x.out.below b)
  replace Gxi0 := Lib.hid (Gxi0.out.below b)
  replace Gdi0 := Lib.hid (Gdi0.out.below b)
  replace K := Lib.hid (K.out.below b)
  replace Gx := Lib.hid (Gx.out.below b)
  replace HB := Lib.hid (HB.out.trans (b.mono HB.out.size))
  clear b
  go_wp2_with fail
  go_ret
  exact ⟨rfl, HB.out⟩
end Go.Proofs.Ytfbgekhkbbhggaa.WDatingWeight
