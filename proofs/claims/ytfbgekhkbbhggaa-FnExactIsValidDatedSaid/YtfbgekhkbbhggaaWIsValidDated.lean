/- The walk of the law FnExactIsValidDated, from contracts of the program's and of the model's IsValidDated. -/
import Derived.Test.YtfbgekhkbbhggaaDrS
namespace Go.Proofs.Ytfbgekhkbbhggaa.WIsValidDated
open Go.ChangeShapes Go.WideShapes Go.ChangeAt Go.RowKit
open Pairs Rec RecEq RecOpen
set_option linter.unusedVariables false
set_option maxRecDepth 100000 in
set_option maxHeartbeats 16000000 in
theorem walk (F : List (Int × Int) → List (Int × Int) → List Zh.Pt → Bool) (hI : ∀ (a1 a2 a3 : Option Addr) (n1 n2 n3 : Nat) (l m : List (Int × Int)) (Z : List Zh.Pt) (w : World), Dr.Arg w a1 n1 a2 n2 a3 n3 l m Z → Calls Try.prog 17 #[.agg #[.slice a1 n1 n1, .slice a2 n2 n2, .slice a3 n3 n3]] w (fun e w' => e = .returned (.bool (F l m Z)) ∧ Below w.heap.size w w')) (hM : ∀ (a1 a2 a3 : Option Addr) (n1 n2 n3 : Nat) (l m : List (Int × Int)) (Z : List Zh.Pt) (w : World), Dr.Arg w a1 n1 a2 n2 a3 n3 l m Z → Calls Try.prog 15 #[.agg #[.slice a1 n1 n1, .slice a2 n2 n2, .slice a3 n3 n3]] w (fun e w' => e = .returned (.bool (F l m Z)) ∧ Below w.heap.size w w')) (a1 a2 a3 : Option Addr) (n1 c1 n2 c2 n3 c3 : Nat) (l m : List (Int × Int)) (Z : List Zh.Pt) (w : World) (y1 : n1 ≤ 9223372036854775807) (y2 : n2 ≤ 9223372036854775807) (y3 : n3 ≤ 9223372036854775807) (H1 : Holds w a1 n1 l) (H2 : Holds w a2 n2 m) (H3 : Zh.HoldsZ w a3 n3 Z) (H4 : Zh.Sm Z 9223372036854775807) :
    Calls Try.prog 3 #[.agg #[.slice a1 n1 c1, .slice a2 n2 c2, .slice a3 n3 c3]] w fun e w' => e = .returned (.bool true) ∧ Below w.heap.size w w' := by
  have hI1 := fun (q1 q2 q3 : Option Addr) (w : World) hA  => hI q1 q2 q3 n1 n2 n3 l m Z w hA 
  have hM1 := fun (q1 q2 q3 : Option Addr) (w : World) hA  => hM q1 q2 q3 n1 n2 n3 l m Z w hA 
  clear hI hM
  generalize F l m Z = r1 at hI1 hM1
  have HI := Lib.hid hI1
  have HM := Lib.hid hM1
  clear hI1 hM1
  have K1 := Lib.hid H1
  have K2 := Lib.hid H2
  have K3 := Lib.hid H3
  have K4 := Lib.hid H4
  clear H1 H2 H3 H4
  have HB := Lib.hid (Below.refl w.heap.size w)
  go_enter Try.func3, Try.ntmps3
  have b := below_alloc w (.cells #[.slice a1 n1 c1, .slice a2 n2 c2, .slice a3 n3 c3] 28)
  obtain ⟨f1, f2, f3⟩ := Dr.box3 w (.slice a1 n1 c1) (.slice a2 n2 c2) (.slice a3 n3 c3) 28
  have fl : w.heap.size < (w.alloc (.cells #[.slice a1 n1 c1, .slice a2 n2 c2, .slice a3 n3 c3] 28)).heap.size := by simp
  replace K1 := Lib.hid (K1.out.below b)
  replace K2 := Lib.hid (K2.out.below b)
  replace K3 := Lib.hid (K3.out.below b)
  replace HB := Lib.hid (HB.out.trans (b.mono HB.out.size))
  clear b
  go_wp2_with fail
  generalize w.alloc (.cells #[.slice a1 n1 c1, .slice a2 n2 c2, .slice a3 n3 c3] 28) = W at *
  have HB0 := Lib.hid HB.out
  refine (Dr.szDR_any a1 a2 a3 n1 c1 n2 c2 n3 c3 Z y1 y2 y3 _ K3.out K4.out).mono ?_
  rintro e w1 ⟨r, rfl, hr, b⟩
  replace f1 := (b.cell (p := ⟨w.heap.size, 0, none⟩) fl).trans f1
  replace f2 := (b.cell (p := ⟨w.heap.size, 1, none⟩) fl).trans f2
  replace f3 := (b.cell (p := ⟨w.heap.size, 2, none⟩) fl).trans f3
  replace fl := Nat.lt_of_lt_of_le fl b.size
  replace K1 := Lib.hid (K1.out.below b)
  replace K2 := Lib.hid (K2.out.below b)
  replace K3 := Lib.hid (K3.out.below b)
  replace HB := Lib.hid (HB.out.trans (b.mono HB.out.size))
  clear b
  rcases hr with hr | ⟨hr0, hr1, hn1, hn2, hn3, hSm, hT⟩
  · go_wp2_with fail
    go_ret
    exact ⟨rfl, HB.out⟩
  have hrn : ¬ r < 0 := by omega
  have K := Lib.hid (show Dr.Arg w1 a1 n1 a2 n2 a3 n3 l m Z from ⟨hn1, hn2, hn3, K1.out, K2.out, K3.out, hSm⟩)
  have HZ := Lib.hid (show Z.length = n3 from K3.out.1)
  clear hSm hT K1 K2 K3 K4
  go_wp2_with fail
  refine (Dr.toDR_any a1 a2 a3 n1 c1 n2 c2 n3 c3 l m Z _ K.out).mono ?_
  rintro e w2 ⟨gm1, gm2, gm3, rfl, o, b⟩
  have Gm := Lib.hid (o.arg HZ.out K.out.s1 K.out.s2 K.out.s3 K.out.sm)
  clear o
  replace f1 := (b.cell (p := ⟨w.heap.size, 0, none⟩) fl).trans f1
  replace f2 := (b.cell (p := ⟨w.heap.size, 1, none⟩) fl).trans f2
  replace f3 := (b.cell (p := ⟨w.heap.size, 2, none⟩) fl).trans f3
  replace fl := Nat.lt_of_lt_of_le fl b.size
  replace K := Lib.hid (K.out.below b)
  replace HB := Lib.hid (HB.out.trans (b.mono HB.out.size))
  clear b
  go_wp2_with fail
  refine (HM.out _ _ _ _ Gm.out).mono ?_
  rintro e w3 ⟨rfl, b⟩
  replace f1 := (b.cell (p := ⟨w.heap.size, 0, none⟩) fl).trans f1
  replace f2 := (b.cell (p := ⟨w.heap.size, 1, none⟩) fl).trans f2
  replace f3 := (b.cell (p := ⟨w.heap.size, 2, none⟩) fl).trans f3
  replace fl := Nat.lt_of_lt_of_le fl b.size
  replace K := Lib.hid (K.out.below b)
  replace Gm := Lib.hid (Gm.out.below b)
  replace HB := Lib.hid (HB.out.trans (b.mono HB.out.size))
  clear b
  clear Gm
  go_wp2_with fail
  refine (Dr.toDR_any a1 a2 a3 n1 c1 n2 c2 n3 c3 l m Z _ K.out).mono ?_
  rintro e w4 ⟨gx1, gx2, gx3, rfl, o, b⟩
  have Gx := Lib.hid (o.arg HZ.out K.out.s1 K.out.s2 K.out.s3 K.out.sm)
  clear o
  replace f1 := (b.cell (p := ⟨w.heap.size, 0, none⟩) fl).trans f1
  replace f2 := (b.cell (p := ⟨w.heap.size, 1, none⟩) fl).trans f2
  replace f3 := (b.cell (p := ⟨w.heap.size, 2, none⟩) fl).trans f3
  replace fl := Nat.lt_of_lt_of_le fl b.size
  replace K := Lib.hid (K.out.below b)
  replace HB := Lib.hid (HB.out.trans (b.mono HB.out.size))
  clear b
  have b := below_alloc w4 (.cells #[.slice (some ⟨gx1, 0, none⟩) n1 n1, .slice (some ⟨gx2, 0, none⟩) n2 n2, .slice (some ⟨gx3, 0, none⟩) n3 n3] 37)
  obtain ⟨x1, x2, x3⟩ := Dr.box3 w4 (.slice (some ⟨gx1, 0, none⟩) n1 n1) (.slice (some ⟨gx2, 0, none⟩) n2 n2) (.slice (some ⟨gx3, 0, none⟩) n3 n3) 37
  have xl : w4.heap.size < (w4.alloc (.cells #[.slice (some ⟨gx1, 0, none⟩) n1 n1, .slice (some ⟨gx2, 0, none⟩) n2 n2, .slice (some ⟨gx3, 0, none⟩) n3 n3] 37)).heap.size := by simp
  replace f1 := (b.cell (p := ⟨w.heap.size, 0, none⟩) fl).trans f1
  replace f2 := (b.cell (p := ⟨w.heap.size, 1, none⟩) fl).trans f2
  replace f3 := (b.cell (p := ⟨w.heap.size, 2, none⟩) fl).trans f3
  replace fl := Nat.lt_of_lt_of_le fl b.size
  replace K := Lib.hid (K.out.below b)
  replace Gx := Lib.hid (Gx.out.below b)
  replace HB := Lib.hid (HB.out.trans (b.mono HB.out.size))
  clear b
  go_wp2_with fail
  generalize w4.alloc (.cells #[.slice (some ⟨gx1, 0, none⟩) n1 n1, .slice (some ⟨gx2, 0, none⟩) n2 n2, .slice (some ⟨gx3, 0, none⟩) n3 n3] 37) = W5 at *
  refine (HI.out _ _ _ _ Gx.out).mono ?_
  rintro e w6 ⟨rfl, b⟩
  replace f1 := (b.cell (p := ⟨w.heap.size, 0, none⟩) fl).trans f1
  replace f2 := (b.cell (p := ⟨w.heap.size, 1, none⟩) fl).trans f2
  replace f3 := (b.cell (p := ⟨w.heap.size, 2, none⟩) fl).trans f3
  replace fl := Nat.lt_of_lt_of_le fl b.size
  replace x1 := (b.cell (p := ⟨w4.heap.size, 0, none⟩) xl).trans x1
  replace x2 := (b.cell (p := ⟨w4.heap.size, 1, none⟩) xl).trans x2
  replace x3 := (b.cell (p := ⟨w4.heap.size, 2, none⟩) xl).trans x3
  replace xl := Nat.lt_of_lt_of_le xl b.size
  replace K := Lib.hid (K.out.below b)
  replace Gx := Lib.hid (Gx.out.below b)
  replace HB := Lib.hid (HB.out.trans (b.mono HB.out.size))
  clear b
  have KD := Lib.hid (K.out.below (Below.refl _ _).drew)
  have GD := Lib.hid (Gx.out.below (Below.refl _ _).drew)
  go_wp2_with fail
  go_region_held3 (fun w' => w'.cell? ⟨w4.heap.size, 0, none⟩ = some (.slice (some ⟨gx1, 0, none⟩) n1 n1) ∧ w'.cell? ⟨w4.heap.size, 1, none⟩ = some (.slice (some ⟨gx2, 0, none⟩) n2 n2) ∧ w'.cell? ⟨w4.heap.size, 2, none⟩ = some (.slice (some ⟨gx3, 0, none⟩) n3 n3) ∧ w4.heap.size < w'.heap.size ∧ w'.cell? ⟨w.heap.size, 0, none⟩ = some (.slice a1 n1 c1) ∧ w'.cell? ⟨w.heap.size, 1, none⟩ = some (.slice a2 n2 c2) ∧ w'.cell? ⟨w.heap.size, 2, none⟩ = some (.slice a3 n3 c3) ∧ w.heap.size < w'.heap.size)
    (first | go_keep | (exact ⟨by assumption, by assumption, by assumption, by assumption, by assumption, by assumption, by assumption, by assumption⟩))
    (first
      | (go_at_call 16; refine (DrS.toDR_keeps a1 a2 a3 n1 c1 n2 c2 n3 c3 l m Z w6.drew KD.out ⟨x1, x2, x3, xl, f1, f2, f3, fl⟩).mono ?_; rintro e wd ⟨gd1, gd2, gd3, rfl, od, bd, ⟨s1, s2, s3, s4, s5, s6, s7, s8⟩⟩)
      | (go_at_call 18; refine (DrS.eqDR_keeps (some ⟨gx1, 0, none⟩) (some ⟨gx2, 0, none⟩) (some ⟨gx3, 0, none⟩) (some ⟨gd1, 0, none⟩) (some ⟨gd2, 0, none⟩) (some ⟨gd3, 0, none⟩) n1 n1 n2 n2 n3 n3 n1 n2 n3 l m Z wd (GD.out.below bd) od ⟨s1, s2, s3, s4, s5, s6, s7, s8⟩).mono ?_; rintro e w7 ⟨rfl, be, ⟨t1, t2, t3, t4, t5, t6, t7, t8⟩⟩))
  have b : Below w6.heap.size w6 w7 := (Below.refl w6.heap.size w6).drew.trans (bd.trans (be.mono bd.size))
  clear od bd be KD GD s1 s2 s3 s4 s5 s6 s7 s8 t1 t2 t3 t4 t5 t6 t7 t8
  replace f1 := (b.cell (p := ⟨w.heap.size, 0, none⟩) fl).trans f1
  replace f2 := (b.cell (p := ⟨w.heap.size, 1, none⟩) fl).trans f2
  replace f3 := (b.cell (p := ⟨w.heap.size, 2, none⟩) fl).trans f3
  replace fl := Nat.lt_of_lt_of_le fl b.size
  replace x1 := (b.cell (p := ⟨w4.heap.size, 0, none⟩) xl).trans x1
  replace x2 := (b.cell (p := ⟨w4.heap.size, 1, none⟩) xl).trans x2
  replace x3 := (b.cell (p := ⟨w4.heap.size, 2, none⟩) xl).trans x3
  replace xl := Nat.lt_of_lt_of_le xl b.size
  replace K := Lib.hid (K.out.below b)
  replace Gx := Lib.hid (Gx.out.below b)
  replace HB := Lib.hid (HB.out.trans (b.mono HB.out.size))
  clear b
  go_wp2_with fail
  go_ret
  exact ⟨rfl, HB.out⟩
end Go.Proofs.Ytfbgekhkbbhggaa.WIsValidDated
