/- The walk of the law FnExactIsValidEvidence, from contracts of the program's and of the model's IsValidEvidence. -/
import Derived.Test.YtmjhgjlnpnkmkaaLawKit
import Derived.Test.YtmjhgjlnpnkmkaaDaT
namespace Go.Proofs.Ytmjhgjlnpnkmkaa.WIsValidEvidence
open Go.ChangeShapes Go.WideShapes Go.ChangeAt Go.RowKit
open Pairs Rec RecEq RecOpen
open LawKit (S toRecord_keeps eqRecord_keeps ownHolds)
set_option linter.unusedVariables false
set_option maxRecDepth 100000 in
set_option maxHeartbeats 8000000 in
theorem walk (F : List (Int × Int) → List (Int × Int) → List Da.Dt → Bool) (hI : ∀ (a1 a2 : Option Addr) (n1 c1 n2 c2 : Nat) (l m : List (Int × Int)) (p : Option Addr) (np : Nat) (L : List Da.Dt) (w : World), n1 ≤ 1048576 → n2 ≤ 1048576 → Holds w a1 n1 l → Holds w a2 n2 m → np ≤ 1048576 → Da.HoldsD w p np L → Calls Try.prog 17 #[.agg #[.slice a1 n1 c1, .slice a2 n2 c2], .slice p np np] w fun e w' => e = .returned (.bool (F l m L)) ∧ Below w.heap.size w w') (hM : ∀ (a1 a2 : Option Addr) (n1 c1 n2 c2 : Nat) (l m : List (Int × Int)) (p : Option Addr) (np : Nat) (L : List Da.Dt) (w : World), n1 ≤ 1048576 → n2 ≤ 1048576 → Holds w a1 n1 l → Holds w a2 n2 m → np ≤ 1048576 → Da.HoldsD w p np L → Calls Try.prog 14 #[.agg #[.slice a1 n1 c1, .slice a2 n2 c2], .slice p np np] w fun e w' => e = .returned (.bool (F l m L)) ∧ Below w.heap.size w w') (a1 a2 : Option Addr) (n1 c1 n2 c2 : Nat) (l1 l2 : List (Int × Int)) (p : Option Addr) (np cp : Nat) (L : List Da.Dt) (w : World) (z1 : n1 ≤ 9223372036854775807) (z2 : n2 ≤ 9223372036854775807) (H1 : Holds w a1 n1 l1) (H2 : Holds w a2 n2 l2) (z3 : np ≤ 9223372036854775807) (H3 : Da.HoldsD w p np L) :
    Calls Try.prog 3 #[.agg #[.slice a1 n1 c1, .slice a2 n2 c2], .slice p np cp] w fun e w' => e = .returned (.bool true) ∧ Below w.heap.size w w' := by
  have hb0 := below_alloc w (.cells #[.slice a1 n1 c1, .slice a2 n2 c2] 25)
  have f1 := box_first w (.slice a1 n1 c1) (.slice a2 n2 c2) 25
  have f2 := box_second w (.slice a1 n1 c1) (.slice a2 n2 c2) 25
  have hlt : w.heap.size < (w.alloc (.cells #[.slice a1 n1 c1, .slice a2 n2 c2] 25)).heap.size := by simp
  have K1 := Lib.hid (H1.below hb0)
  have K2 := Lib.hid (H2.below hb0)
  have K3 := Lib.hid (H3.below hb0)
  clear H1 H2 H3
  have hI1 := fun (p1 p2 p3 : Option Addr) (w : World) h1 h2 h3 h4 h5 h6 => hI p1 p2 n1 n1 n2 n2 l1 l2 p3 np L w h1 h2 h3 h4 h5 h6
  have hM1 := fun (p1 p2 p3 : Option Addr) (w : World) h1 h2 h3 h4 h5 h6 => hM p1 p2 n1 n1 n2 n2 l1 l2 p3 np L w h1 h2 h3 h4 h5 h6
  clear hI hM
  generalize F l1 l2 L = r1 at hI1 hM1
  have HI := Lib.hid hI1
  have HM := Lib.hid hM1
  clear hI1 hM1
  go_enter Try.func3, Try.ntmps3
  go_wp2_with fail
  generalize w.alloc (.cells #[.slice a1 n1 c1, .slice a2 n2 c2] 25) = W at *
  refine (szRecord_any a1 a2 n1 c1 n2 c2 z1 z2 W).mono ?_
  rintro e w1 ⟨rfl, b1⟩
  have k1 := (b1.cell (p := ⟨w.heap.size, 0, none⟩) hlt).trans f1
  have k2 := (b1.cell (p := ⟨w.heap.size, 1, none⟩) hlt).trans f2
  by_cases hbig : (1048576 : Int) < (n1 : Int) + n2
  · have hl : left n1 n2 = -1 := by unfold left; rw [if_pos hbig]
    rw [hl]
    go_wp2_with fail
    go_ret
    exact ⟨rfl, hb0.trans (b1.mono hb0.size)⟩
  · have hl : left n1 n2 = 1048576 - n1 - n2 := by unfold left; rw [if_neg hbig]
    rw [hl]
    clear hl
    have hs1 : n1 ≤ 1048576 := by omega
    have hs2 : n2 ≤ 1048576 := by omega
    have hnn : ¬ (1048576 : Int) - n1 - n2 < 0 := by omega
    go_wp2_with fail
    refine (DaT.szDatedS_any p np cp (1048576 - n1 - n2) (by omega) (by omega) z3 w1).mono ?_
    rintro e wz ⟨rfl, rfl⟩
    by_cases hbp : (1048576 : Int) - n1 - n2 < np
    · rw [if_pos hbp]
      go_wp2_with fail
      go_ret
      exact ⟨rfl, hb0.trans (b1.mono hb0.size)⟩
    · rw [if_neg hbp]
      have B1Z := Lib.hid b1
      have hnp : np ≤ 1048576 := by omega
      have hrn : ¬ (1048576 : Int) - n1 - n2 - np < 0 := by omega
      clear b1
      go_wp2_with fail
      refine (toRecord_any a1 a2 n1 c1 n2 c2 l1 l2 hs1 hs2 _ (K1.out.below B1Z.out) (K2.out.below B1Z.out)).mono ?_
      rintro e w2 ⟨g1, g2, rfl, o2, b2⟩
      have b12 := B1Z.out.trans (b2.mono B1Z.out.size)
      have hh := ownHolds o2
      have hh1 := Lib.hid hh.1
      have hh2 := Lib.hid hh.2
      have B12 := Lib.hid b12
      clear hh o2 b2 b12 k1 k2
      go_wp2_with fail
      refine (DaT.toDatedS_any p np cp L hnp _ (K3.out.below B12.out)).mono ?_
      rintro e w3 ⟨g3, rfl, o3, b3⟩
      have b13 := B12.out.trans (b3.mono B12.out.size)
      have hh3 := Lib.hid (hh1.out.below b3)
      have hh4 := Lib.hid (hh2.out.below b3)
      have HP3 := Lib.hid (Da.holds_ownD o3)
      have B13 := Lib.hid b13
      clear b13 b3 o3 hh1 hh2
      go_wp2_with fail
      refine (HM.out _ _ _ _ hs1 hs2 hh3.out hh4.out hnp HP3.out).mono ?_
      rintro e X ⟨rfl, b4⟩
      have bX := B13.out.trans (b4.mono B13.out.size)
      have m1 := (bX.cell (p := ⟨w.heap.size, 0, none⟩) hlt).trans f1
      have m2 := (bX.cell (p := ⟨w.heap.size, 1, none⟩) hlt).trans f2
      have KX1 := Lib.hid (K1.out.below bX)
      have KX2 := Lib.hid (K2.out.below bX)
      have KX3 := Lib.hid (K3.out.below bX)
      have HBX := Lib.hid (hb0.trans (bX.mono hb0.size))
      have hltX := Nat.lt_of_lt_of_le hlt bX.size
      clear b4 hh3 hh4 HP3 bX hb0 K1 K2 K3 f1 f2 B1Z B12 B13
      go_wp2_with fail
      refine (toRecord_any a1 a2 n1 c1 n2 c2 l1 l2 hs1 hs2 _ KX1.out KX2.out).mono ?_
      rintro e w4 ⟨g4, g5, rfl, o4, b4⟩
      have hb5 := below_alloc w4 (.cells #[.slice (some ⟨g4, 0, none⟩) n1 n1, .slice (some ⟨g5, 0, none⟩) n2 n2] 33)
      have x1 := box_first w4 (.slice (some ⟨g4, 0, none⟩) n1 n1) (.slice (some ⟨g5, 0, none⟩) n2 n2) 33
      have x2 := box_second w4 (.slice (some ⟨g4, 0, none⟩) n1 n1) (.slice (some ⟨g5, 0, none⟩) n2 n2) 33
      have hlt5 : w4.heap.size < (w4.alloc (.cells #[.slice (some ⟨g4, 0, none⟩) n1 n1, .slice (some ⟨g5, 0, none⟩) n2 n2] 33)).heap.size := by simp
      have B5 := Lib.hid (b4.trans (hb5.mono b4.size))
      have hh5 := Lib.hid ((ownHolds o4).1.below hb5)
      have hh6 := Lib.hid ((ownHolds o4).2.below hb5)
      clear o4 b4 hb5
      go_wp2_with fail
      generalize w4.alloc (.cells #[.slice (some ⟨g4, 0, none⟩) n1 n1, .slice (some ⟨g5, 0, none⟩) n2 n2] 33) = W5 at *
      refine (DaT.toDatedS_any p np cp L hnp _ (KX3.out.below B5.out)).mono ?_
      rintro e w6 ⟨g6, rfl, o6, b6⟩
      have B6 := Lib.hid (B5.out.trans (b6.mono B5.out.size))
      have y1 := (b6.cell (p := ⟨w4.heap.size, 0, none⟩) hlt5).trans x1
      have y2 := (b6.cell (p := ⟨w4.heap.size, 1, none⟩) hlt5).trans x2
      have hh7 := Lib.hid (hh5.out.below b6)
      have hh8 := Lib.hid (hh6.out.below b6)
      have HP6 := Lib.hid (Da.holds_ownD o6)
      have hlt6 := Nat.lt_of_lt_of_le hlt5 b6.size
      clear x1 x2 o6 b6 hh5 hh6
      go_wp2_with fail
      refine (HI.out _ _ _ _ hs1 hs2 hh7.out hh8.out hnp HP6.out).mono ?_
      rintro e w7 ⟨rfl, b7⟩
      have y1 := (b7.cell (p := ⟨w4.heap.size, 0, none⟩) hlt6).trans y1
      have y2 := (b7.cell (p := ⟨w4.heap.size, 1, none⟩) hlt6).trans y2
      have b67 := B6.out.trans (b7.mono B6.out.size)
      have j1 := (b67.cell (p := ⟨w.heap.size, 0, none⟩) hltX).trans m1
      have j2 := (b67.cell (p := ⟨w.heap.size, 1, none⟩) hltX).trans m2
      have hh9 := Lib.hid (hh7.out.below b7)
      have hh10 := Lib.hid (hh8.out.below b7)
      have HP7 := Lib.hid (HP6.out.below b7)
      have hlt7 := Nat.lt_of_lt_of_le hlt6 b7.size
      have hltw7 := Nat.lt_of_lt_of_le hltX b67.size
      have B7 := Lib.hid b67
      clear b7 b67 hh7 hh8 HP6
      go_wp2_with fail
      have hK1 := Lib.hid (KX1.out.below B7.out.drew)
      have hK2 := Lib.hid (KX2.out.below B7.out.drew)
      have hh11 := Lib.hid (hh9.out.below (Below.refl w7.heap.size w7).drew)
      have hh12 := Lib.hid (hh10.out.below (Below.refl w7.heap.size w7).drew)
      go_region_held3 (fun w' => w'.cell? ⟨w4.heap.size, 0, none⟩ = some (.slice (some ⟨g4, 0, none⟩) n1 n1) ∧ w'.cell? ⟨w4.heap.size, 1, none⟩ = some (.slice (some ⟨g5, 0, none⟩) n2 n2) ∧ w4.heap.size < w'.heap.size ∧ w'.cell? ⟨w.heap.size, 0, none⟩ = some (.slice a1 n1 c1) ∧ w'.cell? ⟨w.heap.size, 1, none⟩ = some (.slice a2 n2 c2) ∧ w.heap.size < w'.heap.size)
        (first | go_keep | (exact ⟨by assumption, by assumption, by assumption, by assumption, by assumption, by assumption⟩))
        (first
          | (go_at_call 15; refine (toRecord_keeps a1 a2 n1 c1 n2 c2 l1 l2 hs1 hs2 w4.heap.size w.heap.size (.slice (some ⟨g4, 0, none⟩) n1 n1) (.slice (some ⟨g5, 0, none⟩) n2 n2) (.slice a1 n1 c1) (.slice a2 n2 c2) w7.drew hK1.out hK2.out ⟨y1, y2, hlt7, j1, j2, hltw7⟩).mono ?_; rintro e w8 ⟨g7, g8, rfl, o8, b8, s1, s2, s3, s4, s5, s6⟩)
          | (go_at_call 18; refine (eqRecord_keeps (some ⟨g4, 0, none⟩) (some ⟨g5, 0, none⟩) (some ⟨g7, 0, none⟩) (some ⟨g8, 0, none⟩) n1 n2 n1 n2 n1 n2 l1 l2 hs1 hs2 w4.heap.size w.heap.size (.slice (some ⟨g4, 0, none⟩) n1 n1) (.slice (some ⟨g5, 0, none⟩) n2 n2) (.slice a1 n1 c1) (.slice a2 n2 c2) w8 (hh11.out.below b8) (hh12.out.below b8) (ownHolds o8).1 (ownHolds o8).2 ⟨s1, s2, s3, s4, s5, s6⟩).mono ?_; rintro e w9 ⟨rfl, b9, t1, t2, t3, t4, t5, t6⟩))
      have b79 : Below w7.heap.size w7 w9 := (Below.refl w7.heap.size w7).drew.trans (b8.trans (b9.mono b8.size))
      have B9 := Lib.hid (B7.out.trans (b79.mono B7.out.size))
      have HP9 := Lib.hid (HP7.out.below b79)
      clear o8 b8 b9 b79 s1 s2 s3 s4 s5 s6 y1 y2 j1 j2 t1 t2 t4 t5 hh11 hh12 HP7
      go_wp2_with fail
      refine (DaT.toDatedS_any p np cp L hnp _ (KX3.out.below B9.out)).mono ?_
      rintro e w10 ⟨g9, rfl, o10, b10⟩
      have B10 := Lib.hid (B9.out.trans (b10.mono B9.out.size))
      have HP10 := Lib.hid (HP9.out.below b10)
      have HQ10 := Lib.hid (Da.holds_ownD o10)
      clear o10 b10
      go_wp2_with fail
      refine (DaT.eqDatedS_same _ _ np np np L hnp _ HP10.out HQ10.out).mono ?_
      rintro e w11 ⟨rfl, b11⟩
      have HB := Lib.hid (HBX.out.trans ((B10.out.trans (b11.mono B10.out.size)).mono HBX.out.size))
      clear b11
      go_wp2_with fail
      go_ret
      exact ⟨rfl, HB.out⟩
end Go.Proofs.Ytmjhgjlnpnkmkaa.WIsValidEvidence
