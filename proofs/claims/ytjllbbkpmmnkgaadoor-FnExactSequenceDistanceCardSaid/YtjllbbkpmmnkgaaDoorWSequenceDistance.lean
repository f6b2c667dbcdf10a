/- The walk of the law FnExactSequenceDistance, from contracts of the program's and of the model's SequenceDistance. -/
import Derived.Test.YtjllbbkpmmnkgaaDoorLawKit
import Derived.Test.YtjllbbkpmmnkgaaDoorGivesI
import Derived.Test.YtjllbbkpmmnkgaaDoorIntT
namespace Go.Proofs.YtjllbbkpmmnkgaaDoor.WSequenceDistance
open Go.ChangeShapes Go.WideShapes Go.ChangeAt Go.RowKit
open Pairs Rec RecEq RecOpen
open LawKit (S toRecord_keeps eqRecord_keeps ownHolds)
set_option linter.unusedVariables false
set_option maxRecDepth 100000 in
set_option maxHeartbeats 8000000 in
theorem walk (V : World → Prop) (hV : ∀ w w', V w → Below w.heap.size w w' → V w') (F : List (Int × Int) → List (Int × Int) → List Int → List Int → Int × Bool) (hI : ∀ (a1 a2 : Option Addr) (n1 c1 n2 c2 : Nat) (l m : List (Int × Int)) (p0 : Option Addr) (np0 : Nat) (L0 : List Int) (p1 : Option Addr) (np1 : Nat) (L1 : List Int) (w : World), n1 ≤ c1 → n1 ≤ 1048576 → n2 ≤ 1048576 → Holds w a1 n1 l → Holds w a2 n2 m → np0 ≤ 1048576 → GivesI.HoldsI w p0 np0 L0 → np1 ≤ 1048576 → GivesI.HoldsI w p1 np1 L1 → V w → Calls Tryd.prog 19 #[.agg #[.slice a1 n1 c1, .slice a2 n2 c2], .slice p0 np0 np0, .slice p1 np1 np1] w fun e w' => e = .returned (.tuple #[.int .i64 ((F l m L0 L1).1), .bool ((F l m L0 L1).2)]) ∧ Below w.heap.size w w') (hM : ∀ (a1 a2 : Option Addr) (n1 c1 n2 c2 : Nat) (l m : List (Int × Int)) (p0 : Option Addr) (np0 : Nat) (L0 : List Int) (p1 : Option Addr) (np1 : Nat) (L1 : List Int) (w : World), n1 ≤ c1 → n1 ≤ 1048576 → n2 ≤ 1048576 → Holds w a1 n1 l → Holds w a2 n2 m → np0 ≤ 1048576 → GivesI.HoldsI w p0 np0 L0 → np1 ≤ 1048576 → GivesI.HoldsI w p1 np1 L1 → Calls Tryd.prog 18 #[.agg #[.slice a1 n1 c1, .slice a2 n2 c2], .slice p0 np0 np0, .slice p1 np1 np1] w fun e w' => e = .returned (.tuple #[.int .i64 ((F l m L0 L1).1), .bool ((F l m L0 L1).2)]) ∧ Below w.heap.size w w') (a1 a2 : Option Addr) (n1 c1 n2 c2 : Nat) (l1 l2 : List (Int × Int)) (p0 : Option Addr) (np0 cp0 : Nat) (L0 : List Int) (p1 : Option Addr) (np1 cp1 : Nat) (L1 : List Int) (w : World) (z1 : n1 ≤ 9223372036854775807) (z2 : n2 ≤ 9223372036854775807) (H1 : Holds w a1 n1 l1) (H2 : Holds w a2 n2 l2) (K0 : GivesI.HoldsI w p0 np0 L0) (K1 : GivesI.HoldsI w p1 np1 L1) (v0 : V w) :
    Calls Tryd.prog 4 #[.agg #[.slice a1 n1 c1, .slice a2 n2 c2], .slice p0 np0 cp0, .slice p1 np1 cp1] w fun e w' => e = .returned (.bool true) ∧ Below w.heap.size w w' := by
  have HV : Hid (∀ wr, Below w.heap.size w wr → V wr) := fun wr hb => hV _ _ v0 hb
  clear hV v0
  rcases Nat.lt_or_ge 1048576 np0 with hq0 | hs00
  · have hbg : (1048576 : Int) < (np0 : Int) := by omega
    go_enter Tryd.func4, Tryd.ntmps4
    go_wp2_with fail
    go_ret
    exact ⟨rfl, below_alloc _ _⟩
  have hsb0 : ¬ (1048576 : Int) < (np0 : Int) := by omega
  rcases Nat.lt_or_ge 1048576 np1 with hq1 | hs10
  · have hbg : (1048576 : Int) < (np1 : Int) := by omega
    go_enter Tryd.func4, Tryd.ntmps4
    go_wp2_with fail
    go_ret
    exact ⟨rfl, below_alloc _ _⟩
  have hsb1 : ¬ (1048576 : Int) < (np1 : Int) := by omega
  have hb0 := below_alloc w (.cells #[.slice a1 n1 c1, .slice a2 n2 c2] 25)
  have f1 := box_first w (.slice a1 n1 c1) (.slice a2 n2 c2) 25
  have f2 := box_second w (.slice a1 n1 c1) (.slice a2 n2 c2) 25
  have hlt : w.heap.size < (w.alloc (.cells #[.slice a1 n1 c1, .slice a2 n2 c2] 25)).heap.size := by simp
  have K1A := Lib.hid (H1.below hb0)
  have K2A := Lib.hid (H2.below hb0)
  have KS0 := Lib.hid (K0.below hb0)
  have KS1 := Lib.hid (K1.below hb0)
  clear H1 H2 K0 K1
  have hI1 := fun (p1 p2 q0 q1 : Option Addr) (w : World) h1 h2 h3 h4 h5 h6 h7 h8 => hI p1 p2 n1 n1 n2 n2 l1 l2 q0 np0 L0 q1 np1 L1 w (Nat.le_refl _) h1 h2 h3 h4 h5 h6 h7 h8
  have hM1 := fun (p1 p2 q0 q1 : Option Addr) (w : World) h1 h2 h3 h4 h5 h6 h7 h8 => hM p1 p2 n1 n1 n2 n2 l1 l2 q0 np0 L0 q1 np1 L1 w (Nat.le_refl _) h1 h2 h3 h4 h5 h6 h7 h8
  clear hI hM
  generalize F l1 l2 L0 L1 = FF at hI1 hM1
  obtain ⟨r1, r2⟩ := FF
  have HI := Lib.hid hI1
  have HM := Lib.hid hM1
  clear hI1 hM1
  go_enter Tryd.func4, Tryd.ntmps4
  go_wp2_with fail
  generalize w.alloc (.cells #[.slice a1 n1 c1, .slice a2 n2 c2] 25) = W at *
  refine (szRecord_any a1 a2 n1 c1 n2 c2 z1 z2 W).mono ?_
  rintro e w1 ⟨rfl, b1⟩
  have k1 := (b1.cell (p := ⟨w.heap.size, 0, none⟩) hlt).trans f1
  have k2 := (b1.cell (p := ⟨w.heap.size, 1, none⟩) hlt).trans f2
  by_cases hbig : (1048576 : Int) < (n1 : Int) + n2
  · have hl : left n1 n2 = -1 := by unfold left; rw [if_pos hbig]
    rw [hl]
    go_wp2_with fail
    go_ret
    exact ⟨rfl, hb0.trans (b1.mono hb0.size)⟩
  · have hl : left n1 n2 = 1048576 - n1 - n2 := by unfold left; rw [if_neg hbig]
    rw [hl]
    clear hl
    have hs1 : n1 ≤ 1048576 := by omega
    have hs2 : n2 ≤ 1048576 := by omega
    have hnn : ¬ (1048576 : Int) - n1 - n2 < 0 := by omega
    go_wp2_with fail
    refine (toRecord_any a1 a2 n1 c1 n2 c2 l1 l2 hs1 hs2 _ (K1A.out.below b1) (K2A.out.below b1)).mono ?_
    rintro e w2 ⟨g1, g2, rfl, o2, b2⟩
    have b12 := b1.trans (b2.mono b1.size)
    have hh := ownHolds o2
    have HA1 := Lib.hid hh.1
    have HA2 := Lib.hid hh.2
    have BA := Lib.hid b12
    clear hh o2 b1 b2 b12 k1 k2
    go_wp2_with fail
    refine (IntT.toIntS_any p0 np0 cp0 L0 hs00 _ (KS0.out.below BA.out)).mono ?_
    rintro e wa0 ⟨ga0, rfl, oa0, ba0⟩
    have HP0 := Lib.hid (GivesI.holds_own oa0)
    have HB1 := Lib.hid (HA1.out.below ba0)
    have HB2 := Lib.hid (HA2.out.below ba0)
    clear HA1 HA2
    have HA1 := Lib.hid HB1.out
    have HA2 := Lib.hid HB2.out
    have BB := Lib.hid (BA.out.trans (ba0.mono BA.out.size))
    clear HB1 HB2 BA
    have BA := Lib.hid BB.out
    clear BB oa0 ba0
    go_wp2_with fail
    refine (IntT.toIntS_any p1 np1 cp1 L1 hs10 _ (KS1.out.below BA.out)).mono ?_
    rintro e wa1 ⟨ga1, rfl, oa1, ba1⟩
    have HP1 := Lib.hid (GivesI.holds_own oa1)
    have HB1 := Lib.hid (HA1.out.below ba1)
    have HB2 := Lib.hid (HA2.out.below ba1)
    have HPP0 := Lib.hid (HP0.out.below ba1)
    clear HP0
    have HP0 := Lib.hid HPP0.out
    clear HPP0
    clear HA1 HA2
    have HA1 := Lib.hid HB1.out
    have HA2 := Lib.hid HB2.out
    have BB := Lib.hid (BA.out.trans (ba1.mono BA.out.size))
    clear HB1 HB2 BA
    have BA := Lib.hid BB.out
    clear BB oa1 ba1
    go_wp2_with fail
    refine (HM.out _ _ _ _ _ hs1 hs2 HA1.out HA2.out hs00 HP0.out hs10 HP1.out).mono ?_
    rintro e X ⟨rfl, b4⟩
    have bX := BA.out.trans (b4.mono BA.out.size)
    have m1 := (bX.cell (p := ⟨w.heap.size, 0, none⟩) hlt).trans f1
    have m2 := (bX.cell (p := ⟨w.heap.size, 1, none⟩) hlt).trans f2
    have KX1 := Lib.hid (K1A.out.below bX)
    have KX2 := Lib.hid (K2A.out.below bX)
    have KY0 := Lib.hid (KS0.out.below bX)
    have KY1 := Lib.hid (KS1.out.below bX)
    have HBX := Lib.hid (hb0.trans (bX.mono hb0.size))
    have hltX := Nat.lt_of_lt_of_le hlt bX.size
    clear b4 HA1 HA2 bX hb0 K1A K2A f1 f2 BA KS0 HP0 KS1 HP1
    go_wp2_with fail
    refine (toRecord_any a1 a2 n1 c1 n2 c2 l1 l2 hs1 hs2 _ KX1.out KX2.out).mono ?_
    rintro e w4 ⟨g4, g5, rfl, o4, b4⟩
    have hb5 := below_alloc w4 (.cells #[.slice (some ⟨g4, 0, none⟩) n1 n1, .slice (some ⟨g5, 0, none⟩) n2 n2] 33)
    have x1 := box_first w4 (.slice (some ⟨g4, 0, none⟩) n1 n1) (.slice (some ⟨g5, 0, none⟩) n2 n2) 33
    have x2 := box_second w4 (.slice (some ⟨g4, 0, none⟩) n1 n1) (.slice (some ⟨g5, 0, none⟩) n2 n2) 33
    have hlt5 : w4.heap.size < (w4.alloc (.cells #[.slice (some ⟨g4, 0, none⟩) n1 n1, .slice (some ⟨g5, 0, none⟩) n2 n2] 33)).heap.size := by simp
    have B5 := Lib.hid (b4.trans (hb5.mono b4.size))
    have hh5 := Lib.hid ((ownHolds o4).1.below hb5)
    have hh6 := Lib.hid ((ownHolds o4).2.below hb5)
    clear o4 b4 hb5
    go_wp2_with fail
    generalize w4.alloc (.cells #[.slice (some ⟨g4, 0, none⟩) n1 n1, .slice (some ⟨g5, 0, none⟩) n2 n2] 33) = W5 at *
    refine (IntT.toIntS_any p0 np0 cp0 L0 hs00 _ (KY0.out.below B5.out)).mono ?_
    rintro e wb0 ⟨gb0, rfl, ob0, bb0⟩
    have HP0 := Lib.hid (GivesI.holds_own ob0)
    have HB1 := Lib.hid (hh5.out.below bb0)
    have HB2 := Lib.hid (hh6.out.below bb0)
    have y1 := (bb0.cell (p := ⟨w4.heap.size, 0, none⟩) hlt5).trans x1
    have y2 := (bb0.cell (p := ⟨w4.heap.size, 1, none⟩) hlt5).trans x2
    have hlt5b := Nat.lt_of_lt_of_le hlt5 bb0.size
    clear hh5 hh6 x1 x2 hlt5
    have hh5 := Lib.hid HB1.out
    have hh6 := Lib.hid HB2.out
    have x1 := y1
    have x2 := y2
    have hlt5 := hlt5b
    have BB := Lib.hid (B5.out.trans (bb0.mono B5.out.size))
    clear HB1 HB2 B5 y1 y2 hlt5b
    have B5 := Lib.hid BB.out
    clear BB ob0 bb0
    go_wp2_with fail
    refine (IntT.toIntS_any p1 np1 cp1 L1 hs10 _ (KY1.out.below B5.out)).mono ?_
    rintro e wb1 ⟨gb1, rfl, ob1, bb1⟩
    have HP1 := Lib.hid (GivesI.holds_own ob1)
    have HB1 := Lib.hid (hh5.out.below bb1)
    have HB2 := Lib.hid (hh6.out.below bb1)
    have HPP0 := Lib.hid (HP0.out.below bb1)
    clear HP0
    have HP0 := Lib.hid HPP0.out
    clear HPP0
    have y1 := (bb1.cell (p := ⟨w4.heap.size, 0, none⟩) hlt5).trans x1
    have y2 := (bb1.cell (p := ⟨w4.heap.size, 1, none⟩) hlt5).trans x2
    have hlt5b := Nat.lt_of_lt_of_le hlt5 bb1.size
    clear hh5 hh6 x1 x2 hlt5
    have hh5 := Lib.hid HB1.out
    have hh6 := Lib.hid HB2.out
    have x1 := y1
    have x2 := y2
    have hlt5 := hlt5b
    have BB := Lib.hid (B5.out.trans (bb1.mono B5.out.size))
    clear HB1 HB2 B5 y1 y2 hlt5b
    have B5 := Lib.hid BB.out
    clear BB ob1 bb1
    go_wp2_with fail
    refine (HI.out _ _ _ _ _ hs1 hs2 hh5.out hh6.out hs00 HP0.out hs10 HP1.out (HV.out _ (HBX.out.trans (B5.out.mono HBX.out.size)))).mono ?_
    rintro e w7 ⟨rfl, b7⟩
    have y1 := (b7.cell (p := ⟨w4.heap.size, 0, none⟩) hlt5).trans x1
    have y2 := (b7.cell (p := ⟨w4.heap.size, 1, none⟩) hlt5).trans x2
    have b67 := B5.out.trans (b7.mono B5.out.size)
    have j1 := (b67.cell (p := ⟨w.heap.size, 0, none⟩) hltX).trans m1
    have j2 := (b67.cell (p := ⟨w.heap.size, 1, none⟩) hltX).trans m2
    have hh9 := Lib.hid (hh5.out.below b7)
    have hh10 := Lib.hid (hh6.out.below b7)
    have HQ0 := Lib.hid (HP0.out.below b7)
    have HQ1 := Lib.hid (HP1.out.below b7)
    have hlt7 := Nat.lt_of_lt_of_le hlt5 b7.size
    have hltw7 := Nat.lt_of_lt_of_le hltX b67.size
    have B7 := Lib.hid b67
    clear b7 b67 hh5 hh6 HP0 HP1
    go_wp2_with fail
    have hK1 := Lib.hid (KX1.out.below B7.out.drew)
    have hK2 := Lib.hid (KX2.out.below B7.out.drew)
    have hh11 := Lib.hid (hh9.out.below (Below.refl w7.heap.size w7).drew)
    have hh12 := Lib.hid (hh10.out.below (Below.refl w7.heap.size w7).drew)
    go_region_held3 (fun w' => w'.cell? ⟨w4.heap.size, 0, none⟩ = some (.slice (some ⟨g4, 0, none⟩) n1 n1) ∧ w'.cell? ⟨w4.heap.size, 1, none⟩ = some (.slice (some ⟨g5, 0, none⟩) n2 n2) ∧ w4.heap.size < w'.heap.size ∧ w'.cell? ⟨w.heap.size, 0, none⟩ = some (.slice a1 n1 c1) ∧ w'.cell? ⟨w.heap.size, 1, none⟩ = some (.slice a2 n2 c2) ∧ w.heap.size < w'.heap.size)
      (first | go_keep | (exact ⟨by assumption, by assumption, by assumption, by assumption, by assumption, by assumption⟩))
      (first
        | (go_at_call 13; refine (toRecord_keeps a1 a2 n1 c1 n2 c2 l1 l2 hs1 hs2 w4.heap.size w.heap.size (.slice (some ⟨g4, 0, none⟩) n1 n1) (.slice (some ⟨g5, 0, none⟩) n2 n2) (.slice a1 n1 c1) (.slice a2 n2 c2) w7.drew hK1.out hK2.out ⟨y1, y2, hlt7, j1, j2, hltw7⟩).mono ?_; rintro e w8 ⟨g7, g8, rfl, o8, b8, s1, s2, s3, s4, s5, s6⟩)
        | (go_at_call 16; refine (eqRecord_keeps (some ⟨g4, 0, none⟩) (some ⟨g5, 0, none⟩) (some ⟨g7, 0, none⟩) (some ⟨g8, 0, none⟩) n1 n2 n1 n2 n1 n2 l1 l2 hs1 hs2 w4.heap.size w.heap.size (.slice (some ⟨g4, 0, none⟩) n1 n1) (.slice (some ⟨g5, 0, none⟩) n2 n2) (.slice a1 n1 c1) (.slice a2 n2 c2) w8 (hh11.out.below b8) (hh12.out.below b8) (ownHolds o8).1 (ownHolds o8).2 ⟨s1, s2, s3, s4, s5, s6⟩).mono ?_; rintro e w9 ⟨rfl, b9, t1, t2, t3, t4, t5, t6⟩))
    have b79 : Below w7.heap.size w7 w9 := (Below.refl w7.heap.size w7).drew.trans (b8.trans (b9.mono b8.size))
    have B9 := Lib.hid (B7.out.trans (b79.mono B7.out.size))
    have HR0 := Lib.hid (HQ0.out.below b79)
    have HR1 := Lib.hid (HQ1.out.below b79)
    clear o8 b8 b9 b79 s1 s2 s3 s4 s5 s6 y1 y2 j1 j2 t1 t2 t4 t5 hh11 hh12 HQ0 HQ1
    go_wp2_with fail
    refine (IntT.toIntS_any p0 np0 cp0 L0 hs00 _ (KY0.out.below B9.out)).mono ?_
    rintro e wc0 ⟨gc0, rfl, oc0, bc0⟩
    have B10 := Lib.hid (B9.out.trans (bc0.mono B9.out.size))
    have HU0 := Lib.hid (HR0.out.below bc0)
    have HT0 := Lib.hid (GivesI.holds_own oc0)
    have HW1 := Lib.hid (HR1.out.below bc0)
    clear HR1
    clear oc0 bc0 B9
    go_wp2_with fail
    refine (GivesI.eq_same _ _ np0 np0 np0 L0 hs00 _ HU0.out HT0.out).mono ?_
    rintro e wd0 ⟨rfl, bd0⟩
    have B9 := Lib.hid (B10.out.trans (bd0.mono B10.out.size))
    have HR1 := Lib.hid (HW1.out.below bd0)
    clear HW1
    clear B10 bd0
    go_wp2_with fail
    refine (IntT.toIntS_any p1 np1 cp1 L1 hs10 _ (KY1.out.below B9.out)).mono ?_
    rintro e wc1 ⟨gc1, rfl, oc1, bc1⟩
    have B10 := Lib.hid (B9.out.trans (bc1.mono B9.out.size))
    have HU1 := Lib.hid (HR1.out.below bc1)
    have HT1 := Lib.hid (GivesI.holds_own oc1)
    clear oc1 bc1 B9
    go_wp2_with fail
    refine (GivesI.eq_same _ _ np1 np1 np1 L1 hs10 _ HU1.out HT1.out).mono ?_
    rintro e wd1 ⟨rfl, bd1⟩
    have B9 := Lib.hid (B10.out.trans (bd1.mono B10.out.size))
    clear B10 bd1
    go_wp2_with fail
    go_ret
    exact ⟨rfl, HBX.out.trans (B9.out.mono HBX.out.size)⟩
end Go.Proofs.YtjllbbkpmmnkgaaDoor.WSequenceDistance
