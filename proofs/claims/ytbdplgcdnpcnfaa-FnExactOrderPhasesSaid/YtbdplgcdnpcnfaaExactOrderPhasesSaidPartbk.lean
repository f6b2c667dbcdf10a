/- The walk of the law FnExactOrderPhases, from contracts of the program's and of the model's OrderPhases. -/
import Derived.Test.YtbdplgcdnpcnfaaExactOrderPhasesSaidPartad
import Derived.Test.YtbdplgcdnpcnfaaExactOrderPhasesSaidPartbi
import Derived.Test.YtbdplgcdnpcnfaaExactOrderPhasesSaidPartbj
import Derived.Test.YtbdplgcdnpcnfaaExactOrderPhasesSaidPartae
namespace Go.Proofs.Ytbdplgcdnpcnfaa.WOrderPhases
open Go.ChangeShapes Go.WideShapes Go.ChangeAt Go.RowKit
open Pairs Rec RecEq RecOpen Keep Mark2
open LawKit (S toRecord_keeps eqRecord_keeps ownHolds)
set_option linter.unusedVariables false
set_option maxRecDepth 100000 in
set_option maxHeartbeats 16000000 in
theorem walk (F : List (Int × Int) → List (Int × Int) → List Ph.Pt → Option (List Int)) (hI : ∀ (a1 a2 : Option Addr) (n1 c1 n2 c2 : Nat) (l m : List (Int × Int)) (p : Option Addr) (np : Nat) (L : List Ph.Pt) (w : World), n1 ≤ 1048576 → n2 ≤ 1048576 → Holds w a1 n1 l → Holds w a2 n2 m → np ≤ 1048576 → Ph.HoldsP w p np L → Ph.Sm L 1048576 → Calls Try.prog 26 #[.agg #[.slice a1 n1 c1, .slice a2 n2 c2], .slice p np np] w (GivesI.Res (F l m L).isSome ((F l m L).getD []) w)) (hM : ∀ (a1 a2 : Option Addr) (n1 c1 n2 c2 : Nat) (l m : List (Int × Int)) (p : Option Addr) (np : Nat) (L : List Ph.Pt) (w : World), n1 ≤ 1048576 → n2 ≤ 1048576 → Holds w a1 n1 l → Holds w a2 n2 m → np ≤ 1048576 → Ph.HoldsP w p np L → Ph.Sm L 1048576 → Calls Try.prog 25 #[.agg #[.slice a1 n1 c1, .slice a2 n2 c2], .slice p np np] w (GivesI.Res (F l m L).isSome ((F l m L).getD []) w)) (a1 a2 : Option Addr) (n1 c1 n2 c2 : Nat) (l1 l2 : List (Int × Int)) (p : Option Addr) (np cp : Nat) (L : List Ph.Pt) (w : World) (z1 : n1 ≤ 9223372036854775807) (z2 : n2 ≤ 9223372036854775807) (H1 : Holds w a1 n1 l1) (H2 : Holds w a2 n2 l2) (z3 : np ≤ 9223372036854775807) (H3 : Ph.HoldsP w p np L) (H4 : Ph.Sm L 9223372036854775807) :
    Calls Try.prog 6 #[.agg #[.slice a1 n1 c1, .slice a2 n2 c2], .slice p np cp] w fun e w' => e = .returned (.bool true) ∧ Below w.heap.size w w' := by
  have hb0 := below_alloc w (.cells #[.slice a1 n1 c1, .slice a2 n2 c2] 25)
  have f1 := box_first w (.slice a1 n1 c1) (.slice a2 n2 c2) 25
  have f2 := box_second w (.slice a1 n1 c1) (.slice a2 n2 c2) 25
  have hlt : w.heap.size < (w.alloc (.cells #[.slice a1 n1 c1, .slice a2 n2 c2] 25)).heap.size := by simp
  have K1 := Lib.hid (H1.below hb0)
  have K2 := Lib.hid (H2.below hb0)
  have K3 := Lib.hid (H3.below hb0)
  have K4 := Lib.hid H4
  clear H1 H2 H3 H4
  have hI1 := fun (p1 p2 p3 : Option Addr) (w : World) h1 h2 h3 h4 h5 h6 h7 => hI p1 p2 n1 n1 n2 n2 l1 l2 p3 np L w h1 h2 h3 h4 h5 h6 h7
  have hM1 := fun (p1 p2 p3 : Option Addr) (w : World) h1 h2 h3 h4 h5 h6 h7 => hM p1 p2 n1 n1 n2 n2 l1 l2 p3 np L w h1 h2 h3 h4 h5 h6 h7
  clear hI hM
  generalize (F l1 l2 L).isSome = ok at hI1 hM1
  generalize (F l1 l2 L).getD [] = A at hI1 hM1
  have HI := Lib.hid hI1
  have HM := Lib.hid hM1
  clear hI1 hM1
  go_enter Try.func6, Try.ntmps6
  go_wp2_with fail
  generalize w.alloc (.cells #[.slice a1 n1 c1, .slice a2 n2 c2] 25) = W at *
  refine (szRecord_any a1 a2 n1 c1 n2 c2 z1 z2 W).mono ?_
  rintro e w1 ⟨rfl, b1⟩
  have k1 := (b1.cell (p := ⟨w.heap.size, 0, none⟩) hlt).trans f1
  have k2 := (b1.cell (p := ⟨w.heap.size, 1, none⟩) hlt).trans f2
  by_cases hbig : (1048576 : Int) < (n1 : Int) + n2
  · have hl : left n1 n2 = -1 := by unfold left; rw [if_pos hbig]
    rw [hl]
    go_wp2_with fail
    go_ret
    exact ⟨rfl, hb0.trans (b1.mono hb0.size)⟩
  · have hl : left n1 n2 = 1048576 - n1 - n2 := by unfold left; rw [if_neg hbig]
    rw [hl]
    clear hl
    have hs1 : n1 ≤ 1048576 := by omega
    have hs2 : n2 ≤ 1048576 := by omega
    have hnn : ¬ (1048576 : Int) - n1 - n2 < 0 := by omega
    go_wp2_with fail
    refine (PhL2.szPhaseS_tot p np cp L (1048576 - n1 - n2) (by omega) (by omega) z3 w1 (K3.out.below b1) K4.out).mono ?_
    rintro e wz ⟨r, rfl, hr, bz⟩
    have b1z := b1.trans (bz.mono b1.size)
    have B1Z := Lib.hid b1z
    have k1 := (bz.cell (p := ⟨w.heap.size, 0, none⟩) (by show w.heap.size < _; have := b1.size; omega)).trans k1
    have k2 := (bz.cell (p := ⟨w.heap.size, 1, none⟩) (by show w.heap.size < _; have := b1.size; omega)).trans k2
    clear b1 bz b1z
    rcases hr with hr | ⟨hr0, hr1, hnp, hSm, hTot⟩
    · go_wp2_with fail
      go_ret
      exact ⟨rfl, hb0.trans (B1Z.out.mono hb0.size)⟩
    · have HSM := Lib.hid hSm
      have hrn : ¬ r < 0 := by omega
      have HTOT := Lib.hid hTot
      clear hSm hTot
      go_wp2_with fail
      refine (toRecord_any a1 a2 n1 c1 n2 c2 l1 l2 hs1 hs2 _ (K1.out.below B1Z.out) (K2.out.below B1Z.out)).mono ?_
      rintro e w2 ⟨g1, g2, rfl, o2, b2⟩
      have b12 := B1Z.out.trans (b2.mono B1Z.out.size)
      have hh := ownHolds o2
      have hh1 := Lib.hid hh.1
      have hh2 := Lib.hid hh.2
      have B12 := Lib.hid b12
      clear hh o2 b2 b12 k1 k2
      go_wp2_with fail
      refine (PhT.toPhaseS_any p np cp L hnp _ (K3.out.below B12.out) HSM.out).mono ?_
      rintro e w3 ⟨g3, rfl, o3, b3⟩
      have b13 := B12.out.trans (b3.mono B12.out.size)
      have hh3 := Lib.hid (hh1.out.below b3)
      have hh4 := Lib.hid (hh2.out.below b3)
      have HP3 := Lib.hid (o3.holds K3.out.1)
      have B13 := Lib.hid b13
      clear b13 b3 o3 hh1 hh2
      go_wp2_with fail
      refine (HM.out _ _ _ _ hs1 hs2 hh3.out hh4.out hnp HP3.out HSM.out).mono ?_
      rintro e X ⟨pw1, kw1, dw1, rfl, gw, qw1, b4⟩
      have bX := B13.out.trans (b4.mono B13.out.size)
      have m1 := (bX.cell (p := ⟨w.heap.size, 0, none⟩) hlt).trans f1
      have m2 := (bX.cell (p := ⟨w.heap.size, 1, none⟩) hlt).trans f2
      have GWX := Lib.hid (GivesI.holds_own gw)
      have KX1 := Lib.hid (K1.out.below bX)
      have KX2 := Lib.hid (K2.out.below bX)
      have KX3 := Lib.hid (K3.out.below bX)
      have HBX := Lib.hid (hb0.trans (bX.mono hb0.size))
      have hltX := Nat.lt_of_lt_of_le hlt bX.size
      clear gw b4 hh3 hh4 HP3 bX hb0 K1 K2 K3 f1 f2 B1Z B12 B13
      go_wp2_with fail
      refine (toRecord_any a1 a2 n1 c1 n2 c2 l1 l2 hs1 hs2 _ KX1.out KX2.out).mono ?_
      rintro e w4 ⟨g4, g5, rfl, o4, b4⟩
      have GO4 := Lib.hid (got_of_own o4)
      have HG4 : Hid (X.heap.size ≤ g4 ∧ g4 < w4.heap.size) := o4.ctx.lt g4 rfl
      have HG5 : Hid (X.heap.size ≤ g5 ∧ g5 < w4.heap.size) := o4.rel.lt g5 rfl
      have hb5 := below_alloc w4 (.cells #[.slice (some ⟨g4, 0, none⟩) n1 n1, .slice (some ⟨g5, 0, none⟩) n2 n2] 33)
      have x1 := box_first w4 (.slice (some ⟨g4, 0, none⟩) n1 n1) (.slice (some ⟨g5, 0, none⟩) n2 n2) 33
      have x2 := box_second w4 (.slice (some ⟨g4, 0, none⟩) n1 n1) (.slice (some ⟨g5, 0, none⟩) n2 n2) 33
      have hlt5 : w4.heap.size < (w4.alloc (.cells #[.slice (some ⟨g4, 0, none⟩) n1 n1, .slice (some ⟨g5, 0, none⟩) n2 n2] 33)).heap.size := by simp
      have B5 := Lib.hid (b4.trans (hb5.mono b4.size))
      have GO5 := Lib.hid (GO4.out.below hb5)
      clear o4 b4 GO4 hb5
      go_wp2_with fail
      generalize w4.alloc (.cells #[.slice (some ⟨g4, 0, none⟩) n1 n1, .slice (some ⟨g5, 0, none⟩) n2 n2] 33) = W5 at *
      refine (PhT.toPhaseS_any p np cp L hnp _ (KX3.out.below B5.out) HSM.out).mono ?_
      rintro e w6 ⟨g6, rfl, o6, b6⟩
      have B6 := Lib.hid (B5.out.trans (b6.mono B5.out.size))
      have y1 := (b6.cell (p := ⟨w4.heap.size, 0, none⟩) hlt5).trans x1
      have y2 := (b6.cell (p := ⟨w4.heap.size, 1, none⟩) hlt5).trans x2
      have GO6 := Lib.hid (GO5.out.below b6)
      have MK6 := Lib.hid (Mt.mkP_of o6 KX3.out.1)
      have HP6 := Lib.hid (o6.holds KX3.out.1)
      have hlt6 := Nat.lt_of_lt_of_le hlt5 b6.size
      have HS56 : Hid (X.heap.size ≤ W5.heap.size ∧ W5.heap.size ≤ w6.heap.size) := ⟨B5.out.size, b6.size⟩
      clear x1 x2 o6 b6 GO5
      go_wp2_with fail
      refine (HI.out _ _ _ _ hs1 hs2 GO6.out.holds.1 GO6.out.holds.2 hnp HP6.out HSM.out).mono ?_
      rintro e w7 ⟨pg1, kg1, dg1, rfl, gg, qg1, b67⟩
      obtain rfl : kw1 = kg1 := by rw [← (GivesI.holds_own gg).1, ← GWX.out.1]
      have y1 := (b67.cell (p := ⟨w4.heap.size, 0, none⟩) hlt6).trans y1
      have y2 := (b67.cell (p := ⟨w4.heap.size, 1, none⟩) hlt6).trans y2
      have B7 := Lib.hid (B6.out.trans (b67.mono B6.out.size))
      have GO7 := Lib.hid (GO6.out.below b67)
      have MK7 := Lib.hid (MK6.out.below b67)
      have HP7 := Lib.hid (HP6.out.below b67)
      have GG7 := Lib.hid gg
      have GL : Hid (∀ b, (Value.slice pg1 kw1 dg1).ownBlock = some b → w6.heap.size ≤ b ∧ b < w7.heap.size) := gg.lt
      have hlt7 := Nat.lt_of_lt_of_le hlt6 b67.size
      clear gg b67 GO6 MK6 HP6
      go_wp2_with fail
      refine (GivesI.eq_same pg1 pw1 kw1 dg1 dw1 A qw1 _ (GivesI.holds_own GG7.out) (GWX.out.below B7.out)).mono ?_
      rintro e w8 ⟨rfl, b78⟩
      have B8 := Lib.hid (B7.out.trans (b78.mono B7.out.size))
      have y1 := (b78.cell (p := ⟨w4.heap.size, 0, none⟩) hlt7).trans y1
      have y2 := (b78.cell (p := ⟨w4.heap.size, 1, none⟩) hlt7).trans y2
      have j1 := (B8.out.cell (p := ⟨w.heap.size, 0, none⟩) hltX).trans m1
      have j2 := (B8.out.cell (p := ⟨w.heap.size, 1, none⟩) hltX).trans m2
      have GO8 := Lib.hid (GO7.out.below b78)
      have MK8 := Lib.hid (MK7.out.below b78)
      have HP8 := Lib.hid (HP7.out.below b78)
      have GG8 := Lib.hid (ownsRow_below GG7.out b78)
      have hlt8 := Nat.lt_of_lt_of_le hlt7 b78.size
      have hltw8 := Nat.lt_of_lt_of_le hltX B8.out.size
      clear GO7 GG7 MK7 HP7 b78 B7 B6
      go_wp2_with fail
      have hK1 := Lib.hid (KX1.out.below B8.out.drew)
      have hK2 := Lib.hid (KX2.out.below B8.out.drew)
      have hh11 := Lib.hid (GO8.out.holds.1.below (Below.refl w8.heap.size w8).drew)
      have hh12 := Lib.hid (GO8.out.holds.2.below (Below.refl w8.heap.size w8).drew)
      go_region_held3 (fun w' => w'.cell? ⟨w4.heap.size, 0, none⟩ = some (.slice (some ⟨g4, 0, none⟩) n1 n1) ∧ w'.cell? ⟨w4.heap.size, 1, none⟩ = some (.slice (some ⟨g5, 0, none⟩) n2 n2) ∧ w4.heap.size < w'.heap.size ∧ w'.cell? ⟨w.heap.size, 0, none⟩ = some (.slice a1 n1 c1) ∧ w'.cell? ⟨w.heap.size, 1, none⟩ = some (.slice a2 n2 c2) ∧ w.heap.size < w'.heap.size)
        (first | go_keep | (exact ⟨by assumption, by assumption, by assumption, by assumption, by assumption, by assumption⟩))
        (first
          | (go_at_call 11; refine (toRecord_keeps a1 a2 n1 c1 n2 c2 l1 l2 hs1 hs2 w4.heap.size w.heap.size (.slice (some ⟨g4, 0, none⟩) n1 n1) (.slice (some ⟨g5, 0, none⟩) n2 n2) (.slice a1 n1 c1) (.slice a2 n2 c2) w8.drew hK1.out hK2.out ⟨y1, y2, hlt8, j1, j2, hltw8⟩).mono ?_; rintro e w9 ⟨g7, g8, rfl, o9, b9, s1, s2, s3, s4, s5, s6⟩)
          | (go_at_call 14; refine (eqRecord_keeps (some ⟨g4, 0, none⟩) (some ⟨g5, 0, none⟩) (some ⟨g7, 0, none⟩) (some ⟨g8, 0, none⟩) n1 n2 n1 n2 n1 n2 l1 l2 hs1 hs2 w4.heap.size w.heap.size (.slice (some ⟨g4, 0, none⟩) n1 n1) (.slice (some ⟨g5, 0, none⟩) n2 n2) (.slice a1 n1 c1) (.slice a2 n2 c2) w9 (hh11.out.below b9) (hh12.out.below b9) (ownHolds o9).1 (ownHolds o9).2 ⟨s1, s2, s3, s4, s5, s6⟩).mono ?_; rintro e w10 ⟨rfl, b10, t1, t2, t3, t4, t5, t6⟩))
      have b810 : Below w8.heap.size w8 w10 := (Below.refl w8.heap.size w8).drew.trans (b9.trans (b10.mono b9.size))
      have B10 := Lib.hid (B8.out.trans (b810.mono B8.out.size))
      have GO10 := Lib.hid (GO8.out.below b810)
      have MK10 := Lib.hid (MK8.out.below b810)
      have HP10 := Lib.hid (HP8.out.below b810)
      have GG10 := Lib.hid (ownsRow_below GG8.out b810)
      have T12 := Lib.hid (And.intro t1 t2)
      clear o9 b9 b10 b810 s1 s2 s3 s4 s5 s6 y1 y2 j1 j2 t1 t2 t4 t5 hh11 hh12 GO8 MK8 HP8 GG8 hK1 hK2
      go_wp2_with fail
      refine (PhT.toPhaseS_any p np cp L hnp _ (KX3.out.below B10.out) HSM.out).mono ?_
      rintro e w11 ⟨g9, rfl, o11, b11⟩
      have HQ11 := Lib.hid (o11.holds KX3.out.1)
      have HP11 := Lib.hid (HP10.out.below b11)
      have BB11 := Lib.hid b11
      clear o11 b11
      go_wp2_with fail
      refine (PhT.eqPhaseS_same _ _ np np np L hnp _ HP11.out HQ11.out HSM.out).mono ?_
      rintro e w12 ⟨rfl, b12⟩
      have b1012 := BB11.out.trans (b12.mono BB11.out.size)
      have B12 := Lib.hid (B10.out.trans (b1012.mono B10.out.size))
      have GO12 := Lib.hid (GO10.out.below b1012)
      have MK12 := Lib.hid (MK10.out.below b1012)
      have GG12 := Lib.hid (ownsRow_below GG10.out b1012)
      have t1 := (b1012.cell (p := ⟨w4.heap.size, 0, none⟩) t3).trans T12.out.1
      have t2 := (b1012.cell (p := ⟨w4.heap.size, 1, none⟩) t3).trans T12.out.2
      clear b12 b1012 BB11 HQ11 HP11 GO10 MK10 HP10 GG10 T12 B10 B8
      go_wp2_with fail
      refine (markRecord_any _ (some ⟨g4, 0, none⟩) (some ⟨g5, 0, none⟩) n1 n1 n2 n2 l1 l2 hs1 hs2 w12 GO12.out).mono ?_
      rintro e w13 ⟨rfl, gm, q13⟩
      have SX : ∀ b, ((Value.slice (some ⟨g4, 0, none⟩) n1 n1).ownBlock = some b ∨ (Value.slice (some ⟨g5, 0, none⟩) n2 n2).ownBlock = some b) → X.heap.size ≤ b ∧ b < W5.heap.size := by
        intro b hb
        have h4 := HG4.out
        have h5 := HG5.out
        rcases hb with hb | hb
        · have e1 : g4 = b := by simpa [Value.ownBlock] using hb
          omega
        · have e1 : g5 = b := by simpa [Value.ownBlock] using hb
          omega
      have B13 := Lib.hid (B12.out.trans ((q13.below (fun b hb => (SX b hb).1) B12.out.size)))
      have GG13 := Lib.hid (q13.owns GG12.out (fun b hb hs => by have := (GL.out b hb).1; have := (SX b hs).2; have := HS56.out.2; omega))
      have MK13 := Lib.hid (MK12.out.keptS q13 (fun b hb hd hs => by have := (SX b hs).2; omega))
      have hm1 : (1 : Int) + 2 * (n1 : Int) + 2 * (n2 : Int) = ((1 + 2 * n1 + 2 * n2 : Nat) : Int) := by omega
      rw [hm1]
      have hmk : 1 + 2 * n1 + 2 * n2 ≤ 5000000 := by omega
      have hmk1 : 1 ≤ 1 + 2 * n1 + 2 * n2 := by omega
      generalize 1 + 2 * n1 + 2 * n2 = km at *
      clear gm q13 SX GG12 GO12 MK12 t1 t2 t3 hm1
      go_wp2_with fail
      refine (Mt.markP_any W5.heap.size w6.heap.size g6 np np L km hmk1 hmk hnp HSM.out HTOT.out w13 MK13.out).mono ?_
      rintro e w14 ⟨r14, rfl, q14⟩
      have B14 := Lib.hid (B13.out.trans ((q14.below (fun b hb => Nat.le_trans HS56.out.1 hb.1) B13.out.size)))
      have GG14 := Lib.hid (q14.owns GG13.out (fun b hb hs => by have := (GL.out b hb).1; have := hs.2; omega))
      have hkk : ¬ (r14 : Int) < 0 := by omega
      clear q14 GG13 MK13 B13
      go_wp2_with fail
      refine (GivesI.eq_same pg1 pw1 kw1 dg1 dw1 A qw1 _ (GivesI.holds_own GG14.out) (GWX.out.below B14.out)).mono ?_
      rintro e w15 ⟨rfl, b15⟩
      have B15 := Lib.hid (B14.out.trans (b15.mono B14.out.size))
      have GG15 := Lib.hid (ownsRow_below GG14.out b15)
      clear GG14 b15 B14
      go_wp2_with fail
      refine (GivesI.mark_any _ pg1 kw1 dg1 1 (GivesI.ints A) (by omega) (by omega) qw1 w15 GG15.out).mono ?_
      rintro e w16 ⟨rfl, gm, q16⟩
      have B16 := Lib.hid (B15.out.trans (q16.below (fun b hb => by have := (GL.out b hb).1; have := HS56.out; omega) B15.out.size))
      have GM := Lib.hid (GivesI.holds_own gm)
      clear gm q16 GG15 B15
      go_wp2_with fail
      refine (GivesI.held_any pg1 kw1 dg1 1 (by omega) (by omega) qw1 w16 GM.out).mono ?_
      rintro e w17 ⟨rfl, rfl⟩
      have j1 := (B16.out.cell (p := ⟨w.heap.size, 0, none⟩) hltX).trans m1
      have j2 := (B16.out.cell (p := ⟨w.heap.size, 1, none⟩) hltX).trans m2
      have hkk2 : ¬ 1 + (kw1 : Int) < 0 := by omega
      go_wp2_with fail
      refine (toRecord_any a1 a2 n1 c1 n2 c2 l1 l2 hs1 hs2 _ (KX1.out.below B16.out) (KX2.out.below B16.out)).mono ?_
      rintro e w18 ⟨g10, g11, rfl, o18, b18⟩
      have hh := ownHolds o18
      have hh1 := Lib.hid hh.1
      have hh2 := Lib.hid hh.2
      have B18 := Lib.hid (B16.out.trans (b18.mono B16.out.size))
      have GM18 := Lib.hid (GM.out.below b18)
      clear j1 j2 hh o18 b18 B16 GM
      go_wp2_with fail
      refine (PhT.toPhaseS_any p np cp L hnp _ (KX3.out.below B18.out) HSM.out).mono ?_
      rintro e w19 ⟨g12, rfl, o19, b19⟩
      have hh3 := Lib.hid (hh1.out.below b19)
      have hh4 := Lib.hid (hh2.out.below b19)
      have HP19 := Lib.hid (o19.holds KX3.out.1)
      have B19 := Lib.hid (B18.out.trans (b19.mono B18.out.size))
      have GM19 := Lib.hid (GM18.out.below b19)
      clear hh1 hh2 o19 b19 B18 GM18
      go_wp2_with fail
      refine (HI.out _ _ _ _ hs1 hs2 hh3.out hh4.out hnp HP19.out HSM.out).mono ?_
      rintro e w20 ⟨ph1, kh1, dh1, rfl, gh, qh1, b20⟩
      obtain rfl : kw1 = kh1 := by rw [← (GivesI.holds_own gh).1, ← GWX.out.1]
      have B20 := Lib.hid (B19.out.trans (b20.mono B19.out.size))
      have GH := Lib.hid (GivesI.holds_own gh)
      have GM20 := Lib.hid (GM19.out.below b20)
      clear gh b20 B19 GM19 hh3 hh4 HP19
      go_wp2_with fail
      refine (GivesI.eq_same ph1 pw1 kw1 dh1 dw1 A qw1 _ GH.out (GWX.out.below B20.out)).mono ?_
      rintro e w21 ⟨rfl, b21⟩
      have B21 := Lib.hid (B20.out.trans (b21.mono B20.out.size))
      have GM21 := Lib.hid (GM20.out.below b21)
      clear GH GM20 b21 B20
      go_wp2_with fail
      refine (GivesI.held_any pg1 kw1 dg1 1 (by omega) (by omega) qw1 w21 GM21.out).mono ?_
      rintro e w22 ⟨rfl, rfl⟩
      have HB := Lib.hid (HBX.out.trans (B21.out.mono HBX.out.size))
      go_wp2_with fail
      go_ret
      exact ⟨rfl, HB.out⟩
end Go.Proofs.Ytbdplgcdnpcnfaa.WOrderPhases
/- The frame of the law FnExactOrderPhases: from a walk of the law to what the row says. -/
namespace Go.Proofs.Ytbdplgcdnpcnfaa.FOrderPhases
open Go.ChangeShapes Go.WideShapes Go.ChangeAt Go.RowKit
open Pairs Rec RecEq RecOpen LawKit
set_option linter.unusedVariables false

theorem field_int {H : Type} {enc : TypeId × Value → H} {w : World} {base : Nat} {spare : Nat → Bool} {held : Bool} {t : TypeId} {fuel : Nat} {v : Value} {x : DataW H × List MemPlace} (t0 : Try.prog.underlying t = some (.int .i64)) (h : DataW.trod enc Try.prog w base spare held fuel t [v] = some x) : ∃ y : Int, v = .int .i64 y := by
  obtain ⟨p, hp, _⟩ := DataW.trod_int t0 h
  simp only [List.cons.injEq, and_true] at hp
  exact ⟨p, hp⟩
set_option maxRecDepth 100000 in
theorem lifted (hw : ∀  (a1 a2 : Option Addr) (n1 c1 n2 c2 : Nat) (l1 l2 : List (Int × Int)) (p : Option Addr) (np cp : Nat) (L : List Ph.Pt) (w : World), n1 ≤ 9223372036854775807 → n2 ≤ 9223372036854775807 → Holds w a1 n1 l1 → Holds w a2 n2 l2 → np ≤ 9223372036854775807 → Ph.HoldsP w p np L → Ph.Sm L 9223372036854775807 → Calls Try.prog 6 #[.agg #[.slice a1 n1 c1, .slice a2 n2 c2], .slice p np cp] w fun e w' => e = .returned (.bool true) ∧ Below w.heap.size w w') (os : Os) (started : os.Started) (H : Type) (enc : TypeId × Value → H) :
    ReturnsInHanded {} Try.checked os 6 .any (Rows.fnExactOrderPhasesSpec.pre6 enc Try.prog Try.f6 Rows.fnExactOrderPhasesRow.domain false) (Rows.fnExactOrderPhasesSpec.post enc Try.prog Try.f6 false true false false) := by
  refine returnsInHanded_of_change (C := Try.checked) own started (by kernel_rfl) Try.func6
    (ChangeSpec.witness6 (enc := enc) (C := Try.checked) false ⟨#[], #[.agg #[.slice none 0 0, .slice none 0 0], .slice none 0 0], []⟩ 8 (by kernel_rfl) (by kernel_rfl) (by kernel_rfl) (by kernel_rfl)) ?_
  intro W base args ds gs before hval0 hW hcnd _
  have hval : ∀ (j : Nat) t v, Try.f6.params[j]? = some t → args[j]? = some v → Value.okWide Try.prog W .any base t v := hval0
  have hW' := hW
  obtain ⟨p, q, hA0, hV, rfl, hfz, hnd⟩ := hW
  have hA : DataW.TrodAll enc Try.prog W 0 (fun _ => true) true Try.f6.params.toList args.toList ds p := hA0
  rw [Try.params6] at hA hval
  obtain ⟨v0, vs0, d0, ds0, p0, q0, hargs, rfl, rfl, h0, r0⟩ := trodAll_cons hA
  obtain ⟨v1, vs1, d1, ds1, p1, q1, rfl, rfl, rfl, h1, r1⟩ := trodAll_cons r0
  obtain ⟨rfl, rfl, rfl⟩ := trodAll_nil r1
  obtain rfl : args = #[v0, v1] := by cases args; simp_all
  obtain ⟨rfl, rfl⟩ := trodVars_none hV
  have k0 := h0
  have lt0 : ∀ x ∈ p0, x.block < W.heap.size := by obtain ⟨m, hm⟩ := k0; exact DataW.trod_lt m _ _ _ hm
  obtain ⟨u, v, y0, y9, fuel, rfl, rfl, hp, hu, hv⟩ := Joins.open_agg2 Try.underlying25 (by kernel_rfl) (by kernel_rfl) (hval 0 25 v0 rfl rfl) h0
  obtain ⟨a1, n1, c1, l1, rfl, z1, H1⟩ := open_pairs Try.underlying22 Try.underlying87 (by kernel_rfl) rfl rfl (by kernel_rfl) (by kernel_rfl) Try.underlying3 Try.underlying3 hu
  obtain ⟨a2, n2, c2, l2, rfl, z2, H2⟩ := open_pairs Try.underlying23 Try.underlying91 (by kernel_rfl) rfl rfl (by kernel_rfl) (by kernel_rfl) Try.underlying3 Try.underlying3 hv
  obtain ⟨sa, sn, sc, rfl⟩ := okWide_slice Try.underlying26 (hval 1 26 v1 rfl rfl)
  have k1 := h1
  have lt1 : ∀ x ∈ p1, x.block < W.heap.size := by obtain ⟨m, hm⟩ := k1; exact DataW.trod_lt m _ _ _ hm
  obtain ⟨ps, nps, cps, L, hps, z3, H3, H4⟩ : ∃ (a : Option Addr) (n c : Nat) (L : List Ph.Pt), Value.slice sa sn sc = .slice a n c ∧ n ≤ 9223372036854775807 ∧ Ph.HoldsP W a n L ∧ Ph.Sm L 9223372036854775807 := by
    obtain ⟨fuel, hf⟩ := h1
    exact Ph.open_phases Try.underlying26 Try.underlying54 (by kernel_rfl) rfl rfl (by kernel_rfl) (by kernel_rfl) Try.underlying9 Try.underlying43 Try.underlying3 (by kernel_rfl) hf
  injection hps with hp1 hp2 hp3
  subst hp1 hp2 hp3
  clear hA0 hval0
  refine (hw  a1 a2 n1 c1 n2 c2 l1 l2 sa sn sc L W z1 z2 H1 H2 z3 H3 H4).mono fun e W' ⟨he, bel⟩ => ?_
  subst he
  exact ⟨_, rfl, _, _, _, [], _, [], hW', trodAll_mk1 (shut_bool Try.underlying4 _), (trodAll_cons_mk (Below.trod LawKit.laidOut (by kernel_rfl) (of_decide_eq_true (by kernel_rfl)) k0 bel lt0) (trodAll_cons_mk (Below.trod LawKit.laidOut (by kernel_rfl) (of_decide_eq_true (by kernel_rfl)) k1 bel lt1) trodAll_mk0)), rfl, bel.frame _, fun h => by cases h⟩

theorem over (hw : ∀  (a1 a2 : Option Addr) (n1 c1 n2 c2 : Nat) (l1 l2 : List (Int × Int)) (p : Option Addr) (np cp : Nat) (L : List Ph.Pt) (w : World), n1 ≤ 9223372036854775807 → n2 ≤ 9223372036854775807 → Holds w a1 n1 l1 → Holds w a2 n2 l2 → np ≤ 9223372036854775807 → Ph.HoldsP w p np L → Ph.Sm L 9223372036854775807 → Calls Try.prog 6 #[.agg #[.slice a1 n1 c1, .slice a2 n2 c2], .slice p np cp] w fun e w' => e = .returned (.bool true) ∧ Below w.heap.size w w') : Rows.fnExactOrderPhasesRow.holds Try.pinned (OpenSpec.ofChange Rows.fnExactOrderPhasesSpec) :=
  OpenClaim.holds_of_wide 6 Try.f6 rfl rfl rfl rfl rfl rfl rfl ⟨rfl, rfl, rfl, rfl, rfl⟩ rfl rfl rfl rfl rfl (by kernel_rfl) Try.func6 (by kernel_rfl)
    (of_decide_eq_true (by kernel_rfl)) (by unfold Func.isWrapper; first | (rw [if_pos (by decide +kernel)]; kernel_rfl) | (rw [if_neg (by decide +kernel)]; exact ⟨rfl, rfl⟩))
    (fun os started H enc _ => lifted hw os started H enc)
end Go.Proofs.Ytbdplgcdnpcnfaa.FOrderPhases
