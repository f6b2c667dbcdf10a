/- The walk of the law FnExactContradictionGroups, from contracts of the program's and of the model's ContradictionGroups. -/
import Derived.Test.YtfjpogohdoojmaaSS
namespace Go.Proofs.Ytfjpogohdoojmaa.WContradictionGroups
open Go.ChangeShapes Go.WideShapes Go.ChangeAt Go.RowKit
open Pairs Rec RecEq RecOpen Keep Mark2
open LawKit (S toRecord_keeps eqRecord_keeps ownHolds)
set_option linter.unusedVariables false
set_option maxRecDepth 100000 in
set_option maxHeartbeats 8000000 in
theorem walk (F : List (Int × Int) → List (Int × Int) → Option (List (List Int))) (hI : SS.Gives 22 F) (hM : SS.Gives 27 F) (a1 a2 : Option Addr) (n1 c1 n2 c2 : Nat) (l1 l2 : List (Int × Int)) (w : World) (z1 : n1 ≤ 9223372036854775807) (z2 : n2 ≤ 9223372036854775807) (H1 : Holds w a1 n1 l1) (H2 : Holds w a2 n2 l2) :
    Calls Try.prog 5 #[.agg #[.slice a1 n1 c1, .slice a2 n2 c2]] w fun e w' => e = .returned (.bool true) ∧ Below w.heap.size w w' := by
  have hb0 := below_alloc w (.cells #[.slice a1 n1 c1, .slice a2 n2 c2] 53)
  have f1 := box_first w (.slice a1 n1 c1) (.slice a2 n2 c2) 53
  have f2 := box_second w (.slice a1 n1 c1) (.slice a2 n2 c2) 53
  have hlt : w.heap.size < (w.alloc (.cells #[.slice a1 n1 c1, .slice a2 n2 c2] 53)).heap.size := by simp
  have K1 := Lib.hid (H1.below hb0)
  have K2 := Lib.hid (H2.below hb0)
  clear H1 H2
  have hI1 := fun (p1 p2 : Option Addr) (w : World) h1 h2 h3 h4 => hI p1 p2 n1 n2 l1 l2 w h1 h2 h3 h4
  have hM1 := fun (p1 p2 : Option Addr) (w : World) h1 h2 h3 h4 => hM p1 p2 n1 n2 l1 l2 w h1 h2 h3 h4
  clear hI hM
  generalize (F l1 l2).isSome = ok at hI1 hM1
  generalize (F l1 l2).getD [] = L at hI1 hM1
  have HI := Lib.hid hI1
  have HM := Lib.hid hM1
  clear hI1 hM1
  go_enter Try.func5, Try.ntmps5
  go_wp2_with fail
  generalize w.alloc (.cells #[.slice a1 n1 c1, .slice a2 n2 c2] 53) = W at *
  refine (szRecord_any a1 a2 n1 c1 n2 c2 z1 z2 W).mono ?_
  rintro e w1 ⟨rfl, b1⟩
  have k1 := (b1.cell (p := ⟨w.heap.size, 0, none⟩) hlt).trans f1
  have k2 := (b1.cell (p := ⟨w.heap.size, 1, none⟩) hlt).trans f2
  by_cases hbig : (1048576 : Int) < (n1 : Int) + n2
  · have hl : left n1 n2 = -1 := by unfold left; rw [if_pos hbig]
    rw [hl]
    go_wp2_with fail
    go_ret
    exact ⟨rfl, hb0.trans (b1.mono hb0.size)⟩
  · have hl : left n1 n2 = 1048576 - n1 - n2 := by unfold left; rw [if_neg hbig]
    rw [hl]
    clear hl
    have hs1 : n1 ≤ 1048576 := by omega
    have hs2 : n2 ≤ 1048576 := by omega
    have hnn : ¬ (1048576 : Int) - n1 - n2 < 0 := by omega
    go_wp2_with fail
    refine (toRecord_any a1 a2 n1 c1 n2 c2 l1 l2 hs1 hs2 _ (K1.out.below b1) (K2.out.below b1)).mono ?_
    rintro e w2 ⟨g1, g2, rfl, o2, b2⟩
    have hh := ownHolds o2
    have hh1 := Lib.hid hh.1
    have hh2 := Lib.hid hh.2
    have b12 := b1.trans (b2.mono b1.size)
    clear hh o2 b1 b2 k1 k2
    go_wp2_with fail
    refine (HM.out _ _ _ hs1 hs2 hh1.out hh2.out).mono ?_
    rintro e X ⟨pw1, kw1, dw1, vsw, rfl, gw, qw1, ow1, b3⟩
    have bX := b12.trans (b3.mono b12.size)
    have m1 := (bX.cell (p := ⟨w.heap.size, 0, none⟩) hlt).trans f1
    have m2 := (bX.cell (p := ⟨w.heap.size, 1, none⟩) hlt).trans f2
    have GWX := Lib.hid (gw.holds)
    have KX1 := Lib.hid (K1.out.below bX)
    have KX2 := Lib.hid (K2.out.below bX)
    have HBX := Lib.hid (hb0.trans (bX.mono hb0.size))
    have hltX := Nat.lt_of_lt_of_le hlt bX.size
    clear gw b12 b3 hh1 hh2 f1 f2 bX hb0 K1 K2
    go_wp2_with fail
    refine (toRecord_any a1 a2 n1 c1 n2 c2 l1 l2 hs1 hs2 _ KX1.out KX2.out).mono ?_
    rintro e w4 ⟨g3, g4, rfl, o4, b4⟩
    have GO4 := Lib.hid (got_of_own o4)
    have hg3 : X.heap.size ≤ g3 ∧ g3 < w4.heap.size := o4.ctx.lt g3 rfl
    have hg4 : X.heap.size ≤ g4 ∧ g4 < w4.heap.size := o4.rel.lt g4 rfl
    have hb5 := below_alloc w4 (.cells #[.slice (some ⟨g3, 0, none⟩) n1 n1, .slice (some ⟨g4, 0, none⟩) n2 n2] 27)
    have x1 := box_first w4 (.slice (some ⟨g3, 0, none⟩) n1 n1) (.slice (some ⟨g4, 0, none⟩) n2 n2) 27
    have x2 := box_second w4 (.slice (some ⟨g3, 0, none⟩) n1 n1) (.slice (some ⟨g4, 0, none⟩) n2 n2) 27
    have hlt5 : w4.heap.size < (w4.alloc (.cells #[.slice (some ⟨g3, 0, none⟩) n1 n1, .slice (some ⟨g4, 0, none⟩) n2 n2] 27)).heap.size := by simp
    have b5 := b4.trans (hb5.mono b4.size)
    have GO5 := Lib.hid (GO4.out.below hb5)
    clear o4 b4 GO4 hb5
    go_wp2_with fail
    generalize w4.alloc (.cells #[.slice (some ⟨g3, 0, none⟩) n1 n1, .slice (some ⟨g4, 0, none⟩) n2 n2] 27) = W5 at *
    refine (HI.out _ _ _ hs1 hs2 GO5.out.holds.1 GO5.out.holds.2).mono ?_
    rintro e w7 ⟨pg1, kg1, dg1, vsg, rfl, gg, qg1, og1, b57⟩
    obtain rfl : kw1 = kg1 := by rw [← gg.len, ← GWX.out.1]
    have b7 := b5.trans (b57.mono b5.size)
    have y1 := (b57.cell (p := ⟨w4.heap.size, 0, none⟩) hlt5).trans x1
    have y2 := (b57.cell (p := ⟨w4.heap.size, 1, none⟩) hlt5).trans x2
    have GO7 := Lib.hid (GO5.out.below b57)
    have GG7 := Lib.hid gg
    have GL : Hid (∀ b, ((Value.slice pg1 kw1 dg1).ownBlock = some b ∨ SS.Inner vsg b) → W5.heap.size ≤ b ∧ b < w7.heap.size) := gg.lt
    have hs5 := b5.size
    clear gg b5 x1 x2 GO5
    go_wp2_with fail
    refine (SS.eq_same pg1 pw1 kw1 dg1 dw1 L qw1 (by omega) _ GG7.out.holds (GWX.out.below b7)).mono ?_
    rintro e w8 ⟨rfl, b78⟩
    have b8 := b7.trans (b78.mono b7.size)
    have y1 := (b78.cell (p := ⟨w4.heap.size, 0, none⟩) (by show w4.heap.size < _; have := b57.size; omega)).trans y1
    have y2 := (b78.cell (p := ⟨w4.heap.size, 1, none⟩) (by show w4.heap.size < _; have := b57.size; omega)).trans y2
    have j1 := (b8.cell (p := ⟨w.heap.size, 0, none⟩) hltX).trans m1
    have j2 := (b8.cell (p := ⟨w.heap.size, 1, none⟩) hltX).trans m2
    have GO8 := Lib.hid (GO7.out.below b78)
    have GG8 := Lib.hid (GG7.out.below b78)
    have hlt8 : w4.heap.size < w8.heap.size := by have := b78.size; have := b57.size; omega
    have hltw8 : w.heap.size < w8.heap.size := by have := b8.size; omega
    clear GO7 GG7 b57 b78 b7
    go_wp2_with fail
    have hK1 := Lib.hid (KX1.out.below b8.drew)
    have hK2 := Lib.hid (KX2.out.below b8.drew)
    have bd := (Below.refl w8.heap.size w8).drew
    have GO9 := Lib.hid (GO8.out.below bd)
    have GG9 := Lib.hid (GG8.out.below bd)
    have b8d := b8.drew
    have HB8D := Lib.hid b8d
    clear b8 bd b8d GO8 GG8
    go_region_held3 (fun w' => w'.cell? ⟨w4.heap.size, 0, none⟩ = some (.slice (some ⟨g3, 0, none⟩) n1 n1) ∧ w'.cell? ⟨w4.heap.size, 1, none⟩ = some (.slice (some ⟨g4, 0, none⟩) n2 n2) ∧ w4.heap.size < w'.heap.size ∧ w'.cell? ⟨w.heap.size, 0, none⟩ = some (.slice a1 n1 c1) ∧ w'.cell? ⟨w.heap.size, 1, none⟩ = some (.slice a2 n2 c2) ∧ w.heap.size < w'.heap.size)
      (first | go_keep | (exact ⟨by assumption, by assumption, by assumption, by assumption, by assumption, by assumption⟩))
      (first
        | (go_at_call 28; refine (toRecord_keeps a1 a2 n1 c1 n2 c2 l1 l2 hs1 hs2 w4.heap.size w.heap.size (.slice (some ⟨g3, 0, none⟩) n1 n1) (.slice (some ⟨g4, 0, none⟩) n2 n2) (.slice a1 n1 c1) (.slice a2 n2 c2) w8.drew hK1.out hK2.out ⟨y1, y2, hlt8, j1, j2, hltw8⟩).mono ?_; rintro e w9 ⟨g5, g6, rfl, o9, b9, s1, s2, s3, s4, s5, s6⟩)
        | (go_at_call 30; refine (eqRecord_keeps (some ⟨g3, 0, none⟩) (some ⟨g4, 0, none⟩) (some ⟨g5, 0, none⟩) (some ⟨g6, 0, none⟩) n1 n2 n1 n2 n1 n2 l1 l2 hs1 hs2 w4.heap.size w.heap.size (.slice (some ⟨g3, 0, none⟩) n1 n1) (.slice (some ⟨g4, 0, none⟩) n2 n2) (.slice a1 n1 c1) (.slice a2 n2 c2) w9 (GO9.out.holds.1.below b9) (GO9.out.holds.2.below b9) (ownHolds o9).1 (ownHolds o9).2 ⟨s1, s2, s3, s4, s5, s6⟩).mono ?_; rintro e w10 ⟨rfl, b10, t1, t2, t3, t4, t5, t6⟩))
    have b810 : Below w8.heap.size w8.drew w10 := b9.trans (b10.mono b9.size)
    have b10' := HB8D.out.trans (b810.mono HB8D.out.size)
    have GO10 := Lib.hid (GO9.out.below b810)
    have GG10 := Lib.hid (GG9.out.below b810)
    clear o9 b9 b10 s1 s2 s3 s4 s5 s6 y1 y2 j1 j2 GO9 GG9 hK1 hK2 b810 HB8D
    go_wp2_with fail
    refine (markRecord_any _ (some ⟨g3, 0, none⟩) (some ⟨g4, 0, none⟩) n1 n1 n2 n2 l1 l2 hs1 hs2 w10 GO10.out).mono ?_
    rintro e w11 ⟨rfl, gm, q11⟩
    have SX : ∀ b, ((Value.slice (some ⟨g3, 0, none⟩) n1 n1).ownBlock = some b ∨ (Value.slice (some ⟨g4, 0, none⟩) n2 n2).ownBlock = some b) → X.heap.size ≤ b ∧ b < w4.heap.size := by
      intro b hb
      rcases hb with hb | hb
      · have e1 : g3 = b := by simpa [Value.ownBlock] using hb
        omega
      · have e1 : g4 = b := by simpa [Value.ownBlock] using hb
        omega
    have b11 : Below X.heap.size X w11 := b10'.trans (q11.below (fun b hb => (SX b hb).1) b10'.size)
    have GG11 := Lib.hid (GG10.out.kept q11 (fun b hb hs => by have := (GL.out b hb).1; have := (SX b hs).2; omega))
    have hkk : ¬ 1 + 2 * (n1 : Int) + 2 * (n2 : Int) < 0 := by omega
    clear gm q11 SX GG10 GO10 b10' t1 t2 t3 t4 t5 t6
    go_wp2_with fail
    refine (SS.eq_same pg1 pw1 kw1 dg1 dw1 L qw1 (by omega) _ GG11.out.holds (GWX.out.below b11)).mono ?_
    rintro e w12 ⟨rfl, b1112⟩
    have b12 := b11.trans (b1112.mono b11.size)
    have GG12 := Lib.hid (GG11.out.below b1112)
    clear GG11 b1112 b11
    go_wp2_with fail
    refine (SS.mark_any _ pg1 kw1 dg1 1 L vsg (by omega) (by omega) qw1 (by omega) w12 GG12.out).mono ?_
    rintro e w13 ⟨rfl, gm, q13⟩
    have b13 : Below X.heap.size X w13 := b12.trans (q13.below (fun b hb => by have := (GL.out b (.inr hb)).1; omega) b12.size)
    have GM := Lib.hid (gm.holds)
    clear gm q13 GG12 b12
    go_wp2_with fail
    refine (SS.held_any pg1 kw1 dg1 1 L (by omega) (by omega) qw1 (by omega) GWX.out.1 w13 GM.out).mono ?_
    rintro e w14 ⟨rfl, rfl⟩
    have j1 := (b13.cell (p := ⟨w.heap.size, 0, none⟩) hltX).trans m1
    have j2 := (b13.cell (p := ⟨w.heap.size, 1, none⟩) hltX).trans m2
    have hkk2 : ¬ 1 + (SS.off L kw1 : Int) < 0 := by omega
    go_wp2_with fail
    refine (toRecord_any a1 a2 n1 c1 n2 c2 l1 l2 hs1 hs2 _ (KX1.out.below b13) (KX2.out.below b13)).mono ?_
    rintro e w15 ⟨g7, g8, rfl, o15, b1415⟩
    have hh := ownHolds o15
    have hh1 := Lib.hid hh.1
    have hh2 := Lib.hid hh.2
    have b15 := b13.trans (b1415.mono b13.size)
    have GM15 := Lib.hid (GM.out.below b1415)
    clear j1 j2 hh o15 b1415 b13 GM
    go_wp2_with fail
    refine (HI.out _ _ _ hs1 hs2 hh1.out hh2.out).mono ?_
    rintro e w17 ⟨ph1, kh1, dh1, vsh, rfl, gh, qh1, oh1, b1517⟩
    obtain rfl : kw1 = kh1 := by rw [← gh.len, ← GWX.out.1]
    have b17 := b15.trans (b1517.mono b15.size)
    have GH := Lib.hid (gh.holds)
    have GM17 := Lib.hid (GM15.out.below b1517)
    clear gh b1517 b15 GM15 hh1 hh2
    go_wp2_with fail
    refine (SS.eq_same ph1 pw1 kw1 dh1 dw1 L qw1 (by omega) _ GH.out (GWX.out.below b17)).mono ?_
    rintro e w18 ⟨rfl, b1718⟩
    have b18 := b17.trans (b1718.mono b17.size)
    have GM18 := Lib.hid (GM17.out.below b1718)
    clear GH GM17 b1718 b17
    go_wp2_with fail
    refine (SS.held_any pg1 kw1 dg1 1 L (by omega) (by omega) qw1 (by omega) GWX.out.1 w18 GM18.out).mono ?_
    rintro e w19 ⟨rfl, rfl⟩
    have HB := Lib.hid (HBX.out.trans (b18.mono HBX.out.size))
    clear b18
    go_wp2_with fail
    go_ret
    exact ⟨rfl, HB.out⟩
end Go.Proofs.Ytfjpogohdoojmaa.WContradictionGroups
