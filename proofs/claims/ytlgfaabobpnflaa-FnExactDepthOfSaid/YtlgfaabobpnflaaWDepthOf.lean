/- The walk of the law FnExactDepthOf, from contracts of the program's and of the model's DepthOf. -/
import Derived.Test.YtlgfaabobpnflaaLawKit
import Derived.Test.YtlgfaabobpnflaaGivesD
import Derived.Test.YtlgfaabobpnflaaRecOpen
import Derived.OpenShut
import Derived.Deep.RegionHeld3
import Derived.Deep.RegionWith
import Derived.ChangeOld
namespace Go.Proofs.Ytlgfaabobpnflaa.WDepthOf
open Go.ChangeShapes Go.WideShapes Go.ChangeAt Go.RowKit
open Pairs Rec RecEq RecOpen
open LawKit (S toRecord_keeps eqRecord_keeps ownHolds)
open GivesD (AnswersI0)
set_option linter.unusedVariables false
set_option maxHeartbeats 2000000 in
theorem walk (F : List (Int × Int) → List (Int × Int) → Int → Int × Bool) (hI : AnswersI0 35 F) (hM : AnswersI0 34 F) (a1 a2 : Option Addr) (n1 c1 n2 c2 : Nat) (l1 l2 : List (Int × Int)) (z : Int) (w : World) (z1 : n1 ≤ 9223372036854775807) (z2 : n2 ≤ 9223372036854775807) (H1 : Holds w a1 n1 l1) (H2 : Holds w a2 n2 l2) :
    Calls Try.prog 7 #[.agg #[.slice a1 n1 c1, .slice a2 n2 c2], .int .i64 z] w fun e w' => e = .returned (.bool true) ∧ Below w.heap.size w w' := by
  have hb0 := below_alloc w (.cells #[.slice a1 n1 c1, .slice a2 n2 c2] 25)
  have f1 := box_first w (.slice a1 n1 c1) (.slice a2 n2 c2) 25
  have f2 := box_second w (.slice a1 n1 c1) (.slice a2 n2 c2) 25
  have hlt : w.heap.size < (w.alloc (.cells #[.slice a1 n1 c1, .slice a2 n2 c2] 25)).heap.size := by simp
  have K1 := Lib.hid (H1.below hb0)
  have K2 := Lib.hid (H2.below hb0)
  clear H1 H2
  go_enter Try.func7, Try.ntmps7
  go_wp2_with fail
  generalize w.alloc (.cells #[.slice a1 n1 c1, .slice a2 n2 c2] 25) = W at *
  refine (szRecord_any a1 a2 n1 c1 n2 c2 z1 z2 W).mono ?_
  rintro e w1 ⟨rfl, b1⟩
  have k1 := (b1.cell (p := ⟨w.heap.size, 0, none⟩) hlt).trans f1
  have k2 := (b1.cell (p := ⟨w.heap.size, 1, none⟩) hlt).trans f2
  by_cases hbig : (1048576 : Int) < (n1 : Int) + n2
  · have hl : left n1 n2 = -1 := by unfold left; rw [if_pos hbig]
    rw [hl]
    go_wp2_with fail
    go_ret
    exact ⟨rfl, hb0.trans (b1.mono hb0.size)⟩
  · have hl : left n1 n2 = 1048576 - n1 - n2 := by unfold left; rw [if_neg hbig]
    rw [hl]
    clear hl
    have hs1 : n1 ≤ 1048576 := by omega
    have hs2 : n2 ≤ 1048576 := by omega
    have hnn : ¬ (1048576 : Int) - n1 - n2 < 0 := by omega
    go_wp2_with fail
    refine (toRecord_any a1 a2 n1 c1 n2 c2 l1 l2 hs1 hs2 _ (K1.out.below b1) (K2.out.below b1)).mono ?_
    rintro e w2 ⟨g1, g2, rfl, o2, b2⟩
    have hh := ownHolds o2
    have hh1 := Lib.hid hh.1
    have hh2 := Lib.hid hh.2
    have b12 := b1.trans (b2.mono b1.size)
    clear hh o2 b1 b2 k1 k2
    go_wp2_with fail
    refine (hM _ _ n1 n2 l1 l2 z _ hs1 hs2 hh1.out hh2.out).mono ?_
    rintro e w3 ⟨rfl, b3⟩
    have b13 := b12.trans (b3.mono b12.size)
    have k1 := (b13.cell (p := ⟨w.heap.size, 0, none⟩) hlt).trans f1
    have k2 := (b13.cell (p := ⟨w.heap.size, 1, none⟩) hlt).trans f2
    clear b12 b3
    go_wp2_with fail
    refine (toRecord_any a1 a2 n1 c1 n2 c2 l1 l2 hs1 hs2 _ (K1.out.below b13) (K2.out.below b13)).mono ?_
    rintro e w4 ⟨g3, g4, rfl, o4, b4⟩
    have hh := ownHolds o4
    have hh3 := Lib.hid hh.1
    have hh4 := Lib.hid hh.2
    have b14 := b13.trans (b4.mono b13.size)
    clear hh o4 b13 b4 k1 k2
    go_wp2_with fail
    have hb5 := below_alloc w4 (.cells #[.slice (some ⟨g3, 0, none⟩) n1 n1, .slice (some ⟨g4, 0, none⟩) n2 n2] 33)
    have x1 := box_first w4 (.slice (some ⟨g3, 0, none⟩) n1 n1) (.slice (some ⟨g4, 0, none⟩) n2 n2) 33
    have x2 := box_second w4 (.slice (some ⟨g3, 0, none⟩) n1 n1) (.slice (some ⟨g4, 0, none⟩) n2 n2) 33
    have hlt5 : w4.heap.size < (w4.alloc (.cells #[.slice (some ⟨g3, 0, none⟩) n1 n1, .slice (some ⟨g4, 0, none⟩) n2 n2] 33)).heap.size := by simp
    have b15 := b14.trans (hb5.mono b14.size)
    have hh5 := Lib.hid (hh3.out.below hb5)
    have hh6 := Lib.hid (hh4.out.below hb5)
    clear b14 hb5
    generalize w4.alloc (.cells #[.slice (some ⟨g3, 0, none⟩) n1 n1, .slice (some ⟨g4, 0, none⟩) n2 n2] 33) = W5 at *
    refine (hI _ _ n1 n2 l1 l2 z _ hs1 hs2 hh5.out hh6.out).mono ?_
    rintro e w6 ⟨rfl, b6⟩
    have b16 := b15.trans (b6.mono b15.size)
    have k1 := (b16.cell (p := ⟨w.heap.size, 0, none⟩) hlt).trans f1
    have k2 := (b16.cell (p := ⟨w.heap.size, 1, none⟩) hlt).trans f2
    have y1 := (b6.cell (p := ⟨w4.heap.size, 0, none⟩) hlt5).trans x1
    have y2 := (b6.cell (p := ⟨w4.heap.size, 1, none⟩) hlt5).trans x2
    have hh7 := Lib.hid (hh5.out.below b6)
    have hh8 := Lib.hid (hh6.out.below b6)
    have hlt6 := Nat.lt_of_lt_of_le hlt5 b6.size
    have hltw := Nat.lt_of_lt_of_le hlt b16.size
    clear b15 b6 x1 x2
    obtain ⟨r1, r2⟩ := F l1 l2 z
    go_wp2_with fail
    have hK1 := Lib.hid (K1.out.below b16.drew)
    have hK2 := Lib.hid (K2.out.below b16.drew)
    have hh9 := Lib.hid (hh7.out.below (Below.refl w6.heap.size w6).drew)
    have hh10 := Lib.hid (hh8.out.below (Below.refl w6.heap.size w6).drew)
    go_region_held3 (fun w' => w'.cell? ⟨w4.heap.size, 0, none⟩ = some (.slice (some ⟨g3, 0, none⟩) n1 n1) ∧ w'.cell? ⟨w4.heap.size, 1, none⟩ = some (.slice (some ⟨g4, 0, none⟩) n2 n2) ∧ w4.heap.size < w'.heap.size ∧ w'.cell? ⟨w.heap.size, 0, none⟩ = some (.slice a1 n1 c1) ∧ w'.cell? ⟨w.heap.size, 1, none⟩ = some (.slice a2 n2 c2) ∧ w.heap.size < w'.heap.size)
      (first | go_keep | (exact ⟨by assumption, by assumption, by assumption, by assumption, by assumption, by assumption⟩))
      (first
        | (go_at_call 17; refine (toRecord_keeps a1 a2 n1 c1 n2 c2 l1 l2 hs1 hs2 w4.heap.size w.heap.size (.slice (some ⟨g3, 0, none⟩) n1 n1) (.slice (some ⟨g4, 0, none⟩) n2 n2) (.slice a1 n1 c1) (.slice a2 n2 c2) w6.drew hK1.out hK2.out ⟨y1, y2, hlt6, k1, k2, hltw⟩).mono ?_; rintro e w7 ⟨g5, g6, rfl, o7, b7, s1, s2, s3, s4, s5, s6⟩)
        | (go_at_call 20; refine (eqRecord_keeps (some ⟨g3, 0, none⟩) (some ⟨g4, 0, none⟩) (some ⟨g5, 0, none⟩) (some ⟨g6, 0, none⟩) n1 n2 n1 n2 n1 n2 l1 l2 hs1 hs2 w4.heap.size w.heap.size (.slice (some ⟨g3, 0, none⟩) n1 n1) (.slice (some ⟨g4, 0, none⟩) n2 n2) (.slice a1 n1 c1) (.slice a2 n2 c2) w7 (hh9.out.below b7) (hh10.out.below b7) (ownHolds o7).1 (ownHolds o7).2 ⟨s1, s2, s3, s4, s5, s6⟩).mono ?_; rintro e w8 ⟨rfl, b8, t1, t2, t3, t4, t5, t6⟩))
    have b17 := b16.drew.trans (b7.mono b16.drew.size)
    have b18 := b17.trans (b8.mono b17.size)
    have HB := Lib.hid (hb0.trans (b18.mono hb0.size))
    go_wp2_with fail
    go_ret
    exact ⟨rfl, HB.out⟩
end Go.Proofs.Ytlgfaabobpnflaa.WDepthOf
