/- The walk of the law FnExactCountBefore, from contracts of the program's and of the model's CountBefore. -/
import Derived.Test.YtjllbbkpmmnkgaaDoorLawKit
import Derived.Test.YtjllbbkpmmnkgaaDoorGivesI
import Derived.Test.YtjllbbkpmmnkgaaDoorRowI
import Derived.Test.YtjllbbkpmmnkgaaDoorCbP
import Derived.Test.YtjllbbkpmmnkgaaDoorCbS
import Derived.ShapedOpen

namespace Go.Proofs.YtjllbbkpmmnkgaaDoor.WCountBefore
open Go.ChangeShapes Go.WideShapes Go.ChangeAt Go.RowKit
open Pairs Rec RecEq RecOpen
open LawKit (S toRecord_keeps eqRecord_keeps ownHolds)
set_option linter.unusedVariables false
set_option maxRecDepth 100000 in
set_option maxHeartbeats 8000000 in
theorem walk (y0 : Int) (y1 : Int) (V : World → Prop) (hV : ∀ w w', V w → Below w.heap.size w w' → V w') (F : List (Int × Int) → List (Int × Int) → Int × Bool) (hI : ∀ (a1 a2 : Option Addr) (n1 c1 n2 c2 : Nat) (l m : List (Int × Int)) (w : World), n1 ≤ c1 → n1 ≤ 1048576 → n2 ≤ 1048576 → Holds w a1 n1 l → Holds w a2 n2 m → V w → Calls Tryd.prog 32 #[.agg #[.slice a1 n1 c1, .slice a2 n2 c2], .int .i64 y0, .int .i64 y1] w fun e w' => e = .returned (.tuple #[.int .i64 ((F l m).1), .bool ((F l m).2)]) ∧ Below w.heap.size w w') (hM : ∀ (a1 a2 : Option Addr) (n1 c1 n2 c2 : Nat) (l m : List (Int × Int)) (w : World), n1 ≤ c1 → n1 ≤ 1048576 → n2 ≤ 1048576 → Holds w a1 n1 l → Holds w a2 n2 m → Calls Tryd.prog 31 #[.agg #[.slice a1 n1 c1, .slice a2 n2 c2], .int .i64 y0, .int .i64 y1] w fun e w' => e = .returned (.tuple #[.int .i64 ((F l m).1), .bool ((F l m).2)]) ∧ Below w.heap.size w w') (a1 a2 : Option Addr) (n1 c1 n2 c2 : Nat) (l1 l2 : List (Int × Int)) (w : World) (z1 : n1 ≤ 9223372036854775807) (z2 : n2 ≤ 9223372036854775807) (H1 : Holds w a1 n1 l1) (H2 : Holds w a2 n2 l2) (v0 : V w) :
    Calls Tryd.prog 9 #[.agg #[.slice a1 n1 c1, .slice a2 n2 c2], .int .i64 y0, .int .i64 y1] w fun e w' => e = .returned (.bool true) ∧ Below w.heap.size w w' := by
  have HV : Hid (∀ wr, Below w.heap.size w wr → V wr) := fun wr hb => hV _ _ v0 hb
  clear hV v0
  have hb0 := below_alloc w (.cells #[.slice a1 n1 c1, .slice a2 n2 c2] 25)
  have f1 := box_first w (.slice a1 n1 c1) (.slice a2 n2 c2) 25
  have f2 := box_second w (.slice a1 n1 c1) (.slice a2 n2 c2) 25
  have hlt : w.heap.size < (w.alloc (.cells #[.slice a1 n1 c1, .slice a2 n2 c2] 25)).heap.size := by simp
  have K1A := Lib.hid (H1.below hb0)
  have K2A := Lib.hid (H2.below hb0)
  clear H1 H2
  have hI1 := fun (p1 p2 : Option Addr) (w : World) h1 h2 h3 h4 => hI p1 p2 n1 n1 n2 n2 l1 l2 w (Nat.le_refl _) h1 h2 h3 h4
  have hM1 := fun (p1 p2 : Option Addr) (w : World) h1 h2 h3 h4 => hM p1 p2 n1 n1 n2 n2 l1 l2 w (Nat.le_refl _) h1 h2 h3 h4
  clear hI hM
  generalize F l1 l2 = FF at hI1 hM1
  obtain ⟨r1, r2⟩ := FF
  have HI := Lib.hid hI1
  have HM := Lib.hid hM1
  clear hI1 hM1
  go_enter Tryd.func9, Tryd.ntmps9
  go_wp2_with fail
  generalize w.alloc (.cells #[.slice a1 n1 c1, .slice a2 n2 c2] 25) = W at *
  refine (szRecord_any a1 a2 n1 c1 n2 c2 z1 z2 W).mono ?_
  rintro e w1 ⟨rfl, b1⟩
  have k1 := (b1.cell (p := ⟨w.heap.size, 0, none⟩) hlt).trans f1
  have k2 := (b1.cell (p := ⟨w.heap.size, 1, none⟩) hlt).trans f2
  by_cases hbig : (1048576 : Int) < (n1 : Int) + n2
  · have hl : left n1 n2 = -1 := by unfold left; rw [if_pos hbig]
    rw [hl]
    go_wp2_with fail
    go_ret
    exact ⟨rfl, hb0.trans (b1.mono hb0.size)⟩
  · have hl : left n1 n2 = 1048576 - n1 - n2 := by unfold left; rw [if_neg hbig]
    rw [hl]
    clear hl
    have hs1 : n1 ≤ 1048576 := by omega
    have hs2 : n2 ≤ 1048576 := by omega
    have hnn : ¬ (1048576 : Int) - n1 - n2 < 0 := by omega
    go_wp2_with fail
    refine (toRecord_any a1 a2 n1 c1 n2 c2 l1 l2 hs1 hs2 _ (K1A.out.below b1) (K2A.out.below b1)).mono ?_
    rintro e w2 ⟨g1, g2, rfl, o2, b2⟩
    have b12 := b1.trans (b2.mono b1.size)
    have hh := ownHolds o2
    have HA1 := Lib.hid hh.1
    have HA2 := Lib.hid hh.2
    have BA := Lib.hid b12
    clear hh o2 b1 b2 b12 k1 k2
    go_wp2_with fail
    refine (HM.out _ _ _ hs1 hs2 HA1.out HA2.out).mono ?_
    rintro e X ⟨rfl, b4⟩
    have bX := BA.out.trans (b4.mono BA.out.size)
    have m1 := (bX.cell (p := ⟨w.heap.size, 0, none⟩) hlt).trans f1
    have m2 := (bX.cell (p := ⟨w.heap.size, 1, none⟩) hlt).trans f2
    have KX1 := Lib.hid (K1A.out.below bX)
    have KX2 := Lib.hid (K2A.out.below bX)
    have HBX := Lib.hid (hb0.trans (bX.mono hb0.size))
    have hltX := Nat.lt_of_lt_of_le hlt bX.size
    clear b4 HA1 HA2 bX hb0 K1A K2A f1 f2 BA
    go_wp2_with fail
    refine (toRecord_any a1 a2 n1 c1 n2 c2 l1 l2 hs1 hs2 _ KX1.out KX2.out).mono ?_
    rintro e w4 ⟨g4, g5, rfl, o4, b4⟩
    have hb5 := below_alloc w4 (.cells #[.slice (some ⟨g4, 0, none⟩) n1 n1, .slice (some ⟨g5, 0, none⟩) n2 n2] 33)
    have x1 := box_first w4 (.slice (some ⟨g4, 0, none⟩) n1 n1) (.slice (some ⟨g5, 0, none⟩) n2 n2) 33
    have x2 := box_second w4 (.slice (some ⟨g4, 0, none⟩) n1 n1) (.slice (some ⟨g5, 0, none⟩) n2 n2) 33
    have hlt5 : w4.heap.size < (w4.alloc (.cells #[.slice (some ⟨g4, 0, none⟩) n1 n1, .slice (some ⟨g5, 0, none⟩) n2 n2] 33)).heap.size := by simp
    have B5 := Lib.hid (b4.trans (hb5.mono b4.size))
    have hh5 := Lib.hid ((ownHolds o4).1.below hb5)
    have hh6 := Lib.hid ((ownHolds o4).2.below hb5)
    clear o4 b4 hb5
    go_wp2_with fail
    generalize w4.alloc (.cells #[.slice (some ⟨g4, 0, none⟩) n1 n1, .slice (some ⟨g5, 0, none⟩) n2 n2] 33) = W5 at *
    refine (HI.out _ _ _ hs1 hs2 hh5.out hh6.out (HV.out _ (HBX.out.trans (B5.out.mono HBX.out.size)))).mono ?_
    rintro e w7 ⟨rfl, b7⟩
    have y1 := (b7.cell (p := ⟨w4.heap.size, 0, none⟩) hlt5).trans x1
    have y2 := (b7.cell (p := ⟨w4.heap.size, 1, none⟩) hlt5).trans x2
    have b67 := B5.out.trans (b7.mono B5.out.size)
    have j1 := (b67.cell (p := ⟨w.heap.size, 0, none⟩) hltX).trans m1
    have j2 := (b67.cell (p := ⟨w.heap.size, 1, none⟩) hltX).trans m2
    have hh9 := Lib.hid (hh5.out.below b7)
    have hh10 := Lib.hid (hh6.out.below b7)
    have hlt7 := Nat.lt_of_lt_of_le hlt5 b7.size
    have hltw7 := Nat.lt_of_lt_of_le hltX b67.size
    have B7 := Lib.hid b67
    clear b7 b67 hh5 hh6
    go_wp2_with fail
    have hK1 := Lib.hid (KX1.out.below B7.out.drew)
    have hK2 := Lib.hid (KX2.out.below B7.out.drew)
    have hh11 := Lib.hid (hh9.out.below (Below.refl w7.heap.size w7).drew)
    have hh12 := Lib.hid (hh10.out.below (Below.refl w7.heap.size w7).drew)
    go_region_held3 (fun w' => w'.cell? ⟨w4.heap.size, 0, none⟩ = some (.slice (some ⟨g4, 0, none⟩) n1 n1) ∧ w'.cell? ⟨w4.heap.size, 1, none⟩ = some (.slice (some ⟨g5, 0, none⟩) n2 n2) ∧ w4.heap.size < w'.heap.size ∧ w'.cell? ⟨w.heap.size, 0, none⟩ = some (.slice a1 n1 c1) ∧ w'.cell? ⟨w.heap.size, 1, none⟩ = some (.slice a2 n2 c2) ∧ w.heap.size < w'.heap.size)
      (first | go_keep | (exact ⟨by assumption, by assumption, by assumption, by assumption, by assumption, by assumption⟩))
      (first
        | (go_at_call 13; refine (toRecord_keeps a1 a2 n1 c1 n2 c2 l1 l2 hs1 hs2 w4.heap.size w.heap.size (.slice (some ⟨g4, 0, none⟩) n1 n1) (.slice (some ⟨g5, 0, none⟩) n2 n2) (.slice a1 n1 c1) (.slice a2 n2 c2) w7.drew hK1.out hK2.out ⟨y1, y2, hlt7, j1, j2, hltw7⟩).mono ?_; rintro e w8 ⟨g7, g8, rfl, o8, b8, s1, s2, s3, s4, s5, s6⟩)
        | (go_at_call 16; refine (eqRecord_keeps (some ⟨g4, 0, none⟩) (some ⟨g5, 0, none⟩) (some ⟨g7, 0, none⟩) (some ⟨g8, 0, none⟩) n1 n2 n1 n2 n1 n2 l1 l2 hs1 hs2 w4.heap.size w.heap.size (.slice (some ⟨g4, 0, none⟩) n1 n1) (.slice (some ⟨g5, 0, none⟩) n2 n2) (.slice a1 n1 c1) (.slice a2 n2 c2) w8 (hh11.out.below b8) (hh12.out.below b8) (ownHolds o8).1 (ownHolds o8).2 ⟨s1, s2, s3, s4, s5, s6⟩).mono ?_; rintro e w9 ⟨rfl, b9, t1, t2, t3, t4, t5, t6⟩))
    have b79 : Below w7.heap.size w7 w9 := (Below.refl w7.heap.size w7).drew.trans (b8.trans (b9.mono b8.size))
    have B9 := Lib.hid (B7.out.trans (b79.mono B7.out.size))
    clear o8 b8 b9 b79 s1 s2 s3 s4 s5 s6 y1 y2 j1 j2 t1 t2 t4 t5 hh11 hh12
    go_wp2_with fail
    go_ret
    exact ⟨rfl, HBX.out.trans (B9.out.mono HBX.out.size)⟩
end Go.Proofs.YtjllbbkpmmnkgaaDoor.WCountBefore

namespace Go.Proofs.YtjllbbkpmmnkgaaDoor.DCountBefore
open Go.RowKit GivesI Tz RowI Pairs Rec
set_option linter.unusedVariables false
theorem vars {W : World} (h : laidMetH Tryd.prog Rows.fnExactCountBeforeRow.laid W) : Tab W := by
  have h1 := laidMetH.filter (fun x => x.1 == "math/bits.deBruijn64tab") h
  rw [show (Rows.fnExactCountBeforeRow.laid.filter fun x => x.1 == "math/bits.deBruijn64tab") = [("math/bits.deBruijn64tab", Lib.tabData .u8 zs64)] by kernel_rfl] at h1
  exact tab_of h1
theorem walk (b1 b2 : Option Addr) (n1 c1 n2 c2 : Nat) (l1 l2 : List (Int × Int)) (a1 : Int) (a2 : Int) (W : World) (z1 : n1 ≤ 9223372036854775807) (z2 : n2 ≤ 9223372036854775807) (H1 : Holds W b1 n1 l1) (H2 : Holds W b2 n2 l2) (w1 : (Lit.int .i64 a1).wf = true) (w2 : (Lit.int .i64 a2).wf = true) (hL : laidMetH Tryd.prog Rows.fnExactCountBeforeRow.laid W) (hsh : World.ShapedOpen Tryd.prog W) :
    Calls Tryd.prog 9 #[.agg #[.slice b1 n1 c1, .slice b2 n2 c2], .int .i64 a1, .int .i64 a2] W fun e w' => e = .returned (.bool true) ∧ Below W.heap.size W w' :=
  WCountBefore.walk a1 a2 Tab (fun _ _ h hb => h.below hb) (CbP.cbP a1 a2) (fun x1 x2 n1 c1 n2 c2 l m w _ h1 h2 g1 g2 hT => CbP.impl_any a1 a2 x1 x2 n1 c1 n2 c2 l m w h1 h2 g1 g2 hT) (fun x1 x2 n1 c1 n2 c2 l m w _ h1 h2 g1 g2 => CbS.spec_any a1 a2 x1 x2 n1 c1 n2 c2 l m w h1 g1 g2) b1 b2 n1 c1 n2 c2 l1 l2  W z1 z2 H1 H2  (vars hL)
end Go.Proofs.YtjllbbkpmmnkgaaDoor.DCountBefore
