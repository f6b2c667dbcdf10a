/- FnExactRankSequence: at every argument RankSequence answers as its model does, leaves its arguments as they were, and its answer is memory of its own. Condition (tied to the program's text by the card): the variables that the row lists lie as their initialisers lay them. -/
import Derived.Test.YtjllbbkpmmnkgaaDoorLawKit
import Derived.Test.YtjllbbkpmmnkgaaDoorGivesI
import Derived.Test.YtjllbbkpmmnkgaaDoorIntT
import Derived.Test.YtjllbbkpmmnkgaaDoorRowI
import Derived.Test.YtjllbbkpmmnkgaaDoorRkP
import Derived.ShapedOpen
import Derived.Test.YtjllbbkpmmnkgaaDoorCards
import Derived.Test.YtjllbbkpmmnkgaaDoorTie
import Derived.WalkKit
import Derived.ProofKit
import Derived.OpenShut
import Derived.ShutString
import Derived.ChangeOld
import Derived.OpenVars
import Derived.ChangeVars
import Derived.Below
import Derived.Lay
import Derived.Deep.DeepWitnessRowRef
namespace Go.Proofs.YtjllbbkpmmnkgaaDoor.WRankSequence
open Go.ChangeShapes Go.WideShapes Go.ChangeAt Go.RowKit
open Pairs Rec RecEq RecOpen
open LawKit (S toRecord_keeps eqRecord_keeps ownHolds)
set_option linter.unusedVariables false
set_option maxRecDepth 100000 in
set_option maxHeartbeats 8000000 in
theorem walk (V : World → Prop) (hV : ∀ w w', V w → Below w.heap.size w w' → V w') (F : List (Int × Int) → List (Int × Int) → List Int → Int × Bool) (hI : ∀ (a1 a2 : Option Addr) (n1 c1 n2 c2 : Nat) (l m : List (Int × Int)) (p0 : Option Addr) (np0 : Nat) (L0 : List Int) (w : World), n1 ≤ c1 → n1 ≤ 1048576 → n2 ≤ 1048576 → Holds w a1 n1 l → Holds w a2 n2 m → np0 ≤ 1048576 → GivesI.HoldsI w p0 np0 L0 → V w → Calls Tryd.prog 23 #[.agg #[.slice a1 n1 c1, .slice a2 n2 c2], .slice p0 np0 np0] w fun e w' => e = .returned (.tuple #[.int .i64 ((F l m L0).1), .bool ((F l m L0).2)]) ∧ Below w.heap.size w w') (hM : ∀ (a1 a2 : Option Addr) (n1 c1 n2 c2 : Nat) (l m : List (Int × Int)) (p0 : Option Addr) (np0 : Nat) (L0 : List Int) (w : World), n1 ≤ c1 → n1 ≤ 1048576 → n2 ≤ 1048576 → Holds w a1 n1 l → Holds w a2 n2 m → np0 ≤ 1048576 → GivesI.HoldsI w p0 np0 L0 → Calls Tryd.prog 22 #[.agg #[.slice a1 n1 c1, .slice a2 n2 c2], .slice p0 np0 np0] w fun e w' => e = .returned (.tuple #[.int .i64 ((F l m L0).1), .bool ((F l m L0).2)]) ∧ Below w.heap.size w w') (a1 a2 : Option Addr) (n1 c1 n2 c2 : Nat) (l1 l2 : List (Int × Int)) (p0 : Option Addr) (np0 cp0 : Nat) (L0 : List Int) (w : World) (z1 : n1 ≤ 9223372036854775807) (z2 : n2 ≤ 9223372036854775807) (H1 : Holds w a1 n1 l1) (H2 : Holds w a2 n2 l2) (K0 : GivesI.HoldsI w p0 np0 L0) (v0 : V w) :
    Calls Tryd.prog 6 #[.agg #[.slice a1 n1 c1, .slice a2 n2 c2], .slice p0 np0 cp0] w fun e w' => e = .returned (.bool true) ∧ Below w.heap.size w w' := by
  have HV : Hid (∀ wr, Below w.heap.size w wr → V wr) := fun wr hb => hV _ _ v0 hb
  clear hV v0
  rcases Nat.lt_or_ge 1048576 np0 with hq0 | hs00
  · have hbg : (1048576 : Int) < (np0 : Int) := by omega
    go_enter Tryd.func6, Tryd.ntmps6
    go_wp2_with fail
    go_ret
    exact ⟨rfl, below_alloc _ _⟩
  have hsb0 : ¬ (1048576 : Int) < (np0 : Int) := by omega
  have hb0 := below_alloc w (.cells #[.slice a1 n1 c1, .slice a2 n2 c2] 25)
  have f1 := box_first w (.slice a1 n1 c1) (.slice a2 n2 c2) 25
  have f2 := box_second w (.slice a1 n1 c1) (.slice a2 n2 c2) 25
  have hlt : w.heap.size < (w.alloc (.cells #[.slice a1 n1 c1, .slice a2 n2 c2] 25)).heap.size := by simp
  have K1A := Lib.hid (H1.below hb0)
  have K2A := Lib.hid (H2.below hb0)
  have KS0 := Lib.hid (K0.below hb0)
  clear H1 H2 K0
  have hI1 := fun (p1 p2 q0 : Option Addr) (w : World) h1 h2 h3 h4 h5 h6 => hI p1 p2 n1 n1 n2 n2 l1 l2 q0 np0 L0 w (Nat.le_refl _) h1 h2 h3 h4 h5 h6
  have hM1 := fun (p1 p2 q0 : Option Addr) (w : World) h1 h2 h3 h4 h5 h6 => hM p1 p2 n1 n1 n2 n2 l1 l2 q0 np0 L0 w (Nat.le_refl _) h1 h2 h3 h4 h5 h6
  clear hI hM
  generalize F l1 l2 L0 = FF at hI1 hM1
  obtain ⟨r1, r2⟩ := FF
  have HI := Lib.hid hI1
  have HM := Lib.hid hM1
  clear hI1 hM1
  go_enter Tryd.func6, Tryd.ntmps6
  go_wp2_with fail
  generalize w.alloc (.cells #[.slice a1 n1 c1, .slice a2 n2 c2] 25) = W at *
  refine (szRecord_any a1 a2 n1 c1 n2 c2 z1 z2 W).mono ?_
  rintro e w1 ⟨rfl, b1⟩
  have k1 := (b1.cell (p := ⟨w.heap.size, 0, none⟩) hlt).trans f1
  have k2 := (b1.cell (p := ⟨w.heap.size, 1, none⟩) hlt).trans f2
  by_cases hbig : (1048576 : Int) < (n1 : Int) + n2
  · have hl : left n1 n2 = -1 := by unfold left; rw [if_pos hbig]
    rw [hl]
    go_wp2_with fail
    go_ret
    exact ⟨rfl, hb0.trans (b1.mono hb0.size)⟩
  · have hl : left n1 n2 = 1048576 - n1 - n2 := by unfold left; rw [if_neg hbig]
    rw [hl]
    clear hl
    have hs1 : n1 ≤ 1048576 := by omega
    have hs2 : n2 ≤ 1048576 := by omega
    have hnn : ¬ (1048576 : Int) - n1 - n2 < 0 := by omega
    go_wp2_with fail
    refine (toRecord_any a1 a2 n1 c1 n2 c2 l1 l2 hs1 hs2 _ (K1A.out.below b1) (K2A.out.below b1)).mono ?_
    rintro e w2 ⟨g1, g2, rfl, o2, b2⟩
    have b12 := b1.trans (b2.mono b1.size)
    have hh := ownHolds o2
    have HA1 := Lib.hid hh.1
    have HA2 := Lib.hid hh.2
    have BA := Lib.hid b12
    clear hh o2 b1 b2 b12 k1 k2
    go_wp2_with fail
    refine (IntT.toIntS_any p0 np0 cp0 L0 hs00 _ (KS0.out.below BA.out)).mono ?_
    rintro e wa0 ⟨ga0, rfl, oa0, ba0⟩
    have HP0 := Lib.hid (GivesI.holds_own oa0)
    have HB1 := Lib.hid (HA1.out.below ba0)
    have HB2 := Lib.hid (HA2.out.below ba0)
    clear HA1 HA2
    have HA1 := Lib.hid HB1.out
    have HA2 := Lib.hid HB2.out
    have BB := Lib.hid (BA.out.trans (ba0.mono BA.out.size))
    clear HB1 HB2 BA
    have BA := Lib.hid BB.out
    clear BB oa0 ba0
    go_wp2_with fail
    refine (HM.out _ _ _ _ hs1 hs2 HA1.out HA2.out hs00 HP0.out).mono ?_
    rintro e X ⟨rfl, b4⟩
    have bX := BA.out.trans (b4.mono BA.out.size)
    have m1 := (bX.cell (p := ⟨w.heap.size, 0, none⟩) hlt).trans f1
    have m2 := (bX.cell (p := ⟨w.heap.size, 1, none⟩) hlt).trans f2
    have KX1 := Lib.hid (K1A.out.below bX)
    have KX2 := Lib.hid (K2A.out.below bX)
    have KY0 := Lib.hid (KS0.out.below bX)
    have HBX := Lib.hid (hb0.trans (bX.mono hb0.size))
    have hltX := Nat.lt_of_lt_of_le hlt bX.size
    clear b4 HA1 HA2 bX hb0 K1A K2A f1 f2 BA KS0 HP0
    go_wp2_with fail
    refine (toRecord_any a1 a2 n1 c1 n2 c2 l1 l2 hs1 hs2 _ KX1.out KX2.out).mono ?_
    rintro e w4 ⟨g4, g5, rfl, o4, b4⟩
    have hb5 := below_alloc w4 (.cells #[.slice (some ⟨g4, 0, none⟩) n1 n1, .slice (some ⟨g5, 0, none⟩) n2 n2] 33)
    have x1 := box_first w4 (.slice (some ⟨g4, 0, none⟩) n1 n1) (.slice (some ⟨g5, 0, none⟩) n2 n2) 33
    have x2 := box_second w4 (.slice (some ⟨g4, 0, none⟩) n1 n1) (.slice (some ⟨g5, 0, none⟩) n2 n2) 33
    have hlt5 : w4.heap.size < (w4.alloc (.cells #[.slice (some ⟨g4, 0, none⟩) n1 n1, .slice (some ⟨g5, 0, none⟩) n2 n2] 33)).heap.size := by simp
    have B5 := Lib.hid (b4.trans (hb5.mono b4.size))
    have hh5 := Lib.hid ((ownHolds o4).1.below hb5)
    have hh6 := Lib.hid ((ownHolds o4).2.below hb5)
    clear o4 b4 hb5
    go_wp2_with fail
    generalize w4.alloc (.cells #[.slice (some ⟨g4, 0, none⟩) n1 n1, .slice (some ⟨g5, 0, none⟩) n2 n2] 33) = W5 at *
    refine (IntT.toIntS_any p0 np0 cp0 L0 hs00 _ (KY0.out.below B5.out)).mono ?_
    rintro e wb0 ⟨gb0, rfl, ob0, bb0⟩
    have HP0 := Lib.hid (GivesI.holds_own ob0)
    have HB1 := Lib.hid (hh5.out.below bb0)
    have HB2 := Lib.hid (hh6.out.below bb0)
    have y1 := (bb0.cell (p := ⟨w4.heap.size, 0, none⟩) hlt5).trans x1
    have y2 := (bb0.cell (p := ⟨w4.heap.size, 1, none⟩) hlt5).trans x2
    have hlt5b := Nat.lt_of_lt_of_le hlt5 bb0.size
    clear hh5 hh6 x1 x2 hlt5
    have hh5 := Lib.hid HB1.out
    have hh6 := Lib.hid HB2.out
    have x1 := y1
    have x2 := y2
    have hlt5 := hlt5b
    have BB := Lib.hid (B5.out.trans (bb0.mono B5.out.size))
    clear HB1 HB2 B5 y1 y2 hlt5b
    have B5 := Lib.hid BB.out
    clear BB ob0 bb0
    go_wp2_with fail
    refine (HI.out _ _ _ _ hs1 hs2 hh5.out hh6.out hs00 HP0.out (HV.out _ (HBX.out.trans (B5.out.mono HBX.out.size)))).mono ?_
    rintro e w7 ⟨rfl, b7⟩
    have y1 := (b7.cell (p := ⟨w4.heap.size, 0, none⟩) hlt5).trans x1
    have y2 := (b7.cell (p := ⟨w4.heap.size, 1, none⟩) hlt5).trans x2
    have b67 := B5.out.trans (b7.mono B5.out.size)
    have j1 := (b67.cell (p := ⟨w.heap.size, 0, none⟩) hltX).trans m1
    have j2 := (b67.cell (p := ⟨w.heap.size, 1, none⟩) hltX).trans m2
    have hh9 := Lib.hid (hh5.out.below b7)
    have hh10 := Lib.hid (hh6.out.below b7)
    have HQ0 := Lib.hid (HP0.out.below b7)
    have hlt7 := Nat.lt_of_lt_of_le hlt5 b7.size
    have hltw7 := Nat.lt_of_lt_of_le hltX b67.size
    have B7 := Lib.hid b67
    clear b7 b67 hh5 hh6 HP0
    go_wp2_with fail
    have hK1 := Lib.hid (KX1.out.below B7.out.drew)
    have hK2 := Lib.hid (KX2.out.below B7.out.drew)
    have hh11 := Lib.hid (hh9.out.below (Below.refl w7.heap.size w7).drew)
    have hh12 := Lib.hid (hh10.out.below (Below.refl w7.heap.size w7).drew)
    go_region_held3 (fun w' => w'.cell? ⟨w4.heap.size, 0, none⟩ = some (.slice (some ⟨g4, 0, none⟩) n1 n1) ∧ w'.cell? ⟨w4.heap.size, 1, none⟩ = some (.slice (some ⟨g5, 0, none⟩) n2 n2) ∧ w4.heap.size < w'.heap.size ∧ w'.cell? ⟨w.heap.size, 0, none⟩ = some (.slice a1 n1 c1) ∧ w'.cell? ⟨w.heap.size, 1, none⟩ = some (.slice a2 n2 c2) ∧ w.heap.size < w'.heap.size)
      (first | go_keep | (exact ⟨by assumption, by assumption, by assumption, by assumption, by assumption, by assumption⟩))
      (first
        | (go_at_call 13; refine (toRecord_keeps a1 a2 n1 c1 n2 c2 l1 l2 hs1 hs2 w4.heap.size w.heap.size (.slice (some ⟨g4, 0, none⟩) n1 n1) (.slice (some ⟨g5, 0, none⟩) n2 n2) (.slice a1 n1 c1) (.slice a2 n2 c2) w7.drew hK1.out hK2.out ⟨y1, y2, hlt7, j1, j2, hltw7⟩).mono ?_; rintro e w8 ⟨g7, g8, rfl, o8, b8, s1, s2, s3, s4, s5, s6⟩)
        | (go_at_call 16; refine (eqRecord_keeps (some ⟨g4, 0, none⟩) (some ⟨g5, 0, none⟩) (some ⟨g7, 0, none⟩) (some ⟨g8, 0, none⟩) n1 n2 n1 n2 n1 n2 l1 l2 hs1 hs2 w4.heap.size w.heap.size (.slice (some ⟨g4, 0, none⟩) n1 n1) (.slice (some ⟨g5, 0, none⟩) n2 n2) (.slice a1 n1 c1) (.slice a2 n2 c2) w8 (hh11.out.below b8) (hh12.out.below b8) (ownHolds o8).1 (ownHolds o8).2 ⟨s1, s2, s3, s4, s5, s6⟩).mono ?_; rintro e w9 ⟨rfl, b9, t1, t2, t3, t4, t5, t6⟩))
    have b79 : Below w7.heap.size w7 w9 := (Below.refl w7.heap.size w7).drew.trans (b8.trans (b9.mono b8.size))
    have B9 := Lib.hid (B7.out.trans (b79.mono B7.out.size))
    have HR0 := Lib.hid (HQ0.out.below b79)
    clear o8 b8 b9 b79 s1 s2 s3 s4 s5 s6 y1 y2 j1 j2 t1 t2 t4 t5 hh11 hh12 HQ0
    go_wp2_with fail
    refine (IntT.toIntS_any p0 np0 cp0 L0 hs00 _ (KY0.out.below B9.out)).mono ?_
    rintro e wc0 ⟨gc0, rfl, oc0, bc0⟩
    have B10 := Lib.hid (B9.out.trans (bc0.mono B9.out.size))
    have HU0 := Lib.hid (HR0.out.below bc0)
    have HT0 := Lib.hid (GivesI.holds_own oc0)
    clear oc0 bc0 B9
    go_wp2_with fail
    refine (GivesI.eq_same _ _ np0 np0 np0 L0 hs00 _ HU0.out HT0.out).mono ?_
    rintro e wd0 ⟨rfl, bd0⟩
    have B9 := Lib.hid (B10.out.trans (bd0.mono B10.out.size))
    clear B10 bd0
    go_wp2_with fail
    go_ret
    exact ⟨rfl, HBX.out.trans (B9.out.mono HBX.out.size)⟩
end Go.Proofs.YtjllbbkpmmnkgaaDoor.WRankSequence

namespace Go.Proofs.YtjllbbkpmmnkgaaDoor.DRankSequence
open Go.RowKit GivesI Tz RowI Pairs Rec
set_option linter.unusedVariables false
theorem vars {W : World} (h : laidMetH Tryd.prog Rows.fnExactRankSequenceRow.laid W) : Tab W := by
  have h1 := laidMetH.filter (fun x => x.1 == "math/bits.deBruijn64tab") h
  rw [show (Rows.fnExactRankSequenceRow.laid.filter fun x => x.1 == "math/bits.deBruijn64tab") = [("math/bits.deBruijn64tab", Lib.tabData .u8 zs64)] by kernel_rfl] at h1
  exact tab_of h1
theorem walk (b1 b2 : Option Addr) (n1 c1 n2 c2 : Nat) (l1 l2 : List (Int × Int)) (a1 : Option Addr) (len1 cap1 : Nat) (zs1 : List Int) (W : World) (z1 : n1 ≤ 9223372036854775807) (z2 : n2 ≤ 9223372036854775807) (H1 : Holds W b1 n1 l1) (H2 : Holds W b2 n2 l2) (w1 : IsRow .i64 W a1 len1 cap1 zs1) (hL : laidMetH Tryd.prog Rows.fnExactRankSequenceRow.laid W) (hsh : World.ShapedOpen Tryd.prog W) :
    Calls Tryd.prog 6 #[.agg #[.slice b1 n1 c1, .slice b2 n2 c2], .slice a1 len1 cap1] W fun e w' => e = .returned (.bool true) ∧ Below W.heap.size W w' :=
  WRankSequence.walk  Tab (fun _ _ h hb => h.below hb) RkM.rkP (fun a1 a2 n1 c1 n2 c2 l m p np L w _ h1 h2 g1 g2 h3 g3 hT => RkP.impl_any a1 a2 p n1 c1 n2 c2 np np l m L w h1 h2 h3 g1 g2 g3 hT) (fun a1 a2 n1 c1 n2 c2 l m p np L w _ h1 h2 g1 g2 h3 g3 => RkS.spec_any a1 a2 p n1 c1 n2 c2 np np l m L w h1 h3 g1 g2 g3) b1 b2 n1 c1 n2 c2 l1 l2 a1 len1 cap1 (zs1.take len1) W z1 z2 H1 H2 (holds_row w1) (vars hL)
end Go.Proofs.YtjllbbkpmmnkgaaDoor.DRankSequence

namespace Go.Proofs.YtjllbbkpmmnkgaaDoor.CRankSequence
open Go.ChangeShapes Go.WideShapes Go.ChangeAt Go.RowKit
open Go.ChangeMaps (open_string shut_string)
open DRankSequence RowI
set_option linter.unusedVariables false

theorem own : ownKnob Tryd.prog.godebug = none := by kernel_rfl
theorem laidOut : laidOutB Tryd.prog = true := by kernel_rfl
set_option maxRecDepth 100000 in
theorem contract (H : Type) (enc : TypeId × Value → H) (W : World) (base : Nat) (args : Array Value) (ds gs : List (DataW H)) (before : List MemPlace)
    (hval : ∀ (j : Nat) t v, Tryd.f6.params[j]? = some t → args[j]? = some v → Value.okWide Tryd.prog W .any base t v)
    (hW : DataW.Whole enc Tryd.prog Tryd.f6.params.toList Rows.fnExactRankSequenceSpec.vars false W args.toList ds gs before) (hL : laidMetH Tryd.prog Rows.fnExactRankSequenceRow.laid W) (hsh : World.ShapedOpen Tryd.prog W) :
    Calls Tryd.prog 6 args W fun e W' => ∃ v, e = .returned v ∧ Rows.fnExactRankSequenceSpec.post enc Tryd.prog Tryd.f6 false true false false W args v W' := by
  have hW' := hW
  obtain ⟨p, q, hA0, hV0, rfl, hfz, hnd⟩ := hW
  have hA : DataW.TrodAll enc Tryd.prog W 0 (fun _ => true) true Tryd.f6.params.toList args.toList ds p := hA0
  rw [Tryd.params6] at hA hval
  obtain ⟨v0, vs0, d0, ds0, p0, q0, hargs, rfl, rfl, h0, r0⟩ := trodAll_cons hA
  obtain ⟨v1, vs1, d1, ds1, p1, q1, rfl, rfl, rfl, h1, r1⟩ := trodAll_cons r0
  obtain ⟨rfl, rfl, rfl⟩ := trodAll_nil r1
  obtain rfl : args = #[v0, v1] := by cases args; simp_all
  obtain ⟨rfl, rfl⟩ := trodVars_none hV0
  have k0 := h0
  have lt0 : ∀ x ∈ p0, x.block < W.heap.size := by obtain ⟨m, hm⟩ := k0; exact DataW.trod_lt m _ _ _ hm
  obtain ⟨u, v, y0, y9, fuel, rfl, rfl, hp, hu, hv⟩ := Joins.open_agg2 Tryd.underlying25 (by kernel_rfl) (by kernel_rfl) (hval 0 25 v0 rfl rfl) h0
  obtain ⟨b1, n1, c1, l1, rfl, zr1, H1⟩ := RecOpen.open_pairs Tryd.underlying22 Tryd.underlying89 (by kernel_rfl) rfl rfl (by kernel_rfl) (by kernel_rfl) Tryd.underlying3 Tryd.underlying3 hu
  obtain ⟨b2, n2, c2, l2, rfl, zr2, H2⟩ := RecOpen.open_pairs Tryd.underlying23 Tryd.underlying93 (by kernel_rfl) rfl rfl (by kernel_rfl) (by kernel_rfl) Tryd.underlying3 Tryd.underlying3 hv
  obtain ⟨a1, len1, cap1, rfl⟩ := okWide_slice Tryd.underlying26 (hval 1 26 v1 rfl rfl)
  have k1 := h1
  have lt1 : ∀ x ∈ p1, x.block < W.heap.size := by obtain ⟨m, hm⟩ := k1; exact DataW.trod_lt m _ _ _ hm
  obtain ⟨z1, w1⟩ : ∃ zs, IsRow .i64 W a1 len1 cap1 zs := by
    obtain ⟨fuel, hf⟩ := h1
    rcases open_ints Tryd.underlying26 Tryd.underlying3 (by kernel_rfl) hf with ⟨hcs, _⟩ | ⟨x, l, c, zs, hcs, _, hl, hm, hz, _, hcell, hwz⟩
    · simp [Value.cells] at hcs
      obtain ⟨rfl, rfl, rfl⟩ := hcs
      exact ⟨[], .inl ⟨rfl, rfl, rfl, rfl⟩⟩
    · simp [Value.cells] at hcs
      obtain ⟨rfl, rfl, rfl⟩ := hcs
      exact ⟨zs, .inr ⟨_, rfl, hl, hm, by simpa using hz, hcell, hwz⟩⟩
  clear hA0
  simp only [List.append_nil] at hW'
  refine (walk b1 b2 n1 c1 n2 c2 l1 l2 a1 len1 cap1 z1 W zr1 zr2 H1 H2 w1 hL hsh).mono fun e W' ⟨he, bel⟩ => ?_
  subst he
  exact ⟨_, rfl, _, _, _, [], _, [], hW', trodAll_mk1 (shut_bool Tryd.underlying4 _), (trodAll_cons_mk (Below.trod laidOut (by kernel_rfl) (of_decide_eq_true (by kernel_rfl)) k0 bel lt0) (trodAll_cons_mk (Below.trod laidOut (by kernel_rfl) (of_decide_eq_true (by kernel_rfl)) k1 bel lt1) trodAll_mk0)), rfl, bel.frame _, fun h => by cases h⟩

theorem laid_met (os : Os) : laidMetH Tryd.prog Rows.fnExactRankSequenceRow.laid ((World.laidAll Tryd.prog os Rows.fnExactRankSequenceRow.laid).forCall (fun _ _ => 0) ⟨#[], #[.agg #[.slice none 0 0, .slice none 0 0], .slice none 0 0], []⟩).memory :=
  laidMet_laidAll _ (by kernel_rfl) (by kernel_rfl)
theorem reads (os : Os) {H : Type} (enc : TypeId × Value → H) : ∃ x y z, DataW.whole enc Tryd.prog ((World.laidAll Tryd.prog os Rows.fnExactRankSequenceRow.laid).forCall (fun _ _ => 0) ⟨#[], #[.agg #[.slice none 0 0, .slice none 0 0], .slice none 0 0], []⟩).memory Tryd.f6.params.toList Rows.fnExactRankSequenceSpec.vars false (#[.agg #[.slice none 0 0, .slice none 0 0], .slice none 0 0] : Array Value).toList 8 = some (x, y, z) := by
  have h : (DataW.whole enc Tryd.prog ((World.laidAll Tryd.prog os Rows.fnExactRankSequenceRow.laid).forCall (fun _ _ => 0) ⟨#[], #[.agg #[.slice none 0 0, .slice none 0 0], .slice none 0 0], []⟩).memory Tryd.f6.params.toList Rows.fnExactRankSequenceSpec.vars false (#[.agg #[.slice none 0 0, .slice none 0 0], .slice none 0 0] : Array Value).toList 8).isSome = true := by kernel_rfl
  obtain ⟨⟨x, y, z⟩, h⟩ := Option.isSome_iff_exists.1 h
  exact ⟨x, y, z, h⟩

set_option maxRecDepth 100000 in
theorem lifted (os : Os) (started : os.Started) (H : Type) (enc : TypeId × Value → H) (F : Stop.Interp) :
    ReturnsInHanded {} Tryd.checked os 6 .any ((OpenSpec.ofChange Rows.fnExactRankSequenceSpec).preRow enc Tryd.prog Tryd.f6 Rows.fnExactRankSequenceRow.domain false Rows.fnExactRankSequenceRow.laid) (((OpenSpec.ofChange Rows.fnExactRankSequenceSpec).at F).post enc Tryd.prog Tryd.f6 false true false false) := by
  obtain ⟨x, y, z, hx⟩ := reads os enc
  refine returnsInHanded_of_row (C := Tryd.checked) (s := OpenSpec.ofChange Rows.fnExactRankSequenceSpec) own started (by kernel_rfl) Tryd.func6
    (witness_row_atRef (enc := enc) (C := Tryd.checked) false (World.laidAll Tryd.prog os Rows.fnExactRankSequenceRow.laid) #[.agg #[.slice none 0 0, .slice none 0 0], .slice none 0 0] (World.laidAll_os _ _ _) (by kernel_rfl) (by kernel_rfl) (by kernel_rfl)
      (OpenSpec.preRow_of_cond 8 hx (by kernel_rfl) (fun k hk => by cases hk) (by kernel_rfl) (laid_met os))) ?_
  intro W base args ds gs before hval hW _ _ _ hL hsh _
  exact contract H enc W base args ds gs before hval hW hL hsh

theorem said : Rows.FnExactRankSequenceSaid :=
  OpenClaim.holds_of_cond 6 Tryd.f6 rfl rfl rfl rfl rfl rfl rfl ⟨rfl, rfl, rfl, rfl, rfl⟩ rfl rfl rfl rfl rfl (by kernel_rfl) Tryd.func6 (by kernel_rfl)
    (of_decide_eq_true (by kernel_rfl)) (by unfold Func.isWrapper; first | (rw [if_pos (by decide +kernel)]; kernel_rfl) | (rw [if_neg (by decide +kernel)]; exact ⟨rfl, rfl⟩))
    (fun os started H enc _ F => by rw [OpenClaim.pre_eq_preRow]; exact lifted os started H enc F)

theorem plain (f : FuncId) (fn : Func) (hf : Tryd.pinned.checked.prog.funcNamed "loop.example/g00876/laws.FnExactRankSequence" = some f) (hfn : Tryd.pinned.checked.prog.funcs[f]? = some fn) :
    false = Tryd.pinned.checked.prog.looks [] ∧ ∀ (j : Nat) t, fn.params[j]? = some t → Tryd.pinned.checked.prog.wantsStandIn t = false := by
  obtain rfl : f = 6 := Option.some.inj ((show Tryd.prog.funcNamed "loop.example/g00876/laws.FnExactRankSequence" = some 6 by kernel_rfl).symm.trans hf) |>.symm
  obtain rfl : fn = Tryd.f6 := (Option.some.inj (Tryd.func6.symm.trans hfn)).symm
  refine ⟨by kernel_rfl, fun j t ht => ?_⟩
  rw [Tryd.params6] at ht
  have hm := Array.mem_of_getElem? ht
  simp only [List.mem_toArray, List.mem_cons, List.not_mem_nil, or_false] at hm
  rcases hm with rfl | rfl
  · exact (show Tryd.prog.wantsStandIn 25 = false by kernel_rfl)
  · exact (show Tryd.prog.wantsStandIn 26 = false by kernel_rfl)

theorem card : Rows.FnExactRankSequenceCardSaid :=
  Claim7.holds_tied_plain_at .later [] _ _ _ _ said (fun _ h => by cases h) (by kernel_rfl) (fun _ h => by cases h) fnExactRankSequence_row_tie rfl ⟨rfl, rfl⟩ (by kernel_rfl) rfl plain (by kernel_rfl)
#print axioms card
end Go.Proofs.YtjllbbkpmmnkgaaDoor.CRankSequence
