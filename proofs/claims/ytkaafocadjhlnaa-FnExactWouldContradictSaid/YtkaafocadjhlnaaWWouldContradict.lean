/- The walk of the law FnExactWouldContradict, from contracts of the program's and of the model's WouldContradict. -/
import Derived.Test.YtkaafocadjhlnaaLawKit
import Derived.Test.YtkaafocadjhlnaaRecOpen
import Derived.OpenShut
import Derived.Deep.RegionHeld3
import Derived.Deep.RegionWith
import Derived.ChangeOld
namespace Go.Proofs.Ytkaafocadjhlnaa.WWouldContradict
open Go.ChangeShapes Go.WideShapes Go.ChangeAt Go.RowKit
open Pairs Rec RecEq RecOpen
open LawKit (S toRecord_keeps eqRecord_keeps ownHolds)
set_option linter.unusedVariables false
set_option maxHeartbeats 2000000 in
theorem walk (y1 y2 : Int) (F : List (Int × Int) → List (Int × Int) → Bool × Bool) (hI : ∀ (a1 a2 : Option Addr) (n1 c1 n2 c2 : Nat) (l m : List (Int × Int)) (w : World), n1 ≤ 1048576 → n2 ≤ 1048576 → Holds w a1 n1 l → Holds w a2 n2 m → Calls Try.prog 34 #[.agg #[.slice a1 n1 c1, .slice a2 n2 c2], .agg #[.int .i64 y1, .int .i64 y2]] w fun e w' => e = .returned (.tuple #[.bool (F l m).1, .bool (F l m).2]) ∧ Below w.heap.size w w') (hM : ∀ (a1 a2 : Option Addr) (n1 c1 n2 c2 : Nat) (l m : List (Int × Int)) (w : World), n1 ≤ 1048576 → n2 ≤ 1048576 → Holds w a1 n1 l → Holds w a2 n2 m → Calls Try.prog 32 #[.agg #[.slice a1 n1 c1, .slice a2 n2 c2], .agg #[.int .i64 y1, .int .i64 y2]] w fun e w' => e = .returned (.tuple #[.bool (F l m).1, .bool (F l m).2]) ∧ Below w.heap.size w w') (a1 a2 : Option Addr) (n1 c1 n2 c2 : Nat) (l1 l2 : List (Int × Int)) (w : World) (z1 : n1 ≤ 9223372036854775807) (z2 : n2 ≤ 9223372036854775807) (H1 : Holds w a1 n1 l1) (H2 : Holds w a2 n2 l2) :
    Calls Try.prog 6 #[.agg #[.slice a1 n1 c1, .slice a2 n2 c2], .agg #[.int .i64 y1, .int .i64 y2]] w fun e w' => e = .returned (.bool true) ∧ Below w.heap.size w w' := by
  obtain ⟨hs, f1, f2, f3, f4, hb0⟩ := boxes2 w (.slice a1 n1 c1) (.slice a2 n2 c2) (.int .i64 y1) (.int .i64 y2) 25 50
  have HSZ := Lib.hid hs
  clear hs
  have K1 := Lib.hid (H1.below hb0)
  have K2 := Lib.hid (H2.below hb0)
  clear H1 H2
  have hI1 := fun (p1 p2 : Option Addr) (w : World) h1 h2 h3 h4 => hI p1 p2 n1 n1 n2 n2 l1 l2 w h1 h2 h3 h4
  have hM1 := fun (p1 p2 : Option Addr) (w : World) h1 h2 h3 h4 => hM p1 p2 n1 n1 n2 n2 l1 l2 w h1 h2 h3 h4
  clear hI hM
  generalize F l1 l2 = FF at hI1 hM1
  obtain ⟨r1, r2⟩ := FF
  have HI := Lib.hid hI1
  have HM := Lib.hid hM1
  clear hI1 hM1
  go_enter Try.func6, Try.ntmps6
  go_wp2_with fail
  generalize (w.alloc (.cells #[.slice a1 n1 c1, .slice a2 n2 c2] 25)).alloc (.cells #[.int .i64 y1, .int .i64 y2] 50) = W at *
  have hlt : w.heap.size < W.heap.size := by rw [HSZ.out]; omega
  have hlt1 : w.heap.size + 1 < W.heap.size := by rw [HSZ.out]; omega
  have HF : Hid (∀ X, Below W.heap.size W X → X.cell? ⟨w.heap.size, 0, none⟩ = some (.slice a1 n1 c1) ∧ X.cell? ⟨w.heap.size, 1, none⟩ = some (.slice a2 n2 c2) ∧ X.cell? ⟨w.heap.size + 1, 0, none⟩ = some (.int .i64 y1) ∧ X.cell? ⟨w.heap.size + 1, 1, none⟩ = some (.int .i64 y2)) := fun X hX => ⟨(hX.cell (p := ⟨w.heap.size, 0, none⟩) hlt).trans f1, (hX.cell (p := ⟨w.heap.size, 1, none⟩) hlt).trans f2, (hX.cell (p := ⟨w.heap.size + 1, 0, none⟩) hlt1).trans f3, (hX.cell (p := ⟨w.heap.size + 1, 1, none⟩) hlt1).trans f4⟩
  refine (szRecord_any a1 a2 n1 c1 n2 c2 z1 z2 W).mono ?_
  rintro e w1 ⟨rfl, b1⟩
  obtain ⟨k1, k2, k3, k4⟩ := HF.out w1 b1
  by_cases hbig : (1048576 : Int) < (n1 : Int) + n2
  · have hl : left n1 n2 = -1 := by unfold left; rw [if_pos hbig]
    rw [hl]
    go_wp2_with fail
    go_ret
    exact ⟨rfl, hb0.trans (b1.mono hb0.size)⟩
  · have hl : left n1 n2 = 1048576 - n1 - n2 := by unfold left; rw [if_neg hbig]
    rw [hl]
    clear hl
    have hs1 : n1 ≤ 1048576 := by omega
    have hs2 : n2 ≤ 1048576 := by omega
    have hnn : ¬ (1048576 : Int) - n1 - n2 < 0 := by omega
    go_wp2_with fail
    have hbdr := (Below.refl w1.heap.size w1).drew
    have KD1 := Lib.hid ((K1.out.below b1).below hbdr)
    have KD2 := Lib.hid ((K2.out.below b1).below hbdr)
    have hB1 := Lib.hid b1
    go_region_held3 (fun X => X.cell? ⟨w.heap.size, 0, none⟩ = some (.slice a1 n1 c1) ∧ X.cell? ⟨w.heap.size, 1, none⟩ = some (.slice a2 n2 c2) ∧ X.cell? ⟨w.heap.size + 1, 0, none⟩ = some (.int .i64 y1) ∧ X.cell? ⟨w.heap.size + 1, 1, none⟩ = some (.int .i64 y2))
      (first | exact s4 | exact s3 | exact s2 | (refine HF.out _ ?_; (first | exact hB1.out | exact hB1.out.drew)))
      (first
        | (go_at_call 15; refine (toRecord_any a1 a2 n1 c1 n2 c2 l1 l2 hs1 hs2 _ KD1.out KD2.out).mono ?_; rintro e w2 ⟨g1, g2, rfl, o2, b2⟩; have B2 := Lib.hid (hbdr.trans b2); have s2 := HF.out w2 (hB1.out.trans (B2.out.mono hB1.out.size)))
        | (go_at_call 33; refine (toRelation_any y1 y2 _).mono ?_; rintro e w3 ⟨rfl, b3⟩; have B3 := Lib.hid (B2.out.trans (b3.mono B2.out.size)); have s3 := HF.out w3 (hB1.out.trans (B3.out.mono hB1.out.size)))
        | (go_at_call 32; refine (HM.out _ _ _ hs1 hs2 ((ownHolds o2).1.below b3) ((ownHolds o2).2.below b3)).mono ?_; rintro e w4 ⟨rfl, b4⟩; have B4 := Lib.hid (B3.out.trans (b4.mono B3.out.size)); have s4 := HF.out w4 (hB1.out.trans (B4.out.mono hB1.out.size)))
        | fail)
    have b13 := hB1.out.trans (B4.out.mono hB1.out.size)
    obtain ⟨k1, k2, k3, k4⟩ := HF.out w4 b13
    generalize w4 = w3 at *
    clear b2 b3 b4 o2 s2 s3 s4 B2 B3 B4 KD1 KD2 hbdr
    go_wp2_with fail
    refine (toRecord_any a1 a2 n1 c1 n2 c2 l1 l2 hs1 hs2 _ (K1.out.below b13) (K2.out.below b13)).mono ?_
    rintro e w4 ⟨g3, g4, rfl, o4, b4⟩
    have hh := ownHolds o4
    have hh3 := Lib.hid hh.1
    have hh4 := Lib.hid hh.2
    have b14 := b13.trans (b4.mono b13.size)
    clear hh o4 b13 b4 k1 k2
    go_wp2_with fail
    have hb5 := below_alloc w4 (.cells #[.slice (some ⟨g3, 0, none⟩) n1 n1, .slice (some ⟨g4, 0, none⟩) n2 n2] 32)
    have x1 := box_first w4 (.slice (some ⟨g3, 0, none⟩) n1 n1) (.slice (some ⟨g4, 0, none⟩) n2 n2) 32
    have x2 := box_second w4 (.slice (some ⟨g3, 0, none⟩) n1 n1) (.slice (some ⟨g4, 0, none⟩) n2 n2) 32
    have hlt5 : w4.heap.size < (w4.alloc (.cells #[.slice (some ⟨g3, 0, none⟩) n1 n1, .slice (some ⟨g4, 0, none⟩) n2 n2] 32)).heap.size := by simp
    have b15 := b14.trans (hb5.mono b14.size)
    have hh5 := Lib.hid (hh3.out.below hb5)
    have hh6 := Lib.hid (hh4.out.below hb5)
    clear b14 hb5
    generalize w4.alloc (.cells #[.slice (some ⟨g3, 0, none⟩) n1 n1, .slice (some ⟨g4, 0, none⟩) n2 n2] 32) = W5 at *
    obtain ⟨k1, k2, k3, k4⟩ := HF.out W5 b15
    have hbdr := (Below.refl W5.heap.size W5).drew
    have HX5 : Hid (∀ X, Below W5.heap.size W5 X → X.cell? ⟨w4.heap.size, 0, none⟩ = some (.slice (some ⟨g3, 0, none⟩) n1 n1) ∧ X.cell? ⟨w4.heap.size, 1, none⟩ = some (.slice (some ⟨g4, 0, none⟩) n2 n2) ∧ X.cell? ⟨w.heap.size + 1, 0, none⟩ = some (.int .i64 y1) ∧ X.cell? ⟨w.heap.size + 1, 1, none⟩ = some (.int .i64 y2)) := fun X hX => ⟨(hX.cell (p := ⟨w4.heap.size, 0, none⟩) hlt5).trans x1, (hX.cell (p := ⟨w4.heap.size, 1, none⟩) hlt5).trans x2, (HF.out X (b15.trans (hX.mono b15.size))).2.2⟩
    go_region_held3 (fun X => X.cell? ⟨w4.heap.size, 0, none⟩ = some (.slice (some ⟨g3, 0, none⟩) n1 n1) ∧ X.cell? ⟨w4.heap.size, 1, none⟩ = some (.slice (some ⟨g4, 0, none⟩) n2 n2) ∧ X.cell? ⟨w.heap.size + 1, 0, none⟩ = some (.int .i64 y1) ∧ X.cell? ⟨w.heap.size + 1, 1, none⟩ = some (.int .i64 y2))
      (first | exact s4 | exact s3 | (refine HX5.out _ ?_; (first | exact hbdr | exact Below.refl _ _)))
      (first
        | (go_at_call 33; refine (toRelation_any y1 y2 _).mono ?_; rintro e w5 ⟨rfl, b5⟩; have B5 := Lib.hid (hbdr.trans b5); have s3 := HX5.out w5 B5.out)
        | (go_at_call 34; refine (HI.out _ _ _ hs1 hs2 (hh5.out.below B5.out) (hh6.out.below B5.out)).mono ?_; rintro e w6 ⟨rfl, b6⟩; have B6 := Lib.hid (B5.out.trans (b6.mono B5.out.size)); have s4 := HX5.out w6 B6.out)
        | fail)
    have b6' := B6.out
    clear b5 b6 s3 s4 B5 B6 hbdr k1 k2 k3 k4
    have b6 := b6'
    clear b6'
    have b16 := b15.trans (b6.mono b15.size)
    have k1 := (b16.cell (p := ⟨w.heap.size, 0, none⟩) hlt).trans f1
    have k2 := (b16.cell (p := ⟨w.heap.size, 1, none⟩) hlt).trans f2
    have y1 := (b6.cell (p := ⟨w4.heap.size, 0, none⟩) hlt5).trans x1
    have y2 := (b6.cell (p := ⟨w4.heap.size, 1, none⟩) hlt5).trans x2
    have hh7 := Lib.hid (hh5.out.below b6)
    have hh8 := Lib.hid (hh6.out.below b6)
    have hlt6 := Nat.lt_of_lt_of_le hlt5 b6.size
    have hltw := Nat.lt_of_lt_of_le hlt b16.size
    clear b15 b6 x1 x2
    go_wp2_with fail
    have hK1 := Lib.hid (K1.out.below b16.drew)
    have hK2 := Lib.hid (K2.out.below b16.drew)
    have hh9 := Lib.hid (hh7.out.below (Below.refl w6.heap.size w6).drew)
    have hh10 := Lib.hid (hh8.out.below (Below.refl w6.heap.size w6).drew)
    go_region_held3 (fun w' => w'.cell? ⟨w4.heap.size, 0, none⟩ = some (.slice (some ⟨g3, 0, none⟩) n1 n1) ∧ w'.cell? ⟨w4.heap.size, 1, none⟩ = some (.slice (some ⟨g4, 0, none⟩) n2 n2) ∧ w4.heap.size < w'.heap.size ∧ w'.cell? ⟨w.heap.size, 0, none⟩ = some (.slice a1 n1 c1) ∧ w'.cell? ⟨w.heap.size, 1, none⟩ = some (.slice a2 n2 c2) ∧ w.heap.size < w'.heap.size)
      (first | go_keep | (exact ⟨by assumption, by assumption, by assumption, by assumption, by assumption, by assumption⟩))
      (first
        | (go_at_call 15; refine (toRecord_keeps a1 a2 n1 c1 n2 c2 l1 l2 hs1 hs2 w4.heap.size w.heap.size (.slice (some ⟨g3, 0, none⟩) n1 n1) (.slice (some ⟨g4, 0, none⟩) n2 n2) (.slice a1 n1 c1) (.slice a2 n2 c2) w6.drew hK1.out hK2.out ⟨y1, y2, hlt6, k1, k2, hltw⟩).mono ?_; rintro e w7 ⟨g5, g6, rfl, o7, b7, s1, s2, s3, s4, s5, s6⟩)
        | (go_at_call 18; refine (eqRecord_keeps (some ⟨g3, 0, none⟩) (some ⟨g4, 0, none⟩) (some ⟨g5, 0, none⟩) (some ⟨g6, 0, none⟩) n1 n2 n1 n2 n1 n2 l1 l2 hs1 hs2 w4.heap.size w.heap.size (.slice (some ⟨g3, 0, none⟩) n1 n1) (.slice (some ⟨g4, 0, none⟩) n2 n2) (.slice a1 n1 c1) (.slice a2 n2 c2) w7 (hh9.out.below b7) (hh10.out.below b7) (ownHolds o7).1 (ownHolds o7).2 ⟨s1, s2, s3, s4, s5, s6⟩).mono ?_; rintro e w8 ⟨rfl, b8, t1, t2, t3, t4, t5, t6⟩))
    have b17 := b16.drew.trans (b7.mono b16.drew.size)
    have b18 := b17.trans (b8.mono b17.size)
    have HB := Lib.hid (hb0.trans (b18.mono hb0.size))
    go_wp2_with fail
    go_ret
    exact ⟨rfl, HB.out⟩
end Go.Proofs.Ytkaafocadjhlnaa.WWouldContradict
