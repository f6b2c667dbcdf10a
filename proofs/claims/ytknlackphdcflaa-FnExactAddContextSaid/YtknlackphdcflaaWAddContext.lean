/- The walk of the law FnExactAddContext, from contracts of the program's and of the model's AddContext. -/
import Derived.Test.YtknlackphdcflaaGivesN
import Derived.Test.YtknlackphdcflaaTwo
import Derived.Deep.DeepCutAuto
namespace Go.Proofs.Ytknlackphdcflaa.WAddContext
open Go.ChangeShapes Go.WideShapes Go.ChangeAt Go.RowKit
open Pairs Rec RecEq RecOpen Keep Gives Mark2
open LawKit (S toRecord_keeps eqRecord_keeps ownHolds)
set_option linter.unusedVariables false
/-- A box that nothing has been laid in. -/
def ZB (X : World) (g : Nat) : Prop := X.heap[g]? = some (.cells #[.slice none 0 0, .slice none 0 0] 32)
theorem ZB.lt {X : World} {g : Nat} (h : ZB X g) : g < X.heap.size := (Array.getElem?_eq_some_iff.1 h).1
theorem ZB.c1 {X : World} {g : Nat} (h : ZB X g) : X.cell? ⟨g, 0, none⟩ = some (.slice none 0 0) := by unfold ZB at h; simp only [World.cell?, h]; rfl
theorem ZB.c2 {X : World} {g : Nat} (h : ZB X g) : X.cell? ⟨g, 1, none⟩ = some (.slice none 0 0) := by unfold ZB at h; simp only [World.cell?, h]; rfl
theorem ZB.f1 {X : World} {g : Nat} (h : ZB X g) : X.frozen? ⟨g, 0, none⟩ = false := by unfold ZB at h; simp only [World.frozen?, h]; rfl
theorem ZB.f2 {X : World} {g : Nat} (h : ZB X g) : X.frozen? ⟨g, 1, none⟩ = false := by unfold ZB at h; simp only [World.frozen?, h]; rfl
theorem zb_of {X Y : World} {g : Nat} (hb : Below X.heap.size X Y) (h : ZB X g) : ZB Y g := (hb.block g h.lt).trans h
theorem zb_new (w : World) : ZB (w.alloc (.cells #[.slice none 0 0, .slice none 0 0] 32)).drew w.heap.size := heap_alloc_new w _
theorem zb_new' (w : World) : ZB (w.alloc (.cells #[.slice none 0 0, .slice none 0 0] 32)) w.heap.size := heap_alloc_new w _
/-- Behind a call whose answer is laid in a box of its own. -/
def Called (w0 wc : World) (s6 s7 : Value) (ok : Bool) (L M : List (Int × Int)) : Prop :=
  ∃ (gb : Nat) (p1 : Option Addr) (k1 d1 : Nat) (p2 : Option Addr) (k2 d2 : Nat), s6 = .pointer (some ⟨gb, 0, none⟩) ∧ s7 = .bool ok ∧ wc.heap[gb]? = some (.cells #[.slice p1 k1 d1, .slice p2 k2 d2] 32) ∧ w0.heap.size ≤ gb ∧
    Got wc w0.heap.size p1 k1 d1 p2 k2 d2 L M ∧ ((Value.slice p1 k1 d1).ownBlock ≠ some gb ∧ (Value.slice p2 k2 d2).ownBlock ≠ some gb) ∧ k1 ≤ 1048576 ∧ k2 ≤ 1048576 ∧ Below w0.heap.size w0 wc
theorem called_set {w0 v4 : World} {gb B : Nat} {ok : Bool} {L M : List (Int × Int)} {p1 p2 : Option Addr} {k1 d1 k2 d2 : Nat} (hz : ZB v4 gb) (gw : Got v4 B p1 k1 d1 p2 k2 d2 L M) (hl : gb < B) (hb : Below w0.heap.size w0 v4) (q1 : k1 ≤ 1048576) (q2 : k2 ≤ 1048576) (hge : w0.heap.size ≤ gb) :
    Called w0 ((v4.setCell ⟨gb, 0, none⟩ (.slice p1 k1 d1)).setCell ⟨gb, 1, none⟩ (.slice p2 k2 d2)) (.pointer (some ⟨gb, 0, none⟩)) (.bool ok) ok L M := by
  have n1 : (Value.slice p1 k1 d1).ownBlock ≠ some gb := fun e => by have := (gw.ctx.lt gb e).1; omega
  have n2 : (Value.slice p2 k2 d2).ownBlock ≠ some gb := fun e => by have := (gw.rel.lt gb e).1; omega
  have s1 := (Two.setCell_block (a := .slice p1 k1 d1) hz).1
  have s2 := (Two.setCell_block (a := .slice p2 k2 d2) s1).2
  exact ⟨gb, p1, k1, d1, p2, k2, d2, rfl, rfl, s2, hge, ⟨ownsRow_base (Two.setCell_far (Two.setCell_far gw.ctx n1) n1) (by omega), ownsRow_base (Two.setCell_far (Two.setCell_far gw.rel n2) n2) (by omega), gw.ne⟩, ⟨n1, n2⟩, q1, q2, (hb.setCell (p := ⟨gb, 0, none⟩) hge _).setCell (p := ⟨gb, 1, none⟩) hge _⟩
theorem called_new {w0 v4 : World} {B : Nat} {ok : Bool} {L M : List (Int × Int)} {p1 p2 : Option Addr} {k1 d1 k2 d2 : Nat} (gw : Got v4 B p1 k1 d1 p2 k2 d2 L M) (hB : w0.heap.size ≤ B) (hb : Below w0.heap.size w0 v4) (q1 : k1 ≤ 1048576) (q2 : k2 ≤ 1048576) :
    Called w0 (v4.alloc (.cells #[.slice p1 k1 d1, .slice p2 k2 d2] 32)) (.pointer (some ⟨v4.heap.size, 0, none⟩)) (.bool ok) ok L M := by
  have n1 : (Value.slice p1 k1 d1).ownBlock ≠ some v4.heap.size := fun e => by have := (gw.ctx.lt _ e).2; omega
  have n2 : (Value.slice p2 k2 d2).ownBlock ≠ some v4.heap.size := fun e => by have := (gw.rel.lt _ e).2; omega
  have ha := below_alloc v4 (.cells #[.slice p1 k1 d1, .slice p2 k2 d2] 32)
  exact ⟨v4.heap.size, p1, k1, d1, p2, k2, d2, rfl, rfl, heap_alloc_new v4 _, hb.size, (gw.below ha).base hB, ⟨n1, n2⟩, q1, q2, hb.trans (ha.mono hb.size)⟩
set_option maxRecDepth 100000 in
set_option maxHeartbeats 20000000 in
theorem walk (zu zv : Int) (F : RR) (hI : GivesN 13 (.agg #[.int .i64 zu, .int .i64 zv]) F) (hM : GivesN 10 (.agg #[.int .i64 zu, .int .i64 zv]) F) (a1 a2 : Option Addr) (n1 c1 n2 c2 : Nat) (l1 l2 : List (Int × Int)) (w : World) (z1 : n1 ≤ 9223372036854775807) (z2 : n2 ≤ 9223372036854775807) (H1 : Holds w a1 n1 l1) (H2 : Holds w a2 n2 l2) :
    Calls Try.prog 3 #[.agg #[.slice a1 n1 c1, .slice a2 n2 c2], .agg #[.int .i64 zu, .int .i64 zv]] w fun e w' => e = .returned (.bool true) ∧ Below w.heap.size w w' := by
  obtain ⟨hs, f1, f2, f3, f4, hb0⟩ := boxes2 w (.slice a1 n1 c1) (.slice a2 n2 c2) (.int .i64 zu) (.int .i64 zv) 25 27
  have K1 := Lib.hid (H1.below hb0)
  have K2 := Lib.hid (H2.below hb0)
  have HSZ := Lib.hid hs
  clear H1 H2 hs
  have hI1 := fun (p1 p2 : Option Addr) (w : World) h1 h2 h3 h4 => hI p1 p2 n1 n2 l1 l2 w h1 h2 h3 h4
  have hM1 := fun (p1 p2 : Option Addr) (w : World) h1 h2 h3 h4 => hM p1 p2 n1 n2 l1 l2 w h1 h2 h3 h4
  clear hI hM
  generalize (F l1 l2).isSome = ok at hI1 hM1
  generalize ((F l1 l2).getD ([], [])).1 = L at hI1 hM1
  generalize ((F l1 l2).getD ([], [])).2 = M at hI1 hM1
  have HI := Lib.hid hI1
  have HM := Lib.hid hM1
  clear hI1 hM1
  go_enter Try.func3, Try.ntmps3
  go_wp2_with fail
  generalize (w.alloc (.cells #[.slice a1 n1 c1, .slice a2 n2 c2] 25)).alloc (.cells #[.int .i64 zu, .int .i64 zv] 27) = W at *
  have hlt : w.heap.size < W.heap.size := by rw [HSZ.out]; omega
  have hlt1 : w.heap.size + 1 < W.heap.size := by rw [HSZ.out]; omega
  refine (szRecord_any a1 a2 n1 c1 n2 c2 z1 z2 W).mono ?_
  rintro e w1 ⟨rfl, b1⟩
  have k1 := (b1.cell (p := ⟨w.heap.size, 0, none⟩) hlt).trans f1
  have k2 := (b1.cell (p := ⟨w.heap.size, 1, none⟩) hlt).trans f2
  have k3 := (b1.cell (p := ⟨w.heap.size + 1, 0, none⟩) hlt1).trans f3
  have k4 := (b1.cell (p := ⟨w.heap.size + 1, 1, none⟩) hlt1).trans f4
  by_cases hbig : (1048576 : Int) < (n1 : Int) + n2
  · have hl : left n1 n2 = -1 := by unfold left; rw [if_pos hbig]
    rw [hl]
    go_wp2_with fail
    go_ret
    exact ⟨rfl, hb0.trans (b1.mono hb0.size)⟩
  · have hl : left n1 n2 = 1048576 - n1 - n2 := by unfold left; rw [if_neg hbig]
    rw [hl]
    clear hl
    have hs1 : n1 ≤ 1048576 := by omega
    have hs2 : n2 ≤ 1048576 := by omega
    have hnn : ¬ (1048576 : Int) - n1 - n2 < 0 := by omega
    have hl0 : w.heap.size < w1.heap.size := Nat.lt_of_lt_of_le hlt b1.size
    have hl1 : w.heap.size + 1 < w1.heap.size := Nat.lt_of_lt_of_le hlt1 b1.size
    go_wp2_with fail
    go_cut [6, 7] (fun s6 s7 wc => Called w1 wc s6 s7 ok L M)
    case first =>
      have KD1 := Lib.hid (K1.out.below b1.drew)
      have KD2 := Lib.hid (K2.out.below b1.drew)
      have KE1 := Lib.hid (K1.out.below (b1.alloc b1.size (.cells #[.slice none 0 0, .slice none 0 0] 32)).drew)
      have KE2 := Lib.hid (K2.out.below (b1.alloc b1.size (.cells #[.slice none 0 0, .slice none 0 0] 32)).drew)
      have p1 := ((below_alloc w1 (.cells #[.slice none 0 0, .slice none 0 0] 32)).drew.cell (p := ⟨w.heap.size, 0, none⟩) (Nat.lt_of_succ_lt hl1)).trans k1
      have p2 := ((below_alloc w1 (.cells #[.slice none 0 0, .slice none 0 0] 32)).drew.cell (p := ⟨w.heap.size, 1, none⟩) (Nat.lt_of_succ_lt hl1)).trans k2
      have p3 := ((below_alloc w1 (.cells #[.slice none 0 0, .slice none 0 0] 32)).drew.cell (p := ⟨w.heap.size + 1, 0, none⟩) hl1).trans k3
      have p4 := ((below_alloc w1 (.cells #[.slice none 0 0, .slice none 0 0] 32)).drew.cell (p := ⟨w.heap.size + 1, 1, none⟩) hl1).trans k4
      go_region_with (first
        | (go_at_call 11; refine (toRecord_any a1 a2 n1 c1 n2 c2 l1 l2 hs1 hs2 _ (by first | exact KD1.out | exact KE1.out) (by first | exact KD2.out | exact KE2.out)).mono ?_; rintro e v2 ⟨y1, y2, rfl, o2, b2⟩; have bw2 : Below w1.heap.size w1 v2 := (by first | exact (Below.refl w1.heap.size w1).drew.trans b2 | exact ((below_alloc w1 (.cells #[.slice none 0 0, .slice none 0 0] 32)).drew).trans (b2.mono (by simp))); have q1 := (bw2.cell (p := ⟨w.heap.size + 1, 0, none⟩) hl1).trans k3; have q2 := (bw2.cell (p := ⟨w.heap.size + 1, 1, none⟩) hl1).trans k4; have q3 := ((below_alloc v2 (.cells #[.slice none 0 0, .slice none 0 0] 32)).cell (p := ⟨w.heap.size + 1, 0, none⟩) (Nat.lt_of_lt_of_le hl1 bw2.size)).trans q1; have q4 := ((below_alloc v2 (.cells #[.slice none 0 0, .slice none 0 0] 32)).cell (p := ⟨w.heap.size + 1, 1, none⟩) (Nat.lt_of_lt_of_le hl1 bw2.size)).trans q2; try (have zb2 : ZB v2 w1.heap.size := zb_of b2 (zb_new w1)))
        | (go_at_call 12; refine (toContext_any zu zv _).mono ?_; rintro e v3 ⟨rfl, b3⟩; have bw3 : Below w1.heap.size w1 v3 := (by first | exact bw2.trans (b3.mono bw2.size) | exact (bw2.trans ((below_alloc v2 (.cells #[.slice none 0 0, .slice none 0 0] 32)).mono bw2.size)).trans (b3.mono (by have := bw2.size; simp; omega))); first | (have zb3 := zb_of b3 zb2) | (have zb3 : ZB v3 v2.heap.size := zb_of b3 (zb_new' v2)) | skip)
        | (go_at_call 10; refine (HM.out _ _ _ hs1 hs2 (by first | exact (ownHolds o2).1.below b3 | exact ((ownHolds o2).1.below (below_alloc _ _)).below b3 | exact ((ownHolds o2).1.below b3).below (below_alloc _ _)) (by first | exact (ownHolds o2).2.below b3 | exact ((ownHolds o2).2.below (below_alloc _ _)).below b3 | exact ((ownHolds o2).2.below b3).below (below_alloc _ _))).mono ?_; rintro e v4 ⟨pw1, kw1, dw1, pw2, kw2, dw2, rfl, gw, qw1, qw2, b4⟩; have bw4 : Below w1.heap.size w1 v4 := (by first | exact bw3.trans (b4.mono bw3.size) | exact (bw3.trans ((below_alloc v3 (.cells #[.slice none 0 0, .slice none 0 0] 32)).mono bw3.size)).trans (b4.mono (by have := bw3.size; simp; omega))); first | (have zb4 := zb_of b4 zb3; have zl4 := zb3.lt; have zc1 := zb4.c1; have zc2 := zb4.c2; have zf1 := zb4.f1; have zf2 := zb4.f2) | (have zb4 : ZB v4 v3.heap.size := zb_of b4 (zb_new' v3); have zl4 := (zb_new' v3).lt; have zc1 := zb4.c1; have zc2 := zb4.c2; have zf1 := zb4.f1; have zf2 := zb4.f2) | skip))
      all_goals go_wp2_with fail
      all_goals go_meet
      all_goals first | exact called_set zb4 gw zl4 bw4 qw1 qw2 (by first | exact Nat.le_refl _ | exact bw2.size | exact bw3.size) | exact called_new gw (by have := bw3.size; simp; omega) bw4 qw1 qw2
    case rest =>
      obtain ⟨gw0, pw1, kw1, dw1, pw2, kw2, dw2, rfl, rfl, hbw, hgw, gw, ⟨nw1, nw2⟩, qw1, qw2, bX'⟩ := hcut
      generalize wc = X at *
      have bX := b1.trans (bX'.mono b1.size)
      have m1 := (bX.cell (p := ⟨w.heap.size, 0, none⟩) hlt).trans f1
      have m2 := (bX.cell (p := ⟨w.heap.size, 1, none⟩) hlt).trans f2
      have m3 := (bX.cell (p := ⟨w.heap.size + 1, 0, none⟩) hlt1).trans f3
      have m4 := (bX.cell (p := ⟨w.heap.size + 1, 1, none⟩) hlt1).trans f4
      have v1 : X.cell? ⟨gw0, 0, none⟩ = some (.slice pw1 kw1 dw1) := by simp only [World.cell?, hbw]; rfl
      have v2 : X.cell? ⟨gw0, 1, none⟩ = some (.slice pw2 kw2 dw2) := by simp only [World.cell?, hbw]; rfl
      have hltv : gw0 < X.heap.size := (Array.getElem?_eq_some_iff.1 hbw).1
      have GWX := Lib.hid gw.holds
      have KX1 := Lib.hid (K1.out.below bX)
      have KX2 := Lib.hid (K2.out.below bX)
      have HBX := Lib.hid (hb0.trans (bX.mono hb0.size))
      have hltX := Nat.lt_of_lt_of_le hlt bX.size
      have hltX1 := Nat.lt_of_lt_of_le hlt1 bX.size
      clear gw hbw bX bX' k1 k2 k3 k4 f1 f2 f3 f4 b1 hb0 K1 K2 hl0 hl1 nw1 nw2 hgw
      go_wp2_with fail
      refine (toRecord_any a1 a2 n1 c1 n2 c2 l1 l2 hs1 hs2 _ KX1.out KX2.out).mono ?_
      rintro e w4 ⟨g3, g4, rfl, o4, b4⟩
      have GO4 := Lib.hid (got_of_own o4)
      have hg3 : X.heap.size ≤ g3 ∧ g3 < w4.heap.size := o4.ctx.lt g3 rfl
      have hg4 : X.heap.size ≤ g4 ∧ g4 < w4.heap.size := o4.rel.lt g4 rfl
      have hb5 := below_alloc w4 (.cells #[.slice (some ⟨g3, 0, none⟩) n1 n1, .slice (some ⟨g4, 0, none⟩) n2 n2] 32)
      have x1 := box_first w4 (.slice (some ⟨g3, 0, none⟩) n1 n1) (.slice (some ⟨g4, 0, none⟩) n2 n2) 32
      have x2 := box_second w4 (.slice (some ⟨g3, 0, none⟩) n1 n1) (.slice (some ⟨g4, 0, none⟩) n2 n2) 32
      have hlt5 : w4.heap.size < (w4.alloc (.cells #[.slice (some ⟨g3, 0, none⟩) n1 n1, .slice (some ⟨g4, 0, none⟩) n2 n2] 32)).heap.size := by simp
      have b5 := b4.trans (hb5.mono b4.size)
      have GO5 := Lib.hid (GO4.out.below hb5)
      have h53 := (b5.cell (p := ⟨w.heap.size + 1, 0, none⟩) hltX1).trans m3
      have h54 := (b5.cell (p := ⟨w.heap.size + 1, 1, none⟩) hltX1).trans m4
      have hlt51 := Nat.lt_of_lt_of_le hltX1 b5.size
      clear o4 b4 GO4 hb5
      go_wp2_with fail
      generalize w4.alloc (.cells #[.slice (some ⟨g3, 0, none⟩) n1 n1, .slice (some ⟨g4, 0, none⟩) n2 n2] 32) = W5 at *
      go_cut [9, 10] (fun s9 s10 wc => Called W5 wc s9 s10 ok L M)
      case first =>
        have p1 := ((below_alloc W5 (.cells #[.slice none 0 0, .slice none 0 0] 32)).drew.cell (p := ⟨w4.heap.size, 0, none⟩) hlt5).trans x1
        have p2 := ((below_alloc W5 (.cells #[.slice none 0 0, .slice none 0 0] 32)).drew.cell (p := ⟨w4.heap.size, 1, none⟩) hlt5).trans x2
        have p3 := ((below_alloc W5 (.cells #[.slice none 0 0, .slice none 0 0] 32)).drew.cell (p := ⟨w.heap.size + 1, 0, none⟩) hlt51).trans h53
        have p4 := ((below_alloc W5 (.cells #[.slice none 0 0, .slice none 0 0] 32)).drew.cell (p := ⟨w.heap.size + 1, 1, none⟩) hlt51).trans h54
        go_region_with (first
          | (go_at_call 12; refine (toContext_any zu zv _).mono ?_; rintro e v3 ⟨rfl, b3⟩; have bw3 : Below W5.heap.size W5 v3 := (by first | exact (Below.refl W5.heap.size W5).drew.trans b3 | exact ((below_alloc W5 (.cells #[.slice none 0 0, .slice none 0 0] 32)).drew).trans (b3.mono (by simp))); have q1 := (bw3.cell (p := ⟨w4.heap.size, 0, none⟩) hlt5).trans x1; have q2 := (bw3.cell (p := ⟨w4.heap.size, 1, none⟩) hlt5).trans x2; have q3 := ((below_alloc v3 (.cells #[.slice none 0 0, .slice none 0 0] 32)).cell (p := ⟨w4.heap.size, 0, none⟩) (Nat.lt_of_lt_of_le hlt5 bw3.size)).trans q1; have q4 := ((below_alloc v3 (.cells #[.slice none 0 0, .slice none 0 0] 32)).cell (p := ⟨w4.heap.size, 1, none⟩) (Nat.lt_of_lt_of_le hlt5 bw3.size)).trans q2; first | (have zb3 : ZB v3 W5.heap.size := zb_of b3 (zb_new W5)) | skip)
          | (go_at_call 13; refine (HI.out _ _ _ hs1 hs2 (by first | exact GO5.out.holds.1.below bw3 | exact (GO5.out.holds.1.below bw3).below (below_alloc _ _)) (by first | exact GO5.out.holds.2.below bw3 | exact (GO5.out.holds.2.below bw3).below (below_alloc _ _))).mono ?_; rintro e v4 ⟨pw1, kw1, dw1, pw2, kw2, dw2, rfl, gw, qw1, qw2, b4⟩; have bw4 : Below W5.heap.size W5 v4 := (by first | exact bw3.trans (b4.mono bw3.size) | exact (bw3.trans ((below_alloc v3 (.cells #[.slice none 0 0, .slice none 0 0] 32)).mono bw3.size)).trans (b4.mono (by have := bw3.size; simp; omega))); first | (have zb4 := zb_of b4 zb3; have zl4 := zb3.lt; have zc1 := zb4.c1; have zc2 := zb4.c2; have zf1 := zb4.f1; have zf2 := zb4.f2) | (have zb4 : ZB v4 v3.heap.size := zb_of b4 (zb_new' v3); have zl4 := (zb_new' v3).lt; have zc1 := zb4.c1; have zc2 := zb4.c2; have zf1 := zb4.f1; have zf2 := zb4.f2) | skip))
        all_goals go_wp2_with fail
        all_goals go_meet
        all_goals first | exact called_set zb4 gw zl4 bw4 qw1 qw2 (by first | exact Nat.le_refl _ | exact bw3.size) | exact called_new gw (by have := bw3.size; simp; omega) bw4 qw1 qw2

      case rest =>
        obtain ⟨gg0, pg1, kg1, dg1, pg2, kg2, dg2, rfl, rfl, hbg, hgg, gg, ⟨ng1, ng2⟩, qg1, qg2, b57⟩ := hcut
        generalize wc = W7 at *
        obtain rfl : kw1 = kg1 := by rw [← gg.holds.1.1, ← GWX.out.1.1]
        obtain rfl : kw2 = kg2 := by rw [← gg.holds.2.1, ← GWX.out.2.1]
        have b7 := b5.trans (b57.mono b5.size)
        have u1 : W7.cell? ⟨gg0, 0, none⟩ = some (.slice pg1 kw1 dg1) := by simp only [World.cell?, hbg]; rfl
        have u2 : W7.cell? ⟨gg0, 1, none⟩ = some (.slice pg2 kw2 dg2) := by simp only [World.cell?, hbg]; rfl
        have hltg : gg0 < W7.heap.size := (Array.getElem?_eq_some_iff.1 hbg).1
        have y1 := (b57.cell (p := ⟨w4.heap.size, 0, none⟩) hlt5).trans x1
        have y2 := (b57.cell (p := ⟨w4.heap.size, 1, none⟩) hlt5).trans x2
        have s1' := (b7.cell (p := ⟨gw0, 0, none⟩) hltv).trans v1
        have s2' := (b7.cell (p := ⟨gw0, 1, none⟩) hltv).trans v2
        have GO7 := Lib.hid (GO5.out.below b57)
        have GG7 := Lib.hid gg
        have GL : Hid (∀ b, ((Value.slice pg1 kw1 dg1).ownBlock = some b ∨ (Value.slice pg2 kw2 dg2).ownBlock = some b) → W5.heap.size ≤ b ∧ b ≠ gg0) := fun b hb => hb.elim (fun h => ⟨(gg.ctx.lt b h).1, fun e => ng1 (e ▸ h)⟩) (fun h => ⟨(gg.rel.lt b h).1, fun e => ng2 (e ▸ h)⟩)
        have hs5 := b5.size
        have hs57 := b57.size
        clear gg b5 x1 x2 GO5 hbg ng1 ng2 h53 h54
        go_wp2_with fail
        refine (eqR pg1 pg2 pw1 pw2 kw1 kw2 dg1 dg2 dw1 dw2 L M qw1 qw2 _ GG7.out.holds.1 GG7.out.holds.2 (GWX.out.1.below b7) (GWX.out.2.below b7)).mono ?_
        rintro e w8 ⟨rfl, b78⟩
        have b8 := b7.trans (b78.mono b7.size)
        have y1 := (b78.cell (p := ⟨w4.heap.size, 0, none⟩) (by show w4.heap.size < _; omega)).trans y1
        have y2 := (b78.cell (p := ⟨w4.heap.size, 1, none⟩) (by show w4.heap.size < _; omega)).trans y2
        have j1 := (b8.cell (p := ⟨w.heap.size, 0, none⟩) hltX).trans m1
        have j2 := (b8.cell (p := ⟨w.heap.size, 1, none⟩) hltX).trans m2
        have GO8 := Lib.hid (GO7.out.below b78)
        have GG8 := Lib.hid (GG7.out.below b78)
        have r1' := (b78.cell (p := ⟨gg0, 0, none⟩) hltg).trans u1
        have r2' := (b78.cell (p := ⟨gg0, 1, none⟩) hltg).trans u2
        have hlt8 : w4.heap.size < w8.heap.size := by have := b78.size; omega
        have hltw8 : w.heap.size < w8.heap.size := by have := b8.size; omega
        have hlt68 : gg0 < w8.heap.size := by have := b78.size; omega
        clear s1' s2' u1 u2 GO7 GG7 b57 b78 b7
        go_wp2_with fail
        have hK1 := Lib.hid (KX1.out.below b8.drew)
        have hK2 := Lib.hid (KX2.out.below b8.drew)
        have bd := (Below.refl w8.heap.size w8).drew
        have GO9 := Lib.hid (GO8.out.below bd)
        have GG9 := Lib.hid (GG8.out.below bd)
        have b8d := b8.drew
        have HB8D := Lib.hid b8d
        clear b8 bd b8d GO8 GG8
        go_region_held3 (fun w' => w'.cell? ⟨w4.heap.size, 0, none⟩ = some (.slice (some ⟨g3, 0, none⟩) n1 n1) ∧ w'.cell? ⟨w4.heap.size, 1, none⟩ = some (.slice (some ⟨g4, 0, none⟩) n2 n2) ∧ w4.heap.size < w'.heap.size ∧ w'.cell? ⟨w.heap.size, 0, none⟩ = some (.slice a1 n1 c1) ∧ w'.cell? ⟨w.heap.size, 1, none⟩ = some (.slice a2 n2 c2) ∧ w.heap.size < w'.heap.size)
          (first | go_keep | (exact ⟨by assumption, by assumption, by assumption, by assumption, by assumption, by assumption⟩))
          (first
            | (go_at_call 11; refine (toRecord_keeps a1 a2 n1 c1 n2 c2 l1 l2 hs1 hs2 w4.heap.size w.heap.size (.slice (some ⟨g3, 0, none⟩) n1 n1) (.slice (some ⟨g4, 0, none⟩) n2 n2) (.slice a1 n1 c1) (.slice a2 n2 c2) w8.drew hK1.out hK2.out ⟨y1, y2, hlt8, j1, j2, hltw8⟩).mono ?_; rintro e w9 ⟨g5, g6, rfl, o9, b9, s1, s2, s3, s4, s5, s6⟩)
            | (go_at_call 14; refine (eqRecord_keeps (some ⟨g3, 0, none⟩) (some ⟨g4, 0, none⟩) (some ⟨g5, 0, none⟩) (some ⟨g6, 0, none⟩) n1 n2 n1 n2 n1 n2 l1 l2 hs1 hs2 w4.heap.size w.heap.size (.slice (some ⟨g3, 0, none⟩) n1 n1) (.slice (some ⟨g4, 0, none⟩) n2 n2) (.slice a1 n1 c1) (.slice a2 n2 c2) w9 (GO9.out.holds.1.below b9) (GO9.out.holds.2.below b9) (ownHolds o9).1 (ownHolds o9).2 ⟨s1, s2, s3, s4, s5, s6⟩).mono ?_; rintro e w10 ⟨rfl, b10, t1, t2, t3, t4, t5, t6⟩))
        have b810 : Below w8.heap.size w8.drew w10 := b9.trans (b10.mono b9.size)
        have b10' := HB8D.out.trans (b810.mono HB8D.out.size)
        have GO10 := Lib.hid (GO9.out.below b810)
        have GG10 := Lib.hid (GG9.out.below b810)
        have r1 := (b810.cell (p := ⟨gg0, 0, none⟩) hlt68).trans r1'
        have r2 := (b810.cell (p := ⟨gg0, 1, none⟩) hlt68).trans r2'
        have hs10 := b810.size
        have hs10' : w8.heap.size ≤ w10.heap.size := hs10
        clear o9 b9 b10 s1 s2 s3 s4 s5 s6 y1 y2 j1 j2 GO9 GG9 r1' r2' hK1 hK2 b810 hs10 HB8D
        go_wp2_with fail
        refine (markRecord_any _ (some ⟨g3, 0, none⟩) (some ⟨g4, 0, none⟩) n1 n1 n2 n2 l1 l2 hs1 hs2 w10 GO10.out).mono ?_
        rintro e w11 ⟨rfl, gm, q11⟩
        have SX : ∀ b, ((Value.slice (some ⟨g3, 0, none⟩) n1 n1).ownBlock = some b ∨ (Value.slice (some ⟨g4, 0, none⟩) n2 n2).ownBlock = some b) → X.heap.size ≤ b ∧ b < w4.heap.size := by
          intro b hb
          rcases hb with hb | hb
          · have e1 : g3 = b := by simpa [Value.ownBlock] using hb
            omega
          · have e1 : g4 = b := by simpa [Value.ownBlock] using hb
            omega
        have b11 : Below X.heap.size X w11 := b10'.trans (q11.below (fun b hb => (SX b hb).1) b10'.size)
        have GG11 := Lib.hid (GG10.out.kept q11 (fun b hb hs => by have := (GL.out b (.inl hb)).1; have := (SX b hs).2; omega) (fun b hb hs => by have := (GL.out b (.inr hb)).1; have := (SX b hs).2; omega))
        have i1 := q11.cell r1 (fun hs => by have := (SX _ hs).2; have h2 : gg0 < w4.heap.size := this; omega)
        have i2 := q11.cell r2 (fun hs => by have := (SX _ hs).2; have h2 : gg0 < w4.heap.size := this; omega)
        have j1 := (b11.cell (p := ⟨gw0, 0, none⟩) hltv).trans v1
        have j2 := (b11.cell (p := ⟨gw0, 1, none⟩) hltv).trans v2
        have hs11 := q11.size
        have hkk : ¬ 1 + 2 * (n1 : Int) + 2 * (n2 : Int) < 0 := by omega
        clear gm q11 SX GG10 GO10 r1 r2 b10' t1 t2 t3 t4 t5 t6
        go_wp2_with fail
        refine (eqR pg1 pg2 pw1 pw2 kw1 kw2 dg1 dg2 dw1 dw2 L M qw1 qw2 _ GG11.out.holds.1 GG11.out.holds.2 (GWX.out.1.below b11) (GWX.out.2.below b11)).mono ?_
        rintro e w12 ⟨rfl, b1112⟩
        have b12 := b11.trans (b1112.mono b11.size)
        have GG12 := Lib.hid (GG11.out.below b1112)
        have i1 := (b1112.cell (p := ⟨gg0, 0, none⟩) (by show gg0 < _; omega)).trans i1
        have i2 := (b1112.cell (p := ⟨gg0, 1, none⟩) (by show gg0 < _; omega)).trans i2
        have hs12 := b1112.size
        clear j1 j2 GG11 b1112 b11
        go_wp2_with fail
        refine (markRecord_any _ pg1 pg2 kw1 dg1 kw2 dg2 L M qw1 qw2 w12 GG12.out).mono ?_
        rintro e w13 ⟨rfl, gm, q13⟩
        have b13 : Below X.heap.size X w13 := b12.trans (q13.below (fun b hb => by have := (GL.out b hb).1; omega) b12.size)
        have i1 := q13.cell i1 (fun hs => (GL.out _ hs).2 rfl)
        have i2 := q13.cell i2 (fun hs => (GL.out _ hs).2 rfl)
        have GM := Lib.hid gm.holds
        have hs13 := q13.size
        clear gm q13 GG12 b12
        go_wp2_with fail
        refine (heldRecord_any pg1 pg2 kw1 dg1 kw2 dg2 qw1 qw2 w13 GM.out.1 GM.out.2).mono ?_
        rintro e w14 ⟨rfl, b1314⟩
        have b14 := b13.trans (b1314.mono b13.size)
        have GM14 := Lib.hid (And.intro (GM.out.1.below b1314) (GM.out.2.below b1314))
        have i1 := (b1314.cell (p := ⟨gg0, 0, none⟩) (by show gg0 < _; omega)).trans i1
        have i2 := (b1314.cell (p := ⟨gg0, 1, none⟩) (by show gg0 < _; omega)).trans i2
        have j1 := (b14.cell (p := ⟨w.heap.size, 0, none⟩) hltX).trans m1
        have j2 := (b14.cell (p := ⟨w.heap.size, 1, none⟩) hltX).trans m2
        have j3 := (b14.cell (p := ⟨w.heap.size + 1, 0, none⟩) hltX1).trans m3
        have j4 := (b14.cell (p := ⟨w.heap.size + 1, 1, none⟩) hltX1).trans m4
        have hs14 := b1314.size
        have hl14 := Nat.lt_of_lt_of_le hltX b14.size
        have hl141 := Nat.lt_of_lt_of_le hltX1 b14.size
        have hgl14 : gg0 < w14.heap.size := by omega
        have hkk2 : ¬ 1 + 2 * (kw1 : Int) + 2 * (kw2 : Int) < 0 := by omega
        have HI1 := Lib.hid i1
        have HI2 := Lib.hid i2
        clear b13 b1314 GM i1 i2 GL
        go_wp2_with fail
        go_cut [14, 15] (fun s14 s15 wc => Called w14 wc s14 s15 ok L M)
        case first =>
          have KD1 := Lib.hid (KX1.out.below b14.drew)
          have KD2 := Lib.hid (KX2.out.below b14.drew)
          have KE1 := Lib.hid (KX1.out.below (b14.alloc b14.size (.cells #[.slice none 0 0, .slice none 0 0] 32)).drew)
          have KE2 := Lib.hid (KX2.out.below (b14.alloc b14.size (.cells #[.slice none 0 0, .slice none 0 0] 32)).drew)
          have p1 := ((below_alloc w14 (.cells #[.slice none 0 0, .slice none 0 0] 32)).drew.cell (p := ⟨w.heap.size, 0, none⟩) (Nat.lt_of_succ_lt hl141)).trans j1
          have p2 := ((below_alloc w14 (.cells #[.slice none 0 0, .slice none 0 0] 32)).drew.cell (p := ⟨w.heap.size, 1, none⟩) (Nat.lt_of_succ_lt hl141)).trans j2
          have p3 := ((below_alloc w14 (.cells #[.slice none 0 0, .slice none 0 0] 32)).drew.cell (p := ⟨w.heap.size + 1, 0, none⟩) hl141).trans j3
          have p4 := ((below_alloc w14 (.cells #[.slice none 0 0, .slice none 0 0] 32)).drew.cell (p := ⟨w.heap.size + 1, 1, none⟩) hl141).trans j4
          go_region_with (first
            | (go_at_call 11; refine (toRecord_any a1 a2 n1 c1 n2 c2 l1 l2 hs1 hs2 _ (by first | exact KD1.out | exact KE1.out) (by first | exact KD2.out | exact KE2.out)).mono ?_; rintro e v2 ⟨y1, y2, rfl, o2, b2⟩; have bw2 : Below w14.heap.size w14 v2 := (by first | exact (Below.refl w14.heap.size w14).drew.trans b2 | exact ((below_alloc w14 (.cells #[.slice none 0 0, .slice none 0 0] 32)).drew).trans (b2.mono (by simp))); have q1 := (bw2.cell (p := ⟨w.heap.size + 1, 0, none⟩) hl141).trans j3; have q2 := (bw2.cell (p := ⟨w.heap.size + 1, 1, none⟩) hl141).trans j4; have q3 := ((below_alloc v2 (.cells #[.slice none 0 0, .slice none 0 0] 32)).cell (p := ⟨w.heap.size + 1, 0, none⟩) (Nat.lt_of_lt_of_le hl141 bw2.size)).trans q1; have q4 := ((below_alloc v2 (.cells #[.slice none 0 0, .slice none 0 0] 32)).cell (p := ⟨w.heap.size + 1, 1, none⟩) (Nat.lt_of_lt_of_le hl141 bw2.size)).trans q2; try (have zb2 : ZB v2 w14.heap.size := zb_of b2 (zb_new w14)))
            | (go_at_call 12; refine (toContext_any zu zv _).mono ?_; rintro e v3 ⟨rfl, b3⟩; have bw3 : Below w14.heap.size w14 v3 := (by first | exact bw2.trans (b3.mono bw2.size) | exact (bw2.trans ((below_alloc v2 (.cells #[.slice none 0 0, .slice none 0 0] 32)).mono bw2.size)).trans (b3.mono (by have := bw2.size; simp; omega))); first | (have zb3 := zb_of b3 zb2) | (have zb3 : ZB v3 v2.heap.size := zb_of b3 (zb_new' v2)) | skip)
            | (go_at_call 13; refine (HI.out _ _ _ hs1 hs2 (by first | exact (ownHolds o2).1.below b3 | exact ((ownHolds o2).1.below (below_alloc _ _)).below b3 | exact ((ownHolds o2).1.below b3).below (below_alloc _ _)) (by first | exact (ownHolds o2).2.below b3 | exact ((ownHolds o2).2.below (below_alloc _ _)).below b3 | exact ((ownHolds o2).2.below b3).below (below_alloc _ _))).mono ?_; rintro e v4 ⟨pw1, kw1, dw1, pw2, kw2, dw2, rfl, gw, qw1, qw2, b4⟩; have bw4 : Below w14.heap.size w14 v4 := (by first | exact bw3.trans (b4.mono bw3.size) | exact (bw3.trans ((below_alloc v3 (.cells #[.slice none 0 0, .slice none 0 0] 32)).mono bw3.size)).trans (b4.mono (by have := bw3.size; simp; omega))); first | (have zb4 := zb_of b4 zb3; have zl4 := zb3.lt; have zc1 := zb4.c1; have zc2 := zb4.c2; have zf1 := zb4.f1; have zf2 := zb4.f2) | (have zb4 : ZB v4 v3.heap.size := zb_of b4 (zb_new' v3); have zl4 := (zb_new' v3).lt; have zc1 := zb4.c1; have zc2 := zb4.c2; have zf1 := zb4.f1; have zf2 := zb4.f2) | skip))
          all_goals go_wp2_with fail
          all_goals go_meet
          all_goals first | exact called_set zb4 gw zl4 bw4 qw1 qw2 (by first | exact Nat.le_refl _ | exact bw2.size | exact bw3.size) | exact called_new gw (by have := bw3.size; simp; omega) bw4 qw1 qw2

        case rest =>
          obtain ⟨gh0, ph1, kh1, dh1, ph2, kh2, dh2, rfl, rfl, hbh, hgh, gh, ⟨nh1, nh2⟩, qh1, qh2, b1417⟩ := hcut
          generalize wc = W17 at *
          obtain rfl : kw1 = kh1 := by rw [← gh.holds.1.1, ← GWX.out.1.1]
          obtain rfl : kw2 = kh2 := by rw [← gh.holds.2.1, ← GWX.out.2.1]
          have b17 := b14.trans (b1417.mono b14.size)
          have o1' : W17.cell? ⟨gh0, 0, none⟩ = some (.slice ph1 kw1 dh1) := by simp only [World.cell?, hbh]; rfl
          have o2' : W17.cell? ⟨gh0, 1, none⟩ = some (.slice ph2 kw2 dh2) := by simp only [World.cell?, hbh]; rfl
          have GH := Lib.hid gh.holds
          have GM17 := Lib.hid (And.intro (GM14.out.1.below b1417) (GM14.out.2.below b1417))
          have i1 := (b1417.cell (p := ⟨gg0, 0, none⟩) hgl14).trans HI1.out
          have i2 := (b1417.cell (p := ⟨gg0, 1, none⟩) hgl14).trans HI2.out
          have j1 := (b17.cell (p := ⟨gw0, 0, none⟩) hltv).trans v1
          have j2 := (b17.cell (p := ⟨gw0, 1, none⟩) hltv).trans v2
          have hs17 := b1417.size
          clear gh b1417 GM14 hbh nh1 nh2
          go_wp2_with fail
          refine (eqR ph1 ph2 pw1 pw2 kw1 kw2 dh1 dh2 dw1 dw2 L M qw1 qw2 _ GH.out.1 GH.out.2 (GWX.out.1.below b17) (GWX.out.2.below b17)).mono ?_
          rintro e w18 ⟨rfl, b1718⟩
          have b18 := b17.trans (b1718.mono b17.size)
          have GM18 := Lib.hid (And.intro (GM17.out.1.below b1718) (GM17.out.2.below b1718))
          have i1 := (b1718.cell (p := ⟨gg0, 0, none⟩) (by show gg0 < _; omega)).trans i1
          have i2 := (b1718.cell (p := ⟨gg0, 1, none⟩) (by show gg0 < _; omega)).trans i2
          clear j1 j2 o1' o2' GH GM17 b1718 b17
          go_wp2_with fail
          refine (heldRecord_any pg1 pg2 kw1 dg1 kw2 dg2 qw1 qw2 w18 GM18.out.1 GM18.out.2).mono ?_
          rintro e w19 ⟨rfl, b1819⟩
          have b19 := b18.trans (b1819.mono b18.size)
          have HB := Lib.hid (HBX.out.trans (b19.mono HBX.out.size))
          clear i1 i2 b19 b18 b1819
          go_wp2_with fail
          go_ret
          exact ⟨rfl, HB.out⟩
end Go.Proofs.Ytknlackphdcflaa.WAddContext
