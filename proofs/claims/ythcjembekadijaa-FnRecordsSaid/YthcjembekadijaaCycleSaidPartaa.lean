/- The model's IsValidRecord. -/
import Derived.Test.YthcjembekadijaaOrderSaidPartah
import Derived.Test.YthcjembekadijaaOrderSaidPartad
import Derived.Test.YthcjembekadijaaOrderSaidPartba
namespace Go.Proofs.Ythcjembekadijaa.ValS
open Go.RowKit Pairs Find2 GoodM Rec
theorem valid_any : LawKit.Answers 14 good := by
  intro a1 a2 n1 c1 n2 c2 l m w hz1 hz2 h1 h2
  have hb := below_alloc w (.cells #[.slice a1 n1 c1, .slice a2 n2 c2] 27)
  have hf := box_first w (.slice a1 n1 c1) (.slice a2 n2 c2) 27
  have hf2 := box_second w (.slice a1 n1 c1) (.slice a2 n2 c2) 27
  have H1 := Lib.hid (h1.below hb)
  have H2 := Lib.hid (h2.below hb)
  clear h1 h2
  go_enter Try.func14, Try.ntmps14
  go_wp2_with fail
  generalize w.alloc (.cells #[.slice a1 n1 c1, .slice a2 n2 c2] 27) = W at *
  refine (Good2.l2Good_any a1 a2 n1 c1 n2 c2 l m W H1.out H2.out).mono ?_
  rintro e w1 ⟨rfl, b1⟩
  go_wp2_with fail
  go_ret
  exact ⟨rfl, hb.trans (b1.mono hb.size)⟩
end Go.Proofs.Ythcjembekadijaa.ValS
/- Draws for the law of cycles: a record that often has a cycle. -/
namespace Go.Proofs.Ythcjembekadijaa.DrwL
open Go.RowKit Cur Pairs Rec RecEq GoodM Keep Two Drw DrwC DrwR DrwD DrwP
set_option maxRecDepth 100000 in
set_option maxHeartbeats 16000000 in
theorem looped_any (B : Nat) (a : Option Addr) (len cap m : Nat) (hm : m ≤ 500000) (w : World) (h : Ok w B a len cap m) :
    Calls Try.prog 54 #[.pointer (some ⟨B, 0, none⟩)] w (RRes 20 40 B a len cap (m + 130) w) := by
  have hB := h.lt
  have HB := Lib.hid hB
  have hok := ok_alloc h (.cells #[.slice none 0 0, .slice none 0 0] 27)
  have hg0 : w.grownBy (w.alloc (.cells #[.slice none 0 0, .slice none 0 0] 27)) (some B) := World.grownBy_alloc w _ _
  have hs0 : (w.alloc (.cells #[.slice none 0 0, .slice none 0 0] 27)).heap.size = w.heap.size + 1 := by simp
  have hrb : (w.alloc (.cells #[.slice none 0 0, .slice none 0 0] 27)).heap[w.heap.size]? = some (.cells #[.slice none 0 0, .slice none 0 0] 27) := heap_alloc_new w _
  have HOK := Lib.hid hok
  have HG0 := Lib.hid hg0
  have HS0 := Lib.hid hs0
  have HRB := Lib.hid hrb
  clear h hok hg0 hs0 hrb
  go_enter Try.func54, Try.ntmps54
  go_wp2_with fail
  generalize w.alloc (.cells #[.slice none 0 0, .slice none 0 0] 27) = W at *
  have HB1 : Hid (B < W.heap.size) := by have := HS0.out; have := HB.out; unfold Hid; omega
  refine (DrwN.anyRecord_any B a len cap m (by omega) W HOK.out).mono ?_
  rintro e w1 ⟨p1, n, d1, p2, n2, d2, L1, L2, rfl, hgot⟩
  have HN := Lib.hid (RSt.new hgot.ctx hgot.rel hgot.ok hgot.gr)
  have hf1 := hgot.few1
  have hf2 := hgot.few2
  clear hgot
  by_cases hn1 : 1 < n
  · have hn1i : (1 : Int) < (n : Int) := by omega
    obtain ⟨o1, o2, o3, o4, o5⟩ := HN.out.cells
    go_wp2_with fail
    clear o1 o2 o3 o4 o5
    generalize w1.alloc (.cells #[.slice p1 n d1, .slice p2 n2 d2] 27) = V at *
    refine (Good2.l2Good_any p1 p2 n d1 n2 d2 L1 L2 V (holds_own HN.out.ctx) (holds_own HN.out.rel)).mono ?_
    rintro e w2 ⟨rfl, b2⟩
    have HN2 := Lib.hid (HN.out.below b2)
    clear b2 HN
    cases hgd : good L1 L2 with
    | false =>
      obtain ⟨t1, t2, t3, t4, t5⟩ := HN2.out.cells
      obtain ⟨r1, r2, r3, r4, z1, z2⟩ := HN2.out.other HRB.out (by have := HB.out; omega) (.slice p1 n d1) (.slice p2 n2 d2)
      go_wp2_with fail
      refine bodyPost_ret (v := .agg #[.slice p1 n d1, .slice p2 n2 d2]) (by simp [results, Try.results54, go_sem, z1, z2]) rfl ?_
      exact ⟨_, _, _, _, _, _, _, _, rfl, (HN2.out.up (M' := m + 130) (by omega)).ret HS0.out HG0.out HB.out (by omega) (by omega) _ _⟩
    | true =>
      go_wp2_with fail
      refine (one_ok B a len cap _ (by omega) 2 (by omega) (by omega) w2 HN2.out.ok).mono ?_
      rintro e w3 ⟨yes, rfl, hok3, hg3⟩
      have HN3 := Lib.hid (HN2.out.step HB1.out hg3 hok3)
      clear hok3 hg3 HN2
      cases yes with
      | false =>
        obtain ⟨t1, t2, t3, t4, t5⟩ := HN3.out.cells
        obtain ⟨r1, r2, r3, r4, z1, z2⟩ := HN3.out.other HRB.out (by have := HB.out; omega) (.slice p1 n d1) (.slice p2 n2 d2)
        go_wp2_with fail
        refine bodyPost_ret (v := .agg #[.slice p1 n d1, .slice p2 n2 d2]) (by simp [results, Try.results54, go_sem, z1, z2]) rfl ?_
        exact ⟨_, _, _, _, _, _, _, _, rfl, (HN3.out.up (M' := m + 130) (by omega)).ret HS0.out HG0.out HB.out (by omega) (by omega) _ _⟩
      | true =>
        by_cases h20 : n2 < 20
        · have h20i : (n2 : Int) < 20 := by omega
          have hw1 : wrap64 ((n : Int) - 1) = ((n - 1 : Nat) : Int) := by unfold wrap64; omega
          have hw2 : IntKind.i64.wrap ((n : Int) - 1) = ((n - 1 : Nat) : Int) := by rw [IntKind.wrap_i64]; omega
          obtain ⟨o1, o2, o3, o4, o5⟩ := HN3.out.cells
          go_wp2_with fail
          clear o1 o2 o3 o4 o5
          refine (pick_any B a len cap _ (by omega) (n - 1) (by omega) w3 HN3.out.ok).mono ?_
          rintro e w4 ⟨ii, rfl, ⟨i, rfl, hi⟩, hok4, hg4⟩
          have HN4 := Lib.hid (HN3.out.step HB1.out hg4 hok4)
          have hin : i < n := by omega
          have hini : (i : Int) < (n : Int) := by omega
          have hi0 : (0 : Int) ≤ (i : Int) := by omega
          have hk0 : (0 : Int) ≤ ((n - 1 : Nat) : Int) := by omega
          have hkn : ((n - 1 : Nat) : Int) < (n : Int) := by omega
          clear hok4 hg4 HN3 hi
          go_upto_region 5 with fail
          have HD := Lib.hid (HN4.out.below ((Below.refl _ _).drew))
          obtain ⟨b, off, xi, yi, hpe, hxi, e1, e2⟩ := (holds_own HN4.out.ctx).at (n - 1) (by omega)
          obtain ⟨b', off', xk, yk, hpe', hxk, e3, e4⟩ := (holds_own HN4.out.ctx).at i hin
          subst hpe
          injection hpe' with hpe'
          injection hpe' with hb1 hb2
          subst hb1 hb2
          clear hxi hxk e2 e4
          obtain ⟨o1, o2, o3, o4, o5⟩ := HN4.out.cells
          refine wp_region_still_tail 15 (by kernel_rfl) (by kernel_rfl) ?_
          simp only [List.take_succ_cons, List.take_zero, List.drop_succ_cons, List.drop_zero]
          repeat still_step
          refine wpStill_nil ?_
          clear e1 e3 o1 o2 o3 o4
          have HO1 := Lib.hid (holds_own HD.out.ctx)
          have HO2 := Lib.hid (holds_own HD.out.rel)
          have hc2 := HD.out.cap2
          go_wp2_with fail
          refine (Link2.l2Link_any xi xk (some ⟨b, off, none⟩) p2 n d1 n2 d2 _ L2 (by omega) (by omega) hc2 _ HO1.out HO2.out).mono ?_
          rintro e w7 ⟨q2, hr2, g5, g6, d5, d6, rfl, o6, b5⟩
          have hS6 := HD.out.below b5
          obtain ⟨m1, m2, m3, m4, m5⟩ := hS6.cells
          have hN := HD.out.next HB1.out o6 b5
          have HN5 := Lib.hid (hN.up (M' := m + 120 + 1 + 1) (by omega))
          clear hS6 hN b5 o6 HD
          go_upto_region 6 with fail
          clear m1 m2 m3 m4 m5 HO1 HO2 hc2
          generalize (w7.setCell _ _).setCell _ _ = w8 at *
          have HD := Lib.hid (HN5.out.below ((Below.refl _ _).drew))
          obtain ⟨b, off, xi, yi, hpe, hxi, e1, e2⟩ := (holds_own HN5.out.ctx).at i hin
          obtain ⟨b', off', xk, yk, hpe', hxk, e3, e4⟩ := (holds_own HN5.out.ctx).at (n - 1) (by omega)
          injection hpe with hpe
          injection hpe with hb1 hb2
          subst hb1 hb2
          injection hpe' with hpe'
          injection hpe' with hb1 hb2
          subst hb1 hb2
          rw [Nat.zero_add] at e1 e3
          clear hxi hxk e2 e4
          obtain ⟨o1, o2, o3, o4, o5⟩ := HN5.out.cells
          refine wp_region_still_tail 15 (by kernel_rfl) (by kernel_rfl) ?_
          simp only [List.take_succ_cons, List.take_zero, List.drop_succ_cons, List.drop_zero]
          repeat still_step
          refine wpStill_nil ?_
          clear e1 e3 o1 o2 o3 o4
          have HO1 := Lib.hid (holds_own HD.out.ctx)
          have HO2 := Lib.hid (holds_own HD.out.rel)
          have hc2 := HD.out.cap2
          go_wp2_with fail
          refine (Link2.l2Link_any xi xk (some ⟨g5, 0, none⟩) (some ⟨g6, 0, none⟩) n d5 q2 d6 _ _ (by omega) (by omega) hc2 _ HO1.out HO2.out).mono ?_
          rintro e w9 ⟨q3, hr3, g7, g8, d7, d8, rfl, o6, b5⟩
          have hS6 := HD.out.below b5
          obtain ⟨m1, m2, m3, m4, m5⟩ := hS6.cells
          have hN := HD.out.next HB1.out o6 b5
          have HN6 := Lib.hid (hN.up (M' := m + 120 + 1 + 1) (by omega))
          clear hS6 hN b5 o6 HD
          go_upto_region 7 with fail
          clear m1 m2 m3 m4 m5 HO1 HO2 hc2
          obtain ⟨t1, t2, t3, t4, t5⟩ := HN6.out.cells
          obtain ⟨r1, r2, r3, r4, z1, z2⟩ := HN6.out.other HRB.out (by have := HB.out; omega) (.slice (some ⟨g7, 0, none⟩) n d7) (.slice (some ⟨g8, 0, none⟩) q3 d8)
          go_wp2_with fail
          refine bodyPost_ret (v := .agg #[.slice (some ⟨g7, 0, none⟩) n d7, .slice (some ⟨g8, 0, none⟩) q3 d8]) (by simp [results, Try.results54, go_sem, z1, z2]) rfl ?_
          exact ⟨_, _, _, _, _, _, _, _, rfl, (HN6.out.up (M' := m + 130) (by omega)).ret HS0.out HG0.out HB.out (by omega) (by omega) _ _⟩
        · have h20i : ¬ (n2 : Int) < 20 := by omega
          obtain ⟨t1, t2, t3, t4, t5⟩ := HN3.out.cells
          obtain ⟨r1, r2, r3, r4, z1, z2⟩ := HN3.out.other HRB.out (by have := HB.out; omega) (.slice p1 n d1) (.slice p2 n2 d2)
          go_wp2_with fail
          refine bodyPost_ret (v := .agg #[.slice p1 n d1, .slice p2 n2 d2]) (by simp [results, Try.results54, go_sem, z1, z2]) rfl ?_
          exact ⟨_, _, _, _, _, _, _, _, rfl, (HN3.out.up (M' := m + 130) (by omega)).ret HS0.out HG0.out HB.out (by omega) (by omega) _ _⟩
  · have hn1i : ¬ (1 : Int) < (n : Int) := by omega
    obtain ⟨t1, t2, t3, t4, t5⟩ := HN.out.cells
    obtain ⟨r1, r2, r3, r4, z1, z2⟩ := HN.out.other HRB.out (by have := HB.out; omega) (.slice p1 n d1) (.slice p2 n2 d2)
    go_wp2_with fail
    refine bodyPost_ret (v := .agg #[.slice p1 n d1, .slice p2 n2 d2]) (by simp [results, Try.results54, go_sem, z1, z2]) rfl ?_
    exact ⟨_, _, _, _, _, _, _, _, rfl, (HN.out.up (M' := m + 130) (by omega)).ret HS0.out HG0.out HB.out (by omega) (by omega) _ _⟩
def Drawn1 (w : World) (e : Ending) (w' : World) : Prop :=
  ∃ (p1 : Option Addr) (n1 d1 : Nat) (p2 : Option Addr) (n2 d2 : Nat) (L1 L2 : List (Int × Int)), e = .returned (.agg #[.slice p1 n1 d1, .slice p2 n2 d2]) ∧ DRec w w' p1 n1 d1 p2 n2 d2 L1 L2
theorem _root_.Go.Proofs.Ythcjembekadijaa.DrwP.DRec.set {w w' : World} {p1 : Option Addr} {n1 d1 : Nat} {p2 : Option Addr} {n2 d2 : Nat} {L1 L2 : List (Int × Int)} (h : DRec w w' p1 n1 d1 p2 n2 d2 L1 L2) (e1 : (Value.slice p1 n1 d1).ownBlock ≠ some w.heap.size) (e2 : (Value.slice p2 n2 d2).ownBlock ≠ some w.heap.size) (u v : Value) :
    DRec w ((w'.setCell ⟨w.heap.size, 0, none⟩ u).setCell ⟨w.heap.size, 1, none⟩ v) p1 n1 d1 p2 n2 d2 L1 L2 := by
  have s1 := setCell_grown (w := w') (g := w.heap.size) (o := 0) (u := u)
  have s2 := setCell_grown (w := w'.setCell ⟨w.heap.size, 0, none⟩ u) (g := w.heap.size) (o := 1) (u := v)
  exact ⟨setCell_far (setCell_far h.ctx e1) e1, setCell_far (setCell_far h.rel e2) e2, h.few1, h.few2, h.cap1, h.cap2, h.bel.grown (gtrans s1 s2) h.bel.size (fun k e => by injection e with e; omega)⟩
set_option maxRecDepth 100000 in
set_option maxHeartbeats 8000000 in
theorem drawCycle_any (a : Option Addr) (len cap : Nat) (w : World) (h : IsCode w a len) :
    Calls Try.prog 10 #[.slice a len cap] w (Drawn1 w) := by
  have hb0 := below_alloc w (.cells #[.slice none 0 0, .slice none 0 0] 27)
  have hok := ok_new (cap := cap) (h.below hb0)
  have hs0 : (w.alloc (.cells #[.slice none 0 0, .slice none 0 0] 27)).heap.size = w.heap.size + 1 := by simp
  rw [hs0] at hok
  have hrb0 : (w.alloc (.cells #[.slice none 0 0, .slice none 0 0] 27)).heap[w.heap.size]? = some (.cells #[.slice none 0 0, .slice none 0 0] 27) := heap_alloc_new w _
  generalize hW0 : w.alloc (.cells #[.slice none 0 0, .slice none 0 0] 27) = W0 at *
  have HW0 := Lib.hid hW0
  clear hW0
  have hbW := below_alloc W0 (.cells #[.slice a len cap, .int .i64 0, .int .u64 0] 80)
  have HB1 := Lib.hid (hb0.trans (hbW.mono hb0.size))
  have HRB := Lib.hid ((hbW.block w.heap.size (by omega)).trans hrb0)
  have hs1 : (W0.alloc (.cells #[.slice a len cap, .int .i64 0, .int .u64 0] 80)).heap.size = w.heap.size + 2 := by simp [hs0]
  have HS1 := Lib.hid hs1
  have HOK := Lib.hid hok
  clear hb0 hrb0 hbW hs1 hok h
  go_enter Try.func10, Try.ntmps10
  go_upto_region 2 with fail
  rw [HW0.out]
  generalize W0.alloc (.cells #[.slice a len cap, .int .i64 0, .int .u64 0] 80) = W at *
  clear hs0 HW0
  have HBl : Hid (w.heap.size + 1 < W.heap.size) := by have := HS1.out; unfold Hid; omega
  go_wp2_with fail
  refine (one_ok (w.heap.size + 1) a len cap 0 (by omega) 3 (by omega) (by omega) W HOK.out).mono ?_
  rintro e w3 ⟨yes, rfl, hok3, hg3⟩
  have HO3 := Lib.hid hok3
  have HG3 := Lib.hid hg3
  clear hok3 hg3
  cases yes with
  | true =>
    go_wp2_with fail
    refine (looped_any (w.heap.size + 1) a len cap 1 (by omega) w3 HO3.out).mono ?_
    rintro e w4 ⟨p1, n1, d1, p2, n2, d2, L1, L2, rfl, hgot⟩
    have hgg := gtrans HG3.out hgot.gr
    have HD := Lib.hid (show DRec w w4 p1 n1 d1 p2 n2 d2 L1 L2 from ⟨ownsRow_base hgot.ctx (by have := HG3.out.size; have := HBl.out; omega), ownsRow_base hgot.rel (by have := HG3.out.size; have := HBl.out; omega), hgot.few1, hgot.few2, own_cap hgot.ctx, own_cap hgot.rel, below_up hgg HB1.out (by omega)⟩)
    have e1 : (Value.slice p1 n1 d1).ownBlock ≠ some w.heap.size := fun e => by have := (hgot.ctx.lt _ e).1; have := HG3.out.size; have := HBl.out; omega
    have e2 : (Value.slice p2 n2 d2).ownBlock ≠ some w.heap.size := fun e => by have := (hgot.rel.lt _ e).1; have := HG3.out.size; have := HBl.out; omega
    have hb := (hgg.block w.heap.size (by have := HBl.out; omega) (fun e => by injection e with e; omega)).trans HRB.out
    have r1 : w4.cell? ⟨w.heap.size, 0, none⟩ = some (.slice none 0 0) := by simp [World.cell?, hb]
    have r2 : w4.cell? ⟨w.heap.size, 1, none⟩ = some (.slice none 0 0) := by simp [World.cell?, hb]
    have r3 : w4.frozen? ⟨w.heap.size, 0, none⟩ = false := by simp only [World.frozen?, hb]; rfl
    have r4 : w4.frozen? ⟨w.heap.size, 1, none⟩ = false := by simp only [World.frozen?, hb]; rfl
    have z1 : (w4.setCell ⟨w.heap.size, 0, none⟩ (.slice p1 n1 d1)).cell? ⟨w.heap.size, 0, none⟩ = some (.slice p1 n1 d1) := by have h1 := (setCell_block (a := .slice p1 n1 d1) hb).1; simp [World.cell?, h1]
    have z2 : ((w4.setCell ⟨w.heap.size, 0, none⟩ (.slice p1 n1 d1)).setCell ⟨w.heap.size, 1, none⟩ (.slice p2 n2 d2)).cell? ⟨w.heap.size, 1, none⟩ = some (.slice p2 n2 d2) := by have h1 := (setCell_block (a := .slice p2 n2 d2) (setCell_block (a := .slice p1 n1 d1) hb).1).2; simp [World.cell?, h1]
    have HE := Lib.hid (And.intro e1 e2)
    clear hb hgot hgg e1 e2
    go_wp2_with fail
    refine bodyPost_ret (v := .agg #[.slice p1 n1 d1, .slice p2 n2 d2]) (by simp [results, Try.results10, go_sem, z1, z2]) rfl ?_
    exact ⟨_, _, _, _, _, _, _, _, rfl, HD.out.set HE.out.1 HE.out.2 _ _⟩
  | false =>
    go_wp2_with fail
    refine (DrwN.anyRecord_any (w.heap.size + 1) a len cap 1 (by omega) w3 HO3.out).mono ?_
    rintro e w4 ⟨p1, n1, d1, p2, n2, d2, L1, L2, rfl, hgot⟩
    have hgg := gtrans HG3.out hgot.gr
    have HD := Lib.hid (show DRec w w4 p1 n1 d1 p2 n2 d2 L1 L2 from ⟨ownsRow_base hgot.ctx (by have := HG3.out.size; have := HBl.out; omega), ownsRow_base hgot.rel (by have := HG3.out.size; have := HBl.out; omega), hgot.few1, hgot.few2, own_cap hgot.ctx, own_cap hgot.rel, below_up hgg HB1.out (by omega)⟩)
    have e1 : (Value.slice p1 n1 d1).ownBlock ≠ some w.heap.size := fun e => by have := (hgot.ctx.lt _ e).1; have := HG3.out.size; have := HBl.out; omega
    have e2 : (Value.slice p2 n2 d2).ownBlock ≠ some w.heap.size := fun e => by have := (hgot.rel.lt _ e).1; have := HG3.out.size; have := HBl.out; omega
    have hb := (hgg.block w.heap.size (by have := HBl.out; omega) (fun e => by injection e with e; omega)).trans HRB.out
    have r1 : w4.cell? ⟨w.heap.size, 0, none⟩ = some (.slice none 0 0) := by simp [World.cell?, hb]
    have r2 : w4.cell? ⟨w.heap.size, 1, none⟩ = some (.slice none 0 0) := by simp [World.cell?, hb]
    have r3 : w4.frozen? ⟨w.heap.size, 0, none⟩ = false := by simp only [World.frozen?, hb]; rfl
    have r4 : w4.frozen? ⟨w.heap.size, 1, none⟩ = false := by simp only [World.frozen?, hb]; rfl
    have z1 : (w4.setCell ⟨w.heap.size, 0, none⟩ (.slice p1 n1 d1)).cell? ⟨w.heap.size, 0, none⟩ = some (.slice p1 n1 d1) := by have h1 := (setCell_block (a := .slice p1 n1 d1) hb).1; simp [World.cell?, h1]
    have z2 : ((w4.setCell ⟨w.heap.size, 0, none⟩ (.slice p1 n1 d1)).setCell ⟨w.heap.size, 1, none⟩ (.slice p2 n2 d2)).cell? ⟨w.heap.size, 1, none⟩ = some (.slice p2 n2 d2) := by have h1 := (setCell_block (a := .slice p2 n2 d2) (setCell_block (a := .slice p1 n1 d1) hb).1).2; simp [World.cell?, h1]
    have HE := Lib.hid (And.intro e1 e2)
    clear hb hgot hgg e1 e2
    go_wp2_with fail
    refine bodyPost_ret (v := .agg #[.slice p1 n1 d1, .slice p2 n2 d2]) (by simp [results, Try.results10, go_sem, z1, z2]) rfl ?_
    exact ⟨_, _, _, _, _, _, _, _, rfl, HD.out.set HE.out.1 HE.out.2 _ _⟩
end Go.Proofs.Ythcjembekadijaa.DrwL
