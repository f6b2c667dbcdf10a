/- Draws for the law of records: a record with a context, or with a relation. -/
import Derived.Test.YthcjembekadijaaSuspectsSaidPartaa
import Derived.Deep.RegionHeld3
import Derived.Test.YthcjembekadijaaOrderSaidPartba
import Derived.Test.YthcjembekadijaaRenumberSaidPartad
import Derived.Test.YthcjembekadijaaOrderSaidPartaw
import Derived.Test.YthcjembekadijaaRenumberSaidPartac
namespace Go.Proofs.Ythcjembekadijaa.DrwV
open Go.RowKit Cur Pairs Rec RecEq Keep Two Drw DrwC DrwR DrwD DrwK DrwP DrwT
theorem _root_.Go.Proofs.Ythcjembekadijaa.DrwR.RGot.step {N1 N2 : Nat} {w wr wq : World} {B : Nat} {a : Option Addr} {len cap M M' : Nat} {p1 : Option Addr} {n1 d1 : Nat} {p2 : Option Addr} {n2 d2 : Nat} {L1 L2 : List (Int × Int)} (h : RGot N1 N2 w wr B a len cap M p1 n1 d1 p2 n2 d2 L1 L2) (hB : B < w.heap.size) (hg : wr.grownBy wq (some B)) (ho : Ok wq B a len cap M') : RGot N1 N2 w wq B a len cap M' p1 n1 d1 p2 n2 d2 L1 L2 :=
  ⟨own_step h.ctx hg hB, own_step h.rel hg hB, ho, gtrans h.gr hg, h.few1, h.few2⟩
theorem _root_.Go.Proofs.Ythcjembekadijaa.DrwR.RGot.base {W wr w : World} {B : Nat} {a : Option Addr} {len cap M : Nat} {p1 : Option Addr} {n1 d1 : Nat} {p2 : Option Addr} {n2 d2 : Nat} {L1 L2 : List (Int × Int)} (h : RGot 20 40 W wr B a len cap M p1 n1 d1 p2 n2 d2 L1 L2) (hb : Below w.heap.size w W) (hB : w.heap.size ≤ B) : DRec w wr p1 n1 d1 p2 n2 d2 L1 L2 :=
  ⟨ownsRow_base h.ctx hb.size, ownsRow_base h.rel hb.size, h.few1, h.few2, own_cap h.ctx, own_cap h.rel, below_up h.gr hb hB⟩
set_option maxRecDepth 100000 in
set_option maxHeartbeats 16000000 in
theorem drawAddC_any (a : Option Addr) (len cap : Nat) (w : World) (h : IsCode w a len) :
    Calls Try.prog 27 #[.slice a len cap] w (Drawn3 w) := by
  have hb0 := below_alloc w (.cells #[.slice none 0 0, .slice none 0 0] 27)
  have hs0 : (w.alloc (.cells #[.slice none 0 0, .slice none 0 0] 27)).heap.size = w.heap.size + 1 := by simp
  have hrb0 : (w.alloc (.cells #[.slice none 0 0, .slice none 0 0] 27)).heap[w.heap.size]? = some (.cells #[.slice none 0 0, .slice none 0 0] 27) := heap_alloc_new w _
  have hc0 := h.below hb0
  generalize hW0 : w.alloc (.cells #[.slice none 0 0, .slice none 0 0] 27) = W0 at *
  have HW0 := Lib.hid hW0
  clear hW0
  have hb1 := below_alloc W0 (.cells #[.int .i64 0, .int .i64 0] 55)
  have hs1 : (W0.alloc (.cells #[.int .i64 0, .int .i64 0] 55)).heap.size = w.heap.size + 2 := by simp [hs0]
  have hlb1 : (W0.alloc (.cells #[.int .i64 0, .int .i64 0] 55)).heap[w.heap.size + 1]? = some (.cells #[.int .i64 0, .int .i64 0] 55) := by
    have h1 := heap_alloc_new W0 (.cells #[.int .i64 0, .int .i64 0] 55)
    rw [hs0] at h1
    exact h1
  have hrb1 := (hb1.block w.heap.size (by omega)).trans hrb0
  have hc1 := hc0.below hb1
  have HB0 := Lib.hid (hb0.trans (hb1.mono hb0.size))
  generalize hW1 : W0.alloc (.cells #[.int .i64 0, .int .i64 0] 55) = W1 at *
  have HW1 := Lib.hid hW1
  clear hW1 hb1 hb0 hc0 hrb0
  have hok := ok_new (cap := cap) hc1
  rw [hs1] at hok
  have hb2 := below_alloc W1 (.cells #[.slice a len cap, .int .i64 0, .int .u64 0] 80)
  have HB1 := Lib.hid (HB0.out.trans (hb2.mono HB0.out.size))
  have HRB := Lib.hid ((hb2.block w.heap.size (by omega)).trans hrb1)
  have HLB := Lib.hid ((hb2.block (w.heap.size + 1) (by omega)).trans hlb1)
  have hs2 : (W1.alloc (.cells #[.slice a len cap, .int .i64 0, .int .u64 0] 80)).heap.size = w.heap.size + 3 := by simp [hs1]
  have HS1 := Lib.hid hs2
  have HOK := Lib.hid hok
  clear hb2 hrb1 hlb1 hok hs2 hc1 h
  go_enter Try.func27, Try.ntmps27
  go_upto_region 2 with fail
  rw [HW0.out, HW1.out]
  generalize W1.alloc (.cells #[.slice a len cap, .int .i64 0, .int .u64 0] 80) = W at *
  clear hs0 hs1 HW0 HW1 HB0
  have HBl : Hid (w.heap.size + 2 < W.heap.size) := by have := HS1.out; unfold Hid; omega
  go_wp2_with fail
  refine (DrwN.anyRecord_any (w.heap.size + 2) a len cap 0 (by omega) W HOK.out).mono ?_
  rintro e w1 ⟨p1, n1, d1, p2, n2, d2, L1, L2, rfl, hgot⟩
  have HG := Lib.hid hgot
  clear hgot
  go_wp2_with fail
  have hlc : ∀ (i : Nat) (x : Int), ([1, 4, 7, 50, 0, 999, 1000] : List Int)[i]? = some x → (w1.alloc (.cells #[.int .i64 1, .int .i64 4, .int .i64 7, .int .i64 50, .int .i64 0, .int .i64 999, .int .i64 1000] 3)).cell? ⟨w1.heap.size, i, none⟩ = some (.int .i64 x) := list_cells w1 [1, 4, 7, 50, 0, 999, 1000]
  have hne : w1.heap.size ≠ w.heap.size + 2 := by have := HG.out.gr.size; have := HBl.out; omega
  refine (among_ok (w.heap.size + 2) a len cap _ (by omega) w1.heap.size 7 [1, 4, 7, 50, 0, 999, 1000] rfl (by omega) (by omega) _ (ok_alloc HG.out.ok _) hne (by simp) hlc).mono ?_
  rintro e w2 ⟨x, rfl, _, hok2, hg2⟩
  have HG2 := Lib.hid (HG.out.step HBl.out (gtrans (World.grownBy_alloc w1 _ _) hg2) hok2)
  clear hlc hne hok2 hg2
  go_wp2_with fail
  have hlc : ∀ (i : Nat) (x : Int), ([1, 2, 3, 4, 1, 2, 0, 5] : List Int)[i]? = some x → (w2.alloc (.cells #[.int .i64 1, .int .i64 2, .int .i64 3, .int .i64 4, .int .i64 1, .int .i64 2, .int .i64 0, .int .i64 5] 3)).cell? ⟨w2.heap.size, i, none⟩ = some (.int .i64 x) := list_cells w2 [1, 2, 3, 4, 1, 2, 0, 5]
  have hne : w2.heap.size ≠ w.heap.size + 2 := by have := HG2.out.gr.size; have := HBl.out; omega
  refine (among_ok (w.heap.size + 2) a len cap _ (by omega) w2.heap.size 8 [1, 2, 3, 4, 1, 2, 0, 5] rfl (by omega) (by omega) _ (ok_alloc HG2.out.ok _) hne (by simp) hlc).mono ?_
  rintro e w3 ⟨y, rfl, _, hok3, hg3⟩
  have HG3 := Lib.hid (HG2.out.step HBl.out (gtrans (World.grownBy_alloc w2 _ _) hg3) hok3)
  clear hlc hne hok3 hg3
  have hbr := (HG3.out.gr.block w.heap.size (by have := HBl.out; omega) (fun e => by injection e with e; omega)).trans HRB.out
  have hbl := (HG3.out.gr.block (w.heap.size + 1) (by have := HBl.out; omega) (fun e => by injection e with e; omega)).trans HLB.out
  obtain ⟨r1, r2, r3, r4, z1, z2⟩ := box_there hbr (.slice p1 n1 d1) (.slice p2 n2 d2)
  obtain ⟨s1, s2, s3, s4, y1, y2⟩ := box_there hbl (.int .i64 x) (.int .i64 y)
  have HBR := Lib.hid hbr
  have HBL := Lib.hid hbl
  clear hbr hbl
  have HDR := Lib.hid (HG3.out.base HB1.out (by omega))
  have hx1 : (Value.slice p1 n1 d1).ownBlock ≠ some w.heap.size := fun e => by have := (HG3.out.ctx.lt _ e).1; have := HBl.out; omega
  have hx2 : (Value.slice p2 n2 d2).ownBlock ≠ some w.heap.size := fun e => by have := (HG3.out.rel.lt _ e).1; have := HBl.out; omega
  have hx3 : (Value.slice p1 n1 d1).ownBlock ≠ some (w.heap.size + 1) := fun e => by have := (HG3.out.ctx.lt _ e).1; have := HBl.out; omega
  have hx4 : (Value.slice p2 n2 d2).ownBlock ≠ some (w.heap.size + 1) := fun e => by have := (HG3.out.rel.lt _ e).1; have := HBl.out; omega
  have HXX := Lib.hid (And.intro (And.intro hx1 hx2) (And.intro hx3 hx4))
  clear hx1 hx2 hx3 hx4
  have HT1 := Lib.hid (four_cells (two_boxes (u' := .slice p1 n1 d1) (v' := .slice p2 n2 d2) (x' := .int .i64 x) (y' := .int .i64 y) (by omega) HBR.out HBL.out))
  go_wp2_with fail
  refine bodyPost_ret (v := .tuple #[.agg #[.slice p1 n1 d1, .slice p2 n2 d2], .agg #[.int .i64 x, .int .i64 y]]) (by obtain ⟨q1, q2, q3, q4⟩ := HT1.out; simp [results, Try.results27, go_sem, q1, q2, q3, q4]) rfl ?_
  exact ⟨_, _, _, _, _, _, _, _, _, _, rfl, set_two (set_two HDR.out HXX.out.1.1 HXX.out.1.2 (by omega) _ _) HXX.out.2.1 HXX.out.2.2 (by omega) _ _⟩
end Go.Proofs.Ythcjembekadijaa.DrwV
/- Draws: a relation for a record; a record with a relation. -/
namespace Go.Proofs.Ythcjembekadijaa.DrwU
open Go.RowKit Cur Pairs Rec RecEq Keep Two Drw DrwC DrwR DrwD DrwK DrwP DrwT
theorem far2 {X : World} {g : Nat} {u v x : Value} {p : Addr} (h : X.cell? p = some x) (hp : g ≠ p.block) : ((X.setCell ⟨g, 0, none⟩ u).setCell ⟨g, 1, none⟩ v).cell? p = some x := by
  rw [World.cell?_setCell_far _ ⟨g, 1, none⟩ _ _ hp, World.cell?_setCell_far _ ⟨g, 0, none⟩ _ _ hp]
  exact h
/-- What a relation drawn for a record is. -/
def RelStep (B : Nat) (a : Option Addr) (len cap m : Nat) (w : World) (e : Ending) (w' : World) : Prop :=
  ∃ x y : Int, e = .returned (.agg #[.int .i64 x, .int .i64 y]) ∧ Ok w' B a len cap m ∧ w.grownBy w' (some B)
theorem put_fresh {w W wr : World} {B k : Nat} (hg0 : w.grownBy W (some B)) (hg : W.grownBy wr (some B)) (hk : w.heap.size ≤ k) (u v : Value) : w.grownBy ((wr.setCell ⟨k, 0, none⟩ u).setCell ⟨k, 1, none⟩ v) (some B) :=
  fresh (gtrans hg0 hg) (gtrans (setCell_grown (w := wr) (g := k) (o := 0) (u := u)) (setCell_grown (w := wr.setCell ⟨k, 0, none⟩ u) (g := k) (o := 1) (u := v))) (fun j e => by injection e with e; omega)
theorem ok_put {wr : World} {B k : Nat} {a : Option Addr} {len cap m : Nat} (h : Ok wr B a len cap m) (hk : B < k) (u v : Value) : Ok ((wr.setCell ⟨k, 0, none⟩ u).setCell ⟨k, 1, none⟩ v) B a len cap m :=
  ok_other h (gtrans (setCell_grown (w := wr) (g := k) (o := 0) (u := u)) (setCell_grown (w := wr.setCell ⟨k, 0, none⟩ u) (g := k) (o := 1) (u := v))) (fun j e => by injection e with e; omega)
set_option maxRecDepth 100000 in
set_option maxHeartbeats 8000000 in
theorem relationOf_any (B B0 : Nat) (a : Option Addr) (len cap m : Nat) (hm : m ≤ 700000) (hBB : B < B0) (p1 p2 : Option Addr) (n1 d1 n2 d2 : Nat) (L1 L2 : List (Int × Int)) (h1 : n1 ≤ 100) (h2 : n2 ≤ 100) (w : World) (h : Ok w B a len cap m) (hc : w.ownsRow B0 55 2 (.slice p1 n1 d1) n1 (flat L1)) (hr : w.ownsRow B0 39 2 (.slice p2 n2 d2) n2 (flat L2)) :
    Calls Try.prog 89 #[.pointer (some ⟨B, 0, none⟩), .agg #[.slice p1 n1 d1, .slice p2 n2 d2]] w (RelStep B a len cap (m + 5) w) := by
  have hB := h.lt
  have HB := Lib.hid hB
  obtain ⟨hs, x1, x2, y1, y2, hb0⟩ := boxes2 w (.slice p1 n1 d1) (.slice p2 n2 d2) (.int .i64 0) (.int .i64 0) 27 39
  have hlb : ((w.alloc (.cells #[.slice p1 n1 d1, .slice p2 n2 d2] 27)).alloc (.cells #[.int .i64 0, .int .i64 0] 39)).heap[w.heap.size + 1]? = some (.cells #[.int .i64 0, .int .i64 0] 39) := by
    have h1 := heap_alloc_new (w.alloc (.cells #[.slice p1 n1 d1, .slice p2 n2 d2] 27)) (.cells #[.int .i64 0, .int .i64 0] 39)
    have h2 : (w.alloc (.cells #[.slice p1 n1 d1, .slice p2 n2 d2] 27)).heap.size = w.heap.size + 1 := by simp
    rw [h2] at h1
    exact h1
  have hg0 : w.grownBy ((w.alloc (.cells #[.slice p1 n1 d1, .slice p2 n2 d2] 27)).alloc (.cells #[.int .i64 0, .int .i64 0] 39)) (some B) := gtrans (World.grownBy_alloc w _ _) (World.grownBy_alloc _ _ _)
  have HG0 := Lib.hid hg0
  have HOK := Lib.hid (ok_alloc (ok_alloc h (.cells #[.slice p1 n1 d1, .slice p2 n2 d2] 27)) (.cells #[.int .i64 0, .int .i64 0] 39))
  have HRC := Lib.hid (own_step hc hg0 hBB)
  have HRR := Lib.hid (own_step hr hg0 hBB)
  have HS := Lib.hid hs
  have HLB := Lib.hid hlb
  clear h hc hr hg0 hs hlb hb0
  go_enter Try.func89, Try.ntmps89
  go_upto_region 1 with fail
  generalize (w.alloc (.cells #[.slice p1 n1 d1, .slice p2 n2 d2] 27)).alloc (.cells #[.int .i64 0, .int .i64 0] 39) = W at *
  have HX : Hid (∀ X : World, W.grownBy X (some B) → X.cell? ⟨w.heap.size, 0, none⟩ = some (.slice p1 n1 d1) ∧ X.cell? ⟨w.heap.size, 1, none⟩ = some (.slice p2 n2 d2)) := fun X hg => by
    have h1 := HS.out
    have h2 := HB.out
    exact ⟨(World.cell?_of_block (w := W) (w' := X) (a := ⟨w.heap.size, 0, none⟩) (hg.block w.heap.size (by omega) (fun e => by injection e with e; omega))).trans x1, (World.cell?_of_block (w := W) (w' := X) (a := ⟨w.heap.size, 1, none⟩) (hg.block w.heap.size (by omega) (fun e => by injection e with e; omega))).trans x2⟩
  have HY : Hid (∀ X : World, W.grownBy X (some B) → X.heap[w.heap.size + 1]? = some (.cells #[.int .i64 0, .int .i64 0] 39)) := fun X hg => (hg.block (w.heap.size + 1) (by have := HS.out; omega) (fun e => by injection e with e; have := HB.out; omega)).trans HLB.out
  clear y1 y2
  by_cases hn0 : n2 = 0
  · subst hn0
    go_wp2_with fail
    have HST : Hid (Ok W.drew B a len cap m ∧ W.grownBy W.drew (some B) ∧ W.drew.ownsRow B0 55 2 (.slice p1 n1 d1) n1 (flat L1)) := ⟨ok_below HOK.out ((Below.refl _ _).drew), grown_below (grefl _ _) ((Below.refl _ _).drew), HRC.out⟩
    clear x1 x2
    go_upto_region 3 with fail
    obtain ⟨x1, x2⟩ := HX.out _ HST.out.2.1
    go_region_law (first
      | (go_simp; go_at_call 65; have hcall := (number_any B B0 a len cap _ (by omega) hBB p1 p2 n1 d1 0 d2 L1 (by omega) w5 HO5.out HC5.out); refine hcall.mono ?_; clear hcall; rintro e w6 ⟨y, rfl, _, hok6, hg6⟩; have HO6 := Lib.hid hok6; have HG6 := Lib.hid (gtrans HG5.out hg6); have hlb6 := HY.out _ (gtrans HG5.out hg6); clear hok6 hg6; obtain ⟨s1, s2, s3, s4, z1, z2⟩ := box_there hlb6 (.int .i64 x) (.int .i64 y); obtain ⟨t1, t2, t3, t4, v1, v2⟩ := box_there hlb6 (.int .i64 y) (.int .i64 x); obtain ⟨d5, d6⟩ := HX.out _ HG6.out; clear hlb6)
      | (go_simp; go_at_call 65; refine (number_any B B0 a len cap _ (by omega) hBB p1 p2 n1 d1 0 d2 L1 (by omega) _ HST.out.1 HST.out.2.2).mono ?_; rintro e w5 ⟨x, rfl, _, hok5, hg5⟩; have HO5 := Lib.hid hok5; have HG5 := Lib.hid (gtrans HST.out.2.1 hg5); have HC5 := Lib.hid (own_step HST.out.2.2 hg5 hBB); obtain ⟨c1, c2⟩ := HX.out _ HG5.out; clear hok5 hg5))
    all_goals go_wp2_with fail
    all_goals first
      | (refine bodyPost_ret (v := .agg #[.int .i64 x, .int .i64 y]) (by simp [results, Try.results89, go_sem, z1, z2]) rfl ?_; exact ⟨x, y, rfl, ok_up (ok_put HO6.out (by have := HB.out; omega) _ _) (by omega), put_fresh HG0.out HG6.out (by omega) _ _⟩)
      | (refine bodyPost_ret (v := .agg #[.int .i64 y, .int .i64 x]) (by simp [results, Try.results89, go_sem, v1, v2]) rfl ?_; exact ⟨y, x, rfl, ok_up (ok_put HO6.out (by have := HB.out; omega) _ _) (by omega), put_fresh HG0.out HG6.out (by omega) _ _⟩)
  · have hnp : 0 < n2 := by omega
    have hnpi : (0 : Int) < (n2 : Int) := by omega
    go_wp2_with fail
    refine (one_ok B a len cap _ (by omega) 3 (by omega) (by omega) W HOK.out).mono ?_
    rintro e w3 ⟨yes, rfl, hok3, hg3⟩
    have HO3 := Lib.hid hok3
    have HG3 := Lib.hid hg3
    have HC3 := Lib.hid (own_step HRC.out hg3 hBB)
    have HR3 := Lib.hid (own_step HRR.out hg3 hBB)
    clear hok3 hg3 x1 x2
    cases yes with
    | true =>
      obtain ⟨b, off, _, _, hpe, _, _, _⟩ := (holds_own HR3.out).at 0 hnp
      subst hpe
      have HST : Hid (Ok w3.drew B a len cap (m + 1) ∧ W.grownBy w3.drew (some B) ∧ w3.drew.ownsRow B0 39 2 (.slice (some ⟨b, off, none⟩) n2 d2) n2 (flat L2)) := ⟨ok_below HO3.out ((Below.refl _ _).drew), grown_below HG3.out ((Below.refl _ _).drew), HR3.out⟩
      go_upto_region 2 with fail
      obtain ⟨x1, x2⟩ := HX.out _ HST.out.2.1
      go_region_law (first | (go_simp; go_at_call 114; refine (pick_any B a len cap _ (by omega) n2 (by omega) w3.drew HST.out.1).mono ?_; rintro e w5 ⟨ii, rfl, ⟨i, rfl, hi⟩, hok5, hg5⟩; obtain ⟨b9, off9, x0, y0, hpe, hx0, e1, e2⟩ := (holds_own (own_step HST.out.2.2 hg5 hBB)).at i (by omega); injection hpe with hpe; injection hpe with hp1 hp2; rw [← hp1, ← hp2] at e1 e2; clear hp1 hp2; have hi0 : (0 : Int) ≤ (i : Int) := (by omega); have hin : (i : Int) < (n2 : Int) := (by omega); have HO5 := Lib.hid hok5; have HG5 := Lib.hid (gtrans HST.out.2.1 hg5); have hlb5 := HY.out _ (gtrans HST.out.2.1 hg5); obtain ⟨s1, s2, s3, s4, z1, z2⟩ := box_there hlb5 (.int .i64 x0) (.int .i64 y0); obtain ⟨c1, c2⟩ := HX.out _ HG5.out; clear hok5 hg5 hx0 hlb5))
      all_goals go_wp2_with fail
      all_goals refine bodyPost_ret (v := .agg #[.int .i64 x0, .int .i64 y0]) (by simp [results, Try.results89, go_sem, z1, z2]) rfl ?_
      all_goals exact ⟨x0, y0, rfl, ok_up (ok_put HO5.out (by have := HB.out; omega) _ _) (by omega), put_fresh HG0.out HG5.out (by omega) _ _⟩
    | false =>
      go_wp2_with fail
      have HST : Hid (Ok w3.drew B a len cap (m + 1) ∧ W.grownBy w3.drew (some B) ∧ w3.drew.ownsRow B0 55 2 (.slice p1 n1 d1) n1 (flat L1)) := ⟨ok_below HO3.out ((Below.refl _ _).drew), grown_below HG3.out ((Below.refl _ _).drew), HC3.out⟩
      go_upto_region 3 with fail
      obtain ⟨x1, x2⟩ := HX.out _ HST.out.2.1
      go_region_law (first
        | (go_simp; go_at_call 65; have hcall := (number_any B B0 a len cap _ (by omega) hBB p1 p2 n1 d1 n2 d2 L1 (by omega) w5 HO5.out HC5.out); refine hcall.mono ?_; clear hcall; rintro e w6 ⟨y, rfl, _, hok6, hg6⟩; have HO6 := Lib.hid hok6; have HG6 := Lib.hid (gtrans HG5.out hg6); have hlb6 := HY.out _ (gtrans HG5.out hg6); clear hok6 hg6; obtain ⟨s1, s2, s3, s4, z1, z2⟩ := box_there hlb6 (.int .i64 x) (.int .i64 y); obtain ⟨t1, t2, t3, t4, v1, v2⟩ := box_there hlb6 (.int .i64 y) (.int .i64 x); obtain ⟨d5, d6⟩ := HX.out _ HG6.out; clear hlb6)
        | (go_simp; go_at_call 65; refine (number_any B B0 a len cap _ (by omega) hBB p1 p2 n1 d1 n2 d2 L1 (by omega) _ HST.out.1 HST.out.2.2).mono ?_; rintro e w5 ⟨x, rfl, _, hok5, hg5⟩; have HO5 := Lib.hid hok5; have HG5 := Lib.hid (gtrans HST.out.2.1 hg5); have HC5 := Lib.hid (own_step HST.out.2.2 hg5 hBB); obtain ⟨c1, c2⟩ := HX.out _ HG5.out; clear hok5 hg5))
      all_goals go_wp2_with fail
      all_goals first
        | (refine bodyPost_ret (v := .agg #[.int .i64 x, .int .i64 y]) (by simp [results, Try.results89, go_sem, z1, z2]) rfl ?_; exact ⟨x, y, rfl, ok_up (ok_put HO6.out (by have := HB.out; omega) _ _) (by omega), put_fresh HG0.out HG6.out (by omega) _ _⟩)
        | (refine bodyPost_ret (v := .agg #[.int .i64 y, .int .i64 x]) (by simp [results, Try.results89, go_sem, v1, v2]) rfl ?_; exact ⟨y, x, rfl, ok_up (ok_put HO6.out (by have := HB.out; omega) _ _) (by omega), put_fresh HG0.out HG6.out (by omega) _ _⟩)
set_option maxRecDepth 100000 in
set_option maxHeartbeats 16000000 in
theorem drawAddR_any (a : Option Addr) (len cap : Nat) (w : World) (h : IsCode w a len) :
    Calls Try.prog 34 #[.slice a len cap] w (Drawn3 w) := by
  have hb0 := below_alloc w (.cells #[.slice none 0 0, .slice none 0 0] 27)
  have hs0 : (w.alloc (.cells #[.slice none 0 0, .slice none 0 0] 27)).heap.size = w.heap.size + 1 := by simp
  have hrb0 : (w.alloc (.cells #[.slice none 0 0, .slice none 0 0] 27)).heap[w.heap.size]? = some (.cells #[.slice none 0 0, .slice none 0 0] 27) := heap_alloc_new w _
  have hc0 := h.below hb0
  generalize hW0 : w.alloc (.cells #[.slice none 0 0, .slice none 0 0] 27) = W0 at *
  have HW0 := Lib.hid hW0
  clear hW0
  have hb1 := below_alloc W0 (.cells #[.int .i64 0, .int .i64 0] 39)
  have hs1 : (W0.alloc (.cells #[.int .i64 0, .int .i64 0] 39)).heap.size = w.heap.size + 2 := by simp [hs0]
  have hlb1 : (W0.alloc (.cells #[.int .i64 0, .int .i64 0] 39)).heap[w.heap.size + 1]? = some (.cells #[.int .i64 0, .int .i64 0] 39) := by
    have h1 := heap_alloc_new W0 (.cells #[.int .i64 0, .int .i64 0] 39)
    rw [hs0] at h1
    exact h1
  have hrb1 := (hb1.block w.heap.size (by omega)).trans hrb0
  have hc1 := hc0.below hb1
  have HB0 := Lib.hid (hb0.trans (hb1.mono hb0.size))
  generalize hW1 : W0.alloc (.cells #[.int .i64 0, .int .i64 0] 39) = W1 at *
  have HW1 := Lib.hid hW1
  clear hW1 hb1 hb0 hc0 hrb0
  have hok := ok_new (cap := cap) hc1
  rw [hs1] at hok
  have hb2 := below_alloc W1 (.cells #[.slice a len cap, .int .i64 0, .int .u64 0] 80)
  have HB1 := Lib.hid (HB0.out.trans (hb2.mono HB0.out.size))
  have HRB := Lib.hid ((hb2.block w.heap.size (by omega)).trans hrb1)
  have HLB := Lib.hid ((hb2.block (w.heap.size + 1) (by omega)).trans hlb1)
  have hs2 : (W1.alloc (.cells #[.slice a len cap, .int .i64 0, .int .u64 0] 80)).heap.size = w.heap.size + 3 := by simp [hs1]
  have HS1 := Lib.hid hs2
  have HOK := Lib.hid hok
  clear hb2 hrb1 hlb1 hok hs2 hc1 h
  go_enter Try.func34, Try.ntmps34
  go_upto_region 2 with fail
  rw [HW0.out, HW1.out]
  generalize W1.alloc (.cells #[.slice a len cap, .int .i64 0, .int .u64 0] 80) = W at *
  clear hs0 hs1 HW0 HW1 HB0
  have HBl : Hid (w.heap.size + 2 < W.heap.size) := by have := HS1.out; unfold Hid; omega
  go_wp2_with fail
  refine (DrwN.anyRecord_any (w.heap.size + 2) a len cap 0 (by omega) W HOK.out).mono ?_
  rintro e w1 ⟨p1, n1, d1, p2, n2, d2, L1, L2, rfl, hgot⟩
  have hf1 := hgot.few1
  have hf2 := hgot.few2
  have HN := Lib.hid (RSt.new hgot.ctx hgot.rel hgot.ok hgot.gr)
  clear hgot
  go_upto_region 3 with fail
  generalize w1.alloc (.cells #[.slice p1 n1 d1, .slice p2 n2 d2] 27) = V at *
  have HD := Lib.hid (HN.out.below ((Below.refl _ _).drew))
  obtain ⟨o1, o2, o3, o4, o5⟩ := HD.out.cells
  go_region_law (first
    | (go_simp; go_at_call 89; refine (relationOf_any (w.heap.size + 2) W.heap.size a len cap _ (by omega) HBl.out p1 p2 n1 d1 n2 d2 L1 L2 (by omega) (by omega) V.drew HD.out.ok HD.out.ctx HD.out.rel).mono ?_; rintro e w6 ⟨x, y, rfl, hok6, hg6⟩; have HX6 := Lib.hid (HD.out.step HBl.out hg6 hok6); obtain ⟨e1, e2, e3, e4, e5⟩ := HX6.out.cells; clear hok6 hg6; have hbr := (HX6.out.gr.block w.heap.size (by have := HBl.out; omega) (fun e => by injection e with e; omega)).trans HRB.out; have hbl := (HX6.out.gr.block (w.heap.size + 1) (by have := HBl.out; omega) (fun e => by injection e with e; omega)).trans HLB.out; obtain ⟨r1, r2, r3, r4, z1, z2⟩ := box_there hbr (.slice p1 n1 d1) (.slice p2 n2 d2); obtain ⟨s1, s2, s3, s4, y1, y2⟩ := box_there hbl (.int .i64 x) (.int .i64 y); have HBR := Lib.hid hbr; have HBL := Lib.hid hbl; clear hbr hbl))
  all_goals have HDR := Lib.hid (RSt.base HX6.out HB1.out (by omega) (by omega) (by omega))
  all_goals have hx1 : (Value.slice p1 n1 d1).ownBlock ≠ some w.heap.size := fun e => by have := (HX6.out.ctx.lt _ e).1; have := HBl.out; omega
  all_goals have hx2 : (Value.slice p2 n2 d2).ownBlock ≠ some w.heap.size := fun e => by have := (HX6.out.rel.lt _ e).1; have := HBl.out; omega
  all_goals have hx3 : (Value.slice p1 n1 d1).ownBlock ≠ some (w.heap.size + 1) := fun e => by have := (HX6.out.ctx.lt _ e).1; have := HBl.out; omega
  all_goals have hx4 : (Value.slice p2 n2 d2).ownBlock ≠ some (w.heap.size + 1) := fun e => by have := (HX6.out.rel.lt _ e).1; have := HBl.out; omega
  all_goals have HXX := Lib.hid (And.intro (And.intro hx1 hx2) (And.intro hx3 hx4))
  all_goals clear hx1 hx2 hx3 hx4
  all_goals have HT1 := Lib.hid (four_cells (two_boxes (u' := .slice p1 n1 d1) (v' := .slice p2 n2 d2) (x' := .int .i64 x) (y' := .int .i64 y) (by omega) HBR.out HBL.out))
  all_goals have HT2 := Lib.hid (four_cells (two_boxes (u' := .int .i64 x) (v' := .int .i64 y) (x' := .slice p1 n1 d1) (y' := .slice p2 n2 d2) (by omega) HBL.out HBR.out))
  all_goals go_wp2_with fail
  all_goals first
    | (refine bodyPost_ret (v := .tuple #[.agg #[.slice p1 n1 d1, .slice p2 n2 d2], .agg #[.int .i64 x, .int .i64 y]]) (by obtain ⟨q1, q2, q3, q4⟩ := HT1.out; simp [results, Try.results34, go_sem, q1, q2, q3, q4]) rfl ?_; exact ⟨_, _, _, _, _, _, _, _, _, _, rfl, set_two (set_two HDR.out HXX.out.1.1 HXX.out.1.2 (by omega) _ _) HXX.out.2.1 HXX.out.2.2 (by omega) _ _⟩)
    | (refine bodyPost_ret (v := .tuple #[.agg #[.slice p1 n1 d1, .slice p2 n2 d2], .agg #[.int .i64 x, .int .i64 y]]) (by obtain ⟨q1, q2, q3, q4⟩ := HT2.out; simp [results, Try.results34, go_sem, q1, q2, q3, q4]) rfl ?_; exact ⟨_, _, _, _, _, _, _, _, _, _, rfl, set_two (set_two HDR.out HXX.out.2.1 HXX.out.2.2 (by omega) _ _) HXX.out.1.1 HXX.out.1.2 (by omega) _ _⟩)
end Go.Proofs.Ythcjembekadijaa.DrwU
/- Draws for the law of records: a record and two contexts to be equated. -/
namespace Go.Proofs.Ythcjembekadijaa.DrwE
open Go.RowKit Cur Pairs Rec RecEq Keep Two Drw DrwC DrwR DrwD DrwK DrwP DrwN
set_option maxRecDepth 100000 in
set_option maxHeartbeats 8000000 in
theorem drawEquate_any (a : Option Addr) (len cap : Nat) (w : World) (h : IsCode w a len) :
    Calls Try.prog 38 #[.slice a len cap] w (Drawn2 w) := by
  have hb0 := below_alloc w (.cells #[.slice none 0 0, .slice none 0 0] 27)
  have hok := ok_new (cap := cap) (h.below hb0)
  have hs0 : (w.alloc (.cells #[.slice none 0 0, .slice none 0 0] 27)).heap.size = w.heap.size + 1 := by simp
  rw [hs0] at hok
  have hrb0 : (w.alloc (.cells #[.slice none 0 0, .slice none 0 0] 27)).heap[w.heap.size]? = some (.cells #[.slice none 0 0, .slice none 0 0] 27) := heap_alloc_new w _
  generalize hW0 : w.alloc (.cells #[.slice none 0 0, .slice none 0 0] 27) = W0 at *
  have HW0 := Lib.hid hW0
  clear hW0
  have hbW := below_alloc W0 (.cells #[.slice a len cap, .int .i64 0, .int .u64 0] 80)
  have HB1 := Lib.hid (hb0.trans (hbW.mono hb0.size))
  have HRB := Lib.hid ((hbW.block w.heap.size (by omega)).trans hrb0)
  have hs1 : (W0.alloc (.cells #[.slice a len cap, .int .i64 0, .int .u64 0] 80)).heap.size = w.heap.size + 2 := by simp [hs0]
  have HS1 := Lib.hid hs1
  have HOK := Lib.hid hok
  clear hb0 hrb0 hbW hs1 hok h
  go_enter Try.func38, Try.ntmps38
  go_upto_region 2 with fail
  rw [HW0.out]
  generalize W0.alloc (.cells #[.slice a len cap, .int .i64 0, .int .u64 0] 80) = W at *
  clear hs0 HW0
  have HBl : Hid (w.heap.size + 1 < W.heap.size) := by have := HS1.out; unfold Hid; omega
  go_wp2_with fail
  refine (DrwN.anyRecord_any (w.heap.size + 1) a len cap 0 (by omega) W HOK.out).mono ?_
  rintro e w1 ⟨p1, n1, d1, p2, n2, d2, L1, L2, rfl, hgot⟩
  have hf1 := hgot.few1
  have hf2 := hgot.few2
  have HN := Lib.hid (RSt.new hgot.ctx hgot.rel hgot.ok hgot.gr)
  clear hgot
  go_upto_region 3 with fail
  generalize w1.alloc (.cells #[.slice p1 n1 d1, .slice p2 n2 d2] 27) = V at *
  by_cases hn : 1 < n1
  · have hni : (1 : Int) < (n1 : Int) := by omega
    obtain ⟨o1, o2, o3, o4, o5⟩ := HN.out.cells
    go_wp2_with fail
    clear o1 o2 o3 o4 o5
    refine (one_ok (w.heap.size + 1) a len cap _ (by omega) 2 (by omega) (by omega) V HN.out.ok).mono ?_
    rintro e w3 ⟨yes, rfl, hok3, hg3⟩
    have HN3 := Lib.hid (HN.out.step HBl.out hg3 hok3)
    clear hok3 hg3 HN
    cases yes with
    | false =>
      have HD := Lib.hid (HN3.out.below ((Below.refl _ _).drew))
      have n1' : w.heap.size ≠ w1.heap.size := by have h1 := HN3.out.gt; have h2 := HBl.out; omega
      go_upto_region 9 with fail
      obtain ⟨o1, o2, o3, o4, o5⟩ := HD.out.cells
      go_region_held3 (fun (X : World) => X.cell? ⟨w1.heap.size, 0, none⟩ = some (.slice p1 n1 d1) ∧ X.cell? ⟨w1.heap.size, 1, none⟩ = some (.slice p2 n2 d2)) (first | with_reducible exact ⟨HD.out.cells.1, HD.out.cells.2.1⟩ | with_reducible exact ⟨HX5.out.cells.1, HX5.out.cells.2.1⟩ | with_reducible exact ⟨HX6.out.cells.1, HX6.out.cells.2.1⟩ | exact ⟨DrwU.far2 HX6.out.cells.1 n1', DrwU.far2 HX6.out.cells.2.1 n1'⟩ | fail) (first
        | (go_at_call 65; have hcall := (number_any (w.heap.size + 1) W.heap.size a len cap _ (by omega) HBl.out p1 p2 n1 d1 n2 d2 L1 (by omega) w5 HX5.out.ok HX5.out.ctx); refine hcall.mono ?_; clear hcall; rintro e w6 ⟨y, rfl, _, hok6, hg6⟩; have HX6 := Lib.hid (HX5.out.step HBl.out hg6 hok6); obtain ⟨e1, e2, e3, e4, e5⟩ := HX6.out.cells; clear hok6 hg6; obtain ⟨r1, r2, r3, r4, z1, z2⟩ := HX6.out.other HRB.out (by omega) (.slice p1 n1 d1) (.slice p2 n2 d2))
        | (go_at_call 65; refine (number_any (w.heap.size + 1) W.heap.size a len cap _ (by omega) HBl.out p1 p2 n1 d1 n2 d2 L1 (by omega) w3.drew HD.out.ok HD.out.ctx).mono ?_; rintro e w5 ⟨x, rfl, _, hok5, hg5⟩; have HX5 := Lib.hid (HD.out.step HBl.out hg5 hok5); obtain ⟨c1, c2, c3, c4, c5⟩ := HX5.out.cells; clear hok5 hg5)
        | fail)
      all_goals go_wp2_with fail
      all_goals refine bodyPost_ret (v := .tuple #[.agg #[.slice p1 n1 d1, .slice p2 n2 d2], .int .i64 x, .int .i64 y]) (by simp [results, Try.results38, go_sem, z1, z2]) rfl ?_
      all_goals exact ⟨_, _, _, _, _, _, _, _, _, _, rfl, RSt.drec HX6.out HB1.out (by omega) (by have := HBl.out; omega) (by omega) (by omega) _ _⟩
    | true =>
      obtain ⟨o1, o2, o3, o4, o5⟩ := HN3.out.cells
      obtain ⟨b, off, x0, y0, hpe, hx0, e1, e2⟩ := (holds_own HN3.out.ctx).at (n1 - 1) (by omega)
      subst hpe
      obtain ⟨gg, hgg⟩ := own_zero HN3.out.ctx
      injection hgg with hg1 hg2
      subst hg1 hg2
      rw [Nat.zero_add] at e1 e2
      have hw1 : wrap64 ((n1 : Int) - 1) = ((n1 - 1 : Nat) : Int) := by unfold wrap64; omega
      have hw2 : IntKind.i64.wrap ((n1 : Int) - 1) = ((n1 - 1 : Nat) : Int) := by rw [IntKind.wrap_i64]; omega
      have hi0 : (0 : Int) ≤ ((n1 - 1 : Nat) : Int) := by omega
      have hin : ((n1 - 1 : Nat) : Int) < (n1 : Int) := by omega
      have hz0 : (0 : Int) < (n1 : Int) := by omega
      have hz00 : 0 < n1 := by omega
      go_upto_region 6 with fail
      clear e1 e2 hx0 o1 o2 o3 o4 o5
      have HX4 := Lib.hid (XSt.new HN3.out x0 y0)
      generalize w3.alloc (.cells #[.int .i64 x0, .int .i64 y0] 55) = w4 at *
      generalize w3.heap.size = gx at *
      obtain ⟨o1, o2, o3, o4, o5⟩ := HX4.out.r.cells
      obtain ⟨k1, k2, k3, k4, k5⟩ := HX4.out.xcells
      obtain ⟨b', off', x1, y1, hpe', hx1, e1, e2⟩ := (holds_own HX4.out.r.ctx).at 0 (by omega)
      injection hpe' with hpe'
      injection hpe' with hpe1 hpe2
      subst hpe1 hpe2
      simp only [Nat.zero_add, Nat.zero_mul] at e1 e2
      have HE1 := Lib.hid hx1
      go_upto_region 7 with fail
      clear e1 e2 o1 o2 o3 o4 o5 k1 k2 k3 k4 k5 hx1
      have HX5 := Lib.hid (HX4.out.setx HBl.out y1).2
      generalize w4.setCell ⟨gx, 1, none⟩ (.int .i64 y1) = w5 at *
      obtain ⟨o1, o2, o3, o4, o5⟩ := HX5.out.r.cells
      obtain ⟨k1, k2, k3, k4, k5⟩ := HX5.out.xcells
      obtain ⟨b', off', x9, y9, hpe', hx9, s1, s2⟩ := (holds_own HX5.out.r.ctx).at (n1 - 1) (by omega)
      injection hpe' with hpe'
      injection hpe' with hpe1 hpe2
      subst hpe1 hpe2
      rw [Nat.zero_add] at s1 s2
      have s3 := own_frozen HX5.out.r.ctx ((n1 - 1) * 2)
      have s4 := own_frozen HX5.out.r.ctx ((n1 - 1) * 2 + 1)
      have HBk := Lib.hid (HX5.out.back HBl.out (n1 - 1))
      have hgx : gx ≠ b := fun e => HX5.out.x1 (by subst e; rfl)
      have q1 : ((w5.setCell ⟨b, (n1 - 1) * 2, none⟩ (.int .i64 x0)).setCell ⟨b, (n1 - 1) * 2 + 1, none⟩ (.int .i64 y1)).cell? ⟨gx, 0, none⟩ = some (.int .i64 x0) := by
        rw [World.cell?_setCell_other _ _ _ _ (by intro e; injection e with e; exact hgx e.symm), World.cell?_setCell_other _ _ _ _ (by intro e; injection e with e; exact hgx e.symm)]
        exact k1
      have HQ := Lib.hid q1
      clear q1 hx9
      go_upto_region 8 with fail
      clear o1 o2 o3 o4 o5 k1 k2 k3 k4 k5 s1 s2 s3 s4
      generalize (w5.setCell ⟨b, (n1 - 1) * 2, none⟩ (.int .i64 x0)).setCell ⟨b, (n1 - 1) * 2 + 1, none⟩ (.int .i64 y1) = w6 at *
      have HD := Lib.hid (HBk.out.below ((Below.refl _ _).drew))
      obtain ⟨o1, o2, o3, o4, o5⟩ := HD.out.cells
      obtain ⟨b', off', x9, y9, hpe', hx9, s1, s2⟩ := (holds_own HD.out.ctx).at 0 (by omega)
      injection hpe' with hpe'
      injection hpe' with hpe1 hpe2
      subst hpe1 hpe2
      simp only [Nat.zero_add, Nat.zero_mul] at s1
      obtain ⟨r1, r2, r3, r4, z1, z2⟩ := HD.out.other HRB.out (by omega) (.slice (some ⟨b, 0, none⟩) n1 d1) (.slice p2 n2 d2)
      obtain ⟨t1, t2, t3, t4, y1', y2'⟩ := HBk.out.other HRB.out (by omega) (.slice (some ⟨b, 0, none⟩) n1 d1) (.slice p2 n2 d2)
      have kq : w6.drew.cell? ⟨gx, 0, none⟩ = some (.int .i64 x0) := HQ.out
      clear hx9 s2
      have n1' : w.heap.size ≠ w1.heap.size := by have h1 := HBk.out.gt; have h2 := HBl.out; omega
      have n2' : w.heap.size ≠ b := by have h1 := (HBk.out.ctx.lt b rfl).1; have h2 := HBl.out; omega
      have n3' : w.heap.size ≠ gx := by have h1 := HX5.out.xt; have h2 := HBl.out; omega
      go_region_held3 (fun (X : World) => X.cell? ⟨w1.heap.size, 0, none⟩ = some (.slice (some ⟨b, 0, none⟩) n1 d1) ∧ X.cell? ⟨w1.heap.size, 1, none⟩ = some (.slice p2 n2 d2) ∧ X.cell? ⟨b, 0, none⟩ = some (.int .i64 x9) ∧ X.cell? ⟨gx, 0, none⟩ = some (.int .i64 x0)) (first | with_reducible exact ⟨o1, o2, s1, kq⟩ | exact ⟨DrwU.far2 o1 n1', DrwU.far2 o2 n1', DrwU.far2 s1 n2', DrwU.far2 kq n3'⟩ | fail) (fail)
      all_goals go_wp2_with fail
      all_goals refine bodyPost_ret (v := .tuple #[.agg #[.slice (some ⟨b, 0, none⟩) n1 d1, .slice p2 n2 d2], .int .i64 x9, .int .i64 x0]) (by simp [results, Try.results38, go_sem, y1', y2']) rfl ?_
      all_goals exact ⟨_, _, _, _, _, _, _, _, _, _, rfl, RSt.drec HD.out HB1.out (by omega) (by have := HBl.out; omega) (by omega) (by omega) _ _⟩
  · have hni : ¬ (1 : Int) < (n1 : Int) := by omega
    obtain ⟨u1, u2, u3, u4, u5⟩ := HN.out.cells
    go_upto_region 9 with fail
    clear u1 u2 u3 u4 u5
    have HD := Lib.hid (HN.out.below ((Below.refl _ _).drew))
    have n1' : w.heap.size ≠ w1.heap.size := by have h1 := HN.out.gt; have h2 := HBl.out; omega
    obtain ⟨o1, o2, o3, o4, o5⟩ := HD.out.cells
    go_region_held3 (fun (X : World) => X.cell? ⟨w1.heap.size, 0, none⟩ = some (.slice p1 n1 d1) ∧ X.cell? ⟨w1.heap.size, 1, none⟩ = some (.slice p2 n2 d2)) (first | with_reducible exact ⟨HD.out.cells.1, HD.out.cells.2.1⟩ | with_reducible exact ⟨HX5.out.cells.1, HX5.out.cells.2.1⟩ | with_reducible exact ⟨HX6.out.cells.1, HX6.out.cells.2.1⟩ | exact ⟨DrwU.far2 HX6.out.cells.1 n1', DrwU.far2 HX6.out.cells.2.1 n1'⟩ | fail) (first
      | (go_at_call 65; have hcall := (number_any (w.heap.size + 1) W.heap.size a len cap _ (by omega) HBl.out p1 p2 n1 d1 n2 d2 L1 (by omega) w5 HX5.out.ok HX5.out.ctx); refine hcall.mono ?_; clear hcall; rintro e w6 ⟨y, rfl, _, hok6, hg6⟩; have HX6 := Lib.hid (HX5.out.step HBl.out hg6 hok6); obtain ⟨e1, e2, e3, e4, e5⟩ := HX6.out.cells; clear hok6 hg6; obtain ⟨r1, r2, r3, r4, z1, z2⟩ := HX6.out.other HRB.out (by omega) (.slice p1 n1 d1) (.slice p2 n2 d2))
      | (go_at_call 65; refine (number_any (w.heap.size + 1) W.heap.size a len cap _ (by omega) HBl.out p1 p2 n1 d1 n2 d2 L1 (by omega) V.drew HD.out.ok HD.out.ctx).mono ?_; rintro e w5 ⟨x, rfl, _, hok5, hg5⟩; have HX5 := Lib.hid (HD.out.step HBl.out hg5 hok5); obtain ⟨c1, c2, c3, c4, c5⟩ := HX5.out.cells; clear hok5 hg5)
      | fail)
    all_goals go_wp2_with fail
    all_goals refine bodyPost_ret (v := .tuple #[.agg #[.slice p1 n1 d1, .slice p2 n2 d2], .int .i64 x, .int .i64 y]) (by simp [results, Try.results38, go_sem, z1, z2]) rfl ?_
    all_goals exact ⟨_, _, _, _, _, _, _, _, _, _, rfl, RSt.drec HX6.out HB1.out (by omega) (by have := HBl.out; omega) (by omega) (by omega) _ _⟩
end Go.Proofs.Ythcjembekadijaa.DrwE
/- At rows with room to spare: The model's AddContext: a record with a context more. -/
namespace Go.Proofs.Ythcjembekadijaa.AddCC
open Go.RowKit Pairs Rec RecEq Find2 GoodM RelM Keep Row2 Copy Two Gives LawKit
open AddC (boxes222)
open AddC (addC addC_none addC_some)
open RemCS (good_few)
set_option maxRecDepth 100000 in
set_option maxHeartbeats 8000000 in
theorem spec_cap (zu zv : Int) (a1 a2 : Option Addr) (n1 c1 n2 c2 : Nat) (l m : List (Int × Int)) (w : World) (hc1 : n1 ≤ c1) (hc2 : n2 ≤ c2) (hz1 : n1 ≤ 1048576) (hz2 : n2 ≤ 1048576) (h1 : Holds w a1 n1 l) (h2 : Holds w a2 n2 m) :
    Calls Try.prog 29 #[.agg #[.slice a1 n1 c1, .slice a2 n2 c2], .agg #[.int .i64 zu, .int .i64 zv]] w (Res (addC zu zv l m).isSome ((addC zu zv l m).getD ([], [])).1 ((addC zu zv l m).getD ([], [])).2 w) := by
  have HC1 := Lib.hid hc1
  have HC2 := Lib.hid hc2
  obtain ⟨hs, x1, x2, x3, x4, y1, y2, fy1, fy2, hb0⟩ := boxes222 w (.slice a1 n1 c1) (.slice a2 n2 c2) (.int .i64 zu) (.int .i64 zv) (.slice none 0 0) (.slice none 0 0) 27 55 27
  have HS := Lib.hid hs
  have H1 := Lib.hid (h1.below hb0)
  have H2 := Lib.hid (h2.below hb0)
  clear h1 h2 hs
  go_enter Try.func29, Try.ntmps29
  go_wp2_with fail
  generalize ((w.alloc (.cells #[.slice a1 n1 c1, .slice a2 n2 c2] 27)).alloc (.cells #[.int .i64 zu, .int .i64 zv] 55)).alloc (.cells #[.slice none 0 0, .slice none 0 0] 27) = W at *
  have lw : w.heap.size < W.heap.size := by rw [HS.out]; omega
  have lw1 : w.heap.size + 1 < W.heap.size := by rw [HS.out]; omega
  have lw2 : w.heap.size + 2 < W.heap.size := by rw [HS.out]; omega
  refine (Good2.l2Good_any a1 a2 n1 c1 n2 c2 l m W H1.out H2.out).mono ?_
  rintro e w1 ⟨rfl, b1⟩
  have r1 := (b1.cell (p := ⟨w.heap.size, 0, none⟩) lw).trans x1
  have r2 := (b1.cell (p := ⟨w.heap.size, 1, none⟩) lw).trans x2
  have r3 := (b1.cell (p := ⟨w.heap.size + 1, 0, none⟩) lw1).trans x3
  have r4 := (b1.cell (p := ⟨w.heap.size + 1, 1, none⟩) lw1).trans x4
  have s1 := (b1.cell (p := ⟨w.heap.size + 2, 0, none⟩) lw2).trans y1
  have s2 := (b1.cell (p := ⟨w.heap.size + 2, 1, none⟩) lw2).trans y2
  have t1 := fz b1 ⟨w.heap.size + 2, 0, none⟩ lw2 fy1
  have t2 := fz b1 ⟨w.heap.size + 2, 1, none⟩ lw2 fy2
  have HBX := Lib.hid (hb0.trans (b1.mono hb0.size))
  cases hg : good l m with
  | false =>
    have HE := Lib.hid (addC_none (x := zu) (y := zv) (l := l) (m := m) (by rw [hg]; simp))
    clear hg
    go_wp2_with fail
    obtain ⟨q1, q2⟩ := set2_cells (u := .slice none 0 0) (v := .slice none 0 0) s1 s2
    refine bodyPost_ret (v := .tuple #[.agg #[.slice none 0 0, .slice none 0 0], .bool false]) (by simp [results, Try.results29, go_sem, q1, q2]) rfl ?_
    rw [HE.out]
    exact ⟨none, 0, 0, none, 0, 0, rfl, Got.nil _ _, by omega, by omega, ((HBX.out.setCell (p := ⟨w.heap.size + 2, 0, none⟩) (by show _ ≤ w.heap.size + 2; omega) _).setCell (p := ⟨w.heap.size + 2, 1, none⟩) (by show _ ≤ w.heap.size + 2; omega) _)⟩
  | true =>
    have HV := Lib.hid hg
    clear hg
    have hn1 : n1 ≤ 10 := by rw [← H1.out.1]; exact (good_few HV.out).1
    have hn2 : n2 ≤ 24 := by rw [← H2.out.1]; exact (good_few HV.out).2
    go_wp2_with fail
    refine (Put.l2Put_any zu zv a1 a2 n1 c1 n2 c2 l m (by omega) (by omega) hc1 w1 (H1.out.below b1) (H2.out.below b1)).mono ?_
    rintro e w2 ⟨g1, g2, d1, d2, rfl, o2, b2⟩
    go_wp2_with fail
    refine (Good2.l2Good_any (some ⟨g1, 0, none⟩) (some ⟨g2, 0, none⟩) (n1 + 1) d1 n2 d2 (ins l (pl l zu) (zu, zv)) m w2 (ownHolds o2).1 (ownHolds o2).2).mono ?_
    rintro e w3 ⟨rfl, b3⟩
    have b13 := (b1.trans (b2.mono b1.size)).trans (b3.mono (b1.trans (b2.mono b1.size)).size)
    clear r1 r2 r3 r4 s1 s2 t1 t2 HBX
    have r1 := (b13.cell (p := ⟨w.heap.size, 0, none⟩) lw).trans x1
    have r2 := (b13.cell (p := ⟨w.heap.size, 1, none⟩) lw).trans x2
    have r3 := (b13.cell (p := ⟨w.heap.size + 1, 0, none⟩) lw1).trans x3
    have r4 := (b13.cell (p := ⟨w.heap.size + 1, 1, none⟩) lw1).trans x4
    have s1 := (b13.cell (p := ⟨w.heap.size + 2, 0, none⟩) lw2).trans y1
    have s2 := (b13.cell (p := ⟨w.heap.size + 2, 1, none⟩) lw2).trans y2
    have t1 := fz b13 ⟨w.heap.size + 2, 0, none⟩ lw2 fy1
    have t2 := fz b13 ⟨w.heap.size + 2, 1, none⟩ lw2 fy2
    have HBX := Lib.hid (hb0.trans (b13.mono hb0.size))
    cases hg2 : good (ins l (pl l zu) (zu, zv)) m with
    | false =>
      have HE := Lib.hid (addC_none (x := zu) (y := zv) (l := l) (m := m) (by rw [hg2]; simp))
      clear hg2
      go_wp2_with fail
      obtain ⟨q1, q2⟩ := set2_cells (u := .slice none 0 0) (v := .slice none 0 0) s1 s2
      refine bodyPost_ret (v := .tuple #[.agg #[.slice none 0 0, .slice none 0 0], .bool false]) (by simp [results, Try.results29, go_sem, q1, q2]) rfl ?_
      rw [HE.out]
      exact ⟨none, 0, 0, none, 0, 0, rfl, Got.nil _ _, by omega, by omega, ((HBX.out.setCell (p := ⟨w.heap.size + 2, 0, none⟩) (by show _ ≤ w.heap.size + 2; omega) _).setCell (p := ⟨w.heap.size + 2, 1, none⟩) (by show _ ≤ w.heap.size + 2; omega) _)⟩
    | true =>
      have HE := Lib.hid (addC_some (x := zu) (y := zv) HV.out hg2)
      clear hg2
      go_wp2_with fail
      refine (Put.l2Put_any zu zv a1 a2 n1 c1 n2 c2 l m (by omega) (by omega) hc1 w3 (H1.out.below b13) (H2.out.below b13)).mono ?_
      rintro e w4 ⟨g3, g4, d3, d4, rfl, o4, b4⟩
      have b14 := b13.trans (b4.mono b13.size)
      clear r1 r2 r3 r4 s1 s2 t1 t2 HBX
      have r1 := (b14.cell (p := ⟨w.heap.size, 0, none⟩) lw).trans x1
      have r2 := (b14.cell (p := ⟨w.heap.size, 1, none⟩) lw).trans x2
      have r3 := (b14.cell (p := ⟨w.heap.size + 1, 0, none⟩) lw1).trans x3
      have r4 := (b14.cell (p := ⟨w.heap.size + 1, 1, none⟩) lw1).trans x4
      have s1 := (b14.cell (p := ⟨w.heap.size + 2, 0, none⟩) lw2).trans y1
      have s2 := (b14.cell (p := ⟨w.heap.size + 2, 1, none⟩) lw2).trans y2
      have t1 := fz b14 ⟨w.heap.size + 2, 0, none⟩ lw2 fy1
      have t2 := fz b14 ⟨w.heap.size + 2, 1, none⟩ lw2 fy2
      have HBX := Lib.hid (hb0.trans (b14.mono hb0.size))
      go_wp2_with fail
      obtain ⟨q1, q2⟩ := set2_cells (u := .slice (some ⟨g3, 0, none⟩) (n1 + 1) d3) (v := .slice (some ⟨g4, 0, none⟩) n2 d4) s1 s2
      refine bodyPost_ret (v := .tuple #[.agg #[.slice (some ⟨g3, 0, none⟩) (n1 + 1) d3, .slice (some ⟨g4, 0, none⟩) n2 d4], .bool true]) (by simp [results, Try.results29, go_sem, q1, q2]) rfl ?_
      rw [HE.out]
      have f3 : (Value.slice (some ⟨g3, 0, none⟩) (n1 + 1) d3).ownBlock ≠ some (w.heap.size + 2) := AddC.own_off (by have := (o4.ctx.lt g3 rfl).1; have := b13.size; omega)
      have f4 : (Value.slice (some ⟨g4, 0, none⟩) n2 d4).ownBlock ≠ some (w.heap.size + 2) := AddC.own_off (by have := (o4.rel.lt g4 rfl).1; have := b13.size; omega)
      have hB : w.heap.size ≤ w3.heap.size := by have := b13.size; omega
      have G4 := got_of_own o4
      exact ⟨some ⟨g3, 0, none⟩, (n1 + 1), d3, some ⟨g4, 0, none⟩, n2, d4, rfl, ⟨setCell_far (setCell_far (ownsRow_base G4.ctx hB) f3) f3, setCell_far (setCell_far (ownsRow_base G4.rel hB) f4) f4, G4.ne⟩, by omega, by omega, ((HBX.out.setCell (p := ⟨w.heap.size + 2, 0, none⟩) (by show _ ≤ w.heap.size + 2; omega) _).setCell (p := ⟨w.heap.size + 2, 1, none⟩) (by show _ ≤ w.heap.size + 2; omega) _)⟩
end Go.Proofs.Ythcjembekadijaa.AddCC
