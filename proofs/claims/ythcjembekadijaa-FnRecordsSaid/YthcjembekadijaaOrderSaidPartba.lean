/- Draws: the number of a context, or another one. -/
import Derived.Test.YthcjembekadijaaOrderSaidPartay
import Derived.Test.YthcjembekadijaaOrderSaidPartaz
import Derived.Deep.RegionHeld3
import Derived.Deep.RegionLaw
import Derived.Deep.DeepCutAuto
namespace Go.Proofs.Ythcjembekadijaa.DrwK
open Go.RowKit Cur Pairs Rec RecEq Keep Two Drw DrwC DrwR DrwD
set_option maxRecDepth 100000 in
set_option maxHeartbeats 4000000 in
theorem number_any (B B0 : Nat) (a : Option Addr) (len cap m : Nat) (hm : m ≤ 800000) (hBB : B < B0) (p1 p2 : Option Addr) (n1 d1 n2 d2 : Nat) (L1 : List (Int × Int)) (h1 : n1 ≤ 200) (w : World) (h : Ok w B a len cap m) (hc : w.ownsRow B0 55 2 (.slice p1 n1 d1) n1 (flat L1)) :
    Calls Try.prog 65 #[.pointer (some ⟨B, 0, none⟩), .agg #[.slice p1 n1 d1, .slice p2 n2 d2]] w (Step (fun _ => True) B a len cap (m + 2) w) := by
  have hB := h.lt
  have HB := Lib.hid hB
  have hok := ok_alloc h (.cells #[.slice p1 n1 d1, .slice p2 n2 d2] 27)
  have hg0 : w.grownBy (w.alloc (.cells #[.slice p1 n1 d1, .slice p2 n2 d2] 27)) (some B) := World.grownBy_alloc w _ _
  have hs0 : (w.alloc (.cells #[.slice p1 n1 d1, .slice p2 n2 d2] 27)).heap.size = w.heap.size + 1 := by simp
  have hrb : (w.alloc (.cells #[.slice p1 n1 d1, .slice p2 n2 d2] 27)).heap[w.heap.size]? = some (.cells #[.slice p1 n1 d1, .slice p2 n2 d2] 27) := heap_alloc_new w _
  have hrow := hc.alloc (.cells #[.slice p1 n1 d1, .slice p2 n2 d2] 27)
  have HOK := Lib.hid hok
  have HG0 := Lib.hid hg0
  have HS0 := Lib.hid hs0
  have HRB := Lib.hid hrb
  have HROW := Lib.hid hrow
  clear h hok hg0 hs0 hrb hc hrow
  go_enter Try.func65, Try.ntmps65
  go_upto_region 1 with fail
  generalize w.alloc (.cells #[.slice p1 n1 d1, .slice p2 n2 d2] 27) = W at *
  have hbox : ∀ X : World, W.grownBy X (some B) → X.cell? ⟨w.heap.size, 0, none⟩ = some (.slice p1 n1 d1) := fun X hg => by
    have hb := (hg.block w.heap.size (by have := HS0.out; omega) (fun e => by injection e with e; have := HB.out; omega)).trans HRB.out
    simp [World.cell?, hb]
  have HX := Lib.hid hbox
  have c0 := hbox W (grefl W (some B))
  clear hbox
  by_cases hn0 : n1 = 0
  · subst hn0
    go_wp2_with fail
    have hlc : ∀ i x, ([0, 1, 2, 998, 1000] : List Int)[i]? = some x → (W.alloc (.cells #[.int .i64 0, .int .i64 1, .int .i64 2, .int .i64 998, .int .i64 1000] 3)).cell? ⟨W.heap.size, i, none⟩ = some (.int .i64 x) := list_cells W [0, 1, 2, 998, 1000]
    have hlw : W.heap.size ≠ B := by have h1 := HS0.out; have h2 := HB.out; omega
    refine (among_ok B a len cap _ (by omega) W.heap.size 5 [0, 1, 2, 998, 1000] rfl (by omega) (by omega) _ (ok_alloc HOK.out _) hlw (by simp) hlc).mono ?_
    rintro e w5 ⟨z, rfl, _, hok5, hg5⟩
    clear hlc
    go_wp2_with fail
    go_ret
    exact ⟨z, rfl, trivial, ok_up hok5 (by omega), gtrans (gtrans HG0.out (World.grownBy_alloc W _ _)) hg5⟩
  · have hnb : ((n1 : Int) == 0) = false := by rw [beq_eq_false_iff_ne]; omega
    go_wp2_with fail
    refine (one_ok B a len cap _ (by omega) 10 (by omega) (by omega) W HOK.out).mono ?_
    rintro e w3 ⟨yes, rfl, hok3, hg3⟩
    have HO3 := Lib.hid hok3
    have HG3 := Lib.hid hg3
    have HR3 := Lib.hid (own_step HROW.out hg3 hBB)
    clear hok3 hg3 c0
    cases yes with
    | true =>
      go_wp2_with fail
      have hlc : ∀ i x, ([0, 1, 2, 998, 1000] : List Int)[i]? = some x → (w3.alloc (.cells #[.int .i64 0, .int .i64 1, .int .i64 2, .int .i64 998, .int .i64 1000] 3)).cell? ⟨w3.heap.size, i, none⟩ = some (.int .i64 x) := list_cells w3 [0, 1, 2, 998, 1000]
      have hlw : w3.heap.size ≠ B := by have h1 := HS0.out; have h2 := HB.out; have := HG3.out.size; omega
      refine (among_ok B a len cap _ (by omega) w3.heap.size 5 [0, 1, 2, 998, 1000] rfl (by omega) (by omega) _ (ok_alloc HO3.out _) hlw (by simp) hlc).mono ?_
      rintro e w5 ⟨z, rfl, _, hok5, hg5⟩
      clear hlc
      go_wp2_with fail
      go_ret
      exact ⟨z, rfl, trivial, hok5, gtrans (gtrans (gtrans HG0.out HG3.out) (World.grownBy_alloc w3 _ _)) hg5⟩
    | false =>
      obtain ⟨b, off, _, _, hpe, _, _, _⟩ := (holds_own HR3.out).at 0 (by omega)
      subst hpe
      have HD : Hid (Ok w3.drew B a len cap (m + 1) ∧ W.grownBy w3.drew (some B) ∧ w3.drew.ownsRow B0 55 2 (.slice (some ⟨b, off, none⟩) n1 d1) n1 (flat L1)) := ⟨ok_below HO3.out ((Below.refl _ _).drew), grown_below HG3.out ((Below.refl _ _).drew), ownsRow_below HR3.out ((Below.refl _ _).drew)⟩
      go_upto_region 3 with fail
      have o1 := HX.out _ HD.out.2.1
      have hhi : 0 < n1 := by omega
      go_region_law (first
        | (go_simp; go_at_call 114; refine (pick_any B a len cap _ (by omega) n1 (by omega) w3.drew HD.out.1).mono ?_; rintro e w5 ⟨ii, rfl, ⟨i, rfl, hi⟩, hok5, hg5⟩; have c1 := HX.out _ (gtrans HD.out.2.1 hg5); obtain ⟨b9, off9, x0, y0, hpe, hx0, e1, e2⟩ := (holds_own (own_step HD.out.2.2 hg5 hBB)).at i (by omega); injection hpe with hpe; injection hpe with hp1 hp2; rw [← hp1, ← hp2] at e1; clear hp1 hp2; have hi0 : (0 : Int) ≤ (i : Int) := (by omega); have hin : (i : Int) < (n1 : Int) := (by omega); have HO5 := Lib.hid hok5; have HG5 := Lib.hid (gtrans HD.out.2.1 hg5); clear hok5 hg5 hx0 e2))
      all_goals go_wp2_with fail
      all_goals go_ret
      all_goals exact ⟨x0, rfl, trivial, HO5.out, gtrans HG0.out HG5.out⟩
end Go.Proofs.Ythcjembekadijaa.DrwK
/- Draws for the law of order: a record and two numbers. -/
namespace Go.Proofs.Ythcjembekadijaa.DrwP
open Go.RowKit Cur Pairs Rec RecEq Keep Two Drw DrwC DrwR DrwD DrwK
/-- A record that was drawn. -/
structure DRec (w w' : World) (p1 : Option Addr) (n1 d1 : Nat) (p2 : Option Addr) (n2 d2 : Nat) (L1 L2 : List (Int × Int)) : Prop where
  ctx : w'.ownsRow w.heap.size 55 2 (.slice p1 n1 d1) n1 (flat L1)
  rel : w'.ownsRow w.heap.size 39 2 (.slice p2 n2 d2) n2 (flat L2)
  few1 : n1 ≤ 20
  few2 : n2 ≤ 40
  cap1 : n1 ≤ d1
  cap2 : n2 ≤ d2
  bel : Below w.heap.size w w'
def Drawn2 (w : World) (e : Ending) (w' : World) : Prop :=
  ∃ (p1 : Option Addr) (n1 d1 : Nat) (p2 : Option Addr) (n2 d2 : Nat) (L1 L2 : List (Int × Int)) (x y : Int), e = .returned (.tuple #[.agg #[.slice p1 n1 d1, .slice p2 n2 d2], .int .i64 x, .int .i64 y]) ∧ DRec w w' p1 n1 d1 p2 n2 d2 L1 L2
theorem below_up {w W w' : World} {B : Nat} (h : W.grownBy w' (some B)) (h0 : Below w.heap.size w W) (hB : w.heap.size ≤ B) : Below w.heap.size w w' := h0.grown h h0.size (fun k e => by injection e with e; omega)
/-- A record that was drawn, put into a box that was there before. -/
theorem DRec.put {w W w' : World} {p1 : Option Addr} {n1 d1 : Nat} {p2 : Option Addr} {n2 d2 : Nat} {L1 L2 : List (Int × Int)} (h : DRec W w' p1 n1 d1 p2 n2 d2 L1 L2) (hb : Below w.heap.size w W) (hw : w.heap.size < W.heap.size) (u v : Value) :
    DRec w ((w'.setCell ⟨w.heap.size, 0, none⟩ u).setCell ⟨w.heap.size, 1, none⟩ v) p1 n1 d1 p2 n2 d2 L1 L2 := by
  have e1 : (Value.slice p1 n1 d1).ownBlock ≠ some w.heap.size := fun e => by have := (h.ctx.lt _ e).1; omega
  have e2 : (Value.slice p2 n2 d2).ownBlock ≠ some w.heap.size := fun e => by have := (h.rel.lt _ e).1; omega
  have s1 := setCell_grown (w := w') (g := w.heap.size) (o := 0) (u := u)
  have s2 := setCell_grown (w := w'.setCell ⟨w.heap.size, 0, none⟩ u) (g := w.heap.size) (o := 1) (u := v)
  have b1 := hb.trans (h.bel.mono hb.size)
  exact ⟨ownsRow_base (setCell_far (setCell_far h.ctx e1) e1) (by omega), ownsRow_base (setCell_far (setCell_far h.rel e2) e2) (by omega), h.few1, h.few2, h.cap1, h.cap2, b1.grown (gtrans s1 s2) b1.size (fun k e => by injection e with e; omega)⟩
theorem RSt.drec {w W wr : World} {B : Nat} {a : Option Addr} {len cap M gb : Nat} {p1 : Option Addr} {n1 d1 : Nat} {p2 : Option Addr} {n2 d2 : Nat} {L1 L2 : List (Int × Int)} (h : RSt W wr B a len cap M gb p1 n1 d1 p2 n2 d2 L1 L2) (hb : Below w.heap.size w W) (hB : w.heap.size ≤ B) (hw : w.heap.size < W.heap.size) (h1 : n1 ≤ 20) (h2 : n2 ≤ 40) (u v : Value) :
    DRec w ((wr.setCell ⟨w.heap.size, 0, none⟩ u).setCell ⟨w.heap.size, 1, none⟩ v) p1 n1 d1 p2 n2 d2 L1 L2 := by
  have e1 : (Value.slice p1 n1 d1).ownBlock ≠ some w.heap.size := fun e => by have := (h.ctx.lt _ e).1; omega
  have e2 : (Value.slice p2 n2 d2).ownBlock ≠ some w.heap.size := fun e => by have := (h.rel.lt _ e).1; omega
  have s1 := setCell_grown (w := wr) (g := w.heap.size) (o := 0) (u := u)
  have s2 := setCell_grown (w := wr.setCell ⟨w.heap.size, 0, none⟩ u) (g := w.heap.size) (o := 1) (u := v)
  have b1 := below_up h.gr hb hB
  exact ⟨ownsRow_base (setCell_far (setCell_far h.ctx e1) e1) (by omega), ownsRow_base (setCell_far (setCell_far h.rel e2) e2) (by omega), h1, h2, h.cap1, h.cap2, b1.grown (gtrans s1 s2) b1.size (fun k e => by injection e with e; omega)⟩
set_option maxRecDepth 100000 in
set_option maxHeartbeats 8000000 in
theorem drawIsLater_any (a : Option Addr) (len cap : Nat) (w : World) (h : IsCode w a len) :
    Calls Try.prog 70 #[.slice a len cap] w (Drawn2 w) := by
  have hb0 := below_alloc w (.cells #[.slice none 0 0, .slice none 0 0] 27)
  have hok := ok_new (cap := cap) (h.below hb0)
  have hs0 : (w.alloc (.cells #[.slice none 0 0, .slice none 0 0] 27)).heap.size = w.heap.size + 1 := by simp
  rw [hs0] at hok
  have hrb0 : (w.alloc (.cells #[.slice none 0 0, .slice none 0 0] 27)).heap[w.heap.size]? = some (.cells #[.slice none 0 0, .slice none 0 0] 27) := heap_alloc_new w _
  generalize hW0 : w.alloc (.cells #[.slice none 0 0, .slice none 0 0] 27) = W0 at *
  have HW0 := Lib.hid hW0
  clear hW0
  have hbW := below_alloc W0 (.cells #[.slice a len cap, .int .i64 0, .int .u64 0] 80)
  have HB1 := Lib.hid (hb0.trans (hbW.mono hb0.size))
  have HRB := Lib.hid ((hbW.block w.heap.size (by omega)).trans hrb0)
  have hs1 : (W0.alloc (.cells #[.slice a len cap, .int .i64 0, .int .u64 0] 80)).heap.size = w.heap.size + 2 := by simp [hs0]
  have HS1 := Lib.hid hs1
  have HOK := Lib.hid hok
  clear hb0 hrb0 hbW hs1 hok h
  go_enter Try.func70, Try.ntmps70
  go_upto_region 2 with fail
  rw [HW0.out]
  generalize W0.alloc (.cells #[.slice a len cap, .int .i64 0, .int .u64 0] 80) = W at *
  clear hs0 HW0
  have HBl : Hid (w.heap.size + 1 < W.heap.size) := by have := HS1.out; unfold Hid; omega
  go_wp2_with fail
  refine (DrwN.anyRecord_any (w.heap.size + 1) a len cap 0 (by omega) W HOK.out).mono ?_
  rintro e w1 ⟨p1, n1, d1, p2, n2, d2, L1, L2, rfl, hgot⟩
  have hf1 := hgot.few1
  have hf2 := hgot.few2
  have HN := Lib.hid (RSt.new hgot.ctx hgot.rel hgot.ok hgot.gr)
  clear hgot
  go_upto_region 3 with fail
  generalize w1.alloc (.cells #[.slice p1 n1 d1, .slice p2 n2 d2] 27) = V at *
  have HD := Lib.hid (HN.out.below ((Below.refl _ _).drew))
  obtain ⟨o1, o2, o3, o4, o5⟩ := HD.out.cells
  go_region_law (first
    | (go_simp; go_at_call 65; refine (number_any (w.heap.size + 1) W.heap.size a len cap _ (by omega) HBl.out p1 p2 n1 d1 n2 d2 L1 (by omega) V.drew HD.out.ok HD.out.ctx).mono ?_; rintro e w5 ⟨x, rfl, _, hok5, hg5⟩; have HX5 := Lib.hid (HD.out.step HBl.out hg5 hok5); obtain ⟨c1, c2, c3, c4, c5⟩ := HX5.out.cells; clear hok5 hg5)
    | (go_simp; go_at_call 65; refine (number_any (w.heap.size + 1) W.heap.size a len cap _ (by omega) HBl.out p1 p2 n1 d1 n2 d2 L1 (by omega) w5 HX5.out.ok HX5.out.ctx).mono ?_; rintro e w6 ⟨y, rfl, _, hok6, hg6⟩; have HX6 := Lib.hid (HX5.out.step HBl.out hg6 hok6); obtain ⟨e1, e2, e3, e4, e5⟩ := HX6.out.cells; clear hok6 hg6; obtain ⟨r1, r2, r3, r4, z1, z2⟩ := HX6.out.other HRB.out (by omega) (.slice p1 n1 d1) (.slice p2 n2 d2)))
  all_goals go_wp2_with fail
  all_goals refine bodyPost_ret (v := .tuple #[.agg #[.slice p1 n1 d1, .slice p2 n2 d2], .int .i64 x, .int .i64 y]) (by simp [results, Try.results70, go_sem, z1, z2]) rfl ?_
  all_goals exact ⟨_, _, _, _, _, _, _, _, _, _, rfl, RSt.drec HX6.out HB1.out (by omega) (by have := HBl.out; omega) (by omega) (by omega) _ _⟩
set_option maxHeartbeats 1000000 in
theorem drawShortestChain_any (a : Option Addr) (len cap : Nat) (w : World) (h : IsCode w a len) :
    Calls Try.prog 22 #[.slice a len cap] w (Drawn2 w) := by
  have hb0 := below_alloc w (.cells #[.slice none 0 0, .slice none 0 0] 27)
  have HH := Lib.hid (h.below hb0)
  have HB0 := Lib.hid hb0
  have hrb0 : (w.alloc (.cells #[.slice none 0 0, .slice none 0 0] 27)).heap[w.heap.size]? = some (.cells #[.slice none 0 0, .slice none 0 0] 27) := heap_alloc_new w _
  have hs0 : (w.alloc (.cells #[.slice none 0 0, .slice none 0 0] 27)).heap.size = w.heap.size + 1 := by simp
  have HRB := Lib.hid hrb0
  have HS0 := Lib.hid hs0
  clear h hb0 hrb0 hs0
  go_enter Try.func22, Try.ntmps22
  go_wp2_with fail
  generalize w.alloc (.cells #[.slice none 0 0, .slice none 0 0] 27) = W at *
  refine (drawIsLater_any a len cap W HH.out).mono ?_
  rintro e w1 ⟨p1, n1, d1, p2, n2, d2, L1, L2, x, y, rfl, hd⟩
  have hb := (hd.bel.block w.heap.size (by have := HS0.out; omega)).trans HRB.out
  have r1 : w1.cell? ⟨w.heap.size, 0, none⟩ = some (.slice none 0 0) := by simp [World.cell?, hb]
  have r2 : w1.cell? ⟨w.heap.size, 1, none⟩ = some (.slice none 0 0) := by simp [World.cell?, hb]
  have r3 : w1.frozen? ⟨w.heap.size, 0, none⟩ = false := by simp only [World.frozen?, hb]; rfl
  have r4 : w1.frozen? ⟨w.heap.size, 1, none⟩ = false := by simp only [World.frozen?, hb]; rfl
  have z1 : (w1.setCell ⟨w.heap.size, 0, none⟩ (.slice p1 n1 d1)).cell? ⟨w.heap.size, 0, none⟩ = some (.slice p1 n1 d1) := by have h1 := (setCell_block (a := .slice p1 n1 d1) hb).1; simp [World.cell?, h1]
  have z2 : ((w1.setCell ⟨w.heap.size, 0, none⟩ (.slice p1 n1 d1)).setCell ⟨w.heap.size, 1, none⟩ (.slice p2 n2 d2)).cell? ⟨w.heap.size, 1, none⟩ = some (.slice p2 n2 d2) := by have h1 := (setCell_block (a := .slice p2 n2 d2) (setCell_block (a := .slice p1 n1 d1) hb).1).2; simp [World.cell?, h1]
  have HD := Lib.hid hd
  clear hd hb
  go_wp2_with fail
  refine bodyPost_ret (v := .tuple #[.agg #[.slice p1 n1 d1, .slice p2 n2 d2], .int .i64 x, .int .i64 y]) (by simp [results, Try.results22, go_sem, z1, z2]) rfl ?_
  exact ⟨_, _, _, _, _, _, _, _, _, _, rfl, HD.out.put HB0.out (by have := HS0.out; omega) _ _⟩
end Go.Proofs.Ythcjembekadijaa.DrwP
