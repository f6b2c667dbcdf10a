/- The program's ReduceRecord: a record without its redundant relations. -/
import Derived.Test.YtlgfaabobpnflaaRowTake
import Derived.Test.YtlgfaabobpnflaaRedOf
import Derived.Test.YtlgfaabobpnflaaGivesN0
import Derived.Test.YtlgfaabobpnflaaRedcM
namespace Go.Proofs.Ytlgfaabobpnflaa.RedcI
open Go.RowKit Pairs Rec RecEq Chain Find2 GoodM Keep GivesI Lows Order Idx That IsLater Consist OrdM RedM RedOf Row2 Copy Two Gives RowTake RedcM
set_option maxRecDepth 100000 in
set_option maxHeartbeats 8000000 in
theorem impl_any : GivesN0 30 redcP := by
  intro a1 a2 n1 n2 l m w hz1 hz2 h1 h2
  obtain ⟨fy1, fy2⟩ := fz_box2 w (.slice a1 n1 n1) (.slice a2 n2 n2) (.slice none 0 0) (.slice none 0 0) 33 33
  obtain ⟨hs, x1, x2, y1, y2, hb0⟩ := boxes2 w (.slice a1 n1 n1) (.slice a2 n2 n2) (.slice none 0 0) (.slice none 0 0) 33 33
  have HS := Lib.hid hs
  have H1 := Lib.hid (h1.below hb0)
  have H2 := Lib.hid (h2.below hb0)
  have HL2 := Lib.hid h2.1
  have HL1 := Lib.hid h1.1
  clear h1 h2 hs
  go_enter Try.func30, Try.ntmps30
  go_wp2_with fail
  generalize ((w.alloc (.cells #[.slice a1 n1 n1, .slice a2 n2 n2] 33)).alloc (.cells #[.slice none 0 0, .slice none 0 0] 33)) = W at *
  have lw : w.heap.size < W.heap.size := by rw [HS.out]; omega
  have lw1 : w.heap.size + 1 < W.heap.size := by rw [HS.out]; omega
  refine (Consist.impl_any a1 a2 n1 n1 n2 n2 l m W hz1 hz2 H1.out H2.out).mono ?_
  rintro e w1 ⟨rfl, b1⟩
  have r1 := (b1.cell (p := ⟨w.heap.size, 0, none⟩) lw).trans x1
  have r2 := (b1.cell (p := ⟨w.heap.size, 1, none⟩) lw).trans x2
  have s1 := (b1.cell (p := ⟨w.heap.size + 1, 0, none⟩) lw1).trans y1
  have s2 := (b1.cell (p := ⟨w.heap.size + 1, 1, none⟩) lw1).trans y2
  have t1 := fz b1 ⟨w.heap.size + 1, 0, none⟩ lw1 fy1
  have t2 := fz b1 ⟨w.heap.size + 1, 1, none⟩ lw1 fy2
  have hs1 := b1.size
  have HB1 := Lib.hid (hb0.trans (b1.mono hb0.size))
  have K1 := Lib.hid (H1.out.below b1)
  have K2 := Lib.hid (H2.out.below b1)
  clear b1 x1 x2 y1 y2 fy1 fy2 hb0
  cases hg : good l m with
  | false =>
    have HE := Lib.hid (redc_bad hg)
    rw [cons_no hg]
    clear hg
    go_wp2_with fail
    obtain ⟨q1, q2⟩ := set2_cells (u := .slice none 0 0) (v := .slice none 0 0) s1 s2
    refine bodyPost_ret (v := .tuple #[.agg #[.slice none 0 0, .slice none 0 0], .bool false]) (by simp [results, Try.results30, go_sem, q1, q2]) rfl ?_
    rw [HE.out]
    exact ⟨none, 0, 0, none, 0, 0, rfl, Got.nil _ _, by omega, by omega, ((HB1.out.setCell (p := ⟨w.heap.size + 1, 0, none⟩) (Nat.le_succ _) _).setCell (p := ⟨w.heap.size + 1, 1, none⟩) (Nat.le_succ _) _)⟩
  | true =>
    cases hc : (l.any fun p => later m p.1 p.1) with
    | true =>
      have HE := Lib.hid (redc_cyc hg hc)
      rw [cons_yes hg, hc]
      clear hg hc
      go_wp2_with fail
      obtain ⟨q1, q2⟩ := set2_cells (u := .slice none 0 0) (v := .slice none 0 0) s1 s2
      refine bodyPost_ret (v := .tuple #[.agg #[.slice none 0 0, .slice none 0 0], .bool false]) (by simp [results, Try.results30, go_sem, q1, q2]) rfl ?_
      rw [HE.out]
      exact ⟨none, 0, 0, none, 0, 0, rfl, Got.nil _ _, by omega, by omega, ((HB1.out.setCell (p := ⟨w.heap.size + 1, 0, none⟩) (Nat.le_succ _) _).setCell (p := ⟨w.heap.size + 1, 1, none⟩) (Nat.le_succ _) _)⟩
    | false =>
      have HE := Lib.hid (redc_yes hg hc)
      have HG := Lib.hid hg
      rw [cons_yes hg, hc]
      clear hg hc
      go_wp2_with fail
      refine (copyRecord_any a1 a2 n1 n1 n2 n2 l m hz1 hz2 w1 K1.out K2.out).mono ?_
      rintro e w2 ⟨g1, g2, rfl, o2, b2⟩
      have hg1 : w1.heap.size ≤ g1 ∧ g1 < w2.heap.size := o2.ctx.lt g1 rfl
      have hg2 : w1.heap.size ≤ g2 ∧ g2 < w2.heap.size := o2.rel.lt g2 rfl
      have hs2 := b2.size
      have hbk1 := block_of_own o2.ctx
      have hbk2 := block_of_own o2.rel
      have hg12 := o2.ne
      have HB2 := Lib.hid (HB1.out.trans (b2.mono HB1.out.size))
      have hba := below_alloc w2 (.cells #[.slice (some ⟨g1, 0, none⟩) n1 n1, .slice (some ⟨g2, 0, none⟩) n2 n2] 33)
      have b23 := b2.trans (hba.mono b2.size)
      have r1 := (b23.cell (p := ⟨w.heap.size, 0, none⟩) (by show w.heap.size < _; omega)).trans r1
      have r2 := (b23.cell (p := ⟨w.heap.size, 1, none⟩) (by show w.heap.size < _; omega)).trans r2
      have s1 := (b23.cell (p := ⟨w.heap.size + 1, 0, none⟩) (by show w.heap.size + 1 < _; omega)).trans s1
      have s2 := (b23.cell (p := ⟨w.heap.size + 1, 1, none⟩) (by show w.heap.size + 1 < _; omega)).trans s2
      have t1 := fz b23 ⟨w.heap.size + 1, 0, none⟩ (by show w.heap.size + 1 < _; omega) t1
      have t2 := fz b23 ⟨w.heap.size + 1, 1, none⟩ (by show w.heap.size + 1 < _; omega) t2
      have u1 := box_first w2 (.slice (some ⟨g1, 0, none⟩) n1 n1) (.slice (some ⟨g2, 0, none⟩) n2 n2) 33
      have u2' := box_second w2 (.slice (some ⟨g1, 0, none⟩) n1 n1) (.slice (some ⟨g2, 0, none⟩) n2 n2) 33
      have ubk := heap_alloc_new w2 (.cells #[.slice (some ⟨g1, 0, none⟩) n1 n1, .slice (some ⟨g2, 0, none⟩) n2 n2] 33)
      have hsa : (w2.alloc (.cells #[.slice (some ⟨g1, 0, none⟩) n1 n1, .slice (some ⟨g2, 0, none⟩) n2 n2] 33)).heap.size = w2.heap.size + 1 := by simp
      have HBK1 := Lib.hid ((hba.block g1 hg1.2).trans hbk1)
      have HBK2 := Lib.hid ((hba.block g2 hg2.2).trans hbk2)
      have HB3 := Lib.hid (HB2.out.trans (hba.mono HB2.out.size))
      have HU := Lib.hid ubk
      have HSA := Lib.hid hsa
      have M1 := Lib.hid (K1.out.below b23)
      have M2 := Lib.hid (K2.out.below b23)
      have HB13 := Lib.hid b23
      clear o2 b2 b23 hba hbk1 hbk2 ubk hsa
      go_wp2_with fail
      have hs3 := HSA.out
      generalize w2.alloc (.cells #[.slice (some ⟨g1, 0, none⟩) n1 n1, .slice (some ⟨g2, 0, none⟩) n2 n2] 33) = W3 at *
      clear u1 u2'
      have HC := Lib.hid (And.intro r1 (And.intro r2 (And.intro s1 (And.intro s2 (And.intro t1 t2)))))
      have c1' : W3.cell? ⟨w2.heap.size, 0, none⟩ = some (.slice (some ⟨g1, 0, none⟩) n1 n1) := by have hu := HU.out; simp only [World.cell?, hu]; rfl
      have c2' : W3.cell? ⟨w2.heap.size, 1, none⟩ = some (.slice (some ⟨g2, 0, none⟩) n2 n2) := by have hu := HU.out; simp only [World.cell?, hu]; rfl
      have d1' : W3.frozen? ⟨w2.heap.size, 1, none⟩ = false := by have hu := HU.out; simp only [World.frozen?, hu]; rfl
      have HSS : Hid (∀ X, Below W3.heap.size W3 X → (X.cell? ⟨w.heap.size, 0, none⟩ = some (.slice a1 n1 n1) ∧ X.cell? ⟨w.heap.size, 1, none⟩ = some (.slice a2 n2 n2)) ∧ X.cell? ⟨w2.heap.size, 1, none⟩ = some (.slice (some ⟨g2, 0, none⟩) n2 n2) ∧ X.frozen? ⟨w2.heap.size, 1, none⟩ = false) := fun X hX =>
        ⟨⟨(hX.cell (World.block_lt_of_cell? W3 _ r1)).trans r1, (hX.cell (World.block_lt_of_cell? W3 _ r2)).trans r2⟩, (hX.cell (World.block_lt_of_cell? W3 _ c2')).trans c2', fz hX ⟨w2.heap.size, 1, none⟩ (World.block_lt_of_cell? W3 _ c2') d1'⟩
      have hbdr := (Below.refl W3.heap.size W3).drew
      clear r1 r2 s1 s2 t1 t2 c1' c2' d1'
      obtain ⟨⟨z1, z2⟩, z3, z4⟩ := HSS.out W3.drew hbdr
      go_region_with (first
          | (go_at_call 80; refine (redundancyOf_any a1 a2 n1 n1 n2 n2 l m _ HG.out (M1.out.below hbdr) (M2.out.below hbdr)).mono ?_; rintro e w3 ⟨br, bo, bx, rfl, hir, b3⟩; have HIR := Lib.hid hir; have HB4 := Lib.hid (hbdr.trans b3); obtain ⟨⟨x1, x2⟩, x3, x4⟩ := HSS.out w3 HB4.out)
          | (go_at_call 84
             have hg3 := (HB4.out.block g2 (by omega)).trans HBK2.out
             have hs4 := HB4.out.size
             refine (DelG.deleteFunc_any 121 #[.pointer (some ⟨br, 0, none⟩), .pointer (some ⟨bo, 0, none⟩)] (kept m) g2 n2 m HL2.out hz2 w3 hg3 (fun args W => FuncI.call_enter Try.func121 (by kernel_rfl) rfl args W) (fun x y wr hm hk => ?_)).mono ?_
             · have h13 := HB13.out.trans (HB4.out.mono HB13.out.size)
               have hb := h13.trans (hk.below (B := w1.heap.size) (fun b hb => by subst hb; omega) h13.size)
               have h := clos1_any x y br bo bx a2 n2 n2 l m wr HG.out (by omega) (HIR.out.keptG hg3 hk (K2.out.below hb)) (key_rng HG.out (ends_key HG.out hm).2)
               unfold kept
               rw [Bool.not_not]
               exact h
             rintro e w4 ⟨rfl, ⟨ys, hy1, hy2, hy3⟩, hk4⟩
             have v1 := hk4.cell x1 (by show ¬ w.heap.size = g2; omega)
             have v2 := hk4.cell x2 (by show ¬ w.heap.size = g2; omega)
             have v3 := hk4.cell x3 (by show ¬ w2.heap.size = g2; omega)
             have v4 := (World.frozen?_of_block (hk4.block w2.heap.size (by omega) (by show ¬ w2.heap.size = g2; omega))).trans x4)
          | fail)
      all_goals (have hK34 : Hid (Below W3.heap.size W3 w3) := HB4)
      all_goals (have hu4 : w4.heap[w2.heap.size]? = some (.cells #[.slice (some ⟨g1, 0, none⟩) n1 n1, .slice (some ⟨g2, 0, none⟩) n2 n2] 33) := (hk4.block _ (by omega) (by omega)).trans ((HB4.out.block _ (by omega)).trans HU.out))
      all_goals (have hx4 := (setCell_block (a := .slice (some ⟨g2, 0, none⟩) (m.filter (kept m)).length n2) hu4).2)
      all_goals (have c1' : (w4.setCell ⟨w2.heap.size, 1, none⟩ (.slice (some ⟨g2, 0, none⟩) (m.filter (kept m)).length n2)).cell? ⟨w2.heap.size, 0, none⟩ = some (.slice (some ⟨g1, 0, none⟩) n1 n1) := by simp only [World.cell?, hx4]; rfl)
      all_goals (have c2' : (w4.setCell ⟨w2.heap.size, 1, none⟩ (.slice (some ⟨g2, 0, none⟩) (m.filter (kept m)).length n2)).cell? ⟨w2.heap.size, 1, none⟩ = some (.slice (some ⟨g2, 0, none⟩) (m.filter (kept m)).length n2) := by simp only [World.cell?, hx4]; rfl)
      all_goals (have hb34 := HB4.out)
      all_goals (have s1 := hk4.cell ((hb34.cell (World.block_lt_of_cell? W3 _ HC.out.2.2.1)).trans HC.out.2.2.1) (by show ¬ w.heap.size + 1 = g2; omega))
      all_goals (have s2 := hk4.cell ((hb34.cell (World.block_lt_of_cell? W3 _ HC.out.2.2.2.1)).trans HC.out.2.2.2.1) (by show ¬ w.heap.size + 1 = g2; omega))
      all_goals (have t1 := (World.frozen?_of_block (hk4.block (w.heap.size + 1) (by omega) (by show ¬ w.heap.size + 1 = g2; omega))).trans (fz hb34 ⟨w.heap.size + 1, 0, none⟩ (by show w.heap.size + 1 < _; omega) HC.out.2.2.2.2.1))
      all_goals (have t2 := (World.frozen?_of_block (hk4.block (w.heap.size + 1) (by omega) (by show ¬ w.heap.size + 1 = g2; omega))).trans (fz hb34 ⟨w.heap.size + 1, 1, none⟩ (by show w.heap.size + 1 < _; omega) HC.out.2.2.2.2.2))
      all_goals (have z1 : (w4.setCell ⟨w2.heap.size, 1, none⟩ (.slice (some ⟨g2, 0, none⟩) (m.filter (kept m)).length n2)).cell? ⟨w.heap.size + 1, 0, none⟩ = some (.slice none 0 0) := by rw [World.cell?_setCell_other _ _ _ _ (by intro e; injection e with e; omega)]; exact s1)
      all_goals (have z2 : (w4.setCell ⟨w2.heap.size, 1, none⟩ (.slice (some ⟨g2, 0, none⟩) (m.filter (kept m)).length n2)).cell? ⟨w.heap.size + 1, 1, none⟩ = some (.slice none 0 0) := by rw [World.cell?_setCell_other _ _ _ _ (by intro e; injection e with e; omega)]; exact s2)
      all_goals (have y1 : (w4.setCell ⟨w2.heap.size, 1, none⟩ (.slice (some ⟨g2, 0, none⟩) (m.filter (kept m)).length n2)).frozen? ⟨w.heap.size + 1, 0, none⟩ = false := by rw [World.frozen?_setCell]; exact t1)
      all_goals (have y2 : (w4.setCell ⟨w2.heap.size, 1, none⟩ (.slice (some ⟨g2, 0, none⟩) (m.filter (kept m)).length n2)).frozen? ⟨w.heap.size + 1, 1, none⟩ = false := by rw [World.frozen?_setCell]; exact t2)
      all_goals (have HY1 := Lib.hid hy1)
      all_goals (have HY2 := Lib.hid hy2)
      all_goals (have HY3 := Lib.hid hy3)
      all_goals (have HK4 := Lib.hid hk4)
      all_goals (have HG1 : Hid (w4.heap[g1]? = some (.cells (flat l).toArray 69)) := (hk4.block g1 (by omega) hg12).trans ((hb34.block g1 (by omega)).trans HBK1.out))
      all_goals clear hy1 hy2 hy3 hk4 hu4 hx4 s1 s2 t1 t2 v1 v2 v3 v4 x1 x2 x3 x4 hb34 hg3 b3 hir
      all_goals go_wp2_with fail
      all_goals obtain ⟨q1, q2⟩ := set2_cells (u := .slice (some ⟨g1, 0, none⟩) n1 n1) (v := .slice (some ⟨g2, 0, none⟩) (m.filter (kept m)).length n2) z1 z2
      all_goals refine bodyPost_ret (v := .tuple #[.agg #[.slice (some ⟨g1, 0, none⟩) n1 n1, .slice (some ⟨g2, 0, none⟩) (m.filter (kept m)).length n2], .bool true]) (by simp [results, Try.results30, go_sem, q1, q2]) rfl ?_
      all_goals rw [HE.out]
      all_goals (have hfm := List.length_filter_le (kept m) m)
      all_goals rw [HL2.out] at hfm
      all_goals refine ⟨some ⟨g1, 0, none⟩, n1, n1, some ⟨g2, 0, none⟩, (m.filter (kept m)).length, n2, rfl, ⟨?_, ?_, ?_⟩, by omega, by omega, ?_⟩
      all_goals first
        | (show World.ownsRow _ _ _ _ _ _ (flat l)
           refine own_of_take (ys := flat l) ?_ (by rw [flat_len, HL1.out]) HL1.out (Nat.le_refl _) hz1 (List.take_of_length_le (by rw [flat_len, HL1.out]; exact Nat.le_refl _)) (by omega)
           rw [Go.Deep.blk_setCell_other _ _ _ _ (by show g1 ≠ w.heap.size + 1; omega), Go.Deep.blk_setCell_other _ _ _ _ (by show g1 ≠ w.heap.size + 1; omega), Go.Deep.blk_setCell_other _ _ _ _ (by show g1 ≠ w2.heap.size; omega)]
           exact HG1.out)
        | (refine own_of_take ?_ HY2.out rfl hfm hz2 HY3.out (by omega)
           rw [Go.Deep.blk_setCell_other _ _ _ _ (by show g2 ≠ w.heap.size + 1; omega), Go.Deep.blk_setCell_other _ _ _ _ (by show g2 ≠ w.heap.size + 1; omega), Go.Deep.blk_setCell_other _ _ _ _ (by show g2 ≠ w2.heap.size; omega)]
           exact HY1.out)
        | (intro g e1 e2
           have e1' : g1 = g := by simpa [Value.ownBlock] using e1
           have e2' : g2 = g := by simpa [Value.ownBlock] using e2
           exact hg12 (e1'.trans e2'.symm))
        | (have hB4 : Below w.heap.size w w4 := (HB3.out.trans (HB4.out.mono HB3.out.size)).trans (HK4.out.below (fun b hb => by subst hb; omega) (by have := HB3.out.size; have := HB4.out.size; omega))
           exact ((hB4.setCell (p := ⟨w2.heap.size, 1, none⟩) (by show _ ≤ w2.heap.size; omega) _).setCell (p := ⟨w.heap.size + 1, 0, none⟩) (Nat.le_succ _) _).setCell (p := ⟨w.heap.size + 1, 1, none⟩) (Nat.le_succ _) _)
end Go.Proofs.Ytlgfaabobpnflaa.RedcI
