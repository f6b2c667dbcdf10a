/- The program's EquateContexts: a record in which one context stands for two. -/
import Derived.Test.YthcjembekadijaaRenumberSaidPartab
import Derived.Test.YthcjembekadijaaOrderSaidPartaw
import Derived.Test.YthcjembekadijaaRenumberSaidPartac
import Derived.Test.YthcjembekadijaaRenumberSaidPartad
import Derived.Deep.RegionHeld3
import Derived.BigQuiet
import Derived.Lib.QuietBelow
import Derived.Test.YthcjembekadijaaOrderSaidPartau
import Derived.Deep.RegionLaw
import Derived.Test.YthcjembekadijaaRenumberSaidPartae
import Derived.Test.YthcjembekadijaaOrderSaidPartao
namespace Go.Proofs.Ythcjembekadijaa.EquI
open Go.RowKit Pairs Rec RecEq Find2 GoodM RelM Keep Row2 Copy Two Gives Idx SwapM EquM
open RemC (block_of_own own_of_take isAt_split)
set_option maxRecDepth 100000 in
set_option maxHeartbeats 8000000 in
theorem impl_any (keep drop : Int) : Gives2 39 (.int .i64 keep) (.int .i64 drop) (eqM keep drop) := by
  intro a1 a2 n1 c1 n2 c2 l m w hz1 hz2 h1 h2
  obtain ⟨fy1, fy2⟩ := fz_box2 w (.slice a1 n1 c1) (.slice a2 n2 c2) (.slice none 0 0) (.slice none 0 0) 27 27
  obtain ⟨hs, x1, x2, y1, y2, hb0⟩ := boxes2 w (.slice a1 n1 c1) (.slice a2 n2 c2) (.slice none 0 0) (.slice none 0 0) 27 27
  have HS := Lib.hid hs
  have H1 := Lib.hid (h1.below hb0)
  have H2 := Lib.hid (h2.below hb0)
  clear h1 h2 hs
  go_enter Try.func39, Try.ntmps39
  go_wp2_with fail
  generalize ((w.alloc (.cells #[.slice a1 n1 c1, .slice a2 n2 c2] 27)).alloc (.cells #[.slice none 0 0, .slice none 0 0] 27)) = W at *
  have lw : w.heap.size < W.heap.size := by rw [HS.out]; omega
  have lw1 : w.heap.size + 1 < W.heap.size := by rw [HS.out]; omega
  refine (impl_Index a1 a2 n1 c1 n2 c2 l m keep W hz1 hz2 H1.out H2.out).mono ?_
  rintro e w1 ⟨rfl, b1⟩
  have r1 := (b1.cell (p := ⟨w.heap.size, 0, none⟩) lw).trans x1
  have r2 := (b1.cell (p := ⟨w.heap.size, 1, none⟩) lw).trans x2
  have HK := Lib.hid (rfl : idx l m keep = idx l m keep)
  generalize hik : idx l m keep = ik at *
  have HIK := Lib.hid hik
  clear hik HK
  go_wp2_with fail
  refine (impl_Index a1 a2 n1 c1 n2 c2 l m drop w1 hz1 hz2 (H1.out.below b1) (H2.out.below b1)).mono ?_
  rintro e w2 ⟨rfl, b2'⟩
  have b2 := b1.trans (b2'.mono b1.size)
  clear r1 r2 b2'
  have r1 := (b2.cell (p := ⟨w.heap.size, 0, none⟩) lw).trans x1
  have r2 := (b2.cell (p := ⟨w.heap.size, 1, none⟩) lw).trans x2
  have s1 := (b2.cell (p := ⟨w.heap.size + 1, 0, none⟩) lw1).trans y1
  have s2 := (b2.cell (p := ⟨w.heap.size + 1, 1, none⟩) lw1).trans y2
  have t1 := fz b2 ⟨w.heap.size + 1, 0, none⟩ lw1 fy1
  have t2 := fz b2 ⟨w.heap.size + 1, 1, none⟩ lw1 fy2
  have HB2 := Lib.hid (hb0.trans (b2.mono hb0.size))
  by_cases hgk : good l m = true ∧ (isAt l keep).isSome = true
  · obtain ⟨i, hi⟩ := Option.isSome_iff_exists.1 hgk.2
    have hi1 : idx l m keep = ((i : Int), true) := by unfold idx; rw [if_pos hgk, find_some hi]
    have hii := HIK.out
    rw [hi1] at hii
    subst hii
    have HG := Lib.hid hgk.1
    by_cases hgd : good l m = true ∧ (isAt l drop).isSome = true
    · obtain ⟨j, hj⟩ := Option.isSome_iff_exists.1 hgd.2
      have hj1 : idx l m drop = ((j : Int), true) := by unfold idx; rw [if_pos hgd, find_some hj]
      rw [hj1]
      have HI := Lib.hid hi
      have HJ := Lib.hid hj
      have hln : l.length ≤ 10 := (good_asc HG.out).2
      have hil : i < n1 := by rw [← H1.out.1]; exact isAt_lt hi
      have hjl : j < n1 := by rw [← H1.out.1]; exact isAt_lt hj
      have hn1 : n1 ≤ 10 := by rw [← H1.out.1]; exact hln
      clear hi1 hj1 hgk hgd hi hj hln
      by_cases hij : i = j
      · subst hij
        have HE := Lib.hid (eqM_no (keep := keep) (drop := drop) (m := m) HI.out HJ.out (fun h => h.1 rfl))
        go_wp2_with fail
        go_quiet (fail)
        go_wp2_with fail
        obtain ⟨q1, q2⟩ := set2_cells (w := w2.drewN nq) (g := w.heap.size + 1) (u := .slice none 0 0) (v := .slice none 0 0) s1 s2
        refine bodyPost_ret (v := .tuple #[.agg #[.slice none 0 0, .slice none 0 0], .bool false]) (by simp [results, Try.results39, go_sem, q1, q2]) rfl ?_
        rw [HE.out]
        exact ⟨none, 0, 0, none, 0, 0, rfl, Got.nil _ _, by omega, by omega, (((HB2.out.trans (Joins.below_draws _ _ _)).setCell (p := ⟨w.heap.size + 1, 0, none⟩) (Nat.le_succ _) _).setCell (p := ⟨w.heap.size + 1, 1, none⟩) (Nat.le_succ _) _)⟩
      · obtain ⟨b, off, x, u, ha, hx, e1, e2⟩ := (H1.out.below b2).at i hil
        obtain ⟨b', off', y, v, ha', hy, d1, d2⟩ := (H1.out.below b2).at j hjl
        obtain ⟨rfl, rfl⟩ : b' = b ∧ off' = off := by
          rw [ha] at ha'
          injection ha' with ha'
          injection ha' with h1 h2 h3
          exact ⟨h1.symm, h2.symm⟩
        have HKI := Lib.hid (kindAt_is hx)
        have HKJ := Lib.hid (kindAt_is hy)
        rw [ha] at r1
        have hijz : ((i : Int) == (j : Int)) = false := beq_false_of_ne (by omega)
        have hijz2 : ¬ (i : Int) = (j : Int) := by omega
        have hi0 : (0 : Int) ≤ (i : Int) := by omega
        have hj0 : (0 : Int) ≤ (j : Int) := by omega
        have hii : (i : Int) < (n1 : Int) := by omega
        have hjj : (j : Int) < (n1 : Int) := by omega
        clear hx hy ha ha'
        by_cases huv : u = v
        · subst huv
          have HE := Lib.hid (eqM_some HG.out HI.out HJ.out hij (HKI.out.trans HKJ.out.symm))
          go_wp2_with fail
          go_quiet (fail)
          clear e1 e2 d1 d2 r1 hijz hijz2 hi0 hj0 hii hjj
          have b3 := b2.trans ((Joins.below_draws w2.heap.size w2 nq).mono b2.size)
          generalize w2.drewN nq = w3 at *
          clear s1 s2 t1 t2 r2 b1 b2
          have r1 := (b3.cell (p := ⟨w.heap.size, 0, none⟩) lw).trans x1
          have r2 := (b3.cell (p := ⟨w.heap.size, 1, none⟩) lw).trans x2
          obtain ⟨p, hl, hkl, hfil⟩ := isAt_split HG.out HJ.out
          obtain ⟨r, hr⟩ : ∃ r, n1 = j + 1 + r := ⟨n1 - (j + 1), by omega⟩
          have HL1 : Hid ((l.take j).length = j) := by unfold Hid; rw [List.length_take]; omega
          have HL2 : Hid ((l.drop (j + 1)).length = r) := by unfold Hid; rw [List.length_drop, H1.out.1]; omega
          have HSP := Lib.hid hl
          clear hl hkl hfil
          subst hr
          go_wp2_with fail
          refine (copyRecord_any a1 a2 (j + 1 + r) c1 n2 c2 l m hz1 hz2 w3 (H1.out.below b3) (H2.out.below b3)).mono ?_
          rintro e w4 ⟨g1, g2, rfl, o4, b4⟩
          have hg1 : w3.heap.size ≤ g1 ∧ g1 < w4.heap.size := o4.ctx.lt g1 rfl
          have hg2 : w3.heap.size ≤ g2 ∧ g2 < w4.heap.size := o4.rel.lt g2 rfl
          have hg12 := o4.ne
          have hs1 := b3.size
          have hs2 := b4.size
          have b34 := b3.trans (b4.mono b3.size)
          have hba := below_alloc w4 (.cells #[.slice (some ⟨g1, 0, none⟩) (j + 1 + r) (j + 1 + r), .slice (some ⟨g2, 0, none⟩) n2 n2] 27)
          have bZ := b34.trans (hba.mono b34.size)
          have hbk1 := (hba.block g1 hg1.2).trans (block_of_own o4.ctx)
          have hbk2 := (hba.block g2 hg2.2).trans (block_of_own o4.rel)
          have hub := heap_alloc_new w4 (.cells #[.slice (some ⟨g1, 0, none⟩) (j + 1 + r) (j + 1 + r), .slice (some ⟨g2, 0, none⟩) n2 n2] 27)
          have u1 := box_first w4 (.slice (some ⟨g1, 0, none⟩) (j + 1 + r) (j + 1 + r)) (.slice (some ⟨g2, 0, none⟩) n2 n2) 27
          have u2' := box_second w4 (.slice (some ⟨g1, 0, none⟩) (j + 1 + r) (j + 1 + r)) (.slice (some ⟨g2, 0, none⟩) n2 n2) 27
          have e4 : (w4.alloc (.cells #[.slice (some ⟨g1, 0, none⟩) (j + 1 + r) (j + 1 + r), .slice (some ⟨g2, 0, none⟩) n2 n2] 27)).heap.size = w4.heap.size + 1 := by simp
          have s1 := (bZ.cell (p := ⟨w.heap.size + 1, 0, none⟩) lw1).trans y1
          have s2 := (bZ.cell (p := ⟨w.heap.size + 1, 1, none⟩) lw1).trans y2
          have t1 := fz bZ ⟨w.heap.size + 1, 0, none⟩ lw1 fy1
          have t2 := fz bZ ⟨w.heap.size + 1, 1, none⟩ lw1 fy2
          have HBK1 := Lib.hid hbk1
          have HBK2 := Lib.hid hbk2
          have HUB := Lib.hid hub
          have HE4 := Lib.hid e4
          have HBZ := Lib.hid (hb0.trans (bZ.mono hb0.size))
          clear o4 b4 b34 hba bZ hbk1 hbk2 hub e4 r1 r2 b3 HB2 x1 x2 y1 y2 fy1 fy2
          go_wp2_with fail
          generalize w4.alloc (.cells #[.slice (some ⟨g1, 0, none⟩) (j + 1 + r) (j + 1 + r), .slice (some ⟨g2, 0, none⟩) n2 n2] 27) = W4 at *
          refine (DelC.delete_any g1 j r (l.take j) (l.drop (j + 1)) p HL1.out HL2.out hz1 W4 (by rw [← HSP.out]; exact HBK1.out)).mono ?_
          rintro e w5 ⟨rfl, hd1, hk5⟩
          have e5 := HE4.out
          have hu5 : w5.heap[w4.heap.size]? = some (.cells #[.slice (some ⟨g1, 0, none⟩) (j + 1 + r) (j + 1 + r), .slice (some ⟨g2, 0, none⟩) n2 n2] 27) := (hk5.block _ (by omega) (by omega)).trans HUB.out
          have hx5 := (setCell_block (a := (.slice (some ⟨g1, 0, none⟩) (j + r) (j + 1 + r))) hu5).1
          have hk5' : Kept (fun b => b = g1 ∨ b = w4.heap.size) W4 (w5.setCell ⟨w4.heap.size, 0, none⟩ (.slice (some ⟨g1, 0, none⟩) (j + r) (j + 1 + r))) := (hk5.mono (fun _ => .inl)).setCell (g := w4.heap.size) (.inr rfl) _
          have c1' : w5.cell? ⟨w4.heap.size, 0, none⟩ = some (.slice (some ⟨g1, 0, none⟩) (j + 1 + r) (j + 1 + r)) := by simp only [World.cell?, hu5]; rfl
          have c2' : w5.cell? ⟨w4.heap.size, 1, none⟩ = some (.slice (some ⟨g2, 0, none⟩) n2 n2) := by simp only [World.cell?, hu5]; rfl
          have d1' : w5.frozen? ⟨w4.heap.size, 0, none⟩ = false := by simp only [World.frozen?, hu5]; rfl
          have HD5 : Hid ((w5.setCell ⟨w4.heap.size, 0, none⟩ (.slice (some ⟨g1, 0, none⟩) (j + r) (j + 1 + r))).heap[g1]? = some (.cells (flat (l.take j ++ l.drop (j + 1)) ++ [Value.int .i64 0, Value.int .i64 0]).toArray 55)) := by
            unfold Hid
            rw [Go.Deep.blk_setCell_other _ _ _ _ (by show g1 ≠ w4.heap.size; omega)]
            exact hd1
          have HG5 : Hid ((w5.setCell ⟨w4.heap.size, 0, none⟩ (.slice (some ⟨g1, 0, none⟩) (j + r) (j + 1 + r))).heap[g2]? = some (.cells (flat m).toArray 39)) := (hk5'.block g2 (by omega) (by omega)).trans HBK2.out
          have s15 := hk5'.cell s1 (by show ¬ (w.heap.size + 1 = g1 ∨ w.heap.size + 1 = w4.heap.size); omega)
          have s25 := hk5'.cell s2 (by show ¬ (w.heap.size + 1 = g1 ∨ w.heap.size + 1 = w4.heap.size); omega)
          have t15 : (w5.setCell ⟨w4.heap.size, 0, none⟩ (.slice (some ⟨g1, 0, none⟩) (j + r) (j + 1 + r))).frozen? ⟨w.heap.size + 1, 0, none⟩ = false := (World.frozen?_of_block (hk5'.block (w.heap.size + 1) (by omega) (by omega))).trans t1
          have t25 : (w5.setCell ⟨w4.heap.size, 0, none⟩ (.slice (some ⟨g1, 0, none⟩) (j + r) (j + 1 + r))).frozen? ⟨w.heap.size + 1, 1, none⟩ = false := (World.frozen?_of_block (hk5'.block (w.heap.size + 1) (by omega) (by omega))).trans t2
          have HX5 := Lib.hid hx5
          have HK5 := Lib.hid hk5'
          clear hu5 hx5 hk5 hk5' hd1 s1 s2 t1 t2 u1 u2'
          go_wp2_with fail
          generalize w5.setCell ⟨w4.heap.size, 0, none⟩ (.slice (some ⟨g1, 0, none⟩) (j + r) (j + 1 + r)) = X5 at *
          clear c1' c2' d1'
          refine (Renum.renum_any drop keep g2 n2 m H2.out.1 hz2 X5 HG5.out).mono ?_
          rintro e w6 ⟨rfl, jj, m', hR⟩
          have hk6 := hR.kept
          have hsz5 := HK5.out.size
          have HRW := Lib.hid hR
          have hlen : (swapM drop keep m).length ≤ n2 := by have h := swap_len drop keep m m.length; rw [List.take_length, H2.out.1] at h; exact h
          have hu6 : w6.heap[w4.heap.size]? = some (.cells #[(.slice (some ⟨g1, 0, none⟩) (j + r) (j + 1 + r)), .slice (some ⟨g2, 0, none⟩) n2 n2] 27) := (hk6.block _ (by omega) (by omega)).trans HX5.out
          have c1' : w6.cell? ⟨w4.heap.size, 0, none⟩ = some (.slice (some ⟨g1, 0, none⟩) (j + r) (j + 1 + r)) := by simp only [World.cell?, hu6]; rfl
          have c2' : w6.cell? ⟨w4.heap.size, 1, none⟩ = some (.slice (some ⟨g2, 0, none⟩) n2 n2) := by simp only [World.cell?, hu6]; rfl
          have d1' : w6.frozen? ⟨w4.heap.size, 1, none⟩ = false := by simp only [World.frozen?, hu6]; rfl
          have s16 := hk6.cell s15 (by show ¬ (w.heap.size + 1 = g2); omega)
          have s26 := hk6.cell s25 (by show ¬ (w.heap.size + 1 = g2); omega)
          have t16 : w6.frozen? ⟨w.heap.size + 1, 0, none⟩ = false := (World.frozen?_of_block (hk6.block (w.heap.size + 1) (by omega) (by omega))).trans t15
          have t26 : w6.frozen? ⟨w.heap.size + 1, 1, none⟩ = false := (World.frozen?_of_block (hk6.block (w.heap.size + 1) (by omega) (by omega))).trans t25
          have HD6 : Hid (w6.heap[g1]? = some (.cells (flat (l.take j ++ l.drop (j + 1)) ++ [Value.int .i64 0, Value.int .i64 0]).toArray 55)) := (hk6.block g1 (by omega) hg12).trans HD5.out
          have HK6 : Hid (Kept (fun b => b = g1 ∨ b = w4.heap.size ∨ b = g2) W4 w6) := (HK5.out.mono (fun _ h => h.elim .inl (fun h => .inr (.inl h)))).trans (hk6.mono (fun _ h => .inr (.inr h)))
          have HLEN := Lib.hid hlen
          obtain ⟨f, hf⟩ : ∃ f, (swapM drop keep m).length = f := ⟨_, rfl⟩
          have HF := Lib.hid hf
          rw [hf]
          clear hR hu6 hk6 s15 s25 t15 t25 hlen hf
          go_wp2_with fail
          have z1 : (w6.setCell ⟨w4.heap.size, 1, none⟩ (.slice (some ⟨g2, 0, none⟩) f n2)).cell? ⟨w.heap.size + 1, 0, none⟩ = some (.slice none 0 0) := by
            rw [World.cell?_setCell_other _ _ _ _ (by intro e; injection e with e; omega)]
            exact s16
          have z2 : (w6.setCell ⟨w4.heap.size, 1, none⟩ (.slice (some ⟨g2, 0, none⟩) f n2)).cell? ⟨w.heap.size + 1, 1, none⟩ = some (.slice none 0 0) := by
            rw [World.cell?_setCell_other _ _ _ _ (by intro e; injection e with e; omega)]
            exact s26
          obtain ⟨q1, q2⟩ := set2_cells (u := (.slice (some ⟨g1, 0, none⟩) (j + r) (j + 1 + r))) (v := .slice (some ⟨g2, 0, none⟩) f n2) z1 z2
          refine bodyPost_ret (v := .tuple #[.agg #[(.slice (some ⟨g1, 0, none⟩) (j + r) (j + 1 + r)), .slice (some ⟨g2, 0, none⟩) f n2], .bool true]) (by simp [results, Try.results39, go_sem, q1, q2]) rfl ?_
          rw [HE.out]
          have hf1 : (flat (l.take j ++ l.drop (j + 1))).length = (j + r) * 2 := by rw [flat_len, List.length_append, HL1.out, HL2.out]
          have hfn : f ≤ n2 := by rw [← HF.out]; exact HLEN.out
          have o1 : w6.ownsRow w.heap.size 55 2 (.slice (some ⟨g1, 0, none⟩) (j + r) (j + 1 + r)) (j + r) (flat (l.take j ++ l.drop (j + 1))) :=
            own_of_take (ys := flat (l.take j ++ l.drop (j + 1)) ++ [Value.int .i64 0, Value.int .i64 0]) HD6.out (by rw [List.length_append, hf1]; simp; omega) (by rw [List.length_append, HL1.out, HL2.out]) (by omega) hz1 (by rw [← hf1]; exact List.take_left) (by omega)
          have o2 : w6.ownsRow w.heap.size 39 2 (.slice (some ⟨g2, 0, none⟩) f n2) f (flat (swapM drop keep m)) := HRW.out.owns HF.out hz2 (by omega)
          have f1 : (Value.slice (some ⟨g1, 0, none⟩) (j + r) (j + 1 + r)).ownBlock ≠ some (w.heap.size + 1) := AddC.own_off (by omega)
          have f2 : (Value.slice (some ⟨g2, 0, none⟩) f n2).ownBlock ≠ some (w.heap.size + 1) := AddC.own_off (by omega)
          have f3 : (Value.slice (some ⟨g1, 0, none⟩) (j + r) (j + 1 + r)).ownBlock ≠ some w4.heap.size := AddC.own_off (by omega)
          have f4 : (Value.slice (some ⟨g2, 0, none⟩) f n2).ownBlock ≠ some w4.heap.size := AddC.own_off (by omega)
          have hB6 : Below w.heap.size w w6 := HBZ.out.trans (HK6.out.below (fun b hb => by rcases hb with rfl | rfl | rfl <;> omega) HBZ.out.size)
          refine ⟨some ⟨g1, 0, none⟩, j + r, j + 1 + r, some ⟨g2, 0, none⟩, f, n2, rfl, ⟨setCell_far (setCell_far (setCell_far o1 f3) f1) f1, setCell_far (setCell_far (setCell_far o2 f4) f2) f2, ?_⟩, by omega, by omega, ?_⟩
          · intro g e1 e2
            have e1' : g1 = g := by simpa [Value.ownBlock] using e1
            have e2' : g2 = g := by simpa [Value.ownBlock] using e2
            exact hg12 (e1'.trans e2'.symm)
          · exact ((hB6.setCell (p := ⟨w4.heap.size, 1, none⟩) (by show _ ≤ w4.heap.size; omega) _).setCell (p := ⟨w.heap.size + 1, 0, none⟩) (Nat.le_succ _) _).setCell (p := ⟨w.heap.size + 1, 1, none⟩) (Nat.le_succ _) _
        · have HE := Lib.hid (eqM_no (keep := keep) (drop := drop) (m := m) HI.out HJ.out (fun h => huv (by have := h.2; rw [HKI.out, HKJ.out] at this; injection this)))
          have huz : (u == v) = false := beq_false_of_ne huv
          have huz2 : (u != v) = true := by rw [bne, huz]; rfl
          go_wp2_with fail
          go_quiet (fail)
          clear e1 e2 d1 d2
          go_wp2_with fail
          obtain ⟨q1, q2⟩ := set2_cells (w := w2.drewN nq) (g := w.heap.size + 1) (u := .slice none 0 0) (v := .slice none 0 0) s1 s2
          refine bodyPost_ret (v := .tuple #[.agg #[.slice none 0 0, .slice none 0 0], .bool false]) (by simp [results, Try.results39, go_sem, q1, q2]) rfl ?_
          rw [HE.out]
          exact ⟨none, 0, 0, none, 0, 0, rfl, Got.nil _ _, by omega, by omega, (((HB2.out.trans (Joins.below_draws _ _ _)).setCell (p := ⟨w.heap.size + 1, 0, none⟩) (Nat.le_succ _) _).setCell (p := ⟨w.heap.size + 1, 1, none⟩) (Nat.le_succ _) _)⟩
    · have hj1 : idx l m drop = (0, false) := by unfold idx; rw [if_neg hgd]
      have hjn : isAt l drop = none := by
        cases h : isAt l drop with
        | none => rfl
        | some k => exact absurd ⟨HG.out, by rw [h]; rfl⟩ hgd
      have HE := Lib.hid (eqM_noD (keep := keep) (m := m) hjn)
      rw [hj1]
      clear hi1 hj1 hgk hgd hi hjn
      go_wp2_with fail
      go_quiet (fail)
      go_wp2_with fail
      obtain ⟨q1, q2⟩ := set2_cells (w := w2.drewN nq) (g := w.heap.size + 1) (u := .slice none 0 0) (v := .slice none 0 0) s1 s2
      refine bodyPost_ret (v := .tuple #[.agg #[.slice none 0 0, .slice none 0 0], .bool false]) (by simp [results, Try.results39, go_sem, q1, q2]) rfl ?_
      rw [HE.out]
      exact ⟨none, 0, 0, none, 0, 0, rfl, Got.nil _ _, by omega, by omega, (((HB2.out.trans (Joins.below_draws _ _ _)).setCell (p := ⟨w.heap.size + 1, 0, none⟩) (Nat.le_succ _) _).setCell (p := ⟨w.heap.size + 1, 1, none⟩) (Nat.le_succ _) _)⟩
  · have hi1 : idx l m keep = (0, false) := by unfold idx; rw [if_neg hgk]
    have hii := HIK.out
    rw [hi1] at hii
    subst hii
    have HE : Hid (eqM keep drop l m = none) := by
      cases hg : good l m with
      | false => exact eqM_bad hg
      | true =>
        refine eqM_noK ?_
        cases h : isAt l keep with
        | none => rfl
        | some k => exact absurd ⟨hg, by rw [h]; rfl⟩ hgk
    generalize idx l m drop = jd
    clear hi1 hgk
    go_wp2_with fail
    go_quiet (fail)
    go_wp2_with fail
    obtain ⟨q1, q2⟩ := set2_cells (w := w2.drewN nq) (g := w.heap.size + 1) (u := .slice none 0 0) (v := .slice none 0 0) s1 s2
    refine bodyPost_ret (v := .tuple #[.agg #[.slice none 0 0, .slice none 0 0], .bool false]) (by simp [results, Try.results39, go_sem, q1, q2]) rfl ?_
    rw [HE.out]
    exact ⟨none, 0, 0, none, 0, 0, rfl, Got.nil _ _, by omega, by omega, (((HB2.out.trans (Joins.below_draws _ _ _)).setCell (p := ⟨w.heap.size + 1, 0, none⟩) (Nat.le_succ _) _).setCell (p := ⟨w.heap.size + 1, 1, none⟩) (Nat.le_succ _) _)⟩
end Go.Proofs.Ythcjembekadijaa.EquI
/- At rows with room to spare: The model's EquateContexts: a record in which one context stands for two. -/
namespace Go.Proofs.Ythcjembekadijaa.EquC
open Go.RowKit Pairs Rec RecEq Find2 GoodM RelM Keep Row2 Copy AppH Two Gives PSrc SwapM EquM LawKit
open OwnS (one_a one_b empty_at own_off)
theorem belA {W X : World} (h : Below W.heap.size W X) (o : Obj) : Below W.heap.size W (X.alloc o) := h.alloc h.size o
set_option maxRecDepth 100000 in
set_option maxHeartbeats 8000000 in
theorem spec_cap (keep drop : Int) (a1 a2 : Option Addr) (n1 c1 n2 c2 : Nat) (l m : List (Int × Int)) (w : World) (hc1 : n1 ≤ c1) (hc2 : n2 ≤ c2) (hz1 : n1 ≤ 1048576) (hz2 : n2 ≤ 1048576) (h1 : Holds w a1 n1 l) (h2 : Holds w a2 n2 m) :
    Calls Try.prog 40 #[.agg #[.slice a1 n1 c1, .slice a2 n2 c2], .int .i64 keep, .int .i64 drop] w (Res (eqM keep drop l m).isSome ((eqM keep drop l m).getD ([], [])).1 ((eqM keep drop l m).getD ([], [])).2 w) := by
  have HC1 := Lib.hid hc1
  have HC2 := Lib.hid hc2
  obtain ⟨i1, hi1, hy0, hy1, hy2⟩ := info_parts infoContext
  obtain ⟨fy1, fy2⟩ := fz_box2 w (.slice a1 n1 c1) (.slice a2 n2 c2) (.slice none 0 0) (.slice none 0 0) 27 27
  obtain ⟨hs, x1, x2, y1, y2, hb0⟩ := boxes2 w (.slice a1 n1 c1) (.slice a2 n2 c2) (.slice none 0 0) (.slice none 0 0) 27 27
  have HS := Lib.hid hs
  have H1 := Lib.hid (h1.below hb0)
  have H2 := Lib.hid (h2.below hb0)
  clear h1 h2 hs
  go_enter Try.func40, Try.ntmps40
  go_wp2_with fail
  generalize ((w.alloc (.cells #[.slice a1 n1 c1, .slice a2 n2 c2] 27)).alloc (.cells #[.slice none 0 0, .slice none 0 0] 27)) = W at *
  have lw : w.heap.size < W.heap.size := by rw [HS.out]; omega
  have lw1 : w.heap.size + 1 < W.heap.size := by rw [HS.out]; omega
  have cK : ∀ d os, Calls Try.prog 71 #[.agg #[.slice a1 n1 c1, .slice a2 n2 c2], .int .i64 keep] (Sort.grow (redrawn W d) os) fun e w'' => e = .returned (.int .i64 (find l keep)) ∧ ∃ p : Regrown, w'' = Sort.grow (redrawn W p.d) p.os := fun d os => Calls.regrown_of (l2Find_any a1 a2 n1 c1 n2 c2 l keep _ (by omega) (H1.out.below (below_regrown W d os)))
  have cD : ∀ d os, Calls Try.prog 71 #[.agg #[.slice a1 n1 c1, .slice a2 n2 c2], .int .i64 drop] (Sort.grow (redrawn W d) os) fun e w'' => e = .returned (.int .i64 (find l drop)) ∧ ∃ p : Regrown, w'' = Sort.grow (redrawn W p.d) p.os := fun d os => Calls.regrown_of (l2Find_any a1 a2 n1 c1 n2 c2 l drop _ (by omega) (H1.out.below (below_regrown W d os)))
  have k1 := cell_regrown x1
  have k2 := cell_regrown x2
  refine wp_region_quiet_below (by kernel_rfl) (by kernel_rfl) ?_
  repeat (go_big_quiet_step (first | (go_at_call 71; first | with_reducible exact cK _ _ | with_reducible exact cD _ _)))
  refine wpQuiet_nil ?_
  intro _ hw'
  obtain ⟨⟨dq, osq⟩, hw''⟩ := hw'
  subst hw''
  clear cK cD k1 k2
  have bq := below_regrown W dq osq
  generalize Sort.grow (redrawn W dq) osq = wq at *
  have r1 := (bq.cell (p := ⟨w.heap.size, 0, none⟩) lw).trans x1
  have r2 := (bq.cell (p := ⟨w.heap.size, 1, none⟩) lw).trans x2
  have cG : ∀ d os, Calls Try.prog 63 #[.agg #[.slice a1 n1 c1, .slice a2 n2 c2]] (Sort.grow (redrawn wq d) os) fun e w'' => e = .returned (.bool (good l m)) ∧ ∃ p : Regrown, w'' = Sort.grow (redrawn wq p.d) p.os := fun d os => Calls.regrown_of (Good2.l2Good_any a1 a2 n1 c1 n2 c2 l m _ ((H1.out.below bq).below (below_regrown wq d os)) ((H2.out.below bq).below (below_regrown wq d os)))
  have HBQ := Lib.hid bq
  have k1 := cell_regrown r1
  have k2 := cell_regrown r2
  clear bq r1 r2
  cases hg : good l m with
  | false =>
    have HE := Lib.hid (eqM_bad (keep := keep) (drop := drop) hg)
    rw [hg] at cG
    clear hg
    generalize find l keep = fk
    generalize find l drop = fd
    go_wp2_with fail
    refine wp_region_quiet_below (by kernel_rfl) (by kernel_rfl) ?_
    repeat (go_big_quiet_step (first | (go_at_call 63; with_reducible exact cG _ _)))
    refine wpQuiet_nil ?_
    intro _ hw'
    obtain ⟨⟨dq, osq⟩, hw''⟩ := hw'
    subst hw''
    have b2 := HBQ.out.trans ((below_regrown wq dq osq).mono HBQ.out.size)
    clear cG k1 k2
    generalize Sort.grow (redrawn wq dq) osq = w2 at *
    have s1 := (b2.cell (p := ⟨w.heap.size + 1, 0, none⟩) lw1).trans y1
    have s2 := (b2.cell (p := ⟨w.heap.size + 1, 1, none⟩) lw1).trans y2
    have t1 := fz b2 ⟨w.heap.size + 1, 0, none⟩ lw1 fy1
    have t2 := fz b2 ⟨w.heap.size + 1, 1, none⟩ lw1 fy2
    have HB2 := Lib.hid (hb0.trans (b2.mono hb0.size))
    go_wp2_with fail
    obtain ⟨q1, q2⟩ := set2_cells (u := .slice none 0 0) (v := .slice none 0 0) s1 s2
    refine bodyPost_ret (v := .tuple #[.agg #[.slice none 0 0, .slice none 0 0], .bool false]) (by simp [results, Try.results40, go_sem, q1, q2]) rfl ?_
    rw [HE.out]
    exact ⟨none, 0, 0, none, 0, 0, rfl, Got.nil _ _, by omega, by omega, ((HB2.out.setCell (p := ⟨w.heap.size + 1, 0, none⟩) (Nat.le_succ _) _).setCell (p := ⟨w.heap.size + 1, 1, none⟩) (Nat.le_succ _) _)⟩
  | true =>
    have HG := Lib.hid hg
    rw [hg] at cG
    clear hg
    cases hi : isAt l keep with
    | none =>
      have HE := Lib.hid (eqM_noK (drop := drop) (m := m) hi)
      rw [find_none hi]
      clear hi
      generalize find l drop = fd
      go_wp2_with fail
      refine wp_region_quiet_below (by kernel_rfl) (by kernel_rfl) ?_
      repeat (go_big_quiet_step (first | (go_at_call 63; with_reducible exact cG _ _)))
      refine wpQuiet_nil ?_
      intro _ hw'
      obtain ⟨⟨dq, osq⟩, hw''⟩ := hw'
      subst hw''
      have b2 := HBQ.out.trans ((below_regrown wq dq osq).mono HBQ.out.size)
      clear cG k1 k2
      generalize Sort.grow (redrawn wq dq) osq = w2 at *
      have s1 := (b2.cell (p := ⟨w.heap.size + 1, 0, none⟩) lw1).trans y1
      have s2 := (b2.cell (p := ⟨w.heap.size + 1, 1, none⟩) lw1).trans y2
      have t1 := fz b2 ⟨w.heap.size + 1, 0, none⟩ lw1 fy1
      have t2 := fz b2 ⟨w.heap.size + 1, 1, none⟩ lw1 fy2
      have HB2 := Lib.hid (hb0.trans (b2.mono hb0.size))
      go_wp2_with fail
      obtain ⟨q1, q2⟩ := set2_cells (u := .slice none 0 0) (v := .slice none 0 0) s1 s2
      refine bodyPost_ret (v := .tuple #[.agg #[.slice none 0 0, .slice none 0 0], .bool false]) (by simp [results, Try.results40, go_sem, q1, q2]) rfl ?_
      rw [HE.out]
      exact ⟨none, 0, 0, none, 0, 0, rfl, Got.nil _ _, by omega, by omega, ((HB2.out.setCell (p := ⟨w.heap.size + 1, 0, none⟩) (Nat.le_succ _) _).setCell (p := ⟨w.heap.size + 1, 1, none⟩) (Nat.le_succ _) _)⟩
    | some i =>
      rw [find_some hi]
      have hi0 : decide ((i : Int) < 0) = false := decide_eq_false (by omega)
      have hi9 : (0 : Int) ≤ (i : Int) := by omega
      cases hj : isAt l drop with
      | none =>
        have HE := Lib.hid (eqM_noD (keep := keep) (m := m) hj)
        rw [find_none hj]
        clear hi hj
        go_wp2_with fail
        refine wp_region_quiet_below (by kernel_rfl) (by kernel_rfl) ?_
        repeat (go_big_quiet_step (first | (go_at_call 63; with_reducible exact cG _ _)))
        refine wpQuiet_nil ?_
        intro _ hw'
        obtain ⟨⟨dq, osq⟩, hw''⟩ := hw'
        subst hw''
        have b2 := HBQ.out.trans ((below_regrown wq dq osq).mono HBQ.out.size)
        clear cG k1 k2 hi0 hi9
        generalize Sort.grow (redrawn wq dq) osq = w2 at *
        have s1 := (b2.cell (p := ⟨w.heap.size + 1, 0, none⟩) lw1).trans y1
        have s2 := (b2.cell (p := ⟨w.heap.size + 1, 1, none⟩) lw1).trans y2
        have t1 := fz b2 ⟨w.heap.size + 1, 0, none⟩ lw1 fy1
        have t2 := fz b2 ⟨w.heap.size + 1, 1, none⟩ lw1 fy2
        have HB2 := Lib.hid (hb0.trans (b2.mono hb0.size))
        go_wp2_with fail
        obtain ⟨q1, q2⟩ := set2_cells (u := .slice none 0 0) (v := .slice none 0 0) s1 s2
        refine bodyPost_ret (v := .tuple #[.agg #[.slice none 0 0, .slice none 0 0], .bool false]) (by simp [results, Try.results40, go_sem, q1, q2]) rfl ?_
        rw [HE.out]
        exact ⟨none, 0, 0, none, 0, 0, rfl, Got.nil _ _, by omega, by omega, ((HB2.out.setCell (p := ⟨w.heap.size + 1, 0, none⟩) (Nat.le_succ _) _).setCell (p := ⟨w.heap.size + 1, 1, none⟩) (Nat.le_succ _) _)⟩
      | some j =>
        rw [find_some hj]
        have hj0 : decide ((j : Int) < 0) = false := decide_eq_false (by omega)
        have hj9 : (0 : Int) ≤ (j : Int) := by omega
        have HI := Lib.hid hi
        have HJ := Lib.hid hj
        have hil : i < n1 := by rw [← H1.out.1]; exact isAt_lt hi
        have hjl : j < n1 := by rw [← H1.out.1]; exact isAt_lt hj
        have hn1 : n1 ≤ 10 := by rw [← H1.out.1]; exact (RemCS.good_few HG.out).1
        have hn2 : n2 ≤ 24 := by rw [← H2.out.1]; exact (RemCS.good_few HG.out).2
        clear hi hj
        by_cases hij : i = j
        · subst hij
          have HE := Lib.hid (eqM_no (keep := keep) (drop := drop) (m := m) HI.out HJ.out (fun h => h.1 rfl))
          have hee : ((i : Int) == (i : Int)) = true := by simp
          go_wp2_with fail
          refine wp_region_quiet_below (by kernel_rfl) (by kernel_rfl) ?_
          repeat (go_big_quiet_step (first | (go_at_call 63; with_reducible exact cG _ _)))
          refine wpQuiet_nil ?_
          intro _ hw'
          obtain ⟨⟨dq, osq⟩, hw''⟩ := hw'
          subst hw''
          have b2 := HBQ.out.trans ((below_regrown wq dq osq).mono HBQ.out.size)
          clear cG k1 k2 hi0 hi9 hj0 hj9 hee
          generalize Sort.grow (redrawn wq dq) osq = w2 at *
          have s1 := (b2.cell (p := ⟨w.heap.size + 1, 0, none⟩) lw1).trans y1
          have s2 := (b2.cell (p := ⟨w.heap.size + 1, 1, none⟩) lw1).trans y2
          have t1 := fz b2 ⟨w.heap.size + 1, 0, none⟩ lw1 fy1
          have t2 := fz b2 ⟨w.heap.size + 1, 1, none⟩ lw1 fy2
          have HB2 := Lib.hid (hb0.trans (b2.mono hb0.size))
          go_wp2_with fail
          obtain ⟨q1, q2⟩ := set2_cells (u := .slice none 0 0) (v := .slice none 0 0) s1 s2
          refine bodyPost_ret (v := .tuple #[.agg #[.slice none 0 0, .slice none 0 0], .bool false]) (by simp [results, Try.results40, go_sem, q1, q2]) rfl ?_
          rw [HE.out]
          exact ⟨none, 0, 0, none, 0, 0, rfl, Got.nil _ _, by omega, by omega, ((HB2.out.setCell (p := ⟨w.heap.size + 1, 0, none⟩) (Nat.le_succ _) _).setCell (p := ⟨w.heap.size + 1, 1, none⟩) (Nat.le_succ _) _)⟩
        · obtain ⟨b, off, x, u, ha, hx, e1, e2⟩ := (H1.out.below HBQ.out).at i hil
          obtain ⟨b', off', y, v, ha', hy, d1, d2⟩ := (H1.out.below HBQ.out).at j hjl
          obtain ⟨rfl, rfl⟩ : b' = b ∧ off' = off := by
            rw [ha] at ha'
            injection ha' with ha'
            injection ha' with h1 h2 h3
            exact ⟨h1.symm, h2.symm⟩
          have HKI := Lib.hid (kindAt_is hx)
          have HKJ := Lib.hid (kindAt_is hy)
          clear hx hy ha'
          subst ha
          have hijz : ((i : Int) == (j : Int)) = false := beq_false_of_ne (by omega)
          have hijz2 : ¬ (i : Int) = (j : Int) := by omega
          have hii : (i : Int) < (n1 : Int) := by omega
          have hjj : (j : Int) < (n1 : Int) := by omega
          have ke1 := cell_regrown e1
          have ke2 := cell_regrown e2
          have kd1 := cell_regrown d1
          have kd2 := cell_regrown d2
          clear e1 e2 d1 d2
          by_cases huv : u = v
          · subst huv
            have HE := Lib.hid (eqM_some HG.out HI.out HJ.out hij (HKI.out.trans HKJ.out.symm))
            have huu : (u == u) = true := by simp
            have huu2 : (u != u) = false := by simp
            go_wp2_with fail
            refine wp_region_quiet_below (by kernel_rfl) (by kernel_rfl) ?_
            repeat (go_big_quiet_step (first | (go_at_call 63; with_reducible exact cG _ _)))
            refine wpQuiet_nil ?_
            intro _ hw'
            obtain ⟨⟨dq, osq⟩, hw''⟩ := hw'
            subst hw''
            have b2 := HBQ.out.trans ((below_regrown wq dq osq).mono HBQ.out.size)
            clear cG k1 k2 hi0 hi9 hj0 hj9 hijz hijz2 hii hjj ke1 ke2 kd1 kd2 huu huu2
            generalize Sort.grow (redrawn wq dq) osq = w2 at *
            have s1 := (b2.cell (p := ⟨w.heap.size + 1, 0, none⟩) lw1).trans y1
            have s2 := (b2.cell (p := ⟨w.heap.size + 1, 1, none⟩) lw1).trans y2
            have t1 := fz b2 ⟨w.heap.size + 1, 0, none⟩ lw1 fy1
            have t2 := fz b2 ⟨w.heap.size + 1, 1, none⟩ lw1 fy2
            have r1 := (b2.cell (p := ⟨w.heap.size, 0, none⟩) lw).trans x1
            have r2 := (b2.cell (p := ⟨w.heap.size, 1, none⟩) lw).trans x2
            have HB2 := Lib.hid b2
            clear b2 s1 s2 t1 t2
            go_wp2_with fail
            refine (SwapS.l2Swap_any drop keep (some ⟨b', off', none⟩) a2 n1 c1 n2 c2 l m (by omega) (by omega) w2 (H1.out.below HB2.out) (H2.out.below HB2.out)).mono ?_
            rintro e w4 ⟨g1, d1, p2, k2, d2, hk2, rfl, o4, b4⟩
            have bW := HB2.out.trans (b4.mono HB2.out.size)
            have hba := below_alloc w4 (.cells #[.slice (some ⟨g1, 0, none⟩) n1 d1, .slice p2 k2 d2] 27)
            have bZ := bW.trans (hba.mono bW.size)
            clear r1 r2
            have p1 := (bZ.cell (p := ⟨w.heap.size, 0, none⟩) lw).trans x1
            have c1' := box_first w4 (.slice (some ⟨g1, 0, none⟩) n1 d1) (.slice p2 k2 d2) 27
            have c2' := box_second w4 (.slice (some ⟨g1, 0, none⟩) n1 d1) (.slice p2 k2 d2) 27
            have hnew := heap_alloc_new w4 (.cells #[.slice (some ⟨g1, 0, none⟩) n1 d1, .slice p2 k2 d2] 27)
            have e1' : (w4.alloc (.cells #[.slice (some ⟨g1, 0, none⟩) n1 d1, .slice p2 k2 d2] 27)).frozen? ⟨w4.heap.size, 0, none⟩ = false := (by simp only [World.frozen?, hnew]; rfl)
            have e2' : (w4.alloc (.cells #[.slice (some ⟨g1, 0, none⟩) n1 d1, .slice p2 k2 d2] 27)).frozen? ⟨w4.heap.size, 1, none⟩ = false := (by simp only [World.frozen?, hnew]; rfl)
            have hgz : w4.heap.size < (w4.alloc (.cells #[.slice (some ⟨g1, 0, none⟩) n1 d1, .slice p2 k2 d2] 27)).heap.size := by simp
            have HGOT := Lib.hid ((o4.base HB2.out.size).below hba)
            have HSRC := Lib.hid (Src.of (H1.out.below bZ))
            have HBZ := Lib.hid bZ
            have hW4 : W.heap.size ≤ w4.heap.size := bW.size
            have hg2 : ∀ q, (Value.slice p2 k2 d2).ownBlock = some q → W.heap.size ≤ q ∧ q < w4.heap.size := fun q e => ⟨Nat.le_trans HB2.out.size (o4.rel.lt q e).1, (o4.rel.lt q e).2⟩
            have HG2 := Lib.hid hg2
            have HIL : Hid (j ≤ n1) := by unfold Hid; omega
            have HIL1 : Hid (j + 1 ≤ n1) := by unfold Hid; omega
            clear hnew hba bW bZ o4 b4 hg2
            go_wp2_with fail
            generalize w4.alloc (.cells #[.slice (some ⟨g1, 0, none⟩) n1 d1, .slice p2 k2 d2] 27) = Z at *
            generalize w4.heap.size = gb at *
            have HK : Hid (∀ X, Below Z.heap.size Z X → X.cell? ⟨w.heap.size, 0, none⟩ = some (.slice (some ⟨b', off', none⟩) n1 c1)) := fun X hX => (hX.cell (p := ⟨w.heap.size, 0, none⟩) (by show w.heap.size < _; omega)).trans p1
            have HK2 : Hid (∀ X u, Below Z.heap.size Z X → (X.setCell ⟨gb, 0, none⟩ u).cell? ⟨w.heap.size, 0, none⟩ = some (.slice (some ⟨b', off', none⟩) n1 c1)) := fun X u hX => (World.cell?_setCell_other _ _ _ _ (by intro e; injection e with e; omega)).trans (HK.out X hX)
            have hk0 : (0 : Int) ≤ (j : Int) := by omega
            have hk1 : (j : Int) ≤ (n1 : Int) := by omega
            have hk5 : (j : Int) ≤ (c1 : Int) := by have := HC1.out; omega
            have hk6 : (n1 : Int) ≤ (c1 : Int) := by have := HC1.out; omega
            have hk2' : (j : Int) + 1 ≤ (n1 : Int) := by omega
            have hk3 : (0 : Int) ≤ (j : Int) + 1 := by omega
            have hk4 : IntKind.i64.wrap ((j : Int) + 1) = (j : Int) + 1 := by rw [IntKind.wrap_i64]; omega
            go_region_held3 (fun (X : World) => X.cell? ⟨w.heap.size, 0, none⟩ = some (.slice (some ⟨b', off', none⟩) n1 c1)) (first | (refine HK.out _ ?_; (repeat (first | exact B10.out | exact B8.out | with_reducible exact Below.refl _ _ | with_reducible refine belA ?_ _ | with_reducible refine Below.drew ?_ | fail)); done) | (refine HK2.out _ _ ?_; (repeat (first | exact B10.out | exact B8.out | with_reducible exact Below.refl _ _ | with_reducible refine belA ?_ _ | with_reducible refine Below.drew ?_ | fail)); done) | fail) ((first | (refine step_append_src (by rfl) (.tmp 53) (.tmp 57) 24 (by rfl) Z.heap.size 55 i1 _ Try.underlying24 hi1 hy0 hy1 hy2 rfl _ 0 0 [] (by rfl) (empty_at (by first | exact one_a _ _ | exact one_b _ _) (by first | omega | (simp; done) | (simp; omega))) _ j _ (l.take j) (by rfl) ((HSRC.out.take HIL.out).below (by (repeat (first | exact B10.out | exact B8.out | with_reducible exact Below.refl _ _ | with_reducible refine belA ?_ _ | with_reducible refine Below.drew ?_ | fail)); done)) (by omega) (Below.size (B := Z.heap.size) (by (repeat (first | exact B10.out | exact B8.out | with_reducible exact Below.refl _ _ | with_reducible refine belA ?_ _ | with_reducible refine Below.drew ?_ | fail)); done)) _ rfl ?_; intro g8 d8 w8 hown8 hgrow8 hat8 hlt8; have B8 : Hid (Below Z.heap.size Z w8) := Below.grown (by (repeat (first | exact B10.out | exact B8.out | with_reducible exact Below.refl _ _ | with_reducible refine belA ?_ _ | with_reducible refine Below.drew ?_ | fail)); done) hgrow8 (Below.size (B := Z.heap.size) (by (repeat (first | exact B10.out | exact B8.out | with_reducible exact Below.refl _ _ | with_reducible refine belA ?_ _ | with_reducible refine Below.drew ?_ | fail)); done)) (fun q e => by injection e with e; first | omega | (simp at e; omega)); rw [Nat.zero_add]; rw [Nat.zero_add, List.nil_append] at hown8; have HO8 := Lib.hid hown8; clear hown8 hgrow8 hat8 hlt8; have l8 : Z.heap.size ≤ w8.heap.size := B8.out.size) | (refine step_append_src (by rfl) (.tmp 58) (.tmp 63) 24 (by rfl) Z.heap.size 55 i1 _ Try.underlying24 hi1 hy0 hy1 hy2 rfl g8 j d8 (flat (l.take j)) (by rfl) (by first | exact HO8.out | exact HO8.out.alloc _) _ (n1 - (j + 1)) _ (l.drop (j + 1)) (by rfl) ((HSRC.out.cut HIL1.out HC1.out).below (by (repeat (first | exact B10.out | exact B8.out | with_reducible exact Below.refl _ _ | with_reducible refine belA ?_ _ | with_reducible refine Below.drew ?_ | fail)); done)) (by omega) (Below.size (B := Z.heap.size) (by (repeat (first | exact B10.out | exact B8.out | with_reducible exact Below.refl _ _ | with_reducible refine belA ?_ _ | with_reducible refine Below.drew ?_ | fail)); done)) _ rfl ?_; intro g10 d10 w10 hown10 hgrow10 hat10 hlt10; have B10 : Hid (Below Z.heap.size Z w10) := Below.grown (by (repeat (first | exact B10.out | exact B8.out | with_reducible exact Below.refl _ _ | with_reducible refine belA ?_ _ | with_reducible refine Below.drew ?_ | fail)); done) hgrow10 (Below.size (B := Z.heap.size) (by (repeat (first | exact B10.out | exact B8.out | with_reducible exact Below.refl _ _ | with_reducible refine belA ?_ _ | with_reducible refine Below.drew ?_ | fail)); done)) (fun q e => by injection e with e; have hq := (HO8.out.lt g8 rfl).1; omega); have HO10 := Lib.hid hown10; clear hown10 hgrow10 hat10 hlt10; have l10 : Z.heap.size ≤ w10.heap.size := B10.out.size; have r1 := (B10.out.cell (p := ⟨gb, 0, none⟩) hgz).trans c1'; have r2 := (B10.out.cell (p := ⟨gb, 1, none⟩) hgz).trans c2'; have t1 := fz B10.out ⟨gb, 0, none⟩ hgz e1'; have t2 := fz B10.out ⟨gb, 1, none⟩ hgz e2') | fail))
            all_goals (obtain ⟨nr, hnn⟩ : ∃ nr, nr = j + (n1 - (j + 1)) := ⟨_, rfl⟩)
            all_goals (have hnb : nr ≤ 1048576 := by omega)
            all_goals (have hO := HO10.out)
            all_goals rw [← hnn] at hO ⊢
            all_goals rw [show flat (l.take j) ++ flat (l.drop (j + 1)) = flat (l.take j ++ l.drop (j + 1)) from (flat_app _ _).symm] at hO
            all_goals (have HO := Lib.hid hO; clear hO hnn)
            all_goals (have hg10 : Z.heap.size ≤ g10 := (HO.out.lt g10 rfl).1)
            all_goals (have hG10 := Lib.hid (HGOT.out.below B10.out))
            all_goals (have hBX : Hid (Below w.heap.size w w10) := (hb0.trans (HBZ.out.mono hb0.size)).trans (B10.out.mono (hb0.trans (HBZ.out.mono hb0.size)).size))
            all_goals (have s1 := (World.cell?_setCell_other w10 ⟨gb, 0, none⟩ ⟨w.heap.size + 1, 0, none⟩ (.slice (some ⟨g10, 0, none⟩) (nr) d10) (by intro e; injection e with e; omega)).trans ((B10.out.cell (p := ⟨w.heap.size + 1, 0, none⟩) (by show w.heap.size + 1 < _; omega)).trans ((HBZ.out.cell (p := ⟨w.heap.size + 1, 0, none⟩) lw1).trans y1)))
            all_goals (have s2 := (World.cell?_setCell_other w10 ⟨gb, 0, none⟩ ⟨w.heap.size + 1, 1, none⟩ (.slice (some ⟨g10, 0, none⟩) (nr) d10) (by intro e; injection e with e; omega)).trans ((B10.out.cell (p := ⟨w.heap.size + 1, 1, none⟩) (by show w.heap.size + 1 < _; omega)).trans ((HBZ.out.cell (p := ⟨w.heap.size + 1, 1, none⟩) lw1).trans y2)))
            all_goals (have v1 := fz B10.out ⟨w.heap.size + 1, 0, none⟩ (by show w.heap.size + 1 < _; omega) (fz HBZ.out ⟨w.heap.size + 1, 0, none⟩ lw1 fy1))
            all_goals (have v2 := fz B10.out ⟨w.heap.size + 1, 1, none⟩ (by show w.heap.size + 1 < _; omega) (fz HBZ.out ⟨w.heap.size + 1, 1, none⟩ lw1 fy2))
            all_goals clear p1 x1 x2 y1 y2 fy1 fy2 c1' c2' e1' e2' hk0 hk1 hk2' hk3 hk4
            all_goals go_wp2_with fail
            all_goals (obtain ⟨z1, z2⟩ := set2_cells (u := .slice (some ⟨g10, 0, none⟩) (nr) d10) (v := .slice p2 k2 d2) s1 s2)
            all_goals refine bodyPost_ret (v := .tuple #[.agg #[.slice (some ⟨g10, 0, none⟩) (nr) d10, .slice p2 k2 d2], .bool true]) (by simp [results, Try.results40, go_sem, z1, z2]) rfl ?_
            all_goals rw [HE.out]
            all_goals refine ⟨some ⟨g10, 0, none⟩, nr, d10, p2, k2, d2, rfl, ?_, by omega, by omega, (((hBX.out.setCell (p := ⟨gb, 0, none⟩) (by show _ ≤ gb; omega) _).setCell (p := ⟨w.heap.size + 1, 0, none⟩) (Nat.le_succ _) _).setCell (p := ⟨w.heap.size + 1, 1, none⟩) (Nat.le_succ _) _)⟩
            all_goals (have f1 : (Value.slice (some ⟨g10, 0, none⟩) (nr) d10).ownBlock ≠ some gb := own_off (by omega))
            all_goals (have f2 : (Value.slice (some ⟨g10, 0, none⟩) (nr) d10).ownBlock ≠ some (w.heap.size + 1) := own_off (by omega))
            all_goals (have f3 : (Value.slice p2 k2 d2).ownBlock ≠ some gb := fun e => by have := HG2.out _ e; omega)
            all_goals (have f4 : (Value.slice p2 k2 d2).ownBlock ≠ some (w.heap.size + 1) := fun e => by have := HG2.out _ e; omega)
            all_goals refine ⟨ownsRow_base (setCell_far (setCell_far (setCell_far HO.out f1) f2) f2) (by omega), ownsRow_base (setCell_far (setCell_far (setCell_far hG10.out.rel f3) f4) f4) (by omega), fun q e1 e2 => ?_⟩
            all_goals (have e3 : g10 = q := by simpa [Value.ownBlock] using e1)
            all_goals (have e4 := HG2.out q e2; omega)
          · have HE := Lib.hid (eqM_no (keep := keep) (drop := drop) (m := m) HI.out HJ.out (fun h => huv (by have := h.2; rw [HKI.out, HKJ.out] at this; injection this)))
            have huz : (u == v) = false := beq_false_of_ne huv
            have huz2 : (u != v) = true := by rw [bne, huz]; rfl
            go_wp2_with fail
            refine wp_region_quiet_below (by kernel_rfl) (by kernel_rfl) ?_
            repeat (go_big_quiet_step (first | (go_at_call 63; with_reducible exact cG _ _)))
            refine wpQuiet_nil ?_
            intro _ hw'
            obtain ⟨⟨dq, osq⟩, hw''⟩ := hw'
            subst hw''
            have b2 := HBQ.out.trans ((below_regrown wq dq osq).mono HBQ.out.size)
            clear cG k1 k2 hi0 hi9 hj0 hj9 hijz hijz2 hii hjj ke1 ke2 kd1 kd2 huz huz2
            generalize Sort.grow (redrawn wq dq) osq = w2 at *
            have s1 := (b2.cell (p := ⟨w.heap.size + 1, 0, none⟩) lw1).trans y1
            have s2 := (b2.cell (p := ⟨w.heap.size + 1, 1, none⟩) lw1).trans y2
            have t1 := fz b2 ⟨w.heap.size + 1, 0, none⟩ lw1 fy1
            have t2 := fz b2 ⟨w.heap.size + 1, 1, none⟩ lw1 fy2
            have HB2 := Lib.hid (hb0.trans (b2.mono hb0.size))
            go_wp2_with fail
            obtain ⟨q1, q2⟩ := set2_cells (u := .slice none 0 0) (v := .slice none 0 0) s1 s2
            refine bodyPost_ret (v := .tuple #[.agg #[.slice none 0 0, .slice none 0 0], .bool false]) (by simp [results, Try.results40, go_sem, q1, q2]) rfl ?_
            rw [HE.out]
            exact ⟨none, 0, 0, none, 0, 0, rfl, Got.nil _ _, by omega, by omega, ((HB2.out.setCell (p := ⟨w.heap.size + 1, 0, none⟩) (Nat.le_succ _) _).setCell (p := ⟨w.heap.size + 1, 1, none⟩) (Nat.le_succ _) _)⟩
end Go.Proofs.Ythcjembekadijaa.EquC
/- slices.Delete of one relation. -/
namespace Go.Proofs.Ythcjembekadijaa.DelR
open Go.RowKit Pairs Rec Keep Row2 Copy
open DelC (run_clear1 setCells_row flat_app kept_drew kept_setCells)

theorem zeroRelation : ∀ w, (zeroValue 39).run Try.prog w = .ok (.agg #[.int .i64 0, .int .i64 0]) w := Try.zeroValue39
set_option maxRecDepth 1000000 in
set_option maxHeartbeats 4000000 in
theorem delete_any (g i r : Nat) (l1 l2 : List (Int × Int)) (x : Int × Int) (hl1 : l1.length = i) (hl2 : l2.length = r) (hn : i + 1 + r ≤ 1048576) (w : World) (h : w.heap[g]? = some (.cells (flat (l1 ++ x :: l2)).toArray 39)) :
    Calls Try.prog 95 #[.slice (some ⟨g, 0, none⟩) (i + 1 + r) (i + 1 + r), .int .i64 i, .int .i64 ((i : Int) + 1)] w fun e w' => e = .returned (.slice (some ⟨g, 0, none⟩) (i + r) (i + 1 + r)) ∧
      w'.heap[g]? = some (.cells (flat (l1 ++ l2) ++ [Value.int .i64 0, Value.int .i64 0]).toArray 39) ∧ Kept (fun b => b = g) w w' := by
  obtain ⟨i0, hi, hy0, hy1, hy2⟩ := info_parts infoRelation
  have hlen : (flat (l1 ++ x :: l2)).length = (i + 1 + r) * 2 := by rw [flat_len]; simp; omega
  have HH := Lib.hid h
  have HLEN := Lib.hid hlen
  have hfl : flat (l1 ++ x :: l2) = flat l1 ++ (.int .i64 x.1 :: .int .i64 x.2 :: flat l2) := by rw [flat_app, flat_cons]
  have hf1 : (flat l1).length = i * 2 := by rw [flat_len, hl1]
  have hf2 : (flat l2).length = r * 2 := by rw [flat_len, hl2]
  obtain ⟨A, hA, HC⟩ : ∃ A : Addr, (if r = 0 then some (⟨g, 0, none⟩ : Addr) else some ⟨g, (i + 1) * 2, none⟩) = some A ∧ Hid (∀ j u, (flat l2)[j]? = some u → w.drew.cell? (A.add j) = some u) := by
    by_cases hr : r = 0
    · refine ⟨_, if_pos hr, fun j u hu => ?_⟩
      have h0 : (flat l2).length = 0 := by omega
      rw [List.length_eq_zero_iff.1 h0] at hu
      simp at hu
    · refine ⟨_, if_neg hr, fun j u hj => ?_⟩
      rw [Addr.add_lit]
      show w.cell? _ = some u
      simp only [World.cell?, h]
      rw [List.getElem?_toArray, hfl, List.getElem?_append_right (by omega), hf1, show (i + 1) * 2 + j - i * 2 = j + 2 by omega]
      exact hj
  have HS : Hid (∀ j, j < (flat l2).length → (w.drew.cell? ⟨g, 0 + i * 2 + j, none⟩).isSome = true ∧ w.drew.frozen? ⟨g, 0 + i * 2 + j, none⟩ = false) := by
    intro j hj
    have h' : w.drew.heap[g]? = some (.cells (flat (l1 ++ x :: l2)).toArray 39) := h
    constructor
    · simp only [World.cell?, h', List.getElem?_toArray]
      rw [List.getElem?_eq_getElem (by rw [hlen]; omega)]
      rfl
    · simp only [World.frozen?, h']
      rfl
  have HF2 := Lib.hid hf2
  have HF1 := Lib.hid hf1
  have HFL := Lib.hid hfl
  clear h hlen hf1 hf2 hfl
  have hne : ((i : Int) == (i : Int) + 1) = false := by rw [beq_eq_false_iff_ne]; omega
  have hwr : IntKind.i64.wrap ((i : Int) + 1) = (i : Int) + 1 := by rw [IntKind.wrap_i64]; omega
  go_enter Try.func95, Try.ntmps95
  go_wp2_with fail
  have hp1 : (i : Int) ≤ (i : Int) + 1 + (r : Int) := by omega
  have hp2 : (0 : Int) ≤ (i : Int) + 1 := by omega
  have hp3 : (i : Int) + 1 ≤ (i : Int) + 1 + (r : Int) := by omega
  have hp4 : ((i : Int) + 1).toNat = i + 1 := by omega
  go_region_law (refine step_append_room rfl (.tmp 22) (.tmp 25) 25 rfl 39 i0 2 Try.underlying25 hi hy1 g 0 i (i + 1 + r) (by simp [Act.eval, Act.put]) A r (i + 1 + r - (i + 1)) (flat l2) (by simp [Act.eval, Act.put]) HF2.out HC.out (flat_one l2) (by omega) HS.out ?_)
  have HG1 : Hid ((w.drew.setCells g (i * 2) (flat l2)).heap[g]? = some (.cells (splice (flat (l1 ++ x :: l2)) (i * 2) (flat l2)).toArray 39)) := by
    have h' : w.drew.heap[g]? = some (.cells (flat (l1 ++ x :: l2)).toArray 39) := HH.out
    unfold Hid
    rw [setCells_row h' (by rw [HF2.out, HLEN.out]; omega) (flat_one l2)]
    exact setRow_heap _ _ _ _ _ _ h'
  have HK1 : Hid (Kept (fun b => b = g) w (w.drew.setCells g (i * 2) (flat l2))) := kept_setCells (S := fun b => b = g) (kept_drew w) (g := g) rfl _
  have HE1 : Hid (splice (flat (l1 ++ x :: l2)) (i * 2) (flat l2) = flat (l1 ++ l2) ++ (flat (l1 ++ x :: l2)).drop ((i + r) * 2)) := by
    unfold Hid splice
    rw [HF2.out, HFL.out, List.take_append_of_le_length (by rw [HF1.out]; omega), List.take_of_length_le (by rw [HF1.out]; omega), flat_app, List.append_assoc, show i * 2 + r * 2 = (i + r) * 2 by omega]
  generalize w.drew.setCells g (i * 2) (flat l2) = W1 at *
  have HG1' := HG1.out
  rw [HE1.out] at HG1'
  have HG2 := Lib.hid HG1'
  have HD : Hid (((flat (l1 ++ x :: l2)).drop ((i + r) * 2)).length = 2) := by unfold Hid; rw [List.length_drop, HLEN.out]; omega
  have HF3 : Hid ((flat (l1 ++ l2)).length = (i + r) * 2) := by unfold Hid; rw [flat_len, List.length_append, hl1, hl2]
  have hcl : ∀ c ty, (Builtin.clear_ #[25] ty #[.slice (some ⟨g, (i + r) * 2, none⟩) 1 c]).run Try.prog W1 = .ok (.tuple #[]) (W1.setCells g ((i + r) * 2) [.int .i64 0, .int .i64 0]) := by
    intro c ty
    refine run_clear1 W1 _ _ ty Try.underlying25 zeroRelation g _ c (fun j hj => ?_) (fun j hj => ?_)
    · simp only [World.cell?, HG2.out, List.getElem?_toArray]
      rw [List.getElem?_eq_getElem (by rw [List.length_append, HF3.out, HD.out]; omega)]
      rfl
    · simp only [World.frozen?, HG2.out]
      rfl
  have HG3 : Hid ((W1.setCells g ((i + r) * 2) [.int .i64 0, .int .i64 0]).heap[g]? = some (.cells (flat (l1 ++ l2) ++ [Value.int .i64 0, Value.int .i64 0]).toArray 39)) := by
    have e : splice (flat (l1 ++ l2) ++ (flat (l1 ++ x :: l2)).drop ((i + r) * 2)) ((i + r) * 2) [Value.int .i64 0, Value.int .i64 0] = flat (l1 ++ l2) ++ [Value.int .i64 0, Value.int .i64 0] := by
      unfold splice
      rw [← HF3.out, List.take_left, List.drop_of_length_le (by rw [List.length_append, HF3.out, HD.out]; simp), List.append_nil]
    unfold Hid
    rw [setCells_row HG2.out (by rw [List.length_append, HF3.out, HD.out]; simp) (by intro v hv; simp at hv; subst hv; rfl), e]
    exact setRow_heap _ _ _ _ _ _ HG2.out
  have HK2 : Hid (Kept (fun b => b = g) w (W1.setCells g ((i + r) * 2) [.int .i64 0, .int .i64 0])) := kept_setCells (S := fun b => b = g) HK1.out (g := g) rfl _
  clear HG1'
  go_wp2_with fail
  have e1 : i + 1 + r - (i + r) = 1 := by omega
  rw [e1, hcl]
  clear hcl
  generalize W1.setCells g ((i + r) * 2) [.int .i64 0, .int .i64 0] = W2 at *
  go_wp2_with fail
  go_ret
  exact ⟨rfl, HG3.out, HK2.out⟩
end Go.Proofs.Ythcjembekadijaa.DelR
/- The program's RemoveRelation: a record without a relation. -/
namespace Go.Proofs.Ythcjembekadijaa.RemR
open Go.RowKit Pairs Rec RecEq Find2 GoodM RelM Keep Row2 Copy Two Gives Eq2 RemRS
theorem block_of_own {T : TypeId} {w : World} {B g n : Nat} {l : List (Int × Int)} (h : w.ownsRow B T 2 (.slice (some ⟨g, 0, none⟩) n n) n (flat l)) : w.heap[g]? = some (.cells (flat l).toArray T) := by
  rcases h.2 with ⟨hv, _⟩ | ⟨g', cap, cur, hv, _, hh, _, _, hs, ht⟩
  · cases hv
  · injection hv with h1 h2 h3
    injection h1 with h1
    injection h1 with h1 _ _
    subst h1 h3
    rw [hh]
    have e : cur.toList = flat l := by
      rw [← ht, List.take_of_length_le (by simp; omega)]
    rw [← e]
theorem own_of_take {X : World} {g n c B : Nat} {T : TypeId} {l : List (Int × Int)} {ys : List Value} (h : X.heap[g]? = some (.cells ys.toArray T)) (hc : ys.length = c * 2) (hl : l.length = n) (hn : n ≤ c) (hm : c ≤ 1048576) (ht : ys.take (n * 2) = flat l) (hB : B ≤ g) : X.ownsRow B T 2 (.slice (some ⟨g, 0, none⟩) n c) n (flat l) :=
  ⟨by rw [flat_len, hl], .inr ⟨g, c, ys.toArray, rfl, hB, h, hn, by unfold maxLen; omega, by simpa using hc, ht⟩⟩
/-- The relations of a valid record are no two the same. -/
theorem up_of_good {l m : List (Int × Int)} (h : good l m = true) : ∀ i x y, m[i]? = some x → m[i + 1]? = some y → before x y = true := by
  intro i x y hx hy
  unfold good at h
  simp only [Bool.and_eq_true, decide_eq_true_eq, List.all_eq_true, List.mem_range] at h
  have hl := (List.getElem?_eq_some_iff.1 hy).1
  have hk := h.2 (i + 1) hl
  unfold okR at hk
  rw [hy, Nat.add_sub_cancel, hx] at hk
  unfold before
  simp only [Bool.and_eq_true, Bool.or_eq_true, decide_eq_true_eq] at hk
  rcases hk.2 with h0 | h0
  · omega
  · exact decide_eq_true h0
theorem up_lt {m : List (Int × Int)} (h : ∀ i x y, m[i]? = some x → m[i + 1]? = some y → before x y = true) : ∀ (d i : Nat) (x y : Int × Int), m[i]? = some x → m[i + d + 1]? = some y → before x y = true
  | 0, i, x, y, hx, hy => h i x y hx hy
  | d + 1, i, x, y, hx, hy => by
    have hl : i + d + 1 < m.length := by
      have := (List.getElem?_eq_some_iff.1 hy).1
      omega
    have hz : m[i + d + 1]? = some m[i + d + 1] := List.getElem?_eq_getElem hl
    exact before_trans (up_lt h d i x _ hx hz) (h (i + d + 1) _ y hz hy)
theorem at_split {l m : List (Int × Int)} {u v : Int} {k : Nat} (hg : good l m = true) (hk : atR m u v = some k) : m = m.take k ++ (u, v) :: m.drop (k + 1) ∧ k < m.length ∧ m.take k ++ m.drop (k + 1) = m.filter (ne2 u v) ∧ (u, v) ∈ m := by
  have hU := up_lt (up_of_good hg)
  have hx := atR_mem hk
  have hl := (List.getElem?_eq_some_iff.1 hx).1
  refine ⟨?_, hl, ?_, List.mem_of_getElem? hx⟩
  · conv => lhs; rw [← List.take_append_drop k m, List.drop_eq_getElem_cons hl]
    rw [(List.getElem?_eq_some_iff.1 hx).2]
  · rw [← List.eraseIdx_eq_take_drop_succ]
    refine erase_filter (ne2 u v) hx (by unfold ne2; simp) ?_
    intro j y hj hy
    unfold ne2
    refine decide_eq_true ?_
    intro e
    subst e
    by_cases hjk : j < k
    · obtain ⟨d, rfl⟩ : ∃ d, k = j + d + 1 := ⟨k - j - 1, by omega⟩
      have := hU d j _ _ hy hx
      rw [before_irrefl] at this
      cases this
    · obtain ⟨d, rfl⟩ : ∃ d, j = k + d + 1 := ⟨j - k - 1, by omega⟩
      have := hU d k _ _ hx hy
      rw [before_irrefl] at this
      cases this
set_option maxRecDepth 100000 in
set_option maxHeartbeats 8000000 in
theorem impl_any (zu zv : Int) : Gives1 37 (.agg #[.int .i64 zu, .int .i64 zv]) (remR zu zv) := by
  intro a1 a2 n1 c1 n2 c2 l m w hz1 hz2 h1 h2
  obtain ⟨hs, x1, x2, x3, x4, y1, y2, fy1, fy2, hb0⟩ := boxes222 w (.slice a1 n1 c1) (.slice a2 n2 c2) (.int .i64 zu) (.int .i64 zv) (.slice none 0 0) (.slice none 0 0) 27 39 27
  have HS := Lib.hid hs
  have H1 := Lib.hid (h1.below hb0)
  have H2 := Lib.hid (h2.below hb0)
  clear h1 h2 hs
  go_enter Try.func37, Try.ntmps37
  go_wp2_with fail
  generalize ((w.alloc (.cells #[.slice a1 n1 c1, .slice a2 n2 c2] 27)).alloc (.cells #[.int .i64 zu, .int .i64 zv] 39)).alloc (.cells #[.slice none 0 0, .slice none 0 0] 27) = W at *
  have lw : w.heap.size < W.heap.size := by rw [HS.out]; omega
  have lw1 : w.heap.size + 1 < W.heap.size := by rw [HS.out]; omega
  have lw2 : w.heap.size + 2 < W.heap.size := by rw [HS.out]; omega
  refine (Avr.impl_any a1 a2 n1 c1 n2 c2 l m W hz1 hz2 H1.out H2.out).mono ?_
  rintro e w1 ⟨rfl, b1⟩
  have r1 := (b1.cell (p := ⟨w.heap.size, 0, none⟩) lw).trans x1
  have r2 := (b1.cell (p := ⟨w.heap.size, 1, none⟩) lw).trans x2
  have r3 := (b1.cell (p := ⟨w.heap.size + 1, 0, none⟩) lw1).trans x3
  have r4 := (b1.cell (p := ⟨w.heap.size + 1, 1, none⟩) lw1).trans x4
  have s1 := (b1.cell (p := ⟨w.heap.size + 2, 0, none⟩) lw2).trans y1
  have s2 := (b1.cell (p := ⟨w.heap.size + 2, 1, none⟩) lw2).trans y2
  have t1 := fz b1 ⟨w.heap.size + 2, 0, none⟩ lw2 fy1
  have t2 := fz b1 ⟨w.heap.size + 2, 1, none⟩ lw2 fy2
  have HB1 := Lib.hid (hb0.trans (b1.mono hb0.size))
  cases hg : good l m with
  | false =>
    have HE := Lib.hid (remR_none (u := zu) (v := zv) (l := l) (m := m) (by rw [hg]; simp))
    clear hg
    go_wp2_with fail
    obtain ⟨q1, q2⟩ := set2_cells (u := .slice none 0 0) (v := .slice none 0 0) s1 s2
    refine bodyPost_ret (v := .tuple #[.agg #[.slice none 0 0, .slice none 0 0], .bool false]) (by simp [results, Try.results37, go_sem, q1, q2]) rfl ?_
    rw [HE.out]
    exact ⟨none, 0, 0, none, 0, 0, rfl, Got.nil _ _, by omega, by omega, ((HB1.out.setCell (p := ⟨w.heap.size + 2, 0, none⟩) (by show _ ≤ w.heap.size + 2; omega) _).setCell (p := ⟨w.heap.size + 2, 1, none⟩) (by show _ ≤ w.heap.size + 2; omega) _)⟩
  | true =>
    have HV := Lib.hid hg
    clear hg
    go_wp2_with fail
    refine (index_any a2 n2 c2 m zu zv hz2 w1 (H2.out.below b1)).mono ?_
    rintro e w2 ⟨rfl, b2⟩
    have b12 := b1.trans (b2.mono b1.size)
    have r1 := (b12.cell (p := ⟨w.heap.size, 0, none⟩) lw).trans x1
    have r2 := (b12.cell (p := ⟨w.heap.size, 1, none⟩) lw).trans x2
    have s1 := (b12.cell (p := ⟨w.heap.size + 2, 0, none⟩) lw2).trans y1
    have s2 := (b12.cell (p := ⟨w.heap.size + 2, 1, none⟩) lw2).trans y2
    have t1 := fz b12 ⟨w.heap.size + 2, 0, none⟩ lw2 fy1
    have t2 := fz b12 ⟨w.heap.size + 2, 1, none⟩ lw2 fy2
    have HB2 := Lib.hid (hb0.trans (b12.mono hb0.size))
    clear r3 r4
    cases ha : atR m zu zv with
    | none =>
      have HE := Lib.hid (remR_none (u := zu) (v := zv) (l := l) (m := m) (fun h => atR_no ha h.2))
      rw [indexR_none ha]
      clear ha
      go_wp2_with fail
      obtain ⟨q1, q2⟩ := set2_cells (u := .slice none 0 0) (v := .slice none 0 0) s1 s2
      refine bodyPost_ret (v := .tuple #[.agg #[.slice none 0 0, .slice none 0 0], .bool false]) (by simp [results, Try.results37, go_sem, q1, q2]) rfl ?_
      rw [HE.out]
      exact ⟨none, 0, 0, none, 0, 0, rfl, Got.nil _ _, by omega, by omega, ((HB2.out.setCell (p := ⟨w.heap.size + 2, 0, none⟩) (by show _ ≤ w.heap.size + 2; omega) _).setCell (p := ⟨w.heap.size + 2, 1, none⟩) (by show _ ≤ w.heap.size + 2; omega) _)⟩
    | some k =>
      rw [indexR_some ha]
      obtain ⟨hl, hkl, hfil, hmem⟩ := at_split HV.out ha
      have HE := Lib.hid (remR_some HV.out hmem)
      obtain ⟨r, hr⟩ : ∃ r, n2 = k + 1 + r := ⟨n2 - (k + 1), by rw [← H2.out.1]; omega⟩
      have HL1 : Hid ((m.take k).length = k) := by unfold Hid; rw [List.length_take]; omega
      have HL2 : Hid ((m.drop (k + 1)).length = r) := by unfold Hid; rw [List.length_drop, H2.out.1]; omega
      have HFI := Lib.hid hfil
      have HSP := Lib.hid hl
      clear ha hl hfil hmem
      subst hr
      have hk0 : ¬ (k : Int) < 0 := by omega
      go_wp2_with fail
      refine (copyRecord_any a1 a2 n1 c1 (k + 1 + r) c2 l m hz1 hz2 w2 (H1.out.below b12) (H2.out.below b12)).mono ?_
      rintro e w3 ⟨g1, g2, rfl, o3, b3⟩
      have hg1 : w2.heap.size ≤ g1 ∧ g1 < w3.heap.size := o3.ctx.lt g1 rfl
      have hg2 : w2.heap.size ≤ g2 ∧ g2 < w3.heap.size := o3.rel.lt g2 rfl
      have hs1 := b12.size
      have hs2 := b3.size
      have hbk1 := block_of_own o3.ctx
      have hbk2 := block_of_own o3.rel
      have hg12 := o3.ne
      have b13 := b12.trans (b3.mono b12.size)
      have HB3 := Lib.hid (hb0.trans (b13.mono hb0.size))
      have s1 := (b13.cell (p := ⟨w.heap.size + 2, 0, none⟩) lw2).trans y1
      have s2 := (b13.cell (p := ⟨w.heap.size + 2, 1, none⟩) lw2).trans y2
      have t1 := fz b13 ⟨w.heap.size + 2, 0, none⟩ lw2 fy1
      have t2 := fz b13 ⟨w.heap.size + 2, 1, none⟩ lw2 fy2
      have hba := below_alloc w3 (.cells #[.slice (some ⟨g1, 0, none⟩) n1 n1, .slice (some ⟨g2, 0, none⟩) (k + 1 + r) (k + 1 + r)] 27)
      have u1 := box_first w3 (.slice (some ⟨g1, 0, none⟩) n1 n1) (.slice (some ⟨g2, 0, none⟩) (k + 1 + r) (k + 1 + r)) 27
      have u2' := box_second w3 (.slice (some ⟨g1, 0, none⟩) n1 n1) (.slice (some ⟨g2, 0, none⟩) (k + 1 + r) (k + 1 + r)) 27
      have ubk := heap_alloc_new w3 (.cells #[.slice (some ⟨g1, 0, none⟩) n1 n1, .slice (some ⟨g2, 0, none⟩) (k + 1 + r) (k + 1 + r)] 27)
      have hsa : (w3.alloc (.cells #[.slice (some ⟨g1, 0, none⟩) n1 n1, .slice (some ⟨g2, 0, none⟩) (k + 1 + r) (k + 1 + r)] 27)).heap.size = w3.heap.size + 1 := by simp
      have hbk1 := (hba.block g1 hg1.2).trans hbk1
      have hbk2 := (hba.block g2 hg2.2).trans hbk2
      have s1 := (hba.cell (p := ⟨w.heap.size + 2, 0, none⟩) (by show w.heap.size + 2 < _; omega)).trans s1
      have s2 := (hba.cell (p := ⟨w.heap.size + 2, 1, none⟩) (by show w.heap.size + 2 < _; omega)).trans s2
      have t1 := fz hba ⟨w.heap.size + 2, 0, none⟩ (by show w.heap.size + 2 < _; omega) t1
      have t2 := fz hba ⟨w.heap.size + 2, 1, none⟩ (by show w.heap.size + 2 < _; omega) t2
      have HB4 := Lib.hid (HB3.out.trans (hba.mono HB3.out.size))
      have HBK1 := Lib.hid hbk1
      have HBK2 := Lib.hid hbk2
      have HU := Lib.hid ubk
      have HSA := Lib.hid hsa
      clear o3 b3 b2 b12 b13 hba hbk1 hbk2 ubk b1 x1 x2 x3 x4 y1 y2 fy1 fy2 r1 r2 hsa
      go_wp2_with fail
      generalize w3.alloc (.cells #[.slice (some ⟨g1, 0, none⟩) n1 n1, .slice (some ⟨g2, 0, none⟩) (k + 1 + r) (k + 1 + r)] 27) = W4 at *
      refine (DelR.delete_any g2 k r (m.take k) (m.drop (k + 1)) (zu, zv) HL1.out HL2.out hz2 W4 (by rw [← HSP.out]; exact HBK2.out)).mono ?_
      rintro e w5 ⟨rfl, hd1, hk5⟩
      have e3 := HSA.out
      have hu5 : w5.heap[w3.heap.size]? = some (.cells #[.slice (some ⟨g1, 0, none⟩) n1 n1, .slice (some ⟨g2, 0, none⟩) (k + 1 + r) (k + 1 + r)] 27) := (hk5.block _ (by omega) (by omega)).trans HU.out
      have c1' : w5.cell? ⟨w3.heap.size, 0, none⟩ = some (.slice (some ⟨g1, 0, none⟩) n1 n1) := by simp only [World.cell?, hu5]; rfl
      have c2' : w5.cell? ⟨w3.heap.size, 1, none⟩ = some (.slice (some ⟨g2, 0, none⟩) (k + 1 + r) (k + 1 + r)) := by simp only [World.cell?, hu5]; rfl
      have d1' : w5.frozen? ⟨w3.heap.size, 1, none⟩ = false := by simp only [World.frozen?, hu5]; rfl
      have s15 := hk5.cell s1 (by show ¬ (w.heap.size + 2 = g2); omega)
      have s25 := hk5.cell s2 (by show ¬ (w.heap.size + 2 = g2); omega)
      have t15 : w5.frozen? ⟨w.heap.size + 2, 0, none⟩ = false := (World.frozen?_of_block (hk5.block (w.heap.size + 2) (by omega) (by omega))).trans t1
      have t25 : w5.frozen? ⟨w.heap.size + 2, 1, none⟩ = false := (World.frozen?_of_block (hk5.block (w.heap.size + 2) (by omega) (by omega))).trans t2
      have HC5 : Hid (w5.heap[g1]? = some (.cells (flat l).toArray 55)) := (hk5.block g1 (by omega) hg12).trans HBK1.out
      have HD5 := Lib.hid hd1
      have HK5 := Lib.hid hk5
      clear hd1 hu5 hk5 s1 s2 t1 t2 u1 u2'
      go_wp2_with fail
      have z1 : (w5.setCell ⟨w3.heap.size, 1, none⟩ (.slice (some ⟨g2, 0, none⟩) (k + r) (k + 1 + r))).cell? ⟨w.heap.size + 2, 0, none⟩ = some (.slice none 0 0) := by
        rw [World.cell?_setCell_other _ _ _ _ (by intro e; injection e with e; omega)]
        exact s15
      have z2 : (w5.setCell ⟨w3.heap.size, 1, none⟩ (.slice (some ⟨g2, 0, none⟩) (k + r) (k + 1 + r))).cell? ⟨w.heap.size + 2, 1, none⟩ = some (.slice none 0 0) := by
        rw [World.cell?_setCell_other _ _ _ _ (by intro e; injection e with e; omega)]
        exact s25
      obtain ⟨q1, q2⟩ := set2_cells (u := .slice (some ⟨g1, 0, none⟩) n1 n1) (v := .slice (some ⟨g2, 0, none⟩) (k + r) (k + 1 + r)) z1 z2
      refine bodyPost_ret (v := .tuple #[.agg #[.slice (some ⟨g1, 0, none⟩) n1 n1, .slice (some ⟨g2, 0, none⟩) (k + r) (k + 1 + r)], .bool true]) (by simp [results, Try.results37, go_sem, q1, q2]) rfl ?_
      rw [HE.out]
      have hf1 : (flat (m.take k ++ m.drop (k + 1))).length = (k + r) * 2 := by rw [flat_len, List.length_append, HL1.out, HL2.out]
      refine ⟨some ⟨g1, 0, none⟩, n1, n1, some ⟨g2, 0, none⟩, k + r, k + 1 + r, rfl, ⟨?_, ?_, ?_⟩, by omega, by omega, ?_⟩
      · refine own_of_block ?_ H1.out.1 hz1 (by omega)
        rw [Go.Deep.blk_setCell_other _ _ _ _ (by show g1 ≠ w.heap.size + 1 + 1; omega), Go.Deep.blk_setCell_other _ _ _ _ (by show g1 ≠ w.heap.size + 1 + 1; omega), Go.Deep.blk_setCell_other _ _ _ _ (by show g1 ≠ w3.heap.size; omega)]
        exact HC5.out
      · show World.ownsRow _ _ _ _ _ _ (flat (m.filter (ne2 zu zv)))
        rw [← HFI.out]
        refine own_of_take (ys := flat (m.take k ++ m.drop (k + 1)) ++ [Value.int .i64 0, Value.int .i64 0]) ?_ (by rw [List.length_append, hf1]; simp; omega) (by rw [List.length_append, HL1.out, HL2.out]) (by omega) hz2 (by rw [← hf1]; exact List.take_left) (by omega)
        rw [Go.Deep.blk_setCell_other _ _ _ _ (by show g2 ≠ w.heap.size + 1 + 1; omega), Go.Deep.blk_setCell_other _ _ _ _ (by show g2 ≠ w.heap.size + 1 + 1; omega), Go.Deep.blk_setCell_other _ _ _ _ (by show g2 ≠ w3.heap.size; omega)]
        exact HD5.out
      · intro g e1 e2
        have e1' : g1 = g := by simpa [Value.ownBlock] using e1
        have e2' : g2 = g := by simpa [Value.ownBlock] using e2
        exact hg12 (e1'.trans e2'.symm)
      · have hB5 : Below w.heap.size w w5 := HB4.out.trans (HK5.out.below (fun b hb => by subst hb; omega) HB4.out.size)
        exact ((hB5.setCell (p := ⟨w3.heap.size, 1, none⟩) (by show _ ≤ w3.heap.size; omega) _).setCell (p := ⟨w.heap.size + 1 + 1, 0, none⟩) (by show _ ≤ w.heap.size + 1 + 1; omega) _).setCell (p := ⟨w.heap.size + 1 + 1, 1, none⟩) (by show _ ≤ w.heap.size + 1 + 1; omega) _
end Go.Proofs.Ythcjembekadijaa.RemR
