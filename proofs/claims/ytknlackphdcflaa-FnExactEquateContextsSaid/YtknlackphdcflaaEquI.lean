/- The program's EquateContexts: a record in which one context stands for two. -/
import Derived.Test.YtknlackphdcflaaRenum
import Derived.Test.YtknlackphdcflaaRemC
import Derived.Test.YtknlackphdcflaaAddC
import Derived.Test.YtknlackphdcflaaEquM
import Derived.Test.YtknlackphdcflaaGivesN
namespace Go.Proofs.Ytknlackphdcflaa.EquI
open Go.RowKit Pairs Rec RecEq Find2 GoodM RelM Keep Row2 Copy Two Gives Idx SwapM EquM
open RemC (block_of_own own_of_take isAt_split)
set_option maxRecDepth 100000 in
set_option maxHeartbeats 8000000 in
theorem impl_any (keep drop : Int) : Gives2 21 (.int .i64 keep) (.int .i64 drop) (eqM keep drop) := by
  intro a1 a2 n1 c1 n2 c2 l m w hz1 hz2 h1 h2
  obtain ⟨fy1, fy2⟩ := fz_box2 w (.slice a1 n1 c1) (.slice a2 n2 c2) (.slice none 0 0) (.slice none 0 0) 32 32
  obtain ⟨hs, x1, x2, y1, y2, hb0⟩ := boxes2 w (.slice a1 n1 c1) (.slice a2 n2 c2) (.slice none 0 0) (.slice none 0 0) 32 32
  have HS := Lib.hid hs
  have H1 := Lib.hid (h1.below hb0)
  have H2 := Lib.hid (h2.below hb0)
  clear h1 h2 hs
  go_enter Try.func21, Try.ntmps21
  go_wp2_with fail
  generalize ((w.alloc (.cells #[.slice a1 n1 c1, .slice a2 n2 c2] 32)).alloc (.cells #[.slice none 0 0, .slice none 0 0] 32)) = W at *
  have lw : w.heap.size < W.heap.size := by rw [HS.out]; omega
  have lw1 : w.heap.size + 1 < W.heap.size := by rw [HS.out]; omega
  refine (impl_Index a1 a2 n1 c1 n2 c2 l m keep W hz1 hz2 H1.out H2.out).mono ?_
  rintro e w1 ⟨rfl, b1⟩
  have r1 := (b1.cell (p := ⟨w.heap.size, 0, none⟩) lw).trans x1
  have r2 := (b1.cell (p := ⟨w.heap.size, 1, none⟩) lw).trans x2
  have HK := Lib.hid (rfl : idx l m keep = idx l m keep)
  generalize hik : idx l m keep = ik at *
  have HIK := Lib.hid hik
  clear hik HK
  go_wp2_with fail
  refine (impl_Index a1 a2 n1 c1 n2 c2 l m drop w1 hz1 hz2 (H1.out.below b1) (H2.out.below b1)).mono ?_
  rintro e w2 ⟨rfl, b2'⟩
  have b2 := b1.trans (b2'.mono b1.size)
  clear r1 r2 b2'
  have r1 := (b2.cell (p := ⟨w.heap.size, 0, none⟩) lw).trans x1
  have r2 := (b2.cell (p := ⟨w.heap.size, 1, none⟩) lw).trans x2
  have s1 := (b2.cell (p := ⟨w.heap.size + 1, 0, none⟩) lw1).trans y1
  have s2 := (b2.cell (p := ⟨w.heap.size + 1, 1, none⟩) lw1).trans y2
  have t1 := fz b2 ⟨w.heap.size + 1, 0, none⟩ lw1 fy1
  have t2 := fz b2 ⟨w.heap.size + 1, 1, none⟩ lw1 fy2
  have HB2 := Lib.hid (hb0.trans (b2.mono hb0.size))
  by_cases hgk : good l m = true ∧ (isAt l keep).isSome = true
  · obtain ⟨i, hi⟩ := Option.isSome_iff_exists.1 hgk.2
    have hi1 : idx l m keep = ((i : Int), true) := by unfold idx; rw [if_pos hgk, find_some hi]
    have hii := HIK.out
    rw [hi1] at hii
    subst hii
    have HG := Lib.hid hgk.1
    by_cases hgd : good l m = true ∧ (isAt l drop).isSome = true
    · obtain ⟨j, hj⟩ := Option.isSome_iff_exists.1 hgd.2
      have hj1 : idx l m drop = ((j : Int), true) := by unfold idx; rw [if_pos hgd, find_some hj]
      rw [hj1]
      have HI := Lib.hid hi
      have HJ := Lib.hid hj
      have hln : l.length ≤ 10 := (good_asc HG.out).2
      have hil : i < n1 := by rw [← H1.out.1]; exact isAt_lt hi
      have hjl : j < n1 := by rw [← H1.out.1]; exact isAt_lt hj
      have hn1 : n1 ≤ 10 := by rw [← H1.out.1]; exact hln
      clear hi1 hj1 hgk hgd hi hj hln
      by_cases hij : i = j
      · subst hij
        have HE := Lib.hid (eqM_no (keep := keep) (drop := drop) (m := m) HI.out HJ.out (fun h => h.1 rfl))
        go_wp2_with fail
        go_quiet (fail)
        go_wp2_with fail
        obtain ⟨q1, q2⟩ := set2_cells (w := w2.drewN nq) (g := w.heap.size + 1) (u := .slice none 0 0) (v := .slice none 0 0) s1 s2
        refine bodyPost_ret (v := .tuple #[.agg #[.slice none 0 0, .slice none 0 0], .bool false]) (by simp [results, Try.results21, go_sem, q1, q2]) rfl ?_
        rw [HE.out]
        exact ⟨none, 0, 0, none, 0, 0, rfl, Got.nil _ _, by omega, by omega, (((HB2.out.trans (Joins.below_draws _ _ _)).setCell (p := ⟨w.heap.size + 1, 0, none⟩) (Nat.le_succ _) _).setCell (p := ⟨w.heap.size + 1, 1, none⟩) (Nat.le_succ _) _)⟩
      · obtain ⟨b, off, x, u, ha, hx, e1, e2⟩ := (H1.out.below b2).at i hil
        obtain ⟨b', off', y, v, ha', hy, d1, d2⟩ := (H1.out.below b2).at j hjl
        obtain ⟨rfl, rfl⟩ : b' = b ∧ off' = off := by
          rw [ha] at ha'
          injection ha' with ha'
          injection ha' with h1 h2 h3
          exact ⟨h1.symm, h2.symm⟩
        have HKI := Lib.hid (kindAt_is hx)
        have HKJ := Lib.hid (kindAt_is hy)
        rw [ha] at r1
        have hijz : ((i : Int) == (j : Int)) = false := beq_false_of_ne (by omega)
        have hijz2 : ¬ (i : Int) = (j : Int) := by omega
        have hi0 : (0 : Int) ≤ (i : Int) := by omega
        have hj0 : (0 : Int) ≤ (j : Int) := by omega
        have hii : (i : Int) < (n1 : Int) := by omega
        have hjj : (j : Int) < (n1 : Int) := by omega
        clear hx hy ha ha'
        by_cases huv : u = v
        · subst huv
          have HE := Lib.hid (eqM_some HG.out HI.out HJ.out hij (HKI.out.trans HKJ.out.symm))
          go_wp2_with fail
          go_quiet (fail)
          clear e1 e2 d1 d2 r1 hijz hijz2 hi0 hj0 hii hjj
          have b3 := b2.trans ((Joins.below_draws w2.heap.size w2 nq).mono b2.size)
          generalize w2.drewN nq = w3 at *
          clear s1 s2 t1 t2 r2 b1 b2
          have r1 := (b3.cell (p := ⟨w.heap.size, 0, none⟩) lw).trans x1
          have r2 := (b3.cell (p := ⟨w.heap.size, 1, none⟩) lw).trans x2
          obtain ⟨p, hl, hkl, hfil⟩ := isAt_split HG.out HJ.out
          obtain ⟨r, hr⟩ : ∃ r, n1 = j + 1 + r := ⟨n1 - (j + 1), by omega⟩
          have HL1 : Hid ((l.take j).length = j) := by unfold Hid; rw [List.length_take]; omega
          have HL2 : Hid ((l.drop (j + 1)).length = r) := by unfold Hid; rw [List.length_drop, H1.out.1]; omega
          have HSP := Lib.hid hl
          clear hl hkl hfil
          subst hr
          go_wp2_with fail
          refine (copyRecord_any a1 a2 (j + 1 + r) c1 n2 c2 l m hz1 hz2 w3 (H1.out.below b3) (H2.out.below b3)).mono ?_
          rintro e w4 ⟨g1, g2, rfl, o4, b4⟩
          have hg1 : w3.heap.size ≤ g1 ∧ g1 < w4.heap.size := o4.ctx.lt g1 rfl
          have hg2 : w3.heap.size ≤ g2 ∧ g2 < w4.heap.size := o4.rel.lt g2 rfl
          have hg12 := o4.ne
          have hs1 := b3.size
          have hs2 := b4.size
          have b34 := b3.trans (b4.mono b3.size)
          have hba := below_alloc w4 (.cells #[.slice (some ⟨g1, 0, none⟩) (j + 1 + r) (j + 1 + r), .slice (some ⟨g2, 0, none⟩) n2 n2] 32)
          have bZ := b34.trans (hba.mono b34.size)
          have hbk1 := (hba.block g1 hg1.2).trans (block_of_own o4.ctx)
          have hbk2 := (hba.block g2 hg2.2).trans (block_of_own o4.rel)
          have hub := heap_alloc_new w4 (.cells #[.slice (some ⟨g1, 0, none⟩) (j + 1 + r) (j + 1 + r), .slice (some ⟨g2, 0, none⟩) n2 n2] 32)
          have u1 := box_first w4 (.slice (some ⟨g1, 0, none⟩) (j + 1 + r) (j + 1 + r)) (.slice (some ⟨g2, 0, none⟩) n2 n2) 32
          have u2' := box_second w4 (.slice (some ⟨g1, 0, none⟩) (j + 1 + r) (j + 1 + r)) (.slice (some ⟨g2, 0, none⟩) n2 n2) 32
          have e4 : (w4.alloc (.cells #[.slice (some ⟨g1, 0, none⟩) (j + 1 + r) (j + 1 + r), .slice (some ⟨g2, 0, none⟩) n2 n2] 32)).heap.size = w4.heap.size + 1 := by simp
          have s1 := (bZ.cell (p := ⟨w.heap.size + 1, 0, none⟩) lw1).trans y1
          have s2 := (bZ.cell (p := ⟨w.heap.size + 1, 1, none⟩) lw1).trans y2
          have t1 := fz bZ ⟨w.heap.size + 1, 0, none⟩ lw1 fy1
          have t2 := fz bZ ⟨w.heap.size + 1, 1, none⟩ lw1 fy2
          have HBK1 := Lib.hid hbk1
          have HBK2 := Lib.hid hbk2
          have HUB := Lib.hid hub
          have HE4 := Lib.hid e4
          have HBZ := Lib.hid (hb0.trans (bZ.mono hb0.size))
          clear o4 b4 b34 hba bZ hbk1 hbk2 hub e4 r1 r2 b3 HB2 x1 x2 y1 y2 fy1 fy2
          go_wp2_with fail
          generalize w4.alloc (.cells #[.slice (some ⟨g1, 0, none⟩) (j + 1 + r) (j + 1 + r), .slice (some ⟨g2, 0, none⟩) n2 n2] 32) = W4 at *
          refine (DelC.delete_any g1 j r (l.take j) (l.drop (j + 1)) p HL1.out HL2.out hz1 W4 (by rw [← HSP.out]; exact HBK1.out)).mono ?_
          rintro e w5 ⟨rfl, hd1, hk5⟩
          have e5 := HE4.out
          have hu5 : w5.heap[w4.heap.size]? = some (.cells #[.slice (some ⟨g1, 0, none⟩) (j + 1 + r) (j + 1 + r), .slice (some ⟨g2, 0, none⟩) n2 n2] 32) := (hk5.block _ (by omega) (by omega)).trans HUB.out
          have hx5 := (setCell_block (a := (.slice (some ⟨g1, 0, none⟩) (j + r) (j + 1 + r))) hu5).1
          have hk5' : Kept (fun b => b = g1 ∨ b = w4.heap.size) W4 (w5.setCell ⟨w4.heap.size, 0, none⟩ (.slice (some ⟨g1, 0, none⟩) (j + r) (j + 1 + r))) := (hk5.mono (fun _ => .inl)).setCell (g := w4.heap.size) (.inr rfl) _
          have c1' : w5.cell? ⟨w4.heap.size, 0, none⟩ = some (.slice (some ⟨g1, 0, none⟩) (j + 1 + r) (j + 1 + r)) := by simp only [World.cell?, hu5]; rfl
          have c2' : w5.cell? ⟨w4.heap.size, 1, none⟩ = some (.slice (some ⟨g2, 0, none⟩) n2 n2) := by simp only [World.cell?, hu5]; rfl
          have d1' : w5.frozen? ⟨w4.heap.size, 0, none⟩ = false := by simp only [World.frozen?, hu5]; rfl
          have HD5 : Hid ((w5.setCell ⟨w4.heap.size, 0, none⟩ (.slice (some ⟨g1, 0, none⟩) (j + r) (j + 1 + r))).heap[g1]? = some (.cells (flat (l.take j ++ l.drop (j + 1)) ++ [Value.int .i64 0, Value.int .i64 0]).toArray 36)) := by
            unfold Hid
            rw [Go.Deep.blk_setCell_other _ _ _ _ (by show g1 ≠ w4.heap.size; omega)]
            exact hd1
          have HG5 : Hid ((w5.setCell ⟨w4.heap.size, 0, none⟩ (.slice (some ⟨g1, 0, none⟩) (j + r) (j + 1 + r))).heap[g2]? = some (.cells (flat m).toArray 44)) := (hk5'.block g2 (by omega) (by omega)).trans HBK2.out
          have s15 := hk5'.cell s1 (by show ¬ (w.heap.size + 1 = g1 ∨ w.heap.size + 1 = w4.heap.size); omega)
          have s25 := hk5'.cell s2 (by show ¬ (w.heap.size + 1 = g1 ∨ w.heap.size + 1 = w4.heap.size); omega)
          have t15 : (w5.setCell ⟨w4.heap.size, 0, none⟩ (.slice (some ⟨g1, 0, none⟩) (j + r) (j + 1 + r))).frozen? ⟨w.heap.size + 1, 0, none⟩ = false := (World.frozen?_of_block (hk5'.block (w.heap.size + 1) (by omega) (by omega))).trans t1
          have t25 : (w5.setCell ⟨w4.heap.size, 0, none⟩ (.slice (some ⟨g1, 0, none⟩) (j + r) (j + 1 + r))).frozen? ⟨w.heap.size + 1, 1, none⟩ = false := (World.frozen?_of_block (hk5'.block (w.heap.size + 1) (by omega) (by omega))).trans t2
          have HX5 := Lib.hid hx5
          have HK5 := Lib.hid hk5'
          clear hu5 hx5 hk5 hk5' hd1 s1 s2 t1 t2 u1 u2'
          go_wp2_with fail
          generalize w5.setCell ⟨w4.heap.size, 0, none⟩ (.slice (some ⟨g1, 0, none⟩) (j + r) (j + 1 + r)) = X5 at *
          clear c1' c2' d1'
          refine (Renum.renum_any drop keep g2 n2 m H2.out.1 hz2 X5 HG5.out).mono ?_
          rintro e w6 ⟨rfl, jj, m', hR⟩
          have hk6 := hR.kept
          have hsz5 := HK5.out.size
          have HRW := Lib.hid hR
          have hlen : (swapM drop keep m).length ≤ n2 := by have h := swap_len drop keep m m.length; rw [List.take_length, H2.out.1] at h; exact h
          have hu6 : w6.heap[w4.heap.size]? = some (.cells #[(.slice (some ⟨g1, 0, none⟩) (j + r) (j + 1 + r)), .slice (some ⟨g2, 0, none⟩) n2 n2] 32) := (hk6.block _ (by omega) (by omega)).trans HX5.out
          have c1' : w6.cell? ⟨w4.heap.size, 0, none⟩ = some (.slice (some ⟨g1, 0, none⟩) (j + r) (j + 1 + r)) := by simp only [World.cell?, hu6]; rfl
          have c2' : w6.cell? ⟨w4.heap.size, 1, none⟩ = some (.slice (some ⟨g2, 0, none⟩) n2 n2) := by simp only [World.cell?, hu6]; rfl
          have d1' : w6.frozen? ⟨w4.heap.size, 1, none⟩ = false := by simp only [World.frozen?, hu6]; rfl
          have s16 := hk6.cell s15 (by show ¬ (w.heap.size + 1 = g2); omega)
          have s26 := hk6.cell s25 (by show ¬ (w.heap.size + 1 = g2); omega)
          have t16 : w6.frozen? ⟨w.heap.size + 1, 0, none⟩ = false := (World.frozen?_of_block (hk6.block (w.heap.size + 1) (by omega) (by omega))).trans t15
          have t26 : w6.frozen? ⟨w.heap.size + 1, 1, none⟩ = false := (World.frozen?_of_block (hk6.block (w.heap.size + 1) (by omega) (by omega))).trans t25
          have HD6 : Hid (w6.heap[g1]? = some (.cells (flat (l.take j ++ l.drop (j + 1)) ++ [Value.int .i64 0, Value.int .i64 0]).toArray 36)) := (hk6.block g1 (by omega) hg12).trans HD5.out
          have HK6 : Hid (Kept (fun b => b = g1 ∨ b = w4.heap.size ∨ b = g2) W4 w6) := (HK5.out.mono (fun _ h => h.elim .inl (fun h => .inr (.inl h)))).trans (hk6.mono (fun _ h => .inr (.inr h)))
          have HLEN := Lib.hid hlen
          obtain ⟨f, hf⟩ : ∃ f, (swapM drop keep m).length = f := ⟨_, rfl⟩
          have HF := Lib.hid hf
          rw [hf]
          clear hR hu6 hk6 s15 s25 t15 t25 hlen hf
          go_wp2_with fail
          have z1 : (w6.setCell ⟨w4.heap.size, 1, none⟩ (.slice (some ⟨g2, 0, none⟩) f n2)).cell? ⟨w.heap.size + 1, 0, none⟩ = some (.slice none 0 0) := by
            rw [World.cell?_setCell_other _ _ _ _ (by intro e; injection e with e; omega)]
            exact s16
          have z2 : (w6.setCell ⟨w4.heap.size, 1, none⟩ (.slice (some ⟨g2, 0, none⟩) f n2)).cell? ⟨w.heap.size + 1, 1, none⟩ = some (.slice none 0 0) := by
            rw [World.cell?_setCell_other _ _ _ _ (by intro e; injection e with e; omega)]
            exact s26
          obtain ⟨q1, q2⟩ := set2_cells (u := (.slice (some ⟨g1, 0, none⟩) (j + r) (j + 1 + r))) (v := .slice (some ⟨g2, 0, none⟩) f n2) z1 z2
          refine bodyPost_ret (v := .tuple #[.agg #[(.slice (some ⟨g1, 0, none⟩) (j + r) (j + 1 + r)), .slice (some ⟨g2, 0, none⟩) f n2], .bool true]) (by simp [results, Try.results21, go_sem, q1, q2]) rfl ?_
          rw [HE.out]
          have hf1 : (flat (l.take j ++ l.drop (j + 1))).length = (j + r) * 2 := by rw [flat_len, List.length_append, HL1.out, HL2.out]
          have hfn : f ≤ n2 := by rw [← HF.out]; exact HLEN.out
          have o1 : w6.ownsRow w.heap.size 36 2 (.slice (some ⟨g1, 0, none⟩) (j + r) (j + 1 + r)) (j + r) (flat (l.take j ++ l.drop (j + 1))) :=
            own_of_take (ys := flat (l.take j ++ l.drop (j + 1)) ++ [Value.int .i64 0, Value.int .i64 0]) HD6.out (by rw [List.length_append, hf1]; simp; omega) (by rw [List.length_append, HL1.out, HL2.out]) (by omega) hz1 (by rw [← hf1]; exact List.take_left) (by omega)
          have o2 : w6.ownsRow w.heap.size 44 2 (.slice (some ⟨g2, 0, none⟩) f n2) f (flat (swapM drop keep m)) := HRW.out.owns HF.out hz2 (by omega)
          have f1 : (Value.slice (some ⟨g1, 0, none⟩) (j + r) (j + 1 + r)).ownBlock ≠ some (w.heap.size + 1) := AddC.own_off (by omega)
          have f2 : (Value.slice (some ⟨g2, 0, none⟩) f n2).ownBlock ≠ some (w.heap.size + 1) := AddC.own_off (by omega)
          have f3 : (Value.slice (some ⟨g1, 0, none⟩) (j + r) (j + 1 + r)).ownBlock ≠ some w4.heap.size := AddC.own_off (by omega)
          have f4 : (Value.slice (some ⟨g2, 0, none⟩) f n2).ownBlock ≠ some w4.heap.size := AddC.own_off (by omega)
          have hB6 : Below w.heap.size w w6 := HBZ.out.trans (HK6.out.below (fun b hb => by rcases hb with rfl | rfl | rfl <;> omega) HBZ.out.size)
          refine ⟨some ⟨g1, 0, none⟩, j + r, j + 1 + r, some ⟨g2, 0, none⟩, f, n2, rfl, ⟨setCell_far (setCell_far (setCell_far o1 f3) f1) f1, setCell_far (setCell_far (setCell_far o2 f4) f2) f2, ?_⟩, by omega, by omega, ?_⟩
          · intro g e1 e2
            have e1' : g1 = g := by simpa [Value.ownBlock] using e1
            have e2' : g2 = g := by simpa [Value.ownBlock] using e2
            exact hg12 (e1'.trans e2'.symm)
          · exact ((hB6.setCell (p := ⟨w4.heap.size, 1, none⟩) (by show _ ≤ w4.heap.size; omega) _).setCell (p := ⟨w.heap.size + 1, 0, none⟩) (Nat.le_succ _) _).setCell (p := ⟨w.heap.size + 1, 1, none⟩) (Nat.le_succ _) _
        · have HE := Lib.hid (eqM_no (keep := keep) (drop := drop) (m := m) HI.out HJ.out (fun h => huv (by have := h.2; rw [HKI.out, HKJ.out] at this; injection this)))
          have huz : (u == v) = false := beq_false_of_ne huv
          have huz2 : (u != v) = true := by rw [bne, huz]; rfl
          go_wp2_with fail
          go_quiet (fail)
          clear e1 e2 d1 d2
          go_wp2_with fail
          obtain ⟨q1, q2⟩ := set2_cells (w := w2.drewN nq) (g := w.heap.size + 1) (u := .slice none 0 0) (v := .slice none 0 0) s1 s2
          refine bodyPost_ret (v := .tuple #[.agg #[.slice none 0 0, .slice none 0 0], .bool false]) (by simp [results, Try.results21, go_sem, q1, q2]) rfl ?_
          rw [HE.out]
          exact ⟨none, 0, 0, none, 0, 0, rfl, Got.nil _ _, by omega, by omega, (((HB2.out.trans (Joins.below_draws _ _ _)).setCell (p := ⟨w.heap.size + 1, 0, none⟩) (Nat.le_succ _) _).setCell (p := ⟨w.heap.size + 1, 1, none⟩) (Nat.le_succ _) _)⟩
    · have hj1 : idx l m drop = (0, false) := by unfold idx; rw [if_neg hgd]
      have hjn : isAt l drop = none := by
        cases h : isAt l drop with
        | none => rfl
        | some k => exact absurd ⟨HG.out, by rw [h]; rfl⟩ hgd
      have HE := Lib.hid (eqM_noD (keep := keep) (m := m) hjn)
      rw [hj1]
      clear hi1 hj1 hgk hgd hi hjn
      go_wp2_with fail
      go_quiet (fail)
      go_wp2_with fail
      obtain ⟨q1, q2⟩ := set2_cells (w := w2.drewN nq) (g := w.heap.size + 1) (u := .slice none 0 0) (v := .slice none 0 0) s1 s2
      refine bodyPost_ret (v := .tuple #[.agg #[.slice none 0 0, .slice none 0 0], .bool false]) (by simp [results, Try.results21, go_sem, q1, q2]) rfl ?_
      rw [HE.out]
      exact ⟨none, 0, 0, none, 0, 0, rfl, Got.nil _ _, by omega, by omega, (((HB2.out.trans (Joins.below_draws _ _ _)).setCell (p := ⟨w.heap.size + 1, 0, none⟩) (Nat.le_succ _) _).setCell (p := ⟨w.heap.size + 1, 1, none⟩) (Nat.le_succ _) _)⟩
  · have hi1 : idx l m keep = (0, false) := by unfold idx; rw [if_neg hgk]
    have hii := HIK.out
    rw [hi1] at hii
    subst hii
    have HE : Hid (eqM keep drop l m = none) := by
      cases hg : good l m with
      | false => exact eqM_bad hg
      | true =>
        refine eqM_noK ?_
        cases h : isAt l keep with
        | none => rfl
        | some k => exact absurd ⟨hg, by rw [h]; rfl⟩ hgk
    generalize idx l m drop = jd
    clear hi1 hgk
    go_wp2_with fail
    go_quiet (fail)
    go_wp2_with fail
    obtain ⟨q1, q2⟩ := set2_cells (w := w2.drewN nq) (g := w.heap.size + 1) (u := .slice none 0 0) (v := .slice none 0 0) s1 s2
    refine bodyPost_ret (v := .tuple #[.agg #[.slice none 0 0, .slice none 0 0], .bool false]) (by simp [results, Try.results21, go_sem, q1, q2]) rfl ?_
    rw [HE.out]
    exact ⟨none, 0, 0, none, 0, 0, rfl, Got.nil _ _, by omega, by omega, (((HB2.out.trans (Joins.below_draws _ _ _)).setCell (p := ⟨w.heap.size + 1, 0, none⟩) (Nat.le_succ _) _).setCell (p := ⟨w.heap.size + 1, 1, none⟩) (Nat.le_succ _) _)⟩
end Go.Proofs.Ytknlackphdcflaa.EquI
