/- The program's RenumberContext: a record in which a context has another number. -/
import Derived.Test.YtknlackphdcflaaRenum
import Derived.Test.YtknlackphdcflaaRemC
import Derived.Test.YtknlackphdcflaaAddC
import Derived.Test.YtknlackphdcflaaRenM
import Derived.Test.YtknlackphdcflaaGivesN
namespace Go.Proofs.Ytknlackphdcflaa.RenI
open Go.RowKit Pairs Rec RecEq Find2 GoodM RelM Keep Row2 Copy Two Gives Idx SwapM EquM RenM SortC
open RemC (block_of_own own_of_take isAt_split)
set_option maxRecDepth 100000 in
set_option maxHeartbeats 8000000 in
theorem impl_any (old num : Int) : Gives2 23 (.int .i64 old) (.int .i64 num) (renM old num) := by
  intro a1 a2 n1 c1 n2 c2 l m w hz1 hz2 h1 h2
  obtain ⟨fy1, fy2⟩ := fz_box2 w (.slice a1 n1 c1) (.slice a2 n2 c2) (.slice none 0 0) (.slice none 0 0) 32 32
  obtain ⟨hs, x1, x2, y1, y2, hb0⟩ := boxes2 w (.slice a1 n1 c1) (.slice a2 n2 c2) (.slice none 0 0) (.slice none 0 0) 32 32
  have HS := Lib.hid hs
  have H1 := Lib.hid (h1.below hb0)
  have H2 := Lib.hid (h2.below hb0)
  clear h1 h2 hs
  go_enter Try.func23, Try.ntmps23
  go_wp2_with fail
  generalize ((w.alloc (.cells #[.slice a1 n1 c1, .slice a2 n2 c2] 32)).alloc (.cells #[.slice none 0 0, .slice none 0 0] 32)) = W at *
  have lw : w.heap.size < W.heap.size := by rw [HS.out]; omega
  have lw1 : w.heap.size + 1 < W.heap.size := by rw [HS.out]; omega
  refine (impl_Index a1 a2 n1 c1 n2 c2 l m old W hz1 hz2 H1.out H2.out).mono ?_
  rintro e w1 ⟨rfl, b2⟩
  have r1 := (b2.cell (p := ⟨w.heap.size, 0, none⟩) lw).trans x1
  have r2 := (b2.cell (p := ⟨w.heap.size, 1, none⟩) lw).trans x2
  have s1 := (b2.cell (p := ⟨w.heap.size + 1, 0, none⟩) lw1).trans y1
  have s2 := (b2.cell (p := ⟨w.heap.size + 1, 1, none⟩) lw1).trans y2
  have t1 := fz b2 ⟨w.heap.size + 1, 0, none⟩ lw1 fy1
  have t2 := fz b2 ⟨w.heap.size + 1, 1, none⟩ lw1 fy2
  have HB2 := Lib.hid (hb0.trans (b2.mono hb0.size))
  by_cases hgk : good l m = true ∧ (isAt l old).isSome = true
  · obtain ⟨i, hi⟩ := Option.isSome_iff_exists.1 hgk.2
    have hi1 : idx l m old = ((i : Int), true) := by unfold idx; rw [if_pos hgk, find_some hi]
    rw [hi1]
    have HG := Lib.hid hgk.1
    have HI := Lib.hid hi
    have hil : i < n1 := by rw [← H1.out.1]; exact isAt_lt hi
    have hn1 : n1 ≤ 10 := by rw [← H1.out.1]; exact (good_asc HG.out).2
    clear hi hi1 hgk
    by_cases hlo : num < 1
    · have HE := Lib.hid (renM_far (o := old) (l := l) (m := m) (n := num) (by omega))
      have hlo2 : decide (num < 1) = true := decide_eq_true hlo
      go_wp2_with fail
      obtain ⟨q1, q2⟩ := set2_cells (u := .slice none 0 0) (v := .slice none 0 0) s1 s2
      refine bodyPost_ret (v := .tuple #[.agg #[.slice none 0 0, .slice none 0 0], .bool false]) (by simp [results, Try.results23, go_sem, q1, q2]) rfl ?_
      rw [HE.out]
      exact ⟨none, 0, 0, none, 0, 0, rfl, Got.nil _ _, by omega, by omega, ((HB2.out.setCell (p := ⟨w.heap.size + 1, 0, none⟩) (Nat.le_succ _) _).setCell (p := ⟨w.heap.size + 1, 1, none⟩) (Nat.le_succ _) _)⟩
    · have hlo2 : decide (num < 1) = false := decide_eq_false hlo
      by_cases hhi : 999 < num
      · have HE := Lib.hid (renM_far (o := old) (l := l) (m := m) (n := num) (by omega))
        have hhi2 : decide (999 < num) = true := decide_eq_true hhi
        go_wp2_with fail
        obtain ⟨q1, q2⟩ := set2_cells (u := .slice none 0 0) (v := .slice none 0 0) s1 s2
        refine bodyPost_ret (v := .tuple #[.agg #[.slice none 0 0, .slice none 0 0], .bool false]) (by simp [results, Try.results23, go_sem, q1, q2]) rfl ?_
        rw [HE.out]
        exact ⟨none, 0, 0, none, 0, 0, rfl, Got.nil _ _, by omega, by omega, ((HB2.out.setCell (p := ⟨w.heap.size + 1, 0, none⟩) (Nat.le_succ _) _).setCell (p := ⟨w.heap.size + 1, 1, none⟩) (Nat.le_succ _) _)⟩
      · have hhi2 : decide (999 < num) = false := decide_eq_false hhi
        have HR1 : Hid (1 ≤ num ∧ num ≤ 999) := by unfold Hid; omega
        have key : ∀ wq, Below W.heap.size W wq → ∀ (hno : Hid (¬ (num ≠ old ∧ (isAt l num).isSome = true))), True := fun _ _ _ => trivial
        clear key
        by_cases hne : num = old
        · have HNO : Hid (¬ (num ≠ old ∧ (isAt l num).isSome = true)) := fun h => h.1 hne
          subst hne
          have hq : (num == num) = true := by simp
          have hq2 : (num != num) = false := by simp
          go_wp2_with fail
          refine (copyRecord_any a1 a2 n1 c1 n2 c2 l m hz1 hz2 w1 (H1.out.below b2) (H2.out.below b2)).mono ?_
          rintro e w4 ⟨g1, g2, rfl, o4, b4⟩
          have hg1 : w1.heap.size ≤ g1 ∧ g1 < w4.heap.size := o4.ctx.lt g1 rfl
          have hg2 : w1.heap.size ≤ g2 ∧ g2 < w4.heap.size := o4.rel.lt g2 rfl
          have hg12 := o4.ne
          have hs1 := b2.size
          have hs2 := b4.size
          have b34 := b2.trans (b4.mono b2.size)
          have hba := below_alloc w4 (.cells #[.slice (some ⟨g1, 0, none⟩) n1 n1, .slice (some ⟨g2, 0, none⟩) n2 n2] 32)
          have hbk1 := (hba.block g1 hg1.2).trans (block_of_own o4.ctx)
          have u1 := box_first w4 (.slice (some ⟨g1, 0, none⟩) n1 n1) (.slice (some ⟨g2, 0, none⟩) n2 n2) 32
          obtain ⟨xx, kk, hx⟩ : ∃ xx kk, l[i]? = some (xx, kk) := ⟨_, _, List.getElem?_eq_getElem (by rw [H1.out.1]; exact hil)⟩
          have hgc := flat_get l i xx kk hx
          have j1 : (w4.alloc (.cells #[.slice (some ⟨g1, 0, none⟩) n1 n1, .slice (some ⟨g2, 0, none⟩) n2 n2] 32)).cell? ⟨g1, i * 2, none⟩ = some (.int .i64 xx) := by simp only [World.cell?, hbk1, List.getElem?_toArray]; rw [hgc.1]; rfl
          have j2 : (w4.alloc (.cells #[.slice (some ⟨g1, 0, none⟩) n1 n1, .slice (some ⟨g2, 0, none⟩) n2 n2] 32)).frozen? ⟨g1, i * 2, none⟩ = false := by simp only [World.frozen?, hbk1]; rfl
          have hsv : (w4.setCell ⟨g1, i * 2, none⟩ (.int .i64 num)).heap.size = w4.heap.size := Go.Deep.nblk_setCell _ _ _
          have hbv := below_alloc (w4.setCell ⟨g1, i * 2, none⟩ (.int .i64 num)) (.cells #[.slice (some ⟨g1, 0, none⟩) n1 n1, .slice (some ⟨g2, 0, none⟩) n2 n2] 32)
          rw [hsv] at hbv
          have HV1 := Lib.hid ((hbv.block g1 hg1.2).trans (put_block (n := num) (block_of_own o4.ctx) hx))
          have HV2 := Lib.hid ((hbv.block g2 hg2.2).trans ((Go.Deep.blk_setCell_other w4 ⟨g1, i * 2, none⟩ (.int .i64 num) g2 (by show g2 ≠ g1; omega)).trans (block_of_own o4.rel)))
          have hvu := heap_alloc_new (w4.setCell ⟨g1, i * 2, none⟩ (.int .i64 num)) (.cells #[.slice (some ⟨g1, 0, none⟩) n1 n1, .slice (some ⟨g2, 0, none⟩) n2 n2] 32)
          rw [hsv] at hvu
          have HVU := Lib.hid hvu
          have e4 : ((w4.setCell ⟨g1, i * 2, none⟩ (.int .i64 num)).alloc (.cells #[.slice (some ⟨g1, 0, none⟩) n1 n1, .slice (some ⟨g2, 0, none⟩) n2 n2] 32)).heap.size = w4.heap.size + 1 := by simp
          have HE4 := Lib.hid e4
          have b35 := b34.setCell (p := ⟨g1, i * 2, none⟩) (by show W.heap.size ≤ g1; omega) (.int .i64 num)
          have hBV := b35.trans (hbv.mono b34.size)
          have HS1 := Lib.hid ((hBV.cell (p := ⟨w.heap.size + 1, 0, none⟩) lw1).trans y1)
          have HS2 := Lib.hid ((hBV.cell (p := ⟨w.heap.size + 1, 1, none⟩) lw1).trans y2)
          have HT1 := Lib.hid (fz hBV ⟨w.heap.size + 1, 0, none⟩ lw1 fy1)
          have HT2 := Lib.hid (fz hBV ⟨w.heap.size + 1, 1, none⟩ lw1 fy2)
          have HE := Lib.hid (renM_some (m := m) HG.out HR1.out.1 HR1.out.2 HI.out HNO.out)
          have HX := Lib.hid hx
          have HBZ := Lib.hid (hb0.trans (hBV.mono hb0.size))
          have hin : (i : Int) < (n1 : Int) := by omega
          have hi0 : (0 : Int) ≤ (i : Int) := by omega
          clear r1 r2 s1 s2 t1 t2 HB2 hx hgc o4 b4 b34 b35 hBV hvu hbv hsv e4 hba hbk1 b2 x1 x2 y1 y2 fy1 fy2
          go_wp2_with fail
          clear j1 j2 u1
          generalize ((w4.setCell ⟨g1, i * 2, none⟩ (.int .i64 num)).alloc (.cells #[.slice (some ⟨g1, 0, none⟩) n1 n1, .slice (some ⟨g2, 0, none⟩) n2 n2] 32)) = V5 at *
          have hll : (l.set i (num, kk)).length = n1 := by rw [List.length_set]; exact H1.out.1
          have hnd := nodup_set_rest (k := kk) (i := i) (n := num) (by rw [H1.out.1]; exact hil) (by have h := SortC.up_nodup (good_asc HG.out).1; exact SortC.rest_nodup h) (rest_ne HG.out HI.out HNO.out)
          refine (SortC.sort_any (kfOf (l.set i (num, kk))) (l.set i (num, kk)) (kfOf_is hnd) g1 n1 hll (by omega) hz1 V5 HV1.out).mono ?_
          rintro e w5 ⟨rfl, hd1, hk5'⟩
          rw [srt_put (good_asc HG.out).1 (by rw [H1.out.1]; exact hil) (rest_ne HG.out HI.out HNO.out)] at hd1
          have hk5 := hk5'
          have e5 := HE4.out
          have hu5 : w5.heap[w4.heap.size]? = some (.cells #[.slice (some ⟨g1, 0, none⟩) n1 n1, .slice (some ⟨g2, 0, none⟩) n2 n2] 32) := (hk5.block _ (by omega) (by omega)).trans HVU.out
          have c2' : w5.cell? ⟨w4.heap.size, 1, none⟩ = some (.slice (some ⟨g2, 0, none⟩) n2 n2) := by simp only [World.cell?, hu5]; rfl
          have HG5 : Hid (w5.heap[g2]? = some (.cells (flat m).toArray 44)) := (hk5.block g2 (by omega) (by omega)).trans HV2.out
          have HD5 := Lib.hid hd1
          have HK5 := Lib.hid hk5
          have HU5 := Lib.hid hu5
          clear hd1 hk5 hk5' hu5 hnd hll
          go_wp2_with fail
          clear c2'
          refine (Renum.renum_any num num g2 n2 m H2.out.1 hz2 w5 HG5.out).mono ?_
          rintro e w6 ⟨rfl, jj, m', hR⟩
          have hk6 := hR.kept
          have hsz5 := HK5.out.size
          have HRW := Lib.hid hR
          have hlen : (swapM num num m).length ≤ n2 := by have h := swap_len num num m m.length; rw [List.take_length, H2.out.1] at h; exact h
          have hu6 : w6.heap[w4.heap.size]? = some (.cells #[(.slice (some ⟨g1, 0, none⟩) n1 n1), .slice (some ⟨g2, 0, none⟩) n2 n2] 32) := (hk6.block _ (by omega) (by omega)).trans HU5.out
          have c1' : w6.cell? ⟨w4.heap.size, 0, none⟩ = some (.slice (some ⟨g1, 0, none⟩) n1 n1) := by simp only [World.cell?, hu6]; rfl
          have c2' : w6.cell? ⟨w4.heap.size, 1, none⟩ = some (.slice (some ⟨g2, 0, none⟩) n2 n2) := by simp only [World.cell?, hu6]; rfl
          have d1' : w6.frozen? ⟨w4.heap.size, 1, none⟩ = false := by simp only [World.frozen?, hu6]; rfl
          have HK6 : Hid (Kept (fun b => b = g1 ∨ b = g2) V5 w6) := (HK5.out.mono (fun _ h => .inl h)).trans (hk6.mono (fun _ h => .inr h))
          have s16 := HK6.out.cell HS1.out (by show ¬ (w.heap.size + 1 = g1 ∨ w.heap.size + 1 = g2); omega)
          have s26 := HK6.out.cell HS2.out (by show ¬ (w.heap.size + 1 = g1 ∨ w.heap.size + 1 = g2); omega)
          have t16 : w6.frozen? ⟨w.heap.size + 1, 0, none⟩ = false := (World.frozen?_of_block (HK6.out.block (w.heap.size + 1) (by omega) (by omega))).trans HT1.out
          have t26 : w6.frozen? ⟨w.heap.size + 1, 1, none⟩ = false := (World.frozen?_of_block (HK6.out.block (w.heap.size + 1) (by omega) (by omega))).trans HT2.out
          have HD6 : Hid (w6.heap[g1]? = some (.cells (flat (ins (rest l i) (pl (rest l i) num) (num, kk))).toArray 36)) := (hk6.block g1 (by omega) hg12).trans HD5.out
          have HLEN := Lib.hid hlen
          obtain ⟨f, hf⟩ : ∃ f, (swapM num num m).length = f := ⟨_, rfl⟩
          have HF := Lib.hid hf
          rw [hf]
          clear hR hu6 hk6 hlen hf
          go_wp2_with fail
          have z1 : (w6.setCell ⟨w4.heap.size, 1, none⟩ (.slice (some ⟨g2, 0, none⟩) f n2)).cell? ⟨w.heap.size + 1, 0, none⟩ = some (.slice none 0 0) := by
            rw [World.cell?_setCell_other _ _ _ _ (by intro e; injection e with e; omega)]
            exact s16
          have z2 : (w6.setCell ⟨w4.heap.size, 1, none⟩ (.slice (some ⟨g2, 0, none⟩) f n2)).cell? ⟨w.heap.size + 1, 1, none⟩ = some (.slice none 0 0) := by
            rw [World.cell?_setCell_other _ _ _ _ (by intro e; injection e with e; omega)]
            exact s26
          obtain ⟨q1, q2⟩ := set2_cells (u := (.slice (some ⟨g1, 0, none⟩) n1 n1)) (v := .slice (some ⟨g2, 0, none⟩) f n2) z1 z2
          refine bodyPost_ret (v := .tuple #[.agg #[(.slice (some ⟨g1, 0, none⟩) n1 n1), .slice (some ⟨g2, 0, none⟩) f n2], .bool true]) (by simp [results, Try.results23, go_sem, q1, q2]) rfl ?_
          rw [HE.out, kindAt_is HX.out]
          have hL : (ins (rest l i) (pl (rest l i) num) (num, kk)).length = n1 := by rw [ins_rest_len (by rw [H1.out.1]; exact hil)]; exact H1.out.1
          have hfn : f ≤ n2 := by rw [← HF.out]; exact HLEN.out
          have o1 : w6.ownsRow w.heap.size 36 2 (.slice (some ⟨g1, 0, none⟩) n1 n1) n1 (flat (ins (rest l i) (pl (rest l i) num) (num, kk))) :=
            own_of_take (ys := flat (ins (rest l i) (pl (rest l i) num) (num, kk))) HD6.out (by rw [flat_len, hL]) hL (by omega) hz1 (List.take_of_length_le (Nat.le_of_eq (by rw [flat_len, hL]))) (by omega)
          have o2 : w6.ownsRow w.heap.size 44 2 (.slice (some ⟨g2, 0, none⟩) f n2) f (flat (swapM num num m)) := HRW.out.owns HF.out hz2 (by omega)
          have f1 : (Value.slice (some ⟨g1, 0, none⟩) n1 n1).ownBlock ≠ some (w.heap.size + 1) := AddC.own_off (by omega)
          have f2 : (Value.slice (some ⟨g2, 0, none⟩) f n2).ownBlock ≠ some (w.heap.size + 1) := AddC.own_off (by omega)
          have f3 : (Value.slice (some ⟨g1, 0, none⟩) n1 n1).ownBlock ≠ some w4.heap.size := AddC.own_off (by omega)
          have f4 : (Value.slice (some ⟨g2, 0, none⟩) f n2).ownBlock ≠ some w4.heap.size := AddC.own_off (by omega)
          have hB6 : Below w.heap.size w w6 := HBZ.out.trans (HK6.out.below (fun b hb => by rcases hb with rfl | rfl <;> omega) HBZ.out.size)
          refine ⟨some ⟨g1, 0, none⟩, n1, n1, some ⟨g2, 0, none⟩, f, n2, rfl, ⟨setCell_far (setCell_far (setCell_far o1 f3) f1) f1, setCell_far (setCell_far (setCell_far o2 f4) f2) f2, ?_⟩, by omega, by omega, ?_⟩
          · intro g e1 e2
            have e1' : g1 = g := by simpa [Value.ownBlock] using e1
            have e2' : g2 = g := by simpa [Value.ownBlock] using e2
            exact hg12 (e1'.trans e2'.symm)
          · exact ((hB6.setCell (p := ⟨w4.heap.size, 1, none⟩) (by show _ ≤ w4.heap.size; omega) _).setCell (p := ⟨w.heap.size + 1, 0, none⟩) (Nat.le_succ _) _).setCell (p := ⟨w.heap.size + 1, 1, none⟩) (Nat.le_succ _) _
        · have hq : (num == old) = false := by simpa using hne
          have hq2 : (num != old) = true := by simpa using hne
          have HNE := Lib.hid hne
          go_wp2_with fail
          refine (Avr.hasContext_any a1 a2 n1 c1 n2 c2 l num w1 hz1 (H1.out.below b2) (good_asc HG.out).1).mono ?_
          rintro e w2 ⟨rfl, b3'⟩
          have b3 := b2.trans (b3'.mono b2.size)
          clear r1 r2 s1 s2 t1 t2 HB2 b3'
          have r1 := (b3.cell (p := ⟨w.heap.size, 0, none⟩) lw).trans x1
          have r2 := (b3.cell (p := ⟨w.heap.size, 1, none⟩) lw).trans x2
          have s1 := (b3.cell (p := ⟨w.heap.size + 1, 0, none⟩) lw1).trans y1
          have s2 := (b3.cell (p := ⟨w.heap.size + 1, 1, none⟩) lw1).trans y2
          have t1 := fz b3 ⟨w.heap.size + 1, 0, none⟩ lw1 fy1
          have t2 := fz b3 ⟨w.heap.size + 1, 1, none⟩ lw1 fy2
          have HB2 := Lib.hid (hb0.trans (b3.mono hb0.size))
          cases hh : (isAt l num).isSome with
          | true =>
            have HE := Lib.hid (renM_has (m := m) HI.out HNE.out hh)
            go_wp2_with fail
            obtain ⟨q1, q2⟩ := set2_cells (u := .slice none 0 0) (v := .slice none 0 0) s1 s2
            refine bodyPost_ret (v := .tuple #[.agg #[.slice none 0 0, .slice none 0 0], .bool false]) (by simp [results, Try.results23, go_sem, q1, q2]) rfl ?_
            rw [HE.out]
            exact ⟨none, 0, 0, none, 0, 0, rfl, Got.nil _ _, by omega, by omega, ((HB2.out.setCell (p := ⟨w.heap.size + 1, 0, none⟩) (Nat.le_succ _) _).setCell (p := ⟨w.heap.size + 1, 1, none⟩) (Nat.le_succ _) _)⟩
          | false =>
            have HNO : Hid (¬ (num ≠ old ∧ (isAt l num).isSome = true)) := fun h => by rw [hh] at h; exact absurd h.2 (by simp)
            clear hh
            go_wp2_with fail
            refine (copyRecord_any a1 a2 n1 c1 n2 c2 l m hz1 hz2 w2 (H1.out.below b3) (H2.out.below b3)).mono ?_
            rintro e w4 ⟨g1, g2, rfl, o4, b4⟩
            have hg1 : w2.heap.size ≤ g1 ∧ g1 < w4.heap.size := o4.ctx.lt g1 rfl
            have hg2 : w2.heap.size ≤ g2 ∧ g2 < w4.heap.size := o4.rel.lt g2 rfl
            have hg12 := o4.ne
            have hs1 := b3.size
            have hs2 := b4.size
            have b34 := b3.trans (b4.mono b3.size)
            have hba := below_alloc w4 (.cells #[.slice (some ⟨g1, 0, none⟩) n1 n1, .slice (some ⟨g2, 0, none⟩) n2 n2] 32)
            have hbk1 := (hba.block g1 hg1.2).trans (block_of_own o4.ctx)
            have u1 := box_first w4 (.slice (some ⟨g1, 0, none⟩) n1 n1) (.slice (some ⟨g2, 0, none⟩) n2 n2) 32
            obtain ⟨xx, kk, hx⟩ : ∃ xx kk, l[i]? = some (xx, kk) := ⟨_, _, List.getElem?_eq_getElem (by rw [H1.out.1]; exact hil)⟩
            have hgc := flat_get l i xx kk hx
            have j1 : (w4.alloc (.cells #[.slice (some ⟨g1, 0, none⟩) n1 n1, .slice (some ⟨g2, 0, none⟩) n2 n2] 32)).cell? ⟨g1, i * 2, none⟩ = some (.int .i64 xx) := by simp only [World.cell?, hbk1, List.getElem?_toArray]; rw [hgc.1]; rfl
            have j2 : (w4.alloc (.cells #[.slice (some ⟨g1, 0, none⟩) n1 n1, .slice (some ⟨g2, 0, none⟩) n2 n2] 32)).frozen? ⟨g1, i * 2, none⟩ = false := by simp only [World.frozen?, hbk1]; rfl
            have hsv : (w4.setCell ⟨g1, i * 2, none⟩ (.int .i64 num)).heap.size = w4.heap.size := Go.Deep.nblk_setCell _ _ _
            have hbv := below_alloc (w4.setCell ⟨g1, i * 2, none⟩ (.int .i64 num)) (.cells #[.slice (some ⟨g1, 0, none⟩) n1 n1, .slice (some ⟨g2, 0, none⟩) n2 n2] 32)
            rw [hsv] at hbv
            have HV1 := Lib.hid ((hbv.block g1 hg1.2).trans (put_block (n := num) (block_of_own o4.ctx) hx))
            have HV2 := Lib.hid ((hbv.block g2 hg2.2).trans ((Go.Deep.blk_setCell_other w4 ⟨g1, i * 2, none⟩ (.int .i64 num) g2 (by show g2 ≠ g1; omega)).trans (block_of_own o4.rel)))
            have hvu := heap_alloc_new (w4.setCell ⟨g1, i * 2, none⟩ (.int .i64 num)) (.cells #[.slice (some ⟨g1, 0, none⟩) n1 n1, .slice (some ⟨g2, 0, none⟩) n2 n2] 32)
            rw [hsv] at hvu
            have HVU := Lib.hid hvu
            have e4 : ((w4.setCell ⟨g1, i * 2, none⟩ (.int .i64 num)).alloc (.cells #[.slice (some ⟨g1, 0, none⟩) n1 n1, .slice (some ⟨g2, 0, none⟩) n2 n2] 32)).heap.size = w4.heap.size + 1 := by simp
            have HE4 := Lib.hid e4
            have b35 := b34.setCell (p := ⟨g1, i * 2, none⟩) (by show W.heap.size ≤ g1; omega) (.int .i64 num)
            have hBV := b35.trans (hbv.mono b34.size)
            have HS1 := Lib.hid ((hBV.cell (p := ⟨w.heap.size + 1, 0, none⟩) lw1).trans y1)
            have HS2 := Lib.hid ((hBV.cell (p := ⟨w.heap.size + 1, 1, none⟩) lw1).trans y2)
            have HT1 := Lib.hid (fz hBV ⟨w.heap.size + 1, 0, none⟩ lw1 fy1)
            have HT2 := Lib.hid (fz hBV ⟨w.heap.size + 1, 1, none⟩ lw1 fy2)
            have HE := Lib.hid (renM_some (m := m) HG.out HR1.out.1 HR1.out.2 HI.out HNO.out)
            have HX := Lib.hid hx
            have HBZ := Lib.hid (hb0.trans (hBV.mono hb0.size))
            have hin : (i : Int) < (n1 : Int) := by omega
            have hi0 : (0 : Int) ≤ (i : Int) := by omega
            clear r1 r2 s1 s2 t1 t2 HB2 hx hgc o4 b4 b34 b35 hBV hvu hbv hsv e4 hba hbk1 b3 x1 x2 y1 y2 fy1 fy2
            go_wp2_with fail
            clear j1 j2 u1
            generalize ((w4.setCell ⟨g1, i * 2, none⟩ (.int .i64 num)).alloc (.cells #[.slice (some ⟨g1, 0, none⟩) n1 n1, .slice (some ⟨g2, 0, none⟩) n2 n2] 32)) = V5 at *
            have hll : (l.set i (num, kk)).length = n1 := by rw [List.length_set]; exact H1.out.1
            have hnd := nodup_set_rest (k := kk) (i := i) (n := num) (by rw [H1.out.1]; exact hil) (by have h := SortC.up_nodup (good_asc HG.out).1; exact SortC.rest_nodup h) (rest_ne HG.out HI.out HNO.out)
            refine (SortC.sort_any (kfOf (l.set i (num, kk))) (l.set i (num, kk)) (kfOf_is hnd) g1 n1 hll (by omega) hz1 V5 HV1.out).mono ?_
            rintro e w5 ⟨rfl, hd1, hk5'⟩
            rw [srt_put (good_asc HG.out).1 (by rw [H1.out.1]; exact hil) (rest_ne HG.out HI.out HNO.out)] at hd1
            have hk5 := hk5'
            have e5 := HE4.out
            have hu5 : w5.heap[w4.heap.size]? = some (.cells #[.slice (some ⟨g1, 0, none⟩) n1 n1, .slice (some ⟨g2, 0, none⟩) n2 n2] 32) := (hk5.block _ (by omega) (by omega)).trans HVU.out
            have c2' : w5.cell? ⟨w4.heap.size, 1, none⟩ = some (.slice (some ⟨g2, 0, none⟩) n2 n2) := by simp only [World.cell?, hu5]; rfl
            have HG5 : Hid (w5.heap[g2]? = some (.cells (flat m).toArray 44)) := (hk5.block g2 (by omega) (by omega)).trans HV2.out
            have HD5 := Lib.hid hd1
            have HK5 := Lib.hid hk5
            have HU5 := Lib.hid hu5
            clear hd1 hk5 hk5' hu5 hnd hll
            go_wp2_with fail
            clear c2'
            refine (Renum.renum_any old num g2 n2 m H2.out.1 hz2 w5 HG5.out).mono ?_
            rintro e w6 ⟨rfl, jj, m', hR⟩
            have hk6 := hR.kept
            have hsz5 := HK5.out.size
            have HRW := Lib.hid hR
            have hlen : (swapM old num m).length ≤ n2 := by have h := swap_len old num m m.length; rw [List.take_length, H2.out.1] at h; exact h
            have hu6 : w6.heap[w4.heap.size]? = some (.cells #[(.slice (some ⟨g1, 0, none⟩) n1 n1), .slice (some ⟨g2, 0, none⟩) n2 n2] 32) := (hk6.block _ (by omega) (by omega)).trans HU5.out
            have c1' : w6.cell? ⟨w4.heap.size, 0, none⟩ = some (.slice (some ⟨g1, 0, none⟩) n1 n1) := by simp only [World.cell?, hu6]; rfl
            have c2' : w6.cell? ⟨w4.heap.size, 1, none⟩ = some (.slice (some ⟨g2, 0, none⟩) n2 n2) := by simp only [World.cell?, hu6]; rfl
            have d1' : w6.frozen? ⟨w4.heap.size, 1, none⟩ = false := by simp only [World.frozen?, hu6]; rfl
            have HK6 : Hid (Kept (fun b => b = g1 ∨ b = g2) V5 w6) := (HK5.out.mono (fun _ h => .inl h)).trans (hk6.mono (fun _ h => .inr h))
            have s16 := HK6.out.cell HS1.out (by show ¬ (w.heap.size + 1 = g1 ∨ w.heap.size + 1 = g2); omega)
            have s26 := HK6.out.cell HS2.out (by show ¬ (w.heap.size + 1 = g1 ∨ w.heap.size + 1 = g2); omega)
            have t16 : w6.frozen? ⟨w.heap.size + 1, 0, none⟩ = false := (World.frozen?_of_block (HK6.out.block (w.heap.size + 1) (by omega) (by omega))).trans HT1.out
            have t26 : w6.frozen? ⟨w.heap.size + 1, 1, none⟩ = false := (World.frozen?_of_block (HK6.out.block (w.heap.size + 1) (by omega) (by omega))).trans HT2.out
            have HD6 : Hid (w6.heap[g1]? = some (.cells (flat (ins (rest l i) (pl (rest l i) num) (num, kk))).toArray 36)) := (hk6.block g1 (by omega) hg12).trans HD5.out
            have HLEN := Lib.hid hlen
            obtain ⟨f, hf⟩ : ∃ f, (swapM old num m).length = f := ⟨_, rfl⟩
            have HF := Lib.hid hf
            rw [hf]
            clear hR hu6 hk6 hlen hf
            go_wp2_with fail
            have z1 : (w6.setCell ⟨w4.heap.size, 1, none⟩ (.slice (some ⟨g2, 0, none⟩) f n2)).cell? ⟨w.heap.size + 1, 0, none⟩ = some (.slice none 0 0) := by
              rw [World.cell?_setCell_other _ _ _ _ (by intro e; injection e with e; omega)]
              exact s16
            have z2 : (w6.setCell ⟨w4.heap.size, 1, none⟩ (.slice (some ⟨g2, 0, none⟩) f n2)).cell? ⟨w.heap.size + 1, 1, none⟩ = some (.slice none 0 0) := by
              rw [World.cell?_setCell_other _ _ _ _ (by intro e; injection e with e; omega)]
              exact s26
            obtain ⟨q1, q2⟩ := set2_cells (u := (.slice (some ⟨g1, 0, none⟩) n1 n1)) (v := .slice (some ⟨g2, 0, none⟩) f n2) z1 z2
            refine bodyPost_ret (v := .tuple #[.agg #[(.slice (some ⟨g1, 0, none⟩) n1 n1), .slice (some ⟨g2, 0, none⟩) f n2], .bool true]) (by simp [results, Try.results23, go_sem, q1, q2]) rfl ?_
            rw [HE.out, kindAt_is HX.out]
            have hL : (ins (rest l i) (pl (rest l i) num) (num, kk)).length = n1 := by rw [ins_rest_len (by rw [H1.out.1]; exact hil)]; exact H1.out.1
            have hfn : f ≤ n2 := by rw [← HF.out]; exact HLEN.out
            have o1 : w6.ownsRow w.heap.size 36 2 (.slice (some ⟨g1, 0, none⟩) n1 n1) n1 (flat (ins (rest l i) (pl (rest l i) num) (num, kk))) :=
              own_of_take (ys := flat (ins (rest l i) (pl (rest l i) num) (num, kk))) HD6.out (by rw [flat_len, hL]) hL (by omega) hz1 (List.take_of_length_le (Nat.le_of_eq (by rw [flat_len, hL]))) (by omega)
            have o2 : w6.ownsRow w.heap.size 44 2 (.slice (some ⟨g2, 0, none⟩) f n2) f (flat (swapM old num m)) := HRW.out.owns HF.out hz2 (by omega)
            have f1 : (Value.slice (some ⟨g1, 0, none⟩) n1 n1).ownBlock ≠ some (w.heap.size + 1) := AddC.own_off (by omega)
            have f2 : (Value.slice (some ⟨g2, 0, none⟩) f n2).ownBlock ≠ some (w.heap.size + 1) := AddC.own_off (by omega)
            have f3 : (Value.slice (some ⟨g1, 0, none⟩) n1 n1).ownBlock ≠ some w4.heap.size := AddC.own_off (by omega)
            have f4 : (Value.slice (some ⟨g2, 0, none⟩) f n2).ownBlock ≠ some w4.heap.size := AddC.own_off (by omega)
            have hB6 : Below w.heap.size w w6 := HBZ.out.trans (HK6.out.below (fun b hb => by rcases hb with rfl | rfl <;> omega) HBZ.out.size)
            refine ⟨some ⟨g1, 0, none⟩, n1, n1, some ⟨g2, 0, none⟩, f, n2, rfl, ⟨setCell_far (setCell_far (setCell_far o1 f3) f1) f1, setCell_far (setCell_far (setCell_far o2 f4) f2) f2, ?_⟩, by omega, by omega, ?_⟩
            · intro g e1 e2
              have e1' : g1 = g := by simpa [Value.ownBlock] using e1
              have e2' : g2 = g := by simpa [Value.ownBlock] using e2
              exact hg12 (e1'.trans e2'.symm)
            · exact ((hB6.setCell (p := ⟨w4.heap.size, 1, none⟩) (by show _ ≤ w4.heap.size; omega) _).setCell (p := ⟨w.heap.size + 1, 0, none⟩) (Nat.le_succ _) _).setCell (p := ⟨w.heap.size + 1, 1, none⟩) (Nat.le_succ _) _
  · have hi1 : idx l m old = (0, false) := by unfold idx; rw [if_neg hgk]
    rw [hi1]
    have HE : Hid (renM old num l m = none) := by
      cases hg : good l m with
      | false => exact renM_bad hg
      | true =>
        refine renM_noO ?_
        cases h : isAt l old with
        | none => rfl
        | some k => exact absurd ⟨hg, by rw [h]; rfl⟩ hgk
    clear hi1 hgk
    go_wp2_with fail
    obtain ⟨q1, q2⟩ := set2_cells (u := .slice none 0 0) (v := .slice none 0 0) s1 s2
    refine bodyPost_ret (v := .tuple #[.agg #[.slice none 0 0, .slice none 0 0], .bool false]) (by simp [results, Try.results23, go_sem, q1, q2]) rfl ?_
    rw [HE.out]
    exact ⟨none, 0, 0, none, 0, 0, rfl, Got.nil _ _, by omega, by omega, ((HB2.out.setCell (p := ⟨w.heap.size + 1, 0, none⟩) (Nat.le_succ _) _).setCell (p := ⟨w.heap.size + 1, 1, none⟩) (Nat.le_succ _) _)⟩
end Go.Proofs.Ytknlackphdcflaa.RenI
