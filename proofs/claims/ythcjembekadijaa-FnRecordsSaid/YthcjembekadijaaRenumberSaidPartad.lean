/- The program's RenumberContext: a record in which a context has another number. -/
import Derived.Test.YthcjembekadijaaRenumberSaidPartab
import Derived.Test.YthcjembekadijaaOrderSaidPartaw
import Derived.Test.YthcjembekadijaaRenumberSaidPartac
import Derived.Test.YthcjembekadijaaOrderSaidPartay
import Derived.Test.YthcjembekadijaaRenumberSaidPartaa
import Derived.Test.YthcjembekadijaaOrderSaidPartas
import Derived.Test.YthcjembekadijaaOrderSaidPartau
import Derived.Deep.RegionHeld3
import Derived.BigQuiet
import Derived.Lib.QuietBelow
namespace Go.Proofs.Ythcjembekadijaa.RenI
open Go.RowKit Pairs Rec RecEq Find2 GoodM RelM Keep Row2 Copy Two Gives Idx SwapM EquM RenM SortC
open RemC (block_of_own own_of_take isAt_split)
set_option maxRecDepth 100000 in
set_option maxHeartbeats 8000000 in
theorem impl_any (old num : Int) : Gives2 42 (.int .i64 old) (.int .i64 num) (renM old num) := by
  intro a1 a2 n1 c1 n2 c2 l m w hz1 hz2 h1 h2
  obtain ⟨fy1, fy2⟩ := fz_box2 w (.slice a1 n1 c1) (.slice a2 n2 c2) (.slice none 0 0) (.slice none 0 0) 27 27
  obtain ⟨hs, x1, x2, y1, y2, hb0⟩ := boxes2 w (.slice a1 n1 c1) (.slice a2 n2 c2) (.slice none 0 0) (.slice none 0 0) 27 27
  have HS := Lib.hid hs
  have H1 := Lib.hid (h1.below hb0)
  have H2 := Lib.hid (h2.below hb0)
  clear h1 h2 hs
  go_enter Try.func42, Try.ntmps42
  go_wp2_with fail
  generalize ((w.alloc (.cells #[.slice a1 n1 c1, .slice a2 n2 c2] 27)).alloc (.cells #[.slice none 0 0, .slice none 0 0] 27)) = W at *
  have lw : w.heap.size < W.heap.size := by rw [HS.out]; omega
  have lw1 : w.heap.size + 1 < W.heap.size := by rw [HS.out]; omega
  refine (impl_Index a1 a2 n1 c1 n2 c2 l m old W hz1 hz2 H1.out H2.out).mono ?_
  rintro e w1 ⟨rfl, b2⟩
  have r1 := (b2.cell (p := ⟨w.heap.size, 0, none⟩) lw).trans x1
  have r2 := (b2.cell (p := ⟨w.heap.size, 1, none⟩) lw).trans x2
  have s1 := (b2.cell (p := ⟨w.heap.size + 1, 0, none⟩) lw1).trans y1
  have s2 := (b2.cell (p := ⟨w.heap.size + 1, 1, none⟩) lw1).trans y2
  have t1 := fz b2 ⟨w.heap.size + 1, 0, none⟩ lw1 fy1
  have t2 := fz b2 ⟨w.heap.size + 1, 1, none⟩ lw1 fy2
  have HB2 := Lib.hid (hb0.trans (b2.mono hb0.size))
  by_cases hgk : good l m = true ∧ (isAt l old).isSome = true
  · obtain ⟨i, hi⟩ := Option.isSome_iff_exists.1 hgk.2
    have hi1 : idx l m old = ((i : Int), true) := by unfold idx; rw [if_pos hgk, find_some hi]
    rw [hi1]
    have HG := Lib.hid hgk.1
    have HI := Lib.hid hi
    have hil : i < n1 := by rw [← H1.out.1]; exact isAt_lt hi
    have hn1 : n1 ≤ 10 := by rw [← H1.out.1]; exact (good_asc HG.out).2
    clear hi hi1 hgk
    by_cases hlo : num < 1
    · have HE := Lib.hid (renM_far (o := old) (l := l) (m := m) (n := num) (by omega))
      have hlo2 : decide (num < 1) = true := decide_eq_true hlo
      go_wp2_with fail
      obtain ⟨q1, q2⟩ := set2_cells (u := .slice none 0 0) (v := .slice none 0 0) s1 s2
      refine bodyPost_ret (v := .tuple #[.agg #[.slice none 0 0, .slice none 0 0], .bool false]) (by simp [results, Try.results42, go_sem, q1, q2]) rfl ?_
      rw [HE.out]
      exact ⟨none, 0, 0, none, 0, 0, rfl, Got.nil _ _, by omega, by omega, ((HB2.out.setCell (p := ⟨w.heap.size + 1, 0, none⟩) (Nat.le_succ _) _).setCell (p := ⟨w.heap.size + 1, 1, none⟩) (Nat.le_succ _) _)⟩
    · have hlo2 : decide (num < 1) = false := decide_eq_false hlo
      by_cases hhi : 999 < num
      · have HE := Lib.hid (renM_far (o := old) (l := l) (m := m) (n := num) (by omega))
        have hhi2 : decide (999 < num) = true := decide_eq_true hhi
        go_wp2_with fail
        obtain ⟨q1, q2⟩ := set2_cells (u := .slice none 0 0) (v := .slice none 0 0) s1 s2
        refine bodyPost_ret (v := .tuple #[.agg #[.slice none 0 0, .slice none 0 0], .bool false]) (by simp [results, Try.results42, go_sem, q1, q2]) rfl ?_
        rw [HE.out]
        exact ⟨none, 0, 0, none, 0, 0, rfl, Got.nil _ _, by omega, by omega, ((HB2.out.setCell (p := ⟨w.heap.size + 1, 0, none⟩) (Nat.le_succ _) _).setCell (p := ⟨w.heap.size + 1, 1, none⟩) (Nat.le_succ _) _)⟩
      · have hhi2 : decide (999 < num) = false := decide_eq_false hhi
        have HR1 : Hid (1 ≤ num ∧ num ≤ 999) := by unfold Hid; omega
        have key : ∀ wq, Below W.heap.size W wq → ∀ (hno : Hid (¬ (num ≠ old ∧ (isAt l num).isSome = true))), True := fun _ _ _ => trivial
        clear key
        by_cases hne : num = old
        · have HNO : Hid (¬ (num ≠ old ∧ (isAt l num).isSome = true)) := fun h => h.1 hne
          subst hne
          have hq : (num == num) = true := by simp
          have hq2 : (num != num) = false := by simp
          go_wp2_with fail
          refine (copyRecord_any a1 a2 n1 c1 n2 c2 l m hz1 hz2 w1 (H1.out.below b2) (H2.out.below b2)).mono ?_
          rintro e w4 ⟨g1, g2, rfl, o4, b4⟩
          have hg1 : w1.heap.size ≤ g1 ∧ g1 < w4.heap.size := o4.ctx.lt g1 rfl
          have hg2 : w1.heap.size ≤ g2 ∧ g2 < w4.heap.size := o4.rel.lt g2 rfl
          have hg12 := o4.ne
          have hs1 := b2.size
          have hs2 := b4.size
          have b34 := b2.trans (b4.mono b2.size)
          have hba := below_alloc w4 (.cells #[.slice (some ⟨g1, 0, none⟩) n1 n1, .slice (some ⟨g2, 0, none⟩) n2 n2] 27)
          have hbk1 := (hba.block g1 hg1.2).trans (block_of_own o4.ctx)
          have u1 := box_first w4 (.slice (some ⟨g1, 0, none⟩) n1 n1) (.slice (some ⟨g2, 0, none⟩) n2 n2) 27
          obtain ⟨xx, kk, hx⟩ : ∃ xx kk, l[i]? = some (xx, kk) := ⟨_, _, List.getElem?_eq_getElem (by rw [H1.out.1]; exact hil)⟩
          have hgc := flat_get l i xx kk hx
          have j1 : (w4.alloc (.cells #[.slice (some ⟨g1, 0, none⟩) n1 n1, .slice (some ⟨g2, 0, none⟩) n2 n2] 27)).cell? ⟨g1, i * 2, none⟩ = some (.int .i64 xx) := by simp only [World.cell?, hbk1, List.getElem?_toArray]; rw [hgc.1]; rfl
          have j2 : (w4.alloc (.cells #[.slice (some ⟨g1, 0, none⟩) n1 n1, .slice (some ⟨g2, 0, none⟩) n2 n2] 27)).frozen? ⟨g1, i * 2, none⟩ = false := by simp only [World.frozen?, hbk1]; rfl
          have hsv : (w4.setCell ⟨g1, i * 2, none⟩ (.int .i64 num)).heap.size = w4.heap.size := Go.Deep.nblk_setCell _ _ _
          have hbv := below_alloc (w4.setCell ⟨g1, i * 2, none⟩ (.int .i64 num)) (.cells #[.slice (some ⟨g1, 0, none⟩) n1 n1, .slice (some ⟨g2, 0, none⟩) n2 n2] 27)
          rw [hsv] at hbv
          have HV1 := Lib.hid ((hbv.block g1 hg1.2).trans (put_block (n := num) (block_of_own o4.ctx) hx))
          have HV2 := Lib.hid ((hbv.block g2 hg2.2).trans ((Go.Deep.blk_setCell_other w4 ⟨g1, i * 2, none⟩ (.int .i64 num) g2 (by show g2 ≠ g1; omega)).trans (block_of_own o4.rel)))
          have hvu := heap_alloc_new (w4.setCell ⟨g1, i * 2, none⟩ (.int .i64 num)) (.cells #[.slice (some ⟨g1, 0, none⟩) n1 n1, .slice (some ⟨g2, 0, none⟩) n2 n2] 27)
          rw [hsv] at hvu
          have HVU := Lib.hid hvu
          have e4 : ((w4.setCell ⟨g1, i * 2, none⟩ (.int .i64 num)).alloc (.cells #[.slice (some ⟨g1, 0, none⟩) n1 n1, .slice (some ⟨g2, 0, none⟩) n2 n2] 27)).heap.size = w4.heap.size + 1 := by simp
          have HE4 := Lib.hid e4
          have b35 := b34.setCell (p := ⟨g1, i * 2, none⟩) (by show W.heap.size ≤ g1; omega) (.int .i64 num)
          have hBV := b35.trans (hbv.mono b34.size)
          have HS1 := Lib.hid ((hBV.cell (p := ⟨w.heap.size + 1, 0, none⟩) lw1).trans y1)
          have HS2 := Lib.hid ((hBV.cell (p := ⟨w.heap.size + 1, 1, none⟩) lw1).trans y2)
          have HT1 := Lib.hid (fz hBV ⟨w.heap.size + 1, 0, none⟩ lw1 fy1)
          have HT2 := Lib.hid (fz hBV ⟨w.heap.size + 1, 1, none⟩ lw1 fy2)
          have HE := Lib.hid (renM_some (m := m) HG.out HR1.out.1 HR1.out.2 HI.out HNO.out)
          have HX := Lib.hid hx
          have HBZ := Lib.hid (hb0.trans (hBV.mono hb0.size))
          have hin : (i : Int) < (n1 : Int) := by omega
          have hi0 : (0 : Int) ≤ (i : Int) := by omega
          clear r1 r2 s1 s2 t1 t2 HB2 hx hgc o4 b4 b34 b35 hBV hvu hbv hsv e4 hba hbk1 b2 x1 x2 y1 y2 fy1 fy2
          go_wp2_with fail
          clear j1 j2 u1
          generalize ((w4.setCell ⟨g1, i * 2, none⟩ (.int .i64 num)).alloc (.cells #[.slice (some ⟨g1, 0, none⟩) n1 n1, .slice (some ⟨g2, 0, none⟩) n2 n2] 27)) = V5 at *
          have hll : (l.set i (num, kk)).length = n1 := by rw [List.length_set]; exact H1.out.1
          have hnd := nodup_set_rest (k := kk) (i := i) (n := num) (by rw [H1.out.1]; exact hil) (by have h := SortC.up_nodup (good_asc HG.out).1; exact SortC.rest_nodup h) (rest_ne HG.out HI.out HNO.out)
          refine (SortC.sort_any (kfOf (l.set i (num, kk))) (l.set i (num, kk)) (kfOf_is hnd) g1 n1 hll (by omega) hz1 V5 HV1.out).mono ?_
          rintro e w5 ⟨rfl, hd1, hk5'⟩
          rw [srt_put (good_asc HG.out).1 (by rw [H1.out.1]; exact hil) (rest_ne HG.out HI.out HNO.out)] at hd1
          have hk5 := hk5'
          have e5 := HE4.out
          have hu5 : w5.heap[w4.heap.size]? = some (.cells #[.slice (some ⟨g1, 0, none⟩) n1 n1, .slice (some ⟨g2, 0, none⟩) n2 n2] 27) := (hk5.block _ (by omega) (by omega)).trans HVU.out
          have c2' : w5.cell? ⟨w4.heap.size, 1, none⟩ = some (.slice (some ⟨g2, 0, none⟩) n2 n2) := by simp only [World.cell?, hu5]; rfl
          have HG5 : Hid (w5.heap[g2]? = some (.cells (flat m).toArray 39)) := (hk5.block g2 (by omega) (by omega)).trans HV2.out
          have HD5 := Lib.hid hd1
          have HK5 := Lib.hid hk5
          have HU5 := Lib.hid hu5
          clear hd1 hk5 hk5' hu5 hnd hll
          go_wp2_with fail
          clear c2'
          refine (Renum.renum_any num num g2 n2 m H2.out.1 hz2 w5 HG5.out).mono ?_
          rintro e w6 ⟨rfl, jj, m', hR⟩
          have hk6 := hR.kept
          have hsz5 := HK5.out.size
          have HRW := Lib.hid hR
          have hlen : (swapM num num m).length ≤ n2 := by have h := swap_len num num m m.length; rw [List.take_length, H2.out.1] at h; exact h
          have hu6 : w6.heap[w4.heap.size]? = some (.cells #[(.slice (some ⟨g1, 0, none⟩) n1 n1), .slice (some ⟨g2, 0, none⟩) n2 n2] 27) := (hk6.block _ (by omega) (by omega)).trans HU5.out
          have c1' : w6.cell? ⟨w4.heap.size, 0, none⟩ = some (.slice (some ⟨g1, 0, none⟩) n1 n1) := by simp only [World.cell?, hu6]; rfl
          have c2' : w6.cell? ⟨w4.heap.size, 1, none⟩ = some (.slice (some ⟨g2, 0, none⟩) n2 n2) := by simp only [World.cell?, hu6]; rfl
          have d1' : w6.frozen? ⟨w4.heap.size, 1, none⟩ = false := by simp only [World.frozen?, hu6]; rfl
          have HK6 : Hid (Kept (fun b => b = g1 ∨ b = g2) V5 w6) := (HK5.out.mono (fun _ h => .inl h)).trans (hk6.mono (fun _ h => .inr h))
          have s16 := HK6.out.cell HS1.out (by show ¬ (w.heap.size + 1 = g1 ∨ w.heap.size + 1 = g2); omega)
          have s26 := HK6.out.cell HS2.out (by show ¬ (w.heap.size + 1 = g1 ∨ w.heap.size + 1 = g2); omega)
          have t16 : w6.frozen? ⟨w.heap.size + 1, 0, none⟩ = false := (World.frozen?_of_block (HK6.out.block (w.heap.size + 1) (by omega) (by omega))).trans HT1.out
          have t26 : w6.frozen? ⟨w.heap.size + 1, 1, none⟩ = false := (World.frozen?_of_block (HK6.out.block (w.heap.size + 1) (by omega) (by omega))).trans HT2.out
          have HD6 : Hid (w6.heap[g1]? = some (.cells (flat (ins (rest l i) (pl (rest l i) num) (num, kk))).toArray 55)) := (hk6.block g1 (by omega) hg12).trans HD5.out
          have HLEN := Lib.hid hlen
          obtain ⟨f, hf⟩ : ∃ f, (swapM num num m).length = f := ⟨_, rfl⟩
          have HF := Lib.hid hf
          rw [hf]
          clear hR hu6 hk6 hlen hf
          go_wp2_with fail
          have z1 : (w6.setCell ⟨w4.heap.size, 1, none⟩ (.slice (some ⟨g2, 0, none⟩) f n2)).cell? ⟨w.heap.size + 1, 0, none⟩ = some (.slice none 0 0) := by
            rw [World.cell?_setCell_other _ _ _ _ (by intro e; injection e with e; omega)]
            exact s16
          have z2 : (w6.setCell ⟨w4.heap.size, 1, none⟩ (.slice (some ⟨g2, 0, none⟩) f n2)).cell? ⟨w.heap.size + 1, 1, none⟩ = some (.slice none 0 0) := by
            rw [World.cell?_setCell_other _ _ _ _ (by intro e; injection e with e; omega)]
            exact s26
          obtain ⟨q1, q2⟩ := set2_cells (u := (.slice (some ⟨g1, 0, none⟩) n1 n1)) (v := .slice (some ⟨g2, 0, none⟩) f n2) z1 z2
          refine bodyPost_ret (v := .tuple #[.agg #[(.slice (some ⟨g1, 0, none⟩) n1 n1), .slice (some ⟨g2, 0, none⟩) f n2], .bool true]) (by simp [results, Try.results42, go_sem, q1, q2]) rfl ?_
          rw [HE.out, kindAt_is HX.out]
          have hL : (ins (rest l i) (pl (rest l i) num) (num, kk)).length = n1 := by rw [ins_rest_len (by rw [H1.out.1]; exact hil)]; exact H1.out.1
          have hfn : f ≤ n2 := by rw [← HF.out]; exact HLEN.out
          have o1 : w6.ownsRow w.heap.size 55 2 (.slice (some ⟨g1, 0, none⟩) n1 n1) n1 (flat (ins (rest l i) (pl (rest l i) num) (num, kk))) :=
            own_of_take (ys := flat (ins (rest l i) (pl (rest l i) num) (num, kk))) HD6.out (by rw [flat_len, hL]) hL (by omega) hz1 (List.take_of_length_le (Nat.le_of_eq (by rw [flat_len, hL]))) (by omega)
          have o2 : w6.ownsRow w.heap.size 39 2 (.slice (some ⟨g2, 0, none⟩) f n2) f (flat (swapM num num m)) := HRW.out.owns HF.out hz2 (by omega)
          have f1 : (Value.slice (some ⟨g1, 0, none⟩) n1 n1).ownBlock ≠ some (w.heap.size + 1) := AddC.own_off (by omega)
          have f2 : (Value.slice (some ⟨g2, 0, none⟩) f n2).ownBlock ≠ some (w.heap.size + 1) := AddC.own_off (by omega)
          have f3 : (Value.slice (some ⟨g1, 0, none⟩) n1 n1).ownBlock ≠ some w4.heap.size := AddC.own_off (by omega)
          have f4 : (Value.slice (some ⟨g2, 0, none⟩) f n2).ownBlock ≠ some w4.heap.size := AddC.own_off (by omega)
          have hB6 : Below w.heap.size w w6 := HBZ.out.trans (HK6.out.below (fun b hb => by rcases hb with rfl | rfl <;> omega) HBZ.out.size)
          refine ⟨some ⟨g1, 0, none⟩, n1, n1, some ⟨g2, 0, none⟩, f, n2, rfl, ⟨setCell_far (setCell_far (setCell_far o1 f3) f1) f1, setCell_far (setCell_far (setCell_far o2 f4) f2) f2, ?_⟩, by omega, by omega, ?_⟩
          · intro g e1 e2
            have e1' : g1 = g := by simpa [Value.ownBlock] using e1
            have e2' : g2 = g := by simpa [Value.ownBlock] using e2
            exact hg12 (e1'.trans e2'.symm)
          · exact ((hB6.setCell (p := ⟨w4.heap.size, 1, none⟩) (by show _ ≤ w4.heap.size; omega) _).setCell (p := ⟨w.heap.size + 1, 0, none⟩) (Nat.le_succ _) _).setCell (p := ⟨w.heap.size + 1, 1, none⟩) (Nat.le_succ _) _
        · have hq : (num == old) = false := by simpa using hne
          have hq2 : (num != old) = true := by simpa using hne
          have HNE := Lib.hid hne
          go_wp2_with fail
          refine (Avr.hasContext_any a1 a2 n1 c1 n2 c2 l num w1 hz1 (H1.out.below b2) (good_asc HG.out).1).mono ?_
          rintro e w2 ⟨rfl, b3'⟩
          have b3 := b2.trans (b3'.mono b2.size)
          clear r1 r2 s1 s2 t1 t2 HB2 b3'
          have r1 := (b3.cell (p := ⟨w.heap.size, 0, none⟩) lw).trans x1
          have r2 := (b3.cell (p := ⟨w.heap.size, 1, none⟩) lw).trans x2
          have s1 := (b3.cell (p := ⟨w.heap.size + 1, 0, none⟩) lw1).trans y1
          have s2 := (b3.cell (p := ⟨w.heap.size + 1, 1, none⟩) lw1).trans y2
          have t1 := fz b3 ⟨w.heap.size + 1, 0, none⟩ lw1 fy1
          have t2 := fz b3 ⟨w.heap.size + 1, 1, none⟩ lw1 fy2
          have HB2 := Lib.hid (hb0.trans (b3.mono hb0.size))
          cases hh : (isAt l num).isSome with
          | true =>
            have HE := Lib.hid (renM_has (m := m) HI.out HNE.out hh)
            go_wp2_with fail
            obtain ⟨q1, q2⟩ := set2_cells (u := .slice none 0 0) (v := .slice none 0 0) s1 s2
            refine bodyPost_ret (v := .tuple #[.agg #[.slice none 0 0, .slice none 0 0], .bool false]) (by simp [results, Try.results42, go_sem, q1, q2]) rfl ?_
            rw [HE.out]
            exact ⟨none, 0, 0, none, 0, 0, rfl, Got.nil _ _, by omega, by omega, ((HB2.out.setCell (p := ⟨w.heap.size + 1, 0, none⟩) (Nat.le_succ _) _).setCell (p := ⟨w.heap.size + 1, 1, none⟩) (Nat.le_succ _) _)⟩
          | false =>
            have HNO : Hid (¬ (num ≠ old ∧ (isAt l num).isSome = true)) := fun h => by rw [hh] at h; exact absurd h.2 (by simp)
            clear hh
            go_wp2_with fail
            refine (copyRecord_any a1 a2 n1 c1 n2 c2 l m hz1 hz2 w2 (H1.out.below b3) (H2.out.below b3)).mono ?_
            rintro e w4 ⟨g1, g2, rfl, o4, b4⟩
            have hg1 : w2.heap.size ≤ g1 ∧ g1 < w4.heap.size := o4.ctx.lt g1 rfl
            have hg2 : w2.heap.size ≤ g2 ∧ g2 < w4.heap.size := o4.rel.lt g2 rfl
            have hg12 := o4.ne
            have hs1 := b3.size
            have hs2 := b4.size
            have b34 := b3.trans (b4.mono b3.size)
            have hba := below_alloc w4 (.cells #[.slice (some ⟨g1, 0, none⟩) n1 n1, .slice (some ⟨g2, 0, none⟩) n2 n2] 27)
            have hbk1 := (hba.block g1 hg1.2).trans (block_of_own o4.ctx)
            have u1 := box_first w4 (.slice (some ⟨g1, 0, none⟩) n1 n1) (.slice (some ⟨g2, 0, none⟩) n2 n2) 27
            obtain ⟨xx, kk, hx⟩ : ∃ xx kk, l[i]? = some (xx, kk) := ⟨_, _, List.getElem?_eq_getElem (by rw [H1.out.1]; exact hil)⟩
            have hgc := flat_get l i xx kk hx
            have j1 : (w4.alloc (.cells #[.slice (some ⟨g1, 0, none⟩) n1 n1, .slice (some ⟨g2, 0, none⟩) n2 n2] 27)).cell? ⟨g1, i * 2, none⟩ = some (.int .i64 xx) := by simp only [World.cell?, hbk1, List.getElem?_toArray]; rw [hgc.1]; rfl
            have j2 : (w4.alloc (.cells #[.slice (some ⟨g1, 0, none⟩) n1 n1, .slice (some ⟨g2, 0, none⟩) n2 n2] 27)).frozen? ⟨g1, i * 2, none⟩ = false := by simp only [World.frozen?, hbk1]; rfl
            have hsv : (w4.setCell ⟨g1, i * 2, none⟩ (.int .i64 num)).heap.size = w4.heap.size := Go.Deep.nblk_setCell _ _ _
            have hbv := below_alloc (w4.setCell ⟨g1, i * 2, none⟩ (.int .i64 num)) (.cells #[.slice (some ⟨g1, 0, none⟩) n1 n1, .slice (some ⟨g2, 0, none⟩) n2 n2] 27)
            rw [hsv] at hbv
            have HV1 := Lib.hid ((hbv.block g1 hg1.2).trans (put_block (n := num) (block_of_own o4.ctx) hx))
            have HV2 := Lib.hid ((hbv.block g2 hg2.2).trans ((Go.Deep.blk_setCell_other w4 ⟨g1, i * 2, none⟩ (.int .i64 num) g2 (by show g2 ≠ g1; omega)).trans (block_of_own o4.rel)))
            have hvu := heap_alloc_new (w4.setCell ⟨g1, i * 2, none⟩ (.int .i64 num)) (.cells #[.slice (some ⟨g1, 0, none⟩) n1 n1, .slice (some ⟨g2, 0, none⟩) n2 n2] 27)
            rw [hsv] at hvu
            have HVU := Lib.hid hvu
            have e4 : ((w4.setCell ⟨g1, i * 2, none⟩ (.int .i64 num)).alloc (.cells #[.slice (some ⟨g1, 0, none⟩) n1 n1, .slice (some ⟨g2, 0, none⟩) n2 n2] 27)).heap.size = w4.heap.size + 1 := by simp
            have HE4 := Lib.hid e4
            have b35 := b34.setCell (p := ⟨g1, i * 2, none⟩) (by show W.heap.size ≤ g1; omega) (.int .i64 num)
            have hBV := b35.trans (hbv.mono b34.size)
            have HS1 := Lib.hid ((hBV.cell (p := ⟨w.heap.size + 1, 0, none⟩) lw1).trans y1)
            have HS2 := Lib.hid ((hBV.cell (p := ⟨w.heap.size + 1, 1, none⟩) lw1).trans y2)
            have HT1 := Lib.hid (fz hBV ⟨w.heap.size + 1, 0, none⟩ lw1 fy1)
            have HT2 := Lib.hid (fz hBV ⟨w.heap.size + 1, 1, none⟩ lw1 fy2)
            have HE := Lib.hid (renM_some (m := m) HG.out HR1.out.1 HR1.out.2 HI.out HNO.out)
            have HX := Lib.hid hx
            have HBZ := Lib.hid (hb0.trans (hBV.mono hb0.size))
            have hin : (i : Int) < (n1 : Int) := by omega
            have hi0 : (0 : Int) ≤ (i : Int) := by omega
            clear r1 r2 s1 s2 t1 t2 HB2 hx hgc o4 b4 b34 b35 hBV hvu hbv hsv e4 hba hbk1 b3 x1 x2 y1 y2 fy1 fy2
            go_wp2_with fail
            clear j1 j2 u1
            generalize ((w4.setCell ⟨g1, i * 2, none⟩ (.int .i64 num)).alloc (.cells #[.slice (some ⟨g1, 0, none⟩) n1 n1, .slice (some ⟨g2, 0, none⟩) n2 n2] 27)) = V5 at *
            have hll : (l.set i (num, kk)).length = n1 := by rw [List.length_set]; exact H1.out.1
            have hnd := nodup_set_rest (k := kk) (i := i) (n := num) (by rw [H1.out.1]; exact hil) (by have h := SortC.up_nodup (good_asc HG.out).1; exact SortC.rest_nodup h) (rest_ne HG.out HI.out HNO.out)
            refine (SortC.sort_any (kfOf (l.set i (num, kk))) (l.set i (num, kk)) (kfOf_is hnd) g1 n1 hll (by omega) hz1 V5 HV1.out).mono ?_
            rintro e w5 ⟨rfl, hd1, hk5'⟩
            rw [srt_put (good_asc HG.out).1 (by rw [H1.out.1]; exact hil) (rest_ne HG.out HI.out HNO.out)] at hd1
            have hk5 := hk5'
            have e5 := HE4.out
            have hu5 : w5.heap[w4.heap.size]? = some (.cells #[.slice (some ⟨g1, 0, none⟩) n1 n1, .slice (some ⟨g2, 0, none⟩) n2 n2] 27) := (hk5.block _ (by omega) (by omega)).trans HVU.out
            have c2' : w5.cell? ⟨w4.heap.size, 1, none⟩ = some (.slice (some ⟨g2, 0, none⟩) n2 n2) := by simp only [World.cell?, hu5]; rfl
            have HG5 : Hid (w5.heap[g2]? = some (.cells (flat m).toArray 39)) := (hk5.block g2 (by omega) (by omega)).trans HV2.out
            have HD5 := Lib.hid hd1
            have HK5 := Lib.hid hk5
            have HU5 := Lib.hid hu5
            clear hd1 hk5 hk5' hu5 hnd hll
            go_wp2_with fail
            clear c2'
            refine (Renum.renum_any old num g2 n2 m H2.out.1 hz2 w5 HG5.out).mono ?_
            rintro e w6 ⟨rfl, jj, m', hR⟩
            have hk6 := hR.kept
            have hsz5 := HK5.out.size
            have HRW := Lib.hid hR
            have hlen : (swapM old num m).length ≤ n2 := by have h := swap_len old num m m.length; rw [List.take_length, H2.out.1] at h; exact h
            have hu6 : w6.heap[w4.heap.size]? = some (.cells #[(.slice (some ⟨g1, 0, none⟩) n1 n1), .slice (some ⟨g2, 0, none⟩) n2 n2] 27) := (hk6.block _ (by omega) (by omega)).trans HU5.out
            have c1' : w6.cell? ⟨w4.heap.size, 0, none⟩ = some (.slice (some ⟨g1, 0, none⟩) n1 n1) := by simp only [World.cell?, hu6]; rfl
            have c2' : w6.cell? ⟨w4.heap.size, 1, none⟩ = some (.slice (some ⟨g2, 0, none⟩) n2 n2) := by simp only [World.cell?, hu6]; rfl
            have d1' : w6.frozen? ⟨w4.heap.size, 1, none⟩ = false := by simp only [World.frozen?, hu6]; rfl
            have HK6 : Hid (Kept (fun b => b = g1 ∨ b = g2) V5 w6) := (HK5.out.mono (fun _ h => .inl h)).trans (hk6.mono (fun _ h => .inr h))
            have s16 := HK6.out.cell HS1.out (by show ¬ (w.heap.size + 1 = g1 ∨ w.heap.size + 1 = g2); omega)
            have s26 := HK6.out.cell HS2.out (by show ¬ (w.heap.size + 1 = g1 ∨ w.heap.size + 1 = g2); omega)
            have t16 : w6.frozen? ⟨w.heap.size + 1, 0, none⟩ = false := (World.frozen?_of_block (HK6.out.block (w.heap.size + 1) (by omega) (by omega))).trans HT1.out
            have t26 : w6.frozen? ⟨w.heap.size + 1, 1, none⟩ = false := (World.frozen?_of_block (HK6.out.block (w.heap.size + 1) (by omega) (by omega))).trans HT2.out
            have HD6 : Hid (w6.heap[g1]? = some (.cells (flat (ins (rest l i) (pl (rest l i) num) (num, kk))).toArray 55)) := (hk6.block g1 (by omega) hg12).trans HD5.out
            have HLEN := Lib.hid hlen
            obtain ⟨f, hf⟩ : ∃ f, (swapM old num m).length = f := ⟨_, rfl⟩
            have HF := Lib.hid hf
            rw [hf]
            clear hR hu6 hk6 hlen hf
            go_wp2_with fail
            have z1 : (w6.setCell ⟨w4.heap.size, 1, none⟩ (.slice (some ⟨g2, 0, none⟩) f n2)).cell? ⟨w.heap.size + 1, 0, none⟩ = some (.slice none 0 0) := by
              rw [World.cell?_setCell_other _ _ _ _ (by intro e; injection e with e; omega)]
              exact s16
            have z2 : (w6.setCell ⟨w4.heap.size, 1, none⟩ (.slice (some ⟨g2, 0, none⟩) f n2)).cell? ⟨w.heap.size + 1, 1, none⟩ = some (.slice none 0 0) := by
              rw [World.cell?_setCell_other _ _ _ _ (by intro e; injection e with e; omega)]
              exact s26
            obtain ⟨q1, q2⟩ := set2_cells (u := (.slice (some ⟨g1, 0, none⟩) n1 n1)) (v := .slice (some ⟨g2, 0, none⟩) f n2) z1 z2
            refine bodyPost_ret (v := .tuple #[.agg #[(.slice (some ⟨g1, 0, none⟩) n1 n1), .slice (some ⟨g2, 0, none⟩) f n2], .bool true]) (by simp [results, Try.results42, go_sem, q1, q2]) rfl ?_
            rw [HE.out, kindAt_is HX.out]
            have hL : (ins (rest l i) (pl (rest l i) num) (num, kk)).length = n1 := by rw [ins_rest_len (by rw [H1.out.1]; exact hil)]; exact H1.out.1
            have hfn : f ≤ n2 := by rw [← HF.out]; exact HLEN.out
            have o1 : w6.ownsRow w.heap.size 55 2 (.slice (some ⟨g1, 0, none⟩) n1 n1) n1 (flat (ins (rest l i) (pl (rest l i) num) (num, kk))) :=
              own_of_take (ys := flat (ins (rest l i) (pl (rest l i) num) (num, kk))) HD6.out (by rw [flat_len, hL]) hL (by omega) hz1 (List.take_of_length_le (Nat.le_of_eq (by rw [flat_len, hL]))) (by omega)
            have o2 : w6.ownsRow w.heap.size 39 2 (.slice (some ⟨g2, 0, none⟩) f n2) f (flat (swapM old num m)) := HRW.out.owns HF.out hz2 (by omega)
            have f1 : (Value.slice (some ⟨g1, 0, none⟩) n1 n1).ownBlock ≠ some (w.heap.size + 1) := AddC.own_off (by omega)
            have f2 : (Value.slice (some ⟨g2, 0, none⟩) f n2).ownBlock ≠ some (w.heap.size + 1) := AddC.own_off (by omega)
            have f3 : (Value.slice (some ⟨g1, 0, none⟩) n1 n1).ownBlock ≠ some w4.heap.size := AddC.own_off (by omega)
            have f4 : (Value.slice (some ⟨g2, 0, none⟩) f n2).ownBlock ≠ some w4.heap.size := AddC.own_off (by omega)
            have hB6 : Below w.heap.size w w6 := HBZ.out.trans (HK6.out.below (fun b hb => by rcases hb with rfl | rfl <;> omega) HBZ.out.size)
            refine ⟨some ⟨g1, 0, none⟩, n1, n1, some ⟨g2, 0, none⟩, f, n2, rfl, ⟨setCell_far (setCell_far (setCell_far o1 f3) f1) f1, setCell_far (setCell_far (setCell_far o2 f4) f2) f2, ?_⟩, by omega, by omega, ?_⟩
            · intro g e1 e2
              have e1' : g1 = g := by simpa [Value.ownBlock] using e1
              have e2' : g2 = g := by simpa [Value.ownBlock] using e2
              exact hg12 (e1'.trans e2'.symm)
            · exact ((hB6.setCell (p := ⟨w4.heap.size, 1, none⟩) (by show _ ≤ w4.heap.size; omega) _).setCell (p := ⟨w.heap.size + 1, 0, none⟩) (Nat.le_succ _) _).setCell (p := ⟨w.heap.size + 1, 1, none⟩) (Nat.le_succ _) _
  · have hi1 : idx l m old = (0, false) := by unfold idx; rw [if_neg hgk]
    rw [hi1]
    have HE : Hid (renM old num l m = none) := by
      cases hg : good l m with
      | false => exact renM_bad hg
      | true =>
        refine renM_noO ?_
        cases h : isAt l old with
        | none => rfl
        | some k => exact absurd ⟨hg, by rw [h]; rfl⟩ hgk
    clear hi1 hgk
    go_wp2_with fail
    obtain ⟨q1, q2⟩ := set2_cells (u := .slice none 0 0) (v := .slice none 0 0) s1 s2
    refine bodyPost_ret (v := .tuple #[.agg #[.slice none 0 0, .slice none 0 0], .bool false]) (by simp [results, Try.results42, go_sem, q1, q2]) rfl ?_
    rw [HE.out]
    exact ⟨none, 0, 0, none, 0, 0, rfl, Got.nil _ _, by omega, by omega, ((HB2.out.setCell (p := ⟨w.heap.size + 1, 0, none⟩) (Nat.le_succ _) _).setCell (p := ⟨w.heap.size + 1, 1, none⟩) (Nat.le_succ _) _)⟩
end Go.Proofs.Ythcjembekadijaa.RenI
/- The model's l2Swap: a record whose relations name another number. -/
namespace Go.Proofs.Ythcjembekadijaa.SwapS
open Go.RowKit Pairs Rec RecEq Find2 GoodM RelM Keep Row2 Copy AppH Two Gives PSrc SwapM LawKit
open OwnS (empty_at own_off)
/-- A record under way in a box; its rows lie apart and outside of the box. -/
structure Sw (E wr : World) (gb : Nat) (v1 v2 : Value) (n1 k2 : Nat) (L1 L2 : List (Int × Int)) : Prop where
  box : wr.heap[gb]? = some (.cells #[v1, v2] 27)
  ctx : wr.ownsRow E.heap.size 55 2 v1 n1 (flat L1)
  rel : wr.ownsRow E.heap.size 39 2 v2 k2 (flat L2)
  n1b : v1.ownBlock ≠ some gb
  n2b : v2.ownBlock ≠ some gb
  ne : ∀ g, v1.ownBlock = some g → v2.ownBlock ≠ some g
  bel : Below E.heap.size E wr
theorem Sw.cells {E wr : World} {gb : Nat} {v1 v2 : Value} {n1 k2 : Nat} {L1 L2 : List (Int × Int)} (h : Sw E wr gb v1 v2 n1 k2 L1 L2) : wr.cell? ⟨gb, 0, none⟩ = some v1 ∧ wr.cell? ⟨gb, 1, none⟩ = some v2 ∧ wr.frozen? ⟨gb, 0, none⟩ = false ∧ wr.frozen? ⟨gb, 1, none⟩ = false ∧ gb < wr.heap.size := by
  have hb := h.box
  refine ⟨by simp [World.cell?, hb], by simp [World.cell?, hb], by simp only [World.frozen?, hb]; rfl, by simp only [World.frozen?, hb]; rfl, (Array.getElem?_eq_some_iff.1 hb).1⟩
theorem Sw.below {E wr w' : World} {gb : Nat} {v1 v2 : Value} {n1 k2 : Nat} {L1 L2 : List (Int × Int)} (h : Sw E wr gb v1 v2 n1 k2 L1 L2) (hb : Below wr.heap.size wr w') : Sw E w' gb v1 v2 n1 k2 L1 L2 :=
  ⟨(hb.block gb h.cells.2.2.2.2).trans h.box, ownsRow_below h.ctx hb, ownsRow_below h.rel hb, h.n1b, h.n2b, h.ne, h.bel.trans (hb.mono h.bel.size)⟩
/-- The answer of a call takes the place of the record under way. -/
theorem Sw.next {E wr w' : World} {gb : Nat} {v1 v2 : Value} {n1 k2 : Nat} {L1 L2 : List (Int × Int)} (h : Sw E wr gb v1 v2 n1 k2 L1 L2) (hgb : E.heap.size ≤ gb) {g1 d1 g2 r2 d2 : Nat} {M : List (Int × Int)} (o : Own w' wr.heap.size g1 n1 d1 g2 r2 d2 L1 M) (hb : Below wr.heap.size wr w') :
    Sw E ((w'.setCell ⟨gb, 0, none⟩ (.slice (some ⟨g1, 0, none⟩) n1 d1)).setCell ⟨gb, 1, none⟩ (.slice (some ⟨g2, 0, none⟩) r2 d2)) gb (.slice (some ⟨g1, 0, none⟩) n1 d1) (.slice (some ⟨g2, 0, none⟩) r2 d2) n1 r2 L1 M := by
  have hlt := h.cells.2.2.2.2
  have l1 := (o.ctx.lt g1 rfl).1
  have l2 := (o.rel.lt g2 rfl).1
  have hs := h.bel.size
  have f1 : (Value.slice (some ⟨g1, 0, none⟩) n1 d1).ownBlock ≠ some gb := own_off (by omega)
  have f2 : (Value.slice (some ⟨g2, 0, none⟩) r2 d2).ownBlock ≠ some gb := own_off (by omega)
  refine ⟨(setCell_block (setCell_block ((hb.block gb hlt).trans h.box)).1).2, ownsRow_base (setCell_far (setCell_far o.ctx f1) f1) hs, ownsRow_base (setCell_far (setCell_far o.rel f2) f2) hs, f1, f2, (got_of_own o).ne, ?_⟩
  exact ((h.bel.trans (hb.mono hs)).setCell (p := ⟨gb, 0, none⟩) hgb _).setCell (p := ⟨gb, 1, none⟩) hgb _
theorem own_cap {T : TypeId} {w : World} {B g n c : Nat} {l : List (Int × Int)} (h : w.ownsRow B T 2 (.slice (some ⟨g, 0, none⟩) n c) n (flat l)) : n ≤ c := by
  rcases h.2 with ⟨e0, _⟩ | ⟨g0, cap0, cur, ev, hb, hg, hle, _⟩
  · cases e0
  · injection ev with _ _ e3
    omega
set_option maxRecDepth 100000 in
set_option maxHeartbeats 8000000 in
theorem l2Swap_any (o n : Int) (a1 a2 : Option Addr) (n1 c1 n2 c2 : Nat) (l m : List (Int × Int)) (h1 : n1 ≤ 1000000) (h2 : n2 ≤ 100000) (w : World) (H1 : Holds w a1 n1 l) (H2 : Holds w a2 n2 m) :
    Calls Try.prog 97 #[.agg #[.slice a1 n1 c1, .slice a2 n2 c2], .int .i64 o, .int .i64 n] w fun e w' => ∃ (g1 d1 : Nat) (b2 : Option Addr) (k2 d2 : Nat), k2 ≤ n2 ∧ e = .returned (.agg #[.slice (some ⟨g1, 0, none⟩) n1 d1, .slice b2 k2 d2]) ∧ Got w' w.heap.size (some ⟨g1, 0, none⟩) n1 d1 b2 k2 d2 l (swapM o n m) ∧ Below w.heap.size w w' := by
  obtain ⟨i1, hi1, hy0, hy1, hy2⟩ := info_parts infoContext
  obtain ⟨fy1, fy2⟩ := fz_box2 w (.slice a1 n1 c1) (.slice a2 n2 c2) (.slice none 0 0) (.slice none 0 0) 27 27
  obtain ⟨hs, x1, x2, y1, y2, hb0⟩ := boxes2 w (.slice a1 n1 c1) (.slice a2 n2 c2) (.slice none 0 0) (.slice none 0 0) 27 27
  have HS := Lib.hid hs
  have HH1 := Lib.hid (H1.below hb0)
  have HH2 := Lib.hid (H2.below hb0)
  clear H1 H2 hs
  have hE := OwnS.one_b ((w.alloc (.cells #[.slice a1 n1 c1, .slice a2 n2 c2] 27)).alloc (.cells #[.slice none 0 0, .slice none 0 0] 27)) 55
  rw [HS.out] at hE
  have hbE : Below (w.heap.size + 2) ((w.alloc (.cells #[.slice a1 n1 c1, .slice a2 n2 c2] 27)).alloc (.cells #[.slice none 0 0, .slice none 0 0] 27)) (((w.alloc (.cells #[.slice a1 n1 c1, .slice a2 n2 c2] 27)).alloc (.cells #[.slice none 0 0, .slice none 0 0] 27)).alloc (.cells #[] 55)) := by
    rw [← HS.out]
    exact below_alloc _ _
  have HBE := Lib.hid hbE
  have HE := Lib.hid (empty_at hE (Nat.le_refl _))
  have hsrc := (Src.of HH1.out).below (by rw [HS.out]; exact hbE)
  have HSRC := Lib.hid hsrc
  clear hE hsrc hbE
  go_enter Try.func97, Try.ntmps97
  go_wp2_with (at_builtin; refine wpList_append_src rfl (.tmp 10) (.tmp 12) 24 rfl (w.heap.size + 2) 55 i1 _ Try.underlying24 hi1 hy0 hy1 hy2 rfl (w.heap.size + 2) 0 0 [] rfl HE.out a1 n1 c1 l rfl HSRC.out (by omega) (by have := HBE.out.size; rw [HS.out] at this; exact this) _ rfl ?_; intro g1 d1 w1 hown1 hgrow1 hat1 hlt1)
  rw [Nat.zero_add, List.nil_append] at hown1
  generalize ((w.alloc (.cells #[.slice a1 n1 c1, .slice a2 n2 c2] 27)).alloc (.cells #[.slice none 0 0, .slice none 0 0] 27)) = W at *
  have hB1 : Below (w.heap.size + 2) W w1 := Below.grown HBE.out hgrow1 (by have := HBE.out.size; rw [HS.out] at this; exact this) (fun q e => by injection e with e; omega)
  have lw : w.heap.size < W.heap.size := by rw [HS.out]; omega
  have lw1 : w.heap.size + 1 < W.heap.size := by rw [HS.out]; omega
  have hgb : W.heap.size ≤ w1.heap.size := by have := hB1.size; omega
  rw [← HS.out] at hown1 hB1
  have hS0 : Sw W (w1.alloc (.cells #[.slice (some ⟨g1, 0, none⟩) n1 d1, .slice none 0 0] 27)) w1.heap.size (.slice (some ⟨g1, 0, none⟩) n1 d1) (.slice none 0 0) n1 0 l (swapM o n (m.take 0)) :=
    ⟨heap_alloc_new w1 _, ownsRow_below hown1 (below_alloc w1 _), World.ownsRow_nil _ _ _ _, own_off (by omega), (fun h => by cases h), (fun g _ h => by cases h), hB1.trans ((below_alloc w1 _).mono hB1.size)⟩
  have HGB := Lib.hid hgb
  clear hown1 hgrow1 hat1 hlt1 hB1 hgb
  go_loopw [8] (fun s8 wr => ∃ k : Nat, k ≤ n2 ∧ s8 = .int .i64 k ∧ ∃ (g1 d1 : Nat) (b2 : Option Addr) (k2 d2 : Nat), k2 ≤ k ∧ k2 ≤ d2 ∧ Sw W wr w1.heap.size (.slice (some ⟨g1, 0, none⟩) n1 d1) (.slice b2 k2 d2) n1 k2 l (swapM o n (m.take k))) (fun s8 _ => n2 - (intOf s8).toNat)
  case atStart => exact ⟨0, Nat.zero_le _, rfl, g1, d1, none, 0, 0, Nat.le_refl _, Nat.le_refl _, hS0⟩
  case round =>
    clear hS0
    obtain ⟨k, hk, rfl, g3, d3, b2, k2, d2, hk2, hkd, hS⟩ := hrel
    have p1 := (hS.bel.cell (p := ⟨w.heap.size, 0, none⟩) lw).trans x1
    have p2 := (hS.bel.cell (p := ⟨w.heap.size, 1, none⟩) lw).trans x2
    obtain ⟨o1, o2, o3, o4, o9⟩ := hS.cells
    by_cases hlt : k < n2
    · obtain ⟨b, off, x, y, rfl, hx, e1, e2⟩ := (HH2.out.below hS.bel).at k hlt
      have HX := Lib.hid (swap_next (o := o) (n := n) hx)
      have hkn : (k : Int) < (n2 : Int) := by omega
      have hk0 : (0 : Int) ≤ (k : Int) := by omega
      have HSW := Lib.hid hS
      clear hx hS
      have q1 := box_first wr (.int .i64 x) (.int .i64 y) 39
      have q2 := box_second wr (.int .i64 x) (.int .i64 y) 39
      have HS5 : Hid (∀ u v : Int, Sw W (wr.alloc (.cells #[.int .i64 u, .int .i64 v] 39)) w1.heap.size (.slice (some ⟨g3, 0, none⟩) n1 d3) (.slice b2 k2 d2) n1 k2 l (swapM o n (m.take k))) := fun u v => HSW.out.below (below_alloc wr _)
      have hoo : (o == o) = true := by simp
      by_cases hxo : x = o
      · subst hxo
        by_cases hyo : y = x
        · subst hyo
          have hnn : (n == n) = true := by simp
          have hnn2 : (n != n) = false := by simp
          have hr : rnp y n (y, y) = (n, n) := by unfold rnp; rw [rn_same]
          obtain ⟨f1, f2, f3, f4, f5⟩ := (HS5.out n n).cells
          have HM : Hid (swapM y n (m.take (k + 1)) = swapM y n (m.take k)) := by have h := HX.out; rw [hr] at h; rw [if_neg (by unfold nz; simp)] at h; exact h
          go_wp2_with fail
          exact ⟨⟨k + 1, by omega, by go_num, g3, d3, b2, k2, d2, by omega, hkd, by rw [HM.out]; exact HS5.out _ _⟩, by simp [intOf]; omega⟩
        · have hyy : (y == x) = false := beq_false_of_ne hyo
          have hr : rnp x n (x, y) = (n, y) := by unfold rnp; rw [rn_same, rn_other hyo]
          obtain ⟨f1, f2, f3, f4, f5⟩ := (HS5.out n y).cells
          by_cases hny : n = y
          · have HM : Hid (swapM x n (m.take (k + 1)) = swapM x n (m.take k)) := by have h := HX.out; rw [hr] at h; rw [if_neg (by unfold nz; simp [hny])] at h; exact h
            have hz1 : (n == y) = true := by simp [hny]
            have hz2 : (n != y) = false := by simp [hny]
            go_wp2_with fail
            exact ⟨⟨k + 1, by omega, by go_num, g3, d3, b2, k2, d2, by omega, hkd, by rw [HM.out]; exact HS5.out _ _⟩, by simp [intOf]; omega⟩
          · have HM : Hid (swapM x n (m.take (k + 1)) = link (swapM x n (m.take k)) (n, y)) := by have h := HX.out; rw [hr] at h; rw [if_pos (show nz (n, y) = true from decide_eq_true hny)] at h; exact h
            have hz1 : (n == y) = false := beq_false_of_ne hny
            have hz2 : (n != y) = true := by rw [bne, hz1]; rfl
            clear hr
            go_wp2_with fail
            refine (Link2.l2Link_any n y (some ⟨g3, 0, none⟩) b2 n1 d3 k2 d2 l (swapM x n (m.take k)) h1 (by omega) hkd _ (holds_own (HS5.out _ _).ctx) (holds_own (HS5.out _ _).rel)).mono ?_
            rintro e w5 ⟨r2, hr2, g5, g6, d5, d6, rfl, o5, b5⟩
            have hS6 := (HS5.out _ _).below b5
            obtain ⟨m1, m2, m3, m4, m5⟩ := hS6.cells
            have hN := (HS5.out _ _).next HGB.out o5 b5
            have HN := Lib.hid hN
            have hcap := own_cap o5.rel
            clear hS6 hN b5 f1 f2 f3 f4 f5 o1 o2 o3 o4 q1 q2
            go_wp2_with fail
            exact ⟨⟨k + 1, by omega, by go_num, g5, d5, some ⟨g6, 0, none⟩, r2, d6, by omega, hcap, by rw [HM.out]; exact HN.out⟩, by simp [intOf]; omega⟩
      · have hxx : (x == o) = false := beq_false_of_ne hxo
        by_cases hyo : y = o
        · subst hyo
          have hr : rnp y n (x, y) = (x, n) := by unfold rnp; rw [rn_same, rn_other hxo]
          obtain ⟨f1, f2, f3, f4, f5⟩ := (HS5.out x n).cells
          by_cases hny : x = n
          · have HM : Hid (swapM y n (m.take (k + 1)) = swapM y n (m.take k)) := by have h := HX.out; rw [hr] at h; rw [if_neg (by unfold nz; simp [hny])] at h; exact h
            have hz1 : (x == n) = true := by simp [hny]
            have hz2 : (x != n) = false := by simp [hny]
            go_wp2_with fail
            exact ⟨⟨k + 1, by omega, by go_num, g3, d3, b2, k2, d2, by omega, hkd, by rw [HM.out]; exact HS5.out _ _⟩, by simp [intOf]; omega⟩
          · have HM : Hid (swapM y n (m.take (k + 1)) = link (swapM y n (m.take k)) (x, n)) := by have h := HX.out; rw [hr] at h; rw [if_pos (show nz (x, n) = true from decide_eq_true hny)] at h; exact h
            have hz1 : (x == n) = false := beq_false_of_ne hny
            have hz2 : (x != n) = true := by rw [bne, hz1]; rfl
            clear hr
            go_wp2_with fail
            refine (Link2.l2Link_any x n (some ⟨g3, 0, none⟩) b2 n1 d3 k2 d2 l (swapM y n (m.take k)) h1 (by omega) hkd _ (holds_own (HS5.out _ _).ctx) (holds_own (HS5.out _ _).rel)).mono ?_
            rintro e w5 ⟨r2, hr2, g5, g6, d5, d6, rfl, o5, b5⟩
            have hS6 := (HS5.out _ _).below b5
            obtain ⟨m1, m2, m3, m4, m5⟩ := hS6.cells
            have hN := (HS5.out _ _).next HGB.out o5 b5
            have HN := Lib.hid hN
            have hcap := own_cap o5.rel
            clear hS6 hN b5 f1 f2 f3 f4 f5 o1 o2 o3 o4 q1 q2
            go_wp2_with fail
            exact ⟨⟨k + 1, by omega, by go_num, g5, d5, some ⟨g6, 0, none⟩, r2, d6, by omega, hcap, by rw [HM.out]; exact HN.out⟩, by simp [intOf]; omega⟩
        · have hyy : (y == o) = false := beq_false_of_ne hyo
          have hr : rnp o n (x, y) = (x, y) := by unfold rnp; rw [rn_other hxo, rn_other hyo]
          obtain ⟨f1, f2, f3, f4, f5⟩ := (HS5.out x y).cells
          by_cases hny : x = y
          · have HM : Hid (swapM o n (m.take (k + 1)) = swapM o n (m.take k)) := by have h := HX.out; rw [hr] at h; rw [if_neg (by unfold nz; simp [hny])] at h; exact h
            have hz1 : (x == y) = true := by simp [hny]
            have hz2 : (x != y) = false := by simp [hny]
            go_wp2_with fail
            exact ⟨⟨k + 1, by omega, by go_num, g3, d3, b2, k2, d2, by omega, hkd, by rw [HM.out]; exact HS5.out _ _⟩, by simp [intOf]; omega⟩
          · have HM : Hid (swapM o n (m.take (k + 1)) = link (swapM o n (m.take k)) (x, y)) := by have h := HX.out; rw [hr] at h; rw [if_pos (show nz (x, y) = true from decide_eq_true hny)] at h; exact h
            have hz1 : (x == y) = false := beq_false_of_ne hny
            have hz2 : (x != y) = true := by rw [bne, hz1]; rfl
            clear hr
            go_wp2_with fail
            refine (Link2.l2Link_any x y (some ⟨g3, 0, none⟩) b2 n1 d3 k2 d2 l (swapM o n (m.take k)) h1 (by omega) hkd _ (holds_own (HS5.out _ _).ctx) (holds_own (HS5.out _ _).rel)).mono ?_
            rintro e w5 ⟨r2, hr2, g5, g6, d5, d6, rfl, o5, b5⟩
            have hS6 := (HS5.out _ _).below b5
            obtain ⟨m1, m2, m3, m4, m5⟩ := hS6.cells
            have hN := (HS5.out _ _).next HGB.out o5 b5
            have HN := Lib.hid hN
            have hcap := own_cap o5.rel
            clear hS6 hN b5 f1 f2 f3 f4 f5 o1 o2 o3 o4 q1 q2
            go_wp2_with fail
            exact ⟨⟨k + 1, by omega, by go_num, g5, d5, some ⟨g6, 0, none⟩, r2, d6, by omega, hcap, by rw [HM.out]; exact HN.out⟩, by simp [intOf]; omega⟩
    · obtain rfl : k = n2 := by omega
      have HSW := Lib.hid hS
      have r1 := (hS.bel.cell (p := ⟨w.heap.size + 1, 0, none⟩) lw1).trans y1
      have r2 := (hS.bel.cell (p := ⟨w.heap.size + 1, 1, none⟩) lw1).trans y2
      have t1 := fz hS.bel ⟨w.heap.size + 1, 0, none⟩ lw1 fy1
      have t2 := fz hS.bel ⟨w.heap.size + 1, 1, none⟩ lw1 fy2
      clear hS
      go_wp2_with fail
      obtain ⟨z1, z2⟩ := set2_cells (u := .slice (some ⟨g3, 0, none⟩) n1 d3) (v := .slice b2 k2 d2) r1 r2
      refine bodyPost_ret (v := .agg #[.slice (some ⟨g3, 0, none⟩) n1 d3, .slice b2 k2 d2]) (by simp [results, Try.results97, go_sem, z1, z2]) rfl ⟨g3, d3, b2, k2, d2, by omega, rfl, ?_, ?_⟩
      · have hl : m.take k = m := List.take_of_length_le (by rw [HH2.out.1]; exact Nat.le_refl _)
        have C1 := HSW.out.ctx
        have C2 := HSW.out.rel
        rw [hl] at C2
        have f1 : (Value.slice (some ⟨g3, 0, none⟩) n1 d3).ownBlock ≠ some (w.heap.size + 1) := own_off (by have := (C1.lt g3 rfl).1; omega)
        have f2 : (Value.slice b2 k2 d2).ownBlock ≠ some (w.heap.size + 1) := fun e => by have := (C2.lt _ e).1; omega
        have hW : w.heap.size ≤ W.heap.size := by omega
        exact ⟨ownsRow_base (setCell_far (setCell_far C1 f1) f1) hW, ownsRow_base (setCell_far (setCell_far C2 f2) f2) hW, HSW.out.ne⟩
      · exact (((hb0.trans (HSW.out.bel.mono hb0.size))).setCell (p := ⟨w.heap.size + 1, 0, none⟩) (Nat.le_succ _) _).setCell (p := ⟨w.heap.size + 1, 1, none⟩) (Nat.le_succ _) _
end Go.Proofs.Ythcjembekadijaa.SwapS
/- The model's l2Put: a record with a pair more, at its place. -/
namespace Go.Proofs.Ythcjembekadijaa.Put
open Go.RowKit Pairs Rec RecEq Find2 GoodM RelM Keep Row2 Copy AppH Two Gives PSrc
open OwnS (l2Own_any one_a one_b empty_at own_off)
open AddC (boxes222)
theorem belA {W X : World} (h : Below W.heap.size W X) (o : Obj) : Below W.heap.size W (X.alloc o) := h.alloc h.size o
theorem two_o1 (X : World) (o1 o2 : Obj) : ((X.alloc o1).alloc o2).drew.heap[X.heap.size]? = some o1 := (Below.heap_alloc (X.alloc o1) o2 X.heap.size (by simp)).trans (heap_alloc_new X _)
theorem two_o2 (X : World) (o1 o2 : Obj) : ((X.alloc o1).alloc o2).drew.heap[X.heap.size + 1]? = some o2 := by
  have h := heap_alloc_new (X.alloc o1) o2
  rw [show (X.alloc o1).heap.size = X.heap.size + 1 by simp] at h
  exact h
/-- What is left when the row is put into the box. -/
theorem fin {w10 : World} {B B' gb r g1 g2 n2 d1 d2 k : Nat} {L m : List (Int × Int)} (h1 : w10.ownsRow B 55 2 (.slice (some ⟨g1, 0, none⟩) k d1) k (flat L)) (h2 : w10.ownsRow B 39 2 (.slice (some ⟨g2, 0, none⟩) n2 d2) n2 (flat m))
    (q1 : g1 ≠ gb) (q2 : g2 ≠ gb) (r1 : g1 ≠ r) (r2 : g2 ≠ r) (hne : g1 ≠ g2) (hB : B' ≤ B) (x y z : Value) : Own (((w10.setCell ⟨gb, 0, none⟩ x).setCell ⟨r, 0, none⟩ y).setCell ⟨r, 1, none⟩ z) B' g1 k d1 g2 n2 d2 L m :=
  ⟨ownsRow_base (setCell_far (setCell_far (setCell_far h1 (own_off q1)) (own_off r1)) (own_off r1)) hB, ownsRow_base (setCell_far (setCell_far (setCell_far h2 (own_off q2)) (own_off r2)) (own_off r2)) hB, hne⟩
set_option maxRecDepth 100000 in
set_option maxHeartbeats 8000000 in
theorem l2Put_any (zu zv : Int) (a1 a2 : Option Addr) (n1 c1 n2 c2 : Nat) (l m : List (Int × Int)) (h1 : n1 ≤ 1000000) (h2 : n2 ≤ 1000000) (hcap : n1 ≤ c1) (w : World) (H1 : Holds w a1 n1 l) (H2 : Holds w a2 n2 m) :
    Calls Try.prog 81 #[.agg #[.slice a1 n1 c1, .slice a2 n2 c2], .agg #[.int .i64 zu, .int .i64 zv]] w fun e w' => ∃ g1 g2 d1 d2 : Nat, e = .returned (.agg #[.slice (some ⟨g1, 0, none⟩) (n1 + 1) d1, .slice (some ⟨g2, 0, none⟩) n2 d2]) ∧ Own w' w.heap.size g1 (n1 + 1) d1 g2 n2 d2 (ins l (pl l zu) (zu, zv)) m ∧ Below w.heap.size w w' := by
  obtain ⟨i1, hi1, hy0, hy1, hy2⟩ := info_parts infoContext
  obtain ⟨hs, x1, x2, x3, x4, y1, y2, fy1, fy2, hb0⟩ := boxes222 w (.slice a1 n1 c1) (.slice a2 n2 c2) (.int .i64 zu) (.int .i64 zv) (.slice none 0 0) (.slice none 0 0) 27 55 27
  have HS := Lib.hid hs
  have HH1 := Lib.hid (H1.below hb0)
  have HH2 := Lib.hid (H2.below hb0)
  obtain ⟨i, hi⟩ : ∃ i, pl l zu = i := ⟨_, rfl⟩
  have hil : i ≤ n1 := by rw [← hi, ← H1.1]; exact pl_le l zu
  have HIL := Lib.hid hil
  have HLO : Hid (∀ j y, j < i → l[j]? = some y → y.1 < zu) := fun j y hj hy => pl_lt (hi ▸ hj) hy
  have HHI : Hid (∀ y, l[i]? = some y → ¬ y.1 < zu) := fun y hy => pl_at (l := l) (t := zu) (by rw [hi]; exact hy)
  have HI := Lib.hid hi
  have HSL := Lib.hid H1.1
  clear H1 H2 hs hi
  go_enter Try.func81, Try.ntmps81
  go_wp2_with fail
  generalize ((w.alloc (.cells #[.slice a1 n1 c1, .slice a2 n2 c2] 27)).alloc (.cells #[.int .i64 zu, .int .i64 zv] 55)).alloc (.cells #[.slice none 0 0, .slice none 0 0] 27) = W at *
  have lw : w.heap.size < W.heap.size := by rw [HS.out]; omega
  have lw1 : w.heap.size + 1 < W.heap.size := by rw [HS.out]; omega
  have lw2 : w.heap.size + 2 < W.heap.size := by rw [HS.out]; omega
  go_loopw [5] (fun s5 wr => ∃ k : Nat, k ≤ i ∧ s5 = .int .i64 k ∧ Below W.heap.size W wr) (fun s5 _ => i - (intOf s5).toNat)
  case atStart => exact ⟨0, Nat.zero_le _, rfl, Below.refl _ _⟩
  case round =>
    obtain ⟨k, hk, rfl, hbr⟩ := hrel
    have p1 := (hbr.cell (p := ⟨w.heap.size, 0, none⟩) lw).trans x1
    have p2 := (hbr.cell (p := ⟨w.heap.size, 1, none⟩) lw).trans x2
    have p3 := (hbr.cell (p := ⟨w.heap.size + 1, 0, none⟩) lw1).trans x3
    have p4 := (hbr.cell (p := ⟨w.heap.size + 1, 1, none⟩) lw1).trans x4
    by_cases hlt : k < i
    · obtain ⟨b, off, x, y, rfl, hx, e1, e2⟩ := (HH1.out.below hbr).at k (by omega)
      have hd : x < zu := HLO.out k _ hlt hx
      have hdd : decide (x < zu) = true := decide_eq_true hd
      have hkn : (k : Int) < (n1 : Int) := by omega
      have hk0 : (0 : Int) ≤ (k : Int) := by omega
      have HBR := Lib.hid hbr
      clear hx hbr
      go_wp2_with fail
      go_quiet (fail)
      go_wp2_with fail
      exact ⟨⟨k + 1, by omega, by go_num, HBR.out.trans (Joins.below_draws _ _ _)⟩, by simp [intOf]; omega⟩
    · obtain rfl : k = i := by omega
      have HBR := Lib.hid hbr
      clear hbr hlt hk
      by_cases hin : k < n1
      (obtain ⟨b, off, x, y, ha, hx, e1, e2⟩ := (HH1.out.below HBR.out).at k hin; rw [ha] at p1; clear ha; have hd : ¬ x < zu := (by have h := HHI.out _ hx; simp only at h; omega); have hdd : decide (x < zu) = false := decide_eq_false hd; have hkn : (k : Int) < (n1 : Int) := (by omega); have hk0 : (0 : Int) ≤ (k : Int) := (by omega); clear hx; go_wp2_with fail; go_quiet (fail); clear hd hdd hkn hk0 e1 e2 p1; have p1 := (HBR.out.cell (p := ⟨w.heap.size, 0, none⟩) lw).trans x1)
      rotate_left
      (have hkn : ¬ (k : Int) < (n1 : Int) := (by omega); go_wp2_with fail; go_quiet (fail); clear hkn)
      rotate_left
      all_goals go_wp2_with fail
      all_goals (refine (l2Own_any a1 a2 n1 c1 n2 c2 l m (by omega) (by omega) _ (HH1.out.below (HBR.out.trans (Joins.below_draws _ _ _))) (HH2.out.below (HBR.out.trans (Joins.below_draws _ _ _)))).mono ?_; rintro e w2 ⟨g1, g2, d1, d2, rfl, o2, b2⟩)
      all_goals (have bW := (HBR.out.trans (Joins.below_draws _ _ _)).trans (b2.mono (Below.size (HBR.out.trans (Joins.below_draws _ _ _)))))
      all_goals (have hctx := ownsRow_base o2.ctx (Below.size (HBR.out.trans (Joins.below_draws _ _ _))))
      all_goals (have hrel := ownsRow_base o2.rel (Below.size (HBR.out.trans (Joins.below_draws _ _ _))))
      all_goals (have hne := o2.ne; clear o2 b2 p1 p2 p3 p4)
      all_goals (have hba := below_alloc w2 (.cells #[.slice (some ⟨g1, 0, none⟩) n1 d1, .slice (some ⟨g2, 0, none⟩) n2 d2] 27); have bZ := bW.trans (hba.mono bW.size))
      all_goals (have p1 := (bZ.cell (p := ⟨w.heap.size, 0, none⟩) lw).trans x1; have p2 := (bZ.cell (p := ⟨w.heap.size, 1, none⟩) lw).trans x2; have p3 := (bZ.cell (p := ⟨w.heap.size + 1, 0, none⟩) lw1).trans x3; have p4 := (bZ.cell (p := ⟨w.heap.size + 1, 1, none⟩) lw1).trans x4)
      all_goals (have c1' := box_first w2 (.slice (some ⟨g1, 0, none⟩) n1 d1) (.slice (some ⟨g2, 0, none⟩) n2 d2) 27; have c2' := box_second w2 (.slice (some ⟨g1, 0, none⟩) n1 d1) (.slice (some ⟨g2, 0, none⟩) n2 d2) 27)
      all_goals (have hnew := heap_alloc_new w2 (.cells #[.slice (some ⟨g1, 0, none⟩) n1 d1, .slice (some ⟨g2, 0, none⟩) n2 d2] 27); have e1' : (w2.alloc (.cells #[.slice (some ⟨g1, 0, none⟩) n1 d1, .slice (some ⟨g2, 0, none⟩) n2 d2] 27)).frozen? ⟨w2.heap.size, 0, none⟩ = false := (by simp only [World.frozen?, hnew]; rfl); have e2' : (w2.alloc (.cells #[.slice (some ⟨g1, 0, none⟩) n1 d1, .slice (some ⟨g2, 0, none⟩) n2 d2] 27)).frozen? ⟨w2.heap.size, 1, none⟩ = false := (by simp only [World.frozen?, hnew]; rfl))
      all_goals (have hgz : w2.heap.size < (w2.alloc (.cells #[.slice (some ⟨g1, 0, none⟩) n1 d1, .slice (some ⟨g2, 0, none⟩) n2 d2] 27)).heap.size := (by simp))
      all_goals (have HREL := Lib.hid (ownsRow_below hrel hba); have HCTX := Lib.hid (ownsRow_below hctx hba); have HSRC := Lib.hid (Src.of (HH1.out.below bZ)); have HBZ := Lib.hid bZ; have hW2 : W.heap.size ≤ w2.heap.size := bW.size; have hg1 : g1 < w2.heap.size := (hctx.lt g1 rfl).2; have hg2 : g2 < w2.heap.size := (hrel.lt g2 rfl).2; have hl1 : W.heap.size ≤ g1 := (hctx.lt g1 rfl).1; have hl2 : W.heap.size ≤ g2 := (hrel.lt g2 rfl).1)
      all_goals clear hnew hba bW bZ hctx hrel
      all_goals go_wp2_with fail
      all_goals generalize w2.alloc (.cells #[.slice (some ⟨g1, 0, none⟩) n1 d1, .slice (some ⟨g2, 0, none⟩) n2 d2] 27) = Z at *
      all_goals generalize w2.heap.size = gb at *
      all_goals (have HK : Hid (∀ X, Below Z.heap.size Z X → X.cell? ⟨w.heap.size, 0, none⟩ = some (.slice a1 n1 c1) ∧ X.cell? ⟨w.heap.size + 1, 0, none⟩ = some (.int .i64 zu) ∧ X.cell? ⟨w.heap.size + 1, 1, none⟩ = some (.int .i64 zv)) := fun X hX => ⟨(hX.cell (p := ⟨w.heap.size, 0, none⟩) (by show w.heap.size < _; omega)).trans p1, (hX.cell (p := ⟨w.heap.size + 1, 0, none⟩) (by show w.heap.size + 1 < _; omega)).trans p3, (hX.cell (p := ⟨w.heap.size + 1, 1, none⟩) (by show w.heap.size + 1 < _; omega)).trans p4⟩)
      all_goals (have HK2 : Hid (∀ X u, Below Z.heap.size Z X → (X.setCell ⟨gb, 0, none⟩ u).cell? ⟨w.heap.size, 0, none⟩ = some (.slice a1 n1 c1) ∧ (X.setCell ⟨gb, 0, none⟩ u).cell? ⟨w.heap.size + 1, 0, none⟩ = some (.int .i64 zu) ∧ (X.setCell ⟨gb, 0, none⟩ u).cell? ⟨w.heap.size + 1, 1, none⟩ = some (.int .i64 zv)) := fun X u hX => ⟨(World.cell?_setCell_other _ _ _ _ (by intro e; injection e with e; omega)).trans (HK.out X hX).1, (World.cell?_setCell_other _ _ _ _ (by intro e; injection e with e; omega)).trans (HK.out X hX).2.1, (World.cell?_setCell_other _ _ _ _ (by intro e; injection e with e; omega)).trans (HK.out X hX).2.2⟩)
      all_goals (have hk0 : (0 : Int) ≤ (k : Int) := by omega)
      all_goals (have hk1 : (k : Int) ≤ (c1 : Int) := by omega)
      all_goals (have hk2 : (k : Int) ≤ (n1 : Int) := by omega)
      all_goals go_region_held3 (fun (X : World) => X.cell? ⟨w.heap.size, 0, none⟩ = some (.slice a1 n1 c1) ∧ X.cell? ⟨w.heap.size + 1, 0, none⟩ = some (.int .i64 zu) ∧ X.cell? ⟨w.heap.size + 1, 1, none⟩ = some (.int .i64 zv)) (first | (refine HK.out _ ?_; (repeat (first | exact B10.out | exact B9.out | exact B8.out | with_reducible exact Below.refl _ _ | with_reducible refine belA ?_ _ | with_reducible refine Below.drew ?_ | fail)); done) | (refine HK2.out _ _ ?_; (repeat (first | exact B10.out | exact B9.out | exact B8.out | with_reducible exact Below.refl _ _ | with_reducible refine belA ?_ _ | with_reducible refine Below.drew ?_ | fail)); done) | fail) ((first | (refine step_append_src (by rfl) (.tmp 27) (.tmp 31) 24 (by rfl) Z.heap.size 55 i1 _ Try.underlying24 hi1 hy0 hy1 hy2 rfl _ 0 0 [] (by rfl) (empty_at (by first | exact one_a _ _ | exact one_b _ _ | exact two_o1 _ _ _ | exact two_o2 _ _ _) (by first | omega | (simp; done) | (simp; omega))) _ k _ (l.take k) (by rfl) ((HSRC.out.take HIL.out).below (by (repeat (first | exact B10.out | exact B9.out | exact B8.out | with_reducible exact Below.refl _ _ | with_reducible refine belA ?_ _ | with_reducible refine Below.drew ?_ | fail)); done)) (by omega) (Below.size (B := Z.heap.size) (by (repeat (first | exact B10.out | exact B9.out | exact B8.out | with_reducible exact Below.refl _ _ | with_reducible refine belA ?_ _ | with_reducible refine Below.drew ?_ | fail)); done)) _ rfl ?_; intro g8 d8 w8 hown8 hgrow8 hat8 hlt8; rw [Nat.zero_add]; have B8 : Hid (Below Z.heap.size Z w8) := Below.grown (by (repeat (first | exact B10.out | exact B9.out | exact B8.out | with_reducible exact Below.refl _ _ | with_reducible refine belA ?_ _ | with_reducible refine Below.drew ?_ | fail)); done) hgrow8 (Below.size (B := Z.heap.size) (by (repeat (first | exact B10.out | exact B9.out | exact B8.out | with_reducible exact Below.refl _ _ | with_reducible refine belA ?_ _ | with_reducible refine Below.drew ?_ | fail)); done)) (fun q e => by injection e with e; first | omega | (simp at e; omega)); (first | (have HP8 : Hid (w8.heap[Z.heap.size]? = some (.cells #[.int .i64 zu, .int .i64 zv] 55)) := (hgrow8.block Z.heap.size (by first | (simp; done) | (simp; omega)) (fun e => by injection e with e; first | omega | (simp at e; omega))).trans (two_o1 Z (.cells #[.int .i64 zu, .int .i64 zv] 55) (.cells #[] 55))) | (have HP8 : Hid (w8.heap[Z.heap.size + 1]? = some (.cells #[.int .i64 zu, .int .i64 zv] 55)) := (hgrow8.block (Z.heap.size + 1) (by first | (simp; done) | (simp; omega)) (fun e => by injection e with e; first | omega | (simp at e; omega))).trans (two_o2 Z (.cells #[] 55) (.cells #[.int .i64 zu, .int .i64 zv] 55))) | skip); rw [Nat.zero_add, List.nil_append] at hown8; have HO8 := Lib.hid hown8; clear hown8 hgrow8 hat8 hlt8; have l8 : Z.heap.size ≤ w8.heap.size := B8.out.size) | (refine step_append_src (by rfl) (.tmp 32) (.tmp 34) 24 (by rfl) Z.heap.size 55 i1 _ Try.underlying24 hi1 hy0 hy1 hy2 rfl g8 k d8 (flat (l.take k)) (by rfl) (by exact HO8.out) (some ⟨Z.heap.size, 0, none⟩) 1 1 [(zu, zv)] (by rfl) (Src.pair (by exact HP8.out)) (by omega) (Below.size (B := Z.heap.size) (by (repeat (first | exact B10.out | exact B9.out | exact B8.out | with_reducible exact Below.refl _ _ | with_reducible refine belA ?_ _ | with_reducible refine Below.drew ?_ | fail)); done)) _ rfl ?_; intro g9 d9 w9 hown9 hgrow9 hat9 hlt9; have B9 : Hid (Below Z.heap.size Z w9) := Below.grown (by (repeat (first | exact B10.out | exact B9.out | exact B8.out | with_reducible exact Below.refl _ _ | with_reducible refine belA ?_ _ | with_reducible refine Below.drew ?_ | fail)); done) hgrow9 (Below.size (B := Z.heap.size) (by (repeat (first | exact B10.out | exact B9.out | exact B8.out | with_reducible exact Below.refl _ _ | with_reducible refine belA ?_ _ | with_reducible refine Below.drew ?_ | fail)); done)) (fun q e => by injection e with e; have hq := (HO8.out.lt g8 rfl).1; omega); have HO9 := Lib.hid hown9; clear hown9 hgrow9 hat9 hlt9; have l9 : Z.heap.size ≤ w9.heap.size := B9.out.size) | (refine step_append_src (by rfl) (.tmp 32) (.tmp 34) 24 (by rfl) Z.heap.size 55 i1 _ Try.underlying24 hi1 hy0 hy1 hy2 rfl g8 k d8 (flat (l.take k)) (by rfl) (by exact HO8.out) (some ⟨Z.heap.size + 1, 0, none⟩) 1 1 [(zu, zv)] (by rfl) (Src.pair (by exact HP8.out)) (by omega) (Below.size (B := Z.heap.size) (by (repeat (first | exact B10.out | exact B9.out | exact B8.out | with_reducible exact Below.refl _ _ | with_reducible refine belA ?_ _ | with_reducible refine Below.drew ?_ | fail)); done)) _ rfl ?_; intro g9 d9 w9 hown9 hgrow9 hat9 hlt9; have B9 : Hid (Below Z.heap.size Z w9) := Below.grown (by (repeat (first | exact B10.out | exact B9.out | exact B8.out | with_reducible exact Below.refl _ _ | with_reducible refine belA ?_ _ | with_reducible refine Below.drew ?_ | fail)); done) hgrow9 (Below.size (B := Z.heap.size) (by (repeat (first | exact B10.out | exact B9.out | exact B8.out | with_reducible exact Below.refl _ _ | with_reducible refine belA ?_ _ | with_reducible refine Below.drew ?_ | fail)); done)) (fun q e => by injection e with e; have hq := (HO8.out.lt g8 rfl).1; omega); have HO9 := Lib.hid hown9; clear hown9 hgrow9 hat9 hlt9; have l9 : Z.heap.size ≤ w9.heap.size := B9.out.size) | (refine step_append_src (by rfl) (.tmp 32) (.tmp 34) 24 (by rfl) Z.heap.size 55 i1 _ Try.underlying24 hi1 hy0 hy1 hy2 rfl g8 k d8 (flat (l.take k)) (by rfl) (by exact HO8.out.alloc _) (some ⟨w8.heap.size, 0, none⟩) 1 1 [(zu, zv)] (by rfl) (Src.pair (by exact heap_alloc_new w8 _)) (by omega) (Below.size (B := Z.heap.size) (by (repeat (first | exact B10.out | exact B9.out | exact B8.out | with_reducible exact Below.refl _ _ | with_reducible refine belA ?_ _ | with_reducible refine Below.drew ?_ | fail)); done)) _ rfl ?_; intro g9 d9 w9 hown9 hgrow9 hat9 hlt9; have B9 : Hid (Below Z.heap.size Z w9) := Below.grown (by (repeat (first | exact B10.out | exact B9.out | exact B8.out | with_reducible exact Below.refl _ _ | with_reducible refine belA ?_ _ | with_reducible refine Below.drew ?_ | fail)); done) hgrow9 (Below.size (B := Z.heap.size) (by (repeat (first | exact B10.out | exact B9.out | exact B8.out | with_reducible exact Below.refl _ _ | with_reducible refine belA ?_ _ | with_reducible refine Below.drew ?_ | fail)); done)) (fun q e => by injection e with e; have hq := (HO8.out.lt g8 rfl).1; omega); have HO9 := Lib.hid hown9; clear hown9 hgrow9 hat9 hlt9; have l9 : Z.heap.size ≤ w9.heap.size := B9.out.size) | (refine step_append_src (by rfl) (.tmp 35) (.tmp 39) 24 (by rfl) Z.heap.size 55 i1 _ Try.underlying24 hi1 hy0 hy1 hy2 rfl g9 (k + 1) d9 (flat (l.take k) ++ flat [(zu, zv)]) (by rfl) (by first | exact HO9.out | exact HO9.out.alloc _) _ (n1 - k) (c1 - k) (l.drop k) (by rfl) ((HSRC.out.cut HIL.out hcap).below (by (repeat (first | exact B10.out | exact B9.out | exact B8.out | with_reducible exact Below.refl _ _ | with_reducible refine belA ?_ _ | with_reducible refine Below.drew ?_ | fail)); done)) (by omega) (Below.size (B := Z.heap.size) (by (repeat (first | exact B10.out | exact B9.out | exact B8.out | with_reducible exact Below.refl _ _ | with_reducible refine belA ?_ _ | with_reducible refine Below.drew ?_ | fail)); done)) _ rfl ?_; intro g10 d10 w10 hown10 hgrow10 hat10 hlt10; have B10 : Hid (Below Z.heap.size Z w10) := Below.grown (by (repeat (first | exact B10.out | exact B9.out | exact B8.out | with_reducible exact Below.refl _ _ | with_reducible refine belA ?_ _ | with_reducible refine Below.drew ?_ | fail)); done) hgrow10 (Below.size (B := Z.heap.size) (by (repeat (first | exact B10.out | exact B9.out | exact B8.out | with_reducible exact Below.refl _ _ | with_reducible refine belA ?_ _ | with_reducible refine Below.drew ?_ | fail)); done)) (fun q e => by injection e with e; have hq := (HO9.out.lt g9 rfl).1; omega); have HO10 := Lib.hid hown10; clear hown10 hgrow10 hat10 hlt10; have l10 : Z.heap.size ≤ w10.heap.size := B10.out.size; have r1 := (B10.out.cell (p := ⟨gb, 0, none⟩) hgz).trans c1'; have r2 := (B10.out.cell (p := ⟨gb, 1, none⟩) hgz).trans c2'; have t1 := fz B10.out ⟨gb, 0, none⟩ hgz e1'; have t2 := fz B10.out ⟨gb, 1, none⟩ hgz e2') | fail))
      all_goals (have hn1 : n1 + 1 = k + 1 + (n1 - k) := by have := HIL.out; omega)
      all_goals (have hO := HO10.out)
      all_goals rw [← hn1] at hO ⊢
      all_goals rw [show flat (l.take k) ++ flat [(zu, zv)] ++ flat (l.drop k) = flat (ins l (pl l zu) (zu, zv)) from (by rw [HI.out]; unfold ins; rw [List.append_assoc, ← flat_app, ← flat_app]; rfl)] at hO
      all_goals (have HO := Lib.hid hO; clear hO hn1)
      all_goals (have hgb2 : w.heap.size + 2 < gb := by omega)
      all_goals (have hg10 : Z.heap.size ≤ g10 := (HO.out.lt g10 rfl).1)
      all_goals (have hoth := Lib.hid (ownsRow_below HREL.out B10.out))
      all_goals (have hBX : Hid (Below w.heap.size w w10) := (hb0.trans (HBZ.out.mono hb0.size)).trans (B10.out.mono (hb0.trans (HBZ.out.mono hb0.size)).size))
      all_goals (have s1 := (World.cell?_setCell_other w10 ⟨gb, 0, none⟩ ⟨w.heap.size + 2, 0, none⟩ (.slice (some ⟨g10, 0, none⟩) (n1 + 1) d10) (by intro e; injection e with e; omega)).trans ((B10.out.cell (p := ⟨w.heap.size + 2, 0, none⟩) (by show w.heap.size + 2 < _; omega)).trans ((HBZ.out.cell (p := ⟨w.heap.size + 2, 0, none⟩) lw2).trans y1)))
      all_goals (have s2 := (World.cell?_setCell_other w10 ⟨gb, 0, none⟩ ⟨w.heap.size + 2, 1, none⟩ (.slice (some ⟨g10, 0, none⟩) (n1 + 1) d10) (by intro e; injection e with e; omega)).trans ((B10.out.cell (p := ⟨w.heap.size + 2, 1, none⟩) (by show w.heap.size + 2 < _; omega)).trans ((HBZ.out.cell (p := ⟨w.heap.size + 2, 1, none⟩) lw2).trans y2)))
      all_goals (have v1 := fz B10.out ⟨w.heap.size + 2, 0, none⟩ (by show w.heap.size + 2 < _; omega) (fz HBZ.out ⟨w.heap.size + 2, 0, none⟩ lw2 fy1))
      all_goals (have v2 := fz B10.out ⟨w.heap.size + 2, 1, none⟩ (by show w.heap.size + 2 < _; omega) (fz HBZ.out ⟨w.heap.size + 2, 1, none⟩ lw2 fy2))
      all_goals clear p1 p2 p3 p4 x1 x2 x3 x4 y1 y2 fy1 fy2 c1' c2' e1' e2' hk0 hk1 hk2
      all_goals go_wp2_with fail
      all_goals (obtain ⟨z1, z2⟩ := set2_cells (u := .slice (some ⟨g10, 0, none⟩) (n1 + 1) d10) (v := .slice (some ⟨g2, 0, none⟩) n2 d2) s1 s2)
      all_goals refine bodyPost_ret (v := .agg #[.slice (some ⟨g10, 0, none⟩) (n1 + 1) d10, .slice (some ⟨g2, 0, none⟩) n2 d2]) (by simp [results, Try.results81, go_sem, z1, z2]) rfl ⟨g10, g2, d10, d2, rfl, ?_, ?_⟩
      all_goals first | exact fin (ownsRow_base (B' := W.heap.size) HO.out (by omega)) hoth.out (by omega) (by omega) (by omega) (by omega) (by omega) (by omega) _ _ _ | exact (((hBX.out.setCell (p := ⟨gb, 0, none⟩) (by show _ ≤ gb; omega) _).setCell (p := ⟨w.heap.size + 2, 0, none⟩) (by show _ ≤ w.heap.size + 2; omega) _).setCell (p := ⟨w.heap.size + 2, 1, none⟩) (by show _ ≤ w.heap.size + 2; omega) _) | fail
end Go.Proofs.Ythcjembekadijaa.Put
/- The model's RenumberContext, at a record whose rows may have room to spare: a record in which a context has another number. -/
namespace Go.Proofs.Ythcjembekadijaa.RenC
open Go.RowKit Pairs Rec RecEq Find2 GoodM RelM Keep Row2 Copy AppH Two Gives PSrc SwapM EquM RenM SortC LawKit
open OwnS (one_a one_b empty_at own_off)
theorem belA {W X : World} (h : Below W.heap.size W X) (o : Obj) : Below W.heap.size W (X.alloc o) := h.alloc h.size o
theorem far2 {X : World} {g : Nat} {u v x : Value} {p : Addr} (h : X.cell? p = some x) (hp : g ≠ p.block) : ((X.setCell ⟨g, 0, none⟩ u).setCell ⟨g, 1, none⟩ v).cell? p = some x := by
  rw [World.cell?_setCell_far _ ⟨g, 1, none⟩ _ _ hp, World.cell?_setCell_far _ ⟨g, 0, none⟩ _ _ hp]
  exact h
theorem two_cells {w : World} {g : Nat} {v a b : Value} (h0 : w.cell? ⟨g, 0, none⟩ = some a) (h1 : w.cell? ⟨g, 1, none⟩ = some b) : (w.setCell ⟨g, 0, none⟩ v).cell? ⟨g, 0, none⟩ = some v ∧ (w.setCell ⟨g, 0, none⟩ v).cell? ⟨g, 1, none⟩ = some b :=
  ⟨World.cell?_setCell_same _ _ _ h0, by rw [World.cell?_setCell_other _ _ _ _ (by simp)]; exact h1⟩
theorem isAt_val {l : List (Int × Int)} {z : Int} {k : Nat} (h : isAt l z = some k) : ∃ y, l[k]? = some (z, y) := by
  unfold isAt at h
  rw [List.findIdx?_eq_some_iff_getElem] at h
  obtain ⟨hl, h1, _⟩ := h
  have e : l[k].1 = z := by simpa using h1
  exact ⟨l[k].2, by rw [List.getElem?_eq_getElem hl, ← e]⟩
set_option maxRecDepth 100000 in
set_option maxHeartbeats 8000000 in
theorem spec_cap (old num : Int) (a1 a2 : Option Addr) (n1 c1 n2 c2 : Nat) (l m : List (Int × Int)) (w : World) (hc1 : n1 ≤ c1) (_hc2 : n2 ≤ c2) (hz1 : n1 ≤ 1048576) (hz2 : n2 ≤ 1048576) (h1 : Holds w a1 n1 l) (h2 : Holds w a2 n2 m) :
    Calls Try.prog 43 #[.agg #[.slice a1 n1 c1, .slice a2 n2 c2], .int .i64 old, .int .i64 num] w (Res (renM old num l m).isSome ((renM old num l m).getD ([], [])).1 ((renM old num l m).getD ([], [])).2 w) := by
  obtain ⟨i1, hi1, hy0, hy1, hy2⟩ := info_parts infoContext
  obtain ⟨fy1, fy2⟩ := fz_box2 w (.slice a1 n1 c1) (.slice a2 n2 c2) (.slice none 0 0) (.slice none 0 0) 27 27
  obtain ⟨hs, x1, x2, y1, y2, hb0⟩ := boxes2 w (.slice a1 n1 c1) (.slice a2 n2 c2) (.slice none 0 0) (.slice none 0 0) 27 27
  have HS := Lib.hid hs
  have HO1 := Lib.hid h1
  have HC1 := Lib.hid hc1
  have H1 := Lib.hid (h1.below hb0)
  have H2 := Lib.hid (h2.below hb0)
  clear h1 h2 hs
  go_enter Try.func43, Try.ntmps43
  go_wp2_with fail
  generalize ((w.alloc (.cells #[.slice a1 n1 c1, .slice a2 n2 c2] 27)).alloc (.cells #[.slice none 0 0, .slice none 0 0] 27)) = W at *
  have lw : w.heap.size < W.heap.size := by rw [HS.out]; omega
  have lw1 : w.heap.size + 1 < W.heap.size := by rw [HS.out]; omega
  have cK : ∀ d os, Calls Try.prog 71 #[.agg #[.slice a1 n1 c1, .slice a2 n2 c2], .int .i64 old] (Sort.grow (redrawn W d) os) fun e w'' => e = .returned (.int .i64 (find l old)) ∧ ∃ p : Regrown, w'' = Sort.grow (redrawn W p.d) p.os := fun d os => Calls.regrown_of (l2Find_any a1 a2 n1 c1 n2 c2 l old _ (by omega) (H1.out.below (below_regrown W d os)))
  have cD : ∀ d os, Calls Try.prog 71 #[.agg #[.slice a1 n1 c1, .slice a2 n2 c2], .int .i64 num] (Sort.grow (redrawn W d) os) fun e w'' => e = .returned (.int .i64 (find l num)) ∧ ∃ p : Regrown, w'' = Sort.grow (redrawn W p.d) p.os := fun d os => Calls.regrown_of (l2Find_any a1 a2 n1 c1 n2 c2 l num _ (by omega) (H1.out.below (below_regrown W d os)))
  have k1 := cell_regrown x1
  have k2 := cell_regrown x2
  refine wp_region_quiet_below (by kernel_rfl) (by kernel_rfl) ?_
  repeat (go_big_quiet_step (first | (go_at_call 71; first | with_reducible exact cK _ _ | with_reducible exact cD _ _)))
  refine wpQuiet_nil ?_
  intro _ hw'
  obtain ⟨⟨dq, osq⟩, hw''⟩ := hw'
  subst hw''
  clear cK cD k1 k2
  have bq := below_regrown W dq osq
  generalize Sort.grow (redrawn W dq) osq = wq at *
  have r1 := (bq.cell (p := ⟨w.heap.size, 0, none⟩) lw).trans x1
  have r2 := (bq.cell (p := ⟨w.heap.size, 1, none⟩) lw).trans x2
  have HBQ := Lib.hid bq
  clear bq
  cases hg : good l m with
  | false =>
    have HE := Lib.hid (renM_bad (o := old) (n := num) hg)
    have HGG := Lib.hid hg
    clear hg
    generalize find l old = fk
    generalize find l num = fd
    go_wp2_with fail
    refine (Good2.l2Good_any _ a2 n1 c1 n2 c2 l m wq (H1.out.below HBQ.out) (H2.out.below HBQ.out)).mono ?_
    rintro e w2 ⟨rfl, b2'⟩
    rw [HGG.out]
    have b2 := HBQ.out.trans (b2'.mono HBQ.out.size)
    clear r1 r2 b2'
    have r1 := (b2.cell (p := ⟨w.heap.size, 0, none⟩) lw).trans x1
    have r2 := (b2.cell (p := ⟨w.heap.size, 1, none⟩) lw).trans x2
    have s1 := (b2.cell (p := ⟨w.heap.size + 1, 0, none⟩) lw1).trans y1
    have s2 := (b2.cell (p := ⟨w.heap.size + 1, 1, none⟩) lw1).trans y2
    have t1 := fz b2 ⟨w.heap.size + 1, 0, none⟩ lw1 fy1
    have t2 := fz b2 ⟨w.heap.size + 1, 1, none⟩ lw1 fy2
    have HB2 := Lib.hid (hb0.trans (b2.mono hb0.size))
    go_wp2_with (fail)
    obtain ⟨q1, q2⟩ := set2_cells (u := .slice none 0 0) (v := .slice none 0 0) s1 s2
    refine bodyPost_ret (v := .tuple #[.agg #[.slice none 0 0, .slice none 0 0], .bool false]) (by simp [results, Try.results43, go_sem, q1, q2]) rfl ?_
    rw [HE.out]
    exact ⟨none, 0, 0, none, 0, 0, rfl, Got.nil _ _, by omega, by omega, ((HB2.out.setCell (p := ⟨w.heap.size + 1, 0, none⟩) (Nat.le_succ _) _).setCell (p := ⟨w.heap.size + 1, 1, none⟩) (Nat.le_succ _) _)⟩
  | true =>
    have HG := Lib.hid hg
    have HGG := Lib.hid hg
    clear hg
    cases hj : isAt l old with
    | none =>
      have HE := Lib.hid (renM_noO (n := num) (m := m) hj)
      rw [find_none hj]
      clear hj
      generalize find l num = fd
      go_wp2_with fail
      refine (Good2.l2Good_any _ a2 n1 c1 n2 c2 l m wq (H1.out.below HBQ.out) (H2.out.below HBQ.out)).mono ?_
      rintro e w2 ⟨rfl, b2'⟩
      rw [HGG.out]
      have b2 := HBQ.out.trans (b2'.mono HBQ.out.size)
      clear r1 r2 b2'
      have r1 := (b2.cell (p := ⟨w.heap.size, 0, none⟩) lw).trans x1
      have r2 := (b2.cell (p := ⟨w.heap.size, 1, none⟩) lw).trans x2
      have s1 := (b2.cell (p := ⟨w.heap.size + 1, 0, none⟩) lw1).trans y1
      have s2 := (b2.cell (p := ⟨w.heap.size + 1, 1, none⟩) lw1).trans y2
      have t1 := fz b2 ⟨w.heap.size + 1, 0, none⟩ lw1 fy1
      have t2 := fz b2 ⟨w.heap.size + 1, 1, none⟩ lw1 fy2
      have HB2 := Lib.hid (hb0.trans (b2.mono hb0.size))
      go_wp2_with (fail)
      obtain ⟨q1, q2⟩ := set2_cells (u := .slice none 0 0) (v := .slice none 0 0) s1 s2
      refine bodyPost_ret (v := .tuple #[.agg #[.slice none 0 0, .slice none 0 0], .bool false]) (by simp [results, Try.results43, go_sem, q1, q2]) rfl ?_
      rw [HE.out]
      exact ⟨none, 0, 0, none, 0, 0, rfl, Got.nil _ _, by omega, by omega, ((HB2.out.setCell (p := ⟨w.heap.size + 1, 0, none⟩) (Nat.le_succ _) _).setCell (p := ⟨w.heap.size + 1, 1, none⟩) (Nat.le_succ _) _)⟩
    | some j =>
      rw [find_some hj]
      have hj0 : decide ((j : Int) < 0) = false := decide_eq_false (by omega)
      have hj00 : ¬ (j : Int) < 0 := by omega
      have HJ := Lib.hid hj
      have hjl : j < n1 := by rw [← H1.out.1]; exact isAt_lt hj
      have hn1 : n1 ≤ 10 := by rw [← H1.out.1]; exact (RemCS.good_few HG.out).1
      have hn2 : n2 ≤ 24 := by rw [← H2.out.1]; exact (RemCS.good_few HG.out).2
      clear hj
      by_cases hrg : 1 ≤ num ∧ num ≤ 999
      · have HR1 := Lib.hid hrg
        clear hrg
        cases hk : isAt l num with
        | none =>
          rw [find_none hk]
          have HNO : Hid (¬ (num ≠ old ∧ (isAt l num).isSome = true)) := fun h => by rw [hk] at h; exact absurd h.2 (by simp)
          clear hk
          obtain ⟨b', off', xx, kk, ha, hx, ea, eb⟩ := HO1.out.at j hjl
          subst ha
          have HBB : Hid (b' < w.heap.size) := World.block_lt_of_cell? w ⟨b', off' + j * 2, none⟩ ea
          have HX := Lib.hid hx
          have HEB := Lib.hid eb
          have HE := Lib.hid (renM_some (m := m) HG.out HR1.out.1 HR1.out.2 HJ.out HNO.out)
          clear ea eb hx
          go_wp2_with fail
          refine (Good2.l2Good_any _ a2 n1 c1 n2 c2 l m wq (H1.out.below HBQ.out) (H2.out.below HBQ.out)).mono ?_
          rintro e w2 ⟨rfl, b2'⟩
          rw [HGG.out]
          have b2 := HBQ.out.trans (b2'.mono HBQ.out.size)
          clear r1 r2 b2'
          have r1 := (b2.cell (p := ⟨w.heap.size, 0, none⟩) lw).trans x1
          have r2 := (b2.cell (p := ⟨w.heap.size, 1, none⟩) lw).trans x2
          have s1 := (b2.cell (p := ⟨w.heap.size + 1, 0, none⟩) lw1).trans y1
          have s2 := (b2.cell (p := ⟨w.heap.size + 1, 1, none⟩) lw1).trans y2
          have t1 := fz b2 ⟨w.heap.size + 1, 0, none⟩ lw1 fy1
          have t2 := fz b2 ⟨w.heap.size + 1, 1, none⟩ lw1 fy2
          have HB2 := Lib.hid b2
          clear b2 s1 s2 t1 t2
          go_wp2_with (go_at_call 102; refine (Good2.l1In_true num 1 999 HR1.out.1 HR1.out.2 _).mono ?_; rintro e w' ⟨rfl, rfl⟩)
          refine (SwapS.l2Swap_any old num (some ⟨b', off', none⟩) a2 n1 c1 n2 c2 l m (by omega) (by omega) _ (H1.out.below HB2.out) (H2.out.below HB2.out)).mono ?_
          rintro e w4 ⟨g1, d1, p2, k2, d2, hk2, rfl, o4, b4⟩
          have bW := HB2.out.trans (b4.mono HB2.out.size)
          have hba := below_alloc w4 (.cells #[.slice (some ⟨g1, 0, none⟩) n1 d1, .slice p2 k2 d2] 27)
          have bZ := bW.trans (hba.mono bW.size)
          clear r1 r2
          have p1 := (bZ.cell (p := ⟨w.heap.size, 0, none⟩) lw).trans x1
          have c1' := box_first w4 (.slice (some ⟨g1, 0, none⟩) n1 d1) (.slice p2 k2 d2) 27
          have c2' := box_second w4 (.slice (some ⟨g1, 0, none⟩) n1 d1) (.slice p2 k2 d2) 27
          have hnew := heap_alloc_new w4 (.cells #[.slice (some ⟨g1, 0, none⟩) n1 d1, .slice p2 k2 d2] 27)
          have e1' : (w4.alloc (.cells #[.slice (some ⟨g1, 0, none⟩) n1 d1, .slice p2 k2 d2] 27)).frozen? ⟨w4.heap.size, 0, none⟩ = false := (by simp only [World.frozen?, hnew]; rfl)
          have e2' : (w4.alloc (.cells #[.slice (some ⟨g1, 0, none⟩) n1 d1, .slice p2 k2 d2] 27)).frozen? ⟨w4.heap.size, 1, none⟩ = false := (by simp only [World.frozen?, hnew]; rfl)
          have hgz : w4.heap.size < (w4.alloc (.cells #[.slice (some ⟨g1, 0, none⟩) n1 d1, .slice p2 k2 d2] 27)).heap.size := by simp
          have HGOT := Lib.hid ((o4.base HB2.out.size).below hba)
          have HSRC := Lib.hid (Src.of (H1.out.below bZ))
          have HBZ := Lib.hid bZ
          have hW4 : W.heap.size ≤ w4.heap.size := bW.size
          have hg2 : ∀ q, (Value.slice p2 k2 d2).ownBlock = some q → W.heap.size ≤ q ∧ q < w4.heap.size := fun q e => ⟨Nat.le_trans HB2.out.size (o4.rel.lt q e).1, (o4.rel.lt q e).2⟩
          have HG2 := Lib.hid hg2
          have HIL : Hid (j ≤ n1) := by unfold Hid; omega
          have HIL1 : Hid (j + 1 ≤ n1) := by unfold Hid; omega
          clear hnew hba bW bZ o4 b4 hg2
          go_wp2_with fail
          generalize w4.alloc (.cells #[.slice (some ⟨g1, 0, none⟩) n1 d1, .slice p2 k2 d2] 27) = Z at *
          generalize w4.heap.size = gb at *
          have HK : Hid (∀ X, Below Z.heap.size Z X → X.cell? ⟨w.heap.size, 0, none⟩ = some (.slice (some ⟨b', off', none⟩) n1 c1)) := fun X hX => (hX.cell (p := ⟨w.heap.size, 0, none⟩) (by show w.heap.size < _; omega)).trans p1
          have HK2 : Hid (∀ X u, Below Z.heap.size Z X → (X.setCell ⟨gb, 0, none⟩ u).cell? ⟨w.heap.size, 0, none⟩ = some (.slice (some ⟨b', off', none⟩) n1 c1)) := fun X u hX => (World.cell?_setCell_other _ _ _ _ (by intro e; injection e with e; omega)).trans (HK.out X hX)
          have hk0 : (0 : Int) ≤ (j : Int) := by omega
          have hk1 : (j : Int) ≤ (n1 : Int) := by omega
          have hk5 : (j : Int) ≤ (c1 : Int) := by have := HC1.out; omega
          have hk6 : (n1 : Int) ≤ (c1 : Int) := by have := HC1.out; omega
          have hk2' : (j : Int) + 1 ≤ (n1 : Int) := by omega
          have hk3 : (0 : Int) ≤ (j : Int) + 1 := by omega
          have hk4 : IntKind.i64.wrap ((j : Int) + 1) = (j : Int) + 1 := by rw [IntKind.wrap_i64]; omega
          go_region_held3 (fun (X : World) => X.cell? ⟨w.heap.size, 0, none⟩ = some (.slice (some ⟨b', off', none⟩) n1 c1)) (first | (refine HK.out _ ?_; (repeat (first | exact B10.out | exact B8.out | with_reducible exact Below.refl _ _ | with_reducible refine belA ?_ _ | with_reducible refine Below.drew ?_ | fail)); done) | (refine HK2.out _ _ ?_; (repeat (first | exact B10.out | exact B8.out | with_reducible exact Below.refl _ _ | with_reducible refine belA ?_ _ | with_reducible refine Below.drew ?_ | fail)); done) | fail) ((first | (refine step_append_src (by rfl) (.tmp 43) (.tmp 47) 24 (by rfl) Z.heap.size 55 i1 _ Try.underlying24 hi1 hy0 hy1 hy2 rfl _ 0 0 [] (by rfl) (empty_at (by first | exact one_a _ _ | exact one_b _ _) (by first | omega | (simp; done) | (simp; omega))) _ j _ (l.take j) (by rfl) ((HSRC.out.take HIL.out).below (by (repeat (first | exact B10.out | exact B8.out | with_reducible exact Below.refl _ _ | with_reducible refine belA ?_ _ | with_reducible refine Below.drew ?_ | fail)); done)) (by omega) (Below.size (B := Z.heap.size) (by (repeat (first | exact B10.out | exact B8.out | with_reducible exact Below.refl _ _ | with_reducible refine belA ?_ _ | with_reducible refine Below.drew ?_ | fail)); done)) _ rfl ?_; intro g8 d8 w8 hown8 hgrow8 hat8 hlt8; have B8 : Hid (Below Z.heap.size Z w8) := Below.grown (by (repeat (first | exact B10.out | exact B8.out | with_reducible exact Below.refl _ _ | with_reducible refine belA ?_ _ | with_reducible refine Below.drew ?_ | fail)); done) hgrow8 (Below.size (B := Z.heap.size) (by (repeat (first | exact B10.out | exact B8.out | with_reducible exact Below.refl _ _ | with_reducible refine belA ?_ _ | with_reducible refine Below.drew ?_ | fail)); done)) (fun q e => by injection e with e; first | omega | (simp at e; omega)); rw [Nat.zero_add]; rw [Nat.zero_add, List.nil_append] at hown8; have HO8 := Lib.hid hown8; clear hown8 hgrow8 hat8 hlt8; have l8 : Z.heap.size ≤ w8.heap.size := B8.out.size) | (refine step_append_src (by rfl) (.tmp 48) (.tmp 53) 24 (by rfl) Z.heap.size 55 i1 _ Try.underlying24 hi1 hy0 hy1 hy2 rfl g8 j d8 (flat (l.take j)) (by rfl) (by first | exact HO8.out | exact HO8.out.alloc _) _ (n1 - (j + 1)) _ (l.drop (j + 1)) (by rfl) ((HSRC.out.cut HIL1.out HC1.out).below (by (repeat (first | exact B10.out | exact B8.out | with_reducible exact Below.refl _ _ | with_reducible refine belA ?_ _ | with_reducible refine Below.drew ?_ | fail)); done)) (by omega) (Below.size (B := Z.heap.size) (by (repeat (first | exact B10.out | exact B8.out | with_reducible exact Below.refl _ _ | with_reducible refine belA ?_ _ | with_reducible refine Below.drew ?_ | fail)); done)) _ rfl ?_; intro g10 d10 w10 hown10 hgrow10 hat10 hlt10; have B10 : Hid (Below Z.heap.size Z w10) := Below.grown (by (repeat (first | exact B10.out | exact B8.out | with_reducible exact Below.refl _ _ | with_reducible refine belA ?_ _ | with_reducible refine Below.drew ?_ | fail)); done) hgrow10 (Below.size (B := Z.heap.size) (by (repeat (first | exact B10.out | exact B8.out | with_reducible exact Below.refl _ _ | with_reducible refine belA ?_ _ | with_reducible refine Below.drew ?_ | fail)); done)) (fun q e => by injection e with e; have hq := (HO8.out.lt g8 rfl).1; omega); have HO10 := Lib.hid hown10; clear hown10 hgrow10 hat10 hlt10; have l10 : Z.heap.size ≤ w10.heap.size := B10.out.size; have r1 := (B10.out.cell (p := ⟨gb, 0, none⟩) hgz).trans c1'; have r2 := (B10.out.cell (p := ⟨gb, 1, none⟩) hgz).trans c2'; have t1 := fz B10.out ⟨gb, 0, none⟩ hgz e1'; have t2 := fz B10.out ⟨gb, 1, none⟩ hgz e2') | fail))
          all_goals (obtain ⟨nr, hnn⟩ : ∃ nr, nr = j + (n1 - (j + 1)) := ⟨_, rfl⟩)
          all_goals (have hnb : nr ≤ 10 := by omega)
          all_goals (have hO := HO10.out)
          all_goals rw [← hnn] at hO ⊢
          all_goals rw [show flat (l.take j) ++ flat (l.drop (j + 1)) = flat (l.take j ++ l.drop (j + 1)) from (flat_app _ _).symm] at hO
          all_goals (have HO := Lib.hid hO; clear hO hnn)
          all_goals (have hg10 : Z.heap.size ≤ g10 := (HO.out.lt g10 rfl).1)
          all_goals (have hG10 := Lib.hid (HGOT.out.below B10.out))
          all_goals (have hBX : Hid (Below w.heap.size w w10) := (hb0.trans (HBZ.out.mono hb0.size)).trans (B10.out.mono (hb0.trans (HBZ.out.mono hb0.size)).size))
          all_goals (have HCAP := Lib.hid (SwapS.own_cap HO.out))
          all_goals (have hL1 : (rest l j).length = nr := by have h := (holds_own HO.out).1; exact h)
          all_goals (have HXY : Hid (Below Z.heap.size Z w10) := B10.out)
          all_goals (have f1 : (Value.slice (some ⟨g10, 0, none⟩) nr d10).ownBlock ≠ some gb := own_off (by omega))
          all_goals (have f3 : (Value.slice p2 k2 d2).ownBlock ≠ some gb := fun e => by have := HG2.out _ e; omega)
          all_goals (have HY1 := Lib.hid (holds_own (setCell_far (u := .slice (some ⟨g10, 0, none⟩) nr d10) (o := 0) HO.out f1)))
          all_goals (have HY2 := Lib.hid (holds_own (setCell_far (u := .slice (some ⟨g10, 0, none⟩) nr d10) (o := 0) hG10.out.rel f3)))
          all_goals (have hbY : Below w.heap.size w (w10.setCell ⟨gb, 0, none⟩ (.slice (some ⟨g10, 0, none⟩) nr d10)) := hBX.out.setCell (p := ⟨gb, 0, none⟩) (by show _ ≤ gb; omega) _)
          all_goals (have HBY := Lib.hid hbY)
          all_goals (have hbYW : Below W.heap.size W (w10.setCell ⟨gb, 0, none⟩ (.slice (some ⟨g10, 0, none⟩) nr d10)) := (HBZ.out.trans (B10.out.mono HBZ.out.size)).setCell (p := ⟨gb, 0, none⟩) hW4 _)
          all_goals (have m1 := (hbYW.cell (p := ⟨w.heap.size, 0, none⟩) lw).trans x1)
          all_goals (have s1 := (hbYW.cell (p := ⟨w.heap.size + 1, 0, none⟩) lw1).trans y1)
          all_goals (have s2 := (hbYW.cell (p := ⟨w.heap.size + 1, 1, none⟩) lw1).trans y2)
          all_goals (have v1 := fz hbYW ⟨w.heap.size + 1, 0, none⟩ lw1 fy1)
          all_goals (have v2 := fz hbYW ⟨w.heap.size + 1, 1, none⟩ lw1 fy2)
          all_goals (have ee2 := (HBY.out.cell (p := ⟨b', off' + j * 2 + 1, none⟩) HBB.out).trans HEB.out)
          all_goals (have hbb : b' < w.heap.size := HBB.out)
          all_goals (have hgz2 : gb < w10.heap.size := Nat.lt_of_lt_of_le hgz B10.out.size)
          all_goals (obtain ⟨n1', n2'⟩ := two_cells (v := .slice (some ⟨g10, 0, none⟩) nr d10) r1 r2)
          all_goals (have hii : (j : Int) < (n1 : Int) := by omega)
          all_goals clear p1 x1 x2 y1 y2 fy1 fy2 c1' c2' e1' e2' r1 r2 t1 t2 f1 f3 hbY hbYW hk1 hk2' hk3 hk4
          all_goals generalize w10.setCell ⟨gb, 0, none⟩ (.slice (some ⟨g10, 0, none⟩) nr d10) = Y at *
          all_goals (have HN1 : Hid (∀ X, Below Y.heap.size Y X → Holds X (some ⟨g10, 0, none⟩) nr (rest l j) ∧ Holds X p2 k2 (swapM old num m)) := fun X hX => ⟨HY1.out.below hX, HY2.out.below hX⟩)
          all_goals (have hgY : gb < Y.heap.size := World.block_lt_of_cell? Y ⟨gb, 0, none⟩ n1')
          all_goals (have hwY : w.heap.size < Y.heap.size := World.block_lt_of_cell? Y ⟨w.heap.size, 0, none⟩ m1)
          all_goals (have hwY1 : w.heap.size + 1 < Y.heap.size := World.block_lt_of_cell? Y ⟨w.heap.size + 1, 0, none⟩ s1)
          all_goals (have HK6 : Hid (∀ X, Below Y.heap.size Y X → X.cell? ⟨gb, 0, none⟩ = some (.slice (some ⟨g10, 0, none⟩) nr d10) ∧ X.cell? ⟨gb, 1, none⟩ = some (.slice p2 k2 d2) ∧ X.cell? ⟨w.heap.size, 0, none⟩ = some (.slice (some ⟨b', off', none⟩) n1 c1) ∧ X.cell? ⟨b', off' + j * 2 + 1, none⟩ = some (.int .i64 kk)) := fun X hX => ⟨(hX.cell (p := ⟨gb, 0, none⟩) hgY).trans n1', (hX.cell (p := ⟨gb, 1, none⟩) hgY).trans n2', (hX.cell (p := ⟨w.heap.size, 0, none⟩) hwY).trans m1, (hX.cell (p := ⟨b', off' + j * 2 + 1, none⟩) (by show b' < _; omega)).trans ee2⟩)
          all_goals (have HK7 : Hid (∀ X u v, Below Y.heap.size Y X → ((X.setCell ⟨w.heap.size + 1, 0, none⟩ u).setCell ⟨w.heap.size + 1, 1, none⟩ v).cell? ⟨gb, 0, none⟩ = some (.slice (some ⟨g10, 0, none⟩) nr d10) ∧ ((X.setCell ⟨w.heap.size + 1, 0, none⟩ u).setCell ⟨w.heap.size + 1, 1, none⟩ v).cell? ⟨gb, 1, none⟩ = some (.slice p2 k2 d2) ∧ ((X.setCell ⟨w.heap.size + 1, 0, none⟩ u).setCell ⟨w.heap.size + 1, 1, none⟩ v).cell? ⟨w.heap.size, 0, none⟩ = some (.slice (some ⟨b', off', none⟩) n1 c1) ∧ ((X.setCell ⟨w.heap.size + 1, 0, none⟩ u).setCell ⟨w.heap.size + 1, 1, none⟩ v).cell? ⟨b', off' + j * 2 + 1, none⟩ = some (.int .i64 kk)) := fun X u v hX => ⟨far2 (HK6.out X hX).1 (by show w.heap.size + 1 ≠ gb; omega), far2 (HK6.out X hX).2.1 (by show w.heap.size + 1 ≠ gb; omega), far2 (HK6.out X hX).2.2.1 (by show w.heap.size + 1 ≠ w.heap.size; omega), far2 (HK6.out X hX).2.2.2 (by show w.heap.size + 1 ≠ b'; omega)⟩)
          all_goals go_wp2_with fail
          all_goals clear h
          all_goals go_region_held3 (fun (X : World) => X.cell? ⟨gb, 0, none⟩ = some (.slice (some ⟨g10, 0, none⟩) nr d10) ∧ X.cell? ⟨gb, 1, none⟩ = some (.slice p2 k2 d2) ∧ X.cell? ⟨w.heap.size, 0, none⟩ = some (.slice (some ⟨b', off', none⟩) n1 c1) ∧ X.cell? ⟨b', off' + j * 2 + 1, none⟩ = some (.int .i64 kk)) (first | (refine HK6.out _ ?_; (repeat (first | exact B11.out | with_reducible exact Below.refl _ _ | with_reducible refine belA ?_ _ | with_reducible refine Below.drew ?_ | fail)); done) | (refine HK7.out _ _ _ ?_; (repeat (first | exact B11.out | with_reducible exact Below.refl _ _ | with_reducible refine belA ?_ _ | with_reducible refine Below.drew ?_ | fail)); done) | fail) ((go_at_call 81; refine (Put.l2Put_any num kk (some ⟨g10, 0, none⟩) p2 nr d10 k2 d2 (rest l j) (swapM old num m) (by omega) (by omega) HCAP.out _ (HN1.out _ (by (repeat (first | exact B11.out | with_reducible exact Below.refl _ _ | with_reducible refine belA ?_ _ | with_reducible refine Below.drew ?_ | fail)); done)).1 (HN1.out _ (by (repeat (first | exact B11.out | with_reducible exact Below.refl _ _ | with_reducible refine belA ?_ _ | with_reducible refine Below.drew ?_ | fail)); done)).2).mono ?_; rintro e w11 ⟨g11, g12, d11, d12, rfl, o11, b11⟩; have B11 : Hid (Below Y.heap.size Y w11) := Below.trans (by (repeat (first | exact B11.out | with_reducible exact Below.refl _ _ | with_reducible refine belA ?_ _ | with_reducible refine Below.drew ?_ | fail)); done) (b11.mono (Nat.le_refl _)); have HO11 := Lib.hid o11; clear b11 o11; have s11 := (B11.out.cell (p := ⟨w.heap.size + 1, 0, none⟩) hwY1).trans s1; have s12 := (B11.out.cell (p := ⟨w.heap.size + 1, 1, none⟩) hwY1).trans s2; have v11 := fz B11.out ⟨w.heap.size + 1, 0, none⟩ hwY1 v1; have v12 := fz B11.out ⟨w.heap.size + 1, 1, none⟩ hwY1 v2))
          all_goals go_wp2_with fail
          all_goals (obtain ⟨z1, z2⟩ := set2_cells (u := .slice (some ⟨g11, 0, none⟩) (nr + 1) d11) (v := .slice (some ⟨g12, 0, none⟩) k2 d12) s11 s12)
          all_goals refine bodyPost_ret (v := .tuple #[.agg #[.slice (some ⟨g11, 0, none⟩) (nr + 1) d11, .slice (some ⟨g12, 0, none⟩) k2 d12], .bool true]) (by simp [results, Try.results43, go_sem, z1, z2]) rfl ?_
          all_goals rw [HE.out, kindAt_is HX.out]
          all_goals (have hwY3 : w.heap.size + 1 < Y.heap.size := hwY1)
          all_goals (have q1 := (HO11.out.ctx.lt g11 rfl).1)
          all_goals (have q2 := (HO11.out.rel.lt g12 rfl).1)
          all_goals (have q3 : Y.heap.size ≤ g11 := q1)
          all_goals (have q4 : Y.heap.size ≤ g12 := q2)
          all_goals refine ⟨some ⟨g11, 0, none⟩, nr + 1, d11, some ⟨g12, 0, none⟩, k2, d12, rfl, ?_, by omega, by omega, (((HBY.out.trans (B11.out.mono HBY.out.size)).setCell (p := ⟨w.heap.size + 1, 0, none⟩) (Nat.le_succ _) _).setCell (p := ⟨w.heap.size + 1, 1, none⟩) (Nat.le_succ _) _)⟩
          all_goals (have f1 : (Value.slice (some ⟨g11, 0, none⟩) (nr + 1) d11).ownBlock ≠ some (w.heap.size + 1) := own_off (by omega))
          all_goals (have f2 : (Value.slice (some ⟨g12, 0, none⟩) k2 d12).ownBlock ≠ some (w.heap.size + 1) := own_off (by omega))
          all_goals exact ⟨ownsRow_base (setCell_far (setCell_far HO11.out.ctx f1) f1) (Nat.le_trans (Nat.le_of_lt (Nat.lt_of_succ_lt hwY3)) (Nat.le_refl _)), ownsRow_base (setCell_far (setCell_far HO11.out.rel f2) f2) (Nat.le_trans (Nat.le_of_lt (Nat.lt_of_succ_lt hwY3)) (Nat.le_refl _)), (got_of_own HO11.out).ne⟩
        | some k =>
          rw [find_some hk]
          have hk0 : decide ((k : Int) < 0) = false := decide_eq_false (by omega)
          have hk00 : ¬ (k : Int) < 0 := by omega
          have hk1 : (0 : Int) ≤ (k : Int) := by omega
          have hk2 : decide ((0 : Int) ≤ (k : Int)) = true := decide_eq_true hk1
          have hk3 : decide ((k : Int) ≥ 0) = true := decide_eq_true hk1
          by_cases hkj : k = j
          · subst k
            have HNO : Hid (¬ (num ≠ old ∧ (isAt l num).isSome = true)) := fun h => by obtain ⟨y, hy⟩ := isAt_val hk; obtain ⟨z, hz⟩ := isAt_val HJ.out; rw [hy] at hz; injection hz with hz; injection hz with hz; exact h.1 hz
            have hkk : ((j : Int) == (j : Int)) = true := by simp
            have hkk2 : ((j : Int) != (j : Int)) = false := by simp
            clear hk
            obtain ⟨b', off', xx, kk, ha, hx, ea, eb⟩ := HO1.out.at j hjl
            subst ha
            have HBB : Hid (b' < w.heap.size) := World.block_lt_of_cell? w ⟨b', off' + j * 2, none⟩ ea
            have HX := Lib.hid hx
            have HEB := Lib.hid eb
            have HE := Lib.hid (renM_some (m := m) HG.out HR1.out.1 HR1.out.2 HJ.out HNO.out)
            clear ea eb hx
            go_wp2_with fail
            refine (Good2.l2Good_any _ a2 n1 c1 n2 c2 l m wq (H1.out.below HBQ.out) (H2.out.below HBQ.out)).mono ?_
            rintro e w2 ⟨rfl, b2'⟩
            rw [HGG.out]
            have b2 := HBQ.out.trans (b2'.mono HBQ.out.size)
            clear r1 r2 b2'
            have r1 := (b2.cell (p := ⟨w.heap.size, 0, none⟩) lw).trans x1
            have r2 := (b2.cell (p := ⟨w.heap.size, 1, none⟩) lw).trans x2
            have s1 := (b2.cell (p := ⟨w.heap.size + 1, 0, none⟩) lw1).trans y1
            have s2 := (b2.cell (p := ⟨w.heap.size + 1, 1, none⟩) lw1).trans y2
            have t1 := fz b2 ⟨w.heap.size + 1, 0, none⟩ lw1 fy1
            have t2 := fz b2 ⟨w.heap.size + 1, 1, none⟩ lw1 fy2
            have HB2 := Lib.hid b2
            clear b2 s1 s2 t1 t2
            go_wp2_with (go_at_call 102; refine (Good2.l1In_true num 1 999 HR1.out.1 HR1.out.2 _).mono ?_; rintro e w' ⟨rfl, rfl⟩)
            refine (SwapS.l2Swap_any old num (some ⟨b', off', none⟩) a2 n1 c1 n2 c2 l m (by omega) (by omega) _ (H1.out.below HB2.out) (H2.out.below HB2.out)).mono ?_
            rintro e w4 ⟨g1, d1, p2, k2, d2, hk2, rfl, o4, b4⟩
            have bW := HB2.out.trans (b4.mono HB2.out.size)
            have hba := below_alloc w4 (.cells #[.slice (some ⟨g1, 0, none⟩) n1 d1, .slice p2 k2 d2] 27)
            have bZ := bW.trans (hba.mono bW.size)
            clear r1 r2
            have p1 := (bZ.cell (p := ⟨w.heap.size, 0, none⟩) lw).trans x1
            have c1' := box_first w4 (.slice (some ⟨g1, 0, none⟩) n1 d1) (.slice p2 k2 d2) 27
            have c2' := box_second w4 (.slice (some ⟨g1, 0, none⟩) n1 d1) (.slice p2 k2 d2) 27
            have hnew := heap_alloc_new w4 (.cells #[.slice (some ⟨g1, 0, none⟩) n1 d1, .slice p2 k2 d2] 27)
            have e1' : (w4.alloc (.cells #[.slice (some ⟨g1, 0, none⟩) n1 d1, .slice p2 k2 d2] 27)).frozen? ⟨w4.heap.size, 0, none⟩ = false := (by simp only [World.frozen?, hnew]; rfl)
            have e2' : (w4.alloc (.cells #[.slice (some ⟨g1, 0, none⟩) n1 d1, .slice p2 k2 d2] 27)).frozen? ⟨w4.heap.size, 1, none⟩ = false := (by simp only [World.frozen?, hnew]; rfl)
            have hgz : w4.heap.size < (w4.alloc (.cells #[.slice (some ⟨g1, 0, none⟩) n1 d1, .slice p2 k2 d2] 27)).heap.size := by simp
            have HGOT := Lib.hid ((o4.base HB2.out.size).below hba)
            have HSRC := Lib.hid (Src.of (H1.out.below bZ))
            have HBZ := Lib.hid bZ
            have hW4 : W.heap.size ≤ w4.heap.size := bW.size
            have hg2 : ∀ q, (Value.slice p2 k2 d2).ownBlock = some q → W.heap.size ≤ q ∧ q < w4.heap.size := fun q e => ⟨Nat.le_trans HB2.out.size (o4.rel.lt q e).1, (o4.rel.lt q e).2⟩
            have HG2 := Lib.hid hg2
            have HIL : Hid (j ≤ n1) := by unfold Hid; omega
            have HIL1 : Hid (j + 1 ≤ n1) := by unfold Hid; omega
            clear hnew hba bW bZ o4 b4 hg2
            go_wp2_with fail
            generalize w4.alloc (.cells #[.slice (some ⟨g1, 0, none⟩) n1 d1, .slice p2 k2 d2] 27) = Z at *
            generalize w4.heap.size = gb at *
            have HK : Hid (∀ X, Below Z.heap.size Z X → X.cell? ⟨w.heap.size, 0, none⟩ = some (.slice (some ⟨b', off', none⟩) n1 c1)) := fun X hX => (hX.cell (p := ⟨w.heap.size, 0, none⟩) (by show w.heap.size < _; omega)).trans p1
            have HK2 : Hid (∀ X u, Below Z.heap.size Z X → (X.setCell ⟨gb, 0, none⟩ u).cell? ⟨w.heap.size, 0, none⟩ = some (.slice (some ⟨b', off', none⟩) n1 c1)) := fun X u hX => (World.cell?_setCell_other _ _ _ _ (by intro e; injection e with e; omega)).trans (HK.out X hX)
            have hk0 : (0 : Int) ≤ (j : Int) := by omega
            have hk1 : (j : Int) ≤ (n1 : Int) := by omega
            have hk5 : (j : Int) ≤ (c1 : Int) := by have := HC1.out; omega
            have hk6 : (n1 : Int) ≤ (c1 : Int) := by have := HC1.out; omega
            have hk2' : (j : Int) + 1 ≤ (n1 : Int) := by omega
            have hk3 : (0 : Int) ≤ (j : Int) + 1 := by omega
            have hk4 : IntKind.i64.wrap ((j : Int) + 1) = (j : Int) + 1 := by rw [IntKind.wrap_i64]; omega
            go_region_held3 (fun (X : World) => X.cell? ⟨w.heap.size, 0, none⟩ = some (.slice (some ⟨b', off', none⟩) n1 c1)) (first | (refine HK.out _ ?_; (repeat (first | exact B10.out | exact B8.out | with_reducible exact Below.refl _ _ | with_reducible refine belA ?_ _ | with_reducible refine Below.drew ?_ | fail)); done) | (refine HK2.out _ _ ?_; (repeat (first | exact B10.out | exact B8.out | with_reducible exact Below.refl _ _ | with_reducible refine belA ?_ _ | with_reducible refine Below.drew ?_ | fail)); done) | fail) ((first | (refine step_append_src (by rfl) (.tmp 43) (.tmp 47) 24 (by rfl) Z.heap.size 55 i1 _ Try.underlying24 hi1 hy0 hy1 hy2 rfl _ 0 0 [] (by rfl) (empty_at (by first | exact one_a _ _ | exact one_b _ _) (by first | omega | (simp; done) | (simp; omega))) _ j _ (l.take j) (by rfl) ((HSRC.out.take HIL.out).below (by (repeat (first | exact B10.out | exact B8.out | with_reducible exact Below.refl _ _ | with_reducible refine belA ?_ _ | with_reducible refine Below.drew ?_ | fail)); done)) (by omega) (Below.size (B := Z.heap.size) (by (repeat (first | exact B10.out | exact B8.out | with_reducible exact Below.refl _ _ | with_reducible refine belA ?_ _ | with_reducible refine Below.drew ?_ | fail)); done)) _ rfl ?_; intro g8 d8 w8 hown8 hgrow8 hat8 hlt8; have B8 : Hid (Below Z.heap.size Z w8) := Below.grown (by (repeat (first | exact B10.out | exact B8.out | with_reducible exact Below.refl _ _ | with_reducible refine belA ?_ _ | with_reducible refine Below.drew ?_ | fail)); done) hgrow8 (Below.size (B := Z.heap.size) (by (repeat (first | exact B10.out | exact B8.out | with_reducible exact Below.refl _ _ | with_reducible refine belA ?_ _ | with_reducible refine Below.drew ?_ | fail)); done)) (fun q e => by injection e with e; first | omega | (simp at e; omega)); rw [Nat.zero_add]; rw [Nat.zero_add, List.nil_append] at hown8; have HO8 := Lib.hid hown8; clear hown8 hgrow8 hat8 hlt8; have l8 : Z.heap.size ≤ w8.heap.size := B8.out.size) | (refine step_append_src (by rfl) (.tmp 48) (.tmp 53) 24 (by rfl) Z.heap.size 55 i1 _ Try.underlying24 hi1 hy0 hy1 hy2 rfl g8 j d8 (flat (l.take j)) (by rfl) (by first | exact HO8.out | exact HO8.out.alloc _) _ (n1 - (j + 1)) _ (l.drop (j + 1)) (by rfl) ((HSRC.out.cut HIL1.out HC1.out).below (by (repeat (first | exact B10.out | exact B8.out | with_reducible exact Below.refl _ _ | with_reducible refine belA ?_ _ | with_reducible refine Below.drew ?_ | fail)); done)) (by omega) (Below.size (B := Z.heap.size) (by (repeat (first | exact B10.out | exact B8.out | with_reducible exact Below.refl _ _ | with_reducible refine belA ?_ _ | with_reducible refine Below.drew ?_ | fail)); done)) _ rfl ?_; intro g10 d10 w10 hown10 hgrow10 hat10 hlt10; have B10 : Hid (Below Z.heap.size Z w10) := Below.grown (by (repeat (first | exact B10.out | exact B8.out | with_reducible exact Below.refl _ _ | with_reducible refine belA ?_ _ | with_reducible refine Below.drew ?_ | fail)); done) hgrow10 (Below.size (B := Z.heap.size) (by (repeat (first | exact B10.out | exact B8.out | with_reducible exact Below.refl _ _ | with_reducible refine belA ?_ _ | with_reducible refine Below.drew ?_ | fail)); done)) (fun q e => by injection e with e; have hq := (HO8.out.lt g8 rfl).1; omega); have HO10 := Lib.hid hown10; clear hown10 hgrow10 hat10 hlt10; have l10 : Z.heap.size ≤ w10.heap.size := B10.out.size; have r1 := (B10.out.cell (p := ⟨gb, 0, none⟩) hgz).trans c1'; have r2 := (B10.out.cell (p := ⟨gb, 1, none⟩) hgz).trans c2'; have t1 := fz B10.out ⟨gb, 0, none⟩ hgz e1'; have t2 := fz B10.out ⟨gb, 1, none⟩ hgz e2') | fail))
            all_goals (obtain ⟨nr, hnn⟩ : ∃ nr, nr = j + (n1 - (j + 1)) := ⟨_, rfl⟩)
            all_goals (have hnb : nr ≤ 10 := by omega)
            all_goals (have hO := HO10.out)
            all_goals rw [← hnn] at hO ⊢
            all_goals rw [show flat (l.take j) ++ flat (l.drop (j + 1)) = flat (l.take j ++ l.drop (j + 1)) from (flat_app _ _).symm] at hO
            all_goals (have HO := Lib.hid hO; clear hO hnn)
            all_goals (have hg10 : Z.heap.size ≤ g10 := (HO.out.lt g10 rfl).1)
            all_goals (have hG10 := Lib.hid (HGOT.out.below B10.out))
            all_goals (have hBX : Hid (Below w.heap.size w w10) := (hb0.trans (HBZ.out.mono hb0.size)).trans (B10.out.mono (hb0.trans (HBZ.out.mono hb0.size)).size))
            all_goals (have HCAP := Lib.hid (SwapS.own_cap HO.out))
            all_goals (have hL1 : (rest l j).length = nr := by have h := (holds_own HO.out).1; exact h)
            all_goals (have HXY : Hid (Below Z.heap.size Z w10) := B10.out)
            all_goals (have f1 : (Value.slice (some ⟨g10, 0, none⟩) nr d10).ownBlock ≠ some gb := own_off (by omega))
            all_goals (have f3 : (Value.slice p2 k2 d2).ownBlock ≠ some gb := fun e => by have := HG2.out _ e; omega)
            all_goals (have HY1 := Lib.hid (holds_own (setCell_far (u := .slice (some ⟨g10, 0, none⟩) nr d10) (o := 0) HO.out f1)))
            all_goals (have HY2 := Lib.hid (holds_own (setCell_far (u := .slice (some ⟨g10, 0, none⟩) nr d10) (o := 0) hG10.out.rel f3)))
            all_goals (have hbY : Below w.heap.size w (w10.setCell ⟨gb, 0, none⟩ (.slice (some ⟨g10, 0, none⟩) nr d10)) := hBX.out.setCell (p := ⟨gb, 0, none⟩) (by show _ ≤ gb; omega) _)
            all_goals (have HBY := Lib.hid hbY)
            all_goals (have hbYW : Below W.heap.size W (w10.setCell ⟨gb, 0, none⟩ (.slice (some ⟨g10, 0, none⟩) nr d10)) := (HBZ.out.trans (B10.out.mono HBZ.out.size)).setCell (p := ⟨gb, 0, none⟩) hW4 _)
            all_goals (have m1 := (hbYW.cell (p := ⟨w.heap.size, 0, none⟩) lw).trans x1)
            all_goals (have s1 := (hbYW.cell (p := ⟨w.heap.size + 1, 0, none⟩) lw1).trans y1)
            all_goals (have s2 := (hbYW.cell (p := ⟨w.heap.size + 1, 1, none⟩) lw1).trans y2)
            all_goals (have v1 := fz hbYW ⟨w.heap.size + 1, 0, none⟩ lw1 fy1)
            all_goals (have v2 := fz hbYW ⟨w.heap.size + 1, 1, none⟩ lw1 fy2)
            all_goals (have ee2 := (HBY.out.cell (p := ⟨b', off' + j * 2 + 1, none⟩) HBB.out).trans HEB.out)
            all_goals (have hbb : b' < w.heap.size := HBB.out)
            all_goals (have hgz2 : gb < w10.heap.size := Nat.lt_of_lt_of_le hgz B10.out.size)
            all_goals (obtain ⟨n1', n2'⟩ := two_cells (v := .slice (some ⟨g10, 0, none⟩) nr d10) r1 r2)
            all_goals (have hii : (j : Int) < (n1 : Int) := by omega)
            all_goals clear p1 x1 x2 y1 y2 fy1 fy2 c1' c2' e1' e2' r1 r2 t1 t2 f1 f3 hbY hbYW hk1 hk2' hk3 hk4
            all_goals generalize w10.setCell ⟨gb, 0, none⟩ (.slice (some ⟨g10, 0, none⟩) nr d10) = Y at *
            all_goals (have HN1 : Hid (∀ X, Below Y.heap.size Y X → Holds X (some ⟨g10, 0, none⟩) nr (rest l j) ∧ Holds X p2 k2 (swapM old num m)) := fun X hX => ⟨HY1.out.below hX, HY2.out.below hX⟩)
            all_goals (have hgY : gb < Y.heap.size := World.block_lt_of_cell? Y ⟨gb, 0, none⟩ n1')
            all_goals (have hwY : w.heap.size < Y.heap.size := World.block_lt_of_cell? Y ⟨w.heap.size, 0, none⟩ m1)
            all_goals (have hwY1 : w.heap.size + 1 < Y.heap.size := World.block_lt_of_cell? Y ⟨w.heap.size + 1, 0, none⟩ s1)
            all_goals (have HK6 : Hid (∀ X, Below Y.heap.size Y X → X.cell? ⟨gb, 0, none⟩ = some (.slice (some ⟨g10, 0, none⟩) nr d10) ∧ X.cell? ⟨gb, 1, none⟩ = some (.slice p2 k2 d2) ∧ X.cell? ⟨w.heap.size, 0, none⟩ = some (.slice (some ⟨b', off', none⟩) n1 c1) ∧ X.cell? ⟨b', off' + j * 2 + 1, none⟩ = some (.int .i64 kk)) := fun X hX => ⟨(hX.cell (p := ⟨gb, 0, none⟩) hgY).trans n1', (hX.cell (p := ⟨gb, 1, none⟩) hgY).trans n2', (hX.cell (p := ⟨w.heap.size, 0, none⟩) hwY).trans m1, (hX.cell (p := ⟨b', off' + j * 2 + 1, none⟩) (by show b' < _; omega)).trans ee2⟩)
            all_goals (have HK7 : Hid (∀ X u v, Below Y.heap.size Y X → ((X.setCell ⟨w.heap.size + 1, 0, none⟩ u).setCell ⟨w.heap.size + 1, 1, none⟩ v).cell? ⟨gb, 0, none⟩ = some (.slice (some ⟨g10, 0, none⟩) nr d10) ∧ ((X.setCell ⟨w.heap.size + 1, 0, none⟩ u).setCell ⟨w.heap.size + 1, 1, none⟩ v).cell? ⟨gb, 1, none⟩ = some (.slice p2 k2 d2) ∧ ((X.setCell ⟨w.heap.size + 1, 0, none⟩ u).setCell ⟨w.heap.size + 1, 1, none⟩ v).cell? ⟨w.heap.size, 0, none⟩ = some (.slice (some ⟨b', off', none⟩) n1 c1) ∧ ((X.setCell ⟨w.heap.size + 1, 0, none⟩ u).setCell ⟨w.heap.size + 1, 1, none⟩ v).cell? ⟨b', off' + j * 2 + 1, none⟩ = some (.int .i64 kk)) := fun X u v hX => ⟨far2 (HK6.out X hX).1 (by show w.heap.size + 1 ≠ gb; omega), far2 (HK6.out X hX).2.1 (by show w.heap.size + 1 ≠ gb; omega), far2 (HK6.out X hX).2.2.1 (by show w.heap.size + 1 ≠ w.heap.size; omega), far2 (HK6.out X hX).2.2.2 (by show w.heap.size + 1 ≠ b'; omega)⟩)
            all_goals go_wp2_with fail
            all_goals clear h
            all_goals go_region_held3 (fun (X : World) => X.cell? ⟨gb, 0, none⟩ = some (.slice (some ⟨g10, 0, none⟩) nr d10) ∧ X.cell? ⟨gb, 1, none⟩ = some (.slice p2 k2 d2) ∧ X.cell? ⟨w.heap.size, 0, none⟩ = some (.slice (some ⟨b', off', none⟩) n1 c1) ∧ X.cell? ⟨b', off' + j * 2 + 1, none⟩ = some (.int .i64 kk)) (first | (refine HK6.out _ ?_; (repeat (first | exact B11.out | with_reducible exact Below.refl _ _ | with_reducible refine belA ?_ _ | with_reducible refine Below.drew ?_ | fail)); done) | (refine HK7.out _ _ _ ?_; (repeat (first | exact B11.out | with_reducible exact Below.refl _ _ | with_reducible refine belA ?_ _ | with_reducible refine Below.drew ?_ | fail)); done) | fail) ((go_at_call 81; refine (Put.l2Put_any num kk (some ⟨g10, 0, none⟩) p2 nr d10 k2 d2 (rest l j) (swapM old num m) (by omega) (by omega) HCAP.out _ (HN1.out _ (by (repeat (first | exact B11.out | with_reducible exact Below.refl _ _ | with_reducible refine belA ?_ _ | with_reducible refine Below.drew ?_ | fail)); done)).1 (HN1.out _ (by (repeat (first | exact B11.out | with_reducible exact Below.refl _ _ | with_reducible refine belA ?_ _ | with_reducible refine Below.drew ?_ | fail)); done)).2).mono ?_; rintro e w11 ⟨g11, g12, d11, d12, rfl, o11, b11⟩; have B11 : Hid (Below Y.heap.size Y w11) := Below.trans (by (repeat (first | exact B11.out | with_reducible exact Below.refl _ _ | with_reducible refine belA ?_ _ | with_reducible refine Below.drew ?_ | fail)); done) (b11.mono (Nat.le_refl _)); have HO11 := Lib.hid o11; clear b11 o11; have s11 := (B11.out.cell (p := ⟨w.heap.size + 1, 0, none⟩) hwY1).trans s1; have s12 := (B11.out.cell (p := ⟨w.heap.size + 1, 1, none⟩) hwY1).trans s2; have v11 := fz B11.out ⟨w.heap.size + 1, 0, none⟩ hwY1 v1; have v12 := fz B11.out ⟨w.heap.size + 1, 1, none⟩ hwY1 v2))
            all_goals go_wp2_with fail
            all_goals (obtain ⟨z1, z2⟩ := set2_cells (u := .slice (some ⟨g11, 0, none⟩) (nr + 1) d11) (v := .slice (some ⟨g12, 0, none⟩) k2 d12) s11 s12)
            all_goals refine bodyPost_ret (v := .tuple #[.agg #[.slice (some ⟨g11, 0, none⟩) (nr + 1) d11, .slice (some ⟨g12, 0, none⟩) k2 d12], .bool true]) (by simp [results, Try.results43, go_sem, z1, z2]) rfl ?_
            all_goals rw [HE.out, kindAt_is HX.out]
            all_goals (have hwY3 : w.heap.size + 1 < Y.heap.size := hwY1)
            all_goals (have q1 := (HO11.out.ctx.lt g11 rfl).1)
            all_goals (have q2 := (HO11.out.rel.lt g12 rfl).1)
            all_goals (have q3 : Y.heap.size ≤ g11 := q1)
            all_goals (have q4 : Y.heap.size ≤ g12 := q2)
            all_goals refine ⟨some ⟨g11, 0, none⟩, nr + 1, d11, some ⟨g12, 0, none⟩, k2, d12, rfl, ?_, by omega, by omega, (((HBY.out.trans (B11.out.mono HBY.out.size)).setCell (p := ⟨w.heap.size + 1, 0, none⟩) (Nat.le_succ _) _).setCell (p := ⟨w.heap.size + 1, 1, none⟩) (Nat.le_succ _) _)⟩
            all_goals (have f1 : (Value.slice (some ⟨g11, 0, none⟩) (nr + 1) d11).ownBlock ≠ some (w.heap.size + 1) := own_off (by omega))
            all_goals (have f2 : (Value.slice (some ⟨g12, 0, none⟩) k2 d12).ownBlock ≠ some (w.heap.size + 1) := own_off (by omega))
            all_goals exact ⟨ownsRow_base (setCell_far (setCell_far HO11.out.ctx f1) f1) (Nat.le_trans (Nat.le_of_lt (Nat.lt_of_succ_lt hwY3)) (Nat.le_refl _)), ownsRow_base (setCell_far (setCell_far HO11.out.rel f2) f2) (Nat.le_trans (Nat.le_of_lt (Nat.lt_of_succ_lt hwY3)) (Nat.le_refl _)), (got_of_own HO11.out).ne⟩
          · have hne : num ≠ old := fun e => by subst e; have h := HJ.out; rw [hk] at h; injection h with h; exact hkj h
            have HE := Lib.hid (renM_has (m := m) HJ.out hne (by rw [hk]; rfl))
            have hkj2 : ¬ (k : Int) = (j : Int) := by omega
            have hkk : ((k : Int) == (j : Int)) = false := beq_false_of_ne (by omega)
            have hkk2 : ((k : Int) != (j : Int)) = true := by rw [bne, hkk]; rfl
            clear hk hne
            go_wp2_with fail
            refine (Good2.l2Good_any _ a2 n1 c1 n2 c2 l m wq (H1.out.below HBQ.out) (H2.out.below HBQ.out)).mono ?_
            rintro e w2 ⟨rfl, b2'⟩
            rw [HGG.out]
            have b2 := HBQ.out.trans (b2'.mono HBQ.out.size)
            clear r1 r2 b2'
            have r1 := (b2.cell (p := ⟨w.heap.size, 0, none⟩) lw).trans x1
            have r2 := (b2.cell (p := ⟨w.heap.size, 1, none⟩) lw).trans x2
            have s1 := (b2.cell (p := ⟨w.heap.size + 1, 0, none⟩) lw1).trans y1
            have s2 := (b2.cell (p := ⟨w.heap.size + 1, 1, none⟩) lw1).trans y2
            have t1 := fz b2 ⟨w.heap.size + 1, 0, none⟩ lw1 fy1
            have t2 := fz b2 ⟨w.heap.size + 1, 1, none⟩ lw1 fy2
            have HB2 := Lib.hid (hb0.trans (b2.mono hb0.size))
            go_wp2_with (go_at_call 102; refine (Good2.l1In_true num 1 999 HR1.out.1 HR1.out.2 _).mono ?_; rintro e w' ⟨rfl, rfl⟩)
            obtain ⟨q1, q2⟩ := set2_cells (u := .slice none 0 0) (v := .slice none 0 0) s1 s2
            refine bodyPost_ret (v := .tuple #[.agg #[.slice none 0 0, .slice none 0 0], .bool false]) (by simp [results, Try.results43, go_sem, q1, q2]) rfl ?_
            rw [HE.out]
            exact ⟨none, 0, 0, none, 0, 0, rfl, Got.nil _ _, by omega, by omega, ((HB2.out.setCell (p := ⟨w.heap.size + 1, 0, none⟩) (Nat.le_succ _) _).setCell (p := ⟨w.heap.size + 1, 1, none⟩) (Nat.le_succ _) _)⟩
      · have HE := Lib.hid (renM_far (o := old) (l := l) (m := m) hrg)
        have HNR := Lib.hid hrg
        clear hrg
        generalize find l num = fd
        go_wp2_with fail
        refine (Good2.l2Good_any _ a2 n1 c1 n2 c2 l m wq (H1.out.below HBQ.out) (H2.out.below HBQ.out)).mono ?_
        rintro e w2 ⟨rfl, b2'⟩
        rw [HGG.out]
        have b2 := HBQ.out.trans (b2'.mono HBQ.out.size)
        clear r1 r2 b2'
        have r1 := (b2.cell (p := ⟨w.heap.size, 0, none⟩) lw).trans x1
        have r2 := (b2.cell (p := ⟨w.heap.size, 1, none⟩) lw).trans x2
        have s1 := (b2.cell (p := ⟨w.heap.size + 1, 0, none⟩) lw1).trans y1
        have s2 := (b2.cell (p := ⟨w.heap.size + 1, 1, none⟩) lw1).trans y2
        have t1 := fz b2 ⟨w.heap.size + 1, 0, none⟩ lw1 fy1
        have t2 := fz b2 ⟨w.heap.size + 1, 1, none⟩ lw1 fy2
        have HB2 := Lib.hid (hb0.trans (b2.mono hb0.size))
        go_wp2_with (go_at_call 102; refine (Good2.l1In_false num 1 999 HNR.out _).mono ?_; rintro e w' ⟨rfl, rfl⟩)
        obtain ⟨q1, q2⟩ := set2_cells (u := .slice none 0 0) (v := .slice none 0 0) s1 s2
        refine bodyPost_ret (v := .tuple #[.agg #[.slice none 0 0, .slice none 0 0], .bool false]) (by simp [results, Try.results43, go_sem, q1, q2]) rfl ?_
        rw [HE.out]
        exact ⟨none, 0, 0, none, 0, 0, rfl, Got.nil _ _, by omega, by omega, ((HB2.out.setCell (p := ⟨w.heap.size + 1, 0, none⟩) (Nat.le_succ _) _).setCell (p := ⟨w.heap.size + 1, 1, none⟩) (Nat.le_succ _) _)⟩
end Go.Proofs.Ythcjembekadijaa.RenC
