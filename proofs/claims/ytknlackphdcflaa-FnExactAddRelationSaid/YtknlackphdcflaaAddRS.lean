/- The model's AddRelation: a record with a relation more. -/
import Derived.Test.YtknlackphdcflaaLink2
import Derived.Test.YtknlackphdcflaaAddRM
import Derived.Test.YtknlackphdcflaaGivesN
namespace Go.Proofs.Ytknlackphdcflaa.AddRS
open Go.RowKit Pairs Rec RecEq Find2 GoodM RelM Keep Row2 Copy Two Gives LawKit
open AddC (boxes222)
open AddRM (addR addR_none addR_some)
open RemCS (good_few)
set_option maxRecDepth 100000 in
set_option maxHeartbeats 8000000 in
theorem spec_any (zu zv : Int) : GivesN 17 (.agg #[.int .i64 zu, .int .i64 zv]) (addR zu zv) := by
  intro a1 a2 n1 n2 l m w hz1 hz2 h1 h2
  obtain ⟨hs, x1, x2, x3, x4, y1, y2, fy1, fy2, hb0⟩ := boxes222 w (.slice a1 n1 n1) (.slice a2 n2 n2) (.int .i64 zu) (.int .i64 zv) (.slice none 0 0) (.slice none 0 0) 32 44 32
  have HS := Lib.hid hs
  have H1 := Lib.hid (h1.below hb0)
  have H2 := Lib.hid (h2.below hb0)
  clear h1 h2 hs
  go_enter Try.func17, Try.ntmps17
  go_wp2_with fail
  generalize ((w.alloc (.cells #[.slice a1 n1 n1, .slice a2 n2 n2] 32)).alloc (.cells #[.int .i64 zu, .int .i64 zv] 44)).alloc (.cells #[.slice none 0 0, .slice none 0 0] 32) = W at *
  have lw : w.heap.size < W.heap.size := by rw [HS.out]; omega
  have lw1 : w.heap.size + 1 < W.heap.size := by rw [HS.out]; omega
  have lw2 : w.heap.size + 2 < W.heap.size := by rw [HS.out]; omega
  refine (Good2.l2Good_any a1 a2 n1 n1 n2 n2 l m W H1.out H2.out).mono ?_
  rintro e w1 ⟨rfl, b1⟩
  have r1 := (b1.cell (p := ⟨w.heap.size, 0, none⟩) lw).trans x1
  have r2 := (b1.cell (p := ⟨w.heap.size, 1, none⟩) lw).trans x2
  have r3 := (b1.cell (p := ⟨w.heap.size + 1, 0, none⟩) lw1).trans x3
  have r4 := (b1.cell (p := ⟨w.heap.size + 1, 1, none⟩) lw1).trans x4
  have s1 := (b1.cell (p := ⟨w.heap.size + 2, 0, none⟩) lw2).trans y1
  have s2 := (b1.cell (p := ⟨w.heap.size + 2, 1, none⟩) lw2).trans y2
  have t1 := fz b1 ⟨w.heap.size + 2, 0, none⟩ lw2 fy1
  have t2 := fz b1 ⟨w.heap.size + 2, 1, none⟩ lw2 fy2
  have HBX := Lib.hid (hb0.trans (b1.mono hb0.size))
  cases hg : good l m with
  | false =>
    have HE := Lib.hid (addR_none (x := zu) (y := zv) (l := l) (m := m) (by rw [hg]; simp))
    clear hg
    go_wp2_with fail
    obtain ⟨q1, q2⟩ := set2_cells (u := .slice none 0 0) (v := .slice none 0 0) s1 s2
    refine bodyPost_ret (v := .tuple #[.agg #[.slice none 0 0, .slice none 0 0], .bool false]) (by simp [results, Try.results17, go_sem, q1, q2]) rfl ?_
    rw [HE.out]
    exact ⟨none, 0, 0, none, 0, 0, rfl, Got.nil _ _, by omega, by omega, ((HBX.out.setCell (p := ⟨w.heap.size + 2, 0, none⟩) (by show _ ≤ w.heap.size + 2; omega) _).setCell (p := ⟨w.heap.size + 2, 1, none⟩) (by show _ ≤ w.heap.size + 2; omega) _)⟩
  | true =>
    have HV := Lib.hid hg
    clear hg
    have hn1 : n1 ≤ 10 := by rw [← H1.out.1]; exact (good_few HV.out).1
    have hn2 : n2 ≤ 24 := by rw [← H2.out.1]; exact (good_few HV.out).2
    go_wp2_with fail
    refine (Link2.l2Link_any zu zv a1 a2 n1 n1 n2 n2 l m (by omega) (by omega) (Nat.le_refl _) w1 (H1.out.below b1) (H2.out.below b1)).mono ?_
    rintro e w2 ⟨k2, hk2, g1, g2, d1, d2, rfl, o2, b2⟩
    go_wp2_with fail
    refine (Good2.l2Good_any (some ⟨g1, 0, none⟩) (some ⟨g2, 0, none⟩) n1 d1 k2 d2 l (link m (zu, zv)) w2 (ownHolds o2).1 (ownHolds o2).2).mono ?_
    rintro e w3 ⟨rfl, b3⟩
    have b13 := (b1.trans (b2.mono b1.size)).trans (b3.mono (b1.trans (b2.mono b1.size)).size)
    clear r1 r2 r3 r4 s1 s2 t1 t2 HBX
    have r1 := (b13.cell (p := ⟨w.heap.size, 0, none⟩) lw).trans x1
    have r2 := (b13.cell (p := ⟨w.heap.size, 1, none⟩) lw).trans x2
    have r3 := (b13.cell (p := ⟨w.heap.size + 1, 0, none⟩) lw1).trans x3
    have r4 := (b13.cell (p := ⟨w.heap.size + 1, 1, none⟩) lw1).trans x4
    have s1 := (b13.cell (p := ⟨w.heap.size + 2, 0, none⟩) lw2).trans y1
    have s2 := (b13.cell (p := ⟨w.heap.size + 2, 1, none⟩) lw2).trans y2
    have t1 := fz b13 ⟨w.heap.size + 2, 0, none⟩ lw2 fy1
    have t2 := fz b13 ⟨w.heap.size + 2, 1, none⟩ lw2 fy2
    have HBX := Lib.hid (hb0.trans (b13.mono hb0.size))
    cases hg2 : good l (link m (zu, zv)) with
    | false =>
      have HE := Lib.hid (addR_none (x := zu) (y := zv) (l := l) (m := m) (by rw [hg2]; simp))
      clear hg2
      go_wp2_with fail
      obtain ⟨q1, q2⟩ := set2_cells (u := .slice none 0 0) (v := .slice none 0 0) s1 s2
      refine bodyPost_ret (v := .tuple #[.agg #[.slice none 0 0, .slice none 0 0], .bool false]) (by simp [results, Try.results17, go_sem, q1, q2]) rfl ?_
      rw [HE.out]
      exact ⟨none, 0, 0, none, 0, 0, rfl, Got.nil _ _, by omega, by omega, ((HBX.out.setCell (p := ⟨w.heap.size + 2, 0, none⟩) (by show _ ≤ w.heap.size + 2; omega) _).setCell (p := ⟨w.heap.size + 2, 1, none⟩) (by show _ ≤ w.heap.size + 2; omega) _)⟩
    | true =>
      have HE := Lib.hid (addR_some (x := zu) (y := zv) HV.out hg2)
      clear hg2
      go_wp2_with fail
      refine (Link2.l2Link_any zu zv a1 a2 n1 n1 n2 n2 l m (by omega) (by omega) (Nat.le_refl _) w3 (H1.out.below b13) (H2.out.below b13)).mono ?_
      rintro e w4 ⟨k4, hk4, g3, g4, d3, d4, rfl, o4, b4⟩
      have b14 := b13.trans (b4.mono b13.size)
      clear r1 r2 r3 r4 s1 s2 t1 t2 HBX
      have r1 := (b14.cell (p := ⟨w.heap.size, 0, none⟩) lw).trans x1
      have r2 := (b14.cell (p := ⟨w.heap.size, 1, none⟩) lw).trans x2
      have r3 := (b14.cell (p := ⟨w.heap.size + 1, 0, none⟩) lw1).trans x3
      have r4 := (b14.cell (p := ⟨w.heap.size + 1, 1, none⟩) lw1).trans x4
      have s1 := (b14.cell (p := ⟨w.heap.size + 2, 0, none⟩) lw2).trans y1
      have s2 := (b14.cell (p := ⟨w.heap.size + 2, 1, none⟩) lw2).trans y2
      have t1 := fz b14 ⟨w.heap.size + 2, 0, none⟩ lw2 fy1
      have t2 := fz b14 ⟨w.heap.size + 2, 1, none⟩ lw2 fy2
      have HBX := Lib.hid (hb0.trans (b14.mono hb0.size))
      go_wp2_with fail
      obtain ⟨q1, q2⟩ := set2_cells (u := .slice (some ⟨g3, 0, none⟩) n1 d3) (v := .slice (some ⟨g4, 0, none⟩) k4 d4) s1 s2
      refine bodyPost_ret (v := .tuple #[.agg #[.slice (some ⟨g3, 0, none⟩) n1 d3, .slice (some ⟨g4, 0, none⟩) k4 d4], .bool true]) (by simp [results, Try.results17, go_sem, q1, q2]) rfl ?_
      rw [HE.out]
      have f3 : (Value.slice (some ⟨g3, 0, none⟩) n1 d3).ownBlock ≠ some (w.heap.size + 2) := AddC.own_off (by have := (o4.ctx.lt g3 rfl).1; have := b13.size; omega)
      have f4 : (Value.slice (some ⟨g4, 0, none⟩) k4 d4).ownBlock ≠ some (w.heap.size + 2) := AddC.own_off (by have := (o4.rel.lt g4 rfl).1; have := b13.size; omega)
      have hB : w.heap.size ≤ w3.heap.size := by have := b13.size; omega
      have G4 := got_of_own o4
      exact ⟨some ⟨g3, 0, none⟩, n1, d3, some ⟨g4, 0, none⟩, k4, d4, rfl, ⟨setCell_far (setCell_far (ownsRow_base G4.ctx hB) f3) f3, setCell_far (setCell_far (ownsRow_base G4.rel hB) f4) f4, G4.ne⟩, by omega, by omega, ((HBX.out.setCell (p := ⟨w.heap.size + 2, 0, none⟩) (by show _ ≤ w.heap.size + 2; omega) _).setCell (p := ⟨w.heap.size + 2, 1, none⟩) (by show _ ≤ w.heap.size + 2; omega) _)⟩
end Go.Proofs.Ytknlackphdcflaa.AddRS
