/- The model's l2Link: a record with a relation more, at its place, unless it is there. -/
import Derived.Test.YtknlackphdcflaaLink
namespace Go.Proofs.Ytknlackphdcflaa.Link2
open Go.RowKit Pairs Rec RecEq Find2 GoodM RelM Keep Row2 Copy AppH Two Gives PSrc
open OwnS (l2Own_any own_off)
open AddC (boxes222)
set_option maxRecDepth 100000 in
set_option maxHeartbeats 8000000 in
theorem link_old (zu zv : Int) (a1 a2 : Option Addr) (n1 c1 n2 c2 : Nat) (l m : List (Int × Int)) (h1 : n1 ≤ 1000000) (h2 : n2 ≤ 1000000) (w : World) (H1 : Holds w a1 n1 l) (H2 : Holds w a2 n2 m) (hat : m[plR m (zu, zv)]? = some (zu, zv)) :
    Calls Try.prog 53 #[.agg #[.slice a1 n1 c1, .slice a2 n2 c2], .agg #[.int .i64 zu, .int .i64 zv]] w fun e w' => ∃ g1 g2 d1 d2 : Nat, e = .returned (.agg #[.slice (some ⟨g1, 0, none⟩) n1 d1, .slice (some ⟨g2, 0, none⟩) n2 d2]) ∧ Own w' w.heap.size g1 n1 d1 g2 n2 d2 l m ∧ Below w.heap.size w w' := by
  obtain ⟨hs, x1, x2, x3, x4, y1, y2, fy1, fy2, hb0⟩ := boxes222 w (.slice a1 n1 c1) (.slice a2 n2 c2) (.int .i64 zu) (.int .i64 zv) (.slice none 0 0) (.slice none 0 0) 32 44 32
  have HS := Lib.hid hs
  have HH1 := Lib.hid (H1.below hb0)
  have HH2 := Lib.hid (H2.below hb0)
  obtain ⟨i, hi⟩ : ∃ i, plR m (zu, zv) = i := ⟨_, rfl⟩
  have hil : i ≤ n2 := by rw [← hi, ← H2.1]; exact plR_le m (zu, zv)
  have HIL := Lib.hid hil
  have HLO : Hid (∀ j y, j < i → m[j]? = some y → before y (zu, zv) = true) := fun j y hj hy => plR_lt (hi ▸ hj) hy
  have HHI : Hid (∀ y, m[i]? = some y → before y (zu, zv) = false) := fun y hy => plR_at (m := m) (x := (zu, zv)) (by rw [hi]; exact hy)
  have HAT : Hid (m[i]? = some (zu, zv)) := by unfold Hid; rw [← hi]; exact hat
  have HI := Lib.hid hi
  have HLEN := Lib.hid H2.1
  clear H1 H2 hs hi hat
  go_enter Try.func53, Try.ntmps53
  go_wp2_with fail
  generalize ((w.alloc (.cells #[.slice a1 n1 c1, .slice a2 n2 c2] 32)).alloc (.cells #[.int .i64 zu, .int .i64 zv] 44)).alloc (.cells #[.slice none 0 0, .slice none 0 0] 32) = W at *
  have lw : w.heap.size < W.heap.size := by rw [HS.out]; omega
  have lw1 : w.heap.size + 1 < W.heap.size := by rw [HS.out]; omega
  have lw2 : w.heap.size + 2 < W.heap.size := by rw [HS.out]; omega
  go_loopw [5] (fun s5 wr => ∃ k : Nat, k ≤ i ∧ s5 = .int .i64 k ∧ Below W.heap.size W wr) (fun s5 _ => i - (intOf s5).toNat)
  case atStart => exact ⟨0, Nat.zero_le _, rfl, Below.refl _ _⟩
  case round =>
    obtain ⟨k, hk, rfl, hbr⟩ := hrel
    have p1 := (hbr.cell (p := ⟨w.heap.size, 0, none⟩) lw).trans x1
    have p2 := (hbr.cell (p := ⟨w.heap.size, 1, none⟩) lw).trans x2
    have p3 := (hbr.cell (p := ⟨w.heap.size + 1, 0, none⟩) lw1).trans x3
    have p4 := (hbr.cell (p := ⟨w.heap.size + 1, 1, none⟩) lw1).trans x4
    by_cases hlt : k < i
    · obtain ⟨b, off, x, y, rfl, hx, e1, e2⟩ := (HH2.out.below hbr).at k (by omega)
      have hd := HLO.out k _ hlt hx
      have cB : ∀ d os, Calls Try.prog 79 #[.agg #[.int .i64 x, .int .i64 y], .agg #[.int .i64 zu, .int .i64 zv]] (Sort.grow (redrawn wr d) os) fun e w'' => e = .returned (.bool true) ∧ ∃ p : Regrown, w'' = Sort.grow (redrawn wr p.d) p.os := fun d os => Calls.regrown_of (by rw [← hd]; exact Good2.l2Before_any x y zu zv _)
      have hkn : (k : Int) < (n2 : Int) := by omega
      have hk0 : (0 : Int) ≤ (k : Int) := by omega
      have HBR := Lib.hid hbr
      clear hx hbr hd
      go_wp2_with fail
      have k2 := cell_regrown p2
      have k3 := cell_regrown p3
      have k4 := cell_regrown p4
      have j1 := cell_regrown e1
      have j2 := cell_regrown e2
      clear p1 p2 p3 p4 e1 e2
      refine wp_region_quiet_below (by kernel_rfl) (by kernel_rfl) ?_
      repeat (go_big_quiet_step (first | (go_at_call 79; exact cB _ _)))
      refine wpQuiet_nil ?_
      intro _ hw'
      obtain ⟨⟨dq, osq⟩, hw''⟩ := hw'
      subst hw''
      go_wp2_with fail
      exact ⟨⟨k + 1, by omega, by go_num, HBR.out.trans ((below_regrown wr dq osq).mono HBR.out.size)⟩, by simp [intOf]; omega⟩
    · obtain rfl : k = i := by omega
      have HBR := Lib.hid hbr
      clear hbr hlt hk
      have k1 := cell_regrown p1
      have k2 := cell_regrown p2
      have k3 := cell_regrown p3
      have k4 := cell_regrown p4
      have k2' := cell_regrown p2
      have K2' := Lib.hid k2'
      clear p1 p3 p4 k2'
      have hin : k < n2 := by rw [← HLEN.out]; exact (List.getElem?_eq_some_iff.1 HAT.out).1
      obtain ⟨b, off, x, y, ha, hx, e1, e2⟩ := (HH2.out.below HBR.out).at k hin
      rw [ha] at k2
      have hd := HHI.out _ hx
      have cB : ∀ d os, Calls Try.prog 79 #[.agg #[.int .i64 x, .int .i64 y], .agg #[.int .i64 zu, .int .i64 zv]] (Sort.grow (redrawn wr d) os) fun e w'' => e = .returned (.bool false) ∧ ∃ p : Regrown, w'' = Sort.grow (redrawn wr p.d) p.os := (fun d os => Calls.regrown_of (by rw [← hd]; exact Good2.l2Before_any x y zu zv _))
      have hkn : (k : Int) < (n2 : Int) := by omega
      have hk0 : (0 : Int) ≤ (k : Int) := by omega
      have j1 := cell_regrown e1
      have j2 := cell_regrown e2
      clear hx hd e1 e2 ha p2
      go_wp2_with fail
      refine wp_region_quiet_below (by kernel_rfl) (by kernel_rfl) ?_
      repeat (go_big_quiet_step (first | (go_at_call 79; exact cB _ _)))
      refine wpQuiet_nil ?_
      intro _ hw'
      obtain ⟨⟨dq, osq⟩, hw''⟩ := hw'
      subst hw''
      clear j1 j2 k1 k2 k3 k4 cB
      have bq := HBR.out.trans ((below_regrown wr dq osq).mono HBR.out.size)
      generalize Sort.grow (redrawn wr dq) osq = wq at *
      have p1 := (bq.cell (p := ⟨w.heap.size, 0, none⟩) lw).trans x1
      have p2 := (bq.cell (p := ⟨w.heap.size, 1, none⟩) lw).trans x2
      have HBQ := Lib.hid bq
      clear bq
      go_wp2_with fail
      refine (l2Own_any a1 a2 n1 c1 n2 c2 l m (by omega) (by omega) _ (HH1.out.below HBQ.out) (HH2.out.below HBQ.out)).mono ?_
      rintro e w2 ⟨g1, g2, d1, d2, rfl, o2, b2⟩
      have bW := HBQ.out.trans (b2.mono HBQ.out.size)
      have hctx := ownsRow_base o2.ctx HBQ.out.size
      have hrel := ownsRow_base o2.rel HBQ.out.size
      have hne := o2.ne
      clear o2 b2 p1 p2
      have hba := below_alloc w2 (.cells #[.slice (some ⟨g1, 0, none⟩) n1 d1, .slice (some ⟨g2, 0, none⟩) n2 d2] 32)
      have bZ := bW.trans (hba.mono bW.size)
      obtain ⟨b', off', x', y', ha', hx', j1, j2⟩ := (HH2.out.below bZ).at k hin
      obtain ⟨rfl, rfl⟩ : x' = zu ∧ y' = zv := by have h := hx'.symm.trans HAT.out; injection h with h; injection h with h1 h2; exact ⟨h1, h2⟩
      have p2 := (bZ.cell (p := ⟨w.heap.size, 1, none⟩) lw).trans x2
      rw [ha'] at p2
      have p3 := (bZ.cell (p := ⟨w.heap.size + 1, 0, none⟩) lw1).trans x3
      have p4 := (bZ.cell (p := ⟨w.heap.size + 1, 1, none⟩) lw1).trans x4
      have c1' := box_first w2 (.slice (some ⟨g1, 0, none⟩) n1 d1) (.slice (some ⟨g2, 0, none⟩) n2 d2) 32
      have c2' := box_second w2 (.slice (some ⟨g1, 0, none⟩) n1 d1) (.slice (some ⟨g2, 0, none⟩) n2 d2) 32
      have s1 := (bZ.cell (p := ⟨w.heap.size + 2, 0, none⟩) lw2).trans y1
      have s2 := (bZ.cell (p := ⟨w.heap.size + 2, 1, none⟩) lw2).trans y2
      have t1 := fz bZ ⟨w.heap.size + 2, 0, none⟩ lw2 fy1
      have t2 := fz bZ ⟨w.heap.size + 2, 1, none⟩ lw2 fy2
      have HREL := Lib.hid (ownsRow_below hrel hba)
      have HCTX := Lib.hid (ownsRow_below hctx hba)
      have HBZ := Lib.hid bZ
      have hl1 : W.heap.size ≤ g1 := (hctx.lt g1 rfl).1
      have hl2 : W.heap.size ≤ g2 := (hrel.lt g2 rfl).1
      have hbo : (x' == x' && y' == y') = true := by simp
      have hE := Eq2.equal2
      have hG := Eq2.guard2
      clear hx' ha' bW hba bZ hctx hrel x1 x2 x3 x4 y1 y2 fy1 fy2
      go_wp2_with fail
      go_quiet (fail)
      clear hbo hE hG j1 j2 p2 p3 p4
      go_wp2_with fail
      have bN := Joins.below_draws w.heap.size (w2.alloc (.cells #[.slice (some ⟨g1, 0, none⟩) n1 d1, .slice (some ⟨g2, 0, none⟩) n2 d2] 32)) nq
      obtain ⟨z1, z2⟩ := set2_cells (w := (w2.alloc (.cells #[.slice (some ⟨g1, 0, none⟩) n1 d1, .slice (some ⟨g2, 0, none⟩) n2 d2] 32)).drewN nq) (g := w.heap.size + 2) (u := .slice (some ⟨g1, 0, none⟩) n1 d1) (v := .slice (some ⟨g2, 0, none⟩) n2 d2) s1 s2
      refine bodyPost_ret (v := .agg #[.slice (some ⟨g1, 0, none⟩) n1 d1, .slice (some ⟨g2, 0, none⟩) n2 d2]) (by simp [results, Try.results53, go_sem, z1, z2]) rfl ⟨g1, g2, d1, d2, rfl, ?_, ?_⟩
      · have f1 : (Value.slice (some ⟨g1, 0, none⟩) n1 d1).ownBlock ≠ some (w.heap.size + 2) := own_off (by omega)
        have f2 : (Value.slice (some ⟨g2, 0, none⟩) n2 d2).ownBlock ≠ some (w.heap.size + 2) := own_off (by omega)
        have hW : w.heap.size ≤ W.heap.size := by omega
        have D1 : ((w2.alloc (.cells #[.slice (some ⟨g1, 0, none⟩) n1 d1, .slice (some ⟨g2, 0, none⟩) n2 d2] 32)).drewN nq).ownsRow W.heap.size 36 2 (.slice (some ⟨g1, 0, none⟩) n1 d1) n1 (flat l) := ownsRow_below HCTX.out (Joins.below_draws _ _ _)
        have D2 : ((w2.alloc (.cells #[.slice (some ⟨g1, 0, none⟩) n1 d1, .slice (some ⟨g2, 0, none⟩) n2 d2] 32)).drewN nq).ownsRow W.heap.size 44 2 (.slice (some ⟨g2, 0, none⟩) n2 d2) n2 (flat m) := ownsRow_below HREL.out (Joins.below_draws _ _ _)
        exact ⟨ownsRow_base (setCell_far (setCell_far D1 f1) f1) hW, ownsRow_base (setCell_far (setCell_far D2 f2) f2) hW, hne⟩
      · exact (((hb0.trans (HBZ.out.mono hb0.size)).trans bN).setCell (p := ⟨w.heap.size + 2, 0, none⟩) (by show _ ≤ w.heap.size + 2; omega) _).setCell (p := ⟨w.heap.size + 2, 1, none⟩) (by show _ ≤ w.heap.size + 2; omega) _
theorem l2Link_any (zu zv : Int) (a1 a2 : Option Addr) (n1 c1 n2 c2 : Nat) (l m : List (Int × Int)) (h1 : n1 ≤ 1000000) (h2 : n2 ≤ 1000000) (hcap : n2 ≤ c2) (w : World) (H1 : Holds w a1 n1 l) (H2 : Holds w a2 n2 m) :
    Calls Try.prog 53 #[.agg #[.slice a1 n1 c1, .slice a2 n2 c2], .agg #[.int .i64 zu, .int .i64 zv]] w fun e w' => ∃ k2 : Nat, k2 ≤ n2 + 1 ∧ ∃ g1 g2 d1 d2 : Nat, e = .returned (.agg #[.slice (some ⟨g1, 0, none⟩) n1 d1, .slice (some ⟨g2, 0, none⟩) k2 d2]) ∧ Own w' w.heap.size g1 n1 d1 g2 k2 d2 l (link m (zu, zv)) ∧ Below w.heap.size w w' := by
  by_cases h : m[plR m (zu, zv)]? = some (zu, zv)
  · have e : link m (zu, zv) = m := by unfold link; rw [if_pos h]
    rw [e]
    exact (link_old zu zv a1 a2 n1 c1 n2 c2 l m h1 h2 w H1 H2 h).mono fun _ _ hh => ⟨n2, by omega, hh⟩
  · have e : link m (zu, zv) = ins m (plR m (zu, zv)) (zu, zv) := by unfold link; rw [if_neg h]
    rw [e]
    exact (Link.link_new zu zv a1 a2 n1 c1 n2 c2 l m h1 h2 hcap w H1 H2 h).mono fun _ _ hh => ⟨n2 + 1, by omega, hh⟩
end Go.Proofs.Ytknlackphdcflaa.Link2
