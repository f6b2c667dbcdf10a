/- The model's EquateContexts: a record in which one context stands for two. -/
import Derived.Test.YtknlackphdcflaaSwapS
import Derived.Test.YtknlackphdcflaaEquM
import Derived.Test.YtknlackphdcflaaGivesN
import Derived.Deep.RegionHeld3
import Derived.BigQuiet
import Derived.Lib.QuietBelow
namespace Go.Proofs.Ytknlackphdcflaa.EquS
open Go.RowKit Pairs Rec RecEq Find2 GoodM RelM Keep Row2 Copy AppH Two Gives PSrc SwapM EquM LawKit
open OwnS (one_a one_b empty_at own_off)
theorem belA {W X : World} (h : Below W.heap.size W X) (o : Obj) : Below W.heap.size W (X.alloc o) := h.alloc h.size o
set_option maxRecDepth 100000 in
set_option maxHeartbeats 8000000 in
theorem spec_any (keep drop : Int) : GivesN2 20 (.int .i64 keep) (.int .i64 drop) (eqM keep drop) := by
  intro a1 a2 n1 n2 l m w hz1 hz2 h1 h2
  obtain ⟨i1, hi1, hy0, hy1, hy2⟩ := info_parts infoContext
  obtain ⟨fy1, fy2⟩ := fz_box2 w (.slice a1 n1 n1) (.slice a2 n2 n2) (.slice none 0 0) (.slice none 0 0) 32 32
  obtain ⟨hs, x1, x2, y1, y2, hb0⟩ := boxes2 w (.slice a1 n1 n1) (.slice a2 n2 n2) (.slice none 0 0) (.slice none 0 0) 32 32
  have HS := Lib.hid hs
  have H1 := Lib.hid (h1.below hb0)
  have H2 := Lib.hid (h2.below hb0)
  clear h1 h2 hs
  go_enter Try.func20, Try.ntmps20
  go_wp2_with fail
  generalize ((w.alloc (.cells #[.slice a1 n1 n1, .slice a2 n2 n2] 32)).alloc (.cells #[.slice none 0 0, .slice none 0 0] 32)) = W at *
  have lw : w.heap.size < W.heap.size := by rw [HS.out]; omega
  have lw1 : w.heap.size + 1 < W.heap.size := by rw [HS.out]; omega
  have cK : ∀ d os, Calls Try.prog 57 #[.agg #[.slice a1 n1 n1, .slice a2 n2 n2], .int .i64 keep] (Sort.grow (redrawn W d) os) fun e w'' => e = .returned (.int .i64 (find l keep)) ∧ ∃ p : Regrown, w'' = Sort.grow (redrawn W p.d) p.os := fun d os => Calls.regrown_of (l2Find_any a1 a2 n1 n1 n2 n2 l keep _ (by omega) (H1.out.below (below_regrown W d os)))
  have cD : ∀ d os, Calls Try.prog 57 #[.agg #[.slice a1 n1 n1, .slice a2 n2 n2], .int .i64 drop] (Sort.grow (redrawn W d) os) fun e w'' => e = .returned (.int .i64 (find l drop)) ∧ ∃ p : Regrown, w'' = Sort.grow (redrawn W p.d) p.os := fun d os => Calls.regrown_of (l2Find_any a1 a2 n1 n1 n2 n2 l drop _ (by omega) (H1.out.below (below_regrown W d os)))
  have k1 := cell_regrown x1
  have k2 := cell_regrown x2
  refine wp_region_quiet_below (by kernel_rfl) (by kernel_rfl) ?_
  repeat (go_big_quiet_step (first | (go_at_call 57; first | with_reducible exact cK _ _ | with_reducible exact cD _ _)))
  refine wpQuiet_nil ?_
  intro _ hw'
  obtain ⟨⟨dq, osq⟩, hw''⟩ := hw'
  subst hw''
  clear cK cD k1 k2
  have bq := below_regrown W dq osq
  generalize Sort.grow (redrawn W dq) osq = wq at *
  have r1 := (bq.cell (p := ⟨w.heap.size, 0, none⟩) lw).trans x1
  have r2 := (bq.cell (p := ⟨w.heap.size, 1, none⟩) lw).trans x2
  have cG : ∀ d os, Calls Try.prog 39 #[.agg #[.slice a1 n1 n1, .slice a2 n2 n2]] (Sort.grow (redrawn wq d) os) fun e w'' => e = .returned (.bool (good l m)) ∧ ∃ p : Regrown, w'' = Sort.grow (redrawn wq p.d) p.os := fun d os => Calls.regrown_of (Good2.l2Good_any a1 a2 n1 n1 n2 n2 l m _ ((H1.out.below bq).below (below_regrown wq d os)) ((H2.out.below bq).below (below_regrown wq d os)))
  have HBQ := Lib.hid bq
  have k1 := cell_regrown r1
  have k2 := cell_regrown r2
  clear bq r1 r2
  cases hg : good l m with
  | false =>
    have HE := Lib.hid (eqM_bad (keep := keep) (drop := drop) hg)
    rw [hg] at cG
    clear hg
    generalize find l keep = fk
    generalize find l drop = fd
    go_wp2_with fail
    refine wp_region_quiet_below (by kernel_rfl) (by kernel_rfl) ?_
    repeat (go_big_quiet_step (first | (go_at_call 39; with_reducible exact cG _ _)))
    refine wpQuiet_nil ?_
    intro _ hw'
    obtain ⟨⟨dq, osq⟩, hw''⟩ := hw'
    subst hw''
    have b2 := HBQ.out.trans ((below_regrown wq dq osq).mono HBQ.out.size)
    clear cG k1 k2
    generalize Sort.grow (redrawn wq dq) osq = w2 at *
    have s1 := (b2.cell (p := ⟨w.heap.size + 1, 0, none⟩) lw1).trans y1
    have s2 := (b2.cell (p := ⟨w.heap.size + 1, 1, none⟩) lw1).trans y2
    have t1 := fz b2 ⟨w.heap.size + 1, 0, none⟩ lw1 fy1
    have t2 := fz b2 ⟨w.heap.size + 1, 1, none⟩ lw1 fy2
    have HB2 := Lib.hid (hb0.trans (b2.mono hb0.size))
    go_wp2_with fail
    obtain ⟨q1, q2⟩ := set2_cells (u := .slice none 0 0) (v := .slice none 0 0) s1 s2
    refine bodyPost_ret (v := .tuple #[.agg #[.slice none 0 0, .slice none 0 0], .bool false]) (by simp [results, Try.results20, go_sem, q1, q2]) rfl ?_
    rw [HE.out]
    exact ⟨none, 0, 0, none, 0, 0, rfl, Got.nil _ _, by omega, by omega, ((HB2.out.setCell (p := ⟨w.heap.size + 1, 0, none⟩) (Nat.le_succ _) _).setCell (p := ⟨w.heap.size + 1, 1, none⟩) (Nat.le_succ _) _)⟩
  | true =>
    have HG := Lib.hid hg
    rw [hg] at cG
    clear hg
    cases hi : isAt l keep with
    | none =>
      have HE := Lib.hid (eqM_noK (drop := drop) (m := m) hi)
      rw [find_none hi]
      clear hi
      generalize find l drop = fd
      go_wp2_with fail
      refine wp_region_quiet_below (by kernel_rfl) (by kernel_rfl) ?_
      repeat (go_big_quiet_step (first | (go_at_call 39; with_reducible exact cG _ _)))
      refine wpQuiet_nil ?_
      intro _ hw'
      obtain ⟨⟨dq, osq⟩, hw''⟩ := hw'
      subst hw''
      have b2 := HBQ.out.trans ((below_regrown wq dq osq).mono HBQ.out.size)
      clear cG k1 k2
      generalize Sort.grow (redrawn wq dq) osq = w2 at *
      have s1 := (b2.cell (p := ⟨w.heap.size + 1, 0, none⟩) lw1).trans y1
      have s2 := (b2.cell (p := ⟨w.heap.size + 1, 1, none⟩) lw1).trans y2
      have t1 := fz b2 ⟨w.heap.size + 1, 0, none⟩ lw1 fy1
      have t2 := fz b2 ⟨w.heap.size + 1, 1, none⟩ lw1 fy2
      have HB2 := Lib.hid (hb0.trans (b2.mono hb0.size))
      go_wp2_with fail
      obtain ⟨q1, q2⟩ := set2_cells (u := .slice none 0 0) (v := .slice none 0 0) s1 s2
      refine bodyPost_ret (v := .tuple #[.agg #[.slice none 0 0, .slice none 0 0], .bool false]) (by simp [results, Try.results20, go_sem, q1, q2]) rfl ?_
      rw [HE.out]
      exact ⟨none, 0, 0, none, 0, 0, rfl, Got.nil _ _, by omega, by omega, ((HB2.out.setCell (p := ⟨w.heap.size + 1, 0, none⟩) (Nat.le_succ _) _).setCell (p := ⟨w.heap.size + 1, 1, none⟩) (Nat.le_succ _) _)⟩
    | some i =>
      rw [find_some hi]
      have hi0 : decide ((i : Int) < 0) = false := decide_eq_false (by omega)
      have hi9 : (0 : Int) ≤ (i : Int) := by omega
      cases hj : isAt l drop with
      | none =>
        have HE := Lib.hid (eqM_noD (keep := keep) (m := m) hj)
        rw [find_none hj]
        clear hi hj
        go_wp2_with fail
        refine wp_region_quiet_below (by kernel_rfl) (by kernel_rfl) ?_
        repeat (go_big_quiet_step (first | (go_at_call 39; with_reducible exact cG _ _)))
        refine wpQuiet_nil ?_
        intro _ hw'
        obtain ⟨⟨dq, osq⟩, hw''⟩ := hw'
        subst hw''
        have b2 := HBQ.out.trans ((below_regrown wq dq osq).mono HBQ.out.size)
        clear cG k1 k2 hi0 hi9
        generalize Sort.grow (redrawn wq dq) osq = w2 at *
        have s1 := (b2.cell (p := ⟨w.heap.size + 1, 0, none⟩) lw1).trans y1
        have s2 := (b2.cell (p := ⟨w.heap.size + 1, 1, none⟩) lw1).trans y2
        have t1 := fz b2 ⟨w.heap.size + 1, 0, none⟩ lw1 fy1
        have t2 := fz b2 ⟨w.heap.size + 1, 1, none⟩ lw1 fy2
        have HB2 := Lib.hid (hb0.trans (b2.mono hb0.size))
        go_wp2_with fail
        obtain ⟨q1, q2⟩ := set2_cells (u := .slice none 0 0) (v := .slice none 0 0) s1 s2
        refine bodyPost_ret (v := .tuple #[.agg #[.slice none 0 0, .slice none 0 0], .bool false]) (by simp [results, Try.results20, go_sem, q1, q2]) rfl ?_
        rw [HE.out]
        exact ⟨none, 0, 0, none, 0, 0, rfl, Got.nil _ _, by omega, by omega, ((HB2.out.setCell (p := ⟨w.heap.size + 1, 0, none⟩) (Nat.le_succ _) _).setCell (p := ⟨w.heap.size + 1, 1, none⟩) (Nat.le_succ _) _)⟩
      | some j =>
        rw [find_some hj]
        have hj0 : decide ((j : Int) < 0) = false := decide_eq_false (by omega)
        have hj9 : (0 : Int) ≤ (j : Int) := by omega
        have HI := Lib.hid hi
        have HJ := Lib.hid hj
        have hil : i < n1 := by rw [← H1.out.1]; exact isAt_lt hi
        have hjl : j < n1 := by rw [← H1.out.1]; exact isAt_lt hj
        have hn1 : n1 ≤ 10 := by rw [← H1.out.1]; exact (RemCS.good_few HG.out).1
        have hn2 : n2 ≤ 24 := by rw [← H2.out.1]; exact (RemCS.good_few HG.out).2
        clear hi hj
        by_cases hij : i = j
        · subst hij
          have HE := Lib.hid (eqM_no (keep := keep) (drop := drop) (m := m) HI.out HJ.out (fun h => h.1 rfl))
          have hee : ((i : Int) == (i : Int)) = true := by simp
          go_wp2_with fail
          refine wp_region_quiet_below (by kernel_rfl) (by kernel_rfl) ?_
          repeat (go_big_quiet_step (first | (go_at_call 39; with_reducible exact cG _ _)))
          refine wpQuiet_nil ?_
          intro _ hw'
          obtain ⟨⟨dq, osq⟩, hw''⟩ := hw'
          subst hw''
          have b2 := HBQ.out.trans ((below_regrown wq dq osq).mono HBQ.out.size)
          clear cG k1 k2 hi0 hi9 hj0 hj9 hee
          generalize Sort.grow (redrawn wq dq) osq = w2 at *
          have s1 := (b2.cell (p := ⟨w.heap.size + 1, 0, none⟩) lw1).trans y1
          have s2 := (b2.cell (p := ⟨w.heap.size + 1, 1, none⟩) lw1).trans y2
          have t1 := fz b2 ⟨w.heap.size + 1, 0, none⟩ lw1 fy1
          have t2 := fz b2 ⟨w.heap.size + 1, 1, none⟩ lw1 fy2
          have HB2 := Lib.hid (hb0.trans (b2.mono hb0.size))
          go_wp2_with fail
          obtain ⟨q1, q2⟩ := set2_cells (u := .slice none 0 0) (v := .slice none 0 0) s1 s2
          refine bodyPost_ret (v := .tuple #[.agg #[.slice none 0 0, .slice none 0 0], .bool false]) (by simp [results, Try.results20, go_sem, q1, q2]) rfl ?_
          rw [HE.out]
          exact ⟨none, 0, 0, none, 0, 0, rfl, Got.nil _ _, by omega, by omega, ((HB2.out.setCell (p := ⟨w.heap.size + 1, 0, none⟩) (Nat.le_succ _) _).setCell (p := ⟨w.heap.size + 1, 1, none⟩) (Nat.le_succ _) _)⟩
        · obtain ⟨b, off, x, u, ha, hx, e1, e2⟩ := (H1.out.below HBQ.out).at i hil
          obtain ⟨b', off', y, v, ha', hy, d1, d2⟩ := (H1.out.below HBQ.out).at j hjl
          obtain ⟨rfl, rfl⟩ : b' = b ∧ off' = off := by
            rw [ha] at ha'
            injection ha' with ha'
            injection ha' with h1 h2 h3
            exact ⟨h1.symm, h2.symm⟩
          have HKI := Lib.hid (kindAt_is hx)
          have HKJ := Lib.hid (kindAt_is hy)
          clear hx hy ha'
          subst ha
          have hijz : ((i : Int) == (j : Int)) = false := beq_false_of_ne (by omega)
          have hijz2 : ¬ (i : Int) = (j : Int) := by omega
          have hii : (i : Int) < (n1 : Int) := by omega
          have hjj : (j : Int) < (n1 : Int) := by omega
          have ke1 := cell_regrown e1
          have ke2 := cell_regrown e2
          have kd1 := cell_regrown d1
          have kd2 := cell_regrown d2
          clear e1 e2 d1 d2
          by_cases huv : u = v
          · subst huv
            have HE := Lib.hid (eqM_some HG.out HI.out HJ.out hij (HKI.out.trans HKJ.out.symm))
            have huu : (u == u) = true := by simp
            have huu2 : (u != u) = false := by simp
            go_wp2_with fail
            refine wp_region_quiet_below (by kernel_rfl) (by kernel_rfl) ?_
            repeat (go_big_quiet_step (first | (go_at_call 39; with_reducible exact cG _ _)))
            refine wpQuiet_nil ?_
            intro _ hw'
            obtain ⟨⟨dq, osq⟩, hw''⟩ := hw'
            subst hw''
            have b2 := HBQ.out.trans ((below_regrown wq dq osq).mono HBQ.out.size)
            clear cG k1 k2 hi0 hi9 hj0 hj9 hijz hijz2 hii hjj ke1 ke2 kd1 kd2 huu huu2
            generalize Sort.grow (redrawn wq dq) osq = w2 at *
            have s1 := (b2.cell (p := ⟨w.heap.size + 1, 0, none⟩) lw1).trans y1
            have s2 := (b2.cell (p := ⟨w.heap.size + 1, 1, none⟩) lw1).trans y2
            have t1 := fz b2 ⟨w.heap.size + 1, 0, none⟩ lw1 fy1
            have t2 := fz b2 ⟨w.heap.size + 1, 1, none⟩ lw1 fy2
            have r1 := (b2.cell (p := ⟨w.heap.size, 0, none⟩) lw).trans x1
            have r2 := (b2.cell (p := ⟨w.heap.size, 1, none⟩) lw).trans x2
            have HB2 := Lib.hid b2
            clear b2 s1 s2 t1 t2
            go_wp2_with fail
            refine (SwapS.l2Swap_any drop keep (some ⟨b', off', none⟩) a2 n1 n1 n2 n2 l m (by omega) (by omega) w2 (H1.out.below HB2.out) (H2.out.below HB2.out)).mono ?_
            rintro e w4 ⟨g1, d1, p2, k2, d2, hk2, rfl, o4, b4⟩
            have bW := HB2.out.trans (b4.mono HB2.out.size)
            have hba := below_alloc w4 (.cells #[.slice (some ⟨g1, 0, none⟩) n1 d1, .slice p2 k2 d2] 32)
            have bZ := bW.trans (hba.mono bW.size)
            clear r1 r2
            have p1 := (bZ.cell (p := ⟨w.heap.size, 0, none⟩) lw).trans x1
            have c1' := box_first w4 (.slice (some ⟨g1, 0, none⟩) n1 d1) (.slice p2 k2 d2) 32
            have c2' := box_second w4 (.slice (some ⟨g1, 0, none⟩) n1 d1) (.slice p2 k2 d2) 32
            have hnew := heap_alloc_new w4 (.cells #[.slice (some ⟨g1, 0, none⟩) n1 d1, .slice p2 k2 d2] 32)
            have e1' : (w4.alloc (.cells #[.slice (some ⟨g1, 0, none⟩) n1 d1, .slice p2 k2 d2] 32)).frozen? ⟨w4.heap.size, 0, none⟩ = false := (by simp only [World.frozen?, hnew]; rfl)
            have e2' : (w4.alloc (.cells #[.slice (some ⟨g1, 0, none⟩) n1 d1, .slice p2 k2 d2] 32)).frozen? ⟨w4.heap.size, 1, none⟩ = false := (by simp only [World.frozen?, hnew]; rfl)
            have hgz : w4.heap.size < (w4.alloc (.cells #[.slice (some ⟨g1, 0, none⟩) n1 d1, .slice p2 k2 d2] 32)).heap.size := by simp
            have HGOT := Lib.hid ((o4.base HB2.out.size).below hba)
            have HSRC := Lib.hid (Src.of (H1.out.below bZ))
            have HBZ := Lib.hid bZ
            have hW4 : W.heap.size ≤ w4.heap.size := bW.size
            have hg2 : ∀ q, (Value.slice p2 k2 d2).ownBlock = some q → W.heap.size ≤ q ∧ q < w4.heap.size := fun q e => ⟨Nat.le_trans HB2.out.size (o4.rel.lt q e).1, (o4.rel.lt q e).2⟩
            have HG2 := Lib.hid hg2
            have HIL : Hid (j ≤ n1) := by unfold Hid; omega
            have HIL1 : Hid (j + 1 ≤ n1) := by unfold Hid; omega
            clear hnew hba bW bZ o4 b4 hg2
            go_wp2_with fail
            generalize w4.alloc (.cells #[.slice (some ⟨g1, 0, none⟩) n1 d1, .slice p2 k2 d2] 32) = Z at *
            generalize w4.heap.size = gb at *
            have HK : Hid (∀ X, Below Z.heap.size Z X → X.cell? ⟨w.heap.size, 0, none⟩ = some (.slice (some ⟨b', off', none⟩) n1 n1)) := fun X hX => (hX.cell (p := ⟨w.heap.size, 0, none⟩) (by show w.heap.size < _; omega)).trans p1
            have HK2 : Hid (∀ X u, Below Z.heap.size Z X → (X.setCell ⟨gb, 0, none⟩ u).cell? ⟨w.heap.size, 0, none⟩ = some (.slice (some ⟨b', off', none⟩) n1 n1)) := fun X u hX => (World.cell?_setCell_other _ _ _ _ (by intro e; injection e with e; omega)).trans (HK.out X hX)
            have hk0 : (0 : Int) ≤ (j : Int) := by omega
            have hk1 : (j : Int) ≤ (n1 : Int) := by omega
            have hk2' : (j : Int) + 1 ≤ (n1 : Int) := by omega
            have hk3 : (0 : Int) ≤ (j : Int) + 1 := by omega
            have hk4 : IntKind.i64.wrap ((j : Int) + 1) = (j : Int) + 1 := by rw [IntKind.wrap_i64]; omega
            go_region_held3 (fun (X : World) => X.cell? ⟨w.heap.size, 0, none⟩ = some (.slice (some ⟨b', off', none⟩) n1 n1)) (first | (refine HK.out _ ?_; (repeat (first | exact B10.out | exact B8.out | with_reducible exact Below.refl _ _ | with_reducible refine belA ?_ _ | with_reducible refine Below.drew ?_ | fail)); done) | (refine HK2.out _ _ ?_; (repeat (first | exact B10.out | exact B8.out | with_reducible exact Below.refl _ _ | with_reducible refine belA ?_ _ | with_reducible refine Below.drew ?_ | fail)); done) | fail) ((first | (refine step_append_src (by rfl) (.tmp 53) (.tmp 57) 29 (by rfl) Z.heap.size 36 i1 _ Try.underlying29 hi1 hy0 hy1 hy2 rfl _ 0 0 [] (by rfl) (empty_at (by first | exact one_a _ _ | exact one_b _ _) (by first | omega | (simp; done) | (simp; omega))) _ j _ (l.take j) (by rfl) ((HSRC.out.take HIL.out).below (by (repeat (first | exact B10.out | exact B8.out | with_reducible exact Below.refl _ _ | with_reducible refine belA ?_ _ | with_reducible refine Below.drew ?_ | fail)); done)) (by omega) (Below.size (B := Z.heap.size) (by (repeat (first | exact B10.out | exact B8.out | with_reducible exact Below.refl _ _ | with_reducible refine belA ?_ _ | with_reducible refine Below.drew ?_ | fail)); done)) _ rfl ?_; intro g8 d8 w8 hown8 hgrow8 hat8 hlt8; have B8 : Hid (Below Z.heap.size Z w8) := Below.grown (by (repeat (first | exact B10.out | exact B8.out | with_reducible exact Below.refl _ _ | with_reducible refine belA ?_ _ | with_reducible refine Below.drew ?_ | fail)); done) hgrow8 (Below.size (B := Z.heap.size) (by (repeat (first | exact B10.out | exact B8.out | with_reducible exact Below.refl _ _ | with_reducible refine belA ?_ _ | with_reducible refine Below.drew ?_ | fail)); done)) (fun q e => by injection e with e; first | omega | (simp at e; omega)); rw [Nat.zero_add]; rw [Nat.zero_add, List.nil_append] at hown8; have HO8 := Lib.hid hown8; clear hown8 hgrow8 hat8 hlt8; have l8 : Z.heap.size ≤ w8.heap.size := B8.out.size) | (refine step_append_src (by rfl) (.tmp 58) (.tmp 63) 29 (by rfl) Z.heap.size 36 i1 _ Try.underlying29 hi1 hy0 hy1 hy2 rfl g8 j d8 (flat (l.take j)) (by rfl) (by first | exact HO8.out | exact HO8.out.alloc _) _ (n1 - (j + 1)) _ (l.drop (j + 1)) (by rfl) ((HSRC.out.cut HIL1.out (Nat.le_refl _)).below (by (repeat (first | exact B10.out | exact B8.out | with_reducible exact Below.refl _ _ | with_reducible refine belA ?_ _ | with_reducible refine Below.drew ?_ | fail)); done)) (by omega) (Below.size (B := Z.heap.size) (by (repeat (first | exact B10.out | exact B8.out | with_reducible exact Below.refl _ _ | with_reducible refine belA ?_ _ | with_reducible refine Below.drew ?_ | fail)); done)) _ rfl ?_; intro g10 d10 w10 hown10 hgrow10 hat10 hlt10; have B10 : Hid (Below Z.heap.size Z w10) := Below.grown (by (repeat (first | exact B10.out | exact B8.out | with_reducible exact Below.refl _ _ | with_reducible refine belA ?_ _ | with_reducible refine Below.drew ?_ | fail)); done) hgrow10 (Below.size (B := Z.heap.size) (by (repeat (first | exact B10.out | exact B8.out | with_reducible exact Below.refl _ _ | with_reducible refine belA ?_ _ | with_reducible refine Below.drew ?_ | fail)); done)) (fun q e => by injection e with e; have hq := (HO8.out.lt g8 rfl).1; omega); have HO10 := Lib.hid hown10; clear hown10 hgrow10 hat10 hlt10; have l10 : Z.heap.size ≤ w10.heap.size := B10.out.size; have r1 := (B10.out.cell (p := ⟨gb, 0, none⟩) hgz).trans c1'; have r2 := (B10.out.cell (p := ⟨gb, 1, none⟩) hgz).trans c2'; have t1 := fz B10.out ⟨gb, 0, none⟩ hgz e1'; have t2 := fz B10.out ⟨gb, 1, none⟩ hgz e2') | fail))
            all_goals (obtain ⟨nr, hnn⟩ : ∃ nr, nr = j + (n1 - (j + 1)) := ⟨_, rfl⟩)
            all_goals (have hnb : nr ≤ 1048576 := by omega)
            all_goals (have hO := HO10.out)
            all_goals rw [← hnn] at hO ⊢
            all_goals rw [show flat (l.take j) ++ flat (l.drop (j + 1)) = flat (l.take j ++ l.drop (j + 1)) from (flat_app _ _).symm] at hO
            all_goals (have HO := Lib.hid hO; clear hO hnn)
            all_goals (have hg10 : Z.heap.size ≤ g10 := (HO.out.lt g10 rfl).1)
            all_goals (have hG10 := Lib.hid (HGOT.out.below B10.out))
            all_goals (have hBX : Hid (Below w.heap.size w w10) := (hb0.trans (HBZ.out.mono hb0.size)).trans (B10.out.mono (hb0.trans (HBZ.out.mono hb0.size)).size))
            all_goals (have s1 := (World.cell?_setCell_other w10 ⟨gb, 0, none⟩ ⟨w.heap.size + 1, 0, none⟩ (.slice (some ⟨g10, 0, none⟩) (nr) d10) (by intro e; injection e with e; omega)).trans ((B10.out.cell (p := ⟨w.heap.size + 1, 0, none⟩) (by show w.heap.size + 1 < _; omega)).trans ((HBZ.out.cell (p := ⟨w.heap.size + 1, 0, none⟩) lw1).trans y1)))
            all_goals (have s2 := (World.cell?_setCell_other w10 ⟨gb, 0, none⟩ ⟨w.heap.size + 1, 1, none⟩ (.slice (some ⟨g10, 0, none⟩) (nr) d10) (by intro e; injection e with e; omega)).trans ((B10.out.cell (p := ⟨w.heap.size + 1, 1, none⟩) (by show w.heap.size + 1 < _; omega)).trans ((HBZ.out.cell (p := ⟨w.heap.size + 1, 1, none⟩) lw1).trans y2)))
            all_goals (have v1 := fz B10.out ⟨w.heap.size + 1, 0, none⟩ (by show w.heap.size + 1 < _; omega) (fz HBZ.out ⟨w.heap.size + 1, 0, none⟩ lw1 fy1))
            all_goals (have v2 := fz B10.out ⟨w.heap.size + 1, 1, none⟩ (by show w.heap.size + 1 < _; omega) (fz HBZ.out ⟨w.heap.size + 1, 1, none⟩ lw1 fy2))
            all_goals clear p1 x1 x2 y1 y2 fy1 fy2 c1' c2' e1' e2' hk0 hk1 hk2' hk3 hk4
            all_goals go_wp2_with fail
            all_goals (obtain ⟨z1, z2⟩ := set2_cells (u := .slice (some ⟨g10, 0, none⟩) (nr) d10) (v := .slice p2 k2 d2) s1 s2)
            all_goals refine bodyPost_ret (v := .tuple #[.agg #[.slice (some ⟨g10, 0, none⟩) (nr) d10, .slice p2 k2 d2], .bool true]) (by simp [results, Try.results20, go_sem, z1, z2]) rfl ?_
            all_goals rw [HE.out]
            all_goals refine ⟨some ⟨g10, 0, none⟩, nr, d10, p2, k2, d2, rfl, ?_, by omega, by omega, (((hBX.out.setCell (p := ⟨gb, 0, none⟩) (by show _ ≤ gb; omega) _).setCell (p := ⟨w.heap.size + 1, 0, none⟩) (Nat.le_succ _) _).setCell (p := ⟨w.heap.size + 1, 1, none⟩) (Nat.le_succ _) _)⟩
            all_goals (have f1 : (Value.slice (some ⟨g10, 0, none⟩) (nr) d10).ownBlock ≠ some gb := own_off (by omega))
            all_goals (have f2 : (Value.slice (some ⟨g10, 0, none⟩) (nr) d10).ownBlock ≠ some (w.heap.size + 1) := own_off (by omega))
            all_goals (have f3 : (Value.slice p2 k2 d2).ownBlock ≠ some gb := fun e => by have := HG2.out _ e; omega)
            all_goals (have f4 : (Value.slice p2 k2 d2).ownBlock ≠ some (w.heap.size + 1) := fun e => by have := HG2.out _ e; omega)
            all_goals refine ⟨ownsRow_base (setCell_far (setCell_far (setCell_far HO.out f1) f2) f2) (by omega), ownsRow_base (setCell_far (setCell_far (setCell_far hG10.out.rel f3) f4) f4) (by omega), fun q e1 e2 => ?_⟩
            all_goals (have e3 : g10 = q := by simpa [Value.ownBlock] using e1)
            all_goals (have e4 := HG2.out q e2; omega)
          · have HE := Lib.hid (eqM_no (keep := keep) (drop := drop) (m := m) HI.out HJ.out (fun h => huv (by have := h.2; rw [HKI.out, HKJ.out] at this; injection this)))
            have huz : (u == v) = false := beq_false_of_ne huv
            have huz2 : (u != v) = true := by rw [bne, huz]; rfl
            go_wp2_with fail
            refine wp_region_quiet_below (by kernel_rfl) (by kernel_rfl) ?_
            repeat (go_big_quiet_step (first | (go_at_call 39; with_reducible exact cG _ _)))
            refine wpQuiet_nil ?_
            intro _ hw'
            obtain ⟨⟨dq, osq⟩, hw''⟩ := hw'
            subst hw''
            have b2 := HBQ.out.trans ((below_regrown wq dq osq).mono HBQ.out.size)
            clear cG k1 k2 hi0 hi9 hj0 hj9 hijz hijz2 hii hjj ke1 ke2 kd1 kd2 huz huz2
            generalize Sort.grow (redrawn wq dq) osq = w2 at *
            have s1 := (b2.cell (p := ⟨w.heap.size + 1, 0, none⟩) lw1).trans y1
            have s2 := (b2.cell (p := ⟨w.heap.size + 1, 1, none⟩) lw1).trans y2
            have t1 := fz b2 ⟨w.heap.size + 1, 0, none⟩ lw1 fy1
            have t2 := fz b2 ⟨w.heap.size + 1, 1, none⟩ lw1 fy2
            have HB2 := Lib.hid (hb0.trans (b2.mono hb0.size))
            go_wp2_with fail
            obtain ⟨q1, q2⟩ := set2_cells (u := .slice none 0 0) (v := .slice none 0 0) s1 s2
            refine bodyPost_ret (v := .tuple #[.agg #[.slice none 0 0, .slice none 0 0], .bool false]) (by simp [results, Try.results20, go_sem, q1, q2]) rfl ?_
            rw [HE.out]
            exact ⟨none, 0, 0, none, 0, 0, rfl, Got.nil _ _, by omega, by omega, ((HB2.out.setCell (p := ⟨w.heap.size + 1, 0, none⟩) (Nat.le_succ _) _).setCell (p := ⟨w.heap.size + 1, 1, none⟩) (Nat.le_succ _) _)⟩
end Go.Proofs.Ytknlackphdcflaa.EquS
