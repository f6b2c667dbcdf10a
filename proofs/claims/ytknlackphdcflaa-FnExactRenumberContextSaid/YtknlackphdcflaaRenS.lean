/- The model's RenumberContext: a record in which a context has another number. -/
import Derived.Test.YtknlackphdcflaaSwapS
import Derived.Test.YtknlackphdcflaaRenM
import Derived.Test.YtknlackphdcflaaPut
import Derived.Test.YtknlackphdcflaaGivesN
import Derived.Deep.RegionHeld3
import Derived.BigQuiet
import Derived.Lib.QuietBelow
namespace Go.Proofs.Ytknlackphdcflaa.RenS
open Go.RowKit Pairs Rec RecEq Find2 GoodM RelM Keep Row2 Copy AppH Two Gives PSrc SwapM EquM RenM SortC LawKit
open OwnS (one_a one_b empty_at own_off)
theorem belA {W X : World} (h : Below W.heap.size W X) (o : Obj) : Below W.heap.size W (X.alloc o) := h.alloc h.size o
theorem far2 {X : World} {g : Nat} {u v x : Value} {p : Addr} (h : X.cell? p = some x) (hp : g ≠ p.block) : ((X.setCell ⟨g, 0, none⟩ u).setCell ⟨g, 1, none⟩ v).cell? p = some x := by
  rw [World.cell?_setCell_far _ ⟨g, 1, none⟩ _ _ hp, World.cell?_setCell_far _ ⟨g, 0, none⟩ _ _ hp]
  exact h
theorem two_cells {w : World} {g : Nat} {v a b : Value} (h0 : w.cell? ⟨g, 0, none⟩ = some a) (h1 : w.cell? ⟨g, 1, none⟩ = some b) : (w.setCell ⟨g, 0, none⟩ v).cell? ⟨g, 0, none⟩ = some v ∧ (w.setCell ⟨g, 0, none⟩ v).cell? ⟨g, 1, none⟩ = some b :=
  ⟨World.cell?_setCell_same _ _ _ h0, by rw [World.cell?_setCell_other _ _ _ _ (by simp)]; exact h1⟩
theorem isAt_val {l : List (Int × Int)} {z : Int} {k : Nat} (h : isAt l z = some k) : ∃ y, l[k]? = some (z, y) := by
  unfold isAt at h
  rw [List.findIdx?_eq_some_iff_getElem] at h
  obtain ⟨hl, h1, _⟩ := h
  have e : l[k].1 = z := by simpa using h1
  exact ⟨l[k].2, by rw [List.getElem?_eq_getElem hl, ← e]⟩
set_option maxRecDepth 100000 in
set_option maxHeartbeats 8000000 in
theorem spec_any (old num : Int) : GivesN2 22 (.int .i64 old) (.int .i64 num) (renM old num) := by
  intro a1 a2 n1 n2 l m w hz1 hz2 h1 h2
  obtain ⟨i1, hi1, hy0, hy1, hy2⟩ := info_parts infoContext
  obtain ⟨fy1, fy2⟩ := fz_box2 w (.slice a1 n1 n1) (.slice a2 n2 n2) (.slice none 0 0) (.slice none 0 0) 32 32
  obtain ⟨hs, x1, x2, y1, y2, hb0⟩ := boxes2 w (.slice a1 n1 n1) (.slice a2 n2 n2) (.slice none 0 0) (.slice none 0 0) 32 32
  have HS := Lib.hid hs
  have HO1 := Lib.hid h1
  have H1 := Lib.hid (h1.below hb0)
  have H2 := Lib.hid (h2.below hb0)
  clear h1 h2 hs
  go_enter Try.func22, Try.ntmps22
  go_wp2_with fail
  generalize ((w.alloc (.cells #[.slice a1 n1 n1, .slice a2 n2 n2] 32)).alloc (.cells #[.slice none 0 0, .slice none 0 0] 32)) = W at *
  have lw : w.heap.size < W.heap.size := by rw [HS.out]; omega
  have lw1 : w.heap.size + 1 < W.heap.size := by rw [HS.out]; omega
  have cK : ∀ d os, Calls Try.prog 57 #[.agg #[.slice a1 n1 n1, .slice a2 n2 n2], .int .i64 old] (Sort.grow (redrawn W d) os) fun e w'' => e = .returned (.int .i64 (find l old)) ∧ ∃ p : Regrown, w'' = Sort.grow (redrawn W p.d) p.os := fun d os => Calls.regrown_of (l2Find_any a1 a2 n1 n1 n2 n2 l old _ (by omega) (H1.out.below (below_regrown W d os)))
  have cD : ∀ d os, Calls Try.prog 57 #[.agg #[.slice a1 n1 n1, .slice a2 n2 n2], .int .i64 num] (Sort.grow (redrawn W d) os) fun e w'' => e = .returned (.int .i64 (find l num)) ∧ ∃ p : Regrown, w'' = Sort.grow (redrawn W p.d) p.os := fun d os => Calls.regrown_of (l2Find_any a1 a2 n1 n1 n2 n2 l num _ (by omega) (H1.out.below (below_regrown W d os)))
  have k1 := cell_regrown x1
  have k2 := cell_regrown x2
  refine wp_region_quiet_below (by kernel_rfl) (by kernel_rfl) ?_
  repeat (go_big_quiet_step (first | (go_at_call 57; first | with_reducible exact cK _ _ | with_reducible exact cD _ _)))
  refine wpQuiet_nil ?_
  intro _ hw'
  obtain ⟨⟨dq, osq⟩, hw''⟩ := hw'
  subst hw''
  clear cK cD k1 k2
  have bq := below_regrown W dq osq
  generalize Sort.grow (redrawn W dq) osq = wq at *
  have r1 := (bq.cell (p := ⟨w.heap.size, 0, none⟩) lw).trans x1
  have r2 := (bq.cell (p := ⟨w.heap.size, 1, none⟩) lw).trans x2
  have HBQ := Lib.hid bq
  clear bq
  cases hg : good l m with
  | false =>
    have HE := Lib.hid (renM_bad (o := old) (n := num) hg)
    have HGG := Lib.hid hg
    clear hg
    generalize find l old = fk
    generalize find l num = fd
    go_wp2_with fail
    refine (Good2.l2Good_any _ a2 n1 n1 n2 n2 l m wq (H1.out.below HBQ.out) (H2.out.below HBQ.out)).mono ?_
    rintro e w2 ⟨rfl, b2'⟩
    rw [HGG.out]
    have b2 := HBQ.out.trans (b2'.mono HBQ.out.size)
    clear r1 r2 b2'
    have r1 := (b2.cell (p := ⟨w.heap.size, 0, none⟩) lw).trans x1
    have r2 := (b2.cell (p := ⟨w.heap.size, 1, none⟩) lw).trans x2
    have s1 := (b2.cell (p := ⟨w.heap.size + 1, 0, none⟩) lw1).trans y1
    have s2 := (b2.cell (p := ⟨w.heap.size + 1, 1, none⟩) lw1).trans y2
    have t1 := fz b2 ⟨w.heap.size + 1, 0, none⟩ lw1 fy1
    have t2 := fz b2 ⟨w.heap.size + 1, 1, none⟩ lw1 fy2
    have HB2 := Lib.hid (hb0.trans (b2.mono hb0.size))
    go_wp2_with (fail)
    obtain ⟨q1, q2⟩ := set2_cells (u := .slice none 0 0) (v := .slice none 0 0) s1 s2
    refine bodyPost_ret (v := .tuple #[.agg #[.slice none 0 0, .slice none 0 0], .bool false]) (by simp [results, Try.results22, go_sem, q1, q2]) rfl ?_
    rw [HE.out]
    exact ⟨none, 0, 0, none, 0, 0, rfl, Got.nil _ _, by omega, by omega, ((HB2.out.setCell (p := ⟨w.heap.size + 1, 0, none⟩) (Nat.le_succ _) _).setCell (p := ⟨w.heap.size + 1, 1, none⟩) (Nat.le_succ _) _)⟩
  | true =>
    have HG := Lib.hid hg
    have HGG := Lib.hid hg
    clear hg
    cases hj : isAt l old with
    | none =>
      have HE := Lib.hid (renM_noO (n := num) (m := m) hj)
      rw [find_none hj]
      clear hj
      generalize find l num = fd
      go_wp2_with fail
      refine (Good2.l2Good_any _ a2 n1 n1 n2 n2 l m wq (H1.out.below HBQ.out) (H2.out.below HBQ.out)).mono ?_
      rintro e w2 ⟨rfl, b2'⟩
      rw [HGG.out]
      have b2 := HBQ.out.trans (b2'.mono HBQ.out.size)
      clear r1 r2 b2'
      have r1 := (b2.cell (p := ⟨w.heap.size, 0, none⟩) lw).trans x1
      have r2 := (b2.cell (p := ⟨w.heap.size, 1, none⟩) lw).trans x2
      have s1 := (b2.cell (p := ⟨w.heap.size + 1, 0, none⟩) lw1).trans y1
      have s2 := (b2.cell (p := ⟨w.heap.size + 1, 1, none⟩) lw1).trans y2
      have t1 := fz b2 ⟨w.heap.size + 1, 0, none⟩ lw1 fy1
      have t2 := fz b2 ⟨w.heap.size + 1, 1, none⟩ lw1 fy2
      have HB2 := Lib.hid (hb0.trans (b2.mono hb0.size))
      go_wp2_with (fail)
      obtain ⟨q1, q2⟩ := set2_cells (u := .slice none 0 0) (v := .slice none 0 0) s1 s2
      refine bodyPost_ret (v := .tuple #[.agg #[.slice none 0 0, .slice none 0 0], .bool false]) (by simp [results, Try.results22, go_sem, q1, q2]) rfl ?_
      rw [HE.out]
      exact ⟨none, 0, 0, none, 0, 0, rfl, Got.nil _ _, by omega, by omega, ((HB2.out.setCell (p := ⟨w.heap.size + 1, 0, none⟩) (Nat.le_succ _) _).setCell (p := ⟨w.heap.size + 1, 1, none⟩) (Nat.le_succ _) _)⟩
    | some j =>
      rw [find_some hj]
      have hj0 : decide ((j : Int) < 0) = false := decide_eq_false (by omega)
      have hj00 : ¬ (j : Int) < 0 := by omega
      have HJ := Lib.hid hj
      have hjl : j < n1 := by rw [← H1.out.1]; exact isAt_lt hj
      have hn1 : n1 ≤ 10 := by rw [← H1.out.1]; exact (RemCS.good_few HG.out).1
      have hn2 : n2 ≤ 24 := by rw [← H2.out.1]; exact (RemCS.good_few HG.out).2
      clear hj
      by_cases hrg : 1 ≤ num ∧ num ≤ 999
      · have HR1 := Lib.hid hrg
        clear hrg
        cases hk : isAt l num with
        | none =>
          rw [find_none hk]
          have HNO : Hid (¬ (num ≠ old ∧ (isAt l num).isSome = true)) := fun h => by rw [hk] at h; exact absurd h.2 (by simp)
          clear hk
          obtain ⟨b', off', xx, kk, ha, hx, ea, eb⟩ := HO1.out.at j hjl
          subst ha
          have HBB : Hid (b' < w.heap.size) := World.block_lt_of_cell? w ⟨b', off' + j * 2, none⟩ ea
          have HX := Lib.hid hx
          have HEB := Lib.hid eb
          have HE := Lib.hid (renM_some (m := m) HG.out HR1.out.1 HR1.out.2 HJ.out HNO.out)
          clear ea eb hx
          go_wp2_with fail
          refine (Good2.l2Good_any _ a2 n1 n1 n2 n2 l m wq (H1.out.below HBQ.out) (H2.out.below HBQ.out)).mono ?_
          rintro e w2 ⟨rfl, b2'⟩
          rw [HGG.out]
          have b2 := HBQ.out.trans (b2'.mono HBQ.out.size)
          clear r1 r2 b2'
          have r1 := (b2.cell (p := ⟨w.heap.size, 0, none⟩) lw).trans x1
          have r2 := (b2.cell (p := ⟨w.heap.size, 1, none⟩) lw).trans x2
          have s1 := (b2.cell (p := ⟨w.heap.size + 1, 0, none⟩) lw1).trans y1
          have s2 := (b2.cell (p := ⟨w.heap.size + 1, 1, none⟩) lw1).trans y2
          have t1 := fz b2 ⟨w.heap.size + 1, 0, none⟩ lw1 fy1
          have t2 := fz b2 ⟨w.heap.size + 1, 1, none⟩ lw1 fy2
          have HB2 := Lib.hid b2
          clear b2 s1 s2 t1 t2
          go_wp2_with (go_at_call 61; refine (Good2.l1In_true num 1 999 HR1.out.1 HR1.out.2 _).mono ?_; rintro e w' ⟨rfl, rfl⟩)
          refine (SwapS.l2Swap_any old num (some ⟨b', off', none⟩) a2 n1 n1 n2 n2 l m (by omega) (by omega) _ (H1.out.below HB2.out) (H2.out.below HB2.out)).mono ?_
          rintro e w4 ⟨g1, d1, p2, k2, d2, hk2, rfl, o4, b4⟩
          have bW := HB2.out.trans (b4.mono HB2.out.size)
          have hba := below_alloc w4 (.cells #[.slice (some ⟨g1, 0, none⟩) n1 d1, .slice p2 k2 d2] 32)
          have bZ := bW.trans (hba.mono bW.size)
          clear r1 r2
          have p1 := (bZ.cell (p := ⟨w.heap.size, 0, none⟩) lw).trans x1
          have c1' := box_first w4 (.slice (some ⟨g1, 0, none⟩) n1 d1) (.slice p2 k2 d2) 32
          have c2' := box_second w4 (.slice (some ⟨g1, 0, none⟩) n1 d1) (.slice p2 k2 d2) 32
          have hnew := heap_alloc_new w4 (.cells #[.slice (some ⟨g1, 0, none⟩) n1 d1, .slice p2 k2 d2] 32)
          have e1' : (w4.alloc (.cells #[.slice (some ⟨g1, 0, none⟩) n1 d1, .slice p2 k2 d2] 32)).frozen? ⟨w4.heap.size, 0, none⟩ = false := (by simp only [World.frozen?, hnew]; rfl)
          have e2' : (w4.alloc (.cells #[.slice (some ⟨g1, 0, none⟩) n1 d1, .slice p2 k2 d2] 32)).frozen? ⟨w4.heap.size, 1, none⟩ = false := (by simp only [World.frozen?, hnew]; rfl)
          have hgz : w4.heap.size < (w4.alloc (.cells #[.slice (some ⟨g1, 0, none⟩) n1 d1, .slice p2 k2 d2] 32)).heap.size := by simp
          have HGOT := Lib.hid ((o4.base HB2.out.size).below hba)
          have HSRC := Lib.hid (Src.of (H1.out.below bZ))
          have HBZ := Lib.hid bZ
          have hW4 : W.heap.size ≤ w4.heap.size := bW.size
          have hg2 : ∀ q, (Value.slice p2 k2 d2).ownBlock = some q → W.heap.size ≤ q ∧ q < w4.heap.size := fun q e => ⟨Nat.le_trans HB2.out.size (o4.rel.lt q e).1, (o4.rel.lt q e).2⟩
          have HG2 := Lib.hid hg2
          have HIL : Hid (j ≤ n1) := by unfold Hid; omega
          have HIL1 : Hid (j + 1 ≤ n1) := by unfold Hid; omega
          clear hnew hba bW bZ o4 b4 hg2
          go_wp2_with fail
          generalize w4.alloc (.cells #[.slice (some ⟨g1, 0, none⟩) n1 d1, .slice p2 k2 d2] 32) = Z at *
          generalize w4.heap.size = gb at *
          have HK : Hid (∀ X, Below Z.heap.size Z X → X.cell? ⟨w.heap.size, 0, none⟩ = some (.slice (some ⟨b', off', none⟩) n1 n1)) := fun X hX => (hX.cell (p := ⟨w.heap.size, 0, none⟩) (by show w.heap.size < _; omega)).trans p1
          have HK2 : Hid (∀ X u, Below Z.heap.size Z X → (X.setCell ⟨gb, 0, none⟩ u).cell? ⟨w.heap.size, 0, none⟩ = some (.slice (some ⟨b', off', none⟩) n1 n1)) := fun X u hX => (World.cell?_setCell_other _ _ _ _ (by intro e; injection e with e; omega)).trans (HK.out X hX)
          have hk0 : (0 : Int) ≤ (j : Int) := by omega
          have hk1 : (j : Int) ≤ (n1 : Int) := by omega
          have hk2' : (j : Int) + 1 ≤ (n1 : Int) := by omega
          have hk3 : (0 : Int) ≤ (j : Int) + 1 := by omega
          have hk4 : IntKind.i64.wrap ((j : Int) + 1) = (j : Int) + 1 := by rw [IntKind.wrap_i64]; omega
          go_region_held3 (fun (X : World) => X.cell? ⟨w.heap.size, 0, none⟩ = some (.slice (some ⟨b', off', none⟩) n1 n1)) (first | (refine HK.out _ ?_; (repeat (first | exact B10.out | exact B8.out | with_reducible exact Below.refl _ _ | with_reducible refine belA ?_ _ | with_reducible refine Below.drew ?_ | fail)); done) | (refine HK2.out _ _ ?_; (repeat (first | exact B10.out | exact B8.out | with_reducible exact Below.refl _ _ | with_reducible refine belA ?_ _ | with_reducible refine Below.drew ?_ | fail)); done) | fail) ((first | (refine step_append_src (by rfl) (.tmp 43) (.tmp 47) 29 (by rfl) Z.heap.size 36 i1 _ Try.underlying29 hi1 hy0 hy1 hy2 rfl _ 0 0 [] (by rfl) (empty_at (by first | exact one_a _ _ | exact one_b _ _) (by first | omega | (simp; done) | (simp; omega))) _ j _ (l.take j) (by rfl) ((HSRC.out.take HIL.out).below (by (repeat (first | exact B10.out | exact B8.out | with_reducible exact Below.refl _ _ | with_reducible refine belA ?_ _ | with_reducible refine Below.drew ?_ | fail)); done)) (by omega) (Below.size (B := Z.heap.size) (by (repeat (first | exact B10.out | exact B8.out | with_reducible exact Below.refl _ _ | with_reducible refine belA ?_ _ | with_reducible refine Below.drew ?_ | fail)); done)) _ rfl ?_; intro g8 d8 w8 hown8 hgrow8 hat8 hlt8; have B8 : Hid (Below Z.heap.size Z w8) := Below.grown (by (repeat (first | exact B10.out | exact B8.out | with_reducible exact Below.refl _ _ | with_reducible refine belA ?_ _ | with_reducible refine Below.drew ?_ | fail)); done) hgrow8 (Below.size (B := Z.heap.size) (by (repeat (first | exact B10.out | exact B8.out | with_reducible exact Below.refl _ _ | with_reducible refine belA ?_ _ | with_reducible refine Below.drew ?_ | fail)); done)) (fun q e => by injection e with e; first | omega | (simp at e; omega)); rw [Nat.zero_add]; rw [Nat.zero_add, List.nil_append] at hown8; have HO8 := Lib.hid hown8; clear hown8 hgrow8 hat8 hlt8; have l8 : Z.heap.size ≤ w8.heap.size := B8.out.size) | (refine step_append_src (by rfl) (.tmp 48) (.tmp 53) 29 (by rfl) Z.heap.size 36 i1 _ Try.underlying29 hi1 hy0 hy1 hy2 rfl g8 j d8 (flat (l.take j)) (by rfl) (by first | exact HO8.out | exact HO8.out.alloc _) _ (n1 - (j + 1)) _ (l.drop (j + 1)) (by rfl) ((HSRC.out.cut HIL1.out (Nat.le_refl _)).below (by (repeat (first | exact B10.out | exact B8.out | with_reducible exact Below.refl _ _ | with_reducible refine belA ?_ _ | with_reducible refine Below.drew ?_ | fail)); done)) (by omega) (Below.size (B := Z.heap.size) (by (repeat (first | exact B10.out | exact B8.out | with_reducible exact Below.refl _ _ | with_reducible refine belA ?_ _ | with_reducible refine Below.drew ?_ | fail)); done)) _ rfl ?_; intro g10 d10 w10 hown10 hgrow10 hat10 hlt10; have B10 : Hid (Below Z.heap.size Z w10) := Below.grown (by (repeat (first | exact B10.out | exact B8.out | with_reducible exact Below.refl _ _ | with_reducible refine belA ?_ _ | with_reducible refine Below.drew ?_ | fail)); done) hgrow10 (Below.size (B := Z.heap.size) (by (repeat (first | exact B10.out | exact B8.out | with_reducible exact Below.refl _ _ | with_reducible refine belA ?_ _ | with_reducible refine Below.drew ?_ | fail)); done)) (fun q e => by injection e with e; have hq := (HO8.out.lt g8 rfl).1; omega); have HO10 := Lib.hid hown10; clear hown10 hgrow10 hat10 hlt10; have l10 : Z.heap.size ≤ w10.heap.size := B10.out.size; have r1 := (B10.out.cell (p := ⟨gb, 0, none⟩) hgz).trans c1'; have r2 := (B10.out.cell (p := ⟨gb, 1, none⟩) hgz).trans c2'; have t1 := fz B10.out ⟨gb, 0, none⟩ hgz e1'; have t2 := fz B10.out ⟨gb, 1, none⟩ hgz e2') | fail))
          all_goals (obtain ⟨nr, hnn⟩ : ∃ nr, nr = j + (n1 - (j + 1)) := ⟨_, rfl⟩)
          all_goals (have hnb : nr ≤ 10 := by omega)
          all_goals (have hO := HO10.out)
          all_goals rw [← hnn] at hO ⊢
          all_goals rw [show flat (l.take j) ++ flat (l.drop (j + 1)) = flat (l.take j ++ l.drop (j + 1)) from (flat_app _ _).symm] at hO
          all_goals (have HO := Lib.hid hO; clear hO hnn)
          all_goals (have hg10 : Z.heap.size ≤ g10 := (HO.out.lt g10 rfl).1)
          all_goals (have hG10 := Lib.hid (HGOT.out.below B10.out))
          all_goals (have hBX : Hid (Below w.heap.size w w10) := (hb0.trans (HBZ.out.mono hb0.size)).trans (B10.out.mono (hb0.trans (HBZ.out.mono hb0.size)).size))
          all_goals (have HCAP := Lib.hid (SwapS.own_cap HO.out))
          all_goals (have hL1 : (rest l j).length = nr := by have h := (holds_own HO.out).1; exact h)
          all_goals (have HXY : Hid (Below Z.heap.size Z w10) := B10.out)
          all_goals (have f1 : (Value.slice (some ⟨g10, 0, none⟩) nr d10).ownBlock ≠ some gb := own_off (by omega))
          all_goals (have f3 : (Value.slice p2 k2 d2).ownBlock ≠ some gb := fun e => by have := HG2.out _ e; omega)
          all_goals (have HY1 := Lib.hid (holds_own (setCell_far (u := .slice (some ⟨g10, 0, none⟩) nr d10) (o := 0) HO.out f1)))
          all_goals (have HY2 := Lib.hid (holds_own (setCell_far (u := .slice (some ⟨g10, 0, none⟩) nr d10) (o := 0) hG10.out.rel f3)))
          all_goals (have hbY : Below w.heap.size w (w10.setCell ⟨gb, 0, none⟩ (.slice (some ⟨g10, 0, none⟩) nr d10)) := hBX.out.setCell (p := ⟨gb, 0, none⟩) (by show _ ≤ gb; omega) _)
          all_goals (have HBY := Lib.hid hbY)
          all_goals (have hbYW : Below W.heap.size W (w10.setCell ⟨gb, 0, none⟩ (.slice (some ⟨g10, 0, none⟩) nr d10)) := (HBZ.out.trans (B10.out.mono HBZ.out.size)).setCell (p := ⟨gb, 0, none⟩) hW4 _)
          all_goals (have m1 := (hbYW.cell (p := ⟨w.heap.size, 0, none⟩) lw).trans x1)
          all_goals (have s1 := (hbYW.cell (p := ⟨w.heap.size + 1, 0, none⟩) lw1).trans y1)
          all_goals (have s2 := (hbYW.cell (p := ⟨w.heap.size + 1, 1, none⟩) lw1).trans y2)
          all_goals (have v1 := fz hbYW ⟨w.heap.size + 1, 0, none⟩ lw1 fy1)
          all_goals (have v2 := fz hbYW ⟨w.heap.size + 1, 1, none⟩ lw1 fy2)
          all_goals (have ee2 := (HBY.out.cell (p := ⟨b', off' + j * 2 + 1, none⟩) HBB.out).trans HEB.out)
          all_goals (have hbb : b' < w.heap.size := HBB.out)
          all_goals (have hgz2 : gb < w10.heap.size := Nat.lt_of_lt_of_le hgz B10.out.size)
          all_goals (obtain ⟨n1', n2'⟩ := two_cells (v := .slice (some ⟨g10, 0, none⟩) nr d10) r1 r2)
          all_goals (have hii : (j : Int) < (n1 : Int) := by omega)
          all_goals clear p1 x1 x2 y1 y2 fy1 fy2 c1' c2' e1' e2' r1 r2 t1 t2 f1 f3 hbY hbYW hk1 hk2' hk3 hk4
          all_goals generalize w10.setCell ⟨gb, 0, none⟩ (.slice (some ⟨g10, 0, none⟩) nr d10) = Y at *
          all_goals (have HN1 : Hid (∀ X, Below Y.heap.size Y X → Holds X (some ⟨g10, 0, none⟩) nr (rest l j) ∧ Holds X p2 k2 (swapM old num m)) := fun X hX => ⟨HY1.out.below hX, HY2.out.below hX⟩)
          all_goals (have hgY : gb < Y.heap.size := World.block_lt_of_cell? Y ⟨gb, 0, none⟩ n1')
          all_goals (have hwY : w.heap.size < Y.heap.size := World.block_lt_of_cell? Y ⟨w.heap.size, 0, none⟩ m1)
          all_goals (have hwY1 : w.heap.size + 1 < Y.heap.size := World.block_lt_of_cell? Y ⟨w.heap.size + 1, 0, none⟩ s1)
          all_goals (have HK6 : Hid (∀ X, Below Y.heap.size Y X → X.cell? ⟨gb, 0, none⟩ = some (.slice (some ⟨g10, 0, none⟩) nr d10) ∧ X.cell? ⟨gb, 1, none⟩ = some (.slice p2 k2 d2) ∧ X.cell? ⟨w.heap.size, 0, none⟩ = some (.slice (some ⟨b', off', none⟩) n1 n1) ∧ X.cell? ⟨b', off' + j * 2 + 1, none⟩ = some (.int .i64 kk)) := fun X hX => ⟨(hX.cell (p := ⟨gb, 0, none⟩) hgY).trans n1', (hX.cell (p := ⟨gb, 1, none⟩) hgY).trans n2', (hX.cell (p := ⟨w.heap.size, 0, none⟩) hwY).trans m1, (hX.cell (p := ⟨b', off' + j * 2 + 1, none⟩) (by show b' < _; omega)).trans ee2⟩)
          all_goals (have HK7 : Hid (∀ X u v, Below Y.heap.size Y X → ((X.setCell ⟨w.heap.size + 1, 0, none⟩ u).setCell ⟨w.heap.size + 1, 1, none⟩ v).cell? ⟨gb, 0, none⟩ = some (.slice (some ⟨g10, 0, none⟩) nr d10) ∧ ((X.setCell ⟨w.heap.size + 1, 0, none⟩ u).setCell ⟨w.heap.size + 1, 1, none⟩ v).cell? ⟨gb, 1, none⟩ = some (.slice p2 k2 d2) ∧ ((X.setCell ⟨w.heap.size + 1, 0, none⟩ u).setCell ⟨w.heap.size + 1, 1, none⟩ v).cell? ⟨w.heap.size, 0, none⟩ = some (.slice (some ⟨b', off', none⟩) n1 n1) ∧ ((X.setCell ⟨w.heap.size + 1, 0, none⟩ u).setCell ⟨w.heap.size + 1, 1, none⟩ v).cell? ⟨b', off' + j * 2 + 1, none⟩ = some (.int .i64 kk)) := fun X u v hX => ⟨far2 (HK6.out X hX).1 (by show w.heap.size + 1 ≠ gb; omega), far2 (HK6.out X hX).2.1 (by show w.heap.size + 1 ≠ gb; omega), far2 (HK6.out X hX).2.2.1 (by show w.heap.size + 1 ≠ w.heap.size; omega), far2 (HK6.out X hX).2.2.2 (by show w.heap.size + 1 ≠ b'; omega)⟩)
          all_goals go_wp2_with fail
          all_goals clear h
          all_goals go_region_held3 (fun (X : World) => X.cell? ⟨gb, 0, none⟩ = some (.slice (some ⟨g10, 0, none⟩) nr d10) ∧ X.cell? ⟨gb, 1, none⟩ = some (.slice p2 k2 d2) ∧ X.cell? ⟨w.heap.size, 0, none⟩ = some (.slice (some ⟨b', off', none⟩) n1 n1) ∧ X.cell? ⟨b', off' + j * 2 + 1, none⟩ = some (.int .i64 kk)) (first | (refine HK6.out _ ?_; (repeat (first | exact B11.out | with_reducible exact Below.refl _ _ | with_reducible refine belA ?_ _ | with_reducible refine Below.drew ?_ | fail)); done) | (refine HK7.out _ _ _ ?_; (repeat (first | exact B11.out | with_reducible exact Below.refl _ _ | with_reducible refine belA ?_ _ | with_reducible refine Below.drew ?_ | fail)); done) | fail) ((go_at_call 40; refine (Put.l2Put_any num kk (some ⟨g10, 0, none⟩) p2 nr d10 k2 d2 (rest l j) (swapM old num m) (by omega) (by omega) HCAP.out _ (HN1.out _ (by (repeat (first | exact B11.out | with_reducible exact Below.refl _ _ | with_reducible refine belA ?_ _ | with_reducible refine Below.drew ?_ | fail)); done)).1 (HN1.out _ (by (repeat (first | exact B11.out | with_reducible exact Below.refl _ _ | with_reducible refine belA ?_ _ | with_reducible refine Below.drew ?_ | fail)); done)).2).mono ?_; rintro e w11 ⟨g11, g12, d11, d12, rfl, o11, b11⟩; have B11 : Hid (Below Y.heap.size Y w11) := Below.trans (by (repeat (first | exact B11.out | with_reducible exact Below.refl _ _ | with_reducible refine belA ?_ _ | with_reducible refine Below.drew ?_ | fail)); done) (b11.mono (Nat.le_refl _)); have HO11 := Lib.hid o11; clear b11 o11; have s11 := (B11.out.cell (p := ⟨w.heap.size + 1, 0, none⟩) hwY1).trans s1; have s12 := (B11.out.cell (p := ⟨w.heap.size + 1, 1, none⟩) hwY1).trans s2; have v11 := fz B11.out ⟨w.heap.size + 1, 0, none⟩ hwY1 v1; have v12 := fz B11.out ⟨w.heap.size + 1, 1, none⟩ hwY1 v2))
          all_goals go_wp2_with fail
          all_goals (obtain ⟨z1, z2⟩ := set2_cells (u := .slice (some ⟨g11, 0, none⟩) (nr + 1) d11) (v := .slice (some ⟨g12, 0, none⟩) k2 d12) s11 s12)
          all_goals refine bodyPost_ret (v := .tuple #[.agg #[.slice (some ⟨g11, 0, none⟩) (nr + 1) d11, .slice (some ⟨g12, 0, none⟩) k2 d12], .bool true]) (by simp [results, Try.results22, go_sem, z1, z2]) rfl ?_
          all_goals rw [HE.out, kindAt_is HX.out]
          all_goals (have hwY3 : w.heap.size + 1 < Y.heap.size := hwY1)
          all_goals (have q1 := (HO11.out.ctx.lt g11 rfl).1)
          all_goals (have q2 := (HO11.out.rel.lt g12 rfl).1)
          all_goals (have q3 : Y.heap.size ≤ g11 := q1)
          all_goals (have q4 : Y.heap.size ≤ g12 := q2)
          all_goals refine ⟨some ⟨g11, 0, none⟩, nr + 1, d11, some ⟨g12, 0, none⟩, k2, d12, rfl, ?_, by omega, by omega, (((HBY.out.trans (B11.out.mono HBY.out.size)).setCell (p := ⟨w.heap.size + 1, 0, none⟩) (Nat.le_succ _) _).setCell (p := ⟨w.heap.size + 1, 1, none⟩) (Nat.le_succ _) _)⟩
          all_goals (have f1 : (Value.slice (some ⟨g11, 0, none⟩) (nr + 1) d11).ownBlock ≠ some (w.heap.size + 1) := own_off (by omega))
          all_goals (have f2 : (Value.slice (some ⟨g12, 0, none⟩) k2 d12).ownBlock ≠ some (w.heap.size + 1) := own_off (by omega))
          all_goals exact ⟨ownsRow_base (setCell_far (setCell_far HO11.out.ctx f1) f1) (Nat.le_trans (Nat.le_of_lt (Nat.lt_of_succ_lt hwY3)) (Nat.le_refl _)), ownsRow_base (setCell_far (setCell_far HO11.out.rel f2) f2) (Nat.le_trans (Nat.le_of_lt (Nat.lt_of_succ_lt hwY3)) (Nat.le_refl _)), (got_of_own HO11.out).ne⟩
        | some k =>
          rw [find_some hk]
          have hk0 : decide ((k : Int) < 0) = false := decide_eq_false (by omega)
          have hk00 : ¬ (k : Int) < 0 := by omega
          have hk1 : (0 : Int) ≤ (k : Int) := by omega
          have hk2 : decide ((0 : Int) ≤ (k : Int)) = true := decide_eq_true hk1
          have hk3 : decide ((k : Int) ≥ 0) = true := decide_eq_true hk1
          by_cases hkj : k = j
          · subst k
            have HNO : Hid (¬ (num ≠ old ∧ (isAt l num).isSome = true)) := fun h => by obtain ⟨y, hy⟩ := isAt_val hk; obtain ⟨z, hz⟩ := isAt_val HJ.out; rw [hy] at hz; injection hz with hz; injection hz with hz; exact h.1 hz
            have hkk : ((j : Int) == (j : Int)) = true := by simp
            have hkk2 : ((j : Int) != (j : Int)) = false := by simp
            clear hk
            obtain ⟨b', off', xx, kk, ha, hx, ea, eb⟩ := HO1.out.at j hjl
            subst ha
            have HBB : Hid (b' < w.heap.size) := World.block_lt_of_cell? w ⟨b', off' + j * 2, none⟩ ea
            have HX := Lib.hid hx
            have HEB := Lib.hid eb
            have HE := Lib.hid (renM_some (m := m) HG.out HR1.out.1 HR1.out.2 HJ.out HNO.out)
            clear ea eb hx
            go_wp2_with fail
            refine (Good2.l2Good_any _ a2 n1 n1 n2 n2 l m wq (H1.out.below HBQ.out) (H2.out.below HBQ.out)).mono ?_
            rintro e w2 ⟨rfl, b2'⟩
            rw [HGG.out]
            have b2 := HBQ.out.trans (b2'.mono HBQ.out.size)
            clear r1 r2 b2'
            have r1 := (b2.cell (p := ⟨w.heap.size, 0, none⟩) lw).trans x1
            have r2 := (b2.cell (p := ⟨w.heap.size, 1, none⟩) lw).trans x2
            have s1 := (b2.cell (p := ⟨w.heap.size + 1, 0, none⟩) lw1).trans y1
            have s2 := (b2.cell (p := ⟨w.heap.size + 1, 1, none⟩) lw1).trans y2
            have t1 := fz b2 ⟨w.heap.size + 1, 0, none⟩ lw1 fy1
            have t2 := fz b2 ⟨w.heap.size + 1, 1, none⟩ lw1 fy2
            have HB2 := Lib.hid b2
            clear b2 s1 s2 t1 t2
            go_wp2_with (go_at_call 61; refine (Good2.l1In_true num 1 999 HR1.out.1 HR1.out.2 _).mono ?_; rintro e w' ⟨rfl, rfl⟩)
            refine (SwapS.l2Swap_any old num (some ⟨b', off', none⟩) a2 n1 n1 n2 n2 l m (by omega) (by omega) _ (H1.out.below HB2.out) (H2.out.below HB2.out)).mono ?_
            rintro e w4 ⟨g1, d1, p2, k2, d2, hk2, rfl, o4, b4⟩
            have bW := HB2.out.trans (b4.mono HB2.out.size)
            have hba := below_alloc w4 (.cells #[.slice (some ⟨g1, 0, none⟩) n1 d1, .slice p2 k2 d2] 32)
            have bZ := bW.trans (hba.mono bW.size)
            clear r1 r2
            have p1 := (bZ.cell (p := ⟨w.heap.size, 0, none⟩) lw).trans x1
            have c1' := box_first w4 (.slice (some ⟨g1, 0, none⟩) n1 d1) (.slice p2 k2 d2) 32
            have c2' := box_second w4 (.slice (some ⟨g1, 0, none⟩) n1 d1) (.slice p2 k2 d2) 32
            have hnew := heap_alloc_new w4 (.cells #[.slice (some ⟨g1, 0, none⟩) n1 d1, .slice p2 k2 d2] 32)
            have e1' : (w4.alloc (.cells #[.slice (some ⟨g1, 0, none⟩) n1 d1, .slice p2 k2 d2] 32)).frozen? ⟨w4.heap.size, 0, none⟩ = false := (by simp only [World.frozen?, hnew]; rfl)
            have e2' : (w4.alloc (.cells #[.slice (some ⟨g1, 0, none⟩) n1 d1, .slice p2 k2 d2] 32)).frozen? ⟨w4.heap.size, 1, none⟩ = false := (by simp only [World.frozen?, hnew]; rfl)
            have hgz : w4.heap.size < (w4.alloc (.cells #[.slice (some ⟨g1, 0, none⟩) n1 d1, .slice p2 k2 d2] 32)).heap.size := by simp
            have HGOT := Lib.hid ((o4.base HB2.out.size).below hba)
            have HSRC := Lib.hid (Src.of (H1.out.below bZ))
            have HBZ := Lib.hid bZ
            have hW4 : W.heap.size ≤ w4.heap.size := bW.size
            have hg2 : ∀ q, (Value.slice p2 k2 d2).ownBlock = some q → W.heap.size ≤ q ∧ q < w4.heap.size := fun q e => ⟨Nat.le_trans HB2.out.size (o4.rel.lt q e).1, (o4.rel.lt q e).2⟩
            have HG2 := Lib.hid hg2
            have HIL : Hid (j ≤ n1) := by unfold Hid; omega
            have HIL1 : Hid (j + 1 ≤ n1) := by unfold Hid; omega
            clear hnew hba bW bZ o4 b4 hg2
            go_wp2_with fail
            generalize w4.alloc (.cells #[.slice (some ⟨g1, 0, none⟩) n1 d1, .slice p2 k2 d2] 32) = Z at *
            generalize w4.heap.size = gb at *
            have HK : Hid (∀ X, Below Z.heap.size Z X → X.cell? ⟨w.heap.size, 0, none⟩ = some (.slice (some ⟨b', off', none⟩) n1 n1)) := fun X hX => (hX.cell (p := ⟨w.heap.size, 0, none⟩) (by show w.heap.size < _; omega)).trans p1
            have HK2 : Hid (∀ X u, Below Z.heap.size Z X → (X.setCell ⟨gb, 0, none⟩ u).cell? ⟨w.heap.size, 0, none⟩ = some (.slice (some ⟨b', off', none⟩) n1 n1)) := fun X u hX => (World.cell?_setCell_other _ _ _ _ (by intro e; injection e with e; omega)).trans (HK.out X hX)
            have hk0 : (0 : Int) ≤ (j : Int) := by omega
            have hk1 : (j : Int) ≤ (n1 : Int) := by omega
            have hk2' : (j : Int) + 1 ≤ (n1 : Int) := by omega
            have hk3 : (0 : Int) ≤ (j : Int) + 1 := by omega
            have hk4 : IntKind.i64.wrap ((j : Int) + 1) = (j : Int) + 1 := by rw [IntKind.wrap_i64]; omega
            go_region_held3 (fun (X : World) => X.cell? ⟨w.heap.size, 0, none⟩ = some (.slice (some ⟨b', off', none⟩) n1 n1)) (first | (refine HK.out _ ?_; (repeat (first | exact B10.out | exact B8.out | with_reducible exact Below.refl _ _ | with_reducible refine belA ?_ _ | with_reducible refine Below.drew ?_ | fail)); done) | (refine HK2.out _ _ ?_; (repeat (first | exact B10.out | exact B8.out | with_reducible exact Below.refl _ _ | with_reducible refine belA ?_ _ | with_reducible refine Below.drew ?_ | fail)); done) | fail) ((first | (refine step_append_src (by rfl) (.tmp 43) (.tmp 47) 29 (by rfl) Z.heap.size 36 i1 _ Try.underlying29 hi1 hy0 hy1 hy2 rfl _ 0 0 [] (by rfl) (empty_at (by first | exact one_a _ _ | exact one_b _ _) (by first | omega | (simp; done) | (simp; omega))) _ j _ (l.take j) (by rfl) ((HSRC.out.take HIL.out).below (by (repeat (first | exact B10.out | exact B8.out | with_reducible exact Below.refl _ _ | with_reducible refine belA ?_ _ | with_reducible refine Below.drew ?_ | fail)); done)) (by omega) (Below.size (B := Z.heap.size) (by (repeat (first | exact B10.out | exact B8.out | with_reducible exact Below.refl _ _ | with_reducible refine belA ?_ _ | with_reducible refine Below.drew ?_ | fail)); done)) _ rfl ?_; intro g8 d8 w8 hown8 hgrow8 hat8 hlt8; have B8 : Hid (Below Z.heap.size Z w8) := Below.grown (by (repeat (first | exact B10.out | exact B8.out | with_reducible exact Below.refl _ _ | with_reducible refine belA ?_ _ | with_reducible refine Below.drew ?_ | fail)); done) hgrow8 (Below.size (B := Z.heap.size) (by (repeat (first | exact B10.out | exact B8.out | with_reducible exact Below.refl _ _ | with_reducible refine belA ?_ _ | with_reducible refine Below.drew ?_ | fail)); done)) (fun q e => by injection e with e; first | omega | (simp at e; omega)); rw [Nat.zero_add]; rw [Nat.zero_add, List.nil_append] at hown8; have HO8 := Lib.hid hown8; clear hown8 hgrow8 hat8 hlt8; have l8 : Z.heap.size ≤ w8.heap.size := B8.out.size) | (refine step_append_src (by rfl) (.tmp 48) (.tmp 53) 29 (by rfl) Z.heap.size 36 i1 _ Try.underlying29 hi1 hy0 hy1 hy2 rfl g8 j d8 (flat (l.take j)) (by rfl) (by first | exact HO8.out | exact HO8.out.alloc _) _ (n1 - (j + 1)) _ (l.drop (j + 1)) (by rfl) ((HSRC.out.cut HIL1.out (Nat.le_refl _)).below (by (repeat (first | exact B10.out | exact B8.out | with_reducible exact Below.refl _ _ | with_reducible refine belA ?_ _ | with_reducible refine Below.drew ?_ | fail)); done)) (by omega) (Below.size (B := Z.heap.size) (by (repeat (first | exact B10.out | exact B8.out | with_reducible exact Below.refl _ _ | with_reducible refine belA ?_ _ | with_reducible refine Below.drew ?_ | fail)); done)) _ rfl ?_; intro g10 d10 w10 hown10 hgrow10 hat10 hlt10; have B10 : Hid (Below Z.heap.size Z w10) := Below.grown (by (repeat (first | exact B10.out | exact B8.out | with_reducible exact Below.refl _ _ | with_reducible refine belA ?_ _ | with_reducible refine Below.drew ?_ | fail)); done) hgrow10 (Below.size (B := Z.heap.size) (by (repeat (first | exact B10.out | exact B8.out | with_reducible exact Below.refl _ _ | with_reducible refine belA ?_ _ | with_reducible refine Below.drew ?_ | fail)); done)) (fun q e => by injection e with e; have hq := (HO8.out.lt g8 rfl).1; omega); have HO10 := Lib.hid hown10; clear hown10 hgrow10 hat10 hlt10; have l10 : Z.heap.size ≤ w10.heap.size := B10.out.size; have r1 := (B10.out.cell (p := ⟨gb, 0, none⟩) hgz).trans c1'; have r2 := (B10.out.cell (p := ⟨gb, 1, none⟩) hgz).trans c2'; have t1 := fz B10.out ⟨gb, 0, none⟩ hgz e1'; have t2 := fz B10.out ⟨gb, 1, none⟩ hgz e2') | fail))
            all_goals (obtain ⟨nr, hnn⟩ : ∃ nr, nr = j + (n1 - (j + 1)) := ⟨_, rfl⟩)
            all_goals (have hnb : nr ≤ 10 := by omega)
            all_goals (have hO := HO10.out)
            all_goals rw [← hnn] at hO ⊢
            all_goals rw [show flat (l.take j) ++ flat (l.drop (j + 1)) = flat (l.take j ++ l.drop (j + 1)) from (flat_app _ _).symm] at hO
            all_goals (have HO := Lib.hid hO; clear hO hnn)
            all_goals (have hg10 : Z.heap.size ≤ g10 := (HO.out.lt g10 rfl).1)
            all_goals (have hG10 := Lib.hid (HGOT.out.below B10.out))
            all_goals (have hBX : Hid (Below w.heap.size w w10) := (hb0.trans (HBZ.out.mono hb0.size)).trans (B10.out.mono (hb0.trans (HBZ.out.mono hb0.size)).size))
            all_goals (have HCAP := Lib.hid (SwapS.own_cap HO.out))
            all_goals (have hL1 : (rest l j).length = nr := by have h := (holds_own HO.out).1; exact h)
            all_goals (have HXY : Hid (Below Z.heap.size Z w10) := B10.out)
            all_goals (have f1 : (Value.slice (some ⟨g10, 0, none⟩) nr d10).ownBlock ≠ some gb := own_off (by omega))
            all_goals (have f3 : (Value.slice p2 k2 d2).ownBlock ≠ some gb := fun e => by have := HG2.out _ e; omega)
            all_goals (have HY1 := Lib.hid (holds_own (setCell_far (u := .slice (some ⟨g10, 0, none⟩) nr d10) (o := 0) HO.out f1)))
            all_goals (have HY2 := Lib.hid (holds_own (setCell_far (u := .slice (some ⟨g10, 0, none⟩) nr d10) (o := 0) hG10.out.rel f3)))
            all_goals (have hbY : Below w.heap.size w (w10.setCell ⟨gb, 0, none⟩ (.slice (some ⟨g10, 0, none⟩) nr d10)) := hBX.out.setCell (p := ⟨gb, 0, none⟩) (by show _ ≤ gb; omega) _)
            all_goals (have HBY := Lib.hid hbY)
            all_goals (have hbYW : Below W.heap.size W (w10.setCell ⟨gb, 0, none⟩ (.slice (some ⟨g10, 0, none⟩) nr d10)) := (HBZ.out.trans (B10.out.mono HBZ.out.size)).setCell (p := ⟨gb, 0, none⟩) hW4 _)
            all_goals (have m1 := (hbYW.cell (p := ⟨w.heap.size, 0, none⟩) lw).trans x1)
            all_goals (have s1 := (hbYW.cell (p := ⟨w.heap.size + 1, 0, none⟩) lw1).trans y1)
            all_goals (have s2 := (hbYW.cell (p := ⟨w.heap.size + 1, 1, none⟩) lw1).trans y2)
            all_goals (have v1 := fz hbYW ⟨w.heap.size + 1, 0, none⟩ lw1 fy1)
            all_goals (have v2 := fz hbYW ⟨w.heap.size + 1, 1, none⟩ lw1 fy2)
            all_goals (have ee2 := (HBY.out.cell (p := ⟨b', off' + j * 2 + 1, none⟩) HBB.out).trans HEB.out)
            all_goals (have hbb : b' < w.heap.size := HBB.out)
            all_goals (have hgz2 : gb < w10.heap.size := Nat.lt_of_lt_of_le hgz B10.out.size)
            all_goals (obtain ⟨n1', n2'⟩ := two_cells (v := .slice (some ⟨g10, 0, none⟩) nr d10) r1 r2)
            all_goals (have hii : (j : Int) < (n1 : Int) := by omega)
            all_goals clear p1 x1 x2 y1 y2 fy1 fy2 c1' c2' e1' e2' r1 r2 t1 t2 f1 f3 hbY hbYW hk1 hk2' hk3 hk4
            all_goals generalize w10.setCell ⟨gb, 0, none⟩ (.slice (some ⟨g10, 0, none⟩) nr d10) = Y at *
            all_goals (have HN1 : Hid (∀ X, Below Y.heap.size Y X → Holds X (some ⟨g10, 0, none⟩) nr (rest l j) ∧ Holds X p2 k2 (swapM old num m)) := fun X hX => ⟨HY1.out.below hX, HY2.out.below hX⟩)
            all_goals (have hgY : gb < Y.heap.size := World.block_lt_of_cell? Y ⟨gb, 0, none⟩ n1')
            all_goals (have hwY : w.heap.size < Y.heap.size := World.block_lt_of_cell? Y ⟨w.heap.size, 0, none⟩ m1)
            all_goals (have hwY1 : w.heap.size + 1 < Y.heap.size := World.block_lt_of_cell? Y ⟨w.heap.size + 1, 0, none⟩ s1)
            all_goals (have HK6 : Hid (∀ X, Below Y.heap.size Y X → X.cell? ⟨gb, 0, none⟩ = some (.slice (some ⟨g10, 0, none⟩) nr d10) ∧ X.cell? ⟨gb, 1, none⟩ = some (.slice p2 k2 d2) ∧ X.cell? ⟨w.heap.size, 0, none⟩ = some (.slice (some ⟨b', off', none⟩) n1 n1) ∧ X.cell? ⟨b', off' + j * 2 + 1, none⟩ = some (.int .i64 kk)) := fun X hX => ⟨(hX.cell (p := ⟨gb, 0, none⟩) hgY).trans n1', (hX.cell (p := ⟨gb, 1, none⟩) hgY).trans n2', (hX.cell (p := ⟨w.heap.size, 0, none⟩) hwY).trans m1, (hX.cell (p := ⟨b', off' + j * 2 + 1, none⟩) (by show b' < _; omega)).trans ee2⟩)
            all_goals (have HK7 : Hid (∀ X u v, Below Y.heap.size Y X → ((X.setCell ⟨w.heap.size + 1, 0, none⟩ u).setCell ⟨w.heap.size + 1, 1, none⟩ v).cell? ⟨gb, 0, none⟩ = some (.slice (some ⟨g10, 0, none⟩) nr d10) ∧ ((X.setCell ⟨w.heap.size + 1, 0, none⟩ u).setCell ⟨w.heap.size + 1, 1, none⟩ v).cell? ⟨gb, 1, none⟩ = some (.slice p2 k2 d2) ∧ ((X.setCell ⟨w.heap.size + 1, 0, none⟩ u).setCell ⟨w.heap.size + 1, 1, none⟩ v).cell? ⟨w.heap.size, 0, none⟩ = some (.slice (some ⟨b', off', none⟩) n1 n1) ∧ ((X.setCell ⟨w.heap.size + 1, 0, none⟩ u).setCell ⟨w.heap.size + 1, 1, none⟩ v).cell? ⟨b', off' + j * 2 + 1, none⟩ = some (.int .i64 kk)) := fun X u v hX => ⟨far2 (HK6.out X hX).1 (by show w.heap.size + 1 ≠ gb; omega), far2 (HK6.out X hX).2.1 (by show w.heap.size + 1 ≠ gb; omega), far2 (HK6.out X hX).2.2.1 (by show w.heap.size + 1 ≠ w.heap.size; omega), far2 (HK6.out X hX).2.2.2 (by show w.heap.size + 1 ≠ b'; omega)⟩)
            all_goals go_wp2_with fail
            all_goals clear h
            all_goals go_region_held3 (fun (X : World) => X.cell? ⟨gb, 0, none⟩ = some (.slice (some ⟨g10, 0, none⟩) nr d10) ∧ X.cell? ⟨gb, 1, none⟩ = some (.slice p2 k2 d2) ∧ X.cell? ⟨w.heap.size, 0, none⟩ = some (.slice (some ⟨b', off', none⟩) n1 n1) ∧ X.cell? ⟨b', off' + j * 2 + 1, none⟩ = some (.int .i64 kk)) (first | (refine HK6.out _ ?_; (repeat (first | exact B11.out | with_reducible exact Below.refl _ _ | with_reducible refine belA ?_ _ | with_reducible refine Below.drew ?_ | fail)); done) | (refine HK7.out _ _ _ ?_; (repeat (first | exact B11.out | with_reducible exact Below.refl _ _ | with_reducible refine belA ?_ _ | with_reducible refine Below.drew ?_ | fail)); done) | fail) ((go_at_call 40; refine (Put.l2Put_any num kk (some ⟨g10, 0, none⟩) p2 nr d10 k2 d2 (rest l j) (swapM old num m) (by omega) (by omega) HCAP.out _ (HN1.out _ (by (repeat (first | exact B11.out | with_reducible exact Below.refl _ _ | with_reducible refine belA ?_ _ | with_reducible refine Below.drew ?_ | fail)); done)).1 (HN1.out _ (by (repeat (first | exact B11.out | with_reducible exact Below.refl _ _ | with_reducible refine belA ?_ _ | with_reducible refine Below.drew ?_ | fail)); done)).2).mono ?_; rintro e w11 ⟨g11, g12, d11, d12, rfl, o11, b11⟩; have B11 : Hid (Below Y.heap.size Y w11) := Below.trans (by (repeat (first | exact B11.out | with_reducible exact Below.refl _ _ | with_reducible refine belA ?_ _ | with_reducible refine Below.drew ?_ | fail)); done) (b11.mono (Nat.le_refl _)); have HO11 := Lib.hid o11; clear b11 o11; have s11 := (B11.out.cell (p := ⟨w.heap.size + 1, 0, none⟩) hwY1).trans s1; have s12 := (B11.out.cell (p := ⟨w.heap.size + 1, 1, none⟩) hwY1).trans s2; have v11 := fz B11.out ⟨w.heap.size + 1, 0, none⟩ hwY1 v1; have v12 := fz B11.out ⟨w.heap.size + 1, 1, none⟩ hwY1 v2))
            all_goals go_wp2_with fail
            all_goals (obtain ⟨z1, z2⟩ := set2_cells (u := .slice (some ⟨g11, 0, none⟩) (nr + 1) d11) (v := .slice (some ⟨g12, 0, none⟩) k2 d12) s11 s12)
            all_goals refine bodyPost_ret (v := .tuple #[.agg #[.slice (some ⟨g11, 0, none⟩) (nr + 1) d11, .slice (some ⟨g12, 0, none⟩) k2 d12], .bool true]) (by simp [results, Try.results22, go_sem, z1, z2]) rfl ?_
            all_goals rw [HE.out, kindAt_is HX.out]
            all_goals (have hwY3 : w.heap.size + 1 < Y.heap.size := hwY1)
            all_goals (have q1 := (HO11.out.ctx.lt g11 rfl).1)
            all_goals (have q2 := (HO11.out.rel.lt g12 rfl).1)
            all_goals (have q3 : Y.heap.size ≤ g11 := q1)
            all_goals (have q4 : Y.heap.size ≤ g12 := q2)
            all_goals refine ⟨some ⟨g11, 0, none⟩, nr + 1, d11, some ⟨g12, 0, none⟩, k2, d12, rfl, ?_, by omega, by omega, (((HBY.out.trans (B11.out.mono HBY.out.size)).setCell (p := ⟨w.heap.size + 1, 0, none⟩) (Nat.le_succ _) _).setCell (p := ⟨w.heap.size + 1, 1, none⟩) (Nat.le_succ _) _)⟩
            all_goals (have f1 : (Value.slice (some ⟨g11, 0, none⟩) (nr + 1) d11).ownBlock ≠ some (w.heap.size + 1) := own_off (by omega))
            all_goals (have f2 : (Value.slice (some ⟨g12, 0, none⟩) k2 d12).ownBlock ≠ some (w.heap.size + 1) := own_off (by omega))
            all_goals exact ⟨ownsRow_base (setCell_far (setCell_far HO11.out.ctx f1) f1) (Nat.le_trans (Nat.le_of_lt (Nat.lt_of_succ_lt hwY3)) (Nat.le_refl _)), ownsRow_base (setCell_far (setCell_far HO11.out.rel f2) f2) (Nat.le_trans (Nat.le_of_lt (Nat.lt_of_succ_lt hwY3)) (Nat.le_refl _)), (got_of_own HO11.out).ne⟩
          · have hne : num ≠ old := fun e => by subst e; have h := HJ.out; rw [hk] at h; injection h with h; exact hkj h
            have HE := Lib.hid (renM_has (m := m) HJ.out hne (by rw [hk]; rfl))
            have hkj2 : ¬ (k : Int) = (j : Int) := by omega
            have hkk : ((k : Int) == (j : Int)) = false := beq_false_of_ne (by omega)
            have hkk2 : ((k : Int) != (j : Int)) = true := by rw [bne, hkk]; rfl
            clear hk hne
            go_wp2_with fail
            refine (Good2.l2Good_any _ a2 n1 n1 n2 n2 l m wq (H1.out.below HBQ.out) (H2.out.below HBQ.out)).mono ?_
            rintro e w2 ⟨rfl, b2'⟩
            rw [HGG.out]
            have b2 := HBQ.out.trans (b2'.mono HBQ.out.size)
            clear r1 r2 b2'
            have r1 := (b2.cell (p := ⟨w.heap.size, 0, none⟩) lw).trans x1
            have r2 := (b2.cell (p := ⟨w.heap.size, 1, none⟩) lw).trans x2
            have s1 := (b2.cell (p := ⟨w.heap.size + 1, 0, none⟩) lw1).trans y1
            have s2 := (b2.cell (p := ⟨w.heap.size + 1, 1, none⟩) lw1).trans y2
            have t1 := fz b2 ⟨w.heap.size + 1, 0, none⟩ lw1 fy1
            have t2 := fz b2 ⟨w.heap.size + 1, 1, none⟩ lw1 fy2
            have HB2 := Lib.hid (hb0.trans (b2.mono hb0.size))
            go_wp2_with (go_at_call 61; refine (Good2.l1In_true num 1 999 HR1.out.1 HR1.out.2 _).mono ?_; rintro e w' ⟨rfl, rfl⟩)
            obtain ⟨q1, q2⟩ := set2_cells (u := .slice none 0 0) (v := .slice none 0 0) s1 s2
            refine bodyPost_ret (v := .tuple #[.agg #[.slice none 0 0, .slice none 0 0], .bool false]) (by simp [results, Try.results22, go_sem, q1, q2]) rfl ?_
            rw [HE.out]
            exact ⟨none, 0, 0, none, 0, 0, rfl, Got.nil _ _, by omega, by omega, ((HB2.out.setCell (p := ⟨w.heap.size + 1, 0, none⟩) (Nat.le_succ _) _).setCell (p := ⟨w.heap.size + 1, 1, none⟩) (Nat.le_succ _) _)⟩
      · have HE := Lib.hid (renM_far (o := old) (l := l) (m := m) hrg)
        have HNR := Lib.hid hrg
        clear hrg
        generalize find l num = fd
        go_wp2_with fail
        refine (Good2.l2Good_any _ a2 n1 n1 n2 n2 l m wq (H1.out.below HBQ.out) (H2.out.below HBQ.out)).mono ?_
        rintro e w2 ⟨rfl, b2'⟩
        rw [HGG.out]
        have b2 := HBQ.out.trans (b2'.mono HBQ.out.size)
        clear r1 r2 b2'
        have r1 := (b2.cell (p := ⟨w.heap.size, 0, none⟩) lw).trans x1
        have r2 := (b2.cell (p := ⟨w.heap.size, 1, none⟩) lw).trans x2
        have s1 := (b2.cell (p := ⟨w.heap.size + 1, 0, none⟩) lw1).trans y1
        have s2 := (b2.cell (p := ⟨w.heap.size + 1, 1, none⟩) lw1).trans y2
        have t1 := fz b2 ⟨w.heap.size + 1, 0, none⟩ lw1 fy1
        have t2 := fz b2 ⟨w.heap.size + 1, 1, none⟩ lw1 fy2
        have HB2 := Lib.hid (hb0.trans (b2.mono hb0.size))
        go_wp2_with (go_at_call 61; refine (Good2.l1In_false num 1 999 HNR.out _).mono ?_; rintro e w' ⟨rfl, rfl⟩)
        obtain ⟨q1, q2⟩ := set2_cells (u := .slice none 0 0) (v := .slice none 0 0) s1 s2
        refine bodyPost_ret (v := .tuple #[.agg #[.slice none 0 0, .slice none 0 0], .bool false]) (by simp [results, Try.results22, go_sem, q1, q2]) rfl ?_
        rw [HE.out]
        exact ⟨none, 0, 0, none, 0, 0, rfl, Got.nil _ _, by omega, by omega, ((HB2.out.setCell (p := ⟨w.heap.size + 1, 0, none⟩) (Nat.le_succ _) _).setCell (p := ⟨w.heap.size + 1, 1, none⟩) (Nat.le_succ _) _)⟩
end Go.Proofs.Ytknlackphdcflaa.RenS
