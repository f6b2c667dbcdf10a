/- The model's l2Own: a copy of a record. -/
import Derived.Test.YtknlackphdcflaaAppH
import Derived.Test.YtknlackphdcflaaRemCB
namespace Go.Proofs.Ytknlackphdcflaa.OwnS
open Go.RowKit Pairs Rec RecEq Keep Row2 Copy AppH Two Gives
set_option linter.unusedSimpArgs false in
set_option linter.unusedSimpArgs false in
theorem dh (X : World) : X.drew.heap = X.heap := rfl
theorem ah (X : World) (o : Obj) : (X.alloc o).heap = X.heap.push o := rfl
theorem one_a (X : World) (T : TypeId) : (X.alloc (.cells #[] T)).drew.heap[X.heap.size]? = some (.cells #[] T) := heap_alloc_new X _
theorem one_b (X : World) (T : TypeId) : (X.alloc (.cells #[] T)).heap[X.heap.size]? = some (.cells #[] T) := heap_alloc_new X _
theorem two_a (X : World) (T U : TypeId) : ((X.alloc (.cells #[] T)).alloc (.cells #[] U)).drew.heap[X.heap.size + 1]? = some (.cells #[] U) := by
  have h := heap_alloc_new (X.alloc (.cells #[] T)) (.cells #[] U)
  rw [show (X.alloc (.cells #[] T)).heap.size = X.heap.size + 1 by simp] at h
  exact h
theorem two_b (X : World) (T U : TypeId) : ((X.alloc (.cells #[] T)).alloc (.cells #[] U)).drew.heap[X.heap.size]? = some (.cells #[] T) :=
  (Below.heap_alloc (X.alloc (.cells #[] T)) (.cells #[] U) X.heap.size (by simp)).trans (heap_alloc_new X _)
theorem own_off {g k n c : Nat} (h : g ≠ k) : (Value.slice (some ⟨g, 0, none⟩) n c).ownBlock ≠ some k := by
  intro e
  exact h (by simpa [Value.ownBlock] using e)
theorem fin {w W w9 : World} {g1 g2 n1 n2 d1 d2 : Nat} {l m : List (Int × Int)} {u v : Value} (h1 : w9.ownsRow W.heap.size 36 2 (.slice (some ⟨g1, 0, none⟩) (0 + n1) d1) (0 + n1) ([] ++ flat l)) (h2 : w9.ownsRow W.heap.size 44 2 (.slice (some ⟨g2, 0, none⟩) (0 + n2) d2) (0 + n2) ([] ++ flat m))
    (q1 : g1 ≠ w.heap.size + 1) (q2 : g2 ≠ w.heap.size + 1) (hne : g1 ≠ g2) (hW : w.heap.size ≤ W.heap.size) : Own ((w9.setCell ⟨w.heap.size + 1, 0, none⟩ u).setCell ⟨w.heap.size + 1, 1, none⟩ v) w.heap.size g1 n1 d1 g2 n2 d2 l m := by
  rw [Nat.zero_add, List.nil_append] at h1 h2
  exact ⟨ownsRow_base (setCell_far (setCell_far h1 (own_off q1)) (own_off q1)) hW, ownsRow_base (setCell_far (setCell_far h2 (own_off q2)) (own_off q2)) hW, hne⟩
theorem belA {W X : World} (h : Below W.heap.size W X) (o : Obj) : Below W.heap.size W (X.alloc o) := h.alloc h.size o
theorem empty_at {X : World} {k B : Nat} {T : TypeId} (h : X.heap[k]? = some (.cells #[] T)) (hB : B ≤ k) : X.ownsRow B T 2 (.slice (some ⟨k, 0, none⟩) 0 0) 0 [] :=
  ⟨rfl, .inr ⟨k, 0, #[], rfl, hB, h, Nat.le_refl _, by unfold maxLen; omega, rfl, rfl⟩⟩
theorem empty_keep {X Y : World} {k g : Nat} {T : TypeId} (hg : X.grownBy Y (some g)) (h : X.heap[k]? = some (.cells #[] T)) (hne : k ≠ g) : Y.heap[k]? = some (.cells #[] T) :=
  (hg.block k (Array.getElem?_eq_some_iff.1 h).1 (fun e => hne (by injection e))).trans h
theorem own_keep {X Y : World} {B k n d r : Nat} {T : TypeId} {xs : List Value} (h : X.ownsRow B T 2 (.slice (some ⟨k, 0, none⟩) n d) n xs) (hg : X.grownBy Y (some r)) (hne : k ≠ r) : Y.ownsRow B T 2 (.slice (some ⟨k, 0, none⟩) n d) n xs := by
  refine ⟨h.1, ?_⟩
  rcases h.2 with ⟨e, _⟩ | ⟨g, cap, cur, e, hb, hh, rest⟩
  · cases e
  · have hk : k = g := by injection e with e; injection e with e; injection e
    subst hk
    exact .inr ⟨k, cap, cur, e, hb, (hg.block k (Array.getElem?_eq_some_iff.1 hh).1 (fun e => hne (by injection e))).trans hh, rest⟩
set_option maxRecDepth 100000 in
set_option maxHeartbeats 4000000 in
theorem l2Own_any (a1 a2 : Option Addr) (n1 c1 n2 c2 : Nat) (l m : List (Int × Int)) (h1 : n1 ≤ 1048576) (h2 : n2 ≤ 1048576) (w : World) (H1 : Holds w a1 n1 l) (H2 : Holds w a2 n2 m) :
    Calls Try.prog 80 #[.agg #[.slice a1 n1 c1, .slice a2 n2 c2]] w fun e w' => ∃ g1 g2 d1 d2 : Nat, e = .returned (.agg #[.slice (some ⟨g1, 0, none⟩) n1 d1, .slice (some ⟨g2, 0, none⟩) n2 d2]) ∧ Own w' w.heap.size g1 n1 d1 g2 n2 d2 l m ∧ Below w.heap.size w w' := by
  obtain ⟨i1, hi1, hy0, hy1, hy2⟩ := info_parts infoContext
  obtain ⟨i2, hi2, hv0, hv1, hv2⟩ := info_parts infoRelation
  obtain ⟨fy1, fy2⟩ := fz_box2 w (.slice a1 n1 c1) (.slice a2 n2 c2) (.slice none 0 0) (.slice none 0 0) 32 32
  obtain ⟨hs, x1, x2, y1, y2, hb0⟩ := boxes2 w (.slice a1 n1 c1) (.slice a2 n2 c2) (.slice none 0 0) (.slice none 0 0) 32 32
  have HS := Lib.hid hs
  have HH1 := Lib.hid (H1.below hb0)
  have HH2 := Lib.hid (H2.below hb0)
  clear H1 H2 hs
  go_enter Try.func80, Try.ntmps80
  go_wp2_with fail
  generalize ((w.alloc (.cells #[.slice a1 n1 c1, .slice a2 n2 c2] 32)).alloc (.cells #[.slice none 0 0, .slice none 0 0] 32)) = W at *
  have lw : w.heap.size < W.heap.size := by rw [HS.out]; omega
  have lw1 : w.heap.size + 1 < W.heap.size := by rw [HS.out]; omega
  go_region_law (first | (refine step_append_holds (by rfl) _ _ 29 (by rfl) W.heap.size 36 i1 _ Try.underlying29 hi1 hy0 hy1 hy2 rfl _ 0 0 [] (by rfl) (empty_at (by first | exact one_a _ _ | exact one_b _ _ | exact two_a _ _ _ | exact two_b _ _ _ | exact empty_keep HG9.out (by first | exact two_a _ _ _ | exact two_b _ _ _) (by omega)) (by first | omega | (simp; done) | (simp; omega))) a1 n1 c1 l (by rfl) (HH1.out.below (by repeat (first | exact B9.out | with_reducible exact Below.refl _ _ | with_reducible refine belA ?_ _ | with_reducible refine Below.drew ?_))) (by omega) (Below.size (B := W.heap.size) (by repeat (first | exact B9.out | with_reducible exact Below.refl _ _ | with_reducible refine belA ?_ _ | with_reducible refine Below.drew ?_))) _ rfl ?_; intro g1 d1 w8 hown8 hgrow8 hat8 hlt8; have B8 : Hid (Below W.heap.size W w8) := Below.grown (by repeat (first | exact B9.out | with_reducible exact Below.refl _ _ | with_reducible refine belA ?_ _ | with_reducible refine Below.drew ?_)) hgrow8 (Below.size (B := W.heap.size) (by repeat (first | exact B9.out | with_reducible exact Below.refl _ _ | with_reducible refine belA ?_ _ | with_reducible refine Below.drew ?_))) (fun q e => by injection e with e; first | omega | (simp at e; omega)); have HO8 := Lib.hid hown8; have HG8 := Lib.hid hgrow8; have HA8 := Lib.hid hat8; have HL8 := Lib.hid hlt8; clear hown8 hgrow8 hat8 hlt8; have x18 := (B8.out.cell (p := ⟨w.heap.size, 0, none⟩) lw).trans x1; have x28 := (B8.out.cell (p := ⟨w.heap.size, 1, none⟩) lw).trans x2; have y18 := (B8.out.cell (p := ⟨w.heap.size + 1, 0, none⟩) lw1).trans y1; have y28 := (B8.out.cell (p := ⟨w.heap.size + 1, 1, none⟩) lw1).trans y2; have f18 := fz B8.out ⟨w.heap.size + 1, 0, none⟩ lw1 fy1; have f28 := fz B8.out ⟨w.heap.size + 1, 1, none⟩ lw1 fy2; have l8 : W.heap.size ≤ w8.heap.size := B8.out.size; have m8 : w.heap.size < w8.heap.size := Nat.lt_of_lt_of_le lw l8; have k8 : w.heap.size + 1 < w8.heap.size := Nat.lt_of_lt_of_le lw1 l8) | (refine step_append_holds (by rfl) _ _ 30 (by rfl) W.heap.size 44 i2 _ Try.underlying30 hi2 hv0 hv1 hv2 rfl _ 0 0 [] (by rfl) (empty_at (by first | exact one_a _ _ | exact one_b _ _ | exact two_a _ _ _ | exact two_b _ _ _ | exact empty_keep HG8.out (by first | exact two_a _ _ _ | exact two_b _ _ _) (by omega)) (by first | omega | (simp; done) | (simp; omega))) a2 n2 c2 m (by rfl) (HH2.out.below (by repeat (first | exact B8.out | with_reducible exact Below.refl _ _ | with_reducible refine belA ?_ _ | with_reducible refine Below.drew ?_))) (by omega) (Below.size (B := W.heap.size) (by repeat (first | exact B8.out | with_reducible exact Below.refl _ _ | with_reducible refine belA ?_ _ | with_reducible refine Below.drew ?_))) _ rfl ?_; intro g2 d2 w9 hown9 hgrow9 hat9 hlt9; have B9 : Hid (Below W.heap.size W w9) := Below.grown (by repeat (first | exact B8.out | with_reducible exact Below.refl _ _ | with_reducible refine belA ?_ _ | with_reducible refine Below.drew ?_)) hgrow9 (Below.size (B := W.heap.size) (by repeat (first | exact B8.out | with_reducible exact Below.refl _ _ | with_reducible refine belA ?_ _ | with_reducible refine Below.drew ?_))) (fun q e => by injection e with e; first | omega | (simp at e; omega)); have HO9 := Lib.hid hown9; have HG9 := Lib.hid hgrow9; have HA9 := Lib.hid hat9; have HL9 := Lib.hid hlt9; clear hown9 hgrow9 hat9 hlt9; have x19 := (B9.out.cell (p := ⟨w.heap.size, 0, none⟩) lw).trans x1; have x29 := (B9.out.cell (p := ⟨w.heap.size, 1, none⟩) lw).trans x2; have y19 := (B9.out.cell (p := ⟨w.heap.size + 1, 0, none⟩) lw1).trans y1; have y29 := (B9.out.cell (p := ⟨w.heap.size + 1, 1, none⟩) lw1).trans y2; have f19 := fz B9.out ⟨w.heap.size + 1, 0, none⟩ lw1 fy1; have f29 := fz B9.out ⟨w.heap.size + 1, 1, none⟩ lw1 fy2; have l9 : W.heap.size ≤ w9.heap.size := B9.out.size; have m9 : w.heap.size < w9.heap.size := Nat.lt_of_lt_of_le lw l9; have k9 : w.heap.size + 1 < w9.heap.size := Nat.lt_of_lt_of_le lw1 l9))
  all_goals (have c1 : w9.ownsRow W.heap.size 36 2 (.slice (some ⟨g1, 0, none⟩) (0 + n1) d1) (0 + n1) ([] ++ flat l) := own_keep (by first | exact HO8.out | exact HO8.out.alloc _) HG9.out (by have a8 := HA8.out; have b8 := HL8.out; simp [dh, ah] at a8; omega))
  all_goals (have n12 : g1 ≠ g2 := by have a8 := HA8.out; have b8 := HL8.out; have a9 := HA9.out; simp [dh, ah] at a8 a9; omega)
  all_goals (have k1 : g1 ≠ w.heap.size + 1 ∧ g2 ≠ w.heap.size + 1 := by have a8 := HA8.out; have b8 := HL8.out; have a9 := HA9.out; simp [dh, ah] at a8 a9; omega)
  all_goals (have HC1 := Lib.hid c1; have HN := Lib.hid n12; have HK := Lib.hid k1; clear c1 n12 k1)
  all_goals go_wp2_with fail
  all_goals (obtain ⟨z1, z2⟩ := set2_cells (u := .slice (some ⟨g1, 0, none⟩) n1 d1) (v := .slice (some ⟨g2, 0, none⟩) n2 d2) y19 y29)
  all_goals refine bodyPost_ret (v := .agg #[.slice (some ⟨g1, 0, none⟩) n1 d1, .slice (some ⟨g2, 0, none⟩) n2 d2]) (by simp [results, Try.results80, go_sem, z1, z2]) rfl ⟨g1, g2, d1, d2, rfl, ?_, ?_⟩
  all_goals first | exact fin HC1.out HO9.out HK.out.1 HK.out.2 HN.out hb0.size | exact (((hb0.trans (B9.out.mono hb0.size)).setCell (p := ⟨w.heap.size + 1, 0, none⟩) (Nat.le_succ _) _).setCell (p := ⟨w.heap.size + 1, 1, none⟩) (Nat.le_succ _) _)
end Go.Proofs.Ytknlackphdcflaa.OwnS
