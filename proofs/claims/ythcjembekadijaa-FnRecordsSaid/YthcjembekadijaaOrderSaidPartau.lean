/- The model's l2Own: a copy of a record. -/
import Derived.Test.YthcjembekadijaaOrderSaidPartas
import Derived.Test.YthcjembekadijaaOrderSaidPartat
import Derived.Test.YthcjembekadijaaOrderSaidPartak
import Derived.Deep.RegionLaw
namespace Go.Proofs.Ythcjembekadijaa.OwnS
open Go.RowKit Pairs Rec RecEq Keep Row2 Copy AppH Two Gives
set_option linter.unusedSimpArgs false in
set_option linter.unusedSimpArgs false in
theorem dh (X : World) : X.drew.heap = X.heap := rfl
theorem ah (X : World) (o : Obj) : (X.alloc o).heap = X.heap.push o := rfl
theorem one_a (X : World) (T : TypeId) : (X.alloc (.cells #[] T)).drew.heap[X.heap.size]? = some (.cells #[] T) := heap_alloc_new X _
theorem one_b (X : World) (T : TypeId) : (X.alloc (.cells #[] T)).heap[X.heap.size]? = some (.cells #[] T) := heap_alloc_new X _
theorem two_a (X : World) (T U : TypeId) : ((X.alloc (.cells #[] T)).alloc (.cells #[] U)).drew.heap[X.heap.size + 1]? = some (.cells #[] U) := by
  have h := heap_alloc_new (X.alloc (.cells #[] T)) (.cells #[] U)
  rw [show (X.alloc (.cells #[] T)).heap.size = X.heap.size + 1 by simp] at h
  exact h
theorem two_b (X : World) (T U : TypeId) : ((X.alloc (.cells #[] T)).alloc (.cells #[] U)).drew.heap[X.heap.size]? = some (.cells #[] T) :=
  (Below.heap_alloc (X.alloc (.cells #[] T)) (.cells #[] U) X.heap.size (by simp)).trans (heap_alloc_new X _)
theorem own_off {g k n c : Nat} (h : g ≠ k) : (Value.slice (some ⟨g, 0, none⟩) n c).ownBlock ≠ some k := by
  intro e
  exact h (by simpa [Value.ownBlock] using e)
theorem fin {w W w9 : World} {g1 g2 n1 n2 d1 d2 : Nat} {l m : List (Int × Int)} {u v : Value} (h1 : w9.ownsRow W.heap.size 55 2 (.slice (some ⟨g1, 0, none⟩) (0 + n1) d1) (0 + n1) ([] ++ flat l)) (h2 : w9.ownsRow W.heap.size 39 2 (.slice (some ⟨g2, 0, none⟩) (0 + n2) d2) (0 + n2) ([] ++ flat m))
    (q1 : g1 ≠ w.heap.size + 1) (q2 : g2 ≠ w.heap.size + 1) (hne : g1 ≠ g2) (hW : w.heap.size ≤ W.heap.size) : Own ((w9.setCell ⟨w.heap.size + 1, 0, none⟩ u).setCell ⟨w.heap.size + 1, 1, none⟩ v) w.heap.size g1 n1 d1 g2 n2 d2 l m := by
  rw [Nat.zero_add, List.nil_append] at h1 h2
  exact ⟨ownsRow_base (setCell_far (setCell_far h1 (own_off q1)) (own_off q1)) hW, ownsRow_base (setCell_far (setCell_far h2 (own_off q2)) (own_off q2)) hW, hne⟩
theorem belA {W X : World} (h : Below W.heap.size W X) (o : Obj) : Below W.heap.size W (X.alloc o) := h.alloc h.size o
theorem empty_at {X : World} {k B : Nat} {T : TypeId} (h : X.heap[k]? = some (.cells #[] T)) (hB : B ≤ k) : X.ownsRow B T 2 (.slice (some ⟨k, 0, none⟩) 0 0) 0 [] :=
  ⟨rfl, .inr ⟨k, 0, #[], rfl, hB, h, Nat.le_refl _, by unfold maxLen; omega, rfl, rfl⟩⟩
theorem empty_keep {X Y : World} {k g : Nat} {T : TypeId} (hg : X.grownBy Y (some g)) (h : X.heap[k]? = some (.cells #[] T)) (hne : k ≠ g) : Y.heap[k]? = some (.cells #[] T) :=
  (hg.block k (Array.getElem?_eq_some_iff.1 h).1 (fun e => hne (by injection e))).trans h
theorem own_keep {X Y : World} {B k n d r : Nat} {T : TypeId} {xs : List Value} (h : X.ownsRow B T 2 (.slice (some ⟨k, 0, none⟩) n d) n xs) (hg : X.grownBy Y (some r)) (hne : k ≠ r) : Y.ownsRow B T 2 (.slice (some ⟨k, 0, none⟩) n d) n xs := by
  refine ⟨h.1, ?_⟩
  rcases h.2 with ⟨e, _⟩ | ⟨g, cap, cur, e, hb, hh, rest⟩
  · cases e
  · have hk : k = g := by injection e with e; injection e with e; injection e
    subst hk
    exact .inr ⟨k, cap, cur, e, hb, (hg.block k (Array.getElem?_eq_some_iff.1 hh).1 (fun e => hne (by injection e))).trans hh, rest⟩
set_option maxRecDepth 100000 in
set_option maxHeartbeats 4000000 in
theorem l2Own_any (a1 a2 : Option Addr) (n1 c1 n2 c2 : Nat) (l m : List (Int × Int)) (h1 : n1 ≤ 1048576) (h2 : n2 ≤ 1048576) (w : World) (H1 : Holds w a1 n1 l) (H2 : Holds w a2 n2 m) :
    Calls Try.prog 126 #[.agg #[.slice a1 n1 c1, .slice a2 n2 c2]] w fun e w' => ∃ g1 g2 d1 d2 : Nat, e = .returned (.agg #[.slice (some ⟨g1, 0, none⟩) n1 d1, .slice (some ⟨g2, 0, none⟩) n2 d2]) ∧ Own w' w.heap.size g1 n1 d1 g2 n2 d2 l m ∧ Below w.heap.size w w' := by
  obtain ⟨i1, hi1, hy0, hy1, hy2⟩ := info_parts infoContext
  obtain ⟨i2, hi2, hv0, hv1, hv2⟩ := info_parts infoRelation
  obtain ⟨fy1, fy2⟩ := fz_box2 w (.slice a1 n1 c1) (.slice a2 n2 c2) (.slice none 0 0) (.slice none 0 0) 27 27
  obtain ⟨hs, x1, x2, y1, y2, hb0⟩ := boxes2 w (.slice a1 n1 c1) (.slice a2 n2 c2) (.slice none 0 0) (.slice none 0 0) 27 27
  have HS := Lib.hid hs
  have HH1 := Lib.hid (H1.below hb0)
  have HH2 := Lib.hid (H2.below hb0)
  clear H1 H2 hs
  go_enter Try.func126, Try.ntmps126
  go_wp2_with fail
  generalize ((w.alloc (.cells #[.slice a1 n1 c1, .slice a2 n2 c2] 27)).alloc (.cells #[.slice none 0 0, .slice none 0 0] 27)) = W at *
  have lw : w.heap.size < W.heap.size := by rw [HS.out]; omega
  have lw1 : w.heap.size + 1 < W.heap.size := by rw [HS.out]; omega
  go_region_law (first | (refine step_append_holds (by rfl) _ _ 24 (by rfl) W.heap.size 55 i1 _ Try.underlying24 hi1 hy0 hy1 hy2 rfl _ 0 0 [] (by rfl) (empty_at (by first | exact one_a _ _ | exact one_b _ _ | exact two_a _ _ _ | exact two_b _ _ _ | exact empty_keep HG9.out (by first | exact two_a _ _ _ | exact two_b _ _ _) (by omega)) (by first | omega | (simp; done) | (simp; omega))) a1 n1 c1 l (by rfl) (HH1.out.below (by repeat (first | exact B9.out | with_reducible exact Below.refl _ _ | with_reducible refine belA ?_ _ | with_reducible refine Below.drew ?_))) (by omega) (Below.size (B := W.heap.size) (by repeat (first | exact B9.out | with_reducible exact Below.refl _ _ | with_reducible refine belA ?_ _ | with_reducible refine Below.drew ?_))) _ rfl ?_; intro g1 d1 w8 hown8 hgrow8 hat8 hlt8; have B8 : Hid (Below W.heap.size W w8) := Below.grown (by repeat (first | exact B9.out | with_reducible exact Below.refl _ _ | with_reducible refine belA ?_ _ | with_reducible refine Below.drew ?_)) hgrow8 (Below.size (B := W.heap.size) (by repeat (first | exact B9.out | with_reducible exact Below.refl _ _ | with_reducible refine belA ?_ _ | with_reducible refine Below.drew ?_))) (fun q e => by injection e with e; first | omega | (simp at e; omega)); have HO8 := Lib.hid hown8; have HG8 := Lib.hid hgrow8; have HA8 := Lib.hid hat8; have HL8 := Lib.hid hlt8; clear hown8 hgrow8 hat8 hlt8; have x18 := (B8.out.cell (p := ⟨w.heap.size, 0, none⟩) lw).trans x1; have x28 := (B8.out.cell (p := ⟨w.heap.size, 1, none⟩) lw).trans x2; have y18 := (B8.out.cell (p := ⟨w.heap.size + 1, 0, none⟩) lw1).trans y1; have y28 := (B8.out.cell (p := ⟨w.heap.size + 1, 1, none⟩) lw1).trans y2; have f18 := fz B8.out ⟨w.heap.size + 1, 0, none⟩ lw1 fy1; have f28 := fz B8.out ⟨w.heap.size + 1, 1, none⟩ lw1 fy2; have l8 : W.heap.size ≤ w8.heap.size := B8.out.size; have m8 : w.heap.size < w8.heap.size := Nat.lt_of_lt_of_le lw l8; have k8 : w.heap.size + 1 < w8.heap.size := Nat.lt_of_lt_of_le lw1 l8) | (refine step_append_holds (by rfl) _ _ 25 (by rfl) W.heap.size 39 i2 _ Try.underlying25 hi2 hv0 hv1 hv2 rfl _ 0 0 [] (by rfl) (empty_at (by first | exact one_a _ _ | exact one_b _ _ | exact two_a _ _ _ | exact two_b _ _ _ | exact empty_keep HG8.out (by first | exact two_a _ _ _ | exact two_b _ _ _) (by omega)) (by first | omega | (simp; done) | (simp; omega))) a2 n2 c2 m (by rfl) (HH2.out.below (by repeat (first | exact B8.out | with_reducible exact Below.refl _ _ | with_reducible refine belA ?_ _ | with_reducible refine Below.drew ?_))) (by omega) (Below.size (B := W.heap.size) (by repeat (first | exact B8.out | with_reducible exact Below.refl _ _ | with_reducible refine belA ?_ _ | with_reducible refine Below.drew ?_))) _ rfl ?_; intro g2 d2 w9 hown9 hgrow9 hat9 hlt9; have B9 : Hid (Below W.heap.size W w9) := Below.grown (by repeat (first | exact B8.out | with_reducible exact Below.refl _ _ | with_reducible refine belA ?_ _ | with_reducible refine Below.drew ?_)) hgrow9 (Below.size (B := W.heap.size) (by repeat (first | exact B8.out | with_reducible exact Below.refl _ _ | with_reducible refine belA ?_ _ | with_reducible refine Below.drew ?_))) (fun q e => by injection e with e; first | omega | (simp at e; omega)); have HO9 := Lib.hid hown9; have HG9 := Lib.hid hgrow9; have HA9 := Lib.hid hat9; have HL9 := Lib.hid hlt9; clear hown9 hgrow9 hat9 hlt9; have x19 := (B9.out.cell (p := ⟨w.heap.size, 0, none⟩) lw).trans x1; have x29 := (B9.out.cell (p := ⟨w.heap.size, 1, none⟩) lw).trans x2; have y19 := (B9.out.cell (p := ⟨w.heap.size + 1, 0, none⟩) lw1).trans y1; have y29 := (B9.out.cell (p := ⟨w.heap.size + 1, 1, none⟩) lw1).trans y2; have f19 := fz B9.out ⟨w.heap.size + 1, 0, none⟩ lw1 fy1; have f29 := fz B9.out ⟨w.heap.size + 1, 1, none⟩ lw1 fy2; have l9 : W.heap.size ≤ w9.heap.size := B9.out.size; have m9 : w.heap.size < w9.heap.size := Nat.lt_of_lt_of_le lw l9; have k9 : w.heap.size + 1 < w9.heap.size := Nat.lt_of_lt_of_le lw1 l9))
  all_goals (have c1 : w9.ownsRow W.heap.size 55 2 (.slice (some ⟨g1, 0, none⟩) (0 + n1) d1) (0 + n1) ([] ++ flat l) := own_keep (by first | exact HO8.out | exact HO8.out.alloc _) HG9.out (by have a8 := HA8.out; have b8 := HL8.out; simp [dh, ah] at a8; omega))
  all_goals (have n12 : g1 ≠ g2 := by have a8 := HA8.out; have b8 := HL8.out; have a9 := HA9.out; simp [dh, ah] at a8 a9; omega)
  all_goals (have k1 : g1 ≠ w.heap.size + 1 ∧ g2 ≠ w.heap.size + 1 := by have a8 := HA8.out; have b8 := HL8.out; have a9 := HA9.out; simp [dh, ah] at a8 a9; omega)
  all_goals (have HC1 := Lib.hid c1; have HN := Lib.hid n12; have HK := Lib.hid k1; clear c1 n12 k1)
  all_goals go_wp2_with fail
  all_goals (obtain ⟨z1, z2⟩ := set2_cells (u := .slice (some ⟨g1, 0, none⟩) n1 d1) (v := .slice (some ⟨g2, 0, none⟩) n2 d2) y19 y29)
  all_goals refine bodyPost_ret (v := .agg #[.slice (some ⟨g1, 0, none⟩) n1 d1, .slice (some ⟨g2, 0, none⟩) n2 d2]) (by simp [results, Try.results126, go_sem, z1, z2]) rfl ⟨g1, g2, d1, d2, rfl, ?_, ?_⟩
  all_goals first | exact fin HC1.out HO9.out HK.out.1 HK.out.2 HN.out hb0.size | exact (((hb0.trans (B9.out.mono hb0.size)).setCell (p := ⟨w.heap.size + 1, 0, none⟩) (Nat.le_succ _) _).setCell (p := ⟨w.heap.size + 1, 1, none⟩) (Nat.le_succ _) _)
end Go.Proofs.Ythcjembekadijaa.OwnS
/- slices.Delete of one context. -/
namespace Go.Proofs.Ythcjembekadijaa.DelC
open Go.RowKit Pairs Rec Keep Row2 Copy

theorem run_clear1 {P : Program} (w : World) (t e ty : TypeId) (ht : P.underlying t = some (.slice e)) (hv : ∀ w, (zeroValue e).run P w = .ok (.agg #[.int .i64 0, .int .i64 0]) w) (b o c : Nat)
    (hc : ∀ j, j < 2 → (w.cell? ⟨b, o + j, none⟩).isSome = true) (hf : ∀ j, j < 2 → w.frozen? ⟨b, o + j, none⟩ = false) :
    (Builtin.clear_ #[t] ty #[.slice (some ⟨b, o, none⟩) 1 c]).run P w = .ok (.tuple #[]) (w.setCells b o [.int .i64 0, .int .i64 0]) := by
  have hzc : (Builtin.zeroCells (Value.agg #[.int .i64 0, .int .i64 0]).cells 1).toList = [.int .i64 0, .int .i64 0] := by kernel_rfl
  have hst := run_storeCells_cells (P := P) b o [.int .i64 0, .int .i64 0] 0 w (by simpa using hc) (by simpa using hf) (by intro v hv'; simp at hv'; subst hv'; rfl)
  simp only [Nat.add_zero] at hst
  simp [Builtin.clear_, run_underlying ht, hv, hzc, hst]
theorem setCells_row {w : World} {g o : Nat} {vs cur : List Value} {T : TypeId} (hg : w.heap[g]? = some (.cells cur.toArray T)) (h : o + vs.length ≤ cur.length) (h1 : ∀ v ∈ vs, v.oneCell' = true) : w.setCells g o vs = w.setRow g (splice cur o vs).toArray := by
  have a := run_storeCells_at Try.prog g o T vs 0 cur.toArray w hg (by simpa using h) h1
  have c : ∀ j, j < vs.length → (w.cell? ⟨g, o + j, none⟩).isSome = true := fun j hj => by simp [World.cell?, hg]; omega
  have b := run_storeCells_cells (P := Try.prog) g o vs 0 w (by simpa using c) (fun j _ => by simp [World.frozen?, hg]) h1
  rw [a] at b
  injection b with _ b
  simp only [Nat.add_zero] at b
  rw [← b]
  unfold splice
  simp
theorem flat_app (l1 l2 : List (Int × Int)) : flat (l1 ++ l2) = flat l1 ++ flat l2 := by unfold flat; rw [List.flatMap_append]
theorem kept_drew {S : Nat → Prop} (w : World) : Kept S w w.drew := ⟨rfl, rfl, rfl, Nat.le_refl _, fun _ _ _ => rfl⟩
theorem kept_setCells {S : Nat → Prop} {w w' : World} (h : Kept S w w') {g : Nat} (hg : S g) : ∀ {o : Nat} (vs : List Value), Kept S w (w'.setCells g o vs) := by
  intro o vs
  induction vs generalizing w' o with
  | nil => exact h
  | cons v vs ih => exact ih (h.setCell hg v)
theorem zeroContext : ∀ w, (zeroValue 55).run Try.prog w = .ok (.agg #[.int .i64 0, .int .i64 0]) w := Try.zeroValue55
set_option maxRecDepth 1000000 in
set_option maxHeartbeats 4000000 in
theorem delete_any (g i r : Nat) (l1 l2 : List (Int × Int)) (x : Int × Int) (hl1 : l1.length = i) (hl2 : l2.length = r) (hn : i + 1 + r ≤ 1048576) (w : World) (h : w.heap[g]? = some (.cells (flat (l1 ++ x :: l2)).toArray 55)) :
    Calls Try.prog 84 #[.slice (some ⟨g, 0, none⟩) (i + 1 + r) (i + 1 + r), .int .i64 i, .int .i64 ((i : Int) + 1)] w fun e w' => e = .returned (.slice (some ⟨g, 0, none⟩) (i + r) (i + 1 + r)) ∧
      w'.heap[g]? = some (.cells (flat (l1 ++ l2) ++ [Value.int .i64 0, Value.int .i64 0]).toArray 55) ∧ Kept (fun b => b = g) w w' := by
  obtain ⟨i0, hi, hy0, hy1, hy2⟩ := info_parts infoContext
  have hlen : (flat (l1 ++ x :: l2)).length = (i + 1 + r) * 2 := by rw [flat_len]; simp; omega
  have HH := Lib.hid h
  have HLEN := Lib.hid hlen
  have hfl : flat (l1 ++ x :: l2) = flat l1 ++ (.int .i64 x.1 :: .int .i64 x.2 :: flat l2) := by rw [flat_app, flat_cons]
  have hf1 : (flat l1).length = i * 2 := by rw [flat_len, hl1]
  have hf2 : (flat l2).length = r * 2 := by rw [flat_len, hl2]
  obtain ⟨A, hA, HC⟩ : ∃ A : Addr, (if r = 0 then some (⟨g, 0, none⟩ : Addr) else some ⟨g, (i + 1) * 2, none⟩) = some A ∧ Hid (∀ j u, (flat l2)[j]? = some u → w.drew.cell? (A.add j) = some u) := by
    by_cases hr : r = 0
    · refine ⟨_, if_pos hr, fun j u hu => ?_⟩
      have h0 : (flat l2).length = 0 := by omega
      rw [List.length_eq_zero_iff.1 h0] at hu
      simp at hu
    · refine ⟨_, if_neg hr, fun j u hj => ?_⟩
      rw [Addr.add_lit]
      show w.cell? _ = some u
      simp only [World.cell?, h]
      rw [List.getElem?_toArray, hfl, List.getElem?_append_right (by omega), hf1, show (i + 1) * 2 + j - i * 2 = j + 2 by omega]
      exact hj
  have HS : Hid (∀ j, j < (flat l2).length → (w.drew.cell? ⟨g, 0 + i * 2 + j, none⟩).isSome = true ∧ w.drew.frozen? ⟨g, 0 + i * 2 + j, none⟩ = false) := by
    intro j hj
    have h' : w.drew.heap[g]? = some (.cells (flat (l1 ++ x :: l2)).toArray 55) := h
    constructor
    · simp only [World.cell?, h', List.getElem?_toArray]
      rw [List.getElem?_eq_getElem (by rw [hlen]; omega)]
      rfl
    · simp only [World.frozen?, h']
      rfl
  have HF2 := Lib.hid hf2
  have HF1 := Lib.hid hf1
  have HFL := Lib.hid hfl
  clear h hlen hf1 hf2 hfl
  have hne : ((i : Int) == (i : Int) + 1) = false := by rw [beq_eq_false_iff_ne]; omega
  have hwr : IntKind.i64.wrap ((i : Int) + 1) = (i : Int) + 1 := by rw [IntKind.wrap_i64]; omega
  go_enter Try.func84, Try.ntmps84
  go_wp2_with fail
  have hp1 : (i : Int) ≤ (i : Int) + 1 + (r : Int) := by omega
  have hp2 : (0 : Int) ≤ (i : Int) + 1 := by omega
  have hp3 : (i : Int) + 1 ≤ (i : Int) + 1 + (r : Int) := by omega
  have hp4 : ((i : Int) + 1).toNat = i + 1 := by omega
  go_region_law (refine step_append_room rfl (.tmp 22) (.tmp 25) 24 rfl 55 i0 2 Try.underlying24 hi hy1 g 0 i (i + 1 + r) (by simp [Act.eval, Act.put]) A r (i + 1 + r - (i + 1)) (flat l2) (by simp [Act.eval, Act.put]) HF2.out HC.out (flat_one l2) (by omega) HS.out ?_)
  have HG1 : Hid ((w.drew.setCells g (i * 2) (flat l2)).heap[g]? = some (.cells (splice (flat (l1 ++ x :: l2)) (i * 2) (flat l2)).toArray 55)) := by
    have h' : w.drew.heap[g]? = some (.cells (flat (l1 ++ x :: l2)).toArray 55) := HH.out
    unfold Hid
    rw [setCells_row h' (by rw [HF2.out, HLEN.out]; omega) (flat_one l2)]
    exact setRow_heap _ _ _ _ _ _ h'
  have HK1 : Hid (Kept (fun b => b = g) w (w.drew.setCells g (i * 2) (flat l2))) := kept_setCells (S := fun b => b = g) (kept_drew w) (g := g) rfl _
  have HE1 : Hid (splice (flat (l1 ++ x :: l2)) (i * 2) (flat l2) = flat (l1 ++ l2) ++ (flat (l1 ++ x :: l2)).drop ((i + r) * 2)) := by
    unfold Hid splice
    rw [HF2.out, HFL.out, List.take_append_of_le_length (by rw [HF1.out]; omega), List.take_of_length_le (by rw [HF1.out]; omega), flat_app, List.append_assoc, show i * 2 + r * 2 = (i + r) * 2 by omega]
  generalize w.drew.setCells g (i * 2) (flat l2) = W1 at *
  have HG1' := HG1.out
  rw [HE1.out] at HG1'
  have HG2 := Lib.hid HG1'
  have HD : Hid (((flat (l1 ++ x :: l2)).drop ((i + r) * 2)).length = 2) := by unfold Hid; rw [List.length_drop, HLEN.out]; omega
  have HF3 : Hid ((flat (l1 ++ l2)).length = (i + r) * 2) := by unfold Hid; rw [flat_len, List.length_append, hl1, hl2]
  have hcl : ∀ c ty, (Builtin.clear_ #[24] ty #[.slice (some ⟨g, (i + r) * 2, none⟩) 1 c]).run Try.prog W1 = .ok (.tuple #[]) (W1.setCells g ((i + r) * 2) [.int .i64 0, .int .i64 0]) := by
    intro c ty
    refine run_clear1 W1 _ _ ty Try.underlying24 zeroContext g _ c (fun j hj => ?_) (fun j hj => ?_)
    · simp only [World.cell?, HG2.out, List.getElem?_toArray]
      rw [List.getElem?_eq_getElem (by rw [List.length_append, HF3.out, HD.out]; omega)]
      rfl
    · simp only [World.frozen?, HG2.out]
      rfl
  have HG3 : Hid ((W1.setCells g ((i + r) * 2) [.int .i64 0, .int .i64 0]).heap[g]? = some (.cells (flat (l1 ++ l2) ++ [Value.int .i64 0, Value.int .i64 0]).toArray 55)) := by
    have e : splice (flat (l1 ++ l2) ++ (flat (l1 ++ x :: l2)).drop ((i + r) * 2)) ((i + r) * 2) [Value.int .i64 0, Value.int .i64 0] = flat (l1 ++ l2) ++ [Value.int .i64 0, Value.int .i64 0] := by
      unfold splice
      rw [← HF3.out, List.take_left, List.drop_of_length_le (by rw [List.length_append, HF3.out, HD.out]; simp), List.append_nil]
    unfold Hid
    rw [setCells_row HG2.out (by rw [List.length_append, HF3.out, HD.out]; simp) (by intro v hv; simp at hv; subst hv; rfl), e]
    exact setRow_heap _ _ _ _ _ _ HG2.out
  have HK2 : Hid (Kept (fun b => b = g) w (W1.setCells g ((i + r) * 2) [.int .i64 0, .int .i64 0])) := kept_setCells (S := fun b => b = g) HK1.out (g := g) rfl _
  clear HG1'
  go_wp2_with fail
  have e1 : i + 1 + r - (i + r) = 1 := by omega
  rw [e1, hcl]
  clear hcl
  generalize W1.setCells g ((i + r) * 2) [.int .i64 0, .int .i64 0] = W2 at *
  go_wp2_with fail
  go_ret
  exact ⟨rfl, HG3.out, HK2.out⟩
end Go.Proofs.Ythcjembekadijaa.DelC
