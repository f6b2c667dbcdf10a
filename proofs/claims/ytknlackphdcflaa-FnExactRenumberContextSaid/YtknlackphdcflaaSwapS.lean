/- The model's l2Swap: a record whose relations name another number. -/
import Derived.Test.YtknlackphdcflaaLink2
import Derived.Test.YtknlackphdcflaaSwapM
namespace Go.Proofs.Ytknlackphdcflaa.SwapS
open Go.RowKit Pairs Rec RecEq Find2 GoodM RelM Keep Row2 Copy AppH Two Gives PSrc SwapM LawKit
open OwnS (empty_at own_off)
/-- A record under way in a box; its rows lie apart and outside of the box. -/
structure Sw (E wr : World) (gb : Nat) (v1 v2 : Value) (n1 k2 : Nat) (L1 L2 : List (Int × Int)) : Prop where
  box : wr.heap[gb]? = some (.cells #[v1, v2] 32)
  ctx : wr.ownsRow E.heap.size 36 2 v1 n1 (flat L1)
  rel : wr.ownsRow E.heap.size 44 2 v2 k2 (flat L2)
  n1b : v1.ownBlock ≠ some gb
  n2b : v2.ownBlock ≠ some gb
  ne : ∀ g, v1.ownBlock = some g → v2.ownBlock ≠ some g
  bel : Below E.heap.size E wr
theorem Sw.cells {E wr : World} {gb : Nat} {v1 v2 : Value} {n1 k2 : Nat} {L1 L2 : List (Int × Int)} (h : Sw E wr gb v1 v2 n1 k2 L1 L2) : wr.cell? ⟨gb, 0, none⟩ = some v1 ∧ wr.cell? ⟨gb, 1, none⟩ = some v2 ∧ wr.frozen? ⟨gb, 0, none⟩ = false ∧ wr.frozen? ⟨gb, 1, none⟩ = false ∧ gb < wr.heap.size := by
  have hb := h.box
  refine ⟨by simp [World.cell?, hb], by simp [World.cell?, hb], by simp only [World.frozen?, hb]; rfl, by simp only [World.frozen?, hb]; rfl, (Array.getElem?_eq_some_iff.1 hb).1⟩
theorem Sw.below {E wr w' : World} {gb : Nat} {v1 v2 : Value} {n1 k2 : Nat} {L1 L2 : List (Int × Int)} (h : Sw E wr gb v1 v2 n1 k2 L1 L2) (hb : Below wr.heap.size wr w') : Sw E w' gb v1 v2 n1 k2 L1 L2 :=
  ⟨(hb.block gb h.cells.2.2.2.2).trans h.box, ownsRow_below h.ctx hb, ownsRow_below h.rel hb, h.n1b, h.n2b, h.ne, h.bel.trans (hb.mono h.bel.size)⟩
/-- The answer of a call takes the place of the record under way. -/
theorem Sw.next {E wr w' : World} {gb : Nat} {v1 v2 : Value} {n1 k2 : Nat} {L1 L2 : List (Int × Int)} (h : Sw E wr gb v1 v2 n1 k2 L1 L2) (hgb : E.heap.size ≤ gb) {g1 d1 g2 r2 d2 : Nat} {M : List (Int × Int)} (o : Own w' wr.heap.size g1 n1 d1 g2 r2 d2 L1 M) (hb : Below wr.heap.size wr w') :
    Sw E ((w'.setCell ⟨gb, 0, none⟩ (.slice (some ⟨g1, 0, none⟩) n1 d1)).setCell ⟨gb, 1, none⟩ (.slice (some ⟨g2, 0, none⟩) r2 d2)) gb (.slice (some ⟨g1, 0, none⟩) n1 d1) (.slice (some ⟨g2, 0, none⟩) r2 d2) n1 r2 L1 M := by
  have hlt := h.cells.2.2.2.2
  have l1 := (o.ctx.lt g1 rfl).1
  have l2 := (o.rel.lt g2 rfl).1
  have hs := h.bel.size
  have f1 : (Value.slice (some ⟨g1, 0, none⟩) n1 d1).ownBlock ≠ some gb := own_off (by omega)
  have f2 : (Value.slice (some ⟨g2, 0, none⟩) r2 d2).ownBlock ≠ some gb := own_off (by omega)
  refine ⟨(setCell_block (setCell_block ((hb.block gb hlt).trans h.box)).1).2, ownsRow_base (setCell_far (setCell_far o.ctx f1) f1) hs, ownsRow_base (setCell_far (setCell_far o.rel f2) f2) hs, f1, f2, (got_of_own o).ne, ?_⟩
  exact ((h.bel.trans (hb.mono hs)).setCell (p := ⟨gb, 0, none⟩) hgb _).setCell (p := ⟨gb, 1, none⟩) hgb _
theorem own_cap {T : TypeId} {w : World} {B g n c : Nat} {l : List (Int × Int)} (h : w.ownsRow B T 2 (.slice (some ⟨g, 0, none⟩) n c) n (flat l)) : n ≤ c := by
  rcases h.2 with ⟨e0, _⟩ | ⟨g0, cap0, cur, ev, hb, hg, hle, _⟩
  · cases e0
  · injection ev with _ _ e3
    omega
set_option maxRecDepth 100000 in
set_option maxHeartbeats 8000000 in
theorem l2Swap_any (o n : Int) (a1 a2 : Option Addr) (n1 c1 n2 c2 : Nat) (l m : List (Int × Int)) (h1 : n1 ≤ 1000000) (h2 : n2 ≤ 100000) (w : World) (H1 : Holds w a1 n1 l) (H2 : Holds w a2 n2 m) :
    Calls Try.prog 58 #[.agg #[.slice a1 n1 c1, .slice a2 n2 c2], .int .i64 o, .int .i64 n] w fun e w' => ∃ (g1 d1 : Nat) (b2 : Option Addr) (k2 d2 : Nat), k2 ≤ n2 ∧ e = .returned (.agg #[.slice (some ⟨g1, 0, none⟩) n1 d1, .slice b2 k2 d2]) ∧ Got w' w.heap.size (some ⟨g1, 0, none⟩) n1 d1 b2 k2 d2 l (swapM o n m) ∧ Below w.heap.size w w' := by
  obtain ⟨i1, hi1, hy0, hy1, hy2⟩ := info_parts infoContext
  obtain ⟨fy1, fy2⟩ := fz_box2 w (.slice a1 n1 c1) (.slice a2 n2 c2) (.slice none 0 0) (.slice none 0 0) 32 32
  obtain ⟨hs, x1, x2, y1, y2, hb0⟩ := boxes2 w (.slice a1 n1 c1) (.slice a2 n2 c2) (.slice none 0 0) (.slice none 0 0) 32 32
  have HS := Lib.hid hs
  have HH1 := Lib.hid (H1.below hb0)
  have HH2 := Lib.hid (H2.below hb0)
  clear H1 H2 hs
  have hE := OwnS.one_b ((w.alloc (.cells #[.slice a1 n1 c1, .slice a2 n2 c2] 32)).alloc (.cells #[.slice none 0 0, .slice none 0 0] 32)) 36
  rw [HS.out] at hE
  have hbE : Below (w.heap.size + 2) ((w.alloc (.cells #[.slice a1 n1 c1, .slice a2 n2 c2] 32)).alloc (.cells #[.slice none 0 0, .slice none 0 0] 32)) (((w.alloc (.cells #[.slice a1 n1 c1, .slice a2 n2 c2] 32)).alloc (.cells #[.slice none 0 0, .slice none 0 0] 32)).alloc (.cells #[] 36)) := by
    rw [← HS.out]
    exact below_alloc _ _
  have HBE := Lib.hid hbE
  have HE := Lib.hid (empty_at hE (Nat.le_refl _))
  have hsrc := (Src.of HH1.out).below (by rw [HS.out]; exact hbE)
  have HSRC := Lib.hid hsrc
  clear hE hsrc hbE
  go_enter Try.func58, Try.ntmps58
  go_wp2_with (at_builtin; refine wpList_append_src rfl (.tmp 10) (.tmp 12) 29 rfl (w.heap.size + 2) 36 i1 _ Try.underlying29 hi1 hy0 hy1 hy2 rfl (w.heap.size + 2) 0 0 [] rfl HE.out a1 n1 c1 l rfl HSRC.out (by omega) (by have := HBE.out.size; rw [HS.out] at this; exact this) _ rfl ?_; intro g1 d1 w1 hown1 hgrow1 hat1 hlt1)
  rw [Nat.zero_add, List.nil_append] at hown1
  generalize ((w.alloc (.cells #[.slice a1 n1 c1, .slice a2 n2 c2] 32)).alloc (.cells #[.slice none 0 0, .slice none 0 0] 32)) = W at *
  have hB1 : Below (w.heap.size + 2) W w1 := Below.grown HBE.out hgrow1 (by have := HBE.out.size; rw [HS.out] at this; exact this) (fun q e => by injection e with e; omega)
  have lw : w.heap.size < W.heap.size := by rw [HS.out]; omega
  have lw1 : w.heap.size + 1 < W.heap.size := by rw [HS.out]; omega
  have hgb : W.heap.size ≤ w1.heap.size := by have := hB1.size; omega
  rw [← HS.out] at hown1 hB1
  have hS0 : Sw W (w1.alloc (.cells #[.slice (some ⟨g1, 0, none⟩) n1 d1, .slice none 0 0] 32)) w1.heap.size (.slice (some ⟨g1, 0, none⟩) n1 d1) (.slice none 0 0) n1 0 l (swapM o n (m.take 0)) :=
    ⟨heap_alloc_new w1 _, ownsRow_below hown1 (below_alloc w1 _), World.ownsRow_nil _ _ _ _, own_off (by omega), (fun h => by cases h), (fun g _ h => by cases h), hB1.trans ((below_alloc w1 _).mono hB1.size)⟩
  have HGB := Lib.hid hgb
  clear hown1 hgrow1 hat1 hlt1 hB1 hgb
  go_loopw [8] (fun s8 wr => ∃ k : Nat, k ≤ n2 ∧ s8 = .int .i64 k ∧ ∃ (g1 d1 : Nat) (b2 : Option Addr) (k2 d2 : Nat), k2 ≤ k ∧ k2 ≤ d2 ∧ Sw W wr w1.heap.size (.slice (some ⟨g1, 0, none⟩) n1 d1) (.slice b2 k2 d2) n1 k2 l (swapM o n (m.take k))) (fun s8 _ => n2 - (intOf s8).toNat)
  case atStart => exact ⟨0, Nat.zero_le _, rfl, g1, d1, none, 0, 0, Nat.le_refl _, Nat.le_refl _, hS0⟩
  case round =>
    clear hS0
    obtain ⟨k, hk, rfl, g3, d3, b2, k2, d2, hk2, hkd, hS⟩ := hrel
    have p1 := (hS.bel.cell (p := ⟨w.heap.size, 0, none⟩) lw).trans x1
    have p2 := (hS.bel.cell (p := ⟨w.heap.size, 1, none⟩) lw).trans x2
    obtain ⟨o1, o2, o3, o4, o9⟩ := hS.cells
    by_cases hlt : k < n2
    · obtain ⟨b, off, x, y, rfl, hx, e1, e2⟩ := (HH2.out.below hS.bel).at k hlt
      have HX := Lib.hid (swap_next (o := o) (n := n) hx)
      have hkn : (k : Int) < (n2 : Int) := by omega
      have hk0 : (0 : Int) ≤ (k : Int) := by omega
      have HSW := Lib.hid hS
      clear hx hS
      have q1 := box_first wr (.int .i64 x) (.int .i64 y) 44
      have q2 := box_second wr (.int .i64 x) (.int .i64 y) 44
      have HS5 : Hid (∀ u v : Int, Sw W (wr.alloc (.cells #[.int .i64 u, .int .i64 v] 44)) w1.heap.size (.slice (some ⟨g3, 0, none⟩) n1 d3) (.slice b2 k2 d2) n1 k2 l (swapM o n (m.take k))) := fun u v => HSW.out.below (below_alloc wr _)
      have hoo : (o == o) = true := by simp
      by_cases hxo : x = o
      · subst hxo
        by_cases hyo : y = x
        · subst hyo
          have hnn : (n == n) = true := by simp
          have hnn2 : (n != n) = false := by simp
          have hr : rnp y n (y, y) = (n, n) := by unfold rnp; rw [rn_same]
          obtain ⟨f1, f2, f3, f4, f5⟩ := (HS5.out n n).cells
          have HM : Hid (swapM y n (m.take (k + 1)) = swapM y n (m.take k)) := by have h := HX.out; rw [hr] at h; rw [if_neg (by unfold nz; simp)] at h; exact h
          go_wp2_with fail
          exact ⟨⟨k + 1, by omega, by go_num, g3, d3, b2, k2, d2, by omega, hkd, by rw [HM.out]; exact HS5.out _ _⟩, by simp [intOf]; omega⟩
        · have hyy : (y == x) = false := beq_false_of_ne hyo
          have hr : rnp x n (x, y) = (n, y) := by unfold rnp; rw [rn_same, rn_other hyo]
          obtain ⟨f1, f2, f3, f4, f5⟩ := (HS5.out n y).cells
          by_cases hny : n = y
          · have HM : Hid (swapM x n (m.take (k + 1)) = swapM x n (m.take k)) := by have h := HX.out; rw [hr] at h; rw [if_neg (by unfold nz; simp [hny])] at h; exact h
            have hz1 : (n == y) = true := by simp [hny]
            have hz2 : (n != y) = false := by simp [hny]
            go_wp2_with fail
            exact ⟨⟨k + 1, by omega, by go_num, g3, d3, b2, k2, d2, by omega, hkd, by rw [HM.out]; exact HS5.out _ _⟩, by simp [intOf]; omega⟩
          · have HM : Hid (swapM x n (m.take (k + 1)) = link (swapM x n (m.take k)) (n, y)) := by have h := HX.out; rw [hr] at h; rw [if_pos (show nz (n, y) = true from decide_eq_true hny)] at h; exact h
            have hz1 : (n == y) = false := beq_false_of_ne hny
            have hz2 : (n != y) = true := by rw [bne, hz1]; rfl
            clear hr
            go_wp2_with fail
            refine (Link2.l2Link_any n y (some ⟨g3, 0, none⟩) b2 n1 d3 k2 d2 l (swapM x n (m.take k)) h1 (by omega) hkd _ (holds_own (HS5.out _ _).ctx) (holds_own (HS5.out _ _).rel)).mono ?_
            rintro e w5 ⟨r2, hr2, g5, g6, d5, d6, rfl, o5, b5⟩
            have hS6 := (HS5.out _ _).below b5
            obtain ⟨m1, m2, m3, m4, m5⟩ := hS6.cells
            have hN := (HS5.out _ _).next HGB.out o5 b5
            have HN := Lib.hid hN
            have hcap := own_cap o5.rel
            clear hS6 hN b5 f1 f2 f3 f4 f5 o1 o2 o3 o4 q1 q2
            go_wp2_with fail
            exact ⟨⟨k + 1, by omega, by go_num, g5, d5, some ⟨g6, 0, none⟩, r2, d6, by omega, hcap, by rw [HM.out]; exact HN.out⟩, by simp [intOf]; omega⟩
      · have hxx : (x == o) = false := beq_false_of_ne hxo
        by_cases hyo : y = o
        · subst hyo
          have hr : rnp y n (x, y) = (x, n) := by unfold rnp; rw [rn_same, rn_other hxo]
          obtain ⟨f1, f2, f3, f4, f5⟩ := (HS5.out x n).cells
          by_cases hny : x = n
          · have HM : Hid (swapM y n (m.take (k + 1)) = swapM y n (m.take k)) := by have h := HX.out; rw [hr] at h; rw [if_neg (by unfold nz; simp [hny])] at h; exact h
            have hz1 : (x == n) = true := by simp [hny]
            have hz2 : (x != n) = false := by simp [hny]
            go_wp2_with fail
            exact ⟨⟨k + 1, by omega, by go_num, g3, d3, b2, k2, d2, by omega, hkd, by rw [HM.out]; exact HS5.out _ _⟩, by simp [intOf]; omega⟩
          · have HM : Hid (swapM y n (m.take (k + 1)) = link (swapM y n (m.take k)) (x, n)) := by have h := HX.out; rw [hr] at h; rw [if_pos (show nz (x, n) = true from decide_eq_true hny)] at h; exact h
            have hz1 : (x == n) = false := beq_false_of_ne hny
            have hz2 : (x != n) = true := by rw [bne, hz1]; rfl
            clear hr
            go_wp2_with fail
            refine (Link2.l2Link_any x n (some ⟨g3, 0, none⟩) b2 n1 d3 k2 d2 l (swapM y n (m.take k)) h1 (by omega) hkd _ (holds_own (HS5.out _ _).ctx) (holds_own (HS5.out _ _).rel)).mono ?_
            rintro e w5 ⟨r2, hr2, g5, g6, d5, d6, rfl, o5, b5⟩
            have hS6 := (HS5.out _ _).below b5
            obtain ⟨m1, m2, m3, m4, m5⟩ := hS6.cells
            have hN := (HS5.out _ _).next HGB.out o5 b5
            have HN := Lib.hid hN
            have hcap := own_cap o5.rel
            clear hS6 hN b5 f1 f2 f3 f4 f5 o1 o2 o3 o4 q1 q2
            go_wp2_with fail
            exact ⟨⟨k + 1, by omega, by go_num, g5, d5, some ⟨g6, 0, none⟩, r2, d6, by omega, hcap, by rw [HM.out]; exact HN.out⟩, by simp [intOf]; omega⟩
        · have hyy : (y == o) = false := beq_false_of_ne hyo
          have hr : rnp o n (x, y) = (x, y) := by unfold rnp; rw [rn_other hxo, rn_other hyo]
          obtain ⟨f1, f2, f3, f4, f5⟩ := (HS5.out x y).cells
          by_cases hny : x = y
          · have HM : Hid (swapM o n (m.take (k + 1)) = swapM o n (m.take k)) := by have h := HX.out; rw [hr] at h; rw [if_neg (by unfold nz; simp [hny])] at h; exact h
            have hz1 : (x == y) = true := by simp [hny]
            have hz2 : (x != y) = false := by simp [hny]
            go_wp2_with fail
            exact ⟨⟨k + 1, by omega, by go_num, g3, d3, b2, k2, d2, by omega, hkd, by rw [HM.out]; exact HS5.out _ _⟩, by simp [intOf]; omega⟩
          · have HM : Hid (swapM o n (m.take (k + 1)) = link (swapM o n (m.take k)) (x, y)) := by have h := HX.out; rw [hr] at h; rw [if_pos (show nz (x, y) = true from decide_eq_true hny)] at h; exact h
            have hz1 : (x == y) = false := beq_false_of_ne hny
            have hz2 : (x != y) = true := by rw [bne, hz1]; rfl
            clear hr
            go_wp2_with fail
            refine (Link2.l2Link_any x y (some ⟨g3, 0, none⟩) b2 n1 d3 k2 d2 l (swapM o n (m.take k)) h1 (by omega) hkd _ (holds_own (HS5.out _ _).ctx) (holds_own (HS5.out _ _).rel)).mono ?_
            rintro e w5 ⟨r2, hr2, g5, g6, d5, d6, rfl, o5, b5⟩
            have hS6 := (HS5.out _ _).below b5
            obtain ⟨m1, m2, m3, m4, m5⟩ := hS6.cells
            have hN := (HS5.out _ _).next HGB.out o5 b5
            have HN := Lib.hid hN
            have hcap := own_cap o5.rel
            clear hS6 hN b5 f1 f2 f3 f4 f5 o1 o2 o3 o4 q1 q2
            go_wp2_with fail
            exact ⟨⟨k + 1, by omega, by go_num, g5, d5, some ⟨g6, 0, none⟩, r2, d6, by omega, hcap, by rw [HM.out]; exact HN.out⟩, by simp [intOf]; omega⟩
    · obtain rfl : k = n2 := by omega
      have HSW := Lib.hid hS
      have r1 := (hS.bel.cell (p := ⟨w.heap.size + 1, 0, none⟩) lw1).trans y1
      have r2 := (hS.bel.cell (p := ⟨w.heap.size + 1, 1, none⟩) lw1).trans y2
      have t1 := fz hS.bel ⟨w.heap.size + 1, 0, none⟩ lw1 fy1
      have t2 := fz hS.bel ⟨w.heap.size + 1, 1, none⟩ lw1 fy2
      clear hS
      go_wp2_with fail
      obtain ⟨z1, z2⟩ := set2_cells (u := .slice (some ⟨g3, 0, none⟩) n1 d3) (v := .slice b2 k2 d2) r1 r2
      refine bodyPost_ret (v := .agg #[.slice (some ⟨g3, 0, none⟩) n1 d3, .slice b2 k2 d2]) (by simp [results, Try.results58, go_sem, z1, z2]) rfl ⟨g3, d3, b2, k2, d2, by omega, rfl, ?_, ?_⟩
      · have hl : m.take k = m := List.take_of_length_le (by rw [HH2.out.1]; exact Nat.le_refl _)
        have C1 := HSW.out.ctx
        have C2 := HSW.out.rel
        rw [hl] at C2
        have f1 : (Value.slice (some ⟨g3, 0, none⟩) n1 d3).ownBlock ≠ some (w.heap.size + 1) := own_off (by have := (C1.lt g3 rfl).1; omega)
        have f2 : (Value.slice b2 k2 d2).ownBlock ≠ some (w.heap.size + 1) := fun e => by have := (C2.lt _ e).1; omega
        have hW : w.heap.size ≤ W.heap.size := by omega
        exact ⟨ownsRow_base (setCell_far (setCell_far C1 f1) f1) hW, ownsRow_base (setCell_far (setCell_far C2 f2) f2) hW, HSW.out.ne⟩
      · exact (((hb0.trans (HSW.out.bel.mono hb0.size))).setCell (p := ⟨w.heap.size + 1, 0, none⟩) (Nat.le_succ _) _).setCell (p := ⟨w.heap.size + 1, 1, none⟩) (Nat.le_succ _) _
end Go.Proofs.Ytknlackphdcflaa.SwapS
