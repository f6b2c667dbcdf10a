/- The program's RemoveRelation: a record without a relation. -/
import Derived.Test.YtldalomoojhbkabRemRS
import Derived.Test.YtldalomoojhbkabDelR
import Derived.Test.YtldalomoojhbkabAvr
namespace Go.Proofs.Ytldalomoojhbkab.RemR
open Go.RowKit Pairs Rec RecEq Find2 GoodM RelM Keep Row2 Copy Two Gives Eq2 RemRS
theorem block_of_own {T : TypeId} {w : World} {B g n : Nat} {l : List (Int × Int)} (h : w.ownsRow B T 2 (.slice (some ⟨g, 0, none⟩) n n) n (flat l)) : w.heap[g]? = some (.cells (flat l).toArray T) := by
  rcases h.2 with ⟨hv, _⟩ | ⟨g', cap, cur, hv, _, hh, _, _, hs, ht⟩
  · cases hv
  · injection hv with h1 h2 h3
    injection h1 with h1
    injection h1 with h1 _ _
    subst h1 h3
    rw [hh]
    have e : cur.toList = flat l := by
      rw [← ht, List.take_of_length_le (by simp; omega)]
    rw [← e]
theorem own_of_take {X : World} {g n c B : Nat} {T : TypeId} {l : List (Int × Int)} {ys : List Value} (h : X.heap[g]? = some (.cells ys.toArray T)) (hc : ys.length = c * 2) (hl : l.length = n) (hn : n ≤ c) (hm : c ≤ 1048576) (ht : ys.take (n * 2) = flat l) (hB : B ≤ g) : X.ownsRow B T 2 (.slice (some ⟨g, 0, none⟩) n c) n (flat l) :=
  ⟨by rw [flat_len, hl], .inr ⟨g, c, ys.toArray, rfl, hB, h, hn, by unfold maxLen; omega, by simpa using hc, ht⟩⟩
/-- The relations of a valid record are no two the same. -/
theorem up_of_good {l m : List (Int × Int)} (h : good l m = true) : ∀ i x y, m[i]? = some x → m[i + 1]? = some y → before x y = true := by
  intro i x y hx hy
  unfold good at h
  simp only [Bool.and_eq_true, decide_eq_true_eq, List.all_eq_true, List.mem_range] at h
  have hl := (List.getElem?_eq_some_iff.1 hy).1
  have hk := h.2 (i + 1) hl
  unfold okR at hk
  rw [hy, Nat.add_sub_cancel, hx] at hk
  unfold before
  simp only [Bool.and_eq_true, Bool.or_eq_true, decide_eq_true_eq] at hk
  rcases hk.2 with h0 | h0
  · omega
  · exact decide_eq_true h0
theorem up_lt {m : List (Int × Int)} (h : ∀ i x y, m[i]? = some x → m[i + 1]? = some y → before x y = true) : ∀ (d i : Nat) (x y : Int × Int), m[i]? = some x → m[i + d + 1]? = some y → before x y = true
  | 0, i, x, y, hx, hy => h i x y hx hy
  | d + 1, i, x, y, hx, hy => by
    have hl : i + d + 1 < m.length := by
      have := (List.getElem?_eq_some_iff.1 hy).1
      omega
    have hz : m[i + d + 1]? = some m[i + d + 1] := List.getElem?_eq_getElem hl
    exact before_trans (up_lt h d i x _ hx hz) (h (i + d + 1) _ y hz hy)
theorem at_split {l m : List (Int × Int)} {u v : Int} {k : Nat} (hg : good l m = true) (hk : atR m u v = some k) : m = m.take k ++ (u, v) :: m.drop (k + 1) ∧ k < m.length ∧ m.take k ++ m.drop (k + 1) = m.filter (ne2 u v) ∧ (u, v) ∈ m := by
  have hU := up_lt (up_of_good hg)
  have hx := atR_mem hk
  have hl := (List.getElem?_eq_some_iff.1 hx).1
  refine ⟨?_, hl, ?_, List.mem_of_getElem? hx⟩
  · conv => lhs; rw [← List.take_append_drop k m, List.drop_eq_getElem_cons hl]
    rw [(List.getElem?_eq_some_iff.1 hx).2]
  · rw [← List.eraseIdx_eq_take_drop_succ]
    refine erase_filter (ne2 u v) hx (by unfold ne2; simp) ?_
    intro j y hj hy
    unfold ne2
    refine decide_eq_true ?_
    intro e
    subst e
    by_cases hjk : j < k
    · obtain ⟨d, rfl⟩ : ∃ d, k = j + d + 1 := ⟨k - j - 1, by omega⟩
      have := hU d j _ _ hy hx
      rw [before_irrefl] at this
      cases this
    · obtain ⟨d, rfl⟩ : ∃ d, j = k + d + 1 := ⟨j - k - 1, by omega⟩
      have := hU d k _ _ hx hy
      rw [before_irrefl] at this
      cases this
set_option maxRecDepth 100000 in
set_option maxHeartbeats 8000000 in
theorem impl_any (zu zv : Int) : Gives1 18 (.agg #[.int .i64 zu, .int .i64 zv]) (remR zu zv) := by
  intro a1 a2 n1 c1 n2 c2 l m w hz1 hz2 h1 h2
  obtain ⟨hs, x1, x2, x3, x4, y1, y2, fy1, fy2, hb0⟩ := boxes222 w (.slice a1 n1 c1) (.slice a2 n2 c2) (.int .i64 zu) (.int .i64 zv) (.slice none 0 0) (.slice none 0 0) 32 36 32
  have HS := Lib.hid hs
  have H1 := Lib.hid (h1.below hb0)
  have H2 := Lib.hid (h2.below hb0)
  clear h1 h2 hs
  go_enter Try.func18, Try.ntmps18
  go_wp2_with fail
  generalize ((w.alloc (.cells #[.slice a1 n1 c1, .slice a2 n2 c2] 32)).alloc (.cells #[.int .i64 zu, .int .i64 zv] 36)).alloc (.cells #[.slice none 0 0, .slice none 0 0] 32) = W at *
  have lw : w.heap.size < W.heap.size := by rw [HS.out]; omega
  have lw1 : w.heap.size + 1 < W.heap.size := by rw [HS.out]; omega
  have lw2 : w.heap.size + 2 < W.heap.size := by rw [HS.out]; omega
  refine (Avr.impl_any a1 a2 n1 c1 n2 c2 l m W hz1 hz2 H1.out H2.out).mono ?_
  rintro e w1 ⟨rfl, b1⟩
  have r1 := (b1.cell (p := ⟨w.heap.size, 0, none⟩) lw).trans x1
  have r2 := (b1.cell (p := ⟨w.heap.size, 1, none⟩) lw).trans x2
  have r3 := (b1.cell (p := ⟨w.heap.size + 1, 0, none⟩) lw1).trans x3
  have r4 := (b1.cell (p := ⟨w.heap.size + 1, 1, none⟩) lw1).trans x4
  have s1 := (b1.cell (p := ⟨w.heap.size + 2, 0, none⟩) lw2).trans y1
  have s2 := (b1.cell (p := ⟨w.heap.size + 2, 1, none⟩) lw2).trans y2
  have t1 := fz b1 ⟨w.heap.size + 2, 0, none⟩ lw2 fy1
  have t2 := fz b1 ⟨w.heap.size + 2, 1, none⟩ lw2 fy2
  have HB1 := Lib.hid (hb0.trans (b1.mono hb0.size))
  cases hg : good l m with
  | false =>
    have HE := Lib.hid (remR_none (u := zu) (v := zv) (l := l) (m := m) (by rw [hg]; simp))
    clear hg
    go_wp2_with fail
    obtain ⟨q1, q2⟩ := set2_cells (u := .slice none 0 0) (v := .slice none 0 0) s1 s2
    refine bodyPost_ret (v := .tuple #[.agg #[.slice none 0 0, .slice none 0 0], .bool false]) (by simp [results, Try.results18, go_sem, q1, q2]) rfl ?_
    rw [HE.out]
    exact ⟨none, 0, 0, none, 0, 0, rfl, Got.nil _ _, by omega, by omega, ((HB1.out.setCell (p := ⟨w.heap.size + 2, 0, none⟩) (by show _ ≤ w.heap.size + 2; omega) _).setCell (p := ⟨w.heap.size + 2, 1, none⟩) (by show _ ≤ w.heap.size + 2; omega) _)⟩
  | true =>
    have HV := Lib.hid hg
    clear hg
    go_wp2_with fail
    refine (index_any a2 n2 c2 m zu zv hz2 w1 (H2.out.below b1)).mono ?_
    rintro e w2 ⟨rfl, b2⟩
    have b12 := b1.trans (b2.mono b1.size)
    have r1 := (b12.cell (p := ⟨w.heap.size, 0, none⟩) lw).trans x1
    have r2 := (b12.cell (p := ⟨w.heap.size, 1, none⟩) lw).trans x2
    have s1 := (b12.cell (p := ⟨w.heap.size + 2, 0, none⟩) lw2).trans y1
    have s2 := (b12.cell (p := ⟨w.heap.size + 2, 1, none⟩) lw2).trans y2
    have t1 := fz b12 ⟨w.heap.size + 2, 0, none⟩ lw2 fy1
    have t2 := fz b12 ⟨w.heap.size + 2, 1, none⟩ lw2 fy2
    have HB2 := Lib.hid (hb0.trans (b12.mono hb0.size))
    clear r3 r4
    cases ha : atR m zu zv with
    | none =>
      have HE := Lib.hid (remR_none (u := zu) (v := zv) (l := l) (m := m) (fun h => atR_no ha h.2))
      rw [indexR_none ha]
      clear ha
      go_wp2_with fail
      obtain ⟨q1, q2⟩ := set2_cells (u := .slice none 0 0) (v := .slice none 0 0) s1 s2
      refine bodyPost_ret (v := .tuple #[.agg #[.slice none 0 0, .slice none 0 0], .bool false]) (by simp [results, Try.results18, go_sem, q1, q2]) rfl ?_
      rw [HE.out]
      exact ⟨none, 0, 0, none, 0, 0, rfl, Got.nil _ _, by omega, by omega, ((HB2.out.setCell (p := ⟨w.heap.size + 2, 0, none⟩) (by show _ ≤ w.heap.size + 2; omega) _).setCell (p := ⟨w.heap.size + 2, 1, none⟩) (by show _ ≤ w.heap.size + 2; omega) _)⟩
    | some k =>
      rw [indexR_some ha]
      obtain ⟨hl, hkl, hfil, hmem⟩ := at_split HV.out ha
      have HE := Lib.hid (remR_some HV.out hmem)
      obtain ⟨r, hr⟩ : ∃ r, n2 = k + 1 + r := ⟨n2 - (k + 1), by rw [← H2.out.1]; omega⟩
      have HL1 : Hid ((m.take k).length = k) := by unfold Hid; rw [List.length_take]; omega
      have HL2 : Hid ((m.drop (k + 1)).length = r) := by unfold Hid; rw [List.length_drop, H2.out.1]; omega
      have HFI := Lib.hid hfil
      have HSP := Lib.hid hl
      clear ha hl hfil hmem
      subst hr
      have hk0 : ¬ (k : Int) < 0 := by omega
      go_wp2_with fail
      refine (copyRecord_any a1 a2 n1 c1 (k + 1 + r) c2 l m hz1 hz2 w2 (H1.out.below b12) (H2.out.below b12)).mono ?_
      rintro e w3 ⟨g1, g2, rfl, o3, b3⟩
      have hg1 : w2.heap.size ≤ g1 ∧ g1 < w3.heap.size := o3.ctx.lt g1 rfl
      have hg2 : w2.heap.size ≤ g2 ∧ g2 < w3.heap.size := o3.rel.lt g2 rfl
      have hs1 := b12.size
      have hs2 := b3.size
      have hbk1 := block_of_own o3.ctx
      have hbk2 := block_of_own o3.rel
      have hg12 := o3.ne
      have b13 := b12.trans (b3.mono b12.size)
      have HB3 := Lib.hid (hb0.trans (b13.mono hb0.size))
      have s1 := (b13.cell (p := ⟨w.heap.size + 2, 0, none⟩) lw2).trans y1
      have s2 := (b13.cell (p := ⟨w.heap.size + 2, 1, none⟩) lw2).trans y2
      have t1 := fz b13 ⟨w.heap.size + 2, 0, none⟩ lw2 fy1
      have t2 := fz b13 ⟨w.heap.size + 2, 1, none⟩ lw2 fy2
      have hba := below_alloc w3 (.cells #[.slice (some ⟨g1, 0, none⟩) n1 n1, .slice (some ⟨g2, 0, none⟩) (k + 1 + r) (k + 1 + r)] 32)
      have u1 := box_first w3 (.slice (some ⟨g1, 0, none⟩) n1 n1) (.slice (some ⟨g2, 0, none⟩) (k + 1 + r) (k + 1 + r)) 32
      have u2' := box_second w3 (.slice (some ⟨g1, 0, none⟩) n1 n1) (.slice (some ⟨g2, 0, none⟩) (k + 1 + r) (k + 1 + r)) 32
      have ubk := heap_alloc_new w3 (.cells #[.slice (some ⟨g1, 0, none⟩) n1 n1, .slice (some ⟨g2, 0, none⟩) (k + 1 + r) (k + 1 + r)] 32)
      have hsa : (w3.alloc (.cells #[.slice (some ⟨g1, 0, none⟩) n1 n1, .slice (some ⟨g2, 0, none⟩) (k + 1 + r) (k + 1 + r)] 32)).heap.size = w3.heap.size + 1 := by simp
      have hbk1 := (hba.block g1 hg1.2).trans hbk1
      have hbk2 := (hba.block g2 hg2.2).trans hbk2
      have s1 := (hba.cell (p := ⟨w.heap.size + 2, 0, none⟩) (by show w.heap.size + 2 < _; omega)).trans s1
      have s2 := (hba.cell (p := ⟨w.heap.size + 2, 1, none⟩) (by show w.heap.size + 2 < _; omega)).trans s2
      have t1 := fz hba ⟨w.heap.size + 2, 0, none⟩ (by show w.heap.size + 2 < _; omega) t1
      have t2 := fz hba ⟨w.heap.size + 2, 1, none⟩ (by show w.heap.size + 2 < _; omega) t2
      have HB4 := Lib.hid (HB3.out.trans (hba.mono HB3.out.size))
      have HBK1 := Lib.hid hbk1
      have HBK2 := Lib.hid hbk2
      have HU := Lib.hid ubk
      have HSA := Lib.hid hsa
      clear o3 b3 b2 b12 b13 hba hbk1 hbk2 ubk b1 x1 x2 x3 x4 y1 y2 fy1 fy2 r1 r2 hsa
      go_wp2_with fail
      generalize w3.alloc (.cells #[.slice (some ⟨g1, 0, none⟩) n1 n1, .slice (some ⟨g2, 0, none⟩) (k + 1 + r) (k + 1 + r)] 32) = W4 at *
      refine (DelR.delete_any g2 k r (m.take k) (m.drop (k + 1)) (zu, zv) HL1.out HL2.out hz2 W4 (by rw [← HSP.out]; exact HBK2.out)).mono ?_
      rintro e w5 ⟨rfl, hd1, hk5⟩
      have e3 := HSA.out
      have hu5 : w5.heap[w3.heap.size]? = some (.cells #[.slice (some ⟨g1, 0, none⟩) n1 n1, .slice (some ⟨g2, 0, none⟩) (k + 1 + r) (k + 1 + r)] 32) := (hk5.block _ (by omega) (by omega)).trans HU.out
      have c1' : w5.cell? ⟨w3.heap.size, 0, none⟩ = some (.slice (some ⟨g1, 0, none⟩) n1 n1) := by simp only [World.cell?, hu5]; rfl
      have c2' : w5.cell? ⟨w3.heap.size, 1, none⟩ = some (.slice (some ⟨g2, 0, none⟩) (k + 1 + r) (k + 1 + r)) := by simp only [World.cell?, hu5]; rfl
      have d1' : w5.frozen? ⟨w3.heap.size, 1, none⟩ = false := by simp only [World.frozen?, hu5]; rfl
      have s15 := hk5.cell s1 (by show ¬ (w.heap.size + 2 = g2); omega)
      have s25 := hk5.cell s2 (by show ¬ (w.heap.size + 2 = g2); omega)
      have t15 : w5.frozen? ⟨w.heap.size + 2, 0, none⟩ = false := (World.frozen?_of_block (hk5.block (w.heap.size + 2) (by omega) (by omega))).trans t1
      have t25 : w5.frozen? ⟨w.heap.size + 2, 1, none⟩ = false := (World.frozen?_of_block (hk5.block (w.heap.size + 2) (by omega) (by omega))).trans t2
      have HC5 : Hid (w5.heap[g1]? = some (.cells (flat l).toArray 74)) := (hk5.block g1 (by omega) hg12).trans HBK1.out
      have HD5 := Lib.hid hd1
      have HK5 := Lib.hid hk5
      clear hd1 hu5 hk5 s1 s2 t1 t2 u1 u2'
      go_wp2_with fail
      have z1 : (w5.setCell ⟨w3.heap.size, 1, none⟩ (.slice (some ⟨g2, 0, none⟩) (k + r) (k + 1 + r))).cell? ⟨w.heap.size + 2, 0, none⟩ = some (.slice none 0 0) := by
        rw [World.cell?_setCell_other _ _ _ _ (by intro e; injection e with e; omega)]
        exact s15
      have z2 : (w5.setCell ⟨w3.heap.size, 1, none⟩ (.slice (some ⟨g2, 0, none⟩) (k + r) (k + 1 + r))).cell? ⟨w.heap.size + 2, 1, none⟩ = some (.slice none 0 0) := by
        rw [World.cell?_setCell_other _ _ _ _ (by intro e; injection e with e; omega)]
        exact s25
      obtain ⟨q1, q2⟩ := set2_cells (u := .slice (some ⟨g1, 0, none⟩) n1 n1) (v := .slice (some ⟨g2, 0, none⟩) (k + r) (k + 1 + r)) z1 z2
      refine bodyPost_ret (v := .tuple #[.agg #[.slice (some ⟨g1, 0, none⟩) n1 n1, .slice (some ⟨g2, 0, none⟩) (k + r) (k + 1 + r)], .bool true]) (by simp [results, Try.results18, go_sem, q1, q2]) rfl ?_
      rw [HE.out]
      have hf1 : (flat (m.take k ++ m.drop (k + 1))).length = (k + r) * 2 := by rw [flat_len, List.length_append, HL1.out, HL2.out]
      refine ⟨some ⟨g1, 0, none⟩, n1, n1, some ⟨g2, 0, none⟩, k + r, k + 1 + r, rfl, ⟨?_, ?_, ?_⟩, by omega, by omega, ?_⟩
      · refine own_of_block ?_ H1.out.1 hz1 (by omega)
        rw [Go.Deep.blk_setCell_other _ _ _ _ (by show g1 ≠ w.heap.size + 1 + 1; omega), Go.Deep.blk_setCell_other _ _ _ _ (by show g1 ≠ w.heap.size + 1 + 1; omega), Go.Deep.blk_setCell_other _ _ _ _ (by show g1 ≠ w3.heap.size; omega)]
        exact HC5.out
      · show World.ownsRow _ _ _ _ _ _ (flat (m.filter (ne2 zu zv)))
        rw [← HFI.out]
        refine own_of_take (ys := flat (m.take k ++ m.drop (k + 1)) ++ [Value.int .i64 0, Value.int .i64 0]) ?_ (by rw [List.length_append, hf1]; simp; omega) (by rw [List.length_append, HL1.out, HL2.out]) (by omega) hz2 (by rw [← hf1]; exact List.take_left) (by omega)
        rw [Go.Deep.blk_setCell_other _ _ _ _ (by show g2 ≠ w.heap.size + 1 + 1; omega), Go.Deep.blk_setCell_other _ _ _ _ (by show g2 ≠ w.heap.size + 1 + 1; omega), Go.Deep.blk_setCell_other _ _ _ _ (by show g2 ≠ w3.heap.size; omega)]
        exact HD5.out
      · intro g e1 e2
        have e1' : g1 = g := by simpa [Value.ownBlock] using e1
        have e2' : g2 = g := by simpa [Value.ownBlock] using e2
        exact hg12 (e1'.trans e2'.symm)
      · have hB5 : Below w.heap.size w w5 := HB4.out.trans (HK5.out.below (fun b hb => by subst hb; omega) HB4.out.size)
        exact ((hB5.setCell (p := ⟨w3.heap.size, 1, none⟩) (by show _ ≤ w3.heap.size; omega) _).setCell (p := ⟨w.heap.size + 1 + 1, 0, none⟩) (by show _ ≤ w.heap.size + 1 + 1; omega) _).setCell (p := ⟨w.heap.size + 1 + 1, 1, none⟩) (by show _ ≤ w.heap.size + 1 + 1; omega) _
end Go.Proofs.Ytldalomoojhbkab.RemR
