/- The program's RemoveContext: a record without a context and its relations. -/
import Derived.Test.YthcjembekadijaaOrderSaidPartav
import Derived.Test.YthcjembekadijaaOrderSaidPartao
namespace Go.Proofs.Ythcjembekadijaa.RemC
open Go.RowKit Pairs Rec RecEq Find2 GoodM RelM Keep Row2 Copy Two Gives RemCS Idx
theorem block_of_own {T : TypeId} {w : World} {B g n : Nat} {l : List (Int × Int)} (h : w.ownsRow B T 2 (.slice (some ⟨g, 0, none⟩) n n) n (flat l)) : w.heap[g]? = some (.cells (flat l).toArray T) := by
  rcases h.2 with ⟨hv, _⟩ | ⟨g', cap, cur, hv, _, hh, _, _, hs, ht⟩
  · cases hv
  · injection hv with h1 h2 h3
    injection h1 with h1
    injection h1 with h1 _ _
    subst h1 h3
    rw [hh]
    have e : cur.toList = flat l := by
      rw [← ht, List.take_of_length_le (by simp; omega)]
    rw [← e]
theorem own_of_take {X : World} {g n c B : Nat} {T : TypeId} {l : List (Int × Int)} {ys : List Value} (h : X.heap[g]? = some (.cells ys.toArray T)) (hc : ys.length = c * 2) (hl : l.length = n) (hn : n ≤ c) (hm : c ≤ 1048576) (ht : ys.take (n * 2) = flat l) (hB : B ≤ g) : X.ownsRow B T 2 (.slice (some ⟨g, 0, none⟩) n c) n (flat l) :=
  ⟨by rw [flat_len, hl], .inr ⟨g, c, ys.toArray, rfl, hB, h, hn, by unfold maxLen; omega, by simpa using hc, ht⟩⟩
theorem boxes212 (w : World) (u1 v1 q u3 v3 : Value) (t1 t2 t3 : TypeId) :
    let W := ((w.alloc (.cells #[u1, v1] t1)).alloc (.cells #[q] t2)).alloc (.cells #[u3, v3] t3)
    W.heap.size = w.heap.size + 3 ∧ W.cell? ⟨w.heap.size, 0, none⟩ = some u1 ∧ W.cell? ⟨w.heap.size, 1, none⟩ = some v1 ∧ W.cell? ⟨w.heap.size + 1, 0, none⟩ = some q ∧ W.cell? ⟨w.heap.size + 2, 0, none⟩ = some u3 ∧ W.cell? ⟨w.heap.size + 2, 1, none⟩ = some v3 ∧
      W.frozen? ⟨w.heap.size + 2, 0, none⟩ = false ∧ W.frozen? ⟨w.heap.size + 2, 1, none⟩ = false ∧ Below w.heap.size w W := by
  have e : ∀ (w : World) (o : Obj), (w.alloc o).heap = w.heap.push o := fun _ _ => rfl
  have i0 : (((w.alloc (.cells #[u1, v1] t1)).alloc (.cells #[q] t2)).alloc (.cells #[u3, v3] t3)).heap[w.heap.size]? = some (.cells #[u1, v1] t1) := by
    rw [e, e, e, Array.getElem?_push, if_neg (by simp; omega), Array.getElem?_push, if_neg (by simp), Array.getElem?_push, if_pos rfl]
  have i1 : (((w.alloc (.cells #[u1, v1] t1)).alloc (.cells #[q] t2)).alloc (.cells #[u3, v3] t3)).heap[w.heap.size + 1]? = some (.cells #[q] t2) := by
    rw [e, e, e, Array.getElem?_push, if_neg (by simp), Array.getElem?_push, if_pos (by simp)]
  have i2 : (((w.alloc (.cells #[u1, v1] t1)).alloc (.cells #[q] t2)).alloc (.cells #[u3, v3] t3)).heap[w.heap.size + 2]? = some (.cells #[u3, v3] t3) := by
    rw [e, e, e, Array.getElem?_push, if_pos (by simp)]
  refine ⟨by rw [e, e, e]; simp, ?_, ?_, ?_, ?_, ?_, ?_, ?_, below_alloc3 _ _ _ _⟩
  · simp only [World.cell?, i0]; rfl
  · simp only [World.cell?, i0]; rfl
  · simp only [World.cell?, i1]; rfl
  · simp only [World.cell?, i2]; rfl
  · simp only [World.cell?, i2]; rfl
  · simp only [World.frozen?, i2]; rfl
  · simp only [World.frozen?, i2]; rfl
theorem isAt_split {l m : List (Int × Int)} {z : Int} {k : Nat} (hg : good l m = true) (hk : isAt l z = some k) : ∃ x : Int × Int, l = l.take k ++ x :: l.drop (k + 1) ∧ k < l.length ∧ l.take k ++ l.drop (k + 1) = l.filter (notC z) := by
  have hA := (good_asc hg).1
  unfold isAt at hk
  rw [List.findIdx?_eq_some_iff_getElem] at hk
  obtain ⟨hl, h1, _⟩ := hk
  have hx : l[k]? = some l[k] := List.getElem?_eq_getElem hl
  have e1 : l[k].1 = z := by simpa using h1
  refine ⟨l[k], ?_, hl, ?_⟩
  · conv => lhs; rw [← List.take_append_drop k l, List.drop_eq_getElem_cons hl]
  · rw [← List.eraseIdx_eq_take_drop_succ]
    refine erase_filter (notC z) hx (by unfold notC; simp [e1]) ?_
    intro j y hj hy
    unfold notC
    have hne : y.1 ≠ z := by
      intro e
      by_cases hjk : j < k
      · obtain ⟨d, rfl⟩ : ∃ d, k = j + d + 1 := ⟨k - j - 1, by omega⟩
        have := hA.lt d j y _ hy hx
        omega
      · obtain ⟨d, rfl⟩ : ∃ d, j = k + d + 1 := ⟨j - k - 1, by omega⟩
        have := hA.lt d k _ y hx hy
        omega
    simpa using hne
set_option maxRecDepth 100000 in
set_option maxHeartbeats 8000000 in
theorem impl_any (z : Int) : Gives1 31 (.int .i64 z) (remC z) := by
  intro a1 a2 n1 c1 n2 c2 l m w hz1 hz2 h1 h2
  obtain ⟨hs, x1, x2, xq, y1, y2, fy1, fy2, hb0⟩ := boxes212 w (.slice a1 n1 c1) (.slice a2 n2 c2) (.int .i64 z) (.slice none 0 0) (.slice none 0 0) 27 3 27
  have HS := Lib.hid hs
  have H1 := Lib.hid (h1.below hb0)
  have H2 := Lib.hid (h2.below hb0)
  clear h1 h2 hs
  go_enter Try.func31, Try.ntmps31
  go_wp2_with fail
  generalize ((w.alloc (.cells #[.slice a1 n1 c1, .slice a2 n2 c2] 27)).alloc (.cells #[.int .i64 z] 3)).alloc (.cells #[.slice none 0 0, .slice none 0 0] 27) = W at *
  have lw : w.heap.size < W.heap.size := by rw [HS.out]; omega
  have lw1 : w.heap.size + 1 < W.heap.size := by rw [HS.out]; omega
  have lw2 : w.heap.size + 2 < W.heap.size := by rw [HS.out]; omega
  refine (impl_Index a1 a2 n1 c1 n2 c2 l m z W hz1 hz2 H1.out H2.out).mono ?_
  rintro e w1 ⟨rfl, b1⟩
  have r1 := (b1.cell (p := ⟨w.heap.size, 0, none⟩) lw).trans x1
  have r2 := (b1.cell (p := ⟨w.heap.size, 1, none⟩) lw).trans x2
  have s1 := (b1.cell (p := ⟨w.heap.size + 2, 0, none⟩) lw2).trans y1
  have s2 := (b1.cell (p := ⟨w.heap.size + 2, 1, none⟩) lw2).trans y2
  have t1 := fz b1 ⟨w.heap.size + 2, 0, none⟩ lw2 fy1
  have t2 := fz b1 ⟨w.heap.size + 2, 1, none⟩ lw2 fy2
  have HB1 := Lib.hid (hb0.trans (b1.mono hb0.size))
  by_cases hg : good l m = true ∧ (isAt l z).isSome = true
  · obtain ⟨k, hk⟩ := Option.isSome_iff_exists.1 hg.2
    have hi1 : idx l m z = ((k : Int), true) := by unfold idx; rw [if_pos hg, find_some hk]
    rw [hi1]
    clear hi1
    obtain ⟨x, hl, hkl, hfil⟩ := isAt_split hg.1 hk
    have HE := Lib.hid (remC_some (z := z) hg.1 hg.2)
    have HG := Lib.hid hg.1
    obtain ⟨r, hr⟩ : ∃ r, n1 = k + 1 + r := ⟨n1 - (k + 1), by rw [← H1.out.1]; omega⟩
    have hlen1 : (l.take k).length = k := by rw [List.length_take]; omega
    have hlen2 : (l.drop (k + 1)).length = r := by rw [List.length_drop, H1.out.1]; omega
    have HL1 := Lib.hid hlen1
    have HL2 := Lib.hid hlen2
    have HFI := Lib.hid hfil
    have HSP := Lib.hid hl
    clear hg hk hl hfil hlen1 hlen2
    subst hr
    go_wp2_with fail
    refine (copyRecord_any a1 a2 (k + 1 + r) c1 n2 c2 l m hz1 hz2 w1 (H1.out.below b1) (H2.out.below b1)).mono ?_
    rintro e w2 ⟨g1, g2, rfl, o2, b2⟩
    have hg1 : w1.heap.size ≤ g1 ∧ g1 < w2.heap.size := o2.ctx.lt g1 rfl
    have hg2 : w1.heap.size ≤ g2 ∧ g2 < w2.heap.size := o2.rel.lt g2 rfl
    have hs1 := b1.size
    have hs2 := b2.size
    have hbk1 := block_of_own o2.ctx
    have hbk2 := block_of_own o2.rel
    have hg12 := o2.ne
    have b12 := b1.trans (b2.mono b1.size)
    have HB2 := Lib.hid (hb0.trans (b12.mono hb0.size))
    have s1 := (b12.cell (p := ⟨w.heap.size + 2, 0, none⟩) lw2).trans y1
    have s2 := (b12.cell (p := ⟨w.heap.size + 2, 1, none⟩) lw2).trans y2
    have sq := (b12.cell (p := ⟨w.heap.size + 1, 0, none⟩) lw1).trans xq
    have t1 := fz b12 ⟨w.heap.size + 2, 0, none⟩ lw2 fy1
    have t2 := fz b12 ⟨w.heap.size + 2, 1, none⟩ lw2 fy2
    have hba := below_alloc w2 (.cells #[.slice (some ⟨g1, 0, none⟩) (k + 1 + r) (k + 1 + r), .slice (some ⟨g2, 0, none⟩) n2 n2] 27)
    have u1 := box_first w2 (.slice (some ⟨g1, 0, none⟩) (k + 1 + r) (k + 1 + r)) (.slice (some ⟨g2, 0, none⟩) n2 n2) 27
    have u2' := box_second w2 (.slice (some ⟨g1, 0, none⟩) (k + 1 + r) (k + 1 + r)) (.slice (some ⟨g2, 0, none⟩) n2 n2) 27
    have ubk := heap_alloc_new w2 (.cells #[.slice (some ⟨g1, 0, none⟩) (k + 1 + r) (k + 1 + r), .slice (some ⟨g2, 0, none⟩) n2 n2] 27)
    have hsa : (w2.alloc (.cells #[.slice (some ⟨g1, 0, none⟩) (k + 1 + r) (k + 1 + r), .slice (some ⟨g2, 0, none⟩) n2 n2] 27)).heap.size = w2.heap.size + 1 := by simp
    have hbk1 := (hba.block g1 hg1.2).trans hbk1
    have hbk2 := (hba.block g2 hg2.2).trans hbk2
    have s1 := (hba.cell (p := ⟨w.heap.size + 2, 0, none⟩) (by show w.heap.size + 2 < _; omega)).trans s1
    have s2 := (hba.cell (p := ⟨w.heap.size + 2, 1, none⟩) (by show w.heap.size + 2 < _; omega)).trans s2
    have sq := (hba.cell (p := ⟨w.heap.size + 1, 0, none⟩) (by show w.heap.size + 1 < _; omega)).trans sq
    have t1 := fz hba ⟨w.heap.size + 2, 0, none⟩ (by show w.heap.size + 2 < _; omega) t1
    have t2 := fz hba ⟨w.heap.size + 2, 1, none⟩ (by show w.heap.size + 2 < _; omega) t2
    have HB3 := Lib.hid (HB2.out.trans (hba.mono HB2.out.size))
    have HBK1 := Lib.hid hbk1
    have HBK2 := Lib.hid hbk2
    have HU := Lib.hid ubk
    have HSA := Lib.hid hsa
    clear o2 b2 b12 hba hbk1 hbk2 ubk b1 x1 x2 xq y1 y2 fy1 fy2 r1 r2 hsa
    go_wp2_with fail
    generalize w2.alloc (.cells #[.slice (some ⟨g1, 0, none⟩) (k + 1 + r) (k + 1 + r), .slice (some ⟨g2, 0, none⟩) n2 n2] 27) = W3 at *
    refine (DelC.delete_any g1 k r (l.take k) (l.drop (k + 1)) x HL1.out HL2.out hz1 W3 (by rw [← HSP.out]; exact HBK1.out)).mono ?_
    rintro e w4 ⟨rfl, hd1, hk4⟩
    have e3 := HSA.out
    have hu4 : w4.heap[w2.heap.size]? = some (.cells #[.slice (some ⟨g1, 0, none⟩) (k + 1 + r) (k + 1 + r), .slice (some ⟨g2, 0, none⟩) n2 n2] 27) := (hk4.block _ (by omega) (by omega)).trans HU.out
    have hx4 := (setCell_block (a := .slice (some ⟨g1, 0, none⟩) (k + r) (k + 1 + r)) hu4).1
    have hk4' : Kept (fun b => b = g1 ∨ b = w2.heap.size) W3 (w4.setCell ⟨w2.heap.size, 0, none⟩ (.slice (some ⟨g1, 0, none⟩) (k + r) (k + 1 + r))) := (hk4.mono (fun _ => .inl)).setCell (g := w2.heap.size) (.inr rfl) _
    have c1' : w4.cell? ⟨w2.heap.size, 0, none⟩ = some (.slice (some ⟨g1, 0, none⟩) (k + 1 + r) (k + 1 + r)) := by simp only [World.cell?, hu4]; rfl
    have c2' : w4.cell? ⟨w2.heap.size, 1, none⟩ = some (.slice (some ⟨g2, 0, none⟩) n2 n2) := by simp only [World.cell?, hu4]; rfl
    have d1' : w4.frozen? ⟨w2.heap.size, 0, none⟩ = false := by simp only [World.frozen?, hu4]; rfl
    have HD4 : Hid ((w4.setCell ⟨w2.heap.size, 0, none⟩ (.slice (some ⟨g1, 0, none⟩) (k + r) (k + 1 + r))).heap[g1]? = some (.cells (flat (l.take k ++ l.drop (k + 1)) ++ [Value.int .i64 0, Value.int .i64 0]).toArray 55)) := by
      unfold Hid
      rw [Go.Deep.blk_setCell_other _ _ _ _ (by show g1 ≠ w2.heap.size; omega)]
      exact hd1
    have HG4 : Hid ((w4.setCell ⟨w2.heap.size, 0, none⟩ (.slice (some ⟨g1, 0, none⟩) (k + r) (k + 1 + r))).heap[g2]? = some (.cells (flat m).toArray 39)) := (hk4'.block g2 (by omega) (by omega)).trans HBK2.out
    have sq4 := hk4'.cell sq (by show ¬ (w.heap.size + 1 = g1 ∨ w.heap.size + 1 = w2.heap.size); omega)
    have s14 := hk4'.cell s1 (by show ¬ (w.heap.size + 2 = g1 ∨ w.heap.size + 2 = w2.heap.size); omega)
    have s24 := hk4'.cell s2 (by show ¬ (w.heap.size + 2 = g1 ∨ w.heap.size + 2 = w2.heap.size); omega)
    have t14 : (w4.setCell ⟨w2.heap.size, 0, none⟩ (.slice (some ⟨g1, 0, none⟩) (k + r) (k + 1 + r))).frozen? ⟨w.heap.size + 2, 0, none⟩ = false := (World.frozen?_of_block (hk4'.block (w.heap.size + 2) (by omega) (by omega))).trans t1
    have t24 : (w4.setCell ⟨w2.heap.size, 0, none⟩ (.slice (some ⟨g1, 0, none⟩) (k + r) (k + 1 + r))).frozen? ⟨w.heap.size + 2, 1, none⟩ = false := (World.frozen?_of_block (hk4'.block (w.heap.size + 2) (by omega) (by omega))).trans t2
    have HX4 := Lib.hid hx4
    have HK4 := Lib.hid hk4'
    clear hu4 hx4 hk4 hk4' hd1 s1 s2 sq t1 t2 u1 u2'
    go_wp2_with fail
    generalize w4.setCell ⟨w2.heap.size, 0, none⟩ (.slice (some ⟨g1, 0, none⟩) (k + r) (k + 1 + r)) = X4 at *
    clear c1' c2' d1'
    refine (DelF.deleteFunc_any z (w.heap.size + 1) g2 n2 m H2.out.1 hz2 X4 HG4.out sq4 (by omega)).mono ?_
    rintro e w5 ⟨rfl, hy, hk5⟩
    obtain ⟨ys, hy1, hy2, hy3⟩ := hy
    have hsz4 := HK4.out.size
    have hu5 : w5.heap[w2.heap.size]? = some (.cells #[.slice (some ⟨g1, 0, none⟩) (k + r) (k + 1 + r), .slice (some ⟨g2, 0, none⟩) n2 n2] 27) := (hk5.block _ (by omega) (by omega)).trans HX4.out
    have c1' : w5.cell? ⟨w2.heap.size, 0, none⟩ = some (.slice (some ⟨g1, 0, none⟩) (k + r) (k + 1 + r)) := by simp only [World.cell?, hu5]; rfl
    have c2' : w5.cell? ⟨w2.heap.size, 1, none⟩ = some (.slice (some ⟨g2, 0, none⟩) n2 n2) := by simp only [World.cell?, hu5]; rfl
    have d1' : w5.frozen? ⟨w2.heap.size, 1, none⟩ = false := by simp only [World.frozen?, hu5]; rfl
    have s15 := hk5.cell s14 (by show ¬ (w.heap.size + 2 = g2); omega)
    have s25 := hk5.cell s24 (by show ¬ (w.heap.size + 2 = g2); omega)
    have t15 : w5.frozen? ⟨w.heap.size + 2, 0, none⟩ = false := (World.frozen?_of_block (hk5.block (w.heap.size + 2) (by omega) (by omega))).trans t14
    have t25 : w5.frozen? ⟨w.heap.size + 2, 1, none⟩ = false := (World.frozen?_of_block (hk5.block (w.heap.size + 2) (by omega) (by omega))).trans t24
    have HD5 : Hid (w5.heap[g1]? = some (.cells (flat (l.take k ++ l.drop (k + 1)) ++ [Value.int .i64 0, Value.int .i64 0]).toArray 55)) := (hk5.block g1 (by omega) hg12).trans HD4.out
    have HY1 := Lib.hid hy1
    have HY2 := Lib.hid hy2
    have HY3 := Lib.hid hy3
    have HK5 : Hid (Kept (fun b => b = g1 ∨ b = w2.heap.size ∨ b = g2) W3 w5) := (HK4.out.mono (fun _ h => h.elim .inl (fun h => .inr (.inl h)))).trans (hk5.mono (fun _ h => .inr (.inr h)))
    clear hy1 hy2 hy3 hu5 hk5 s14 s24 t14 t24 sq4
    go_wp2_with fail
    have z1 : (w5.setCell ⟨w2.heap.size, 1, none⟩ (.slice (some ⟨g2, 0, none⟩) (m.filter (notR z)).length n2)).cell? ⟨w.heap.size + 2, 0, none⟩ = some (.slice none 0 0) := by
      rw [World.cell?_setCell_other _ _ _ _ (by intro e; injection e with e; omega)]
      exact s15
    have z2 : (w5.setCell ⟨w2.heap.size, 1, none⟩ (.slice (some ⟨g2, 0, none⟩) (m.filter (notR z)).length n2)).cell? ⟨w.heap.size + 2, 1, none⟩ = some (.slice none 0 0) := by
      rw [World.cell?_setCell_other _ _ _ _ (by intro e; injection e with e; omega)]
      exact s25
    obtain ⟨q1, q2⟩ := set2_cells (u := .slice (some ⟨g1, 0, none⟩) (k + r) (k + 1 + r)) (v := .slice (some ⟨g2, 0, none⟩) (m.filter (notR z)).length n2) z1 z2
    refine bodyPost_ret (v := .tuple #[.agg #[.slice (some ⟨g1, 0, none⟩) (k + r) (k + 1 + r), .slice (some ⟨g2, 0, none⟩) (m.filter (notR z)).length n2], .bool true]) (by simp [results, Try.results31, go_sem, q1, q2]) rfl ?_
    rw [HE.out]
    have hf1 : (flat (l.take k ++ l.drop (k + 1))).length = (k + r) * 2 := by rw [flat_len, List.length_append, HL1.out, HL2.out]
    have hfm := List.length_filter_le (notR z) m
    rw [H2.out.1] at hfm
    refine ⟨some ⟨g1, 0, none⟩, k + r, k + 1 + r, some ⟨g2, 0, none⟩, (m.filter (notR z)).length, n2, rfl, ⟨?_, ?_, ?_⟩, by omega, by omega, ?_⟩
    · show World.ownsRow _ _ _ _ _ _ (flat (l.filter (notC z)))
      rw [← HFI.out]
      refine own_of_take (ys := flat (l.take k ++ l.drop (k + 1)) ++ [Value.int .i64 0, Value.int .i64 0]) ?_ (by rw [List.length_append, hf1]; simp; omega) (by rw [List.length_append, HL1.out, HL2.out]) (by omega) hz1 (by rw [← hf1]; exact List.take_left) (by omega)
      rw [Go.Deep.blk_setCell_other _ _ _ _ (by show g1 ≠ w.heap.size + 1 + 1; omega), Go.Deep.blk_setCell_other _ _ _ _ (by show g1 ≠ w.heap.size + 1 + 1; omega), Go.Deep.blk_setCell_other _ _ _ _ (by show g1 ≠ w2.heap.size; omega)]
      exact HD5.out
    · refine own_of_take ?_ HY2.out rfl hfm hz2 HY3.out (by omega)
      rw [Go.Deep.blk_setCell_other _ _ _ _ (by show g2 ≠ w.heap.size + 1 + 1; omega), Go.Deep.blk_setCell_other _ _ _ _ (by show g2 ≠ w.heap.size + 1 + 1; omega), Go.Deep.blk_setCell_other _ _ _ _ (by show g2 ≠ w2.heap.size; omega)]
      exact HY1.out
    · intro g e1 e2
      have e1' : g1 = g := by simpa [Value.ownBlock] using e1
      have e2' : g2 = g := by simpa [Value.ownBlock] using e2
      exact hg12 (e1'.trans e2'.symm)
    · have hB5 : Below w.heap.size w w5 := HB3.out.trans (HK5.out.below (fun b hb => by rcases hb with rfl | rfl | rfl <;> omega) HB3.out.size)
      exact ((hB5.setCell (p := ⟨w2.heap.size, 1, none⟩) (by show _ ≤ w2.heap.size; omega) _).setCell (p := ⟨w.heap.size + 1 + 1, 0, none⟩) (by show _ ≤ w.heap.size + 1 + 1; omega) _).setCell (p := ⟨w.heap.size + 1 + 1, 1, none⟩) (by show _ ≤ w.heap.size + 1 + 1; omega) _
  · have hi1 : idx l m z = (0, false) := by unfold idx; rw [if_neg hg]
    rw [hi1]
    clear hi1
    have HE := Lib.hid (remC_none hg)
    clear hg
    go_wp2_with fail
    obtain ⟨q1, q2⟩ := set2_cells (u := .slice none 0 0) (v := .slice none 0 0) s1 s2
    refine bodyPost_ret (v := .tuple #[.agg #[.slice none 0 0, .slice none 0 0], .bool false]) (by simp [results, Try.results31, go_sem, q1, q2]) rfl ?_
    rw [HE.out]
    exact ⟨none, 0, 0, none, 0, 0, rfl, Got.nil _ _, by omega, by omega, ((HB1.out.setCell (p := ⟨w.heap.size + 2, 0, none⟩) (by show _ ≤ w.heap.size + 2; omega) _).setCell (p := ⟨w.heap.size + 2, 1, none⟩) (by show _ ≤ w.heap.size + 2; omega) _)⟩
end Go.Proofs.Ythcjembekadijaa.RemC
/- The program's AddContext: a record with a context more. -/
namespace Go.Proofs.Ythcjembekadijaa.AddC
open Go.RowKit Pairs Rec RecEq Find2 GoodM RelM Keep Row2 Copy Two Gives Idx
open RemC (block_of_own)

def addC (x y : Int) : RR := fun l m => if good l m = true ∧ good (ins l (pl l x) (x, y)) m = true then some (ins l (pl l x) (x, y), m) else none
theorem addC_none {x y : Int} {l m : List (Int × Int)} (h : ¬ (good l m = true ∧ good (ins l (pl l x) (x, y)) m = true)) : addC x y l m = none := by unfold addC; rw [if_neg h]
theorem addC_some {x y : Int} {l m : List (Int × Int)} (h1 : good l m = true) (h2 : good (ins l (pl l x) (x, y)) m = true) : addC x y l m = some (ins l (pl l x) (x, y), m) := by unfold addC; rw [if_pos ⟨h1, h2⟩]
set_option maxRecDepth 100000 in
set_option maxHeartbeats 4000000 in
theorem ifValid_true (a1 a2 : Option Addr) (n1 c1 n2 c2 : Nat) (l m : List (Int × Int)) (w : World) (hz1 : n1 ≤ 1048576) (hz2 : n2 ≤ 1048576) (h1 : Holds w a1 n1 l) (h2 : Holds w a2 n2 m) (hg : good l m = true) :
    Calls Try.prog 80 #[.agg #[.slice a1 n1 c1, .slice a2 n2 c2]] w fun e w' => e = .returned (.tuple #[.agg #[.slice a1 n1 c1, .slice a2 n2 c2], .bool true]) ∧ Below w.heap.size w w' := by
  obtain ⟨fy1, fy2⟩ := fz_box2 w (.slice a1 n1 c1) (.slice a2 n2 c2) (.slice none 0 0) (.slice none 0 0) 27 27
  obtain ⟨hs, x1, x2, y1, y2, hb0⟩ := boxes2 w (.slice a1 n1 c1) (.slice a2 n2 c2) (.slice none 0 0) (.slice none 0 0) 27 27
  have HS := Lib.hid hs
  have H1 := Lib.hid (h1.below hb0)
  have H2 := Lib.hid (h2.below hb0)
  have HG := Lib.hid hg
  clear h1 h2 hs hg
  go_enter Try.func80, Try.ntmps80
  go_wp2_with fail
  generalize ((w.alloc (.cells #[.slice a1 n1 c1, .slice a2 n2 c2] 27)).alloc (.cells #[.slice none 0 0, .slice none 0 0] 27)) = W at *
  have lw : w.heap.size < W.heap.size := by rw [HS.out]; omega
  have lw1 : w.heap.size + 1 < W.heap.size := by rw [HS.out]; omega
  refine (Avr.impl_any a1 a2 n1 c1 n2 c2 l m W hz1 hz2 H1.out H2.out).mono ?_
  rintro e w1 ⟨rfl, b1⟩
  rw [HG.out]
  have r1 := (b1.cell (p := ⟨w.heap.size, 0, none⟩) lw).trans x1
  have r2 := (b1.cell (p := ⟨w.heap.size, 1, none⟩) lw).trans x2
  have s1 := (b1.cell (p := ⟨w.heap.size + 1, 0, none⟩) lw1).trans y1
  have s2 := (b1.cell (p := ⟨w.heap.size + 1, 1, none⟩) lw1).trans y2
  have t1 := fz b1 ⟨w.heap.size + 1, 0, none⟩ lw1 fy1
  have t2 := fz b1 ⟨w.heap.size + 1, 1, none⟩ lw1 fy2
  have HB1 := Lib.hid (hb0.trans (b1.mono hb0.size))
  go_wp2_with fail
  obtain ⟨q1, q2⟩ := set2_cells (u := .slice a1 n1 c1) (v := .slice a2 n2 c2) s1 s2
  refine bodyPost_ret (v := .tuple #[.agg #[.slice a1 n1 c1, .slice a2 n2 c2], .bool true]) (by simp [results, Try.results80, go_sem, q1, q2]) rfl ?_
  exact ⟨rfl, ((HB1.out.setCell (p := ⟨w.heap.size + 1, 0, none⟩) (Nat.le_succ _) _).setCell (p := ⟨w.heap.size + 1, 1, none⟩) (Nat.le_succ _) _)⟩
set_option maxRecDepth 100000 in
set_option maxHeartbeats 4000000 in
theorem ifValid_false (a1 a2 : Option Addr) (n1 c1 n2 c2 : Nat) (l m : List (Int × Int)) (w : World) (hz1 : n1 ≤ 1048576) (hz2 : n2 ≤ 1048576) (h1 : Holds w a1 n1 l) (h2 : Holds w a2 n2 m) (hg : good l m = false) :
    Calls Try.prog 80 #[.agg #[.slice a1 n1 c1, .slice a2 n2 c2]] w fun e w' => e = .returned (.tuple #[.agg #[.slice none 0 0, .slice none 0 0], .bool false]) ∧ Below w.heap.size w w' := by
  obtain ⟨fy1, fy2⟩ := fz_box2 w (.slice a1 n1 c1) (.slice a2 n2 c2) (.slice none 0 0) (.slice none 0 0) 27 27
  obtain ⟨hs, x1, x2, y1, y2, hb0⟩ := boxes2 w (.slice a1 n1 c1) (.slice a2 n2 c2) (.slice none 0 0) (.slice none 0 0) 27 27
  have HS := Lib.hid hs
  have H1 := Lib.hid (h1.below hb0)
  have H2 := Lib.hid (h2.below hb0)
  have HG := Lib.hid hg
  clear h1 h2 hs hg
  go_enter Try.func80, Try.ntmps80
  go_wp2_with fail
  generalize ((w.alloc (.cells #[.slice a1 n1 c1, .slice a2 n2 c2] 27)).alloc (.cells #[.slice none 0 0, .slice none 0 0] 27)) = W at *
  have lw : w.heap.size < W.heap.size := by rw [HS.out]; omega
  have lw1 : w.heap.size + 1 < W.heap.size := by rw [HS.out]; omega
  refine (Avr.impl_any a1 a2 n1 c1 n2 c2 l m W hz1 hz2 H1.out H2.out).mono ?_
  rintro e w1 ⟨rfl, b1⟩
  rw [HG.out]
  have r1 := (b1.cell (p := ⟨w.heap.size, 0, none⟩) lw).trans x1
  have r2 := (b1.cell (p := ⟨w.heap.size, 1, none⟩) lw).trans x2
  have s1 := (b1.cell (p := ⟨w.heap.size + 1, 0, none⟩) lw1).trans y1
  have s2 := (b1.cell (p := ⟨w.heap.size + 1, 1, none⟩) lw1).trans y2
  have t1 := fz b1 ⟨w.heap.size + 1, 0, none⟩ lw1 fy1
  have t2 := fz b1 ⟨w.heap.size + 1, 1, none⟩ lw1 fy2
  have HB1 := Lib.hid (hb0.trans (b1.mono hb0.size))
  go_wp2_with fail
  obtain ⟨q1, q2⟩ := set2_cells (u := .slice none 0 0) (v := .slice none 0 0) s1 s2
  refine bodyPost_ret (v := .tuple #[.agg #[.slice none 0 0, .slice none 0 0], .bool false]) (by simp [results, Try.results80, go_sem, q1, q2]) rfl ?_
  exact ⟨rfl, ((HB1.out.setCell (p := ⟨w.heap.size + 1, 0, none⟩) (Nat.le_succ _) _).setCell (p := ⟨w.heap.size + 1, 1, none⟩) (Nat.le_succ _) _)⟩
theorem boxes222 (w : World) (u1 v1 u2 v2 u3 v3 : Value) (t1 t2 t3 : TypeId) :
    let W := ((w.alloc (.cells #[u1, v1] t1)).alloc (.cells #[u2, v2] t2)).alloc (.cells #[u3, v3] t3)
    W.heap.size = w.heap.size + 3 ∧ W.cell? ⟨w.heap.size, 0, none⟩ = some u1 ∧ W.cell? ⟨w.heap.size, 1, none⟩ = some v1 ∧ W.cell? ⟨w.heap.size + 1, 0, none⟩ = some u2 ∧ W.cell? ⟨w.heap.size + 1, 1, none⟩ = some v2 ∧ W.cell? ⟨w.heap.size + 2, 0, none⟩ = some u3 ∧ W.cell? ⟨w.heap.size + 2, 1, none⟩ = some v3 ∧
      W.frozen? ⟨w.heap.size + 2, 0, none⟩ = false ∧ W.frozen? ⟨w.heap.size + 2, 1, none⟩ = false ∧ Below w.heap.size w W := by
  have e : ∀ (w : World) (o : Obj), (w.alloc o).heap = w.heap.push o := fun _ _ => rfl
  have i0 : (((w.alloc (.cells #[u1, v1] t1)).alloc (.cells #[u2, v2] t2)).alloc (.cells #[u3, v3] t3)).heap[w.heap.size]? = some (.cells #[u1, v1] t1) := by
    rw [e, e, e, Array.getElem?_push, if_neg (by simp; omega), Array.getElem?_push, if_neg (by simp), Array.getElem?_push, if_pos rfl]
  have i1 : (((w.alloc (.cells #[u1, v1] t1)).alloc (.cells #[u2, v2] t2)).alloc (.cells #[u3, v3] t3)).heap[w.heap.size + 1]? = some (.cells #[u2, v2] t2) := by
    rw [e, e, e, Array.getElem?_push, if_neg (by simp), Array.getElem?_push, if_pos (by simp)]
  have i2 : (((w.alloc (.cells #[u1, v1] t1)).alloc (.cells #[u2, v2] t2)).alloc (.cells #[u3, v3] t3)).heap[w.heap.size + 2]? = some (.cells #[u3, v3] t3) := by
    rw [e, e, e, Array.getElem?_push, if_pos (by simp)]
  refine ⟨by rw [e, e, e]; simp, ?_, ?_, ?_, ?_, ?_, ?_, ?_, ?_, below_alloc3 _ _ _ _⟩
  · simp only [World.cell?, i0]; rfl
  · simp only [World.cell?, i0]; rfl
  · simp only [World.cell?, i1]; rfl
  · simp only [World.cell?, i1]; rfl
  · simp only [World.cell?, i2]; rfl
  · simp only [World.cell?, i2]; rfl
  · simp only [World.frozen?, i2]; rfl
  · simp only [World.frozen?, i2]; rfl
theorem own_off {g k n c : Nat} (h : g ≠ k) : (Value.slice (some ⟨g, 0, none⟩) n c).ownBlock ≠ some k := by
  intro e
  exact h (by simpa [Value.ownBlock] using e)
theorem pl_le (l : List (Int × Int)) (t : Int) : pl l t ≤ l.length := List.findIdx_le_length
set_option maxRecDepth 100000 in
set_option maxHeartbeats 8000000 in
theorem impl_any (zu zv : Int) : Gives1 28 (.agg #[.int .i64 zu, .int .i64 zv]) (addC zu zv) := by
  intro a1 a2 n1 c1 n2 c2 l m w hz1 hz2 h1 h2
  obtain ⟨hs, x1, x2, x3, x4, y1, y2, fy1, fy2, hb0⟩ := boxes222 w (.slice a1 n1 c1) (.slice a2 n2 c2) (.int .i64 zu) (.int .i64 zv) (.slice none 0 0) (.slice none 0 0) 27 55 27
  have HS := Lib.hid hs
  have H1 := Lib.hid (h1.below hb0)
  have H2 := Lib.hid (h2.below hb0)
  clear h1 h2 hs
  go_enter Try.func28, Try.ntmps28
  go_wp2_with fail
  generalize ((w.alloc (.cells #[.slice a1 n1 c1, .slice a2 n2 c2] 27)).alloc (.cells #[.int .i64 zu, .int .i64 zv] 55)).alloc (.cells #[.slice none 0 0, .slice none 0 0] 27) = W at *
  have lw : w.heap.size < W.heap.size := by rw [HS.out]; omega
  have lw1 : w.heap.size + 1 < W.heap.size := by rw [HS.out]; omega
  have lw2 : w.heap.size + 2 < W.heap.size := by rw [HS.out]; omega
  refine (Avr.impl_any a1 a2 n1 c1 n2 c2 l m W hz1 hz2 H1.out H2.out).mono ?_
  rintro e w1 ⟨rfl, b1⟩
  have r1 := (b1.cell (p := ⟨w.heap.size, 0, none⟩) lw).trans x1
  have r2 := (b1.cell (p := ⟨w.heap.size, 1, none⟩) lw).trans x2
  have r3 := (b1.cell (p := ⟨w.heap.size + 1, 0, none⟩) lw1).trans x3
  have s1 := (b1.cell (p := ⟨w.heap.size + 2, 0, none⟩) lw2).trans y1
  have s2 := (b1.cell (p := ⟨w.heap.size + 2, 1, none⟩) lw2).trans y2
  have t1 := fz b1 ⟨w.heap.size + 2, 0, none⟩ lw2 fy1
  have t2 := fz b1 ⟨w.heap.size + 2, 1, none⟩ lw2 fy2
  have HB1 := Lib.hid (hb0.trans (b1.mono hb0.size))
  cases hg : good l m with
  | false =>
    have HE := Lib.hid (addC_none (x := zu) (y := zv) (l := l) (m := m) (by rw [hg]; simp))
    clear hg
    go_wp2_with fail
    obtain ⟨q1, q2⟩ := set2_cells (u := .slice none 0 0) (v := .slice none 0 0) s1 s2
    refine bodyPost_ret (v := .tuple #[.agg #[.slice none 0 0, .slice none 0 0], .bool false]) (by simp [results, Try.results28, go_sem, q1, q2]) rfl ?_
    rw [HE.out]
    exact ⟨none, 0, 0, none, 0, 0, rfl, Got.nil _ _, by omega, by omega, ((HB1.out.setCell (p := ⟨w.heap.size + 2, 0, none⟩) (by show _ ≤ w.heap.size + 2; omega) _).setCell (p := ⟨w.heap.size + 2, 1, none⟩) (by show _ ≤ w.heap.size + 2; omega) _)⟩
  | true =>
    have HV := Lib.hid hg
    clear hg
    have hn1 : n1 ≤ 10 := by rw [← H1.out.1]; exact (good_asc HV.out).2
    go_wp2_with fail
    refine (Avr.placeOfContext_any a1 a2 n1 c1 n2 c2 l zu w1 hz1 (H1.out.below b1) (good_asc HV.out).1).mono ?_
    rintro e w2 ⟨rfl, b2⟩
    have b12 := b1.trans (b2.mono b1.size)
    have r1 := (b12.cell (p := ⟨w.heap.size, 0, none⟩) lw).trans x1
    have r2 := (b12.cell (p := ⟨w.heap.size, 1, none⟩) lw).trans x2
    obtain ⟨i, hi⟩ : ∃ i, pl l zu = i := ⟨_, rfl⟩
    have hil : i ≤ l.length := by rw [← hi]; exact pl_le l zu
    obtain ⟨r, hr⟩ : ∃ r, n1 = i + r := ⟨n1 - i, by rw [← H1.out.1]; omega⟩
    have HI := Lib.hid hi
    have HL1 : Hid ((l.take i).length = i) := by unfold Hid; rw [List.length_take]; omega
    have HL2 : Hid ((l.drop i).length = r) := by unfold Hid; rw [List.length_drop, H1.out.1]; omega
    generalize (isAt l zu).isSome = fnd
    rw [hi]
    clear hi
    subst hr
    clear r3
    go_wp2_with fail
    refine (copyRecord_any a1 a2 (i + r) c1 n2 c2 l m hz1 hz2 w2 (H1.out.below b12) (H2.out.below b12)).mono ?_
    rintro e w3 ⟨g1, g2, rfl, o3, b3⟩
    have hg1 : w2.heap.size ≤ g1 ∧ g1 < w3.heap.size := o3.ctx.lt g1 rfl
    have hg2 : w2.heap.size ≤ g2 ∧ g2 < w3.heap.size := o3.rel.lt g2 rfl
    have hs1 := b12.size
    have hs2 := b3.size
    have hg12 := o3.ne
    have b13 := b12.trans (b3.mono b12.size)
    have hba := ((below_alloc w3 (.cells #[.slice (some ⟨g1, 0, none⟩) (i + r) (i + r), .slice (some ⟨g2, 0, none⟩) n2 n2] 27)).alloc (by simp) (.cells #[.int .i64 zu, .int .i64 zv] 55))
    have b14 := b13.trans (hba.mono b13.size)
    have e4 : ((w3.alloc (.cells #[.slice (some ⟨g1, 0, none⟩) (i + r) (i + r), .slice (some ⟨g2, 0, none⟩) n2 n2] 27)).alloc (.cells #[.int .i64 zu, .int .i64 zv] 55)).heap.size = w3.heap.size + 2 := by simp
    have hbk1 := (hba.block g1 hg1.2).trans (block_of_own o3.ctx)
    have hbk2 := (hba.block g2 hg2.2).trans (block_of_own o3.rel)
    have hub : ((w3.alloc (.cells #[.slice (some ⟨g1, 0, none⟩) (i + r) (i + r), .slice (some ⟨g2, 0, none⟩) n2 n2] 27)).alloc (.cells #[.int .i64 zu, .int .i64 zv] 55)).heap[w3.heap.size]? = some (.cells #[.slice (some ⟨g1, 0, none⟩) (i + r) (i + r), .slice (some ⟨g2, 0, none⟩) n2 n2] 27) := ((below_alloc (w3.alloc (.cells #[.slice (some ⟨g1, 0, none⟩) (i + r) (i + r), .slice (some ⟨g2, 0, none⟩) n2 n2] 27)) (.cells #[.int .i64 zu, .int .i64 zv] 55)).block w3.heap.size (by simp)).trans (heap_alloc_new w3 _)
    have hpv : ((w3.alloc (.cells #[.slice (some ⟨g1, 0, none⟩) (i + r) (i + r), .slice (some ⟨g2, 0, none⟩) n2 n2] 27)).alloc (.cells #[.int .i64 zu, .int .i64 zv] 55)).heap[w3.heap.size + 1]? = some (.cells #[.int .i64 zu, .int .i64 zv] 55) := by have h := heap_alloc_new (w3.alloc (.cells #[.slice (some ⟨g1, 0, none⟩) (i + r) (i + r), .slice (some ⟨g2, 0, none⟩) n2 n2] 27)) (.cells #[.int .i64 zu, .int .i64 zv] 55); rw [show (w3.alloc (.cells #[.slice (some ⟨g1, 0, none⟩) (i + r) (i + r), .slice (some ⟨g2, 0, none⟩) n2 n2] 27)).heap.size = w3.heap.size + 1 by simp] at h; exact h
    have u1 := box_first w3 (.slice (some ⟨g1, 0, none⟩) (i + r) (i + r)) (.slice (some ⟨g2, 0, none⟩) n2 n2) 27
    have k3 := ((b13.trans ((below_alloc w3 (.cells #[.slice (some ⟨g1, 0, none⟩) (i + r) (i + r), .slice (some ⟨g2, 0, none⟩) n2 n2] 27)).mono b13.size)).cell (p := ⟨w.heap.size + 1, 0, none⟩) lw1).trans x3
    have k4 := ((b13.trans ((below_alloc w3 (.cells #[.slice (some ⟨g1, 0, none⟩) (i + r) (i + r), .slice (some ⟨g2, 0, none⟩) n2 n2] 27)).mono b13.size)).cell (p := ⟨w.heap.size + 1, 1, none⟩) lw1).trans x4
    have s1 := (b14.cell (p := ⟨w.heap.size + 2, 0, none⟩) lw2).trans y1
    have s2 := (b14.cell (p := ⟨w.heap.size + 2, 1, none⟩) lw2).trans y2
    have t1 := fz b14 ⟨w.heap.size + 2, 0, none⟩ lw2 fy1
    have t2 := fz b14 ⟨w.heap.size + 2, 1, none⟩ lw2 fy2
    have HB4 := Lib.hid (hb0.trans (b14.mono hb0.size))
    have HBK1 := Lib.hid hbk1
    have HBK2 := Lib.hid hbk2
    have HUB := Lib.hid hub
    have HPV := Lib.hid hpv
    have HE4 := Lib.hid e4
    clear o3 b3 b2 b12 b13 b14 hba hbk1 hbk2 hub hpv b1 x1 x2 x3 x4 y1 y2 fy1 fy2 r1 r2 e4
    go_wp2_with fail
    generalize (w3.alloc (.cells #[.slice (some ⟨g1, 0, none⟩) (i + r) (i + r), .slice (some ⟨g2, 0, none⟩) n2 n2] 27)).alloc (.cells #[.int .i64 zu, .int .i64 zv] 55) = W4 at *
    clear u1 k3 k4
    refine (InsC.insert_any w.heap.size g1 i r (l.take i) (l.drop i) zu zv (w3.heap.size + 1) HL1.out HL2.out hz1 W4 (by rw [List.take_append_drop]; exact HBK1.out) HPV.out (by omega) HB4.out.size).mono ?_
    rintro e w5 ⟨g', cap, rfl, hown, hat, hk5⟩
    have e5 := HE4.out
    have hu5 : w5.heap[w3.heap.size]? = some (.cells #[.slice (some ⟨g1, 0, none⟩) (i + r) (i + r), .slice (some ⟨g2, 0, none⟩) n2 n2] 27) := (hk5.block _ (by omega) (by omega)).trans HUB.out
    have hx6 := (setCell_block (a := .slice (some ⟨g', 0, none⟩) (i + r + 1) cap) hu5).1
    have c1' : w5.cell? ⟨w3.heap.size, 0, none⟩ = some (.slice (some ⟨g1, 0, none⟩) (i + r) (i + r)) := by simp only [World.cell?, hu5]; rfl
    have c2' : w5.cell? ⟨w3.heap.size, 1, none⟩ = some (.slice (some ⟨g2, 0, none⟩) n2 n2) := by simp only [World.cell?, hu5]; rfl
    have d1' : w5.frozen? ⟨w3.heap.size, 0, none⟩ = false := by simp only [World.frozen?, hu5]; rfl
    have hgb : g' ≠ w3.heap.size := by omega
    have hng2 : g' ≠ g2 := by omega
    have hk6 : Kept (fun b => b = g1 ∨ b = w3.heap.size) W4 (w5.setCell ⟨w3.heap.size, 0, none⟩ (.slice (some ⟨g', 0, none⟩) (i + r + 1) cap)) := (hk5.mono (fun _ => .inl)).setCell (g := w3.heap.size) (.inr rfl) _
    have hown6 := setCell_far (g := w3.heap.size) (o := 0) (u := .slice (some ⟨g', 0, none⟩) (i + r + 1) cap) hown (fun e => hgb (by simpa [Value.ownBlock] using e))
    have hrel6 : (w5.setCell ⟨w3.heap.size, 0, none⟩ (.slice (some ⟨g', 0, none⟩) (i + r + 1) cap)).heap[g2]? = some (.cells (flat m).toArray 39) := (hk6.block g2 (by omega) (by omega)).trans HBK2.out
    have s16 := hk6.cell s1 (by show ¬ (w.heap.size + 2 = g1 ∨ w.heap.size + 2 = w3.heap.size); omega)
    have s26 := hk6.cell s2 (by show ¬ (w.heap.size + 2 = g1 ∨ w.heap.size + 2 = w3.heap.size); omega)
    have t16 : (w5.setCell ⟨w3.heap.size, 0, none⟩ (.slice (some ⟨g', 0, none⟩) (i + r + 1) cap)).frozen? ⟨w.heap.size + 2, 0, none⟩ = false := (World.frozen?_of_block (hk6.block (w.heap.size + 2) (by omega) (by omega))).trans t1
    have t26 : (w5.setCell ⟨w3.heap.size, 0, none⟩ (.slice (some ⟨g', 0, none⟩) (i + r + 1) cap)).frozen? ⟨w.heap.size + 2, 1, none⟩ = false := (World.frozen?_of_block (hk6.block (w.heap.size + 2) (by omega) (by omega))).trans t2
    have HX6 := Lib.hid hx6
    have HOWN := Lib.hid hown6
    have HREL := Lib.hid (own_of_block (B := w.heap.size) hrel6 H2.out.1 hz2 (by omega))
    have HB6 : Hid (Below w.heap.size w (w5.setCell ⟨w3.heap.size, 0, none⟩ (.slice (some ⟨g', 0, none⟩) (i + r + 1) cap))) := HB4.out.trans (hk6.below (fun b hb => by rcases hb with rfl | rfl <;> omega) HB4.out.size)
    have hs6 := hk6.size
    clear hu5 hx6 hk5 hk6 hown hown6 hrel6 s1 s2 t1 t2
    go_wp2_with fail
    generalize w5.setCell ⟨w3.heap.size, 0, none⟩ (.slice (some ⟨g', 0, none⟩) (i + r + 1) cap) = X6 at *
    have hins : l.take i ++ (zu, zv) :: l.drop i = ins l (pl l zu) (zu, zv) := by rw [HI.out]; rfl
    have HINS := Lib.hid hins
    clear c1' c2' d1' hins
    cases hg2' : good (l.take i ++ (zu, zv) :: l.drop i) m with
    | false =>
      have HE := Lib.hid (addC_none (x := zu) (y := zv) (l := l) (m := m) (fun h => by rw [← HINS.out, hg2'] at h; cases h.2))
      refine (ifValid_false (some ⟨g', 0, none⟩) (some ⟨g2, 0, none⟩) (i + r + 1) cap n2 n2 _ m X6 (by omega) hz2 (holds_own HOWN.out) (holds_own HREL.out) hg2').mono ?_
      rintro e w7 ⟨rfl, b7⟩
      have s17 := (b7.cell (p := ⟨w.heap.size + 2, 0, none⟩) (by show w.heap.size + 2 < _; omega)).trans s16
      have s27 := (b7.cell (p := ⟨w.heap.size + 2, 1, none⟩) (by show w.heap.size + 2 < _; omega)).trans s26
      have t17 := fz b7 ⟨w.heap.size + 2, 0, none⟩ (by show w.heap.size + 2 < _; omega) t16
      have t27 := fz b7 ⟨w.heap.size + 2, 1, none⟩ (by show w.heap.size + 2 < _; omega) t26
      clear hg2' s16 s26 t16 t26
      go_wp2_with fail
      obtain ⟨q1, q2⟩ := set2_cells (u := .slice none 0 0) (v := .slice none 0 0) s17 s27
      refine bodyPost_ret (v := .tuple #[.agg #[.slice none 0 0, .slice none 0 0], .bool false]) (by simp [results, Try.results28, go_sem, q1, q2]) rfl ?_
      rw [HE.out]
      have hB7 := HB6.out.trans (b7.mono HB6.out.size)
      exact ⟨none, 0, 0, none, 0, 0, rfl, Got.nil _ _, by omega, by omega, ((hB7.setCell (p := ⟨w.heap.size + 2, 0, none⟩) (by show _ ≤ w.heap.size + 2; omega) _).setCell (p := ⟨w.heap.size + 2, 1, none⟩) (by show _ ≤ w.heap.size + 2; omega) _)⟩
    | true =>
      have HE := Lib.hid (addC_some (x := zu) (y := zv) HV.out (by rw [← HINS.out]; exact hg2'))
      refine (ifValid_true (some ⟨g', 0, none⟩) (some ⟨g2, 0, none⟩) (i + r + 1) cap n2 n2 _ m X6 (by omega) hz2 (holds_own HOWN.out) (holds_own HREL.out) hg2').mono ?_
      rintro e w7 ⟨rfl, b7⟩
      have s17 := (b7.cell (p := ⟨w.heap.size + 2, 0, none⟩) (by show w.heap.size + 2 < _; omega)).trans s16
      have s27 := (b7.cell (p := ⟨w.heap.size + 2, 1, none⟩) (by show w.heap.size + 2 < _; omega)).trans s26
      have t17 := fz b7 ⟨w.heap.size + 2, 0, none⟩ (by show w.heap.size + 2 < _; omega) t16
      have t27 := fz b7 ⟨w.heap.size + 2, 1, none⟩ (by show w.heap.size + 2 < _; omega) t26
      clear hg2' s16 s26 t16 t26
      go_wp2_with fail
      obtain ⟨q1, q2⟩ := set2_cells (u := .slice (some ⟨g', 0, none⟩) (i + r + 1) cap) (v := .slice (some ⟨g2, 0, none⟩) n2 n2) s17 s27
      refine bodyPost_ret (v := .tuple #[.agg #[.slice (some ⟨g', 0, none⟩) (i + r + 1) cap, .slice (some ⟨g2, 0, none⟩) n2 n2], .bool true]) (by simp [results, Try.results28, go_sem, q1, q2]) rfl ?_
      rw [HE.out]
      have hB7 := HB6.out.trans (b7.mono HB6.out.size)
      have f1 : (Value.slice (some ⟨g', 0, none⟩) (i + r + 1) cap).ownBlock ≠ some (w.heap.size + 2) := own_off (by omega)
      have f2 : (Value.slice (some ⟨g2, 0, none⟩) n2 n2).ownBlock ≠ some (w.heap.size + 2) := own_off (by omega)
      refine ⟨some ⟨g', 0, none⟩, i + r + 1, cap, some ⟨g2, 0, none⟩, n2, n2, rfl, ⟨?_, setCell_far (setCell_far (ownsRow_below HREL.out b7) f2) f2, ?_⟩, by omega, by omega, ((hB7.setCell (p := ⟨w.heap.size + 2, 0, none⟩) (by show _ ≤ w.heap.size + 2; omega) _).setCell (p := ⟨w.heap.size + 2, 1, none⟩) (by show _ ≤ w.heap.size + 2; omega) _)⟩
      · show World.ownsRow _ _ _ _ _ _ (flat (ins l (pl l zu) (zu, zv)))
        rw [← HINS.out]
        exact setCell_far (setCell_far (ownsRow_below HOWN.out b7) f1) f1
      · intro g e1 e2
        have e1' : g' = g := by simpa [Value.ownBlock] using e1
        have e2' : g2 = g := by simpa [Value.ownBlock] using e2
        exact hng2 (e1'.trans e2'.symm)
end Go.Proofs.Ythcjembekadijaa.AddC
