/- The program's AddRelation: a record with a relation more. -/
import Derived.Test.YtknlackphdcflaaInsR
import Derived.Test.YtknlackphdcflaaSearchR
import Derived.Test.YtknlackphdcflaaAddC
import Derived.Test.YtknlackphdcflaaAddRM
namespace Go.Proofs.Ytknlackphdcflaa.AddR
open Go.RowKit Pairs Rec RecEq Find2 GoodM RelM Keep Row2 Copy Two Gives Idx SearchR
open RemC (block_of_own)
open AddC (boxes222 ifValid_true ifValid_false own_off)
open AddRM

theorem okR_before {l m : List (Int × Int)} {k : Nat} {x y : Int × Int} (h : okR l m (k + 1) = true) (hx : m[k]? = some x) (hy : m[k + 1]? = some y) : before x y = true := by
  unfold okR at h
  rw [hy, Nat.add_sub_cancel, hx] at h
  rw [before_iff]
  simp at h
  omega
theorem asc2_of_good {l m : List (Int × Int)} (h : good l m = true) : Asc2 m := by
  have hR : ∀ j, j < m.length → okR l m j = true := by
    unfold good at h
    simp only [Bool.and_eq_true, List.all_eq_true] at h
    exact fun j hj => h.2 j (List.mem_range.2 hj)
  have step : ∀ (d i : Nat) (x y : Int × Int), m[i]? = some x → m[i + d + 1]? = some y → before x y = true := by
    intro d
    induction d with
    | zero =>
      intro i x y hx hy
      exact okR_before (hR (i + 1) (List.getElem?_eq_some_iff.1 hy).1) hx hy
    | succ d ih =>
      intro i x y hx hy
      have hl : i + d + 1 < m.length := by have := (List.getElem?_eq_some_iff.1 hy).1; omega
      have hz : m[i + d + 1]? = some m[i + d + 1] := List.getElem?_eq_getElem hl
      exact before_trans (ih i x _ hx hz) (okR_before (hR (i + d + 1 + 1) (List.getElem?_eq_some_iff.1 hy).1) hz hy)
  intro i j x y hij hx hy
  by_cases e : i = j
  · subst e
    rw [hx] at hy
    injection hy with hy
    exact .inl hy
  · obtain ⟨d, rfl⟩ : ∃ d, j = i + d + 1 := ⟨j - i - 1, by omega⟩
    exact .inr (step d i x y hx hy)
set_option maxRecDepth 100000 in
set_option maxHeartbeats 8000000 in
theorem impl_any (zu zv : Int) : Gives1 19 (.agg #[.int .i64 zu, .int .i64 zv]) (addR zu zv) := by
  intro a1 a2 n1 c1 n2 c2 l m w hz1 hz2 h1 h2
  obtain ⟨hs, x1, x2, x3, x4, y1, y2, fy1, fy2, hb0⟩ := boxes222 w (.slice a1 n1 c1) (.slice a2 n2 c2) (.int .i64 zu) (.int .i64 zv) (.slice none 0 0) (.slice none 0 0) 32 44 32
  have HS := Lib.hid hs
  have H1 := Lib.hid (h1.below hb0)
  have H2 := Lib.hid (h2.below hb0)
  clear h1 h2 hs
  go_enter Try.func19, Try.ntmps19
  go_wp2_with fail
  generalize ((w.alloc (.cells #[.slice a1 n1 c1, .slice a2 n2 c2] 32)).alloc (.cells #[.int .i64 zu, .int .i64 zv] 44)).alloc (.cells #[.slice none 0 0, .slice none 0 0] 32) = W at *
  have lw : w.heap.size < W.heap.size := by rw [HS.out]; omega
  have lw1 : w.heap.size + 1 < W.heap.size := by rw [HS.out]; omega
  have lw2 : w.heap.size + 2 < W.heap.size := by rw [HS.out]; omega
  refine (Avr.impl_any a1 a2 n1 c1 n2 c2 l m W hz1 hz2 H1.out H2.out).mono ?_
  rintro e w1 ⟨rfl, b1⟩
  have r1 := (b1.cell (p := ⟨w.heap.size, 0, none⟩) lw).trans x1
  have r2 := (b1.cell (p := ⟨w.heap.size, 1, none⟩) lw).trans x2
  have s1 := (b1.cell (p := ⟨w.heap.size + 2, 0, none⟩) lw2).trans y1
  have s2 := (b1.cell (p := ⟨w.heap.size + 2, 1, none⟩) lw2).trans y2
  have t1 := fz b1 ⟨w.heap.size + 2, 0, none⟩ lw2 fy1
  have t2 := fz b1 ⟨w.heap.size + 2, 1, none⟩ lw2 fy2
  have HB1 := Lib.hid (hb0.trans (b1.mono hb0.size))
  cases hg : good l m with
  | false =>
    have HE := Lib.hid (addR_none (x := zu) (y := zv) (l := l) (m := m) (by rw [hg]; simp))
    clear hg
    go_wp2_with fail
    obtain ⟨q1, q2⟩ := set2_cells (u := .slice none 0 0) (v := .slice none 0 0) s1 s2
    refine bodyPost_ret (v := .tuple #[.agg #[.slice none 0 0, .slice none 0 0], .bool false]) (by simp [results, Try.results19, go_sem, q1, q2]) rfl ?_
    rw [HE.out]
    exact ⟨none, 0, 0, none, 0, 0, rfl, Got.nil _ _, by omega, by omega, ((HB1.out.setCell (p := ⟨w.heap.size + 2, 0, none⟩) (by show _ ≤ w.heap.size + 2; omega) _).setCell (p := ⟨w.heap.size + 2, 1, none⟩) (by show _ ≤ w.heap.size + 2; omega) _)⟩
  | true =>
    have HV := Lib.hid hg
    clear hg
    have hn2 : n2 ≤ 24 := by rw [← H2.out.1]; exact (RemCS.good_few HV.out).2
    obtain ⟨i, hi⟩ : ∃ i, plR m (zu, zv) = i := ⟨_, rfl⟩
    have hil : i ≤ m.length := by rw [← hi]; exact plR_le m _
    obtain ⟨r, hr⟩ : ∃ r, n2 = i + r := ⟨n2 - i, by rw [← H2.out.1]; omega⟩
    have HI := Lib.hid hi
    have HL1 : Hid ((m.take i).length = i) := by unfold Hid; rw [List.length_take]; omega
    have HL2 : Hid ((m.drop i).length = r) := by unfold Hid; rw [List.length_drop, H2.out.1]; omega
    clear hi
    subst hr
    go_wp2_with fail
    refine (copyRecord_any a1 a2 n1 c1 (i + r) c2 l m hz1 hz2 w1 (H1.out.below b1) (H2.out.below b1)).mono ?_
    rintro e w3 ⟨g1, g2, rfl, o3, b3⟩
    have hg1 : w1.heap.size ≤ g1 ∧ g1 < w3.heap.size := o3.ctx.lt g1 rfl
    have hg2 : w1.heap.size ≤ g2 ∧ g2 < w3.heap.size := o3.rel.lt g2 rfl
    have hs1 := b1.size
    have hs2 := b3.size
    have hg12 := o3.ne
    have b13 := b1.trans (b3.mono b1.size)
    have hba := below_alloc w3 (.cells #[.slice (some ⟨g1, 0, none⟩) n1 n1, .slice (some ⟨g2, 0, none⟩) (i + r) (i + r)] 32)
    have b14 := b13.trans (hba.mono b13.size)
    have e4 : (w3.alloc (.cells #[.slice (some ⟨g1, 0, none⟩) n1 n1, .slice (some ⟨g2, 0, none⟩) (i + r) (i + r)] 32)).heap.size = w3.heap.size + 1 := by simp
    have hbk1 := (hba.block g1 hg1.2).trans (block_of_own o3.ctx)
    have hbk2 := (hba.block g2 hg2.2).trans (block_of_own o3.rel)
    have hub := heap_alloc_new w3 (.cells #[.slice (some ⟨g1, 0, none⟩) n1 n1, .slice (some ⟨g2, 0, none⟩) (i + r) (i + r)] 32)
    have u1 := box_first w3 (.slice (some ⟨g1, 0, none⟩) n1 n1) (.slice (some ⟨g2, 0, none⟩) (i + r) (i + r)) 32
    have u2' := box_second w3 (.slice (some ⟨g1, 0, none⟩) n1 n1) (.slice (some ⟨g2, 0, none⟩) (i + r) (i + r)) 32
    have k3 := (b14.cell (p := ⟨w.heap.size + 1, 0, none⟩) lw1).trans x3
    have k4 := (b14.cell (p := ⟨w.heap.size + 1, 1, none⟩) lw1).trans x4
    have HBK1 := Lib.hid hbk1
    have HBK2 := Lib.hid hbk2
    have HUB := Lib.hid hub
    have HE4 := Lib.hid e4
    have HHR := Lib.hid ((holds_of o3.rel).below hba)
    have HB4 := Lib.hid b14
    clear o3 b3 b13 b14 hba hbk1 hbk2 hub b1 r1 r2 s1 s2 t1 t2 e4 HB1
    go_wp2_with fail
    generalize w3.alloc (.cells #[.slice (some ⟨g1, 0, none⟩) n1 n1, .slice (some ⟨g2, 0, none⟩) (i + r) (i + r)] 32) = W4 at *
    refine (search_any (some ⟨g2, 0, none⟩) (i + r) (i + r) m zu zv W4 (by omega) HHR.out (asc2_of_good HV.out)).mono ?_
    rintro e w4 ⟨rfl, b4⟩
    rw [isAtR_eq HI.out, HI.out]
    have e5 := HE4.out
    have hs4 := b4.size
    have HB5 := Lib.hid (hb0.trans ((HB4.out.trans (b4.mono HB4.out.size)).mono hb0.size))
    have l2 : w.heap.size + 2 < W4.heap.size := by omega
    have k3' := (b4.cell (p := ⟨w.heap.size + 1, 0, none⟩) (by show w.heap.size + 1 < _; omega)).trans k3
    have k4' := (b4.cell (p := ⟨w.heap.size + 1, 1, none⟩) (by show w.heap.size + 1 < _; omega)).trans k4
    have u1' := (b4.cell (p := ⟨w3.heap.size, 0, none⟩) (by show w3.heap.size < _; omega)).trans u1
    have u2'' := (b4.cell (p := ⟨w3.heap.size, 1, none⟩) (by show w3.heap.size < _; omega)).trans u2'
    have s1 := (b4.cell (p := ⟨w.heap.size + 2, 0, none⟩) l2).trans ((HB4.out.cell (p := ⟨w.heap.size + 2, 0, none⟩) lw2).trans y1)
    have s2 := (b4.cell (p := ⟨w.heap.size + 2, 1, none⟩) l2).trans ((HB4.out.cell (p := ⟨w.heap.size + 2, 1, none⟩) lw2).trans y2)
    have t1 := fz b4 ⟨w.heap.size + 2, 0, none⟩ l2 (fz HB4.out ⟨w.heap.size + 2, 0, none⟩ lw2 fy1)
    have t2 := fz b4 ⟨w.heap.size + 2, 1, none⟩ l2 (fz HB4.out ⟨w.heap.size + 2, 1, none⟩ lw2 fy2)
    have HC1 := Lib.hid ((b4.block g1 (by omega)).trans HBK1.out)
    have HC2 := Lib.hid ((b4.block g2 (by omega)).trans HBK2.out)
    have HC3 := Lib.hid ((b4.block w3.heap.size (by omega)).trans HUB.out)
    have hw4 : w3.heap.size < w4.heap.size := by omega
    clear u1 u2' k3 k4 b4 HBK1 HBK2 HUB HHR x1 x2 x3 x4 y1 y2 fy1 fy2 e5
    by_cases hat : m[i]? = some (zu, zv)
    · have hlk : link m (zu, zv) = m := by unfold link; rw [HI.out, if_pos hat]
      have HE := Lib.hid (addR_some (x := zu) (y := zv) HV.out (by rw [hlk]; exact HV.out))
      have HLK := Lib.hid hlk
      have hdt : decide (m[i]? = some (zu, zv)) = true := decide_eq_true hat
      rw [hdt]
      clear hat hlk hdt
      go_wp2_with fail
      have O1 := Lib.hid (own_of_block (B := w.heap.size) HC1.out H1.out.1 hz1 (by omega))
      have O2 := Lib.hid (own_of_block (B := w.heap.size) HC2.out H2.out.1 hz2 (by omega))
      refine (ifValid_true (some ⟨g1, 0, none⟩) (some ⟨g2, 0, none⟩) n1 n1 (i + r) (i + r) l m w4 hz1 hz2 (holds_own O1.out) (holds_own O2.out) HV.out).mono ?_
      rintro e w7 ⟨rfl, b7⟩
      have l7 : w.heap.size + 2 < w4.heap.size := by omega
      have s17 := (b7.cell (p := ⟨w.heap.size + 2, 0, none⟩) l7).trans s1
      have s27 := (b7.cell (p := ⟨w.heap.size + 2, 1, none⟩) l7).trans s2
      have t17 := fz b7 ⟨w.heap.size + 2, 0, none⟩ l7 t1
      have t27 := fz b7 ⟨w.heap.size + 2, 1, none⟩ l7 t2
      clear s1 s2 t1 t2
      go_wp2_with fail
      obtain ⟨q1, q2⟩ := set2_cells (u := .slice (some ⟨g1, 0, none⟩) n1 n1) (v := .slice (some ⟨g2, 0, none⟩) (i + r) (i + r)) s17 s27
      refine bodyPost_ret (v := .tuple #[.agg #[.slice (some ⟨g1, 0, none⟩) n1 n1, .slice (some ⟨g2, 0, none⟩) (i + r) (i + r)], .bool true]) (by simp [results, Try.results19, go_sem, q1, q2]) rfl ?_
      rw [HE.out, HLK.out]
      have hB7 := HB5.out.trans (b7.mono HB5.out.size)
      have f1 : (Value.slice (some ⟨g1, 0, none⟩) n1 n1).ownBlock ≠ some (w.heap.size + 2) := own_off (by omega)
      have f2 : (Value.slice (some ⟨g2, 0, none⟩) (i + r) (i + r)).ownBlock ≠ some (w.heap.size + 2) := own_off (by omega)
      refine ⟨some ⟨g1, 0, none⟩, n1, n1, some ⟨g2, 0, none⟩, i + r, i + r, rfl, ⟨setCell_far (setCell_far (ownsRow_below O1.out b7) f1) f1, setCell_far (setCell_far (ownsRow_below O2.out b7) f2) f2, ?_⟩, by omega, by omega, ((hB7.setCell (p := ⟨w.heap.size + 2, 0, none⟩) (by show _ ≤ w.heap.size + 2; omega) _).setCell (p := ⟨w.heap.size + 2, 1, none⟩) (by show _ ≤ w.heap.size + 2; omega) _)⟩
      intro g e1 e2
      have e1' : g1 = g := by simpa [Value.ownBlock] using e1
      have e2' : g2 = g := by simpa [Value.ownBlock] using e2
      exact hg12 (e1'.trans e2'.symm)
    · have hlk : link m (zu, zv) = m.take i ++ (zu, zv) :: m.drop i := by unfold link; rw [HI.out, if_neg hat]; rfl
      have HLK := Lib.hid hlk
      have hdt : decide (m[i]? = some (zu, zv)) = false := decide_eq_false hat
      rw [hdt]
      clear hat hlk hdt
      go_wp2_with fail
      have hpa := below_alloc w4 (.cells #[.int .i64 zu, .int .i64 zv] 44)
      have hpv := heap_alloc_new w4 (.cells #[.int .i64 zu, .int .i64 zv] 44)
      have e6 : (w4.alloc (.cells #[.int .i64 zu, .int .i64 zv] 44)).heap.size = w4.heap.size + 1 := by simp
      have HD1 := Lib.hid ((hpa.block g1 (by omega)).trans HC1.out)
      have HD2 := Lib.hid ((hpa.block g2 (by omega)).trans HC2.out)
      have HD3 := Lib.hid ((hpa.block w3.heap.size (by omega)).trans HC3.out)
      have HPV := Lib.hid hpv
      have HE6 := Lib.hid e6
      have l7 : w.heap.size + 2 < w4.heap.size := by omega
      have s14 := (hpa.cell (p := ⟨w.heap.size + 2, 0, none⟩) l7).trans s1
      have s24 := (hpa.cell (p := ⟨w.heap.size + 2, 1, none⟩) l7).trans s2
      have t14 := fz hpa ⟨w.heap.size + 2, 0, none⟩ l7 t1
      have t24 := fz hpa ⟨w.heap.size + 2, 1, none⟩ l7 t2
      have HB6 := Lib.hid (HB5.out.trans (hpa.mono HB5.out.size))
      clear s1 s2 t1 t2 hpa hpv e6 k3' k4' u1' u2''
      generalize w4.alloc (.cells #[.int .i64 zu, .int .i64 zv] 44) = W6 at *
      refine (InsR.insert_any w.heap.size g2 i r (m.take i) (m.drop i) zu zv w4.heap.size HL1.out HL2.out hz2 W6 (by rw [List.take_append_drop]; exact HD2.out) HPV.out (by omega) HB6.out.size).mono ?_
      rintro e w5 ⟨g', cap, rfl, hown, hat', hk5⟩
      have e5 := HE6.out
      have hu5 : w5.heap[w3.heap.size]? = some (.cells #[.slice (some ⟨g1, 0, none⟩) n1 n1, .slice (some ⟨g2, 0, none⟩) (i + r) (i + r)] 32) := (hk5.block _ (by omega) (by omega)).trans HD3.out
      have hx6 := (setCell_block (a := .slice (some ⟨g', 0, none⟩) (i + r + 1) cap) hu5).2
      have c1' : w5.cell? ⟨w3.heap.size, 0, none⟩ = some (.slice (some ⟨g1, 0, none⟩) n1 n1) := by simp only [World.cell?, hu5]; rfl
      have c2' : w5.cell? ⟨w3.heap.size, 1, none⟩ = some (.slice (some ⟨g2, 0, none⟩) (i + r) (i + r)) := by simp only [World.cell?, hu5]; rfl
      have d1' : w5.frozen? ⟨w3.heap.size, 1, none⟩ = false := by simp only [World.frozen?, hu5]; rfl
      have hgb : g' ≠ w3.heap.size := by omega
      have hng : g' ≠ g1 := by omega
      have hk6 : Kept (fun b => b = g2 ∨ b = w3.heap.size) W6 (w5.setCell ⟨w3.heap.size, 1, none⟩ (.slice (some ⟨g', 0, none⟩) (i + r + 1) cap)) := (hk5.mono (fun _ => .inl)).setCell (g := w3.heap.size) (.inr rfl) _
      have hown6 := setCell_far (g := w3.heap.size) (o := 1) (u := .slice (some ⟨g', 0, none⟩) (i + r + 1) cap) hown (fun e => hgb (by simpa [Value.ownBlock] using e))
      have hctx6 : (w5.setCell ⟨w3.heap.size, 1, none⟩ (.slice (some ⟨g', 0, none⟩) (i + r + 1) cap)).heap[g1]? = some (.cells (flat l).toArray 36) := (hk6.block g1 (by omega) (by omega)).trans HD1.out
      have s16 := hk6.cell s14 (by show ¬ (w.heap.size + 2 = g2 ∨ w.heap.size + 2 = w3.heap.size); omega)
      have s26 := hk6.cell s24 (by show ¬ (w.heap.size + 2 = g2 ∨ w.heap.size + 2 = w3.heap.size); omega)
      have t16 : (w5.setCell ⟨w3.heap.size, 1, none⟩ (.slice (some ⟨g', 0, none⟩) (i + r + 1) cap)).frozen? ⟨w.heap.size + 2, 0, none⟩ = false := (World.frozen?_of_block (hk6.block (w.heap.size + 2) (by omega) (by omega))).trans t14
      have t26 : (w5.setCell ⟨w3.heap.size, 1, none⟩ (.slice (some ⟨g', 0, none⟩) (i + r + 1) cap)).frozen? ⟨w.heap.size + 2, 1, none⟩ = false := (World.frozen?_of_block (hk6.block (w.heap.size + 2) (by omega) (by omega))).trans t24
      have HX6 := Lib.hid hx6
      have HOWN := Lib.hid hown6
      have HCT := Lib.hid (own_of_block (B := w.heap.size) hctx6 H1.out.1 hz1 (by omega))
      have HB7 : Hid (Below w.heap.size w (w5.setCell ⟨w3.heap.size, 1, none⟩ (.slice (some ⟨g', 0, none⟩) (i + r + 1) cap))) := HB6.out.trans (hk6.below (fun b hb => by rcases hb with rfl | rfl <;> omega) HB6.out.size)
      have hs6 := hk6.size
      clear hu5 hx6 hk5 hk6 hown hown6 hctx6 s14 s24 t14 t24
      go_wp2_with fail
      generalize w5.setCell ⟨w3.heap.size, 1, none⟩ (.slice (some ⟨g', 0, none⟩) (i + r + 1) cap) = X6 at *
      clear c1' c2' d1'
      cases hg2' : good l (m.take i ++ (zu, zv) :: m.drop i) with
      | false =>
        have HE := Lib.hid (addR_none (x := zu) (y := zv) (l := l) (m := m) (fun h => by rw [HLK.out, hg2'] at h; cases h.2))
        refine (ifValid_false (some ⟨g1, 0, none⟩) (some ⟨g', 0, none⟩) n1 n1 (i + r + 1) cap l _ X6 hz1 (by omega) (holds_own HCT.out) (holds_own HOWN.out) hg2').mono ?_
        rintro e w7 ⟨rfl, b7⟩
        have s17 := (b7.cell (p := ⟨w.heap.size + 2, 0, none⟩) (by show w.heap.size + 2 < _; omega)).trans s16
        have s27 := (b7.cell (p := ⟨w.heap.size + 2, 1, none⟩) (by show w.heap.size + 2 < _; omega)).trans s26
        have t17 := fz b7 ⟨w.heap.size + 2, 0, none⟩ (by show w.heap.size + 2 < _; omega) t16
        have t27 := fz b7 ⟨w.heap.size + 2, 1, none⟩ (by show w.heap.size + 2 < _; omega) t26
        clear hg2' s16 s26 t16 t26
        go_wp2_with fail
        obtain ⟨q1, q2⟩ := set2_cells (u := .slice none 0 0) (v := .slice none 0 0) s17 s27
        refine bodyPost_ret (v := .tuple #[.agg #[.slice none 0 0, .slice none 0 0], .bool false]) (by simp [results, Try.results19, go_sem, q1, q2]) rfl ?_
        rw [HE.out]
        have hB7 := HB7.out.trans (b7.mono HB7.out.size)
        exact ⟨none, 0, 0, none, 0, 0, rfl, Got.nil _ _, by omega, by omega, ((hB7.setCell (p := ⟨w.heap.size + 2, 0, none⟩) (by show _ ≤ w.heap.size + 2; omega) _).setCell (p := ⟨w.heap.size + 2, 1, none⟩) (by show _ ≤ w.heap.size + 2; omega) _)⟩
      | true =>
        have HE := Lib.hid (addR_some (x := zu) (y := zv) HV.out (by rw [HLK.out]; exact hg2'))
        refine (ifValid_true (some ⟨g1, 0, none⟩) (some ⟨g', 0, none⟩) n1 n1 (i + r + 1) cap l _ X6 hz1 (by omega) (holds_own HCT.out) (holds_own HOWN.out) hg2').mono ?_
        rintro e w7 ⟨rfl, b7⟩
        have s17 := (b7.cell (p := ⟨w.heap.size + 2, 0, none⟩) (by show w.heap.size + 2 < _; omega)).trans s16
        have s27 := (b7.cell (p := ⟨w.heap.size + 2, 1, none⟩) (by show w.heap.size + 2 < _; omega)).trans s26
        have t17 := fz b7 ⟨w.heap.size + 2, 0, none⟩ (by show w.heap.size + 2 < _; omega) t16
        have t27 := fz b7 ⟨w.heap.size + 2, 1, none⟩ (by show w.heap.size + 2 < _; omega) t26
        clear hg2' s16 s26 t16 t26
        go_wp2_with fail
        obtain ⟨q1, q2⟩ := set2_cells (u := .slice (some ⟨g1, 0, none⟩) n1 n1) (v := .slice (some ⟨g', 0, none⟩) (i + r + 1) cap) s17 s27
        refine bodyPost_ret (v := .tuple #[.agg #[.slice (some ⟨g1, 0, none⟩) n1 n1, .slice (some ⟨g', 0, none⟩) (i + r + 1) cap], .bool true]) (by simp [results, Try.results19, go_sem, q1, q2]) rfl ?_
        rw [HE.out]
        have hB7 := HB7.out.trans (b7.mono HB7.out.size)
        have f1 : (Value.slice (some ⟨g', 0, none⟩) (i + r + 1) cap).ownBlock ≠ some (w.heap.size + 2) := own_off (by omega)
        have f2 : (Value.slice (some ⟨g1, 0, none⟩) n1 n1).ownBlock ≠ some (w.heap.size + 2) := own_off (by omega)
        refine ⟨some ⟨g1, 0, none⟩, n1, n1, some ⟨g', 0, none⟩, i + r + 1, cap, rfl, ⟨setCell_far (setCell_far (ownsRow_below HCT.out b7) f2) f2, ?_, ?_⟩, by omega, by omega, ((hB7.setCell (p := ⟨w.heap.size + 2, 0, none⟩) (by show _ ≤ w.heap.size + 2; omega) _).setCell (p := ⟨w.heap.size + 2, 1, none⟩) (by show _ ≤ w.heap.size + 2; omega) _)⟩
        · show World.ownsRow _ _ _ _ _ _ (flat (link m (zu, zv)))
          rw [HLK.out]
          exact setCell_far (setCell_far (ownsRow_below HOWN.out b7) f1) f1
        · intro g e1 e2
          have e1' : g1 = g := by simpa [Value.ownBlock] using e1
          have e2' : g' = g := by simpa [Value.ownBlock] using e2
          exact hng (e2'.trans e1'.symm)
end Go.Proofs.Ytknlackphdcflaa.AddR
