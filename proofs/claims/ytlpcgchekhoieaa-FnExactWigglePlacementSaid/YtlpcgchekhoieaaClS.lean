/- CalibrateAge: the model. -/
import Derived.Test.YtlpcgchekhoieaaClI
import Derived.Test.YtlpcgchekhoieaaRdS
namespace Go.Proofs.Ytlpcgchekhoieaa.ClS
open Go Go.RowKit Pairs Rec Keep GivesI Cu CvM PtM PtI Sw ShI Di RdM Yr ClI
set_option linter.unusedVariables false
theorem two2 (w : World) (u v : Value) (T2 T3 : TypeId) :
    ((w.alloc (.cells #[u, v] T2)).alloc (.cells #[.int .i64 0, .slice none 0 0] T3)).cell? ⟨w.heap.size, 0, none⟩ = some u ∧
    ((w.alloc (.cells #[u, v] T2)).alloc (.cells #[.int .i64 0, .slice none 0 0] T3)).cell? ⟨w.heap.size, 1, none⟩ = some v ∧
    Bx ((w.alloc (.cells #[u, v] T2)).alloc (.cells #[.int .i64 0, .slice none 0 0] T3)) (w.heap.size + 1) (.int .i64 0) (.slice none 0 0) ∧
    Below w.heap.size w ((w.alloc (.cells #[u, v] T2)).alloc (.cells #[.int .i64 0, .slice none 0 0] T3)) := by
  have hs : (w.alloc (.cells #[u, v] T2)).heap.size = w.heap.size + 1 := by simp
  have h2 := bx_new w u v T2
  have h3 := bx_new (w.alloc (.cells #[u, v] T2)) (.int .i64 0) (.slice none 0 0) T3
  rw [hs] at h3
  have h2' := h2.below (below_alloc (w.alloc (.cells #[u, v] T2)) (.cells #[.int .i64 0, .slice none 0 0] T3))
  exact ⟨h2'.c0, h2'.c1, h3, below_alloc2 _ _ _⟩
/-- The weights of the first k years. -/
def ys (L : List Dt) (m : Int × Int) (t0 t1 : Int) (k : Nat) : List Int := ((yrs t0 t1).take k).map (swt L m)
theorem ys_len {L : List Dt} {m : Int × Int} {t0 t1 : Int} {k : Nat} (h : k ≤ (t1 + 1 - t0).toNat) : (ys L m t0 t1 k).length = k := by
  unfold ys
  rw [List.length_map, List.length_take, yrs_len]
  omega
theorem ys_next {L : List Dt} {m : Int × Int} {t0 t1 : Int} {k : Nat} (h : k < (t1 + 1 - t0).toNat) : ys L m t0 t1 (k + 1) = ys L m t0 t1 k ++ [swt L m (t0 + (k : Int))] := by
  unfold ys
  rw [yrs_take h, List.map_append]
  rfl
theorem ys_full {L : List Dt} {m : Int × Int} {t0 t1 : Int} {k : Nat} (h : k = (t1 + 1 - t0).toNat) : ys L m t0 t1 k = (yrs t0 t1).map (swt L m) := by
  unfold ys
  rw [List.take_of_length_le (by rw [yrs_len]; omega)]
/-- A row of n ints under way. -/
def G2 (B : Nat) (w wr : World) (v : Value) (n : Nat) (L : List Int) : Prop := wr.ownsRow B 3 1 v n (ints L) ∧ Below B w wr
set_option maxRecDepth 100000 in
set_option maxHeartbeats 8000000 in
theorem spec_any : ClI.Says 27 := by
  intro a n L A E w hn h
  obtain ⟨i0, hi, hy0, hy1, hy2⟩ := info_parts IntT.infoI
  obtain ⟨c2, c3, bx, hb⟩ := two2 w (.int .i64 A) (.int .i64 E) 45 42
  have HL := Lib.hid h.1
  have H := Lib.hid (h.below hb)
  have HB := Lib.hid hb
  have BX := Lib.hid bx
  obtain ⟨r, hr⟩ : ∃ r, r = clP L (A, E) := ⟨_, rfl⟩
  rw [← hr]
  have HR := Lib.hid hr
  clear hr h hb bx
  go_enter Try.func27, Try.ntmps27
  go_wp2_with fail
  generalize (w.alloc (.cells #[.int .i64 A, .int .i64 E] 45)).alloc (.cells #[.int .i64 0, .slice none 0 0] 42) = W at *
  refine (CvS.good_any a n n L W hn H.out).mono ?_
  rintro e w1 ⟨rfl, b⟩
  replace c2 := (b.cell (World.block_lt_of_cell? W _ c2)).trans c2
  replace c3 := (b.cell (World.block_lt_of_cell? W _ c3)).trans c3
  replace H := Lib.hid (H.out.below b)
  replace BX := Lib.hid (BX.out.below b)
  replace HB := Lib.hid (HB.out.trans (b.mono HB.out.size))
  clear b
  cases hu : cv L with
  | false =>
    have HN := Lib.hid (HR.out.trans (clP_no fun e _ => by rw [hu] at e; cases e))
    clear hu
    obtain ⟨d0, d1, f0, f1, lt1⟩ := BX.out
    go_wp2_with fail
    try simp only [Exit.inBlock, Exit.then]
    refine bodyPost_ret (v := .tuple #[.agg #[.int .i64 0, .slice none 0 0], .bool false]) (by simp [results, Try.results27, go_sem, d0, d1]) rfl ?_
    rw [HN.out]
    exact ⟨none, 0, 0, rfl, World.ownsRow_nil _ _ _ _, by omega, (HB.out.setCell (p := ⟨w.heap.size + 1, 0, none⟩) (by show w.heap.size ≤ w.heap.size + 1; omega) _).setCell (p := ⟨w.heap.size + 1, 1, none⟩) (by show w.heap.size ≤ w.heap.size + 1; omega) _⟩
  | true =>
    have HU := Lib.hid hu
    clear hu
    go_wp2_with fail
    refine (MsM.measured_any A E w1).mono ?_
    rintro e w2 ⟨rfl, b⟩
    replace c2 := (b.cell (World.block_lt_of_cell? w1 _ c2)).trans c2
    replace c3 := (b.cell (World.block_lt_of_cell? w1 _ c3)).trans c3
    replace H := Lib.hid (H.out.below b)
    replace BX := Lib.hid (BX.out.below b)
    replace HB := Lib.hid (HB.out.trans (b.mono HB.out.size))
    clear b
    cases hm : MsM.okM (A, E) with
    | false =>
      have HN := Lib.hid (HR.out.trans (clP_no fun _ e => by rw [hm] at e; cases e))
      clear hm
      obtain ⟨d0, d1, f0, f1, lt1⟩ := BX.out
      go_wp2_with fail
      try simp only [Exit.inBlock, Exit.then]
      refine bodyPost_ret (v := .tuple #[.agg #[.int .i64 0, .slice none 0 0], .bool false]) (by simp [results, Try.results27, go_sem, d0, d1]) rfl ?_
      rw [HN.out]
      exact ⟨none, 0, 0, rfl, World.ownsRow_nil _ _ _ _, by omega, (HB.out.setCell (p := ⟨w.heap.size + 1, 0, none⟩) (by show w.heap.size ≤ w.heap.size + 1; omega) _).setCell (p := ⟨w.heap.size + 1, 1, none⟩) (by show w.heap.size ≤ w.heap.size + 1; omega) _⟩
    | true =>
      have HM := Lib.hid hm
      have O := Lib.hid (cv_iff.1 HU.out)
      have HY := Lib.hid (HR.out.trans (clP_yes HU.out hm))
      have hn2 : 2 ≤ n := by have := O.out.lo; rw [HL.out] at this; exact this
      have hn40 : n ≤ 40 := by have := O.out.len; rw [HL.out] at this; exact this
      rw [HL.out] at HY
      have hya := (O.out.p (i := 0) (by rw [HL.out]; omega)).y
      have hyb := (O.out.p (i := n - 1) (by rw [HL.out]; omega)).y
      have hle := le_pt O.out (i := 0) (j := n - 1) (by omega) (by rw [HL.out]; omega)
      have hsp := O.out.span
      rw [HL.out] at hsp
      obtain ⟨m, hmm⟩ : ∃ m, n - 1 = m := ⟨_, rfl⟩
      rw [hmm] at HY hyb hle hsp
      have hm1 : IntKind.i64.wrap ((n : Int) - 1) = (m : Int) := by rw [IntKind.wrap_i64]; omega
      have hm1' : wrap64 ((n : Int) - 1) = (m : Int) := by unfold wrap64; omega
      have hm0 : (0 : Int) ≤ (m : Int) := by omega
      have hmn : (m : Int) < (n : Int) := by omega
      have hmn' : m < n := by omega
      have hn0 : (0 : Int) < (n : Int) := by omega
      have HP0 : Hid (∀ q, L[0]? = some q → q.1 = (pt L 0).1) := fun q hq => by rw [pt_of hq]
      have HPm : Hid (∀ q, L[m]? = some q → q.1 = (pt L m).1) := fun q hq => by rw [pt_of hq]
      generalize (pt L 0).1 = t0 at *
      generalize (pt L m).1 = t1 at *
      obtain ⟨N, hN⟩ : ∃ N, (t1 + 1 - t0).toNat = N := ⟨_, rfl⟩
      have HN := Lib.hid hN
      have hN1 : N ≤ 400 := by omega
      have HT : Hid (t1 = t0 + (N : Int) - 1) := by unfold Hid; omega
      have HBD := Lib.hid (fun y => swt_bd O.out HM.out y)
      have he0 := below_alloc w2 (.cells #[] 3)
      have HG0 : Hid (G2 w2.heap.size w2 (w2.alloc (.cells #[] 3)) (.slice (some ⟨w2.heap.size, 0, none⟩) 0 0) 0 (ys L (A, E) t0 t1 0)) := ⟨AppI.empty_own w2, he0⟩
      obtain ⟨b, off, x, u, z, rfl, hx, e1, e2, e3⟩ := H.out.at 0 (by omega)
      have hx0 := HP0.out _ hx
      simp only at hx0
      subst hx0
      rw [Nat.zero_mul, Nat.add_zero] at e1
      have e1' := (he0.cell (World.block_lt_of_cell? w2 _ e1)).trans e1
      clear hm HR he0 hx e2 e3 hN hmm
      go_wp2_with fail
      generalize w2.alloc (.cells #[] 3) = W3 at *
      clear e1'
      go_loopw [6, 7] (fun s6 s7 wr => ∃ k : Nat, k ≤ N ∧ s7 = .int .i64 (x + (k : Int)) ∧ Hid (G2 w2.heap.size w2 wr s6 k (ys L (A, E) x t1 k))) (fun _ s7 _ => (x + (N : Int) - intOf s7).toNat)
      case atStart => exact ⟨0, Nat.zero_le _, by simp, HG0⟩
      case round =>
        clear HG0
        obtain ⟨k, hk, rfl, HRk⟩ := hrel
        obtain ⟨b1, off1, x1, u1, z1, hb1, hx1, g1, g2, g3⟩ := (H.out.below HRk.out.2).at m hmn'
        injection hb1 with hb1
        injection hb1 with hb1 ho1
        subst hb1 ho1
        have hxm := HPm.out _ hx1
        simp only at hxm
        subst hxm
        obtain ⟨pv, dv, rfl⟩ := TnI.own_form HRk.out.1
        clear hx1 g2 g3
        by_cases hlt : k < N
        · have hle : x + (k : Int) ≤ x1 := by have := HT.out; omega
          have HNX := Lib.hid (ys_next (L := L) (m := (A, E)) (t0 := x) (t1 := x1) (k := k) (by rw [HN.out]; exact hlt))
          have d2 := (HRk.out.2.cell (World.block_lt_of_cell? w2 _ c2)).trans c2
          have d3 := (HRk.out.2.cell (World.block_lt_of_cell? w2 _ c3)).trans c3
          have HC := Lib.hid (Sw.spec_any (some ⟨b, off, none⟩) n L A E (x + (k : Int)) wr hn O.out HM.out (H.out.below HRk.out.2))
          generalize swt L (A, E) (x + (k : Int)) = sv at *
          go_wp2_with fail
          refine HC.out.mono ?_
          rintro e w8 ⟨rfl, b8⟩
          have hown := ownsRow_below HRk.out.1 b8
          have HW8 := Lib.hid (HRk.out.2.trans (b8.mono HRk.out.2.size))
          have hw8 := HW8.out.size
          clear b8 HRk HC d2 d3 g1
          go_wp2_with (at_builtin; refine wpList_append_own _ rfl _ _ 32 rfl w2.heap.size 3 i0 (.int .i64 0) 1 8 Try.underlying32 hi hy0 hy1 hy2 rfl (by decide) _ _ _ rfl (hown.alloc _) ⟨w8.heap.size, 0, none⟩ 1 1 [.int .i64 sv] rfl rfl (TnI.cell_one_new _ _ _) (by simp [Value.oneCell']) (by unfold maxLen; omega) (by omega) (by simp; omega) ?_; intro v' w9 hown' hgrow hnil)
          have hG : G2 w2.heap.size w2 w9 v' (k + 1) (ys L (A, E) x x1 (k + 1)) := by
            unfold G2
            rw [HNX.out, TnI.ints_append]
            exact ⟨hown', (HW8.out.alloc hw8 _).grown hgrow (by simp; omega) (fun j hj => (hown.lt j hj).1)⟩
          have HG := Lib.hid hG
          clear hG hown' hgrow hown hnil
          exact ⟨⟨k + 1, by omega, by congr 1; omega, HG⟩, by simp [intOf]; omega⟩
        · obtain rfl : k = N := by omega
          have hle : ¬ x + (k : Int) ≤ x1 := by have := HT.out; omega
          rw [← ys_full HN.out.symm] at HY
          obtain ⟨e1', -⟩ : wr.cell? ⟨b, off, none⟩ = some (.int .i64 x) ∧ True := ⟨(HRk.out.2.cell (World.block_lt_of_cell? w2 _ e1)).trans e1, trivial⟩
          have hho := GivesI.holds_own HRk.out.1
          have HC := Lib.hid (RdS.make_any x pv k dv (ys L (A, E) x x1 k) wr (by omega) (by omega) hho (fun q hq => by
            unfold ys at hq
            obtain ⟨y, -, rfl⟩ := List.mem_map.1 hq
            have := HBD.out y
            omega))
          rw [← HY.out] at HC
          have HBr := Lib.hid (HB.out.trans (HRk.out.2.mono HB.out.size))
          have BXr := Lib.hid (BX.out.below HRk.out.2)
          clear HRk hho e1 c2 c3
          go_wp2_with fail
          refine HC.out.mono ?_
          rintro e v ⟨p3, k3, d3, rfl, o3, hk3, b⟩
          have hzv := BXr.out.lt
          obtain ⟨n0, n1, f0, f1, lt1⟩ := BXr.out.below b
          have O3 := Lib.hid o3
          have B3 := Lib.hid b
          clear o3 b
          go_wp2_with fail
          try simp only [Exit.inBlock, Exit.then]
          refine bodyPost_ret (v := .tuple #[.agg #[.int .i64 (r.getD (0, [])).1, .slice p3 k3 d3], .bool r.isSome]) (by simp [results, Try.results27, go_sem, n0, n1]) rfl ?_
          have O2 := ownsRow_setCell_below (ownsRow_setCell_below O3.out (a := ⟨w.heap.size + 1, 0, none⟩) (by show w.heap.size + 1 < _; exact hzv) (.int .i64 (r.getD (0, [])).1)) (a := ⟨w.heap.size + 1, 1, none⟩) (by show w.heap.size + 1 < _; exact hzv) (.slice p3 k3 d3)
          have hbz := HBr.out.trans (B3.out.mono HBr.out.size)
          exact ⟨p3, k3, d3, rfl, Keep.ownsRow_base O2 (by omega), hk3, (hbz.setCell (p := ⟨w.heap.size + 1, 0, none⟩) (by show w.heap.size ≤ w.heap.size + 1; omega) _).setCell (p := ⟨w.heap.size + 1, 1, none⟩) (by show w.heap.size ≤ w.heap.size + 1; omega) _⟩
end Go.Proofs.Ytlpcgchekhoieaa.ClS
