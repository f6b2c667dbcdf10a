/- The model's LaterBy. -/
import Derived.Test.YtfnbjfmegikciaaLbM
import Derived.Test.YtfnbjfmegikciaaLbI
import Derived.Test.YtfnbjfmegikciaaWaS
import Derived.Test.YtfnbjfmegikciaaRdS
import Derived.Test.YtfnbjfmegikciaaQsw
namespace Go.Proofs.Ytfnbjfmegikciaa.LbS
open Go Go.RowKit Pairs Rec Keep GivesI DvM DvG DvS AppI Di ShI RdM RdS Yr AtM WaS LbC LbM
set_option linter.unusedVariables false
theorem three3 (w : World) (o1 o2 : Obj) (u v : Value) (t : TypeId) : Bx (((w.alloc o1).alloc o2).alloc (.cells #[u, v] t)) (w.heap.size + 2) u v := by
  have h := bx_new ((w.alloc o1).alloc o2) u v t
  have e : ((w.alloc o1).alloc o2).heap.size = w.heap.size + 2 := by simp
  rw [e] at h
  exact h
theorem zer_is (n : Nat) : (madeCells #[.int .i64 0] (n * 1)).toList = ints (List.replicate n 0) := by
  rw [Nat.mul_one, toList_madeCells_one]
  unfold ints
  rw [List.map_replicate]
/-- The row under way. -/
structure Ul (B : Nat) (w5 wr : World) (g N : Nat) (L : List Int) : Prop where
  own : wr.ownsRow B 3 1 (.slice (some ⟨g, 0, none⟩) N N) N (ints L)
  kept : Kept (fun b => b = g) w5 wr
theorem Ul.at {B : Nat} {w5 wr : World} {g N : Nat} {L : List Int} {j : Nat} {x : Int} (h : Ul B w5 wr g N L) (hx : L[j]? = some x) : wr.cell? ⟨g, j, none⟩ = some (.int .i64 x) ∧ wr.frozen? ⟨g, j, none⟩ = false := by
  refine ⟨?_, h.own.frozenAt j⟩
  have hl := h.own.1
  have hj := (List.getElem?_eq_some_iff.1 hx).1
  have hi : (ints L).length = L.length := by unfold ints; simp
  rw [h.own.cellAt j (by omega)]
  exact GivesI.ints_at hx
theorem Ul.step {B : Nat} {w5 wr : World} {g N : Nat} {L : List Int} {j : Nat} (h : Ul B w5 wr g N L) (x : Int) : Ul B w5 (wr.setCell ⟨g, j, none⟩ (.int .i64 x)) g N (L.set j x) := by
  refine ⟨?_, h.kept.setCell (g := g) rfl _⟩
  have := (h.own.stored j (.int .i64 x)).1
  rw [RdI.ints_set] at this
  exact this
set_option maxRecDepth 100000 in
set_option maxHeartbeats 16000000 in
theorem spec_any (fa : Int) (pa : Option Addr) (na ca : Nat) (Ma : List Int) (fb : Int) (pb : Option Addr) (nb cb : Nat) (Mb : List Int) (w : World) (hna : na ≤ 1048576) (hnb : nb ≤ 1048576) (ha : HoldsI w pa na Ma) (hb : HoldsI w pb nb Mb) :
    Calls Try.prog 31 #[.agg #[.int .i64 fa, .slice pa na ca], .agg #[.int .i64 fb, .slice pb nb cb]] w (ResZ (LbI.lbP fa Ma fb Mb).isSome ((LbI.lbP fa Ma fb Mb).getD (0, [])).1 ((LbI.lbP fa Ma fb Mb).getD (0, [])).2 w) := by
  have HLA := Lib.hid ha.1
  have HLB := Lib.hid hb.1
  obtain ⟨hs, x1, x2, y1, y2, -, -, hb0⟩ := two w (.int .i64 fa) (.slice pa na ca) (.int .i64 fb) (.slice pb nb cb) 27 27
  have b3 := below_alloc ((w.alloc (.cells #[.int .i64 fa, .slice pa na ca] 27)).alloc (.cells #[.int .i64 fb, .slice pb nb cb] 27)) (.cells #[.int .i64 0, .slice none 0 0] 27)
  replace x1 := (b3.cell (p := ⟨w.heap.size, 0, none⟩) (by show w.heap.size < _; omega)).trans x1
  replace x2 := (b3.cell (p := ⟨w.heap.size, 1, none⟩) (by show w.heap.size < _; omega)).trans x2
  replace y1 := (b3.cell (p := ⟨w.heap.size + 1, 0, none⟩) (by show w.heap.size + 1 < _; omega)).trans y1
  replace y2 := (b3.cell (p := ⟨w.heap.size + 1, 1, none⟩) (by show w.heap.size + 1 < _; omega)).trans y2
  have BX := Lib.hid (three3 w (.cells #[.int .i64 fa, .slice pa na ca] 27) (.cells #[.int .i64 fb, .slice pb nb cb] 27) (.int .i64 0) (.slice none 0 0) 27)
  have hbb := hb0.trans (b3.mono hb0.size)
  have HA := Lib.hid (ha.below hbb)
  have HB' := Lib.hid (hb.below hbb)
  have HB := Lib.hid hbb
  clear ha hb hb0 hs b3 hbb
  go_enter Try.func31, Try.ntmps31
  go_wp2_with fail
  generalize ((w.alloc (.cells #[.int .i64 fa, .slice pa na ca] 27)).alloc (.cells #[.int .i64 fb, .slice pb nb cb] 27)).alloc (.cells #[.int .i64 0, .slice none 0 0] 27) = W at *
  refine (good_any fa pa na ca Ma W hna HA.out).mono ?_
  rintro e w1 ⟨rfl, b⟩
  have hlt2 := BX.out.lt
  replace x1 := (b.cell (p := ⟨w.heap.size, 0, none⟩) (by show w.heap.size < _; omega)).trans x1
  replace x2 := (b.cell (p := ⟨w.heap.size, 1, none⟩) (by show w.heap.size < _; omega)).trans x2
  replace y1 := (b.cell (p := ⟨w.heap.size + 1, 0, none⟩) (by show w.heap.size + 1 < _; omega)).trans y1
  replace y2 := (b.cell (p := ⟨w.heap.size + 1, 1, none⟩) (by show w.heap.size + 1 < _; omega)).trans y2
  replace HA := Lib.hid (HA.out.below b)
  replace HB' := Lib.hid (HB'.out.below b)
  replace BX := Lib.hid (BX.out.below b)
  replace HB := Lib.hid (HB.out.trans (b.mono HB.out.size))
  clear b hlt2
  cases hva : okD fa Ma with
  | false =>
    have HN := Lib.hid (LbI.lbP_no (fa := fa) (Ma := Ma) (fb := fb) (Mb := Mb) fun e _ => by rw [hva] at e; cases e)
    obtain ⟨c0, c1, f0, f1, lt1⟩ := BX.out
    go_wp2_with fail
    try simp only [Exit.inBlock, Exit.then]
    refine bodyPost_ret (v := .tuple #[.agg #[.int .i64 0, .slice none 0 0], .bool false]) (by simp [results, Try.results31, go_sem, c0, c1]) rfl ?_
    rw [HN.out]
    exact ⟨none, 0, 0, rfl, World.ownsRow_nil _ _ _ _, by omega, (HB.out.setCell (p := ⟨w.heap.size + 2, 0, none⟩) (by show w.heap.size ≤ w.heap.size + 2; omega) _).setCell (p := ⟨w.heap.size + 2, 1, none⟩) (by show w.heap.size ≤ w.heap.size + 2; omega) _⟩
  | true =>
  go_wp2_with fail
  refine (good_any fb pb nb cb Mb w1 hnb HB'.out).mono ?_
  rintro e w2 ⟨rfl, b⟩
  have hlt2 := BX.out.lt
  replace x1 := (b.cell (p := ⟨w.heap.size, 0, none⟩) (by show w.heap.size < _; omega)).trans x1
  replace x2 := (b.cell (p := ⟨w.heap.size, 1, none⟩) (by show w.heap.size < _; omega)).trans x2
  replace y1 := (b.cell (p := ⟨w.heap.size + 1, 0, none⟩) (by show w.heap.size + 1 < _; omega)).trans y1
  replace y2 := (b.cell (p := ⟨w.heap.size + 1, 1, none⟩) (by show w.heap.size + 1 < _; omega)).trans y2
  replace HA := Lib.hid (HA.out.below b)
  replace HB' := Lib.hid (HB'.out.below b)
  replace BX := Lib.hid (BX.out.below b)
  replace HB := Lib.hid (HB.out.trans (b.mono HB.out.size))
  clear b hlt2
  cases hvb : okD fb Mb with
  | false =>
    have HN := Lib.hid (LbI.lbP_no (fa := fa) (Ma := Ma) (fb := fb) (Mb := Mb) fun _ e => by rw [hvb] at e; cases e)
    obtain ⟨c0, c1, f0, f1, lt1⟩ := BX.out
    clear hva
    go_wp2_with fail
    try simp only [Exit.inBlock, Exit.then]
    refine bodyPost_ret (v := .tuple #[.agg #[.int .i64 0, .slice none 0 0], .bool false]) (by simp [results, Try.results31, go_sem, c0, c1]) rfl ?_
    rw [HN.out]
    exact ⟨none, 0, 0, rfl, World.ownsRow_nil _ _ _ _, by omega, (HB.out.setCell (p := ⟨w.heap.size + 2, 0, none⟩) (by show w.heap.size ≤ w.heap.size + 2; omega) _).setCell (p := ⟨w.heap.size + 2, 1, none⟩) (by show w.heap.size ≤ w.heap.size + 2; omega) _⟩
  | true =>
  have HVA := Lib.hid hva
  have HVB := Lib.hid hvb
  have OA := Lib.hid (okD_iff.1 hva)
  have OB := Lib.hid (okD_iff.1 hvb)
  have HMA := Lib.hid (show ∀ x ∈ Ma, 0 ≤ x ∧ x ≤ 1000000 from fun x hx => upTo_mem OA.out.all hx)
  have HMB := Lib.hid (show ∀ x ∈ Mb, 0 ≤ x ∧ x ≤ 1000000 from fun x hx => upTo_mem OB.out.all hx)
  have l1 : -20000 ≤ fa := OA.out.lo
  have l2 : fa ≤ 2100 := by have h1 := OA.out.hi; have h2 := OA.out.pos; omega
  have l3 : -20000 ≤ fb := OB.out.lo
  have l4 : fb ≤ 2100 := by have h1 := OB.out.hi; have h2 := OB.out.pos; omega
  have HQ := Lib.hid (show fa + na - 1 ≤ 2100 ∧ fb + nb - 1 ≤ 2100 by have h1 := OA.out.hi; have h2 := OB.out.hi; rw [HLA.out] at h1; rw [HLB.out] at h2; omega)
  have hq : 1 ≤ na ∧ na ≤ 60 ∧ 1 ≤ nb ∧ nb ≤ 60 := by have h1 := OA.out.pos; have h2 := OB.out.pos; have h3 := OA.out.len; have h4 := OB.out.len; rw [HLA.out] at h1 h3; rw [HLB.out] at h2 h4; omega
  obtain ⟨N, hN⟩ : ∃ N : Nat, N = na + nb - 1 := ⟨_, rfl⟩
  have HO : Hid (∀ v p c, HoldsI v p N (LbM.W Ma fb Mb N na 0) → Calls Try.prog 48 #[.int .i64 (fb - fa - na + 1), .slice p N c] v (ResZ (LbI.lbP fa Ma fb Mb).isSome ((LbI.lbP fa Ma fb Mb).getD (0, [])).1 ((LbI.lbP fa Ma fb Mb).getD (0, [])).2 v)) := by
    intro v p c hh
    have h5 := LbI.lbP_yes HVA.out HVB.out
    have h6 := W_end (fa := fa) (Ma := Ma) (fb := fb) (Mb := Mb) (N := N) (by rw [HLA.out, HLB.out]; omega)
    rw [HLA.out] at h6
    rw [h5, HLA.out, ← h6, show fb - (fa + (na : Int) - 1) = fb - fa - na + 1 by omega]
    exact make_any (fb - fa - na + 1) p N c _ v (by omega) (by omega) hh (fun x hx => by
      unfold LbM.W at hx
      obtain ⟨j, _, rfl⟩ := List.mem_map.1 hx
      have := S_bd (fb := fb) HMA.out HMB.out j na
      rw [if_neg (by omega)]
      omega)
  obtain ⟨r, hr⟩ : ∃ r, r = LbI.lbP fa Ma fb Mb := ⟨_, rfl⟩
  rw [← hr] at HO
  have HRR := Lib.hid hr
  have HLT := Lib.hid BX.out.lt
  have ltA : w.heap.size < w2.heap.size := by have := BX.out.lt; omega
  have ltB : w.heap.size + 1 < w2.heap.size := by have := BX.out.lt; omega
  have HNN := Lib.hid (show ((N : Nat) : Int) = (na : Int) + nb - 1 by omega)
  clear hN
  clear hr hva hvb
  go_wp2_with fail
  have k1 := cell_regrown x1
  have k2 := cell_regrown x2
  have k3 := cell_regrown y1
  have k4 := cell_regrown y2
  refine wp_region_quiet_below (by kernel_rfl) (by kernel_rfl) ?_
  repeat (go_big_quiet_step (fail))
  refine wpQuiet_nil ?_
  intro _ hw'
  obtain ⟨⟨dq, osq⟩, hw''⟩ := hw'
  subst hw''
  have HBQ := Lib.hid (below_regrown w2 dq osq)
  clear k1 k2 k3 k4
  generalize Sort.grow (redrawn w2 dq) osq = w4 at *
  replace x1 := (HBQ.out.cell (p := ⟨w.heap.size, 0, none⟩) ltA).trans x1
  replace x2 := (HBQ.out.cell (p := ⟨w.heap.size, 1, none⟩) ltA).trans x2
  replace y1 := (HBQ.out.cell (p := ⟨w.heap.size + 1, 0, none⟩) ltB).trans y1
  replace y2 := (HBQ.out.cell (p := ⟨w.heap.size + 1, 1, none⟩) ltB).trans y2
  replace HA := Lib.hid (HA.out.below HBQ.out)
  replace HB' := Lib.hid (HB'.out.below HBQ.out)
  replace BX := Lib.hid (BX.out.below HBQ.out)
  replace HB := Lib.hid (HB.out.trans (HBQ.out.mono HB.out.size))
  replace HLT := Lib.hid BX.out.lt
  replace ltA := Nat.lt_of_lt_of_le ltA HBQ.out.size
  replace ltB := Nat.lt_of_lt_of_le ltB HBQ.out.size
  clear HBQ
  have hwn1 : IntKind.i64.wrap ((na : Int) + nb) = na + nb := by rw [IntKind.wrap_i64]; omega
  have hwn2 : IntKind.i64.wrap ((na : Int) + nb - 1) = ((N : Nat) : Int) := by have := HNN.out; rw [IntKind.wrap_i64]; omega
  have hNb := Lib.hid (show N ≤ 1000 by have := HNN.out; omega)
  obtain ⟨i0, hi, hy0, hy1, hy2⟩ := info_parts IntT.infoI
  go_wp2_with (at_make; refine wpList_make_full _ rfl _ _ 22 rfl w4.heap.size 3 i0 (.int .i64 0) 1 Try.underlying22 hi hy0 hy1 .i64 .i64 _ _ N rfl rfl rfl rfl (by rw [hy2]; have := hNb.out; omega) (by have := hNb.out; unfold maxLen; omega) (Nat.le_refl _) ?_; intro w5 how hgw)
  have HU0 : Hid (Ul w4.heap.size w5 w5 w4.heap.size N (LbM.W Ma fb Mb N 0 0)) := by
    refine ⟨?_, Kept.refl _ _⟩
    rw [W_start, ← zer_is]
    exact how
  have b5 : Below w4.heap.size w4 w5 := (Below.refl w4.heap.size w4).grown hgw (Nat.le_refl _) (fun k e => by cases e)
  have B5 := Lib.hid b5
  clear how hgw b5
  go_loopw [9] (fun s9 wr => ∃ i : Nat, i ≤ na ∧ s9 = .int .i64 i ∧ Hid (Ul w4.heap.size w5 wr w4.heap.size N (LbM.W Ma fb Mb N i 0))) (fun s9 _ => na - (intOf s9).toNat)
  case atStart => exact ⟨0, Nat.zero_le _, rfl, HU0⟩
  case round =>
    obtain ⟨i, hi9, rfl, HU⟩ := hrel
    by_cases hin : i < na
    · have hin' : (i : Int) < (na : Int) := by omega
      obtain ⟨bA, offA, x, rfl, hx, eA⟩ := HA.out.at i hin
      have ltx := World.block_lt_of_cell? w4 _ eA
      have HX := Lib.hid hx
      have hxb := HMA.out x (List.mem_of_getElem? hx)
      clear hx
      go_wp2_with fail
      go_loopw [10, 11] (fun s10 s11 wx => ∃ k : Nat, k ≤ nb ∧ s10 = .int .i64 k ∧ Hid (Ul w4.heap.size w5 wx w4.heap.size N (LbM.W Ma fb Mb N i k))) (fun s10 _ _ => nb - (intOf s10).toNat)
      case atStart => exact ⟨0, Nat.zero_le _, rfl, HU⟩
      case round =>
        obtain ⟨k, hk, rfl, HV⟩ := hrel
        by_cases hkn : k < nb
        · have hkn' : (k : Int) < (nb : Int) := by omega
          obtain ⟨bB, offB, y, rfl, hy, eB⟩ := HB'.out.at k hkn
          have lty := World.block_lt_of_cell? w4 _ eB
          have hyb := HMB.out y (List.mem_of_getElem? hy)
          obtain ⟨at', hat⟩ : ∃ at' : Nat, (k : Int) - i + na - 1 = (at' : Int) := ⟨((k : Int) - i + na - 1).toNat, by omega⟩
          have hatN : at' < N := by have := HNN.out; omega
          obtain ⟨v, hv⟩ : ∃ v, (LbM.W Ma fb Mb N i k)[at']? = some v := ⟨_, List.getElem?_eq_getElem (by rw [W_len]; exact hatN)⟩
          have HST := Lib.hid (W_step (fb := fb) (N := N) (i := i) (k := k) (at' := at') x y v HX.out hy (by rw [HLA.out]; omega) hatN hv)
          have hvb : 0 ≤ v ∧ v ≤ 100000000000000 := by
            rw [W_at hatN, if_neg (by rw [HLA.out]; omega)] at hv
            injection hv with hv
            have := S_bd (fb := fb) HMA.out HMB.out at' i
            omega
          obtain ⟨e3, e4⟩ := HV.out.at hv
          have bz := B5.out
          have kk := HV.out.kept
          have nA : ¬ bA = w4.heap.size := by have h1 : bA < w4.heap.size := ltx; omega
          have nB : ¬ bB = w4.heap.size := by have h1 : bB < w4.heap.size := lty; omega
          have z1 := kk.cell ((bz.cell (p := ⟨w.heap.size, 1, none⟩) ltA).trans x2) (show ¬ w.heap.size = w4.heap.size by omega)
          have z2 := kk.cell ((bz.cell (p := ⟨w.heap.size + 1, 1, none⟩) ltB).trans y2) (show ¬ w.heap.size + 1 = w4.heap.size by omega)
          have z3 := kk.cell ((bz.cell (p := ⟨bA, offA + i, none⟩) ltx).trans eA) nA
          have z4 := kk.cell ((bz.cell (p := ⟨bB, offB + k, none⟩) lty).trans eB) nB
          have m1 : 0 ≤ x * y := Int.mul_nonneg hxb.1 hyb.1
          have m2 : x * y ≤ 1000000 * 1000000 := Int.mul_le_mul hxb.2 hyb.2 hyb.1 (by omega)
          have q1 : IntKind.i64.wrap ((k : Int) - i) = k - i := by rw [IntKind.wrap_i64]; omega
          have q2 : IntKind.i64.wrap ((k : Int) - i + na) = k - i + na := by rw [IntKind.wrap_i64]; omega
          have q3 : IntKind.i64.wrap ((k : Int) - i + na - 1) = (at' : Int) := by rw [IntKind.wrap_i64]; omega
          have q4 : IntKind.i64.wrap (x * y) = x * y := by rw [IntKind.wrap_i64]; omega
          have q5 : IntKind.i64.wrap (v + x * y) = v + x * y := by rw [IntKind.wrap_i64]; omega
          have hat1 : (at' : Int) < (N : Int) := by omega
          have hat0 : ¬ (at' : Int) < 0 := by omega
          clear m1 m2 hv hy kk bz
          go_wp2_with fail
          have k1 := cell_regrown z1
          have k2 := cell_regrown z2
          have k3 := cell_regrown z3
          have k4 := cell_regrown z4
          have k5 := cell_regrown e3
          refine Qsw.region_at_p 18 (by kernel_rfl) (by kernel_rfl) ?_
          simp only [List.take_succ_cons, List.take_zero, List.drop_succ_cons, List.drop_zero]
          repeat (go_big_quiet_step (fail))
          refine wpQuiet_nil ?_
          intro _ hw'
          obtain ⟨⟨dq, osq⟩, hw''⟩ := hw'
          subst hw''
          have HBQ := Lib.hid (below_regrown wr dq osq)
          have hgx : w4.heap.size < wr.heap.size := World.block_lt_of_cell? wr _ e3
          clear k1 k2 k3 k4 k5 z1 z2 z3 z4
          replace e3 := (HBQ.out.cell (p := ⟨w4.heap.size, at', none⟩) hgx).trans e3
          replace e4 := (HBQ.out.frozen (p := ⟨w4.heap.size, at', none⟩) hgx).trans e4
          have HV2 : Hid (Ul w4.heap.size w5 (Sort.grow (redrawn wr dq) osq) w4.heap.size N (LbM.W Ma fb Mb N i k)) := ⟨ownsRow_below HV.out.own HBQ.out, HV.out.kept.trans (Kept.of HBQ.out)⟩
          generalize Sort.grow (redrawn wr dq) osq = w6 at *
          go_wp2_with fail
          have HV3 := Lib.hid (HV2.out.step (j := at') (v + x * y))
          rw [HST.out] at HV3
          exact ⟨⟨k + 1, by omega, by go_num, HV3⟩, by simp [intOf]; omega⟩
        · obtain rfl : k = nb := by omega
          have hkk : ¬ (k : Int) < (k : Int) := by omega
          have HV3 := HV.out
          rw [show LbM.W Ma fb Mb N i k = LbM.W Ma fb Mb N (i + 1) 0 by rw [← HLB.out]; exact W_row Ma fb Mb N i] at HV3
          have HV4 := Lib.hid HV3
          clear HV3
          go_wp2_with fail
          exact ⟨⟨i + 1, by omega, by go_num, HV4⟩, by simp [intOf]; omega⟩
    · obtain rfl : i = na := by omega
      have hkk : ¬ (i : Int) < (i : Int) := by omega
      have HC := Lib.hid (HO.out _ _ N (holds_own HU.out.own))
      have hzA := HLT.out
      have kk := HU.out.kept
      have bz := B5.out
      have z1 := kk.cell ((bz.cell (p := ⟨w.heap.size, 0, none⟩) ltA).trans x1) (show ¬ w.heap.size = w4.heap.size by omega)
      have z2 := kk.cell ((bz.cell (p := ⟨w.heap.size + 1, 0, none⟩) ltB).trans y1) (show ¬ w.heap.size + 1 = w4.heap.size by omega)
      have bw : Below w4.heap.size w4 wr := bz.trans (kk.below (B := w4.heap.size) (fun b hq => by omega) bz.size)
      have q1 : IntKind.i64.wrap (fb - fa) = fb - fa := by rw [IntKind.wrap_i64]; omega
      have q2 : IntKind.i64.wrap (fb - fa - i) = fb - fa - i := by rw [IntKind.wrap_i64]; omega
      have q3 : IntKind.i64.wrap (fb - fa - i + 1) = fb - fa - i + 1 := by rw [IntKind.wrap_i64]; omega
      clear kk
      go_wp2_with fail
      refine HC.out.mono ?_
      rintro e v ⟨p3, k3, d3, rfl, o3, hk3, b⟩
      have hzv := bw.size
      have bw2 := bw.trans (b.mono hzv)
      obtain ⟨c0, c1, f0, f1, lt1⟩ := BX.out.below bw2
      go_wp2_with fail
      try simp only [Exit.inBlock, Exit.then]
      refine bodyPost_ret (v := .tuple #[.agg #[.int .i64 (r.getD (0, [])).1, .slice p3 k3 d3], .bool r.isSome]) (by simp [results, Try.results31, go_sem, c0, c1]) rfl ?_
      have O2 := ownsRow_setCell_below (ownsRow_setCell_below o3 (a := ⟨w.heap.size + 2, 0, none⟩) (by show w.heap.size + 2 < _; have := HLT.out; omega) (.int .i64 (r.getD (0, [])).1)) (a := ⟨w.heap.size + 2, 1, none⟩) (by show w.heap.size + 2 < _; have := HLT.out; omega) (.slice p3 k3 d3)
      have hbz := HB.out.trans (bw2.mono HB.out.size)
      rw [← HRR.out]
      exact ⟨p3, k3, d3, rfl, ownsRow_base O2 (by omega), hk3, (hbz.setCell (p := ⟨w.heap.size + 2, 0, none⟩) (by show w.heap.size ≤ w.heap.size + 2; omega) _).setCell (p := ⟨w.heap.size + 2, 1, none⟩) (by show w.heap.size ≤ w.heap.size + 2; omega) _⟩
end Go.Proofs.Ytfnbjfmegikciaa.LbS
