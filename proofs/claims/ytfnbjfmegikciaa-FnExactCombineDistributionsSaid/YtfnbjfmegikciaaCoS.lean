/- The model's CombineDistributions. -/
import Derived.Test.YtfnbjfmegikciaaCoM
import Derived.Test.YtfnbjfmegikciaaWaS
import Derived.Test.YtfnbjfmegikciaaRdS
import Derived.Test.YtfnbjfmegikciaaOvI
import Derived.Test.YtfnbjfmegikciaaQsw
namespace Go.Proofs.Ytfnbjfmegikciaa.CoS
open Go Go.RowKit Pairs Rec Keep GivesI DvM DvG DvS AppI Di ShI RdM RdS Yr AtM WaS CoM
set_option linter.unusedVariables false
theorem three3 (w : World) (o1 o2 : Obj) (u v : Value) (t : TypeId) : Bx (((w.alloc o1).alloc o2).alloc (.cells #[u, v] t)) (w.heap.size + 2) u v := by
  have h := bx_new ((w.alloc o1).alloc o2) u v t
  have e : ((w.alloc o1).alloc o2).heap.size = w.heap.size + 2 := by simp
  rw [e] at h
  exact h
/-- The products up to now. -/
structure Wl (w2 wr : World) (p : Option Addr) (d k : Nat) (L : List Int) : Prop where
  bel : Below w2.heap.size w2 wr
  own : wr.ownsRow w2.heap.size 3 1 (.slice p k d) k (ints L)
theorem Wl.next {w2 wr w5 w9 : World} {p : Option Addr} {d k g9 cap9 : Nat} {L : List Int} {z : Int} {o : Obj} (h : Wl w2 wr p d k L) (b5 : Below wr.heap.size wr w5) (ho : w9.ownsRow w2.heap.size 3 1 (.slice (some ⟨g9, 0, none⟩) (k + 1) cap9) (k + 1) (ints L ++ [.int .i64 z])) (hg : (w5.alloc o).grownBy w9 (Value.slice p k d).ownBlock) : Wl w2 w9 (some ⟨g9, 0, none⟩) cap9 (k + 1) (L ++ [z]) := by
  have b6 := b5.trans ((below_alloc w5 o).mono b5.size)
  refine ⟨(h.bel.trans (b6.mono h.bel.size)).grown hg (by have h1 := h.bel.size; have h2 := b6.size; omega) (fun k hk => (own_bd h.own k hk).1), ?_⟩
  rw [show ints (L ++ [z]) = ints L ++ [.int .i64 z] by unfold ints; rw [List.map_append]; rfl]
  exact ho
set_option maxRecDepth 100000 in
set_option maxHeartbeats 16000000 in
theorem spec_any (fa : Int) (pa : Option Addr) (na ca : Nat) (Ma : List Int) (fb : Int) (pb : Option Addr) (nb cb : Nat) (Mb : List Int) (w : World) (hna : na ≤ 1048576) (hnb : nb ≤ 1048576) (ha : HoldsI w pa na Ma) (hb : HoldsI w pb nb Mb) :
    Calls Try.prog 29 #[.agg #[.int .i64 fa, .slice pa na ca], .agg #[.int .i64 fb, .slice pb nb cb]] w (ResZ (coP fa Ma fb Mb).isSome ((coP fa Ma fb Mb).getD (0, [])).1 ((coP fa Ma fb Mb).getD (0, [])).2 w) := by
  have HLA := Lib.hid ha.1
  have HLB := Lib.hid hb.1
  obtain ⟨hs, x1, x2, y1, y2, -, -, hb0⟩ := two w (.int .i64 fa) (.slice pa na ca) (.int .i64 fb) (.slice pb nb cb) 27 27
  have b3 := below_alloc ((w.alloc (.cells #[.int .i64 fa, .slice pa na ca] 27)).alloc (.cells #[.int .i64 fb, .slice pb nb cb] 27)) (.cells #[.int .i64 0, .slice none 0 0] 27)
  replace x1 := (b3.cell (p := ⟨w.heap.size, 0, none⟩) (by show w.heap.size < _; omega)).trans x1
  replace x2 := (b3.cell (p := ⟨w.heap.size, 1, none⟩) (by show w.heap.size < _; omega)).trans x2
  replace y1 := (b3.cell (p := ⟨w.heap.size + 1, 0, none⟩) (by show w.heap.size + 1 < _; omega)).trans y1
  replace y2 := (b3.cell (p := ⟨w.heap.size + 1, 1, none⟩) (by show w.heap.size + 1 < _; omega)).trans y2
  have BX := Lib.hid (three3 w (.cells #[.int .i64 fa, .slice pa na ca] 27) (.cells #[.int .i64 fb, .slice pb nb cb] 27) (.int .i64 0) (.slice none 0 0) 27)
  have hbb := hb0.trans (b3.mono hb0.size)
  have HA := Lib.hid (ha.below hbb)
  have HB' := Lib.hid (hb.below hbb)
  have HB := Lib.hid hbb
  clear ha hb hb0 hs b3 hbb
  go_enter Try.func29, Try.ntmps29
  go_wp2_with fail
  generalize ((w.alloc (.cells #[.int .i64 fa, .slice pa na ca] 27)).alloc (.cells #[.int .i64 fb, .slice pb nb cb] 27)).alloc (.cells #[.int .i64 0, .slice none 0 0] 27) = W at *
  refine (good_any fa pa na ca Ma W hna HA.out).mono ?_
  rintro e w1 ⟨rfl, b⟩
  have hlt2 := BX.out.lt
  replace x1 := (b.cell (p := ⟨w.heap.size, 0, none⟩) (by show w.heap.size < _; omega)).trans x1
  replace x2 := (b.cell (p := ⟨w.heap.size, 1, none⟩) (by show w.heap.size < _; omega)).trans x2
  replace y1 := (b.cell (p := ⟨w.heap.size + 1, 0, none⟩) (by show w.heap.size + 1 < _; omega)).trans y1
  replace y2 := (b.cell (p := ⟨w.heap.size + 1, 1, none⟩) (by show w.heap.size + 1 < _; omega)).trans y2
  replace HA := Lib.hid (HA.out.below b)
  replace HB' := Lib.hid (HB'.out.below b)
  replace BX := Lib.hid (BX.out.below b)
  replace HB := Lib.hid (HB.out.trans (b.mono HB.out.size))
  clear b hlt2
  cases hva : okD fa Ma with
  | false =>
    have HN := Lib.hid (coP_no (fa := fa) (Ma := Ma) (fb := fb) (Mb := Mb) fun e _ => by rw [hva] at e; cases e)
    obtain ⟨c0, c1, f0, f1, lt1⟩ := BX.out
    go_wp2_with fail
    try simp only [Exit.inBlock, Exit.then]
    refine bodyPost_ret (v := .tuple #[.agg #[.int .i64 0, .slice none 0 0], .bool false]) (by simp [results, Try.results29, go_sem, c0, c1]) rfl ?_
    rw [HN.out]
    exact ⟨none, 0, 0, rfl, World.ownsRow_nil _ _ _ _, by omega, (HB.out.setCell (p := ⟨w.heap.size + 2, 0, none⟩) (by show w.heap.size ≤ w.heap.size + 2; omega) _).setCell (p := ⟨w.heap.size + 2, 1, none⟩) (by show w.heap.size ≤ w.heap.size + 2; omega) _⟩
  | true =>
  go_wp2_with fail
  refine (good_any fb pb nb cb Mb w1 hnb HB'.out).mono ?_
  rintro e w2 ⟨rfl, b⟩
  have hlt2 := BX.out.lt
  replace x1 := (b.cell (p := ⟨w.heap.size, 0, none⟩) (by show w.heap.size < _; omega)).trans x1
  replace x2 := (b.cell (p := ⟨w.heap.size, 1, none⟩) (by show w.heap.size < _; omega)).trans x2
  replace y1 := (b.cell (p := ⟨w.heap.size + 1, 0, none⟩) (by show w.heap.size + 1 < _; omega)).trans y1
  replace y2 := (b.cell (p := ⟨w.heap.size + 1, 1, none⟩) (by show w.heap.size + 1 < _; omega)).trans y2
  replace HA := Lib.hid (HA.out.below b)
  replace HB' := Lib.hid (HB'.out.below b)
  replace BX := Lib.hid (BX.out.below b)
  replace HB := Lib.hid (HB.out.trans (b.mono HB.out.size))
  clear b hlt2
  cases hvb : okD fb Mb with
  | false =>
    have HN := Lib.hid (coP_no (fa := fa) (Ma := Ma) (fb := fb) (Mb := Mb) fun _ e => by rw [hvb] at e; cases e)
    obtain ⟨c0, c1, f0, f1, lt1⟩ := BX.out
    clear hva
    go_wp2_with fail
    try simp only [Exit.inBlock, Exit.then]
    refine bodyPost_ret (v := .tuple #[.agg #[.int .i64 0, .slice none 0 0], .bool false]) (by simp [results, Try.results29, go_sem, c0, c1]) rfl ?_
    rw [HN.out]
    exact ⟨none, 0, 0, rfl, World.ownsRow_nil _ _ _ _, by omega, (HB.out.setCell (p := ⟨w.heap.size + 2, 0, none⟩) (by show w.heap.size ≤ w.heap.size + 2; omega) _).setCell (p := ⟨w.heap.size + 2, 1, none⟩) (by show w.heap.size ≤ w.heap.size + 2; omega) _⟩
  | true =>
  have HVA := Lib.hid hva
  have HVB := Lib.hid hvb
  have OA := Lib.hid (okD_iff.1 hva)
  have OB := Lib.hid (okD_iff.1 hvb)
  have HMA := Lib.hid (show ∀ x ∈ Ma, 0 ≤ x ∧ x ≤ 1000000 from fun x hx => upTo_mem OA.out.all hx)
  have HMB := Lib.hid (show ∀ x ∈ Mb, 0 ≤ x ∧ x ≤ 1000000 from fun x hx => upTo_mem OB.out.all hx)
  have l1 : -20000 ≤ fa := OA.out.lo
  have l2 : fa ≤ 2100 := by have h1 := OA.out.hi; have h2 := OA.out.pos; omega
  have l3 : -20000 ≤ fb := OB.out.lo
  have l4 : fb ≤ 2100 := by have h1 := OB.out.hi; have h2 := OB.out.pos; omega
  have HQ := Lib.hid (show fa + na - 1 ≤ 2100 ∧ fb + nb - 1 ≤ 2100 by have h1 := OA.out.hi; have h2 := OB.out.hi; rw [HLA.out] at h1; rw [HLB.out] at h2; omega)
  have HO : Hid (∀ v p c, HoldsI v p na ((yrs fa (fa + na - 1)).map (pr fa Ma fb Mb)) → Calls Try.prog 48 #[.int .i64 fa, .slice p na c] v (ResZ (coP fa Ma fb Mb).isSome ((coP fa Ma fb Mb).getD (0, [])).1 ((coP fa Ma fb Mb).getD (0, [])).2 v)) := by
    intro v p c hh
    have h5 := coP_yes HVA.out HVB.out
    rw [HLA.out] at h5
    rw [h5]
    exact make_any fa p na c _ v hna (by omega) hh (fun x hx => by
      obtain ⟨y, _, rfl⟩ := List.mem_map.1 hx
      have := pr_bd (fa := fa) (fb := fb) HMA.out HMB.out y
      omega)
  have HPB := Lib.hid (fun y => pr_bd (fa := fa) (fb := fb) HMA.out HMB.out y)
  obtain ⟨r, hr⟩ : ∃ r, r = coP fa Ma fb Mb := ⟨_, rfl⟩
  rw [← hr] at HO
  have HRR := Lib.hid hr
  have HLT := Lib.hid BX.out.lt
  have ltA : w.heap.size < w2.heap.size := by have := BX.out.lt; omega
  have ltB : w.heap.size + 1 < w2.heap.size := by have := BX.out.lt; omega
  clear hr hva hvb
  go_wp2_with fail
  obtain ⟨i0, hi, hy0, hy1, hy2⟩ := info_parts IntT.infoI
  have HAQ := Lib.hid (And.intro l1 (And.intro l2 (And.intro l3 (And.intro l4 HQ.out))))
  have HW0 : Hid (Wl w2 (w2.alloc (.cells #[] 3)) (some ⟨w2.heap.size, 0, none⟩) 0 0 []) :=
    ⟨below_alloc _ _, rfl, .inr ⟨w2.heap.size, 0, #[], rfl, Nat.le_refl _, (by show (w2.heap.push _)[w2.heap.size]? = _; rw [Array.getElem?_push, if_pos rfl]), Nat.le_refl _, by unfold maxLen; omega, rfl, rfl⟩⟩
  generalize w2.alloc (.cells #[] 3) = w3 at *
  go_loopw [6, 7] (fun s6 s7 wr => ∃ (k : Nat) (p : Option Addr) (d : Nat), k ≤ na ∧ s7 = .int .i64 k ∧ s6 = .slice p k d ∧ Hid (Wl w2 wr p d k (((yrs fa (fa + na - 1)).take k).map (pr fa Ma fb Mb)))) (fun _ s7 _ => na - (intOf s7).toNat)
  case atStart => exact ⟨0, _, 0, Nat.zero_le _, rfl, rfl, HW0⟩
  case round =>
    obtain ⟨k, p, d, hk, rfl, rfl, HW⟩ := hrel
    have q1 := (HW.out.bel.cell (p := ⟨w.heap.size, 0, none⟩) ltA).trans x1
    have q2 := (HW.out.bel.cell (p := ⟨w.heap.size, 1, none⟩) ltA).trans x2
    have q3 := (HW.out.bel.cell (p := ⟨w.heap.size + 1, 0, none⟩) ltB).trans y1
    have q4 := (HW.out.bel.cell (p := ⟨w.heap.size + 1, 1, none⟩) ltB).trans y2
    by_cases hkn : k < na
    · have hkn' : (k : Int) < (na : Int) := by omega
      obtain ⟨b, off, x, rfl, hx, e0⟩ := HA.out.at k hkn
      have lt0 := World.block_lt_of_cell? w2 _ e0
      have e1 := (HW.out.bel.cell (p := ⟨b, off + k, none⟩) lt0).trans e0
      have HL : Hid (((yrs fa (fa + na - 1)).take (k + 1)).map (pr fa Ma fb Mb) = ((yrs fa (fa + na - 1)).take k).map (pr fa Ma fb Mb) ++ [x * wat fb Mb (fa + k)]) := by
        unfold Hid
        rw [yrs_take (by omega), List.map_append, List.map_cons, List.map_nil]
        unfold pr
        rw [wat_in (f := fa) (M := Ma) (y := fa + (k : Int)) (x := x) (by omega) (by rw [show (fa + (k : Int) - fa).toNat = k by omega]; exact hx)]
      have hxb := HMA.out x (List.mem_of_getElem? hx)
      have hvb := wat_bd (f := fb) (m := 1000000) (by omega) HMB.out (fa + k)
      have cU : Hid (∀ W, Below w2.heap.size w2 W → Calls Try.prog 51 #[.agg #[.int .i64 fb, .slice pb nb cb], .int .i64 (fa + k)] W fun e w'' => e = .returned (.int .i64 (wat fb Mb (fa + k))) ∧ Below W.heap.size W w'') := fun W hW => l10At_any fb pb nb cb Mb (fa + k) _ hnb (by omega) (by omega) (HB'.out.below hW)
      obtain ⟨v, hv⟩ : ∃ v, v = wat fb Mb (fa + k) := ⟨_, rfl⟩
      obtain ⟨L, hL⟩ : ∃ L, L = ((yrs fa (fa + na - 1)).take k).map (pr fa Ma fb Mb) := ⟨_, rfl⟩
      rw [← hv] at cU hvb HL
      rw [← hL] at HL HW
      have hm1 : 0 ≤ x * v := Int.mul_nonneg hxb.1 hvb.1
      have hm2 : x * v ≤ 1000000 * 1000000 := Int.mul_le_mul hxb.2 hvb.2 hvb.1 (by omega)
      have hw1 : IntKind.i64.wrap (x * v) = x * v := by rw [IntKind.wrap_i64]; omega
      have hw2 : IntKind.i64.wrap (fa + k) = fa + k := by rw [IntKind.wrap_i64]; omega
      clear hv hL hx hm1 hm2 hxb hvb
      go_wp2_with fail
      have bw : Below w2.heap.size w2 wr.drew := HW.out.bel.trans ((Below.refl wr.heap.size wr).drew.mono HW.out.bel.size)
      have bz : Below wr.heap.size wr wr.drew := (Below.refl wr.heap.size wr).drew
      go_region_held3 (fun w' => w'.cell? ⟨w.heap.size, 0, none⟩ = some (.int .i64 fa) ∧ w'.cell? ⟨w.heap.size, 1, none⟩ = some (.slice (some ⟨b, off, none⟩) na ca) ∧ w'.cell? ⟨w.heap.size + 1, 0, none⟩ = some (.int .i64 fb) ∧ w'.cell? ⟨w.heap.size + 1, 1, none⟩ = some (.slice pb nb cb) ∧ w'.cell? ⟨b, off + k, none⟩ = some (.int .i64 x))
        (first | go_keep | (exact ⟨by assumption, by assumption, by assumption, by assumption, by assumption⟩))
        (first
          | (refine step_append_lies _ (by rfl) _ _ _ (by rfl) w2.heap.size 3 i0 (.int .i64 0) 1 8 Try.underlying22 hi hy0 hy1 hy2 rfl (by omega) (.slice p k d) _ _ (by rfl) (hown.alloc _) ⟨wc.heap.size, 0, none⟩ 1 1 [.int .i64 (x * v)] (by rfl) (by rfl) (OvI.new_int wc _ _) (by simp [Value.oneCell']) (by omega) (by unfold maxLen; omega) (by omega) (by simp; omega) (wc.heap.size + 1) (by simp) ?_; intro g9 cap9 w9 hown9 hgrow9 hat9 hltg9; have HD9 := Lib.hid (HW.out.next bz hown9 hgrow9); clear hown9 hgrow9 hat9 hltg9; have r1 := (HD9.out.bel.cell (p := ⟨w.heap.size, 0, none⟩) ltA).trans x1; have r2 := (HD9.out.bel.cell (p := ⟨w.heap.size, 1, none⟩) ltA).trans x2; have r3 := (HD9.out.bel.cell (p := ⟨w.heap.size + 1, 0, none⟩) ltB).trans y1; have r4 := (HD9.out.bel.cell (p := ⟨w.heap.size + 1, 1, none⟩) ltB).trans y2; have r5 := (HD9.out.bel.cell (p := ⟨b, off + k, none⟩) lt0).trans e0)
          | (go_at_call 51; refine (cU.out _ bw).mono ?_; rintro e wc ⟨rfl, bc⟩; replace bz := bz.trans (bc.mono bz.size); replace bw := bw.trans (bc.mono bw.size); have hown := ownsRow_below HW.out.own bz; have hsz5 : w2.heap.size ≤ wc.heap.size := bw.size; have q1 := (bw.cell (p := ⟨w.heap.size, 0, none⟩) ltA).trans x1; have q2 := (bw.cell (p := ⟨w.heap.size, 1, none⟩) ltA).trans x2; have q3 := (bw.cell (p := ⟨w.heap.size + 1, 0, none⟩) ltB).trans y1; have q4 := (bw.cell (p := ⟨w.heap.size + 1, 1, none⟩) ltB).trans y2; have e1 := (bw.cell (p := ⟨b, off + k, none⟩) lt0).trans e0; have ba := bw.trans ((below_alloc wc (.cells #[.int .i64 (x * v)] 3)).mono bw.size); have s1 := (ba.cell (p := ⟨w.heap.size, 0, none⟩) ltA).trans x1; have s2 := (ba.cell (p := ⟨w.heap.size, 1, none⟩) ltA).trans x2; have s3 := (ba.cell (p := ⟨w.heap.size + 1, 0, none⟩) ltB).trans y1; have s4 := (ba.cell (p := ⟨w.heap.size + 1, 1, none⟩) ltB).trans y2; have s5 := (ba.cell (p := ⟨b, off + k, none⟩) lt0).trans e0))
      all_goals (rw [← HL.out] at HD9)
      all_goals (clear r1 r2 r3 r4 r5)
      all_goals go_wp2_with fail
      all_goals exact ⟨⟨k + 1, _, _, by omega, by go_num, rfl, HD9⟩, by simp [intOf]; omega⟩
    · obtain rfl : k = na := by omega
      have hkk : ¬ (k : Int) < (k : Int) := by omega
      have hl := HW.out.own
      rw [List.take_of_length_le (by rw [yrs_len]; omega)] at hl
      have HC := Lib.hid (HO.out wr p d (holds_own hl))
      clear hl
      go_wp2_with fail
      refine HC.out.mono ?_
      rintro e v ⟨p3, k3, d3, rfl, o3, hk3, b⟩
      have hzv := HW.out.bel.size
      have bw := HW.out.bel.trans (b.mono hzv)
      obtain ⟨c0, c1, f0, f1, lt1⟩ := BX.out.below bw
      go_wp2_with fail
      try simp only [Exit.inBlock, Exit.then]
      refine bodyPost_ret (v := .tuple #[.agg #[.int .i64 (r.getD (0, [])).1, .slice p3 k3 d3], .bool r.isSome]) (by simp [results, Try.results29, go_sem, c0, c1]) rfl ?_
      have O2 := ownsRow_setCell_below (ownsRow_setCell_below o3 (a := ⟨w.heap.size + 2, 0, none⟩) (by show w.heap.size + 2 < _; have := HLT.out; omega) (.int .i64 (r.getD (0, [])).1)) (a := ⟨w.heap.size + 2, 1, none⟩) (by show w.heap.size + 2 < _; have := HLT.out; omega) (.slice p3 k3 d3)
      have hbz := HB.out.trans (bw.mono HB.out.size)
      rw [← HRR.out]
      exact ⟨p3, k3, d3, rfl, ownsRow_base O2 (by omega), hk3, (hbz.setCell (p := ⟨w.heap.size + 2, 0, none⟩) (by show w.heap.size ≤ w.heap.size + 2; omega) _).setCell (p := ⟨w.heap.size + 2, 1, none⟩) (by show w.heap.size ≤ w.heap.size + 2; omega) _⟩
end Go.Proofs.Ytfnbjfmegikciaa.CoS
