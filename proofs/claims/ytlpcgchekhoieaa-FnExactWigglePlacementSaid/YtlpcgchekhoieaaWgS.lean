/- WigglePlacement: the model. -/
import Derived.Test.YtlpcgchekhoieaaWgE
import Derived.Test.YtlpcgchekhoieaaClS
import Derived.Test.YtlpcgchekhoieaaRdS
namespace Go.Proofs.Ytlpcgchekhoieaa.WgS
open Go Go.RowKit Pairs Rec Keep GivesI Cu CvM PtM PtI Sw ShI Di RdM Yr WgM WgE ClS
set_option linter.unusedVariables false
/-- The weights of the first k years. -/
def zs (L : List Dt) (ms : List (Int × Int)) (gs : List Int) (t0 t1 : Int) (k : Nat) : List Int := ((yrs t0 t1).take k).map (pwt L ms gs)
theorem zs_next {L : List Dt} {ms : List (Int × Int)} {gs : List Int} {t0 t1 : Int} {k : Nat} (h : k < (t1 + 1 - t0).toNat) : zs L ms gs t0 t1 (k + 1) = zs L ms gs t0 t1 k ++ [pwt L ms gs (t0 + (k : Int))] := by
  unfold zs
  rw [yrs_take h, List.map_append]
  rfl
theorem zs_full {L : List Dt} {ms : List (Int × Int)} {gs : List Int} {t0 t1 : Int} {k : Nat} (h : k = (t1 + 1 - t0).toNat) : zs L ms gs t0 t1 k = (yrs t0 t1).map (pwt L ms gs) := by
  unfold zs
  rw [List.take_of_length_le (by rw [yrs_len]; omega)]
def Fz (L : List Dt) (ms : List (Int × Int)) (gs : List Int) (t0 t1 : Int) (k : Nat) : Prop := ∀ y ∈ (yrs t0 t1).take k, fine L ms gs y = true
theorem fz_next {L : List Dt} {ms : List (Int × Int)} {gs : List Int} {t0 t1 : Int} {k : Nat} (h : k < (t1 + 1 - t0).toNat) (hf : Fz L ms gs t0 t1 k) (hy : fine L ms gs (t0 + (k : Int)) = true) : Fz L ms gs t0 t1 (k + 1) := by
  intro y hm
  rw [yrs_take h] at hm
  rcases List.mem_append.1 hm with hm | hm
  · exact hf y hm
  · obtain rfl : y = t0 + (k : Int) := by simpa using hm
    exact hy
theorem fz_full {L : List Dt} {ms : List (Int × Int)} {gs : List Int} {t0 t1 : Int} {k : Nat} (h : k = (t1 + 1 - t0).toNat) (hf : Fz L ms gs t0 t1 k) : ∀ y ∈ yrs t0 t1, fine L ms gs y = true := by
  intro y hy
  refine hf y ?_
  rw [List.take_of_length_le (by rw [yrs_len]; omega)]
  exact hy
theorem okG_of {gs : List Int} (h : ∀ j x, j < gs.length → gs[j]? = some x → 0 ≤ x ∧ x ≤ 100) : okG gs = true := by
  unfold okG
  rw [List.all_eq_true]
  intro x hx
  obtain ⟨j, hj, e⟩ := List.getElem_of_mem hx
  exact decide_eq_true (h j x hj (by rw [List.getElem?_eq_getElem hj, e]))
theorem okG_not {gs : List Int} {j : Nat} {x : Int} (hx : gs[j]? = some x) (h : ¬ (0 ≤ x ∧ x ≤ 100)) : okG gs = false := by
  rw [Bool.eq_false_iff]
  intro e
  exact h (okG_mem e (List.mem_of_getElem? hx))
theorem ms6 {ms : List (Int × Int)} (h : MsM.msOK 6 ms = true) : MsM.msOK 10 ms = true := by
  have o := MsM.msOK_iff.1 h
  exact MsM.msOK_iff.2 ⟨o.pos, by have := o.len; omega, o.all⟩
theorem ms6' {ms : List (Int × Int)} (h : MsM.msOK 10 ms = true) (hl : (ms.length : Int) ≤ 6) : MsM.msOK 6 ms = true := by
  have o := MsM.msOK_iff.1 h
  exact MsM.msOK_iff.2 ⟨o.pos, hl, o.all⟩
theorem dst_zero (gs : List Int) : dst gs 0 = 0 := by unfold dst; simp
theorem dst_sat (gs : List Int) {k : Nat} (h : k = 0) : dst gs (k - 1) = dst gs k := by subst h; rfl
theorem dst_sat' {gs : List Int} {k i : Nat} {g : Int} (h : k = i + 1) (hg : gs[i]? = some g) : dst gs (k - 1) + g = dst gs k := by subst h; rw [Nat.add_sub_cancel, dst_next hg]
set_option maxRecDepth 100000 in
set_option maxHeartbeats 16000000 in
theorem spec_any : WgE.Says 46 := by
  intro a n L am nm ms ag ng gs w hn h hnm hm hng hg
  obtain ⟨i0, hi, hy0, hy1, hy2⟩ := info_parts IntT.infoI
  have bx := bx_new w (.int .i64 0) (.slice none 0 0) 42
  have hb := below_alloc w (.cells #[.int .i64 0, .slice none 0 0] 42)
  have HL := Lib.hid h.1
  have HLM := Lib.hid hm.1
  have HLG := Lib.hid hg.1
  have H := Lib.hid (h.below hb)
  have HM := Lib.hid (hm.below hb)
  have HG := Lib.hid (hg.below hb)
  have HB := Lib.hid hb
  have BX := Lib.hid bx
  obtain ⟨r, hr⟩ : ∃ r, r = wgP L ms gs := ⟨_, rfl⟩
  rw [← hr]
  have HR := Lib.hid hr
  clear hr h hm hg hb bx
  go_enter Try.func46, Try.ntmps46
  go_wp2_with fail
  generalize w.alloc (.cells #[.int .i64 0, .slice none 0 0] 42) = W at *
  refine (CvS.good_any a n n L W hn H.out).mono ?_
  rintro e w1 ⟨rfl, b⟩
  replace H := Lib.hid (H.out.below b)
  replace HM := Lib.hid (HM.out.below b)
  replace HG := Lib.hid (HG.out.below b)
  replace BX := Lib.hid (BX.out.below b)
  replace HB := Lib.hid (HB.out.trans (b.mono HB.out.size))
  clear b
  cases hu : cv L with
  | false =>
    have HN := Lib.hid (HR.out.trans (wgP_no fun e _ _ _ _ => by rw [hu] at e; cases e))
    clear hu
    obtain ⟨d0, d1, f0, f1, lt1⟩ := BX.out
    go_wp2_with fail
    try simp only [Exit.inBlock, Exit.then]
    refine bodyPost_ret (v := .tuple #[.agg #[.int .i64 0, .slice none 0 0], .bool false]) (by simp [results, Try.results46, go_sem, d0, d1]) rfl ?_
    rw [HN.out]
    exact ⟨none, 0, 0, rfl, World.ownsRow_nil _ _ _ _, by omega, (HB.out.setCell (p := ⟨w.heap.size, 0, none⟩) (Nat.le_refl _) _).setCell (p := ⟨w.heap.size, 1, none⟩) (Nat.le_refl _) _⟩
  | true =>
    have HU := Lib.hid hu
    have O := Lib.hid (cv_iff.1 hu)
    clear hu
    go_wp2_with fail
    refine (MsM.list_any am nm nm ms w1 hnm HM.out).mono ?_
    rintro e w2 ⟨rfl, b⟩
    replace H := Lib.hid (H.out.below b)
    replace HM := Lib.hid (HM.out.below b)
    replace HG := Lib.hid (HG.out.below b)
    replace BX := Lib.hid (BX.out.below b)
    replace HB := Lib.hid (HB.out.trans (b.mono HB.out.size))
    clear b
    cases hmk : MsM.msOK 10 ms with
    | false =>
      have HN := Lib.hid (HR.out.trans (wgP_no fun _ e _ _ _ => by rw [ms6 e] at hmk; cases hmk))
      clear hmk
      obtain ⟨d0, d1, f0, f1, lt1⟩ := BX.out
      go_wp2_with fail
      try simp only [Exit.inBlock, Exit.then]
      refine bodyPost_ret (v := .tuple #[.agg #[.int .i64 0, .slice none 0 0], .bool false]) (by simp [results, Try.results46, go_sem, d0, d1]) rfl ?_
      rw [HN.out]
      exact ⟨none, 0, 0, rfl, World.ownsRow_nil _ _ _ _, by omega, (HB.out.setCell (p := ⟨w.heap.size, 0, none⟩) (Nat.le_refl _) _).setCell (p := ⟨w.heap.size, 1, none⟩) (Nat.le_refl _) _⟩
    | true =>
      have HMT := Lib.hid hmk
      clear hmk
      by_cases h6 : (6 : Int) < (nm : Int)
      · have HN := Lib.hid (HR.out.trans (wgP_no fun _ e _ _ _ => by have h1 := (MsM.msOK_iff.1 e).len; rw [HLM.out] at h1; omega))
        obtain ⟨d0, d1, f0, f1, lt1⟩ := BX.out
        go_wp2_with fail
        try simp only [Exit.inBlock, Exit.then]
        refine bodyPost_ret (v := .tuple #[.agg #[.int .i64 0, .slice none 0 0], .bool false]) (by simp [results, Try.results46, go_sem, d0, d1]) rfl ?_
        rw [HN.out]
        exact ⟨none, 0, 0, rfl, World.ownsRow_nil _ _ _ _, by omega, (HB.out.setCell (p := ⟨w.heap.size, 0, none⟩) (Nat.le_refl _) _).setCell (p := ⟨w.heap.size, 1, none⟩) (Nat.le_refl _) _⟩
      · have HMK := Lib.hid (ms6' HMT.out (by rw [HLM.out]; omega))
        have OM := Lib.hid (MsM.msOK_iff.1 HMK.out)
        have hm1 : 1 ≤ nm ∧ nm ≤ 6 := by have h1 := OM.out.pos; have h2 := OM.out.len; rw [HLM.out] at h1 h2; omega
        have q1 : wrap64 ((nm : Int) - 1) = (nm : Int) - 1 := by unfold wrap64; omega
        by_cases hgl : (ng : Int) = (nm : Int) - 1
        · have HGL := Lib.hid (show (gs.length : Int) = (ms.length : Int) - 1 by rw [HLG.out, HLM.out]; exact hgl)
          have HGN : Hid (ng + 1 = nm) := by unfold Hid; omega
          go_wp2_with fail
          go_loopw [8] (fun s8 wr => ∃ k : Nat, k ≤ ng ∧ s8 = .int .i64 k ∧ Hid (∀ j x, j < k → gs[j]? = some x → 0 ≤ x ∧ x ≤ 100) ∧ Hid (Below w2.heap.size w2 wr)) (fun s8 _ => ng - (intOf s8).toNat)
          case atStart => exact ⟨0, Nat.zero_le _, rfl, fun j x hj => absurd hj (by omega), Below.refl _ _⟩
          case round =>
            obtain ⟨k, hk, rfl, HS, HW⟩ := hrel
            by_cases hlt : k < ng
            · have hki : (k : Int) < (ng : Int) := by omega
              have hk0 : (0 : Int) ≤ (k : Int) := by omega
              obtain ⟨b1, off1, g, rfl, hx, e1⟩ := (HG.out.below HW.out).at k hlt
              have HX := Lib.hid hx
              clear hx
              go_wp2_with fail
              refine (DvG.l1In_any g 0 100 _).mono ?_
              rintro e w3 ⟨rfl, rfl⟩
              by_cases hgo : 0 ≤ g ∧ g ≤ 100
              · rw [decide_eq_true hgo]
                go_wp2_with fail
                refine ⟨⟨k + 1, by omega, by go_num, fun j x hj hx => ?_, HW⟩, by simp [intOf]; omega⟩
                by_cases hjk : j < k
                · exact HS.out j x hjk hx
                · obtain rfl : j = k := by omega
                  rw [HX.out] at hx
                  injection hx with hx
                  rw [← hx]
                  exact hgo
              · rw [decide_eq_false hgo]
                have HN := Lib.hid (HR.out.trans (wgP_no fun _ _ _ e _ => by rw [okG_not HX.out hgo] at e; cases e))
                replace BX := Lib.hid (BX.out.below HW.out)
                replace HB := Lib.hid (HB.out.trans (HW.out.mono HB.out.size))
                clear e1 hgo
                obtain ⟨d0, d1, f0, f1, lt1⟩ := BX.out
                go_wp2_with fail
                try simp only [Exit.inBlock, Exit.then]
                refine bodyPost_ret (v := .tuple #[.agg #[.int .i64 0, .slice none 0 0], .bool false]) (by simp [results, Try.results46, go_sem, d0, d1]) rfl ?_
                rw [HN.out]
                exact ⟨none, 0, 0, rfl, World.ownsRow_nil _ _ _ _, by omega, (HB.out.setCell (p := ⟨w.heap.size, 0, none⟩) (Nat.le_refl _) _).setCell (p := ⟨w.heap.size, 1, none⟩) (Nat.le_refl _) _⟩
            · obtain rfl : ng = k := by omega
              have HOK := Lib.hid (okG_of (gs := gs) fun j x hj hx => HS.out j x (by rw [← HLG.out]; exact hj) hx)
              have hki : ¬ (ng : Int) < (ng : Int) := by omega
              have b := HW.out
              replace H := Lib.hid (H.out.below b)
              replace HM := Lib.hid (HM.out.below b)
              replace HG := Lib.hid (HG.out.below b)
              replace BX := Lib.hid (BX.out.below b)
              replace HB := Lib.hid (HB.out.trans (b.mono HB.out.size))
              clear b
              clear HS HW
              have hn2 : 2 ≤ n := by have := O.out.lo; rw [HL.out] at this; exact this
              have hn40 : n ≤ 40 := by have := O.out.len; rw [HL.out] at this; exact this
              have hya := (O.out.p (i := 0) (by rw [HL.out]; omega)).y
              have hyb := (O.out.p (i := n - 1) (by rw [HL.out]; omega)).y
              have hle := le_pt O.out (i := 0) (j := n - 1) (by omega) (by rw [HL.out]; omega)
              have hsp := O.out.span
              rw [HL.out] at hsp
              have HY : Hid ((∀ y ∈ yrs (pt L 0).1 (pt L (n - 1)).1, fine L ms gs y = true) → r = red (pt L 0).1 ((yrs (pt L 0).1 (pt L (n - 1)).1).map (pwt L ms gs))) := by
                intro h
                rw [HR.out, ← HL.out]
                rw [← HL.out] at h
                exact wgP_yes HU.out HMK.out HGL.out HOK.out h
              have HNO : Hid ((∃ y, y ∈ yrs (pt L 0).1 (pt L (n - 1)).1 ∧ fine L ms gs y = false) → r = none) := by
                rintro ⟨y, h1, h2⟩
                rw [HR.out]
                rw [← HL.out] at h1
                refine wgP_no fun _ _ _ _ h => ?_
                rw [h y h1] at h2
                cases h2
              obtain ⟨m, hmm⟩ : ∃ m, n - 1 = m := ⟨_, rfl⟩
              rw [hmm] at HY HNO hyb hle hsp
              have hm1' : IntKind.i64.wrap ((n : Int) - 1) = (m : Int) := by rw [IntKind.wrap_i64]; omega
              have hm1'' : wrap64 ((n : Int) - 1) = (m : Int) := by unfold wrap64; omega
              have hm0 : (0 : Int) ≤ (m : Int) := by omega
              have hmn : (m : Int) < (n : Int) := by omega
              have hmn' : m < n := by omega
              have hn0 : (0 : Int) < (n : Int) := by omega
              have hn00 : 0 < n := by omega
              have HP0 : Hid (∀ q, L[0]? = some q → q.1 = (pt L 0).1) := fun q hq => by rw [pt_of hq]
              have HPm : Hid (∀ q, L[m]? = some q → q.1 = (pt L m).1) := fun q hq => by rw [pt_of hq]
              generalize (pt L 0).1 = t0 at *
              generalize (pt L m).1 = t1 at *
              obtain ⟨N, hN⟩ : ∃ N, (t1 + 1 - t0).toNat = N := ⟨_, rfl⟩
              have HN := Lib.hid hN
              have hN1 : N ≤ 400 := by omega
              have HT : Hid (t1 = t0 + (N : Int) - 1) := by unfold Hid; omega
              obtain ⟨w5, hw5⟩ : ∃ w5, wr = w5 := ⟨_, rfl⟩
              rw [hw5] at H HM HG BX HB ⊢
              have he0 := below_alloc w5 (.cells #[] 3)
              have HG0 : Hid (G2 w5.heap.size w5 (w5.alloc (.cells #[] 3)) (.slice (some ⟨w5.heap.size, 0, none⟩) 0 0) 0 (zs L ms gs t0 t1 0)) := ⟨AppI.empty_own w5, he0⟩
              have HF0 : Hid (Fz L ms gs t0 t1 0) := fun y hy => by cases hy
              obtain ⟨b, off, x, u, z, rfl, hx, e1, e2, e3⟩ := H.out.at 0 (by omega)
              have hx0 := HP0.out _ hx
              simp only at hx0
              subst hx0
              rw [Nat.zero_mul, Nat.add_zero] at e1
              have e1' := (he0.cell (World.block_lt_of_cell? w5 _ e1)).trans e1
              clear he0 hx e2 e3 hN hmm hw5 hgl hki q1
              go_wp2_with fail
              generalize w5.alloc (.cells #[] 3) = W3 at *
              clear e1'
              go_loopw [9, 10] (fun s9 s10 wr => ∃ j : Nat, j ≤ N ∧ s10 = .int .i64 (x + (j : Int)) ∧ Hid (Fz L ms gs x t1 j) ∧ Hid (G2 w5.heap.size w5 wr s9 j (zs L ms gs x t1 j))) (fun _ s10 _ => (x + (N : Int) - intOf s10).toNat)
              case atStart => exact ⟨0, Nat.zero_le _, by simp, HF0, HG0⟩
              case round =>
                clear HG0 HF0
                obtain ⟨j, hj, rfl, HFj, HRj⟩ := hrel
                obtain ⟨b1, off1, x1, u1, z1, hb1, hx1, g1, g2, g3⟩ := (H.out.below HRj.out.2).at m hmn'
                injection hb1 with hb1
                injection hb1 with hb1 ho1
                subst hb1 ho1
                have hxm := HPm.out _ hx1
                simp only at hxm
                subst hxm
                obtain ⟨pv, dv, rfl⟩ := TnI.own_form HRj.out.1
                clear hx1 g2 g3
                obtain ⟨wo, rfl⟩ : ∃ wo, wo = wr := ⟨_, rfl⟩
                by_cases hlt : j < N
                · have hle : x + (j : Int) ≤ x1 := by have := HT.out; omega
                  have HNX := Lib.hid (zs_next (L := L) (ms := ms) (gs := gs) (t0 := x) (t1 := x1) (k := j) (by rw [HN.out]; exact hlt))
                  have HFX := Lib.hid (fun h => fz_next (L := L) (ms := ms) (gs := gs) (t0 := x) (t1 := x1) (k := j) (by rw [HN.out]; exact hlt) HFj.out h)
                  have HMY : Hid (x + (j : Int) ∈ yrs x x1) := yrs_mem.2 (by omega)
                  have H5 := Lib.hid (H.out.below HRj.out.2)
                  have HM5 := Lib.hid (HM.out.below HRj.out.2)
                  have HG5 := Lib.hid (HG.out.below HRj.out.2)
                  have BX5 := Lib.hid (BX.out.below HRj.out.2)
                  have HB5 := Lib.hid (HB.out.trans (HRj.out.2.mono HB.out.size))
                  have hyx : -20000 ≤ x + (j : Int) ∧ x + (j : Int) ≤ 2100 := by omega
                  have hnext : IntKind.i64.wrap (x + (j : Int) + 1) = x + (j : Int) + 1 := by rw [IntKind.wrap_i64]; omega
                  obtain ⟨y, hy⟩ : ∃ y, y = x + (j : Int) := ⟨_, rfl⟩
                  rw [← hy] at hle HNX HFX HMY hyx hnext ⊢
                  have HYJ := Lib.hid hy
                  clear hy
                  go_wp2_with fail
                  go_loopw [11, 12, 13] (fun s11 s12 s13 wq => ∃ (k : Nat) (p d : Int), k ≤ nm ∧ s11 = .int .i64 p ∧ s12 = .int .i64 d ∧ s13 = .int .i64 (k : Int) ∧ Hid (d = y + dst gs (k - 1)) ∧ Hid (prd L ms gs y k = some p) ∧ Hid (Below wo.heap.size wo wq)) (fun _ _ s13 _ => nm - (intOf s13).toNat)
                  case atStart => exact ⟨0, 1, y, Nat.zero_le _, rfl, rfl, rfl, by unfold Hid; rw [show 0 - 1 = 0 from rfl, dst_zero]; omega, rfl, Below.refl _ _⟩
                  case round =>
                    obtain ⟨k, p, d, hk, rfl, rfl, rfl, HD, HP, HW⟩ := hrel
                    by_cases hlk : k < nm
                    · have hki : (k : Int) < (nm : Int) := by omega
                      have hk0 : (0 : Int) ≤ (k : Int) := by omega
                      have hk1 : k + 1 ≤ nm := by omega
                      have hmu : nm - (k + 1) < nm - k := by omega
                      have hkms : k + 1 ≤ ms.length := by rw [HLM.out]; exact hk1
                      obtain ⟨b2, off2, A, E, rfl, hx2, e2, e3⟩ := (HM5.out.below HW.out).at k hlk
                      have hmd : ms.getD k (0, 0) = (A, E) := by rw [List.getD_eq_getElem?_getD, hx2]; rfl
                      have hom : MsM.okM (A, E) = true := OM.out.all _ (List.mem_of_getElem? hx2)
                      have hpb := pw_bd O.out OM.out.all y k p (by rw [HLM.out]; omega) HP.out
                      have hdb := dst_bd HOK.out k
                      obtain ⟨Y, hY⟩ : ∃ Y, Y = y + dst gs k := ⟨_, rfl⟩
                      have HYD := Lib.hid hY
                      have hsb := swt_bd O.out hom Y
                      obtain ⟨s, hs⟩ : ∃ s, s = swt L (A, E) Y := ⟨_, rfl⟩
                      have HS : Hid (swt L (ms.getD k (0, 0)) (y + dst gs k) = s) := by unfold Hid; rw [hs, hmd, hY]
                      have HC := Lib.hid (fun W h => Sw.spec_any (some ⟨b, off, none⟩) n L A E Y W hn O.out hom h)
                      rw [← hs] at hsb HC
                      have hps0 : 0 ≤ p * s := Int.mul_nonneg hpb.1 hsb.1
                      have hps1 : p * s ≤ 1000000000000 * 7000000 := Int.mul_le_mul hpb.2 hsb.2 hsb.1 (by decide)
                      have hYb : -1000000 ≤ Y ∧ Y ≤ 1000000 := by omega
                      have HPN : Hid (1000000000000 < p * s → fine L ms gs y = false) := by
                        intro hgt
                        have e := prd_no HP.out (by rw [HS.out]; exact hgt) ms.length hkms
                        unfold fine
                        rw [e]
                        rfl
                      have HPY : Hid (¬ 1000000000000 < p * s → prd L ms gs y (k + 1) = some (p * s)) := by
                        intro hgt
                        have e := prd_yes HP.out (by rw [HS.out]; exact hgt)
                        rw [HS.out] at e
                        exact e
                      obtain ⟨z, hz⟩ : ∃ z, p * s = z := ⟨_, rfl⟩
                      rw [hz] at hps0 hps1 HPN HPY
                      have v1 : wrap64 (p * s) = z := by rw [hz]; unfold wrap64; omega
                      have v3 : IntKind.i64.wrap (p * s) = z := by rw [hz, IntKind.wrap_i64]; omega
                      have H6 := Lib.hid (H5.out.below HW.out)
                      by_cases hkz : k = 0
                      · have HDY : Y = d := by rw [HD.out, dst_sat gs hkz, hY]
                        clear hY hx2 hmd hom hpb hdb hsb hs hz hps0 hps1 hYb HS
                        subst HDY
                        subst hkz
                        rw [Nat.zero_mul, Nat.add_zero] at e2 e3
                        have hnm0 : (0 : Int) < (nm : Int) := by omega
                        have hnm00 : 0 < nm := by omega
                        go_wp2_with fail
                        refine (HC.out wr H6.out).mono ?_
                        rintro e w8 ⟨rfl, b8⟩
                        have HW8 := Lib.hid (HW.out.trans (b8.mono HW.out.size))
                        clear b8 HC e2 e3 HD HP
                        by_cases hgt : 1000000000000 < z
                        · have HN := Lib.hid (HNO.out ⟨y, HMY.out, HPN.out hgt⟩)
                          have BX := Lib.hid (BX5.out.below HW8.out)
                          have HB := Lib.hid (HB5.out.trans (HW8.out.mono HB5.out.size))
                          obtain ⟨d0, d1, f0, f1, lt1⟩ := BX.out
                          go_wp2_with fail
                          try simp only [Exit.inBlock, Exit.then]
                          refine bodyPost_ret (v := .tuple #[.agg #[.int .i64 0, .slice none 0 0], .bool false]) (by simp [results, Try.results46, go_sem, d0, d1]) rfl ?_
                          rw [HN.out]
                          exact ⟨none, 0, 0, rfl, World.ownsRow_nil _ _ _ _, by omega, (HB.out.setCell (p := ⟨w.heap.size, 0, none⟩) (Nat.le_refl _) _).setCell (p := ⟨w.heap.size, 1, none⟩) (Nat.le_refl _) _⟩
                        · have HP2 := Lib.hid (HPY.out (by omega))
                          clear HPN HPY
                          go_wp2_with fail
                          refine ⟨⟨0 + 1, z, Y, hk1, rfl, rfl, by go_num, by unfold Hid; rw [Nat.add_sub_cancel]; exact HYD.out, HP2, HW8⟩, ?_⟩
                          simp [intOf]
                          omega
                      · obtain ⟨i, hi⟩ : ∃ i, k = i + 1 := ⟨k - 1, by omega⟩
                        obtain ⟨b3, off3, g, rfl, hxg, e4⟩ := (HG5.out.below HW.out).at i (by have := HGN.out; omega)
                        have HDY : d + g = Y := by rw [HD.out, hY, Int.add_assoc, dst_sat' hi hxg]
                        have hdw : wrap64 (d + g) = Y := by rw [HDY]; unfold wrap64; omega
                        have hdw2 : IntKind.i64.wrap (d + g) = Y := by rw [HDY, IntKind.wrap_i64]; omega
                        have hi1 : IntKind.i64.wrap ((k : Int) - 1) = (i : Int) := by rw [IntKind.wrap_i64]; omega
                        have hi2 : wrap64 ((k : Int) - 1) = (i : Int) := by unfold wrap64; omega
                        have hi0' : (0 : Int) ≤ (i : Int) := by omega
                        have hin : (i : Int) < (ng : Int) := by have := HGN.out; omega
                        have hkp : (0 : Int) < (k : Int) := by omega
                        have hkp2 : 0 < k := by omega
                        clear hY hx2 hmd hom hpb hdb hsb hs hz hps0 hps1 hYb HS hxg HDY hi hkz
                        go_wp2_with fail
                        refine (HC.out wr H6.out).mono ?_
                        rintro e w8 ⟨rfl, b8⟩
                        have HW8 := Lib.hid (HW.out.trans (b8.mono HW.out.size))
                        clear b8 HC e2 e3 HD HP
                        by_cases hgt : 1000000000000 < z
                        · have HN := Lib.hid (HNO.out ⟨y, HMY.out, HPN.out hgt⟩)
                          have BX := Lib.hid (BX5.out.below HW8.out)
                          have HB := Lib.hid (HB5.out.trans (HW8.out.mono HB5.out.size))
                          obtain ⟨d0, d1, f0, f1, lt1⟩ := BX.out
                          go_wp2_with fail
                          try simp only [Exit.inBlock, Exit.then]
                          refine bodyPost_ret (v := .tuple #[.agg #[.int .i64 0, .slice none 0 0], .bool false]) (by simp [results, Try.results46, go_sem, d0, d1]) rfl ?_
                          rw [HN.out]
                          exact ⟨none, 0, 0, rfl, World.ownsRow_nil _ _ _ _, by omega, (HB.out.setCell (p := ⟨w.heap.size, 0, none⟩) (Nat.le_refl _) _).setCell (p := ⟨w.heap.size, 1, none⟩) (Nat.le_refl _) _⟩
                        · have HP2 := Lib.hid (HPY.out (by omega))
                          clear HPN HPY
                          go_wp2_with fail
                          refine ⟨⟨k + 1, z, Y, hk1, rfl, rfl, by go_num, by unfold Hid; rw [Nat.add_sub_cancel]; exact HYD.out, HP2, HW8⟩, ?_⟩
                          have ea : (intOf (.int .i64 ((k : Int) + 1))).toNat = k + 1 := rfl
                          have eb : (intOf (.int .i64 (k : Int))).toNat = k := rfl
                          rw [ea, eb]
                          exact hmu
                    · obtain rfl : nm = k := by omega
                      have hki : ¬ (nm : Int) < (nm : Int) := by omega
                      have HPW : Hid (pwt L ms gs y = p) := by unfold Hid pwt; rw [HLM.out, HP.out]; rfl
                      have HFN : Hid (fine L ms gs y = true) := by unfold Hid fine; rw [HLM.out, HP.out]; rfl
                      have hown := ownsRow_below HRj.out.1 HW.out
                      have HW8 := Lib.hid (HRj.out.2.trans (HW.out.mono HRj.out.2.size))
                      have hw8 := HW8.out.size
                      have HF9 := Lib.hid (HFX.out HFN.out)
                      clear HRj HP HD HM5 HG5 H5 HW HFX
                      go_wp2_with (at_builtin; refine wpList_append_own _ rfl _ _ 32 rfl w5.heap.size 3 i0 (.int .i64 0) 1 8 Try.underlying32 hi hy0 hy1 hy2 rfl (by decide) _ _ _ rfl (hown.alloc _) ⟨wr.heap.size, 0, none⟩ 1 1 [.int .i64 p] rfl rfl (TnI.cell_one_new _ _ _) (by simp [Value.oneCell']) (by unfold maxLen; omega) (by omega) (by simp; omega) ?_; intro v' w9 hown' hgrow hnil)
                      have hG : G2 w5.heap.size w5 w9 v' (j + 1) (zs L ms gs x x1 (j + 1)) := by
                        unfold G2
                        rw [HNX.out, HPW.out, TnI.ints_append]
                        exact ⟨hown', (HW8.out.alloc hw8 _).grown hgrow (by simp; omega) (fun j hj => (hown.lt j hj).1)⟩
                      have HG := Lib.hid hG
                      clear hG hown' hgrow hown hnil
                      have hyj := HYJ.out
                      exact ⟨⟨j + 1, by omega, by rw [hyj]; congr 1; push_cast; omega, HF9, HG⟩, by simp [intOf]; omega⟩
                · obtain rfl : j = N := by omega
                  have hle : ¬ x + (j : Int) ≤ x1 := by have := HT.out; omega
                  have HYY := Lib.hid (HY.out (fz_full HN.out.symm HFj.out))
                  rw [← zs_full HN.out.symm] at HYY
                  have e1' := (HRj.out.2.cell (World.block_lt_of_cell? w5 _ e1)).trans e1
                  have hho := GivesI.holds_own HRj.out.1
                  have HC := Lib.hid (RdS.make_any x pv j dv (zs L ms gs x x1 j) wo (by omega) (by omega) hho (fun q hq => by
                    unfold zs at hq
                    obtain ⟨y, hyt, rfl⟩ := List.mem_map.1 hq
                    have hf := HFj.out y hyt
                    unfold fine at hf
                    unfold pwt
                    cases hp : prd L ms gs y ms.length with
                    | none => rw [hp] at hf; cases hf
                    | some p =>
                      have := pw_bd O.out OM.out.all y ms.length p (Nat.le_refl _) hp
                      show 0 ≤ p ∧ p ≤ 4611686018427387904
                      omega))
                  unfold Hid at HYY
                  rw [← HYY] at HC
                  have HBr := Lib.hid (HB.out.trans (HRj.out.2.mono HB.out.size))
                  have BXr := Lib.hid (BX.out.below HRj.out.2)
                  clear HRj hho e1 HYY
                  go_wp2_with fail
                  refine HC.out.mono ?_
                  rintro e v ⟨p3, k3, d3, rfl, o3, hk3, b⟩
                  have hzv := BXr.out.lt
                  obtain ⟨n0, n1, f0, f1, lt1⟩ := BXr.out.below b
                  have O3 := Lib.hid o3
                  have B3 := Lib.hid b
                  clear o3 b
                  go_wp2_with fail
                  try simp only [Exit.inBlock, Exit.then]
                  refine bodyPost_ret (v := .tuple #[.agg #[.int .i64 (r.getD (0, [])).1, .slice p3 k3 d3], .bool r.isSome]) (by simp [results, Try.results46, go_sem, n0, n1]) rfl ?_
                  have O2 := ownsRow_setCell_below (ownsRow_setCell_below O3.out (a := ⟨w.heap.size, 0, none⟩) (by show w.heap.size < _; exact hzv) (.int .i64 (r.getD (0, [])).1)) (a := ⟨w.heap.size, 1, none⟩) (by show w.heap.size < _; exact hzv) (.slice p3 k3 d3)
                  have hbz := HBr.out.trans (B3.out.mono HBr.out.size)
                  exact ⟨p3, k3, d3, rfl, Keep.ownsRow_base O2 (by have := HBr.out.size; omega), hk3, (hbz.setCell (p := ⟨w.heap.size, 0, none⟩) (Nat.le_refl _) _).setCell (p := ⟨w.heap.size, 1, none⟩) (Nat.le_refl _) _⟩
        · have HN := Lib.hid (HR.out.trans (wgP_no fun _ _ e _ _ => hgl (by rw [HLG.out, HLM.out] at e; exact e)))
          have hne : ((ng : Int) != (nm : Int) - 1) = true := bne_iff_ne.2 hgl
          obtain ⟨d0, d1, f0, f1, lt1⟩ := BX.out
          go_wp2_with fail
          try simp only [Exit.inBlock, Exit.then]
          refine bodyPost_ret (v := .tuple #[.agg #[.int .i64 0, .slice none 0 0], .bool false]) (by simp [results, Try.results46, go_sem, d0, d1]) rfl ?_
          rw [HN.out]
          exact ⟨none, 0, 0, rfl, World.ownsRow_nil _ _ _ _, by omega, (HB.out.setCell (p := ⟨w.heap.size, 0, none⟩) (Nat.le_refl _) _).setCell (p := ⟨w.heap.size, 1, none⟩) (Nat.le_refl _) _⟩
end Go.Proofs.Ytlpcgchekhoieaa.WgS
