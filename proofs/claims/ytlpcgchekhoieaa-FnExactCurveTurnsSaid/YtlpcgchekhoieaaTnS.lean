/- CurveTurns: the model. -/
import Derived.Test.YtlpcgchekhoieaaTnI
import Derived.Test.YtlpcgchekhoieaaCvS
namespace Go.Proofs.Ytlpcgchekhoieaa.TnS
open Go Go.RowKit Pairs Rec Keep GivesI Cu CvM CuG TnI
set_option linter.unusedVariables false
set_option maxRecDepth 100000 in
set_option maxHeartbeats 8000000 in
theorem spec_any : Says 41 := by
  intro a n L w hn h
  obtain ⟨i0, hi, hy0, hy1, hy2⟩ := info_parts IntT.infoI
  have hb0 := below_alloc w (.cells #[] 3)
  have HL := Lib.hid h.1
  have H0 := Lib.hid h
  have H := Lib.hid (h.below hb0)
  have HG0 : Hid (G1 w.heap.size w (w.alloc (.cells #[] 3)) (.slice (some ⟨w.heap.size, 0, none⟩) 0 0) []) := ⟨AppI.empty_own w, hb0⟩
  obtain ⟨r, hr⟩ : ∃ r, r = ctP L := ⟨_, rfl⟩
  rw [← hr]
  have HR := Lib.hid hr
  clear hr h hb0
  go_enter Try.func41, Try.ntmps41
  go_wp2_with fail
  generalize w.alloc (.cells #[] 3) = W at *
  refine (CvS.good_any a n n L W hn H.out).mono ?_
  rintro e w1 ⟨rfl, b⟩
  replace HG0 : Hid (G1 w.heap.size w w1 (.slice (some ⟨w.heap.size, 0, none⟩) 0 0) []) := ⟨ownsRow_below HG0.out.1 b, HG0.out.2.trans (b.mono HG0.out.2.size)⟩
  clear b H
  cases hu : cv L with
  | false =>
    have HF := Lib.hid (HR.out.trans (ctP_bad hu))
    clear hu
    go_wp2_with fail
    go_ret2
    rw [HF.out]
    exact ⟨_, _, _, rfl, HG0.out.1, by omega, HG0.out.2⟩
  | true =>
    have O := Lib.hid (cv_iff.1 hu)
    have HF := Lib.hid (HR.out.trans (ctP_yes hu))
    have hn2 : 2 ≤ n := by have := O.out.lo; rw [HL.out] at this; exact this
    have hn40 : n ≤ 40 := by have := O.out.len; rw [HL.out] at this; exact this
    rw [HL.out] at HF
    clear hu HR
    obtain ⟨b, off, x, y, z, rfl, hx, e1, e2, e3⟩ := H0.out.at 0 (by omega)
    clear hx e1 e2 e3
    go_wp2_with fail
    obtain ⟨m, hm⟩ : ∃ m, n - 2 = m := ⟨_, rfl⟩
    rw [hm] at HF
    have HM : Hid (m + 2 = n) := by unfold Hid; omega
    clear hm
    go_loopw [4, 5] (fun s4 s5 wr => ∃ (k k1 : Nat), k ≤ m ∧ k + 1 = k1 ∧ s5 = .int .i64 k1 ∧ Hid (G1 w.heap.size w wr s4 (tns L k))) (fun _ s5 _ => n - (intOf s5).toNat)
    case atStart => exact ⟨0, 1, Nat.zero_le _, rfl, rfl, HG0⟩
    case round =>
      clear HG0
      obtain ⟨k, k1, hk, hk1, rfl, HR⟩ := hrel
      have HK1 := Lib.hid hk1
      obtain ⟨k2, hk2⟩ : ∃ k2, k1 + 1 = k2 := ⟨_, rfl⟩
      have HK2 := Lib.hid hk2
      have u1 : IntKind.i64.wrap ((k1 : Int) + 1) = (k2 : Int) := by rw [IntKind.wrap_i64]; have := HM.out; omega
      have u1' : wrap64 ((k1 : Int) + 1) = (k2 : Int) := by unfold wrap64; have := HM.out; omega
      have u2 : IntKind.i64.wrap ((k1 : Int) - 1) = (k : Int) := by rw [IntKind.wrap_i64]; have := HM.out; omega
      have hz0 : (0 : Int) ≤ (k : Int) := by omega
      have hz1 : (0 : Int) ≤ (k1 : Int) := by omega
      have hz2 : (0 : Int) ≤ (k2 : Int) := by omega
      have hlen := tns_len L k
      by_cases hlt : k < m
      · have hl0 : (k : Int) < (n : Int) := by have := HM.out; omega
        have hl1 : (k1 : Int) < (n : Int) := by have := HM.out; omega
        have hl2 : (k2 : Int) < (n : Int) := by have := HM.out; omega
        obtain ⟨b1, off1, x0, y0, z0, hb1, hx0, f1, f2, f3⟩ := (H0.out.below HR.out.2).at k (by have := HM.out; omega)
        injection hb1 with hb1
        injection hb1 with hb1 ho1
        subst hb1 ho1
        obtain ⟨b1, off1, x1, y1, z1, hb1, hx1, g1, g2, g3⟩ := (H0.out.below HR.out.2).at k1 (by have := HM.out; omega)
        injection hb1 with hb1
        injection hb1 with hb1 ho1
        subst hb1 ho1
        obtain ⟨b1, off1, x2, y2, z2, hb1, hx2, e1, e2, e3⟩ := (H0.out.below HR.out.2).at k2 (by have := HM.out; omega)
        injection hb1 with hb1
        injection hb1 with hb1 ho1
        subst hb1 ho1
        have HTN := Lib.hid (show tn L k = ((decide (y1 < y0) && decide (y1 < y2)) || (decide (y0 < y1) && decide (y2 < y1))) by unfold tn; rw [show k + 2 = k2 by omega, hk1, pt_of hx2, pt_of hx1, pt_of hx0])
        have HX1 := Lib.hid (show (pt L k1).1 = x1 by rw [pt_of hx1])
        have ha0 := (O.out.p (i := k) (by rw [HL.out]; have := HM.out; omega)).a
        have ha1 := (O.out.p (i := k1) (by rw [HL.out]; have := HM.out; omega)).a
        have ha2 := (O.out.p (i := k2) (by rw [HL.out]; have := HM.out; omega)).a
        rw [pt_of hx0] at ha0
        rw [pt_of hx1] at ha1
        rw [pt_of hx2] at ha2
        simp only at ha0 ha1 ha2
        have v1 : IntKind.i64.wrap (y0 - y1) = y0 - y1 := by rw [IntKind.wrap_i64]; omega
        have v2 : IntKind.i64.wrap (y2 - y1) = y2 - y1 := by rw [IntKind.wrap_i64]; omega
        clear hx0 hx1 hx2 hk1 hk2 f1 f3 g3 e1 e3
        have j1 := cell_regrown f2
        have j2 := cell_regrown g2
        have j3 := cell_regrown e2
        go_wp2_with fail
        refine wp_region_quiet_below (by kernel_rfl) (by kernel_rfl) ?_
        repeat (go_big_quiet_step (fail))
        refine wpQuiet_nil ?_
        intro _ hw'
        obtain ⟨⟨dq, osq⟩, hw''⟩ := hw'
        subst hw''
        have hbq := below_regrown wr dq osq
        replace g1 := (hbq.cell (World.block_lt_of_cell? wr _ g1)).trans g1
        have HRC : Hid (G1 w.heap.size w _ u4 (tns L k)) := ⟨ownsRow_below HR.out.1 hbq, HR.out.2.trans (hbq.mono HR.out.2.size)⟩
        clear hbq j1 j2 j3 f2 g2 e2 v1 v2 HR u1 u2
        generalize Sort.grow (redrawn wr dq) osq = wc at *
        by_cases hA : y1 < y0
        · have hA' : ¬ y0 < y1 := by omega
          have hA1 : 0 < y0 - y1 := by omega
          have hA2 : ¬ y0 - y1 < 0 := by omega
          by_cases hB : y1 < y2
          · have hB' : ¬ y2 < y1 := by omega
            have hB1 : 0 < y2 - y1 := by omega
            have HT1 : Hid (tn L k = true) := HTN.out.trans (by simp [hA, hB])
            have HX2 : Hid (tns L (k + 1) = tns L k ++ [x1]) := by unfold Hid; rw [tns_yes HT1.out, HK1.out, HX1.out]
            obtain ⟨pv, dv, rfl⟩ := own_form HRC.out.1
            have hown := HRC.out.1
            have HWR := Lib.hid HRC.out.2
            have hws := HWR.out.size
            have hk40 : (tns L k).length ≤ 40 := by have := HM.out; omega
            go_wp2_with (at_builtin; refine wpList_append_own _ rfl _ _ 32 rfl w.heap.size 3 i0 (.int .i64 0) 1 8 Try.underlying32 hi hy0 hy1 hy2 rfl (by decide) _ _ _ rfl (hown.alloc _) ⟨wc.heap.size, 0, none⟩ 1 1 [.int .i64 x1] rfl rfl (cell_one_new _ _ _) (by simp [Value.oneCell']) (by unfold maxLen; omega) (by omega) (by simp; omega) ?_; intro v' w9 hown' hgrow hnil)
            have hG : G1 w.heap.size w w9 v' (tns L (k + 1)) := by
              unfold G1
              rw [HX2.out, List.length_append, ints_append]
              exact ⟨hown', (HWR.out.alloc hws _).grown hgrow (by simp; omega) (fun j hj => (hown.lt j hj).1)⟩
            have HG := Lib.hid hG
            clear hG hown' hgrow hown hnil
            exact ⟨⟨k + 1, k2, by omega, by have := HK1.out; have := HK2.out; omega, (by have := HK2.out; congr 1; omega), HG⟩, by simp [intOf]; have := HK2.out; omega⟩
          · have HT1 : Hid (tn L k = false) := HTN.out.trans (by simp [hB, hA'])
            have hB1 : ¬ 0 < y2 - y1 := by omega
            clear HTN
            have HG : Hid (G1 w.heap.size w wc u4 (tns L (k + 1))) := by unfold Hid; rw [tns_no HT1.out]; exact HRC.out
            go_wp2_with fail
            exact ⟨⟨k + 1, k2, by omega, by have := HK1.out; have := HK2.out; omega, (by have := HK2.out; congr 1; omega), HG⟩, by simp [intOf]; have := HK2.out; omega⟩
        · have hA1 : ¬ 0 < y0 - y1 := by omega
          by_cases hC : y0 < y1
          · have hC1 : y0 - y1 < 0 := by omega
            by_cases hD : y2 < y1
            · have hB' : ¬ y1 < y2 := by omega
              have hD1 : y2 - y1 < 0 := by omega
              have HT1 : Hid (tn L k = true) := HTN.out.trans (by simp [hC, hD])
              have HX2 : Hid (tns L (k + 1) = tns L k ++ [x1]) := by unfold Hid; rw [tns_yes HT1.out, HK1.out, HX1.out]
              obtain ⟨pv, dv, rfl⟩ := own_form HRC.out.1
              have hown := HRC.out.1
              have HWR := Lib.hid HRC.out.2
              have hws := HWR.out.size
              have hk40 : (tns L k).length ≤ 40 := by have := HM.out; omega
              go_wp2_with (at_builtin; refine wpList_append_own _ rfl _ _ 32 rfl w.heap.size 3 i0 (.int .i64 0) 1 8 Try.underlying32 hi hy0 hy1 hy2 rfl (by decide) _ _ _ rfl (hown.alloc _) ⟨wc.heap.size, 0, none⟩ 1 1 [.int .i64 x1] rfl rfl (cell_one_new _ _ _) (by simp [Value.oneCell']) (by unfold maxLen; omega) (by omega) (by simp; omega) ?_; intro v' w9 hown' hgrow hnil)
              have hG : G1 w.heap.size w w9 v' (tns L (k + 1)) := by
                unfold G1
                rw [HX2.out, List.length_append, ints_append]
                exact ⟨hown', (HWR.out.alloc hws _).grown hgrow (by simp; omega) (fun j hj => (hown.lt j hj).1)⟩
              have HG := Lib.hid hG
              clear hG hown' hgrow hown hnil
              exact ⟨⟨k + 1, k2, by omega, by have := HK1.out; have := HK2.out; omega, (by have := HK2.out; congr 1; omega), HG⟩, by simp [intOf]; have := HK2.out; omega⟩
            · have HT1 : Hid (tn L k = false) := HTN.out.trans (by simp [hD, hA])
              have hD1 : ¬ y2 - y1 < 0 := by omega
              clear HTN
              have HG : Hid (G1 w.heap.size w wc u4 (tns L (k + 1))) := by unfold Hid; rw [tns_no HT1.out]; exact HRC.out
              go_wp2_with fail
              exact ⟨⟨k + 1, k2, by omega, by have := HK1.out; have := HK2.out; omega, (by have := HK2.out; congr 1; omega), HG⟩, by simp [intOf]; have := HK2.out; omega⟩
          · have HT1 : Hid (tn L k = false) := HTN.out.trans (by simp [hC, hA])
            have hC1 : ¬ y0 - y1 < 0 := by omega
            clear HTN
            have HG : Hid (G1 w.heap.size w wc u4 (tns L (k + 1))) := by unfold Hid; rw [tns_no HT1.out]; exact HRC.out
            go_wp2_with fail
            exact ⟨⟨k + 1, k2, by omega, by have := HK1.out; have := HK2.out; omega, (by have := HK2.out; congr 1; omega), HG⟩, by simp [intOf]; have := HK2.out; omega⟩
      · obtain rfl : k = m := by omega
        have hkk : ¬ (k2 : Int) < (n : Int) := by have := HM.out; omega
        obtain ⟨pv, dv, rfl⟩ := own_form HR.out.1
        have hl40 : (tns L k).length ≤ 1048576 := by have := HM.out; omega
        clear hk1 hk2
        go_wp2_with fail
        go_ret2
        rw [HF.out]
        exact ⟨_, _, _, rfl, HR.out.1, hl40, HR.out.2⟩
end Go.Proofs.Ytlpcgchekhoieaa.TnS
