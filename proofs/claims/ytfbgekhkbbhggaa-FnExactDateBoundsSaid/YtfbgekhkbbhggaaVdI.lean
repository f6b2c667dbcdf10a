/- The program's IsValidDated. -/
import Derived.Test.YtfbgekhkbbhggaaChE
import Derived.Test.YtfbgekhkbbhggaaDr
import Derived.Test.YtfbgekhkbbhggaaAvr
import Derived.Test.YtfbgekhkbbhggaaWwI
namespace Go.Proofs.Ytfbgekhkbbhggaa.VdI
open Go Go.RowKit Pairs Rec Keep GivesI Zh Dr DvM ChM Find2 GoodM
set_option linter.unusedVariables false
theorem quo_is {T S : Int} (hT : 1 ≤ T) (hS : 1 ≤ S) : ((1000000000000000 : Int) / T < S) ↔ 1000000000000000 < T * S := by
  rw [Int.ediv_lt_iff_lt_mul (by omega), Int.mul_comm]
set_option maxRecDepth 100000 in
set_option maxHeartbeats 8000000 in
theorem valid_any (a1 a2 a3 : Option Addr) (n1 c1 n2 c2 n3 c3 : Nat) (l m : List (Int × Int)) (Z : List Zh.Pt) (w : World) (h : Arg w a1 n1 a2 n2 a3 n3 l m Z) :
    Calls Try.prog 17 #[.agg #[.slice a1 n1 c1, .slice a2 n2 c2, .slice a3 n3 c3]] w fun e w' => e = .returned (.bool (vd l m Z)) ∧ Below w.heap.size w w' := by
  have hb := below_alloc w (.cells #[.slice a1 n1 c1, .slice a2 n2 c2, .slice a3 n3 c3] 37)
  obtain ⟨f1, f2, f3⟩ := box3 w (.slice a1 n1 c1) (.slice a2 n2 c2) (.slice a3 n3 c3) 37
  have hlt : w.heap.size < (w.alloc (.cells #[.slice a1 n1 c1, .slice a2 n2 c2, .slice a3 n3 c3] 37)).heap.size := by simp
  have H := Lib.hid (h.below hb)
  have HB := Lib.hid hb
  have s1 := h.s1
  have s2 := h.s2
  have s3 := h.s3
  have hl1 := Lib.hid h.h1.1
  have hl3 := Lib.hid h.h3.1
  clear h hb
  obtain ⟨r, hr⟩ : ∃ r, r = vd l m Z := ⟨_, rfl⟩
  rw [← hr]
  have HR := Lib.hid hr
  clear hr
  go_enter Try.func17, Try.ntmps17
  go_wp2_with fail
  generalize w.alloc (.cells #[.slice a1 n1 c1, .slice a2 n2 c2, .slice a3 n3 c3] 37) = W at *
  refine (Avr.impl_any a1 a2 n1 c1 n2 c2 l m W (by omega) (by omega) H.out.h1 H.out.h2).mono ?_
  rintro e w1 ⟨rfl, b1⟩
  have g1 := (b1.cell (p := ⟨w.heap.size, 0, none⟩) hlt).trans f1
  have g2 := (b1.cell (p := ⟨w.heap.size, 1, none⟩) hlt).trans f2
  have g3 := (b1.cell (p := ⟨w.heap.size, 2, none⟩) hlt).trans f3
  have H1 := Lib.hid (H.out.below b1)
  have HB1 := Lib.hid (HB.out.trans (b1.mono HB.out.size))
  have hlt1 := Nat.lt_of_lt_of_le hlt b1.size
  clear f1 f2 f3 b1 hlt H HB
  cases hg : good l m with
  | false =>
    have HN := Lib.hid (HR.out.trans (vd_not fun v => by have := v.good; rw [hg] at this; cases this))
    clear hg
    go_wp2_with fail
    go_ret
    exact ⟨by rw [HN.out]; rfl, HB1.out⟩
  | true =>
    have HG := Lib.hid hg
    clear hg
    by_cases hne : n3 = n1
    · subst hne
      go_wp2_with fail
      go_loopw [3, 4, 24] (fun s3 s4 s24 wr => ∃ (k : Nat) (C T : Int), k ≤ n3 ∧ s24 = .int .i64 k ∧ s3 = .int .i64 C ∧ s4 = .int .i64 T ∧ 1 ≤ C ∧ C ≤ 5000 ∧ 1 ≤ T ∧ T ≤ 1000000000000000 ∧ Hid (C = cnt (Z.take k) ∧ T = sms (Z.take k)) ∧ Hid (okZ (Z.take k) = true) ∧ Hid (Below w.heap.size w wr ∧ Below w1.heap.size w1 wr)) (fun _ _ s24 _ => n3 - (intOf s24).toNat)
      case atStart => exact ⟨0, 1, 1, Nat.zero_le _, rfl, rfl, rfl, by omega, by omega, by omega, by omega, ⟨rfl, rfl⟩, rfl, HB1.out, Below.refl _ _⟩
      case round =>
        obtain ⟨k, C, T, hk, rfl, rfl, rfl, hC1, hC2, hT1, hT2, HCT, HO, HW⟩ := hrel
        by_cases hkn : k < n3
        · obtain ⟨b, off, f, M, p, j, c, rfl, hx, e1, e2, hM⟩ := (H1.out.h3.below HW.out.2).at k hkn
          have hj : j ≤ 1048576 := by
            have h1 := H1.out.sm _ (List.mem_of_getElem? hx)
            have h2 := hM.1
            simp only at h1
            omega
          have HX := Lib.hid hx
          have HM := Lib.hid hM
          have HJ := Lib.hid hM.1
          have hki : (k : Int) < (n3 : Int) := by omega
          clear hx hM
          have hba := below_alloc wr (.cells #[.int .i64 f, .slice p j c] 50)
          have x1 := box_first wr (.int .i64 f) (.slice p j c) 50
          have x2 := box_second wr (.int .i64 f) (.slice p j c) 50
          have hxl : wr.heap.size < (wr.alloc (.cells #[.int .i64 f, .slice p j c] 50)).heap.size := by simp
          have HM2 := Lib.hid (HM.out.below hba)
          have HBA := Lib.hid hba
          clear hba
          go_wp2_with fail
          generalize wr.alloc (.cells #[.int .i64 f, .slice p j c] 50) = V at *
          have HWV := Lib.hid (And.intro (HW.out.1.trans (HBA.out.mono HW.out.1.size)) (HW.out.2.trans (HBA.out.mono HW.out.2.size)))
          have k1 := cell_regrown x1
          have k2 := cell_regrown x2
          have cV : ∀ d os, Calls Try.prog 56 #[.agg #[.int .i64 f, .slice p j c]] (Sort.grow (redrawn V d) os) fun e w'' => e = .returned (.bool (okD f M)) ∧ ∃ p : Regrown, w'' = Sort.grow (redrawn V p.d) p.os := fun d os => Calls.regrown_of (DvI.valid_any f p j c M _ hj (HM2.out.below (below_regrown V d os)))
          cases ho : okD f M with
          | false =>
            have HN := Lib.hid (HR.out.trans (vd_not fun v => by have := okZ_mem v.each (List.mem_of_getElem? HX.out); rw [ho] at this; cases this))
            rw [ho] at cV
            clear ho
            refine wp_region_quiet_below (by kernel_rfl) (by kernel_rfl) ?_
            repeat (go_big_quiet_step ((go_at_call 56; exact cV _ _)))
            refine wpQuiet_nil ?_
            intro _ hw'
            obtain ⟨⟨dq, osq⟩, hw''⟩ := hw'
            subst hw''
            have HBQ := Lib.hid (below_regrown V dq osq)
            clear k1 k2 x1 x2 cV
            generalize Sort.grow (redrawn V dq) osq = W5 at *
            go_wp2_with fail
            go_ret
            exact ⟨by rw [HN.out]; rfl, HWV.out.1.trans (HBQ.out.mono HWV.out.1.size)⟩
          | true =>
            have hS := okD_sum ho
            have hS1 := hS.1
            have hS2 := hS.2.1
            have hlen := (okD_iff.1 ho).len
            have hpos := (okD_iff.1 ho).pos
            have HT := Lib.hid (take_next HX.out)
            have cS : ∀ d os, Calls Try.prog 57 #[.agg #[.int .i64 f, .slice p j c]] (Sort.grow (redrawn V d) os) fun e w'' => e = .returned (.int .i64 M.sum) ∧ ∃ p : Regrown, w'' = Sort.grow (redrawn V p.d) p.os := fun d os => Calls.regrown_of (WwI.sum_any f p j c M _ hj ho (HM2.out.below (below_regrown V d os)))
            rw [ho] at cV
            have HOD := Lib.hid ho
            clear ho hS
            obtain ⟨S, hSS⟩ : ∃ S, S = M.sum := ⟨_, rfl⟩
            rw [← hSS] at cS hS1 hS2
            have HSS := Lib.hid hSS
            clear hSS
            have hT0 : ¬ T = 0 := by omega
            have hq := quo_is hT1 hS1
            have hlen' : (M.length : Int) = (j : Int) := by rw [HJ.out]
            rw [HJ.out] at hlen hpos
            have HOk : Hid (okZ (Z.take (k + 1)) = true) := by
              unfold Hid okZ
              rw [List.take_add_one, HX.out, List.all_append, Bool.and_eq_true]
              exact ⟨HO.out, by simp [HOD.out]⟩
            by_cases hbig : (1000000000000000 : Int) < T * S
            · have hqq : (1000000000000000 : Int) / T < S := hq.2 hbig
              have HN := Lib.hid (HR.out.trans (vd_not fun v => by have h1 := (part_le v.each (k + 1)).2.2.2; have h2 := v.sums; rw [HT.out.2, ← HCT.out.2, ← HSS.out] at h1; omega))
              refine wp_region_quiet_below (by kernel_rfl) (by kernel_rfl) ?_
              repeat (go_big_quiet_step (first | (go_at_call 56; exact cV _ _) | (go_at_call 57; exact cS _ _)))
              refine wpQuiet_nil ?_
              intro _ hw'
              obtain ⟨⟨dq, osq⟩, hw''⟩ := hw'
              subst hw''
              have HBQ := Lib.hid (below_regrown V dq osq)
              clear k1 k2 x1 x2 cV cS
              generalize Sort.grow (redrawn V dq) osq = W5 at *
              go_wp2_with fail
              go_ret
              exact ⟨by rw [HN.out]; rfl, HWV.out.1.trans (HBQ.out.mono HWV.out.1.size)⟩
            · have hqq : ¬ (1000000000000000 : Int) / T < S := fun e => hbig (hq.1 e)
              have hTS := mul_pos1 hT1 hS1
              have hCj := mul_pos1 hC1 (show (1 : Int) ≤ (j : Int) by omega)
              have hCj2 : C * (j : Int) ≤ 5000 * 60 := Int.mul_le_mul hC2 (by omega) (by omega) (by omega)
              have hw1 : IntKind.i64.wrap (C * (j : Int)) = C * (j : Int) := by rw [IntKind.wrap_i64]; omega
              have hw2 : IntKind.i64.wrap (T * S) = T * S := by rw [IntKind.wrap_i64]; omega
              refine wp_region_quiet_below (by kernel_rfl) (by kernel_rfl) ?_
              repeat (go_big_quiet_step (first | (go_at_call 56; exact cV _ _) | (go_at_call 57; exact cS _ _)))
              refine wpQuiet_nil ?_
              intro _ hw'
              obtain ⟨⟨dq, osq⟩, hw''⟩ := hw'
              subst hw''
              have HBQ := Lib.hid (below_regrown V dq osq)
              clear k1 k2 cV cS
              generalize Sort.grow (redrawn V dq) osq = W5 at *
              have y1 := (HBQ.out.cell (p := ⟨wr.heap.size, 0, none⟩) hxl).trans x1
              have y2 := (HBQ.out.cell (p := ⟨wr.heap.size, 1, none⟩) hxl).trans x2
              have HM3 := Lib.hid (HM2.out.below HBQ.out)
              have HWQ := Lib.hid (And.intro (HWV.out.1.trans (HBQ.out.mono HWV.out.1.size)) (HWV.out.2.trans (HBQ.out.mono HWV.out.2.size)))
              clear x1 x2 hq
              go_wp2_with fail
              refine (WwI.sum_any f p j c M _ hj HOD.out HM3.out).mono ?_
              rintro e W6 ⟨rfl, b6⟩
              rw [← HSS.out]
              have HW6 := Lib.hid (And.intro (HWQ.out.1.trans (b6.mono HWQ.out.1.size)) (HWQ.out.2.trans (b6.mono HWQ.out.2.size)))
              clear b6 y1 y2
              have HCT2 : Hid (C * (j : Int) = cnt (Z.take (k + 1)) ∧ T * S = sms (Z.take (k + 1))) := by
                refine ⟨?_, ?_⟩
                · rw [HT.out.1, ← HCT.out.1]
                  show C * (j : Int) = C * (M.length : Int)
                  rw [HJ.out]
                · rw [HT.out.2, ← HCT.out.2]
                  show T * S = T * M.sum
                  rw [HSS.out]
              have hts : T * S ≤ 1000000000000000 := by omega
              by_cases hmany : (5000 : Int) < C * (j : Int)
              · have HN := Lib.hid (HR.out.trans (vd_not fun v => by have h1 := (part_le v.each (k + 1)).2.1; have h2 := v.many; rw [← HCT2.out.1] at h1; omega))
                go_wp2_with fail
                go_ret
                exact ⟨by rw [HN.out]; rfl, HW6.out.1⟩
              · have hc0 : 1 ≤ C * (j : Int) := hCj.1
                have ht0 : 1 ≤ T * S := hTS.1
                have hc9 : C * (j : Int) ≤ 5000 := by omega
                generalize C * (j : Int) = C' at *
                go_wp2_with fail
                exact ⟨⟨k + 1, C', T * S, by omega, by go_num, rfl, rfl, hc0, hc9, ht0, hts, HCT2, HOk, HW6⟩, by simp [intOf]; omega⟩
        · obtain rfl : k = n3 := by omega
          have hkk : ¬ (k : Int) < (k : Int) := by omega
          have ht : Z.take k = Z := List.take_of_length_le (by rw [hl3.out]; exact Nat.le_refl _)
          have HN := Lib.hid (HR.out.trans (vd_iff.2 ⟨HG.out, by rw [hl3.out, hl1.out], by have := HO.out; rwa [ht] at this, by have := HCT.out.1; rw [ht] at this; omega, by have := HCT.out.2; rw [ht] at this; omega⟩))
          have HE := Lib.hid HW.out.1
          go_wp2_with fail
          go_ret
          exact ⟨by rw [HN.out]; rfl, HE.out⟩
    · have hni : ¬ (n3 : Int) = (n1 : Int) := by omega
      have HN := Lib.hid (HR.out.trans (vd_not fun v => by have := v.len; rw [hl1.out, hl3.out] at this; omega))
      go_wp2_with fail
      go_ret
      exact ⟨by rw [HN.out]; rfl, HB1.out⟩
end Go.Proofs.Ytfbgekhkbbhggaa.VdI
