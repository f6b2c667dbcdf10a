/- IsValidCurve: the model. -/
import Derived.Test.YtlpcgchekhoieaaCvM
namespace Go.Proofs.Ytlpcgchekhoieaa.CvS
open Go Go.RowKit Pairs Rec Keep GivesI Cu CvM
set_option linter.unusedVariables false
set_option maxRecDepth 100000 in
set_option maxHeartbeats 4000000 in
theorem good_any (a : Option Addr) (n c : Nat) (L : List Dt) (w : World) (hn : n ≤ 1048576) (h : HoldsD w a n L) :
    Calls Try.prog 56 #[.slice a n c] w fun e w' => e = .returned (.bool (cv L)) ∧ Below w.heap.size w w' := by
  have HL := Lib.hid h.1
  have H := Lib.hid h
  obtain ⟨r, hr⟩ : ∃ r, r = cv L := ⟨_, rfl⟩
  rw [← hr]
  have HR := Lib.hid hr
  clear hr h
  go_enter Try.func56, Try.ntmps56
  go_wp2_with fail
  refine (DvG.l1In_any (n : Int) 2 40 _).mono ?_
  rintro e w1 ⟨rfl, rfl⟩
  by_cases hb : (2 : Int) ≤ n ∧ (n : Int) ≤ 40
  · rw [decide_eq_true hb]
    obtain ⟨b, off, x, y, z, rfl, hx, e1, e2, e3⟩ := H.out.at 0 (by omega)
    clear hx e1 e2 e3
    go_wp2_with fail
    go_loopw [4] (fun s4 wr => ∃ i : Nat, i ≤ n ∧ s4 = .int .i64 i ∧ Hid (CvM.Upto L i) ∧ Hid (Below w1.heap.size w1 wr)) (fun s4 _ => n - (intOf s4).toNat)
    case atStart => exact ⟨0, Nat.zero_le _, rfl, Upto.start L, Below.refl _ _⟩
    case round =>
      obtain ⟨i, hi, rfl, HS, HW⟩ := hrel
      by_cases hlt : i < n
      · have hin : (i : Int) < (n : Int) := by omega
        have hi0 : (0 : Int) ≤ (i : Int) := by omega
        obtain ⟨b1, off1, x1, y1, z1, hb1, hx1, e1, e2, e3⟩ := (H.out.below HW.out).at i hlt
        injection hb1 with hb1
        injection hb1 with hb1 ho1
        subst hb1 ho1
        have HP1 := Lib.hid (pt_of hx1)
        have HOK : Hid (okP (x1, y1, z1) = (decide (-20000 ≤ x1 ∧ x1 ≤ 2100) && decide (0 ≤ y1 ∧ y1 ≤ 60000) && decide (0 ≤ z1 ∧ z1 ≤ 1000))) := rfl
        have HBAD : Hid (okP (x1, y1, z1) = false → r = false) := fun hq => HR.out.trans (cv_not fun o => by have := o.all _ (List.mem_of_getElem? hx1); rw [hq] at this; cases this)
        have hbz := below_alloc wr (.cells #[.int .i64 x1, .int .i64 y1, .int .i64 z1] 75)
        obtain ⟨f1, f2, f3⟩ := box3 wr (.int .i64 x1) (.int .i64 y1) (.int .i64 z1) 75
        have HW2 := Lib.hid (HW.out.trans (hbz.mono HW.out.size))
        clear hx1 hbz
        go_wp2_with fail
        generalize wr.alloc (.cells #[.int .i64 x1, .int .i64 y1, .int .i64 z1] 75) = W2 at *
        refine (DvG.l1In_any x1 (-20000) 2100 _).mono ?_
        rintro e w3 ⟨rfl, rfl⟩
        by_cases hq1 : -20000 ≤ x1 ∧ x1 ≤ 2100
        · rw [decide_eq_true hq1] at HOK ⊢
          go_wp2_with fail
          refine (DvG.l1In_any y1 0 60000 _).mono ?_
          rintro e w3 ⟨rfl, rfl⟩
          by_cases hq2 : 0 ≤ y1 ∧ y1 ≤ 60000
          · rw [decide_eq_true hq2] at HOK ⊢
            go_wp2_with fail
            refine (DvG.l1In_any z1 0 1000 _).mono ?_
            rintro e w3 ⟨rfl, rfl⟩
            by_cases hq3 : 0 ≤ z1 ∧ z1 ≤ 1000
            · rw [decide_eq_true hq3] at HOK ⊢
              cases i with
              | zero =>
                have HS2 := Lib.hid (Upto.first (L := L) (by rw [HP1.out]; exact HOK.out))
                go_wp2_with fail
                refine wp_region_quiet_below (by kernel_rfl) (by kernel_rfl) ?_
                repeat (go_big_quiet_step (fail))
                refine wpQuiet_nil ?_
                intro _ hw'
                obtain ⟨⟨dq, osq⟩, hw''⟩ := hw'
                subst hw''
                have hbq := below_regrown w3 dq osq
                have HW3 := Lib.hid (HW2.out.trans (hbq.mono HW2.out.size))
                go_wp2_with fail
                exact ⟨⟨1, by omega, by go_num, HS2, HW3⟩, by simp [intOf]; omega⟩
              | succ j =>
                obtain ⟨b1, off1, x0, y0, z0, hb1, hx0, g1, g2, g3⟩ := (H.out.below HW2.out).at j (by omega)
                injection hb1 with hb1
                injection hb1 with hb1 ho1
                subst hb1 ho1
                have HP0 := Lib.hid (pt_of hx0)
                have hy0 := (okP_iff.1 (HS.out.all j (by omega))).y
                rw [HP0.out] at hy0
                simp only at hy0
                have HE := Lib.hid (show (pt L (j + 1)).1 - (pt L j).1 = x1 - x0 by rw [HP1.out, HP0.out])
                have q1 : IntKind.i64.wrap (x1 - x0) = x1 - x0 := by rw [IntKind.wrap_i64]; omega
                have q2 : IntKind.i64.wrap (((j + 1 : Nat) : Int) - 1) = (j : Int) := by rw [IntKind.wrap_i64]; omega
                have hjn : (j : Int) < (n : Int) := by omega
                have hj0 : (0 : Int) ≤ (j : Int) := by omega
                have hjb : decide ((0 : Int) < ((j + 1 : Nat) : Int)) = true := decide_eq_true (by omega)
                clear hx0 e1 e2 e3 g2 g3
                have k1 := cell_regrown f1
                have k2 := cell_regrown g1
                have cU : ∀ d os, Calls Try.prog 66 #[.int .i64 (x1 - x0), .int .i64 1, .int .i64 50] (Sort.grow (redrawn w3 d) os) fun e w'' => e = .returned (.bool (decide (1 ≤ x1 - x0 ∧ x1 - x0 ≤ 50))) ∧ ∃ p : Regrown, w'' = Sort.grow (redrawn w3 p.d) p.os := fun d os => (DvG.l1In_any (x1 - x0) 1 50 _).mono (fun e w' h => ⟨h.1, ⟨⟨d, os⟩, h.2⟩⟩)
                by_cases hs : 1 ≤ x1 - x0 ∧ x1 - x0 ≤ 50
                · have HS2 := Lib.hid (HS.out.next (by rw [HP1.out]; exact HOK.out) (by rw [HE.out]; exact hs))
                  rw [decide_eq_true hs] at cU
                  go_wp2_with fail
                  refine wp_region_quiet_below (by kernel_rfl) (by kernel_rfl) ?_
                  repeat (go_big_quiet_step ((go_at_call 66; exact cU _ _)))
                  refine wpQuiet_nil ?_
                  intro _ hw'
                  obtain ⟨⟨dq, osq⟩, hw''⟩ := hw'
                  subst hw''
                  have hbq := below_regrown w3 dq osq
                  have HW3 := Lib.hid (HW2.out.trans (hbq.mono HW2.out.size))
                  go_wp2_with fail
                  exact ⟨⟨j + 1 + 1, by omega, by go_num, HS2, HW3⟩, by simp [intOf]; omega⟩
                · have HF := Lib.hid (HR.out.trans (cv_not fun o => hs (by have h1 := o.st j (by rw [HL.out]; omega); rw [HE.out] at h1; exact h1)))
                  rw [decide_eq_false hs] at cU
                  go_wp2_with fail
                  refine wp_region_quiet_below (by kernel_rfl) (by kernel_rfl) ?_
                  repeat (go_big_quiet_step ((go_at_call 66; exact cU _ _)))
                  refine wpQuiet_nil ?_
                  intro _ hw'
                  obtain ⟨⟨dq, osq⟩, hw''⟩ := hw'
                  subst hw''
                  have hbq := below_regrown w3 dq osq
                  have HW3 := Lib.hid (HW2.out.trans (hbq.mono HW2.out.size))
                  go_wp2_with fail
                  go_ret
                  exact ⟨by rw [HF.out]; rfl, HW3.out⟩
            · have HF := Lib.hid (HBAD.out (by rw [HOK.out, decide_eq_false hq3, Bool.and_false]))
              rw [decide_eq_false hq3]
              go_wp2_with fail
              go_ret
              exact ⟨by rw [HF.out]; rfl, HW2.out⟩
          · have HF := Lib.hid (HBAD.out (by rw [HOK.out, decide_eq_false hq2, Bool.and_false]; rfl))
            rw [decide_eq_false hq2]
            go_wp2_with fail
            go_ret
            exact ⟨by rw [HF.out]; rfl, HW2.out⟩
        · have HF := Lib.hid (HBAD.out (by rw [HOK.out, decide_eq_false hq1]; rfl))
          rw [decide_eq_false hq1]
          go_wp2_with fail
          go_ret
          exact ⟨by rw [HF.out]; rfl, HW2.out⟩
      · obtain rfl : i = n := by omega
        have hii : ¬ (i : Int) < (i : Int) := by omega
        have HU := Lib.hid (show cv L = decide ((pt L (L.length - 1)).1 - (pt L 0).1 < 400) from Upto.is (by rw [HL.out]; exact HS.out) (by rw [HL.out]; omega) (by rw [HL.out]; omega))
        rw [HL.out] at HU
        have HH := Lib.hid (H.out.below HW.out)
        obtain ⟨m, hm⟩ : ∃ m, i - 1 = m := ⟨_, rfl⟩
        obtain ⟨b1, off1, x0, y0, z0, hb1, hx0, e1, e2, e3⟩ := HH.out.at 0 (by omega)
        injection hb1 with hb1
        injection hb1 with hb1 ho1
        subst hb1 ho1
        obtain ⟨b1, off1, x1, y1, z1, hb1, hx1, g1, g2, g3⟩ := HH.out.at m (by omega)
        injection hb1 with hb1
        injection hb1 with hb1 ho1
        subst hb1 ho1
        have hy0 := (okP_iff.1 (HS.out.all 0 (by omega))).y
        have hy1 := (okP_iff.1 (HS.out.all m (by omega))).y
        rw [hm, pt_of hx0, pt_of hx1] at HU
        rw [pt_of hx0] at hy0
        rw [pt_of hx1] at hy1
        simp only at hy0 hy1 HU
        rw [Nat.zero_mul, Nat.add_zero] at e1
        have hm0 : (0 : Int) ≤ (m : Int) := by omega
        have hmi : (m : Int) < (i : Int) := by omega
        have hi0 : (0 : Int) < (i : Int) := by omega
        have q1 : IntKind.i64.wrap ((i : Int) - 1) = (m : Int) := by rw [IntKind.wrap_i64]; omega
        have q2 : IntKind.i64.wrap (x1 - x0) = x1 - x0 := by rw [IntKind.wrap_i64]; omega
        have HF := Lib.hid (HR.out.trans HU.out)
        clear hm hx0 hx1 e2 e3 g2 g3 HU
        have k1 := cell_regrown e1
        have k2 := cell_regrown g1
        go_wp2_with fail
        refine wp_region_quiet_below (by kernel_rfl) (by kernel_rfl) ?_
        repeat (go_big_quiet_step (fail))
        refine wpQuiet_nil ?_
        intro _ hw'
        obtain ⟨⟨dq, osq⟩, hw''⟩ := hw'
        subst hw''
        have hbq := below_regrown wr dq osq
        have HW3 := Lib.hid (HW.out.trans (hbq.mono HW.out.size))
        go_wp2_with fail
        go_ret
        exact ⟨by rw [HF.out]; rfl, HW3.out⟩
  · have HF := Lib.hid (HR.out.trans (cv_not fun o => hb (by have h1 := o.lo; have h2 := o.len; rw [HL.out] at h1 h2; omega)))
    rw [decide_eq_false hb]
    go_wp2_with fail
    go_ret
    exact ⟨by rw [HF.out]; rfl, Below.refl _ _⟩
theorem spec_any (a : Option Addr) (n c : Nat) (L : List Dt) (w : World) (hn : n ≤ 1048576) (h : HoldsD w a n L) :
    Calls Try.prog 15 #[.slice a n c] w fun e w' => e = .returned (.bool (cv L)) ∧ Below w.heap.size w w' := by
  have H := Lib.hid (good_any a n c L w hn h)
  go_enter Try.func15, Try.ntmps15
  go_wp2_with fail
  refine H.out.mono ?_
  rintro e w1 ⟨rfl, b⟩
  have B := Lib.hid b
  clear b
  go_wp2_with fail
  go_ret
  exact ⟨rfl, B.out⟩
end Go.Proofs.Ytlpcgchekhoieaa.CvS
