/- The model's ShortestInterval. -/
import Derived.Test.YtfnbjfmegikciaaSiM
import Derived.Test.YtfnbjfmegikciaaQuS
namespace Go.Proofs.Ytfnbjfmegikciaa.SiS
open Go Go.RowKit Pairs Rec Keep GivesI DvM DvG DvS ShI Yr In AtM PoI FvI SiM WaS QuS
set_option linter.unusedVariables false
/-- A window of weights is what an interval weighs. -/
theorem sw_win {f : Int} {M : List Int} {i k : Nat} (h : i + k < M.length) : sw f M (yrs (f + i) (f + i + k)) = ((M.drop i).take (k + 1)).sum := by
  have e : yrs (f + (i : Int)) (f + i + k) = ((yrs f (f + M.length - 1)).drop i).take (k + 1) := by
    apply List.ext_getElem?
    intro j
    by_cases hj : j < k + 1
    · rw [List.getElem?_take_of_lt hj, List.getElem?_drop, yrs_at (by omega), yrs_at (by omega)]
      congr 1
      omega
    · rw [List.getElem?_eq_none (by rw [yrs_len]; omega), List.getElem?_eq_none (by rw [List.length_take, List.length_drop]; omega)]
  unfold sw
  rw [e, List.map_take, List.map_drop, map_wat]
theorem holds_win {w : World} {b off n i k : Nat} {M : List Int} (h : HoldsI w (some ⟨b, off, none⟩) n M) (hik : i + k ≤ n) (hk : 0 < k) : HoldsI w (some ⟨b, off + i, none⟩) k ((M.drop i).take k) := by
  have hl := h.1
  refine ⟨by rw [List.length_take, List.length_drop]; omega, ?_⟩
  rcases h.2 with h0 | ⟨b', off', ha, hb, hc⟩
  · omega
  · injection ha with ha
    injection ha with e1 e2
    subst e1 e2
    refine .inr ⟨b, off + i, rfl, hb, fun j x hj => ?_⟩
    have hjk : j < k := by have := (List.getElem?_eq_some_iff.1 hj).1; rw [List.length_take] at this; omega
    rw [List.getElem?_take_of_lt hjk, List.getElem?_drop] at hj
    have := hc _ _ hj
    rw [← Nat.add_assoc] at this
    exact this
/-- None of the intervals of a list meets a portion. -/
def Non (num den f : Int) (M : List Int) (ps : List (Int × Int)) : Prop := ∀ q ∈ ps, decide (least num den M ≤ sw f M (yrs q.1 q.2)) = false
set_option maxRecDepth 100000 in
set_option maxHeartbeats 16000000 in
theorem spec_any (num den f : Int) (p : Option Addr) (n c : Nat) (M : List Int) (w : World) (hn : n ≤ 1048576) (hc : n ≤ c) (h : HoldsI w p n M) :
    Calls Try.prog 37 #[.agg #[.int .i64 f, .slice p n c], .int .i64 num, .int .i64 den] w fun e w' => e = .returned (.tuple #[.int .i64 (siP num den f M).1, .int .i64 (siP num den f M).2.1, .bool (siP num den f M).2.2]) ∧ Below w.heap.size w w' := by
  have hb := below_alloc w (.cells #[.int .i64 f, .slice p n c] 27)
  have f1 := box_first w (.int .i64 f) (.slice p n c) 27
  have f2 := box_second w (.int .i64 f) (.slice p n c) 27
  have hlt : w.heap.size < (w.alloc (.cells #[.int .i64 f, .slice p n c] 27)).heap.size := by simp
  have HL := Lib.hid h.1
  have H := Lib.hid (h.below hb)
  have HB := Lib.hid hb
  clear h hb
  obtain ⟨r, hr⟩ : ∃ r, r = siP num den f M := ⟨_, rfl⟩
  rw [← hr]
  have HR := Lib.hid hr
  clear hr
  go_enter Try.func37, Try.ntmps37
  go_wp2_with fail
  generalize w.alloc (.cells #[.int .i64 f, .slice p n c] 27) = W at *
  refine (good_any f p n c M W hn H.out).mono ?_
  rintro e w1 ⟨rfl, b⟩
  replace f1 := (b.cell (p := ⟨w.heap.size, 0, none⟩) hlt).trans f1
  replace f2 := (b.cell (p := ⟨w.heap.size, 1, none⟩) hlt).trans f2
  replace hlt := Nat.lt_of_lt_of_le hlt b.size
  replace H := Lib.hid (H.out.below b)
  replace HB := Lib.hid (HB.out.trans (b.mono HB.out.size))
  clear b
  cases hv : okD f M with
  | false =>
    have HN := Lib.hid (HR.out.trans (siP_no (num := num) (den := den) (f := f) (M := M) fun e _ => by rw [hv] at e; cases e))
    go_wp2_with fail
    go_ret3
    exact ⟨by rw [HN.out]; rfl, HB.out⟩
  | true =>
    have HV := Lib.hid hv
    have O := okD_iff.1 hv
    clear hv
    go_wp2_with fail
    refine (l10Part_any num den _).mono ?_
    rintro e w2 ⟨rfl, rfl⟩
    cases hf : isF num den with
    | false =>
      have HN := Lib.hid (HR.out.trans (siP_no (num := num) (den := den) (f := f) (M := M) fun _ e => by rw [hf] at e; cases e))
      clear O
      go_wp2_with fail
      go_ret3
      exact ⟨by rw [HN.out]; rfl, HB.out⟩
    | true =>
      have HN := Lib.hid (HR.out.trans (siP_yes HV.out hf))
      have hff : 0 < num ∧ num ≤ den ∧ den ≤ 1000 := of_decide_eq_true hf
      have HM := Lib.hid (show ∀ x ∈ M, 0 ≤ x ∧ x ≤ 1000000 from fun x hx => upTo_mem O.all hx)
      have hsb := WaS.sum_bd (m := 1000000) (by omega) M HM.out
      have o1 := O.lo
      have o2 := O.hi
      have o3 := O.pos
      have o4 := O.len
      rw [HL.out] at o2 o3 o4 hsb
      clear O hf
      go_wp2_with fail
      refine (l10Sum_any p n c M _ hn HM.out H.out).mono ?_
      rintro e w3 ⟨rfl, b⟩
      replace f1 := (b.cell (p := ⟨w.heap.size, 0, none⟩) hlt).trans f1
      replace f2 := (b.cell (p := ⟨w.heap.size, 1, none⟩) hlt).trans f2
      replace hlt := Nat.lt_of_lt_of_le hlt b.size
      replace H := Lib.hid (H.out.below b)
      replace HB := Lib.hid (HB.out.trans (b.mono HB.out.size))
      clear b
      obtain ⟨T, hT⟩ : ∃ T, T = M.sum := ⟨_, rfl⟩
      rw [← hT] at hsb ⊢
      have HT := Lib.hid hT
      clear hT
      have hT2 : 0 ≤ T ∧ T ≤ 60000000 := by omega
      have hm1 : 0 ≤ num * T := Int.mul_nonneg (by omega) (by omega)
      have hm2 : num * T ≤ 1000 * 60000000 := Int.mul_le_mul (by omega) (by omega) (by omega) (by omega)
      clear hsb
      obtain ⟨b, off, x0, rfl, -, -⟩ := H.out.at 0 (by omega)
      go_wp2_with fail
      have HN0 : Hid (Non num den f M (upI f (f + n - 1) (1 - 1))) := fun q hq => by simp [upI] at hq
      go_loopw [10, 11] (fun s10 _ wr => ∃ kk : Nat, 1 ≤ kk ∧ kk ≤ n ∧ s10 = .int .i64 (kk : Int) ∧ Hid (Non num den f M (upI f (f + n - 1) (kk - 1))) ∧ Hid (Below w3.heap.size w3 wr)) (fun s10 _ _ => n - (intOf s10).toNat)
      case atStart => exact ⟨1, Nat.le_refl _, by omega, rfl, HN0, Below.refl _ _⟩
      case round =>
        clear HN0
        obtain ⟨kk, hk1, hk, rfl, HP, HW⟩ := hrel
        have d1 := (HW.out.cell (p := ⟨w.heap.size, 0, none⟩) hlt).trans f1
        have d2 := (HW.out.cell (p := ⟨w.heap.size, 1, none⟩) hlt).trans f2
        by_cases hkn : kk < n
        · have hkn' : (kk : Int) < (n : Int) := by omega
          go_wp2_with fail
          have HP0 : Hid (Non num den f M (upI f (f + n - 1) (kk - 1) ++ (L1 f (f + n - 1) (kk - 1)).take 0)) := by
            unfold Hid
            rw [List.take_zero, List.append_nil]
            exact HP.out
          clear d1 d2
          go_loopw [11] (fun s11 wr2 => ∃ i : Nat, i + kk ≤ n + 1 ∧ s11 = .int .i64 (i : Int) ∧ Hid (Non num den f M (upI f (f + n - 1) (kk - 1) ++ (L1 f (f + n - 1) (kk - 1)).take i)) ∧ Hid (Below w3.heap.size w3 wr2)) (fun s11 _ => n + 1 - (intOf s11).toNat)
          case atStart => exact ⟨0, by omega, rfl, HP0, HW⟩
          case round =>
            clear HP0 HP HW
            obtain ⟨i, hi, rfl, HP, HW⟩ := hrel
            have d1 := (HW.out.cell (p := ⟨w.heap.size, 0, none⟩) hlt).trans f1
            have d2 := (HW.out.cell (p := ⟨w.heap.size, 1, none⟩) hlt).trans f2
            by_cases hin : i + kk ≤ n
            · have hin' : (i : Int) + (kk : Int) ≤ (n : Int) := by omega
              have HW3 := Lib.hid (H.out.below HW.out)
              have HWM := Lib.hid (show ∀ x ∈ (M.drop i).take kk, 0 ≤ x ∧ x ≤ 1000000 from fun x hx => HM.out x (List.mem_of_mem_drop (List.mem_of_mem_take hx)))
              go_wp2_with fail
              refine (l10Sum_any (some ⟨b, off + i, none⟩) kk (c - i) ((M.drop i).take kk) _ (by omega) HWM.out (holds_win HW3.out hin (by omega))).mono ?_
              rintro e w5 ⟨rfl, bb⟩
              have HW5 := Lib.hid (HW.out.trans (bb.mono HW.out.size))
              have d1 := (HW5.out.cell (p := ⟨w.heap.size, 0, none⟩) hlt).trans f1
              have d2 := (HW5.out.cell (p := ⟨w.heap.size, 1, none⟩) hlt).trans f2
              have hs1 := WaS.sum_bd (m := 1000000) (by omega) ((M.drop i).take kk) HWM.out
              have hlk : ((M.drop i).take kk).length ≤ 60 := by rw [List.length_take]; omega
              have HSW := Lib.hid (sw_win (f := f) (M := M) (i := i) (k := kk - 1) (by rw [HL.out]; omega))
              rw [show kk - 1 + 1 = kk by omega] at HSW
              obtain ⟨S, hS⟩ : ∃ S, S = ((M.drop i).take kk).sum := ⟨_, rfl⟩
              rw [← hS] at hs1 HSW ⊢
              have hS2 : 0 ≤ S ∧ S ≤ 60000000 := by omega
              have hm3 : 0 ≤ S * den := Int.mul_nonneg (by omega) (by omega)
              have hm4 : S * den ≤ 60000000 * 1000 := Int.mul_le_mul (by omega) (by omega) (by omega) (by omega)
              clear hs1 hlk hS bb HW HW3 HWM
              by_cases hcc : num * T ≤ S * den
              · have HF := Lib.hid (show r = (f + i, f + i + kk - 1, true) by
                  rw [HN.out, HL.out, fst2_hit (pre := upI f (f + n - 1) (kk - 1) ++ (L1 f (f + n - 1) (kk - 1)).take i) (y := (f + (i : Int), f + (i : Int) + (kk : Int) - 1)) ?_ ?_ ?_]
                  · have h := row_pre (f := f) (t := f + n - 1) (k := kk - 1) (j := i + 1) (by omega)
                    rw [L1_take (by omega), ← List.append_assoc] at h
                    rw [show (f + (i : Int), f + (i : Int) + ((kk - 1 : Nat) : Int)) = (f + (i : Int), f + (i : Int) + (kk : Int) - 1) from Prod.ext rfl (by show f + (i : Int) + ((kk - 1 : Nat) : Int) = f + (i : Int) + (kk : Int) - 1; omega)] at h
                    exact h
                  · exact HP.out
                  · refine decide_eq_true ?_
                    show least num den M ≤ sw f M (yrs (f + i) (f + i + kk - 1))
                    have h := HSW.out
                    rw [show f + (i : Int) + ((kk - 1 : Nat) : Int) = f + (i : Int) + (kk : Int) - 1 by omega] at h
                    rw [h, least_iff (by omega), ← HT.out]
                    exact hcc)
                have w1' : IntKind.i64.wrap (f + (i : Int)) = f + i := by rw [IntKind.wrap_i64]; omega
                have w2' : IntKind.i64.wrap (f + (i : Int) + (kk : Int)) = f + i + kk := by rw [IntKind.wrap_i64]; omega
                have w3' : IntKind.i64.wrap (f + (i : Int) + (kk : Int) - 1) = f + i + kk - 1 := by rw [IntKind.wrap_i64]; omega
                have k1 := cell_regrown d1
                have k2 := cell_regrown d2
                go_wp2_with fail
                refine wp_region_quiet_below (by kernel_rfl) (by kernel_rfl) ?_
                repeat (go_big_quiet_step (fail))
                refine wpQuiet_nil ?_
                intro _ hw'
                obtain ⟨⟨dq, osq⟩, hw''⟩ := hw'
                subst hw''
                have HBQ := Lib.hid (below_regrown w5 dq osq)
                clear k1 k2 d1 d2
                generalize Sort.grow (redrawn w5 dq) osq = W6 at *
                go_wp2_with fail
                go_ret3
                exact ⟨by rw [HF.out]; rfl, HB.out.trans ((HW5.out.trans (HBQ.out.mono HW5.out.size)).mono HB.out.size)⟩
              · have HP2 : Hid (Non num den f M (upI f (f + n - 1) (kk - 1) ++ (L1 f (f + n - 1) (kk - 1)).take (i + 1))) := by
                  intro q hq
                  rw [L1_take (by omega), ← List.append_assoc] at hq
                  rcases List.mem_append.1 hq with hq | hq
                  · exact HP.out q hq
                  · obtain rfl : q = (f + (i : Int), f + (i : Int) + ((kk - 1 : Nat) : Int)) := by simpa using hq
                    refine decide_eq_false fun e => hcc ?_
                    have e' : least num den M ≤ sw f M (yrs (f + i) (f + i + ((kk - 1 : Nat) : Int))) := e
                    rw [HSW.out, least_iff (by omega), ← HT.out] at e'
                    exact e'
                go_wp2_with fail
                exact ⟨⟨i + 1, by omega, by go_num, HP2, HW5⟩, by simp [intOf]; omega⟩
            · have hin' : ¬ (i : Int) + (kk : Int) ≤ (n : Int) := by omega
              have HP2 : Hid (Non num den f M (upI f (f + n - 1) (kk + 1 - 1))) := by
                unfold Hid
                rw [show kk + 1 - 1 = kk - 1 + 1 by omega, upI_next]
                have h := HP.out
                rw [List.take_of_length_le (by rw [L1_len]; omega)] at h
                exact h
              go_wp2_with fail
              exact ⟨⟨kk + 1, by omega, by omega, by go_num, HP2, HW⟩, by simp [intOf]; omega⟩
        · obtain rfl : n = kk := by omega
          have hkn' : ¬ (n : Int) < (n : Int) := by omega
          have HF := Lib.hid (show r = (f, f + n - 1, true) by
            rw [HN.out, HL.out, fst2_hit (pre := upI f (f + n - 1) (n - 1)) (y := (f, f + n - 1)) ?_ ?_ ?_]
            · have h := row_pre (f := f) (t := f + n - 1) (k := n - 1) (j := 0 + 1) (by omega)
              rw [L1_take (by omega), List.take_zero, List.nil_append] at h
              rw [show (f + ((0 : Nat) : Int), f + ((0 : Nat) : Int) + ((n - 1 : Nat) : Int)) = (f, f + (n : Int) - 1) from Prod.ext (by show f + ((0 : Nat) : Int) = f; omega) (by show f + ((0 : Nat) : Int) + ((n - 1 : Nat) : Int) = f + (n : Int) - 1; omega)] at h
              exact h
            · exact HP.out
            · refine decide_eq_true ?_
              have h := sw_all f M
              rw [HL.out] at h
              show least num den M ≤ sw f M (yrs f (f + n - 1))
              rw [h, least_iff (by omega), ← HT.out]
              have h1 : T * num ≤ T * den := Int.mul_le_mul_of_nonneg_left hff.2.1 (by omega)
              rw [Int.mul_comm] at h1
              exact h1)
          have w1' : IntKind.i64.wrap (f + (n : Int)) = f + n := by rw [IntKind.wrap_i64]; omega
          have w2' : IntKind.i64.wrap (f + (n : Int) - 1) = f + n - 1 := by rw [IntKind.wrap_i64]; omega
          have k1 := cell_regrown d1
          have k2 := cell_regrown d2
          go_wp2_with fail
          refine wp_region_quiet_below (by kernel_rfl) (by kernel_rfl) ?_
          repeat (go_big_quiet_step (fail))
          refine wpQuiet_nil ?_
          intro _ hw'
          obtain ⟨⟨dq, osq⟩, hw''⟩ := hw'
          subst hw''
          have HBQ := Lib.hid (below_regrown wr dq osq)
          clear k1 k2 d1 d2
          generalize Sort.grow (redrawn wr dq) osq = W5 at *
          go_wp2_with fail
          go_ret3
          exact ⟨by rw [HF.out]; rfl, HB.out.trans ((HW.out.trans (HBQ.out.mono HW.out.size)).mono HB.out.size)⟩
end Go.Proofs.Ytfnbjfmegikciaa.SiS
