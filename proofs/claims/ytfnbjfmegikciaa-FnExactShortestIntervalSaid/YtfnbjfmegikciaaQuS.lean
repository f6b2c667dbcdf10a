/- The model's QuantileYear. -/
import Derived.Test.YtfnbjfmegikciaaQuI
import Derived.Test.YtfnbjfmegikciaaWaS
namespace Go.Proofs.Ytfnbjfmegikciaa.QuS
open Go Go.RowKit Pairs Rec Keep GivesI DvM DvG DvS ShI Yr AtM PoI FtI QuI WaS
set_option linter.unusedVariables false
theorem l10Part_any (num den : Int) (w : World) :
    Calls Try.prog 63 #[.int .i64 num, .int .i64 den] w fun e w' => e = .returned (.bool (isF num den)) ∧ w' = w := by
  go_enter Try.func63, Try.ntmps63
  go_wp2_with fail
  refine (l1In_any den 1 1000 w).mono ?_
  rintro e w1 ⟨rfl, rfl⟩
  by_cases h1 : 1 ≤ den ∧ den ≤ 1000
  · rw [decide_eq_true h1]
    go_wp2_with fail
    refine (l1In_any num 1 den _).mono ?_
    rintro e w2 ⟨rfl, rfl⟩
    have HE := Lib.hid (show isF num den = decide (1 ≤ num ∧ num ≤ den) by
      unfold isF
      by_cases h2 : 1 ≤ num ∧ num ≤ den
      · rw [decide_eq_true h2, decide_eq_true (by omega)]
      · rw [decide_eq_false h2, decide_eq_false (by omega)])
    go_wp2_with fail
    go_ret
    exact ⟨by rw [HE.out, Bool.decide_and]; rfl, rfl⟩
  · rw [decide_eq_false h1]
    have HE := Lib.hid (show isF num den = false by unfold isF; rw [decide_eq_false (by omega)])
    go_wp2_with fail
    go_ret
    exact ⟨by rw [HE.out]; rfl, rfl⟩
theorem sw_to {f : Int} {M : List Int} {i : Nat} (h : i < M.length) : sw f M (yrs f (f + i)) = (M.take (i + 1)).sum := by
  have e : yrs f (f + (i : Int)) = (yrs f (f + M.length - 1)).take (i + 1) := by
    apply List.ext_getElem?
    intro j
    by_cases hj : j < i + 1
    · rw [List.getElem?_take_of_lt hj, yrs_at (by omega), yrs_at (by omega)]
    · rw [List.getElem?_eq_none (by rw [yrs_len]; omega), List.getElem?_eq_none (by rw [List.length_take]; omega)]
  unfold sw
  rw [e, List.map_take, map_wat]
theorem least_iff {num den S : Int} {M : List Int} (hd : 0 < den) : least num den M ≤ S ↔ num * M.sum ≤ S * den := by
  unfold least
  have h1 : (num * M.sum + den - 1) / den < S + 1 ↔ num * M.sum + den - 1 < (S + 1) * den := Int.ediv_lt_iff_lt_mul hd
  have h2 : (S + 1) * den = S * den + den := by rw [Int.add_mul]; simp
  rw [h2] at h1
  constructor
  · intro h
    have := h1.1 (by omega)
    omega
  · intro h
    have := h1.2 (by omega)
    omega
set_option maxRecDepth 100000 in
set_option maxHeartbeats 8000000 in
theorem spec_any (num den f : Int) (p : Option Addr) (n c : Nat) (M : List Int) (w : World) (hn : n ≤ 1048576) (h : HoldsI w p n M) :
    Calls Try.prog 35 #[.agg #[.int .i64 f, .slice p n c], .int .i64 num, .int .i64 den] w fun e w' => e = .returned (.tuple #[.int .i64 (quP num den f M).1, .bool (quP num den f M).2]) ∧ Below w.heap.size w w' := by
  have hb := below_alloc w (.cells #[.int .i64 f, .slice p n c] 27)
  have f1 := box_first w (.int .i64 f) (.slice p n c) 27
  have f2 := box_second w (.int .i64 f) (.slice p n c) 27
  have hlt : w.heap.size < (w.alloc (.cells #[.int .i64 f, .slice p n c] 27)).heap.size := by simp
  have HL := Lib.hid h.1
  have H := Lib.hid (h.below hb)
  have HB := Lib.hid hb
  clear h hb
  obtain ⟨r, hr⟩ : ∃ r, r = quP num den f M := ⟨_, rfl⟩
  rw [← hr]
  have HR := Lib.hid hr
  clear hr
  go_enter Try.func35, Try.ntmps35
  go_wp2_with fail
  generalize w.alloc (.cells #[.int .i64 f, .slice p n c] 27) = W at *
  refine (good_any f p n c M W hn H.out).mono ?_
  rintro e w1 ⟨rfl, b⟩
  replace f1 := (b.cell (p := ⟨w.heap.size, 0, none⟩) hlt).trans f1
  replace f2 := (b.cell (p := ⟨w.heap.size, 1, none⟩) hlt).trans f2
  replace hlt := Nat.lt_of_lt_of_le hlt b.size
  replace H := Lib.hid (H.out.below b)
  replace HB := Lib.hid (HB.out.trans (b.mono HB.out.size))
  clear b
  cases hv : okD f M with
  | false =>
    have HN := Lib.hid (HR.out.trans (quP_no (num := num) (den := den) (f := f) (M := M) fun e _ => by rw [hv] at e; cases e))
    go_wp2_with fail
    go_ret2
    exact ⟨by rw [HN.out]; rfl, HB.out⟩
  | true =>
    have HV := Lib.hid hv
    have O := okD_iff.1 hv
    clear hv
    go_wp2_with fail
    refine (l10Part_any num den _).mono ?_
    rintro e w2 ⟨rfl, rfl⟩
    cases hf : isF num den with
    | false =>
      have HN := Lib.hid (HR.out.trans (quP_no (num := num) (den := den) (f := f) (M := M) fun _ e => by rw [hf] at e; cases e))
      clear O
      go_wp2_with fail
      go_ret2
      exact ⟨by rw [HN.out]; rfl, HB.out⟩
    | true =>
      have HN := Lib.hid (HR.out.trans (quP_yes HV.out hf))
      have hff : 0 < num ∧ num ≤ den ∧ den ≤ 1000 := of_decide_eq_true hf
      have HM := Lib.hid (show ∀ x ∈ M, 0 ≤ x ∧ x ≤ 1000000 from fun x hx => upTo_mem O.all hx)
      have hsb := WaS.sum_bd (m := 1000000) (by omega) M HM.out
      have o1 := O.lo
      have o2 := O.hi
      have o3 := O.pos
      have o4 := O.len
      rw [HL.out] at o2 o3 o4 hsb
      clear O hf
      go_wp2_with fail
      refine (l10Sum_any p n c M _ hn HM.out H.out).mono ?_
      rintro e w3 ⟨rfl, b⟩
      replace f1 := (b.cell (p := ⟨w.heap.size, 0, none⟩) hlt).trans f1
      replace f2 := (b.cell (p := ⟨w.heap.size, 1, none⟩) hlt).trans f2
      replace hlt := Nat.lt_of_lt_of_le hlt b.size
      replace H := Lib.hid (H.out.below b)
      replace HB := Lib.hid (HB.out.trans (b.mono HB.out.size))
      clear b
      obtain ⟨T, hT⟩ : ∃ T, T = M.sum := ⟨_, rfl⟩
      rw [← hT] at hsb ⊢
      have HT := Lib.hid hT
      clear hT
      have hT2 : 0 ≤ T ∧ T ≤ 60000000 := by omega
      have hm1 : 0 ≤ num * T := Int.mul_nonneg (by omega) (by omega)
      have hm2 : num * T ≤ 1000 * 60000000 := Int.mul_le_mul (by omega) (by omega) (by omega) (by omega)
      clear hsb
      go_wp2_with fail
      go_loop [9, 10] (fun s9 s10 => ∃ k : Nat, k < n ∧ s10 = .int .i64 k ∧ s9 = .int .i64 (M.take k).sum ∧ Hid (∀ j, j < k → ¬ num * T ≤ (M.take (j + 1)).sum * den)) (fun _ s10 => n - (intOf s10).toNat)
      case atStart => exact ⟨0, by omega, rfl, rfl, fun j hj => absurd hj (Nat.not_lt_zero j)⟩
      case round =>
        obtain ⟨k, hk, rfl, rfl, HP⟩ := hrel
        obtain ⟨b, off, x, rfl, hx, e1⟩ := H.out.at k hk
        have hkn : (k : Int) < (n : Int) := by omega
        have HS := Lib.hid (sum_take hx)
        have hx0 := HM.out x (List.mem_of_getElem? hx)
        have hs1 := WaS.sum_bd (m := 1000000) (by omega) (M.take k) fun x hx => HM.out x (List.mem_of_mem_take hx)
        have hlk : (M.take k).length ≤ 60 := by rw [List.length_take]; omega
        obtain ⟨S, hS⟩ : ∃ S, S = (M.take k).sum := ⟨_, rfl⟩
        rw [← hS] at hs1 HS ⊢
        have hS2 : 0 ≤ S ∧ S ≤ 60000000 := by omega
        have hm3 : 0 ≤ (S + x) * den := Int.mul_nonneg (by omega) (by omega)
        have hm4 : (S + x) * den ≤ 61000000 * 1000 := Int.mul_le_mul (by omega) (by omega) (by omega) (by omega)
        clear hx hs1 hlk hS
        by_cases hc : num * T ≤ (S + x) * den
        · have HF := Lib.hid (show r = (f + (k : Int), true) by
            rw [HN.out, HL.out]
            have hpre : (yrs f (f + n - 1)).take k ++ [f + (k : Int)] = (yrs f (f + n - 1)).take (k + 1) := (yrs_take (by omega)).symm
            refine fst1_hit (pre := (yrs f (f + n - 1)).take k) (by rw [hpre]; exact List.take_prefix _ _) ?_ ?_
            · intro z hz
              obtain ⟨j, hj, rfl⟩ := List.getElem_of_mem hz
              rw [List.length_take, yrs_len] at hj
              have hz2 : ((yrs f (f + n - 1)).take k)[j]'(by rw [List.length_take, yrs_len]; exact hj) = f + (j : Int) := by
                have e1 := List.getElem?_eq_getElem (l := (yrs f (f + n - 1)).take k) (i := j) (by rw [List.length_take, yrs_len]; exact hj)
                rw [List.getElem?_take_of_lt (by omega), yrs_at (by omega)] at e1
                injection e1 with e1
                exact e1.symm
              rw [hz2]
              have hjj := HP.out j (by omega)
              refine decide_eq_false fun e => hjj ?_
              rw [sw_to (by rw [HL.out]; omega), least_iff (by omega), ← HT.out] at e
              exact e
            · refine decide_eq_true ?_
              rw [sw_to (by rw [HL.out]; omega), least_iff (by omega), ← HT.out, HS.out]
              exact hc)
          go_wp2_with fail
          go_ret2
          exact ⟨by rw [HF.out]; rfl, HB.out⟩
        · have hk1 : k + 1 < n := by
            rcases Nat.lt_or_ge (k + 1) n with q | q
            · exact q
            · exfalso
              have e1 : M.take (k + 1) = M := List.take_of_length_le (by rw [HL.out]; omega)
              have e2 := HS.out
              rw [e1, ← HT.out] at e2
              rw [← e2] at hc
              have h1 : T * num ≤ T * den := Int.mul_le_mul_of_nonneg_left hff.2.1 (by omega)
              rw [Int.mul_comm] at h1
              exact hc h1
          have HP2 : Hid (∀ j, j < k + 1 → ¬ num * T ≤ (M.take (j + 1)).sum * den) := fun j hj => by
            by_cases e : j = k
            · rw [e, HS.out]; exact hc
            · exact HP.out j (by omega)
          go_wp2_with fail
          go_round
          case rel => exact ⟨k + 1, hk1, by go_num, by rw [HS.out], HP2⟩
          case measure => simp [intOf]; omega
end Go.Proofs.Ytfnbjfmegikciaa.QuS
