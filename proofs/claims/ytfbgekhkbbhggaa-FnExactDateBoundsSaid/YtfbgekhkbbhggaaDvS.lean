/- The model's IsValidDistribution. -/
import Derived.Test.YtfbgekhkbbhggaaDvG
namespace Go.Proofs.Ytfbgekhkbbhggaa.DvS
open Go.RowKit Pairs Rec Keep GivesI DvM DvG
set_option linter.unusedVariables false
set_option maxRecDepth 100000 in
set_option maxHeartbeats 4000000 in
theorem good_any (f : Int) (p : Option Addr) (n c : Nat) (M : List Int) (w : World) (hn : n ≤ 1048576) (h : HoldsI w p n M) :
    Calls Try.prog 84 #[.agg #[.int .i64 f, .slice p n c]] w fun e w' => e = .returned (.bool (okD f M)) ∧ Below w.heap.size w w' := by
  have hb := below_alloc w (.cells #[.int .i64 f, .slice p n c] 50)
  have f1 := box_first w (.int .i64 f) (.slice p n c) 50
  have f2 := box_second w (.int .i64 f) (.slice p n c) 50
  have hlt : w.heap.size < (w.alloc (.cells #[.int .i64 f, .slice p n c] 50)).heap.size := by simp
  have H := Lib.hid (h.below hb)
  have HL := Lib.hid h.1
  have HB := Lib.hid hb
  clear h hb
  obtain ⟨r, hr⟩ : ∃ r, r = okD f M := ⟨_, rfl⟩
  rw [← hr]
  have HR := Lib.hid hr
  clear hr
  go_enter Try.func84, Try.ntmps84
  go_wp2_with fail
  generalize w.alloc (.cells #[.int .i64 f, .slice p n c] 50) = W at *
  refine (l1In_any (n : Int) 1 60 W).mono ?_
  rintro e w1 ⟨rfl, rfl⟩
  by_cases hn1 : (1 : Int) ≤ n ∧ (n : Int) ≤ 60
  · rw [decide_eq_true hn1]
    go_wp2_with fail
    refine (l1In_any f (-20000) (2100 - n + 1) _).mono ?_
    rintro e w2 ⟨rfl, rfl⟩
    by_cases hf : -20000 ≤ f ∧ f ≤ 2100 - n + 1
    · rw [decide_eq_true hf]
      obtain ⟨b, off, x, rfl, hx, e1⟩ := H.out.at 0 (by omega)
      obtain ⟨b', off', y, hbb, hy, e2⟩ := H.out.at (n - 1) (by omega)
      injection hbb with hbb
      injection hbb with hbb hoo
      subst hbb hoo
      rw [Nat.add_zero] at e1
      have gx := Lib.hid (getD_of hx)
      have gy := Lib.hid (getD_of hy)
      clear hx hy
      have hnn : (n : Int) - 1 = ((n - 1 : Nat) : Int) := by omega
      by_cases hx0 : x ≤ 0
      · have HF := Lib.hid (HR.out.trans (okD_not (f := f) (L := M) fun o => by have := o.fst; rw [gx.out] at this; omega))
        go_wp2_with fail
        go_ret
        exact ⟨by rw [HF.out]; rfl, HB.out⟩
      by_cases hy0 : y ≤ 0
      · have HF := Lib.hid (HR.out.trans (okD_not (f := f) (L := M) fun o => by have := o.lst; rw [HL.out, gy.out] at this; omega))
        have hxy : (decide (x ≤ 0) || decide (y ≤ 0)) = true := by simp [hy0]
        go_wp2_with fail
        go_ret
        exact ⟨by rw [HF.out]; rfl, HB.out⟩
      have hxy : (decide (x ≤ 0) || decide (y ≤ 0)) = false := by simp [hx0, hy0]
      go_wp2_with fail
      go_loopw [4, 5] (fun s4 s5 wr => ∃ k : Nat, k ≤ n ∧ s5 = .int .i64 k ∧ s4 = .int .i64 (dv (M.take k)) ∧ Hid (∀ x ∈ M.take k, 0 ≤ x ∧ x ≤ 1000000) ∧ wr = w2) (fun _ s5 _ => n - (intOf s5).toNat)
      case atStart => exact ⟨0, Nat.zero_le _, rfl, rfl, fun x hx => by simp at hx, rfl⟩
      case round =>
        obtain ⟨k, hk, rfl, rfl, HP, rfl⟩ := hrel
        by_cases hlt : k < n
        · obtain ⟨b1, off1, z, hbb, hz, e3⟩ := H.out.at k hlt
          injection hbb with hbb
          injection hbb with hbb hoo
          subst hbb hoo
          have hkn : (k : Int) < (n : Int) := by omega
          have HT := Lib.hid (dv_take hz)
          have HZ := Lib.hid hz
          have hd0 := dv_nonneg (M.take k)
          clear hz
          generalize dv (M.take k) = d at *
          go_wp2_with fail
          refine (l1In_any z 0 1000000 _).mono ?_
          rintro e w3 ⟨rfl, rfl⟩
          by_cases hz : 0 ≤ z ∧ z ≤ 1000000
          · rw [decide_eq_true hz]
            go_wp2_with fail
            refine (l10Gcd_any d z hd0 hz.1 _).mono ?_
            rintro e w4 ⟨rfl, rfl⟩
            have HP2 := Lib.hid (show ∀ x ∈ M.take (k + 1), 0 ≤ x ∧ x ≤ 1000000 by
              intro v hv
              rw [List.take_add_one, HZ.out] at hv
              rcases List.mem_append.1 hv with hv | hv
              · exact HP.out v hv
              · obtain rfl : v = z := by simpa using hv
                exact hz)
            go_wp2_with fail
            exact ⟨⟨k + 1, by omega, by go_num, by rw [HT.out], HP2, trivial⟩, by simp [intOf]; omega⟩
          · have HF := Lib.hid (HR.out.trans (okD_not (f := f) (L := M) fun o => hz (upTo_mem o.all (List.mem_of_getElem? HZ.out))))
            rw [decide_eq_false hz]
            go_wp2_with fail
            go_ret
            exact ⟨by rw [HF.out]; rfl, HB.out⟩
        · obtain rfl : k = n := by omega
          have hkn : ¬ (k : Int) < (k : Int) := by omega
          have hlen := HL.out
          have HE := Lib.hid (show M.take k = M by rw [List.take_of_length_le (by omega)])
          have HF := Lib.hid (show r = decide (dv (M.take k) = 1) by
            rw [HR.out, HE.out]
            by_cases h1 : dv M = 1
            · rw [decide_eq_true h1, okD_iff]
              exact ⟨by omega, by omega, by unfold upTo; rw [List.all_eq_true]; intro v hv; exact decide_eq_true (HP.out v (by rw [HE.out]; exact hv)), by rw [gx.out]; exact hx0, by rw [hlen, gy.out]; exact hy0, hf.1, by omega, h1⟩
            · rw [decide_eq_false h1]
              exact okD_not fun o => h1 o.one)
          generalize dv (M.take k) = d at *
          clear HE hlen
          go_wp2_with fail
          go_ret
          exact ⟨by rw [HF.out]; rfl, HB.out⟩
    · have HF := Lib.hid (HR.out.trans (okD_not (f := f) (L := M) fun o => hf ⟨o.lo, by have := o.hi; rw [HL.out] at this; omega⟩))
      rw [decide_eq_false hf]
      go_wp2_with fail
      go_ret
      exact ⟨by rw [HF.out]; rfl, HB.out⟩
  · have HF := Lib.hid (HR.out.trans (okD_not (f := f) (L := M) fun o => hn1 (by have h1 := o.pos; have h2 := o.len; rw [HL.out] at h1 h2; omega)))
    rw [decide_eq_false hn1]
    go_wp2_with fail
    go_ret
    exact ⟨by rw [HF.out]; rfl, HB.out⟩
end Go.Proofs.Ytfbgekhkbbhggaa.DvS
