/- The model's MakeDistribution. -/
import Derived.Test.YtfnbjfmegikciaaRdS
import Derived.Test.YtfnbjfmegikciaaMkI
namespace Go.Proofs.Ytfnbjfmegikciaa.MkS
open Go.RowKit Pairs Rec Keep GivesI DvM DvG DvS AppI Di ShI RdM RdS MkI
set_option linter.unusedVariables false
set_option maxRecDepth 100000 in
set_option maxHeartbeats 8000000 in
theorem spec_any (y : Int) (p : Option Addr) (n c : Nat) (M : List Int) (w : World) (hn : n ≤ 1048576) (h : HoldsI w p n M) :
    Calls Try.prog 18 #[.int .i64 y, .slice p n c] w (ResZ (makeP y M).isSome ((makeP y M).getD (0, [])).1 ((makeP y M).getD (0, [])).2 w) := by
  have HL := Lib.hid h.1
  have hb0 := below_alloc w (.cells #[.int .i64 0, .slice none 0 0] 27)
  have BX := Lib.hid (bx_new w (.int .i64 0) (.slice none 0 0) 27)
  have H := Lib.hid (h.below hb0)
  have HB := Lib.hid hb0
  clear h hb0
  go_enter Try.func18, Try.ntmps18
  go_wp2_with fail
  generalize w.alloc (.cells #[.int .i64 0, .slice none 0 0] 27) = W at *
  refine (l1In_any y (-20000) 2100 W).mono ?_
  rintro e w1 ⟨rfl, rfl⟩
  by_cases hy : -20000 ≤ y ∧ y ≤ 2100
  · rw [decide_eq_true hy]
    have HY := Lib.hid (show isY y = true from decide_eq_true hy)
    by_cases h2 : 200 < n
    · have h2' : (200 : Int) < (n : Int) := by omega
      have HN := Lib.hid (makeP_no (y := y) (M := M) fun _ e _ => by rw [HL.out] at e; omega)
      obtain ⟨c0, c1, f0, f1, lt1⟩ := BX.out
      go_wp2_with fail
      try simp only [Exit.inBlock, Exit.then]
      refine bodyPost_ret (v := .tuple #[.agg #[.int .i64 0, .slice none 0 0], .bool false]) (by simp [results, Try.results18, go_sem, c0, c1]) rfl ?_
      rw [HN.out]
      exact ⟨none, 0, 0, rfl, World.ownsRow_nil _ _ _ _, by omega, (HB.out.setCell (p := ⟨w.heap.size, 0, none⟩) (Nat.le_refl _) _).setCell (p := ⟨w.heap.size, 1, none⟩) (Nat.le_refl _) _⟩
    · have h2' : ¬ (200 : Int) < (n : Int) := by omega
      go_wp2_with fail
      go_loopw [6] (fun s6 wr => ∃ k : Nat, k ≤ n ∧ s6 = .int .i64 k ∧ Hid (∀ x ∈ M.take k, 0 ≤ x ∧ x ≤ 1000000000000) ∧ wr = w1) (fun s6 _ => n - (intOf s6).toNat)
      case atStart => exact ⟨0, Nat.zero_le _, rfl, fun x hx => by simp at hx, rfl⟩
      case round =>
        obtain ⟨k, hk, rfl, HP, rfl⟩ := hrel
        by_cases hlt : k < n
        · obtain ⟨b1, off1, z, rfl, hz, e3⟩ := H.out.at k hlt
          have hkn : (k : Int) < (n : Int) := by omega
          have HZ := Lib.hid hz
          clear hz
          go_wp2_with fail
          refine (l1In_any z 0 1000000000000 _).mono ?_
          rintro e w3 ⟨rfl, rfl⟩
          by_cases hz : 0 ≤ z ∧ z ≤ 1000000000000
          · rw [decide_eq_true hz]
            have HP2 := Lib.hid (show ∀ x ∈ M.take (k + 1), 0 ≤ x ∧ x ≤ 1000000000000 by
              intro v hv
              rw [List.take_add_one, HZ.out] at hv
              rcases List.mem_append.1 hv with hv | hv
              · exact HP.out v hv
              · obtain rfl : v = z := by simpa using hv
                exact hz)
            go_wp2_with fail
            exact ⟨⟨k + 1, by omega, by go_num, HP2, trivial⟩, by simp [intOf]; omega⟩
          · have HN := Lib.hid (makeP_no (y := y) (M := M) fun _ _ e => hz (upTo_mem e (List.mem_of_getElem? HZ.out)))
            rw [decide_eq_false hz]
            obtain ⟨c0, c1, f0, f1, lt1⟩ := BX.out
            go_wp2_with fail
            try simp only [Exit.inBlock, Exit.then]
            refine bodyPost_ret (v := .tuple #[.agg #[.int .i64 0, .slice none 0 0], .bool false]) (by simp [results, Try.results18, go_sem, c0, c1]) rfl ?_
            rw [HN.out]
            exact ⟨none, 0, 0, rfl, World.ownsRow_nil _ _ _ _, by omega, (HB.out.setCell (p := ⟨w.heap.size, 0, none⟩) (Nat.le_refl _) _).setCell (p := ⟨w.heap.size, 1, none⟩) (Nat.le_refl _) _⟩
        · obtain rfl : k = n := by omega
          have hkn : ¬ (k : Int) < (k : Int) := by omega
          have HU := Lib.hid (show ∀ x ∈ M, 0 ≤ x ∧ x ≤ 1000000000000 by have := HP.out; rw [List.take_of_length_le (by rw [HL.out]; exact Nat.le_refl _)] at this; exact this)
          have HN := Lib.hid (makeP_yes HY.out (by rw [HL.out]; omega) (show upTo 1000000000000 M = true by unfold upTo; rw [List.all_eq_true]; exact fun x hx => decide_eq_true (HU.out x hx)))
          have HC := Lib.hid (make_any y p k c M wr hn (by omega) H.out (fun x hx => by have := HU.out x hx; omega))
          rw [← HN.out] at HC
          obtain ⟨r, hr⟩ : ∃ r, r = makeP y M := ⟨_, rfl⟩
          have HRR := Lib.hid hr
          rw [← hr] at HC
          clear hr HN
          have HLT := Lib.hid BX.out.lt
          go_wp2_with fail
          refine HC.out.mono ?_
          rintro e w3 ⟨p3, k3, d3, rfl, o, hk3, b⟩
          replace BX := Lib.hid (BX.out.below b)
          replace HB := Lib.hid (HB.out.trans (b.mono HB.out.size))
          have O := Lib.hid o
          clear b o
          obtain ⟨c0, c1, f0, f1, lt1⟩ := BX.out
          go_wp2_with fail
          try simp only [Exit.inBlock, Exit.then]
          refine bodyPost_ret (v := .tuple #[.agg #[.int .i64 (r.getD (0, [])).1, .slice p3 k3 d3], .bool r.isSome]) (by simp [results, Try.results18, go_sem, c0, c1]) rfl ?_
          rw [← HRR.out]
          have O2 := ownsRow_setCell_below (ownsRow_setCell_below O.out (a := ⟨w.heap.size, 0, none⟩) HLT.out (.int .i64 (r.getD (0, [])).1)) (a := ⟨w.heap.size, 1, none⟩) HLT.out (.slice p3 k3 d3)
          exact ⟨p3, k3, d3, rfl, ownsRow_base O2 (Nat.le_of_lt HLT.out), hk3, (HB.out.setCell (p := ⟨w.heap.size, 0, none⟩) (Nat.le_refl _) _).setCell (p := ⟨w.heap.size, 1, none⟩) (Nat.le_refl _) _⟩
  · have HN := Lib.hid (makeP_no (y := y) (M := M) fun e _ _ => hy (of_decide_eq_true e))
    rw [decide_eq_false hy]
    obtain ⟨c0, c1, f0, f1, lt1⟩ := BX.out
    go_wp2_with fail
    try simp only [Exit.inBlock, Exit.then]
    refine bodyPost_ret (v := .tuple #[.agg #[.int .i64 0, .slice none 0 0], .bool false]) (by simp [results, Try.results18, go_sem, c0, c1]) rfl ?_
    rw [HN.out]
    exact ⟨none, 0, 0, rfl, World.ownsRow_nil _ _ _ _, by omega, (HB.out.setCell (p := ⟨w.heap.size, 0, none⟩) (Nat.le_refl _) _).setCell (p := ⟨w.heap.size, 1, none⟩) (Nat.le_refl _) _⟩
end Go.Proofs.Ytfnbjfmegikciaa.MkS
