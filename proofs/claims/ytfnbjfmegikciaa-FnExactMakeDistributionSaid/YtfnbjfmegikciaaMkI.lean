/- The program's MakeDistribution. -/
import Derived.Test.YtfnbjfmegikciaaRdI
namespace Go.Proofs.Ytfnbjfmegikciaa.MkI
open Go.RowKit Pairs Rec Keep GivesI DvM DvG DvI AppI Di ShI RdM RdI
set_option linter.unusedVariables false
def makeP (y : Int) (M : List Int) : Option (Int × List Int) := if isY y && decide (M.length ≤ 200) && upTo 1000000000000 M then red y M else none
theorem makeP_no {y : Int} {M : List Int} (h : isY y = true → M.length ≤ 200 → upTo 1000000000000 M = true → False) : makeP y M = none := by
  unfold makeP
  rw [if_neg]
  intro e
  simp only [Bool.and_eq_true, decide_eq_true_eq] at e
  exact h e.1.1 e.1.2 e.2
theorem makeP_yes {y : Int} {M : List Int} (h1 : isY y = true) (h2 : M.length ≤ 200) (h3 : upTo 1000000000000 M = true) : makeP y M = red y M := by
  unfold makeP
  rw [if_pos]
  simp only [Bool.and_eq_true, decide_eq_true_eq]
  exact ⟨⟨h1, h2⟩, h3⟩
set_option maxRecDepth 100000 in
set_option maxHeartbeats 8000000 in
theorem impl_any (y : Int) (p : Option Addr) (n c : Nat) (M : List Int) (w : World) (hn : n ≤ 1048576) (hc : n ≤ c) (h : HoldsI w p n M) :
    Calls Try.prog 20 #[.int .i64 y, .slice p n c] w (ResZ (makeP y M).isSome ((makeP y M).getD (0, [])).1 ((makeP y M).getD (0, [])).2 w) := by
  have HL := Lib.hid h.1
  have hb0 := below_alloc w (.cells #[.int .i64 0, .slice none 0 0] 27)
  have BX := Lib.hid (bx_new w (.int .i64 0) (.slice none 0 0) 27)
  have H := Lib.hid (h.below hb0)
  have HB := Lib.hid hb0
  clear h hb0
  go_enter Try.func20, Try.ntmps20
  go_wp2_with fail
  generalize w.alloc (.cells #[.int .i64 0, .slice none 0 0] 27) = W at *
  refine (isYear_any y W).mono ?_
  rintro e w1 ⟨rfl, rfl⟩
  cases hy : isY y with
  | false =>
    have HN := Lib.hid (makeP_no (y := y) (M := M) fun e _ _ => by rw [hy] at e; cases e)
    clear hy
    obtain ⟨c0, c1, f0, f1, lt1⟩ := BX.out
    go_wp2_with fail
    try simp only [Exit.inBlock, Exit.then]
    refine bodyPost_ret (v := .tuple #[.agg #[.int .i64 0, .slice none 0 0], .bool false]) (by simp [results, Try.results20, go_sem, c0, c1]) rfl ?_
    rw [HN.out]
    exact ⟨none, 0, 0, rfl, World.ownsRow_nil _ _ _ _, by omega, (HB.out.setCell (p := ⟨w.heap.size, 0, none⟩) (Nat.le_refl _) _).setCell (p := ⟨w.heap.size, 1, none⟩) (Nat.le_refl _) _⟩
  | true =>
    have HY := Lib.hid hy
    have hyy : -20000 ≤ y ∧ y ≤ 2100 := of_decide_eq_true hy
    clear hy
    by_cases h2 : 200 < n
    · have h2' : (200 : Int) < (n : Int) := by omega
      have HN := Lib.hid (makeP_no (y := y) (M := M) fun _ e _ => by rw [HL.out] at e; omega)
      obtain ⟨c0, c1, f0, f1, lt1⟩ := BX.out
      go_wp2_with fail
      try simp only [Exit.inBlock, Exit.then]
      refine bodyPost_ret (v := .tuple #[.agg #[.int .i64 0, .slice none 0 0], .bool false]) (by simp [results, Try.results20, go_sem, c0, c1]) rfl ?_
      rw [HN.out]
      exact ⟨none, 0, 0, rfl, World.ownsRow_nil _ _ _ _, by omega, (HB.out.setCell (p := ⟨w.heap.size, 0, none⟩) (Nat.le_refl _) _).setCell (p := ⟨w.heap.size, 1, none⟩) (Nat.le_refl _) _⟩
    · have h2' : ¬ (200 : Int) < (n : Int) := by omega
      go_wp2_with fail
      refine (upTo_calls 1000000000000 p n c M _ hn H.out).mono ?_
      rintro e w2 ⟨rfl, b⟩
      replace H := Lib.hid (H.out.below b)
      replace BX := Lib.hid (BX.out.below b)
      replace HB := Lib.hid (HB.out.trans (b.mono HB.out.size))
      clear b
      cases hu : upTo 1000000000000 M with
      | false =>
        have HN := Lib.hid (makeP_no (y := y) (M := M) fun _ _ e => by rw [hu] at e; cases e)
        clear hu
        obtain ⟨c0, c1, f0, f1, lt1⟩ := BX.out
        go_wp2_with fail
        try simp only [Exit.inBlock, Exit.then]
        refine bodyPost_ret (v := .tuple #[.agg #[.int .i64 0, .slice none 0 0], .bool false]) (by simp [results, Try.results20, go_sem, c0, c1]) rfl ?_
        rw [HN.out]
        exact ⟨none, 0, 0, rfl, World.ownsRow_nil _ _ _ _, by omega, (HB.out.setCell (p := ⟨w.heap.size, 0, none⟩) (Nat.le_refl _) _).setCell (p := ⟨w.heap.size, 1, none⟩) (Nat.le_refl _) _⟩
      | true =>
        have HU := Lib.hid hu
        have HN := Lib.hid (makeP_yes HY.out (by rw [HL.out]; omega) hu)
        have HP := Lib.hid (show ∀ x ∈ M, 0 ≤ x ∧ x ≤ 4611686018427387904 from fun x hx => by have := upTo_mem HU.out hx; omega)
        clear hu
        have HC := Lib.hid (reduced_any y p n c M w2 hn (by omega) hc H.out HP.out)
        rw [← HN.out] at HC
        obtain ⟨r, hr⟩ : ∃ r, r = makeP y M := ⟨_, rfl⟩
        have HRR := Lib.hid hr
        rw [← hr] at HC
        clear hr HN
        have HLT := Lib.hid BX.out.lt
        go_wp2_with fail
        refine HC.out.mono ?_
        rintro e w3 ⟨p3, k3, d3, rfl, o, hk3, b⟩
        replace BX := Lib.hid (BX.out.below b)
        replace HB := Lib.hid (HB.out.trans (b.mono HB.out.size))
        have O := Lib.hid o
        clear b o
        obtain ⟨c0, c1, f0, f1, lt1⟩ := BX.out
        go_wp2_with fail
        try simp only [Exit.inBlock, Exit.then]
        refine bodyPost_ret (v := .tuple #[.agg #[.int .i64 (r.getD (0, [])).1, .slice p3 k3 d3], .bool r.isSome]) (by simp [results, Try.results20, go_sem, c0, c1]) rfl ?_
        rw [← HRR.out]
        have O2 := ownsRow_setCell_below (ownsRow_setCell_below O.out (a := ⟨w.heap.size, 0, none⟩) HLT.out (.int .i64 (r.getD (0, [])).1)) (a := ⟨w.heap.size, 1, none⟩) HLT.out (.slice p3 k3 d3)
        exact ⟨p3, k3, d3, rfl, ownsRow_base O2 (Nat.le_of_lt HLT.out), hk3, (HB.out.setCell (p := ⟨w.heap.size, 0, none⟩) (Nat.le_refl _) _).setCell (p := ⟨w.heap.size, 1, none⟩) (Nat.le_refl _) _⟩
end Go.Proofs.Ytfnbjfmegikciaa.MkI
