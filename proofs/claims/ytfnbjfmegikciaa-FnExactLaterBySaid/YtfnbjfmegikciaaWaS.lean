/- The model's l10At, l10Sum and WeightAt. -/
import Derived.Test.YtfnbjfmegikciaaWaI
import Derived.Test.YtfnbjfmegikciaaDvS
namespace Go.Proofs.Ytfnbjfmegikciaa.WaS
open Go Go.RowKit Pairs Rec Keep GivesI DvM DvG DvS ShI Yr AtM WaI
set_option linter.unusedVariables false
set_option maxRecDepth 100000 in
set_option maxHeartbeats 2000000 in
theorem l10At_any (f : Int) (p : Option Addr) (n c : Nat) (M : List Int) (y : Int) (w : World) (hn : n ≤ 1048576) (hf : -1000000000 ≤ f ∧ f ≤ 1000000000) (hy : -1000000000 ≤ y ∧ y ≤ 1000000000) (h : HoldsI w p n M) :
    Calls Try.prog 51 #[.agg #[.int .i64 f, .slice p n c], .int .i64 y] w fun e w' => e = .returned (.int .i64 (wat f M y)) ∧ Below w.heap.size w w' := by
  have hb := below_alloc w (.cells #[.int .i64 f, .slice p n c] 27)
  have f1 := box_first w (.int .i64 f) (.slice p n c) 27
  have f2 := box_second w (.int .i64 f) (.slice p n c) 27
  have H := h.below hb
  have hl := h.1
  have HB := Lib.hid hb
  clear hb
  go_enter Try.func51, Try.ntmps51
  go_wp2_with fail
  generalize w.alloc (.cells #[.int .i64 f, .slice p n c] 27) = W at *
  refine (l1In_any y f (f + n - 1) W).mono ?_
  rintro e w1 ⟨rfl, rfl⟩
  by_cases h1 : f ≤ y ∧ y ≤ f + n - 1
  · rw [decide_eq_true h1]
    obtain ⟨i, hi⟩ : ∃ i : Nat, y - f = (i : Int) := ⟨(y - f).toNat, by omega⟩
    obtain ⟨b, off, x, rfl, hx, e1⟩ := H.at i (by omega)
    have HE := Lib.hid (wat_in (f := f) (M := M) (y := y) (x := x) (by omega) (by rw [hi]; exact hx))
    clear hx H h
    go_wp2_with fail
    go_ret
    exact ⟨by rw [HE.out]; rfl, HB.out⟩
  · rw [decide_eq_false h1]
    have HE := Lib.hid (wat_out (f := f) (M := M) (y := y) (by rw [hl]; exact h1))
    go_wp2_with fail
    go_ret
    exact ⟨by rw [HE.out]; rfl, HB.out⟩
theorem sum_take {L : List Int} {k : Nat} {x : Int} (h : L[k]? = some x) : (L.take (k + 1)).sum = (L.take k).sum + x := by
  rw [List.take_add_one, h, List.sum_append]
  simp
theorem sum_bd {m : Int} (hm : 0 ≤ m) : ∀ L : List Int, (∀ x ∈ L, 0 ≤ x ∧ x ≤ m) → 0 ≤ L.sum ∧ L.sum ≤ m * L.length
  | [], _ => by simp
  | y :: L, h => by
    have ih := sum_bd hm L fun x hx => h x (List.mem_cons_of_mem _ hx)
    have hb := h y (by simp)
    rw [List.sum_cons, List.length_cons]
    have : m * ((L.length + 1 : Nat) : Int) = m * L.length + m := by rw [Int.natCast_add, Int.mul_add]; simp
    omega
set_option maxRecDepth 100000 in
set_option maxHeartbeats 2000000 in
theorem l10Sum_any (p : Option Addr) (n c : Nat) (M : List Int) (w : World) (hn : n ≤ 1048576) (hM : ∀ x ∈ M, 0 ≤ x ∧ x ≤ 1000000) (h : HoldsI w p n M) :
    Calls Try.prog 52 #[.slice p n c] w fun e w' => e = .returned (.int .i64 M.sum) ∧ Below w.heap.size w w' := by
  have H := Lib.hid h
  have HM := Lib.hid hM
  have HL := Lib.hid h.1
  clear h hM
  go_enter Try.func52, Try.ntmps52
  go_wp2_with fail
  go_loop [3, 4] (fun s3 s4 => ∃ k : Nat, k ≤ n ∧ s4 = .int .i64 k ∧ s3 = .int .i64 (M.take k).sum) (fun _ s4 => n - (intOf s4).toNat)
  case atStart => exact ⟨0, Nat.zero_le _, rfl, rfl⟩
  case round =>
    obtain ⟨k, hk, rfl, rfl⟩ := hrel
    by_cases hlt : k < n
    · obtain ⟨b, off, x, rfl, hx, e1⟩ := H.out.at k hlt
      have hkn : (k : Int) < (n : Int) := by omega
      have HT := Lib.hid (sum_take hx)
      have hx0 := HM.out x (List.mem_of_getElem? hx)
      have hsb := sum_bd (m := 1000000) (by omega) (M.take k) fun x hx => HM.out x (List.mem_of_mem_take hx)
      have hlk : (M.take k).length ≤ 1048576 := by rw [List.length_take]; omega
      obtain ⟨S, hS⟩ : ∃ S, S = (M.take k).sum := ⟨_, rfl⟩
      rw [← hS] at hsb HT ⊢
      have hS2 : 0 ≤ S ∧ S ≤ 1048576000000 := by omega
      clear hx hsb hlk hS
      go_wp2_with fail
      go_round
      case rel => exact ⟨k + 1, by omega, by go_num, by rw [HT.out]⟩
      case measure => simp [intOf]; omega
    · obtain rfl : k = n := by omega
      have hkn : ¬ (k : Int) < (k : Int) := by omega
      have HE := Lib.hid (show M.take k = M by rw [List.take_of_length_le (by rw [HL.out]; exact Nat.le_refl _)])
      obtain ⟨S, hS⟩ : ∃ S, S = (M.take k).sum := ⟨_, rfl⟩
      rw [← hS]
      have HS := Lib.hid hS
      clear hS
      go_wp2_with fail
      go_ret
      exact ⟨by rw [← HE.out, ← HS.out]; rfl, Below.refl _ _⟩
set_option maxRecDepth 100000 in
set_option maxHeartbeats 8000000 in
theorem spec_any (y f : Int) (p : Option Addr) (n c : Nat) (M : List Int) (w : World) (hn : n ≤ 1048576) (h : HoldsI w p n M) :
    Calls Try.prog 25 #[.agg #[.int .i64 f, .slice p n c], .int .i64 y] w fun e w' => e = .returned (.tuple #[.int .i64 (waP y f M).1, .int .i64 (waP y f M).2.1, .bool (waP y f M).2.2]) ∧ Below w.heap.size w w' := by
  have hb := below_alloc w (.cells #[.int .i64 f, .slice p n c] 27)
  have f1 := box_first w (.int .i64 f) (.slice p n c) 27
  have f2 := box_second w (.int .i64 f) (.slice p n c) 27
  have hlt : w.heap.size < (w.alloc (.cells #[.int .i64 f, .slice p n c] 27)).heap.size := by simp
  have H := Lib.hid (h.below hb)
  have HB := Lib.hid hb
  clear h hb
  obtain ⟨r, hr⟩ : ∃ r, r = waP y f M := ⟨_, rfl⟩
  rw [← hr]
  have HR := Lib.hid hr
  clear hr
  go_enter Try.func25, Try.ntmps25
  go_wp2_with fail
  generalize w.alloc (.cells #[.int .i64 f, .slice p n c] 27) = W at *
  refine (good_any f p n c M W hn H.out).mono ?_
  rintro e w1 ⟨rfl, b⟩
  replace f1 := (b.cell (p := ⟨w.heap.size, 0, none⟩) hlt).trans f1
  replace f2 := (b.cell (p := ⟨w.heap.size, 1, none⟩) hlt).trans f2
  replace hlt := Nat.lt_of_lt_of_le hlt b.size
  replace H := Lib.hid (H.out.below b)
  replace HB := Lib.hid (HB.out.trans (b.mono HB.out.size))
  clear b
  cases hv : okD f M with
  | false =>
    have HN := Lib.hid (HR.out.trans (waP_no (y := y) (f := f) (M := M) fun e _ => by rw [hv] at e; cases e))
    go_wp2_with fail
    go_ret3
    exact ⟨by rw [HN.out]; rfl, HB.out⟩
  | true =>
    have HV := Lib.hid hv
    clear hv
    go_wp2_with fail
    refine (l1In_any y (-20000) 2100 _).mono ?_
    rintro e w2 ⟨rfl, rfl⟩
    rw [show decide (-20000 ≤ y ∧ y ≤ 2100) = isY y from rfl]
    cases hy : isY y with
    | false =>
      have HN := Lib.hid (HR.out.trans (waP_no (y := y) (f := f) (M := M) fun _ e => by rw [hy] at e; cases e))
      go_wp2_with fail
      go_ret3
      exact ⟨by rw [HN.out]; rfl, HB.out⟩
    | true =>
      have HN := Lib.hid (HR.out.trans (waP_yes HV.out hy))
      have hyy : -20000 ≤ y ∧ y ≤ 2100 := of_decide_eq_true hy
      have O := okD_iff.1 HV.out
      have o1 := O.lo
      have o2 := O.hi
      have o3 := O.pos
      have cA : ∀ d os, Calls Try.prog 51 #[.agg #[.int .i64 f, .slice p n c], .int .i64 y] (Sort.grow (redrawn w2 d) os) fun e w'' => e = .returned (.int .i64 (wat f M y)) ∧ ∃ p : Regrown, w'' = Sort.grow (redrawn w2 p.d) p.os := fun d os => Calls.regrown_of (l10At_any f p n c M y _ hn (by omega) (by omega) (H.out.below (below_regrown w2 d os)))
      have cS : ∀ d os, Calls Try.prog 52 #[.slice p n c] (Sort.grow (redrawn w2 d) os) fun e w'' => e = .returned (.int .i64 M.sum) ∧ ∃ p : Regrown, w'' = Sort.grow (redrawn w2 p.d) p.os := fun d os => Calls.regrown_of (l10Sum_any p n c M _ hn (fun x hx => upTo_mem O.all hx) (H.out.below (below_regrown w2 d os)))
      generalize wat f M y = v1 at *
      generalize M.sum = v2 at *
      have k1 := cell_regrown f1
      have k2 := cell_regrown f2
      clear O o1 o2 o3 hy
      go_wp2_with fail
      refine wp_region_quiet_below (by kernel_rfl) (by kernel_rfl) ?_
      repeat (go_big_quiet_step (first | (go_at_call 51; exact cA _ _) | (go_at_call 52; exact cS _ _)))
      refine wpQuiet_nil ?_
      intro _ hw'
      obtain ⟨⟨dq, osq⟩, hw''⟩ := hw'
      subst hw''
      have HBQ := Lib.hid (below_regrown w2 dq osq)
      clear k1 k2 f1 f2 cA cS
      generalize Sort.grow (redrawn w2 dq) osq = W5 at *
      go_wp2_with fail
      go_ret3
      exact ⟨by rw [HN.out]; rfl, HB.out.trans (HBQ.out.mono HB.out.size)⟩
end Go.Proofs.Ytfnbjfmegikciaa.WaS
