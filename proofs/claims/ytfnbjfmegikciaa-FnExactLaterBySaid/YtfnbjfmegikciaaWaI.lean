/- The program's WeightAt. -/
import Derived.Test.YtfnbjfmegikciaaWwI
namespace Go.Proofs.Ytfnbjfmegikciaa.WaI
open Go Go.RowKit Pairs Rec Keep GivesI DvM DvG DvI ShI Yr AtM WwI
set_option linter.unusedVariables false
def waP (y f : Int) (M : List Int) : Int × Int × Bool := if okD f M && isY y then (wat f M y, M.sum, true) else (0, 0, false)
theorem waP_no {y f : Int} {M : List Int} (h : okD f M = true → isY y = true → False) : waP y f M = (0, 0, false) := by
  unfold waP
  rw [if_neg]
  intro e
  rw [Bool.and_eq_true] at e
  exact h e.1 e.2
theorem waP_yes {y f : Int} {M : List Int} (h1 : okD f M = true) (h2 : isY y = true) : waP y f M = (wat f M y, M.sum, true) := by
  unfold waP
  rw [h1, h2]
  rfl
set_option maxRecDepth 100000 in
set_option maxHeartbeats 8000000 in
theorem impl_any (y f : Int) (p : Option Addr) (n c : Nat) (M : List Int) (w : World) (hn : n ≤ 1048576) (h : HoldsI w p n M) :
    Calls Try.prog 26 #[.agg #[.int .i64 f, .slice p n c], .int .i64 y] w fun e w' => e = .returned (.tuple #[.int .i64 (waP y f M).1, .int .i64 (waP y f M).2.1, .bool (waP y f M).2.2]) ∧ Below w.heap.size w w' := by
  have hb := below_alloc w (.cells #[.int .i64 f, .slice p n c] 27)
  have f1 := box_first w (.int .i64 f) (.slice p n c) 27
  have f2 := box_second w (.int .i64 f) (.slice p n c) 27
  have hlt : w.heap.size < (w.alloc (.cells #[.int .i64 f, .slice p n c] 27)).heap.size := by simp
  have H := Lib.hid (h.below hb)
  have HB := Lib.hid hb
  clear h hb
  obtain ⟨r, hr⟩ : ∃ r, r = waP y f M := ⟨_, rfl⟩
  rw [← hr]
  have HR := Lib.hid hr
  clear hr
  go_enter Try.func26, Try.ntmps26
  go_wp2_with fail
  generalize w.alloc (.cells #[.int .i64 f, .slice p n c] 27) = W at *
  refine (valid_any f p n c M W hn H.out).mono ?_
  rintro e w1 ⟨rfl, b⟩
  replace f1 := (b.cell (p := ⟨w.heap.size, 0, none⟩) hlt).trans f1
  replace f2 := (b.cell (p := ⟨w.heap.size, 1, none⟩) hlt).trans f2
  replace hlt := Nat.lt_of_lt_of_le hlt b.size
  replace H := Lib.hid (H.out.below b)
  replace HB := Lib.hid (HB.out.trans (b.mono HB.out.size))
  clear b
  cases hv : okD f M with
  | false =>
    have HN := Lib.hid (HR.out.trans (waP_no (y := y) (f := f) (M := M) fun e _ => by rw [hv] at e; cases e))
    go_wp2_with fail
    go_ret3
    exact ⟨by rw [HN.out]; rfl, HB.out⟩
  | true =>
    have HV := Lib.hid hv
    clear hv
    go_wp2_with fail
    refine (isYear_any y _).mono ?_
    rintro e w2 ⟨rfl, rfl⟩
    cases hy : isY y with
    | false =>
      have HN := Lib.hid (HR.out.trans (waP_no (y := y) (f := f) (M := M) fun _ e => by rw [hy] at e; cases e))
      go_wp2_with fail
      go_ret3
      exact ⟨by rw [HN.out]; rfl, HB.out⟩
    | true =>
      have HN := Lib.hid (HR.out.trans (waP_yes HV.out hy))
      have hyy : -20000 ≤ y ∧ y ≤ 2100 := of_decide_eq_true hy
      have O := okD_iff.1 HV.out
      have o1 := O.lo
      have o2 := O.hi
      have o3 := O.pos
      have cA : ∀ d os, Calls Try.prog 53 #[.agg #[.int .i64 f, .slice p n c], .int .i64 y] (Sort.grow (redrawn w2 d) os) fun e w'' => e = .returned (.int .i64 (wat f M y)) ∧ ∃ p : Regrown, w'' = Sort.grow (redrawn w2 p.d) p.os := fun d os => Calls.regrown_of (weightAt_any f p n c M y _ hn (by omega) (by omega) (H.out.below (below_regrown w2 d os)))
      have cS : ∀ d os, Calls Try.prog 54 #[.agg #[.int .i64 f, .slice p n c]] (Sort.grow (redrawn w2 d) os) fun e w'' => e = .returned (.int .i64 M.sum) ∧ ∃ p : Regrown, w'' = Sort.grow (redrawn w2 p.d) p.os := fun d os => Calls.regrown_of (sum_any f p n c M _ hn HV.out (H.out.below (below_regrown w2 d os)))
      generalize wat f M y = v1 at *
      generalize M.sum = v2 at *
      have k1 := cell_regrown f1
      have k2 := cell_regrown f2
      clear O o1 o2 o3 hy
      go_wp2_with fail
      refine wp_region_quiet_below (by kernel_rfl) (by kernel_rfl) ?_
      repeat (go_big_quiet_step (first | (go_at_call 53; exact cA _ _) | (go_at_call 54; exact cS _ _)))
      refine wpQuiet_nil ?_
      intro _ hw'
      obtain ⟨⟨dq, osq⟩, hw''⟩ := hw'
      subst hw''
      have HBQ := Lib.hid (below_regrown w2 dq osq)
      clear k1 k2 f1 f2 cA cS
      generalize Sort.grow (redrawn w2 dq) osq = W5 at *
      go_wp2_with fail
      go_ret3
      exact ⟨by rw [HN.out]; rfl, HB.out.trans (HBQ.out.mono HB.out.size)⟩
end Go.Proofs.Ytfnbjfmegikciaa.WaI
