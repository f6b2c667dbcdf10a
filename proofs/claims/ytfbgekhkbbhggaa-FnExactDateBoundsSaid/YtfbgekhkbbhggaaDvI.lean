/- The program's IsValidDistribution and what it calls. -/
import Derived.Test.YtfbgekhkbbhggaaDvG
import Derived.Test.YtfbgekhkbbhggaaFuncZ
namespace Go.Proofs.Ytfbgekhkbbhggaa.DvI
open Go.RowKit Pairs Rec Keep GivesI DvM DvG
set_option linter.unusedVariables false
theorem fld0 (a b : Int) (w : World) : (Instr.field 86 (.agg #[.int .i64 a, .int .i64 b]) 0).run Try.prog w = .ok (.int .i64 a) w := by kernel_rfl
theorem fld1 (a b : Int) (w : World) : (Instr.field 86 (.agg #[.int .i64 a, .int .i64 b]) 1).run Try.prog w = .ok (.int .i64 b) w := by kernel_rfl
theorem clo_any (m x : Int) (g : Nat) (w : World) (h : w.cell? ⟨g, 0, none⟩ = some (.int .i64 m)) :
    Calls Try.prog 128 #[.int .i64 x, .pointer (some ⟨g, 0, none⟩)] w fun e w' => e = .returned (.bool (decide (x < 0) || decide (m < x))) ∧ Below w.heap.size w w' := by
  go_enter Try.func128, Try.ntmps128
  by_cases h1 : x < 0
  · rw [show (decide (x < 0) || decide (m < x)) = true by simp [h1]]
    go_wp2_with fail
    go_ret
    exact ⟨rfl, Below.refl _ _⟩
  · by_cases h2 : m < x
    · rw [show (decide (x < 0) || decide (m < x)) = true by simp [h2]]
      go_wp2_with fail
      go_ret
      exact ⟨rfl, Below.refl _ _⟩
    · rw [show (decide (x < 0) || decide (m < x)) = false by simp [h1, h2]]
      go_wp2_with fail
      go_ret
      exact ⟨rfl, Below.refl _ _⟩
set_option maxRecDepth 100000 in
theorem upTo_calls (m : Int) (a : Option Addr) (n c : Nat) (L : List Int) (w : World) (hn : n ≤ 1048576) (h : HoldsI w a n L) :
    Calls Try.prog 101 #[.int .i64 m, .slice a n c] w fun e w' => e = .returned (.bool (upTo m L)) ∧ Below w.heap.size w w' := by
  have hb := below_alloc w (.cells #[.int .i64 m] 3)
  have H := Lib.hid (h.below hb)
  have hc : (w.alloc (.cells #[.int .i64 m] 3)).cell? ⟨w.heap.size, 0, none⟩ = some (.int .i64 m) := by
    rw [World.cell?_alloc_mark]
    rfl
  have hlt : w.heap.size < (w.alloc (.cells #[.int .i64 m] 3)).heap.size := by simp
  have HE := Lib.hid (upTo_any m L)
  clear h
  go_enter Try.func101, Try.ntmps101
  go_wp2_with fail
  refine (FuncI.contains_any 128 #[.pointer (some ⟨w.heap.size, 0, none⟩)] (fun x => decide (x < 0) || decide (m < x)) a n c L _ hn H.out (fun args W => FuncI.call_enter Try.func128 (by kernel_rfl) rfl args W) (fun x wr _ hbr => clo_any m x w.heap.size wr ((hbr.cell (p := ⟨w.heap.size, 0, none⟩) hlt).trans hc))).mono ?_
  rintro e w1 ⟨rfl, b1⟩
  have B := Lib.hid (hb.trans (b1.mono hb.size))
  clear hb b1
  cases ha : L.any (fun x => decide (x < 0) || decide (m < x)) with
  | true =>
    have HE2 := Lib.hid (HE.out.trans (by rw [ha]; rfl : _ = false))
    go_wp2_with fail
    go_ret
    exact ⟨by rw [HE2.out]; rfl, B.out⟩
  | false =>
    have HE2 := Lib.hid (HE.out.trans (by rw [ha]; rfl : _ = true))
    go_wp2_with fail
    go_ret
    exact ⟨by rw [HE2.out]; rfl, B.out⟩
set_option maxRecDepth 100000 in
theorem years_any (f : Int) (p : Option Addr) (n c : Nat) (w : World) (h1 : -20000 ≤ f) (h2 : f ≤ 2100) (hn : n ≤ 1048576) :
    Calls Try.prog 89 #[.agg #[.int .i64 f, .slice p n c]] w fun e w' => e = .returned (.agg #[.int .i64 f, .int .i64 (f + n - 1)]) ∧ Below w.heap.size w w' := by
  go_enter Try.func89, Try.ntmps89
  go_wp2_with fail
  try simp only [Exit.inBlock, Exit.then]
  refine bodyPost_ret (v := .agg #[.int .i64 f, .int .i64 (f + n - 1)]) (by simp [results, Try.results89, go_sem]) rfl ⟨rfl, below_alloc2 _ _ _⟩
set_option maxRecDepth 100000 in
set_option maxHeartbeats 4000000 in
theorem valid_any (f : Int) (p : Option Addr) (n c : Nat) (M : List Int) (w : World) (hn : n ≤ 1048576) (h : HoldsI w p n M) :
    Calls Try.prog 56 #[.agg #[.int .i64 f, .slice p n c]] w fun e w' => e = .returned (.bool (okD f M)) ∧ Below w.heap.size w w' := by
  have hb := below_alloc w (.cells #[.int .i64 f, .slice p n c] 50)
  have f1 := box_first w (.int .i64 f) (.slice p n c) 50
  have f2 := box_second w (.int .i64 f) (.slice p n c) 50
  have hlt : w.heap.size < (w.alloc (.cells #[.int .i64 f, .slice p n c] 50)).heap.size := by simp
  have H := Lib.hid (h.below hb)
  have HL := Lib.hid h.1
  have HB := Lib.hid hb
  clear h hb
  obtain ⟨r, hr⟩ : ∃ r, r = okD f M := ⟨_, rfl⟩
  rw [← hr]
  have HR := Lib.hid hr
  clear hr
  go_enter Try.func56, Try.ntmps56
  by_cases h0 : n = 0
  · subst h0
    have HF := Lib.hid (HR.out.trans (okD_not (f := f) (L := M) fun o => by have := o.pos; rw [HL.out] at this; omega))
    go_wp2_with fail
    go_ret
    exact ⟨by rw [HF.out]; rfl, HB.out⟩
  have h0' : ¬ (n : Int) = 0 := by omega
  by_cases h60 : 60 < n
  · have h60' : (60 : Int) < (n : Int) := by omega
    have HF := Lib.hid (HR.out.trans (okD_not (f := f) (L := M) fun o => by have := o.len; rw [HL.out] at this; omega))
    go_wp2_with fail
    go_ret
    exact ⟨by rw [HF.out]; rfl, HB.out⟩
  have h60' : ¬ (60 : Int) < (n : Int) := by omega
  go_wp2_with fail
  generalize w.alloc (.cells #[.int .i64 f, .slice p n c] 50) = W at *
  refine (upTo_calls 1000000 p n c M W hn H.out).mono ?_
  rintro e w1 ⟨rfl, b⟩
  replace f1 := (b.cell (p := ⟨w.heap.size, 0, none⟩) hlt).trans f1
  replace f2 := (b.cell (p := ⟨w.heap.size, 1, none⟩) hlt).trans f2
  replace hlt := Nat.lt_of_lt_of_le hlt b.size
  replace H := Lib.hid (H.out.below b)
  replace HB := Lib.hid (HB.out.trans (b.mono HB.out.size))
  clear b
  cases hu : upTo 1000000 M with
  | false =>
    have HF := Lib.hid (HR.out.trans (okD_not (f := f) (L := M) fun o => by have := o.all; rw [hu] at this; cases this))
    clear hu
    go_wp2_with fail
    go_ret
    exact ⟨by rw [HF.out]; rfl, HB.out⟩
  | true =>
    have HU := Lib.hid hu
    clear hu
    obtain ⟨b, off, x, rfl, hx, e1⟩ := H.out.at 0 (by omega)
    obtain ⟨b', off', y, hbb, hy, e2⟩ := H.out.at (n - 1) (by omega)
    injection hbb with hbb
    injection hbb with hbb hoo
    subst hbb hoo
    rw [Nat.add_zero] at e1
    have hx0 := (upTo_mem HU.out (List.mem_of_getElem? hx)).1
    have hy0 := (upTo_mem HU.out (List.mem_of_getElem? hy)).1
    have gx := Lib.hid (getD_of hx)
    have gy := Lib.hid (getD_of hy)
    clear hx hy
    have hn1 : (n : Int) - 1 = ((n - 1 : Nat) : Int) := by omega
    by_cases hxz : x = 0
    · subst hxz
      have HF := Lib.hid (HR.out.trans (okD_not (f := f) (L := M) fun o => by have := o.fst; rw [gx.out] at this; omega))
      go_wp2_with fail
      go_ret
      exact ⟨by rw [HF.out]; rfl, HB.out⟩
    by_cases hyz : y = 0
    · subst hyz
      have HF := Lib.hid (HR.out.trans (okD_not (f := f) (L := M) fun o => by have := o.lst; rw [HL.out, gy.out] at this; omega))
      go_wp2_with fail
      go_ret
      exact ⟨by rw [HF.out]; rfl, HB.out⟩
    have hxb : (x == 0) = false := by simp [hxz]
    have hyb : (y == 0) = false := by simp [hyz]
    have hxy : (x == 0 || y == 0) = false := by simp [hxz, hyz]
    go_wp2_with fail
    refine (isYear_any f _).mono ?_
    rintro e w2 ⟨rfl, rfl⟩
    cases hf : isY f with
    | false =>
      have HF := Lib.hid (HR.out.trans (okD_not (f := f) (L := M) fun o => by have h1 := o.lo; have h2 := o.hi; rw [HL.out] at h2; rw [isY, decide_eq_true (by omega)] at hf; cases hf))
      clear hf
      go_wp2_with fail
      go_ret
      exact ⟨by rw [HF.out]; rfl, HB.out⟩
    | true =>
      have hfy : -20000 ≤ f ∧ f ≤ 2100 := of_decide_eq_true hf
      obtain ⟨hf1, hf2⟩ := hfy
      clear hf
      go_wp2_with fail
      refine (years_any f _ n c _ hf1 hf2 hn).mono ?_
      rintro e w3 ⟨rfl, b⟩
      replace f1 := (b.cell (p := ⟨w.heap.size, 0, none⟩) hlt).trans f1
      replace f2 := (b.cell (p := ⟨w.heap.size, 1, none⟩) hlt).trans f2
      replace hlt := Nat.lt_of_lt_of_le hlt b.size
      replace H := Lib.hid (H.out.below b)
      replace HB := Lib.hid (HB.out.trans (b.mono HB.out.size))
      clear b e1 e2
      have hfd := fld1 f (f + n - 1)
      go_wp2_with fail
      refine (isYear_any (f + n - 1) _).mono ?_
      rintro e w4 ⟨rfl, rfl⟩
      cases hg : isY (f + n - 1) with
      | false =>
        have HF := Lib.hid (HR.out.trans (okD_not (f := f) (L := M) fun o => by have h1 := o.lo; have h2 := o.hi; rw [HL.out] at h2; rw [isY, decide_eq_true (by omega)] at hg; cases hg))
        clear hg
        go_wp2_with fail
        go_ret
        exact ⟨by rw [HF.out]; rfl, HB.out⟩
      | true =>
        have hgy : -20000 ≤ f + n - 1 ∧ f + n - 1 ≤ 2100 := of_decide_eq_true hg
        clear hg
        go_wp2_with fail
        refine (common_any _ n c M _ hn H.out (fun x hx => (upTo_mem HU.out hx).1)).mono ?_
        rintro e w5 ⟨rfl, b⟩
        replace HB := Lib.hid (HB.out.trans (b.mono HB.out.size))
        clear b f1 f2
        have HF := Lib.hid (show r = decide (dv M = 1) by
          rw [HR.out]
          by_cases h1 : dv M = 1
          · rw [decide_eq_true h1, okD_iff]
            exact ⟨by rw [HL.out]; omega, by rw [HL.out]; omega, HU.out, by rw [gx.out]; omega, by rw [HL.out, gy.out]; omega, hf1, by rw [HL.out]; exact hgy.2, h1⟩
          · rw [decide_eq_false h1]
            exact okD_not fun o => h1 o.one)
        go_wp2_with fail
        go_ret
        exact ⟨by rw [HF.out]; rfl, HB.out⟩
end Go.Proofs.Ytfbgekhkbbhggaa.DvI
