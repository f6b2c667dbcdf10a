/- AgreementOf: the mathematics, the program and the model. -/
import Derived.Test.YtlpcgchekhoieaaMsM
import Derived.Lib.QuietBelow
namespace Go.Proofs.Ytlpcgchekhoieaa.Ag
open Go Go.RowKit Pairs Rec Keep GivesI MsM
set_option linter.unusedVariables false
def lo (l : List (Int × Int)) : Int := l.foldl (fun s q => max s (q.1 - 2 * q.2)) 0
def hi (l : List (Int × Int)) : Int := l.foldl (fun s q => min s (q.1 + 2 * q.2)) 60000
theorem lo_take {l : List (Int × Int)} {k : Nat} {x y : Int} (h : l[k]? = some (x, y)) : lo (l.take (k + 1)) = max (lo (l.take k)) (x - 2 * y) := by
  unfold lo
  rw [List.take_add_one, h, List.foldl_append]
  rfl
theorem hi_take {l : List (Int × Int)} {k : Nat} {x y : Int} (h : l[k]? = some (x, y)) : hi (l.take (k + 1)) = min (hi (l.take k)) (x + 2 * y) := by
  unfold hi
  rw [List.take_add_one, h, List.foldl_append]
  rfl
def agP (l : List (Int × Int)) : Int × Int × Bool := if msOK 10 l && decide (lo l ≤ hi l) then (lo l, hi l, true) else (0, 0, false)
theorem agP_bad {l : List (Int × Int)} (h : msOK 10 l = false) : agP l = (0, 0, false) := by unfold agP; rw [h]; rfl
theorem agP_no {l : List (Int × Int)} (h : ¬ lo l ≤ hi l) : agP l = (0, 0, false) := by unfold agP; rw [decide_eq_false h, Bool.and_false]; rfl
theorem agP_yes {l : List (Int × Int)} (h : msOK 10 l = true) (h2 : lo l ≤ hi l) : agP l = (lo l, hi l, true) := by unfold agP; rw [h, decide_eq_true h2]; rfl
def Says (f : FuncId) : Prop := ∀ (p : Option Addr) (n c : Nat) (l : List (Int × Int)) (w : World), n ≤ 1048576 → Holds w p n l → Calls Try.prog f #[.slice p n c] w fun e w' => e = .returned (.tuple #[.int .i64 (agP l).1, .int .i64 (agP l).2.1, .bool (agP l).2.2]) ∧ Below w.heap.size w w'
theorem most_any (a b : Int) (w : World) : Calls Try.prog 77 #[.int .i64 a, .int .i64 b] w fun e w' => e = .returned (.int .i64 (max a b)) ∧ Below w.heap.size w w' := by
  go_enter Try.func77, Try.ntmps77
  by_cases h : a > b
  · have e : max a b = a := by omega
    rw [e]
    clear e
    go_wp2_with fail
    go_ret
    exact ⟨rfl, Below.refl _ _⟩
  · have e : max a b = b := by omega
    rw [e]
    clear e
    go_wp2_with fail
    go_ret
    exact ⟨rfl, Below.refl _ _⟩
theorem least_any (a b : Int) (w : World) : Calls Try.prog 78 #[.int .i64 a, .int .i64 b] w fun e w' => e = .returned (.int .i64 (min a b)) ∧ Below w.heap.size w w' := by
  go_enter Try.func78, Try.ntmps78
  by_cases h : a < b
  · have e : min a b = a := by omega
    rw [e]
    clear e
    go_wp2_with fail
    go_ret
    exact ⟨rfl, Below.refl _ _⟩
  · have e : min a b = b := by omega
    rw [e]
    clear e
    go_wp2_with fail
    go_ret
    exact ⟨rfl, Below.refl _ _⟩
set_option maxRecDepth 100000 in
set_option maxHeartbeats 4000000 in
theorem impl_any : Says 40 := by
  intro p n c l w hn h
  have HL := Lib.hid h.1
  have H := Lib.hid h
  obtain ⟨r, hr⟩ : ∃ r, r = agP l := ⟨_, rfl⟩
  rw [← hr]
  have HR := Lib.hid hr
  clear hr h
  go_enter Try.func40, Try.ntmps40
  go_wp2_with fail
  refine (are_any 10 p n c l w hn H.out).mono ?_
  rintro e w1 ⟨rfl, b⟩
  have HB := Lib.hid b
  clear b
  cases hu : msOK 10 l with
  | false =>
    have HF := Lib.hid (HR.out.trans (agP_bad hu))
    clear hu
    go_wp2_with fail
    go_ret3
    exact ⟨by rw [HF.out]; rfl, HB.out⟩
  | true =>
    have HA := Lib.hid (msOK_iff.1 hu)
    have HU := Lib.hid hu
    clear hu
    go_wp2_with fail
    go_loopw [5, 6, 14] (fun s5 s6 s14 wr => ∃ (k : Nat) (u v : Int), k ≤ n ∧ s14 = .int .i64 k ∧ s5 = .int .i64 u ∧ s6 = .int .i64 v ∧ 0 ≤ u ∧ u ≤ 60000 ∧ 0 ≤ v ∧ v ≤ 60000 ∧ Hid (u = lo (l.take k)) ∧ Hid (v = hi (l.take k)) ∧ Hid (Below w.heap.size w wr)) (fun _ _ s14 _ => n - (intOf s14).toNat)
    case atStart => exact ⟨0, 0, 60000, Nat.zero_le _, rfl, rfl, rfl, by omega, by omega, by omega, by omega, rfl, rfl, HB⟩
    case round =>
      obtain ⟨k, u, v, hk, rfl, rfl, rfl, hu0, hu1, hv0, hv1, HLO, HHI, HW⟩ := hrel
      by_cases hlt : k < n
      · have hkn : (k : Int) < (n : Int) := by omega
        have hk0 : (0 : Int) ≤ (k : Int) := by omega
        obtain ⟨b, off, x, y, rfl, hx, e1, e2⟩ := (H.out.below HW.out).at k hlt
        obtain ⟨⟨hx0, hx1⟩, hy0, hy1⟩ := okM_iff.1 (HA.out.all _ (List.mem_of_getElem? hx))
        have HT1 := Lib.hid (lo_take hx)
        have HT2 := Lib.hid (hi_take hx)
        rw [← HLO.out] at HT1
        rw [← HHI.out] at HT2
        have hbz := below_alloc wr (.cells #[.int .i64 x, .int .i64 y] 45)
        have f1 := box_first wr (.int .i64 x) (.int .i64 y) 45
        have f2 := box_second wr (.int .i64 x) (.int .i64 y) 45
        have HW2 := Lib.hid (HW.out.trans (hbz.mono HW.out.size))
        clear hx hbz
        have hw2 : wrap64 (2 * y) = 2 * y := by unfold wrap64; omega
        have hwd : wrap64 (x - 2 * y) = x - 2 * y := by unfold wrap64; omega
        have hwt : wrap64 (x + 2 * y) = x + 2 * y := by unfold wrap64; omega
        have HG : Hid ((if u < x - 2 * y then x - 2 * y else u) = lo (l.take (k + 1)) ∧ (if x + 2 * y < v then x + 2 * y else v) = hi (l.take (k + 1))) := by
          unfold Hid
          rw [HT1.out, HT2.out]
          constructor
          · split <;> omega
          · split <;> omega
        have hb1 : 0 ≤ (if u < x - 2 * y then x - 2 * y else u) := by split <;> omega
        have hb2 : (if u < x - 2 * y then x - 2 * y else u) ≤ 60000 := by split <;> omega
        have hb3 : 0 ≤ (if x + 2 * y < v then x + 2 * y else v) := by split <;> omega
        have hb4 : (if x + 2 * y < v then x + 2 * y else v) ≤ 60000 := by split <;> omega
        have HBD := Lib.hid (And.intro hb1 (And.intro hb2 (And.intro hb3 hb4)))
        clear hb1 hb2 hb3 hb4
        go_wp2_with fail
        exact ⟨⟨k + 1, _, _, by omega, by go_num, rfl, rfl, HBD.out.1, HBD.out.2.1, HBD.out.2.2.1, HBD.out.2.2.2, HG.out.1, HG.out.2, HW2⟩, by simp [intOf]; omega⟩
      · obtain rfl : k = n := by omega
        have hkn : ¬ (k : Int) < (k : Int) := by omega
        have HE := Lib.hid (show l.take k = l by rw [List.take_of_length_le (by rw [HL.out]; exact Nat.le_refl _)])
        by_cases hq : v < u
        · have HF := Lib.hid (HR.out.trans (agP_no (by rw [← HE.out, ← HLO.out, ← HHI.out]; omega)))
          go_wp2_with fail
          go_ret3
          exact ⟨by rw [HF.out]; rfl, HW.out⟩
        · have HF := Lib.hid (HR.out.trans (agP_yes HU.out (by rw [← HE.out, ← HLO.out, ← HHI.out]; omega)))
          rw [← HE.out, ← HLO.out, ← HHI.out] at HF
          go_wp2_with fail
          go_ret3
          exact ⟨by rw [HF.out]; rfl, HW.out⟩
set_option maxRecDepth 100000 in
set_option maxHeartbeats 4000000 in
theorem spec_any : Says 39 := by
  intro p n c l w hn h
  have HL := Lib.hid h.1
  have H := Lib.hid h
  obtain ⟨r, hr⟩ : ∃ r, r = agP l := ⟨_, rfl⟩
  rw [← hr]
  have HR := Lib.hid hr
  clear hr h
  go_enter Try.func39, Try.ntmps39
  go_wp2_with fail
  refine (list_any p n c l w hn H.out).mono ?_
  rintro e w1 ⟨rfl, b⟩
  have HB := Lib.hid b
  clear b
  cases hu : msOK 10 l with
  | false =>
    have HF := Lib.hid (HR.out.trans (agP_bad hu))
    clear hu
    go_wp2_with fail
    go_ret3
    exact ⟨by rw [HF.out]; rfl, HB.out⟩
  | true =>
    have HA := Lib.hid (msOK_iff.1 hu)
    have HU := Lib.hid hu
    clear hu
    go_wp2_with fail
    go_loopw [5, 6, 7] (fun s5 s6 s7 wr => ∃ (k : Nat) (u v : Int), k ≤ n ∧ s7 = .int .i64 k ∧ s5 = .int .i64 u ∧ s6 = .int .i64 v ∧ 0 ≤ u ∧ u ≤ 60000 ∧ 0 ≤ v ∧ v ≤ 60000 ∧ Hid (u = lo (l.take k)) ∧ Hid (v = hi (l.take k)) ∧ Hid (Below w.heap.size w wr)) (fun _ _ s7 _ => n - (intOf s7).toNat)
    case atStart => exact ⟨0, 0, 60000, Nat.zero_le _, rfl, rfl, rfl, by omega, by omega, by omega, by omega, rfl, rfl, HB⟩
    case round =>
      obtain ⟨k, u, v, hk, rfl, rfl, rfl, hu0, hu1, hv0, hv1, HLO, HHI, HW⟩ := hrel
      by_cases hlt : k < n
      · have hkn : (k : Int) < (n : Int) := by omega
        have hk0 : (0 : Int) ≤ (k : Int) := by omega
        obtain ⟨b, off, x, y, rfl, hx, e1, e2⟩ := (H.out.below HW.out).at k hlt
        obtain ⟨⟨hx0, hx1⟩, hy0, hy1⟩ := okM_iff.1 (HA.out.all _ (List.mem_of_getElem? hx))
        have HT1 := Lib.hid (lo_take hx)
        have HT2 := Lib.hid (hi_take hx)
        rw [← HLO.out] at HT1
        rw [← HHI.out] at HT2
        clear hx
        have hw2 : IntKind.i64.wrap (2 * y) = 2 * y := by rw [IntKind.wrap_i64]; omega
        have hwd : IntKind.i64.wrap (x - 2 * y) = x - 2 * y := by rw [IntKind.wrap_i64]; omega
        have hwt : IntKind.i64.wrap (x + 2 * y) = x + 2 * y := by rw [IntKind.wrap_i64]; omega
        have k1 := cell_regrown e1
        have k2 := cell_regrown e2
        have cU : ∀ d os, Calls Try.prog 77 #[.int .i64 u, .int .i64 (x - 2 * y)] (Sort.grow (redrawn wr d) os) fun e w'' => e = .returned (.int .i64 (max u (x - 2 * y))) ∧ ∃ p : Regrown, w'' = Sort.grow (redrawn wr p.d) p.os := fun d os => Calls.regrown_of (most_any _ _ _)
        go_wp2_with fail
        refine wp_region_quiet_below (by kernel_rfl) (by kernel_rfl) ?_
        repeat (go_big_quiet_step ((go_at_call 77; exact cU _ _)))
        refine wpQuiet_nil ?_
        intro _ hw'
        obtain ⟨⟨dq, osq⟩, hw''⟩ := hw'
        subst hw''
        have hbq := below_regrown wr dq osq
        replace e1 := (hbq.cell (World.block_lt_of_cell? wr _ e1)).trans e1
        replace e2 := (hbq.cell (World.block_lt_of_cell? wr _ e2)).trans e2
        have HW2 := Lib.hid (HW.out.trans (hbq.mono HW.out.size))
        clear k1 k2 cU hbq HW
        generalize Sort.grow (redrawn wr dq) osq = W2 at *
        have k1 := cell_regrown e1
        have k2 := cell_regrown e2
        have cU : ∀ d os, Calls Try.prog 78 #[.int .i64 v, .int .i64 (x + 2 * y)] (Sort.grow (redrawn W2 d) os) fun e w'' => e = .returned (.int .i64 (min v (x + 2 * y))) ∧ ∃ p : Regrown, w'' = Sort.grow (redrawn W2 p.d) p.os := fun d os => Calls.regrown_of (least_any _ _ _)
        go_wp2_with fail
        refine wp_region_quiet_below (by kernel_rfl) (by kernel_rfl) ?_
        repeat (go_big_quiet_step ((go_at_call 78; exact cU _ _)))
        refine wpQuiet_nil ?_
        intro _ hw'
        obtain ⟨⟨dq2, osq2⟩, hw''⟩ := hw'
        subst hw''
        have hbq := below_regrown W2 dq2 osq2
        have HW3 := Lib.hid (HW2.out.trans (hbq.mono HW2.out.size))
        have hm0 : 0 ≤ max u (x - 2 * y) := by omega
        have hm1 : max u (x - 2 * y) ≤ 60000 := by omega
        have hm2 : 0 ≤ min v (x + 2 * y) := by omega
        have hm3 : min v (x + 2 * y) ≤ 60000 := by omega
        clear k1 k2 cU hbq HW2 e1 e2
        generalize max u (x - 2 * y) = u2 at *
        generalize min v (x + 2 * y) = v2 at *
        go_wp2_with fail
        exact ⟨⟨k + 1, _, _, by omega, by go_num, rfl, rfl, hm0, hm1, hm2, hm3, HT1.out.symm, HT2.out.symm, HW3⟩, by simp [intOf]; omega⟩
      · obtain rfl : k = n := by omega
        have hkn : ¬ (k : Int) < (k : Int) := by omega
        have HE := Lib.hid (show l.take k = l by rw [List.take_of_length_le (by rw [HL.out]; exact Nat.le_refl _)])
        by_cases hq : v < u
        · have HF := Lib.hid (HR.out.trans (agP_no (by rw [← HE.out, ← HLO.out, ← HHI.out]; omega)))
          go_wp2_with fail
          go_ret3
          exact ⟨by rw [HF.out]; rfl, HW.out⟩
        · have HF := Lib.hid (HR.out.trans (agP_yes HU.out (by rw [← HE.out, ← HLO.out, ← HHI.out]; omega)))
          rw [← HE.out, ← HLO.out, ← HHI.out] at HF
          go_wp2_with fail
          go_ret3
          exact ⟨by rw [HF.out]; rfl, HW.out⟩
end Go.Proofs.Ytlpcgchekhoieaa.Ag
