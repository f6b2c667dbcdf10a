/- The model's l9Good and IsValidEvidence. -/
import Derived.Test.YtmjhgjlnpnkmkaaEvP
namespace Go.Proofs.Ytmjhgjlnpnkmkaa.EvS
open Go.RowKit Pairs Rec RecEq Chain Find2 GoodM Keep GivesI Da DaT DaG EvM RedS Consist Idx EvP
set_option linter.unusedVariables false
theorem l9Year_any (y : Int) (w : World) : Calls Try.prog 59 #[.int .i64 y] w fun e w' => e = .returned (.bool (yr y)) ∧ w = w' := by
  by_cases h : -20000 ≤ y ∧ y ≤ 2100
  · have e : yr y = true := by unfold yr; rw [decide_eq_true h.1, decide_eq_true h.2]; rfl
    rw [e]
    clear e
    go_enter Try.func59, Try.ntmps59
    go_wp2_with fail
    refine (Good2.l1In_true y (-20000) 2100 h.1 h.2 w).mono ?_
    rintro e w2 ⟨rfl, rfl⟩
    go_wp2
    go_ret
    exact ⟨rfl, rfl⟩
  · have e : yr y = false := by unfold yr; rw [Bool.and_eq_false_iff, decide_eq_false_iff_not, decide_eq_false_iff_not]; omega
    rw [e]
    clear e
    go_enter Try.func59, Try.ntmps59
    go_wp2_with fail
    refine (Good2.l1In_false y (-20000) 2100 h w).mono ?_
    rintro e w2 ⟨rfl, rfl⟩
    go_wp2
    go_ret
    exact ⟨rfl, rfl⟩
set_option maxHeartbeats 1000000 in
theorem l9Interval_any (f t : Int) (w : World) : Calls Try.prog 86 #[.agg #[.int .i64 f, .int .i64 t]] w fun e w' => e = .returned (.bool (ivl f t)) ∧ Below w.heap.size w w' := by
  have hb := below_alloc w (.cells #[.int .i64 f, .int .i64 t] 64)
  have f1 := box_first w (.int .i64 f) (.int .i64 t) 64
  have f2 := box_second w (.int .i64 f) (.int .i64 t) 64
  go_enter Try.func86, Try.ntmps86
  go_wp2_with fail
  generalize w.alloc (.cells #[.int .i64 f, .int .i64 t] 64) = W at *
  refine (l9Year_any f W).mono ?_
  rintro e w2 ⟨rfl, rfl⟩
  cases hf : yr f with
  | false =>
    have HV := Lib.hid (ivl_f (t := t) hf)
    clear hf
    go_wp2_with fail
    go_ret
    exact ⟨by rw [HV.out]; rfl, hb⟩
  | true =>
    have HF := Lib.hid hf
    clear hf
    go_wp2_with fail
    refine (l9Year_any t W).mono ?_
    rintro e w2 ⟨rfl, rfl⟩
    cases ht : yr t with
    | false =>
      have HV := Lib.hid (ivl_t (f := f) ht)
      clear ht
      go_wp2_with fail
      go_ret
      exact ⟨by rw [HV.out]; rfl, hb⟩
    | true =>
      have HV := Lib.hid (ivl_ft HF.out ht)
      clear ht
      by_cases hle : f ≤ t
      · go_wp2_with fail
        go_ret
        exact ⟨by rw [HV.out, decide_eq_true hle]; rfl, hb⟩
      · go_wp2_with fail
        go_ret
        exact ⟨by rw [HV.out]; rfl, hb⟩
set_option maxRecDepth 100000 in
set_option maxHeartbeats 8000000 in
theorem l9Good_any (a1 a2 p : Option Addr) (n1 c1 n2 c2 np cp : Nat) (l m : List (Int × Int)) (L : List Dt) (w : World) (hz1 : n1 ≤ 1048576) (hz2 : n2 ≤ 1048576) (hp : np ≤ 1048576) (h1 : Holds w a1 n1 l) (h2 : Holds w a2 n2 m) (hL : HoldsD w p np L) :
    Calls Try.prog 49 #[.agg #[.slice a1 n1 c1, .slice a2 n2 c2], .slice p np cp] w fun e w' => e = .returned (.bool (evP l m L)) ∧ Below w.heap.size w w' := by
  have hb := below_alloc w (.cells #[.slice a1 n1 c1, .slice a2 n2 c2] 33)
  have hf := box_first w (.slice a1 n1 c1) (.slice a2 n2 c2) 33
  have hf2 := box_second w (.slice a1 n1 c1) (.slice a2 n2 c2) 33
  have hsz : w.heap.size < (w.alloc (.cells #[.slice a1 n1 c1, .slice a2 n2 c2] 33)).heap.size := by simp
  have H1 := Lib.hid (h1.below hb)
  have H2 := Lib.hid (h2.below hb)
  have HL := Lib.hid (hL.below hb)
  have HB := Lib.hid hb
  have HLL := Lib.hid hL.1
  clear h1 h2 hL hb
  go_enter Try.func49, Try.ntmps49
  go_wp2_with fail
  generalize w.alloc (.cells #[.slice a1 n1 c1, .slice a2 n2 c2] 33) = W at *
  refine (l5Good_any a1 a2 n1 c1 n2 c2 l m W H1.out H2.out).mono ?_
  rintro e w1 ⟨rfl, b1⟩
  have r1 := (b1.cell (p := ⟨w.heap.size, 0, none⟩) hsz).trans hf
  have r2 := (b1.cell (p := ⟨w.heap.size, 1, none⟩) hsz).trans hf2
  have HB1 := Lib.hid (HB.out.trans (b1.mono HB.out.size))
  have H11 := Lib.hid (H1.out.below b1)
  have HL1 := Lib.hid (HL.out.below b1)
  have hsz1 := Nat.lt_of_lt_of_le hsz b1.size
  clear b1 hf hf2 H1 H2 HL
  cases hg : (good l m && !cyc l m) with
  | false =>
    have HE : Hid (evP l m L = false) := by unfold Hid evP; rw [hg]; rfl
    clear hg
    go_wp2_with fail
    go_ret
    exact ⟨by rw [HE.out]; rfl, HB1.out⟩
  | true =>
    have HE : Hid (evP l m L = evi l L) := by unfold Hid evP; rw [hg]; rfl
    clear hg
    go_wp2_with fail
    go_loopw [5] (fun i wr => ∃ k : Nat, k ≤ np ∧ i = .int .i64 k ∧ Hid (Below w1.heap.size w1 wr) ∧ Hid (PastE l L k)) (fun i _ => np - (intOf i).toNat)
    case atStart => exact ⟨0, Nat.zero_le _, rfl, Below.refl _ _, fun j hj => absurd hj (by omega)⟩
    case round =>
      obtain ⟨k, hk, rfl, HR, HP⟩ := hrel
      by_cases hlt : k < np
      · obtain ⟨b, off, x, y, z, rfl, hx, e1, e2, e3⟩ := (HL1.out.below HR.out).at k hlt
        have hki : (k : Int) < (np : Int) := by omega
        have q1 := (HR.out.cell (p := ⟨w.heap.size, 0, none⟩) hsz1).trans r1
        have q2 := (HR.out.cell (p := ⟨w.heap.size, 1, none⟩) hsz1).trans r2
        have HX := Lib.hid hx
        clear hx
        go_wp2_with fail
        have kx1 := cell_regrown q1
        have kx2 := cell_regrown q2
        have kx3 := cell_regrown e1
        have kx4 := cell_regrown e2
        have kx5 := cell_regrown e3
        have cU : ∀ d os, Calls Try.prog 85 #[.agg #[.slice a1 n1 c1, .slice a2 n2 c2], .int .i64 x] (Sort.grow (redrawn wr d) os) fun e w'' => e = .returned (.int .i64 (find l x)) ∧ ∃ p : Regrown, w'' = Sort.grow (redrawn wr p.d) p.os := fun d os => Calls.regrown_of (l2Find_any a1 a2 n1 c1 n2 c2 l x _ (by omega) ((H11.out.below HR.out).below (below_regrown wr d os)))
        have cV : ∀ d os, Calls Try.prog 86 #[.agg #[.int .i64 y, .int .i64 z]] (Sort.grow (redrawn wr d) os) fun e w'' => e = .returned (.bool (ivl y z)) ∧ ∃ p : Regrown, w'' = Sort.grow (redrawn wr p.d) p.os := fun d os => Calls.regrown_of (l9Interval_any y z _)
        have hke := okE_at (l := l) HX.out
        cases hia : isAt l x with
        | none =>
          rw [hia] at hke
          rw [find_none hia] at cU
          have HG := Lib.hid (evi_bad (by rw [HLL.out]; exact hlt) hke)
          clear hke hia cV
          refine wp_region_quiet_below (by kernel_rfl) (by kernel_rfl) ?_
          repeat (go_big_quiet_step ((go_at_call 85; exact cU _ _)))
          refine wpQuiet_nil ?_
          intro _ hw'
          obtain ⟨⟨dq, osq⟩, hw''⟩ := hw'
          subst hw''
          have HBQ := Lib.hid (below_regrown wr dq osq)
          clear kx1 kx2 kx3 kx4 kx5 cU e1 e2 e3 q1 q2
          generalize Sort.grow (redrawn wr dq) osq = W5 at *
          go_wp2_with fail
          go_ret
          exact ⟨by rw [HE.out, HG.out]; rfl, HB1.out.trans ((HR.out.trans (HBQ.out.mono HR.out.size)).mono HB1.out.size)⟩
        | some ix =>
          rw [hia] at hke
          rw [find_some hia] at cU
          have hi0 : decide ((ix : Int) < 0) = false := by simp
          have hi1 : ¬ (ix : Int) < 0 := by omega
          clear hia
          cases hd : ivl y z with
          | false =>
            rw [hd] at cV hke
            have HG := Lib.hid (evi_bad (by rw [HLL.out]; exact hlt) hke)
            clear hke hd
            refine wp_region_quiet_below (by kernel_rfl) (by kernel_rfl) ?_
            repeat (go_big_quiet_step (first | (go_at_call 85; exact cU _ _) | (go_at_call 86; exact cV _ _)))
            refine wpQuiet_nil ?_
            intro _ hw'
            obtain ⟨⟨dq, osq⟩, hw''⟩ := hw'
            subst hw''
            have HBQ := Lib.hid (below_regrown wr dq osq)
            clear kx1 kx2 kx3 kx4 kx5 cU cV e1 e2 e3 q1 q2
            generalize Sort.grow (redrawn wr dq) osq = W5 at *
            go_wp2_with fail
            go_ret
            exact ⟨by rw [HE.out, HG.out]; rfl, HB1.out.trans ((HR.out.trans (HBQ.out.mono HR.out.size)).mono HB1.out.size)⟩
          | true =>
            rw [hd] at cV hke
            rw [show ((some ix).isSome && true) = true from rfl, Bool.true_and] at hke
            clear hd
            by_cases hk0 : k = 0
            · have has : asD L k = true := by rw [hk0]; exact asD_zero
              rw [has] at hke
              have HN := Lib.hid (HP.out.next hke)
              have h00 : decide ((0 : Int) < (k : Int)) = false := by rw [hk0]; rfl
              have h02 : decide (0 < k) = false := by rw [hk0]; rfl
              clear hke has hk0
              refine wp_region_quiet_below (by kernel_rfl) (by kernel_rfl) ?_
              repeat (go_big_quiet_step (first | (go_at_call 85; exact cU _ _) | (go_at_call 86; exact cV _ _)))
              refine wpQuiet_nil ?_
              intro _ hw'
              obtain ⟨⟨dq, osq⟩, hw''⟩ := hw'
              subst hw''
              have HBQ := Lib.hid (HR.out.trans ((below_regrown wr dq osq).mono HR.out.size))
              clear kx1 kx2 kx3 kx4 kx5 cU cV e1 e2 e3 q1 q2
              generalize Sort.grow (redrawn wr dq) osq = W5 at *
              go_wp2_with fail
              exact ⟨⟨k + 1, by omega, by go_num, HBQ, HN⟩, by simp [intOf]; omega⟩
            · obtain ⟨j, rfl⟩ : ∃ j, k = j + 1 := ⟨k - 1, by omega⟩
              obtain ⟨b', off', x', y', z', hbe, hxp, p1, p2, p3⟩ := (HL1.out.below HR.out).at j (by omega)
              injection hbe with hbe
              injection hbe with hb1 hb2 hb3
              subst hb1 hb2
              have has := asD_at HX.out (by omega) (by rw [Nat.add_sub_cancel]; exact hxp)
              rw [has] at hke
              have kp1 := cell_regrown p1
              clear hxp p2 p3 has
              have hwj : IntKind.i64.wrap (((j + 1 : Nat) : Int) - 1) = (j : Int) := by rw [IntKind.wrap_i64]; omega
              have hj0 : decide ((0 : Int) < ((j + 1 : Nat) : Int)) = true := by simp <;> omega
              by_cases hlt2 : x' < x
              · have hge : decide (x' ≥ x) = false := by simp; omega
                have hge2 : ¬ x ≤ x' := by omega
                rw [decide_eq_true hlt2] at hke
                have HN := Lib.hid (HP.out.next hke)
                clear hke
                refine wp_region_quiet_below (by kernel_rfl) (by kernel_rfl) ?_
                repeat (go_big_quiet_step (first | (go_at_call 85; exact cU _ _) | (go_at_call 86; exact cV _ _)))
                refine wpQuiet_nil ?_
                intro _ hw'
                obtain ⟨⟨dq, osq⟩, hw''⟩ := hw'
                subst hw''
                have HBQ := Lib.hid (HR.out.trans ((below_regrown wr dq osq).mono HR.out.size))
                clear kx1 kx2 kx3 kx4 kx5 cU cV kp1 p1 e1 e2 e3 q1 q2
                generalize Sort.grow (redrawn wr dq) osq = W5 at *
                go_wp2_with fail
                exact ⟨⟨j + 1 + 1, by omega, by go_num, HBQ, HN⟩, by simp [intOf]; omega⟩
              · have hge : decide (x' ≥ x) = true := by simp; omega
                have hge2 : x ≤ x' := by omega
                rw [decide_eq_false hlt2] at hke
                have HG := Lib.hid (evi_bad (by rw [HLL.out]; exact hlt) hke)
                clear hke
                refine wp_region_quiet_below (by kernel_rfl) (by kernel_rfl) ?_
                repeat (go_big_quiet_step (first | (go_at_call 85; exact cU _ _) | (go_at_call 86; exact cV _ _)))
                refine wpQuiet_nil ?_
                intro _ hw'
                obtain ⟨⟨dq, osq⟩, hw''⟩ := hw'
                subst hw''
                have HBQ := Lib.hid (below_regrown wr dq osq)
                clear kx1 kx2 kx3 kx4 kx5 cU cV kp1 p1 e1 e2 e3 q1 q2
                generalize Sort.grow (redrawn wr dq) osq = W5 at *
                go_wp2_with fail
                go_ret
                exact ⟨by rw [HE.out, HG.out]; rfl, HB1.out.trans ((HR.out.trans (HBQ.out.mono HR.out.size)).mono HB1.out.size)⟩
      · obtain rfl : k = np := by omega
        have HG := Lib.hid (evi_good (by rw [HLL.out]; exact HP.out))
        have hkk : ¬ (k : Int) < (k : Int) := by omega
        go_wp2_with fail
        go_ret
        exact ⟨by rw [HE.out, HG.out]; rfl, HB1.out.trans (HR.out.mono HB1.out.size)⟩
set_option maxHeartbeats 1000000 in
theorem spec_any : Says 14 := by
  intro a1 a2 p n1 c1 n2 c2 np cp l m L w z1 z2 z3 h1 h2 h3
  have hb := below_alloc w (.cells #[.slice a1 n1 c1, .slice a2 n2 c2] 33)
  have hf := box_first w (.slice a1 n1 c1) (.slice a2 n2 c2) 33
  have hf2 := box_second w (.slice a1 n1 c1) (.slice a2 n2 c2) 33
  have H1 := Lib.hid (h1.below hb)
  have H2 := Lib.hid (h2.below hb)
  have H3 := Lib.hid (h3.below hb)
  have HB := Lib.hid hb
  clear h1 h2 h3 hb
  go_enter Try.func14, Try.ntmps14
  go_wp2_with fail
  generalize w.alloc (.cells #[.slice a1 n1 c1, .slice a2 n2 c2] 33) = W at *
  refine (l9Good_any a1 a2 p n1 c1 n2 c2 np cp l m L W z1 z2 z3 H1.out H2.out H3.out).mono ?_
  rintro e w1 ⟨rfl, b1⟩
  have HB1 := Lib.hid (HB.out.trans (b1.mono HB.out.size))
  clear b1
  obtain ⟨bb, hbb⟩ : ∃ bb, evP l m L = bb := ⟨_, rfl⟩
  have HV := Lib.hid hbb
  rw [hbb]
  clear hbb
  go_wp2_with fail
  go_ret
  exact ⟨by rw [HV.out]; rfl, HB1.out⟩
end Go.Proofs.Ytmjhgjlnpnkmkaa.EvS
