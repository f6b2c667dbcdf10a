/- The program's isYear, isInterval, isDated and isEvidence. -/
import Derived.Test.YtmjhgjlnpnkmkaaEvM
import Derived.Test.YtmjhgjlnpnkmkaaDaG
import Derived.Test.YtmjhgjlnpnkmkaaAvr
namespace Go.Proofs.Ytmjhgjlnpnkmkaa.EvI
open Go.RowKit Pairs Rec RecEq Chain Find2 GoodM Keep GivesI Da DaT DaG EvM Avr
set_option linter.unusedVariables false
theorem isYear_any (y : Int) (w : World) : Calls Try.prog 96 #[.int .i64 y] w fun e w' => e = .returned (.bool (yr y)) ∧ w = w' := by
  by_cases h1 : -20000 ≤ y
  · by_cases h2 : y ≤ 2100
    · have e : yr y = true := by unfold yr; rw [decide_eq_true h1, decide_eq_true h2]; rfl
      rw [e]
      clear e
      go_enter Try.func96, Try.ntmps96
      go_wp2
      go_ret
      exact ⟨rfl, rfl⟩
    · have e : yr y = false := by unfold yr; rw [decide_eq_false h2, Bool.and_false]
      rw [e]
      clear e
      go_enter Try.func96, Try.ntmps96
      go_wp2
      go_ret
      exact ⟨rfl, rfl⟩
  · have e : yr y = false := by unfold yr; rw [decide_eq_false h1]; rfl
    rw [e]
    clear e
    go_enter Try.func96, Try.ntmps96
    go_wp2
    go_ret
    exact ⟨rfl, rfl⟩
set_option maxHeartbeats 1000000 in
theorem isInterval_any (f t : Int) (w : World) : Calls Try.prog 80 #[.agg #[.int .i64 f, .int .i64 t]] w fun e w' => e = .returned (.bool (ivl f t)) ∧ Below w.heap.size w w' := by
  have hb := below_alloc w (.cells #[.int .i64 f, .int .i64 t] 64)
  have f1 := box_first w (.int .i64 f) (.int .i64 t) 64
  have f2 := box_second w (.int .i64 f) (.int .i64 t) 64
  go_enter Try.func80, Try.ntmps80
  go_wp2_with fail
  generalize w.alloc (.cells #[.int .i64 f, .int .i64 t] 64) = W at *
  refine (isYear_any f W).mono ?_
  rintro e w2 ⟨rfl, rfl⟩
  cases hf : yr f with
  | false =>
    have HV := Lib.hid (ivl_f (t := t) hf)
    clear hf
    go_wp2_with fail
    go_ret
    exact ⟨by rw [HV.out]; rfl, hb⟩
  | true =>
    have HF := Lib.hid hf
    clear hf
    go_wp2_with fail
    refine (isYear_any t W).mono ?_
    rintro e w2 ⟨rfl, rfl⟩
    cases ht : yr t with
    | false =>
      have HV := Lib.hid (ivl_t (f := f) ht)
      clear ht
      go_wp2_with fail
      go_ret
      exact ⟨by rw [HV.out]; rfl, hb⟩
    | true =>
      have HV := Lib.hid (ivl_ft HF.out ht)
      clear ht
      by_cases hle : f ≤ t
      · go_wp2_with fail
        go_ret
        exact ⟨by rw [HV.out, decide_eq_true hle]; rfl, hb⟩
      · go_wp2_with fail
        go_ret
        exact ⟨by rw [HV.out]; rfl, hb⟩
set_option maxRecDepth 100000 in
set_option maxHeartbeats 2000000 in
theorem isDated_any (a1 a2 : Option Addr) (n1 c1 n2 c2 : Nat) (l : List (Int × Int)) (x y z : Int) (w : World) (hz : n1 ≤ 1048576) (h : Holds w a1 n1 l) (hA : Asc l) :
    Calls Try.prog 73 #[.agg #[.slice a1 n1 c1, .slice a2 n2 c2], .agg #[.int .i64 x, .int .i64 y, .int .i64 z]] w fun e w' => e = .returned (.bool ((isAt l x).isSome && ivl y z)) ∧ Below w.heap.size w w' := by
  obtain ⟨hlt, f1, f2, hlD, hD, hb0⟩ := boxes23 w (.slice a1 n1 c1) (.slice a2 n2 c2) (.int .i64 x) (.int .i64 y) (.int .i64 z) 33 66
  obtain ⟨d1, d2, d3⟩ := hD
  have H1 := Lib.hid (h.below hb0)
  have HA := Lib.hid hA
  clear h hA
  go_enter Try.func73, Try.ntmps73
  go_wp2_with fail
  generalize (w.alloc (.cells #[.slice a1 n1 c1, .slice a2 n2 c2] 33)).alloc (.cells #[.int .i64 x, .int .i64 y, .int .i64 z] 66) = W at *
  refine (hasContext_any a1 a2 n1 c1 n2 c2 l x W hz H1.out HA.out).mono ?_
  rintro e w2 ⟨rfl, b2⟩
  obtain ⟨e1, e2, e3⟩ := cells_below ⟨hlD, d1, d2, d3⟩ b2
  have HB := Lib.hid (hb0.trans (b2.mono hb0.size))
  clear b2 hb0 f1 f2 d1 d2 d3
  cases hs : (isAt l x).isSome with
  | false =>
    have HS := Lib.hid hs
    clear hs
    go_wp2_with fail
    go_ret
    exact ⟨by rw [HS.out]; rfl, HB.out⟩
  | true =>
    have HS := Lib.hid hs
    clear hs
    go_wp2_with fail
    refine (isInterval_any y z w2).mono ?_
    rintro e w3 ⟨rfl, b3⟩
    have HB3 := Lib.hid (HB.out.trans (b3.mono HB.out.size))
    clear b3 e1 e2 e3
    obtain ⟨bb, hbb⟩ : ∃ bb, ivl y z = bb := ⟨_, rfl⟩
    have HV := Lib.hid hbb
    rw [hbb]
    clear hbb
    go_wp2_with fail
    go_ret
    exact ⟨by rw [HS.out, HV.out]; cases bb <;> rfl, HB3.out⟩
set_option maxRecDepth 100000 in
set_option maxHeartbeats 8000000 in
theorem isEvidence_any (a1 a2 p : Option Addr) (n1 c1 n2 c2 np cp : Nat) (l : List (Int × Int)) (L : List Dt) (w : World) (hz : n1 ≤ 1048576) (hp : np ≤ 1048576) (h : Holds w a1 n1 l) (hA : Asc l) (hL : HoldsD w p np L) :
    Calls Try.prog 53 #[.agg #[.slice a1 n1 c1, .slice a2 n2 c2], .slice p np cp] w fun e w' => e = .returned (.bool (evi l L)) ∧ Below w.heap.size w w' := by
  have hb := below_alloc w (.cells #[.slice a1 n1 c1, .slice a2 n2 c2] 33)
  have hf := box_first w (.slice a1 n1 c1) (.slice a2 n2 c2) 33
  have hf2 := box_second w (.slice a1 n1 c1) (.slice a2 n2 c2) 33
  have hsz : w.heap.size < (w.alloc (.cells #[.slice a1 n1 c1, .slice a2 n2 c2] 33)).heap.size := by simp
  have H1 := Lib.hid (h.below hb)
  have HL := Lib.hid (hL.below hb)
  have HA := Lib.hid hA
  have HB := Lib.hid hb
  have HLL := Lib.hid hL.1
  clear h hA hL hb
  go_enter Try.func53, Try.ntmps53
  go_wp2_with fail
  generalize w.alloc (.cells #[.slice a1 n1 c1, .slice a2 n2 c2] 33) = W at *
  go_loopw [9] (fun i wr => ∃ k : Nat, k ≤ np ∧ i = .int .i64 k ∧ Hid (Below W.heap.size W wr) ∧ Hid (PastE l L k)) (fun i _ => np - (intOf i).toNat)
  case atStart => exact ⟨0, Nat.zero_le _, rfl, Below.refl _ _, fun j hj => absurd hj (by omega)⟩
  case round =>
    obtain ⟨k, hk, rfl, HR, HP⟩ := hrel
    by_cases hlt : k < np
    · obtain ⟨b, off, x, y, z, rfl, hx, e1, e2, e3⟩ := (HL.out.below HR.out).at k hlt
      have hki : (k : Int) < (np : Int) := by omega
      have g1 := (HR.out.cell (p := ⟨w.heap.size, 0, none⟩) hsz).trans hf
      have g2 := (HR.out.cell (p := ⟨w.heap.size, 1, none⟩) hsz).trans hf2
      have hlw : w.heap.size < wr.heap.size := Nat.lt_of_lt_of_le hsz HR.out.size
      have hbn := below_alloc wr (.cells #[.int .i64 x, .int .i64 y, .int .i64 z] 66)
      obtain ⟨⟨u1, u2, u3⟩, _, _, _⟩ := cells3 (box3h wr (.int .i64 x) (.int .i64 y) (.int .i64 z) 66)
      have q1 := (hbn.cell (p := ⟨w.heap.size, 0, none⟩) hlw).trans g1
      have q2 := (hbn.cell (p := ⟨w.heap.size, 1, none⟩) hlw).trans g2
      have HX := Lib.hid hx
      have HBN := Lib.hid (HR.out.trans (hbn.mono HR.out.size))
      have hszn : wr.heap.size < (wr.alloc (.cells #[.int .i64 x, .int .i64 y, .int .i64 z] 66)).heap.size := by simp
      clear hx hbn
      go_wp2_with fail
      generalize wr.alloc (.cells #[.int .i64 x, .int .i64 y, .int .i64 z] 66) = Y at *
      clear e1 e2 e3 g1 g2
      have kx1 := cell_regrown q1
      have kx2 := cell_regrown q2
      have kx3 := cell_regrown u1
      have kx4 := cell_regrown u2
      have kx5 := cell_regrown u3
      have cU : ∀ d os, Calls Try.prog 73 #[.agg #[.slice a1 n1 c1, .slice a2 n2 c2], .agg #[.int .i64 x, .int .i64 y, .int .i64 z]] (Sort.grow (redrawn Y d) os) fun e w'' => e = .returned (.bool ((isAt l x).isSome && ivl y z)) ∧ ∃ p : Regrown, w'' = Sort.grow (redrawn Y p.d) p.os := fun d os => Calls.regrown_of (isDated_any a1 a2 n1 c1 n2 c2 l x y z _ hz ((H1.out.below HBN.out).below (below_regrown Y d os)) HA.out)
      have hke := okE_at (l := l) HX.out
      cases hd : ((isAt l x).isSome && ivl y z) with
      | false =>
        rw [hd] at cU hke
        have HG := Lib.hid (evi_bad (by rw [HLL.out]; exact hlt) hke)
        clear hke hd
        refine wp_region_quiet_below (by kernel_rfl) (by kernel_rfl) ?_
        repeat (go_big_quiet_step ((go_at_call 73; exact cU _ _)))
        refine wpQuiet_nil ?_
        intro _ hw'
        obtain ⟨⟨dq, osq⟩, hw''⟩ := hw'
        subst hw''
        have HBQ := Lib.hid (below_regrown Y dq osq)
        clear kx1 kx2 kx3 kx4 kx5 cU
        generalize Sort.grow (redrawn Y dq) osq = W5 at *
        go_wp2_with fail
        go_ret
        exact ⟨by rw [HG.out]; rfl, HB.out.trans ((HBN.out.trans (HBQ.out.mono HBN.out.size)).mono HB.out.size)⟩
      | true =>
        rw [hd] at cU hke
        rw [Bool.true_and] at hke
        clear hd
        by_cases hk0 : k = 0
        · subst hk0
          rw [asD_zero] at hke
          have HN := Lib.hid (HP.out.next hke)
          clear hke
          have h00 : decide ((0 : Int) < 0) = false := rfl
          refine wp_region_quiet_below (by kernel_rfl) (by kernel_rfl) ?_
          repeat (go_big_quiet_step ((go_at_call 73; exact cU _ _)))
          refine wpQuiet_nil ?_
          intro _ hw'
          obtain ⟨⟨dq, osq⟩, hw''⟩ := hw'
          subst hw''
          have HBQ := Lib.hid (HBN.out.trans ((below_regrown Y dq osq).mono HBN.out.size))
          clear kx1 kx2 kx3 kx4 kx5 cU
          generalize Sort.grow (redrawn Y dq) osq = W5 at *
          go_wp2_with fail
          exact ⟨⟨0 + 1, by omega, by go_num, HBQ, HN⟩, by simp [intOf]; omega⟩
        · obtain ⟨j, rfl⟩ : ∃ j, k = j + 1 := ⟨k - 1, by omega⟩
          obtain ⟨b', off', x', y', z', hbe, hxp, p1, p2, p3⟩ := ((HL.out.below HBN.out)).at j (by omega)
          injection hbe with hbe
          injection hbe with hb1 hb2 hb3
          subst hb1 hb2
          have has := asD_at HX.out (by omega) (by rw [Nat.add_sub_cancel]; exact hxp)
          rw [has] at hke
          have kp1 := cell_regrown p1
          clear hxp p2 p3 has
          have hwj : IntKind.i64.wrap (((j + 1 : Nat) : Int) - 1) = (j : Int) := by rw [IntKind.wrap_i64]; omega
          have hj0 : decide ((0 : Int) < ((j + 1 : Nat) : Int)) = true := by simp <;> omega
          by_cases hlt2 : x' < x
          · have hge : decide (x' ≥ x) = false := by simp; omega
            have hge2 : ¬ x ≤ x' := by omega
            rw [decide_eq_true hlt2] at hke
            have HN := Lib.hid (HP.out.next hke)
            clear hke
            refine wp_region_quiet_below (by kernel_rfl) (by kernel_rfl) ?_
            repeat (go_big_quiet_step ((go_at_call 73; exact cU _ _)))
            refine wpQuiet_nil ?_
            intro _ hw'
            obtain ⟨⟨dq, osq⟩, hw''⟩ := hw'
            subst hw''
            have HBQ := Lib.hid (HBN.out.trans ((below_regrown Y dq osq).mono HBN.out.size))
            clear kx1 kx2 kx3 kx4 kx5 cU kp1 p1
            generalize Sort.grow (redrawn Y dq) osq = W5 at *
            go_wp2_with fail
            exact ⟨⟨j + 1 + 1, by omega, by go_num, HBQ, HN⟩, by simp [intOf]; omega⟩
          · have hge : decide (x' ≥ x) = true := by simp; omega
            have hge2 : x ≤ x' := by omega
            rw [decide_eq_false hlt2] at hke
            have HG := Lib.hid (evi_bad (by rw [HLL.out]; exact hlt) hke)
            clear hke
            refine wp_region_quiet_below (by kernel_rfl) (by kernel_rfl) ?_
            repeat (go_big_quiet_step ((go_at_call 73; exact cU _ _)))
            refine wpQuiet_nil ?_
            intro _ hw'
            obtain ⟨⟨dq, osq⟩, hw''⟩ := hw'
            subst hw''
            have HBQ := Lib.hid (below_regrown Y dq osq)
            clear kx1 kx2 kx3 kx4 kx5 cU kp1 p1
            generalize Sort.grow (redrawn Y dq) osq = W5 at *
            go_wp2_with fail
            go_ret
            exact ⟨by rw [HG.out]; rfl, HB.out.trans ((HBN.out.trans (HBQ.out.mono HBN.out.size)).mono HB.out.size)⟩
    · obtain rfl : k = np := by omega
      have HG := Lib.hid (evi_good (by rw [HLL.out]; exact HP.out))
      have hkk : ¬ (k : Int) < (k : Int) := by omega
      go_wp2_with fail
      go_ret
      exact ⟨by rw [HG.out]; rfl, HB.out.trans (HR.out.mono HB.out.size)⟩
end Go.Proofs.Ytmjhgjlnpnkmkaa.EvI
