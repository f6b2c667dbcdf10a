/- A curve's point in a year: the model's l11Years, l11At and CurveAt. -/
import Derived.Test.YtlpcgchekhoieaaPtI
import Derived.Test.YtlpcgchekhoieaaCvS
namespace Go.Proofs.Ytlpcgchekhoieaa.PtS
open Go Go.RowKit Pairs Rec Keep GivesI Cu CvM PtM TnI PtI
set_option linter.unusedVariables false
set_option maxRecDepth 100000 in
set_option maxHeartbeats 4000000 in
theorem years_any (a : Option Addr) (n c : Nat) (L : List Dt) (y : Int) (w : World) (hn : n ≤ 1048576) (hn1 : 1 ≤ n) (h : HoldsD w a n L) :
    Calls Try.prog 63 #[.slice a n c, .int .i64 y] w fun e w' => e = .returned (.bool (inC L y)) ∧ Below w.heap.size w w' := by
  obtain ⟨m, hm⟩ : ∃ m, n - 1 = m := ⟨_, rfl⟩
  obtain ⟨b, off, x0, y0, z0, rfl, hx0, e1, e2, e3⟩ := h.at 0 (by omega)
  obtain ⟨b1, off1, x1, y1, z1, hb1, hx1, g1, g2, g3⟩ := h.at m (by omega)
  injection hb1 with hb1
  injection hb1 with hb1 ho1
  subst hb1 ho1
  have HE : Hid (inC L y = decide (x0 ≤ y ∧ y ≤ x1)) := by unfold Hid inC; rw [h.1, hm, pt_of hx0, pt_of hx1]
  rw [Nat.zero_mul, Nat.add_zero] at e1
  have hm0 : (0 : Int) ≤ (m : Int) := by omega
  have hmn : (m : Int) < (n : Int) := by omega
  have hn0 : (0 : Int) < (n : Int) := by omega
  have q1 : IntKind.i64.wrap ((n : Int) - 1) = (m : Int) := by rw [IntKind.wrap_i64]; omega
  have k1 := cell_regrown e1
  have k2 := cell_regrown g1
  have cU : ∀ d os, Calls Try.prog 66 #[.int .i64 y, .int .i64 x0, .int .i64 x1] (Sort.grow (redrawn w d) os) fun e w'' => e = .returned (.bool (decide (x0 ≤ y ∧ y ≤ x1))) ∧ ∃ p : Regrown, w'' = Sort.grow (redrawn w p.d) p.os := fun d os => (DvG.l1In_any y x0 x1 _).mono (fun e w' h => ⟨h.1, ⟨⟨d, os⟩, h.2⟩⟩)
  clear h hx0 hx1 hm e1 e2 e3 g1 g2 g3
  rw [HE.out]
  generalize decide (x0 ≤ y ∧ y ≤ x1) = r at *
  go_enter Try.func63, Try.ntmps63
  go_wp2_with fail
  refine wp_region_quiet_below (by kernel_rfl) (by kernel_rfl) ?_
  repeat (go_big_quiet_step ((go_at_call 66; exact cU _ _)))
  refine wpQuiet_nil ?_
  intro _ hw'
  obtain ⟨⟨dq, osq⟩, hw''⟩ := hw'
  subst hw''
  have HB := Lib.hid (below_regrown w dq osq)
  go_wp2_with fail
  go_ret
  exact ⟨rfl, HB.out⟩
set_option maxRecDepth 100000 in
set_option maxHeartbeats 8000000 in
theorem at_any (a : Option Addr) (n c : Nat) (L : List Dt) (y : Int) (w : World) (hn : n ≤ 1048576) (o : OkC L) (hin : inC L y = true) (h : HoldsD w a n L) :
    Calls Try.prog 64 #[.slice a n c, .int .i64 y] w fun e w' => e = .returned (.tuple #[.int .i64 (ptR L y).1.2.1, .int .i64 (ptR L y).1.2.2]) ∧ (ptR L y).2 = true ∧ Below w.heap.size w w' := by
  have O := Lib.hid o
  have HL := Lib.hid h.1
  have H := Lib.hid h
  have hn2 : 2 ≤ n := by have := o.lo; rw [h.1] at this; exact this
  have hn40 : n ≤ 40 := by have := o.len; rw [h.1] at this; exact this
  have HI := Lib.hid (of_decide_eq_true hin)
  rw [HL.out] at HI
  obtain ⟨r, hr⟩ : ∃ r, r = ptR L y := ⟨_, rfl⟩
  rw [← hr]
  have HR := Lib.hid hr
  clear hr h o hin
  have HN0 : Hid (∀ j, 1 ≤ j → j < 1 → (pt L j).1 < y) := fun j h1 h2 => absurd h2 (by omega)
  go_enter Try.func64, Try.ntmps64
  go_wp2_with fail
  go_loopw [6] (fun s6 wr => ∃ i : Nat, 1 ≤ i ∧ i < n ∧ s6 = .int .i64 i ∧ Hid (∀ j, 1 ≤ j → j < i → (pt L j).1 < y) ∧ wr = w) (fun s6 _ => n - (intOf s6).toNat)
  case atStart => exact ⟨1, by omega, by omega, rfl, HN0, rfl⟩
  case round =>
    clear HN0
    obtain ⟨i, hi1, hin, rfl, HS, rfl⟩ := hrel
    have hi0 : (0 : Int) ≤ (i : Int) := by omega
    have hin' : (i : Int) < (n : Int) := by omega
    obtain ⟨b, off, x1, y1, z1, rfl, hx1, g1, g2, g3⟩ := H.out.at i hin
    have HP1 := Lib.hid (pt_of hx1)
    clear hx1
    by_cases hc : x1 < y
    · have HS2 : Hid (∀ j, 1 ≤ j → j < i + 1 → (pt L j).1 < y) := fun j h1 h2 => by
        by_cases e : j = i
        · subst e; rw [HP1.out]; exact hc
        · exact HS.out j h1 (by omega)
      have hlt : i + 1 < n := by
        by_cases e : i = n - 1
        · have h1 := HI.out.2
          rw [← e, HP1.out] at h1
          omega
        · omega
      go_wp2_with fail
      exact ⟨⟨i + 1, by omega, hlt, by go_num, HS2, trivial⟩, by simp [intOf]; omega⟩
    · obtain ⟨k, hk⟩ : ∃ k, i = k + 1 := ⟨i - 1, by omega⟩
      obtain ⟨b1, off1, x0, y0, z0, hb1, hx0, f1, f2, f3⟩ := H.out.at k (by omega)
      injection hb1 with hb1
      injection hb1 with hb1 ho1
      subst hb1 ho1
      have HP0 := Lib.hid (pt_of hx0)
      have HPT := Lib.hid (ptP_at (L := L) (y := y) (i := k) (by rw [HL.out]; omega) HI.out.1 (fun j h1 h2 => HS.out j h1 (by omega)) (by rw [← hk, HP1.out]; omega))
      have o0 := O.out.p (i := k) (by rw [HL.out]; omega)
      have o1 := O.out.p (i := i) (by rw [HL.out]; omega)
      have og := O.out.st k (by rw [HL.out]; omega)
      have hx0y : x0 ≤ y := by
        by_cases e : k = 0
        · subst e; have := HI.out.1; rw [HP0.out] at this; exact this
        · have := HS.out k (by omega) (by omega); rw [HP0.out] at this; exact Int.le_of_lt this
      rw [← hk, HP1.out, HP0.out] at og HPT
      rw [HP0.out] at o0
      rw [HP1.out] at o1
      have HF := Lib.hid (HR.out.trans (ptR_some HPT.out))
      unfold ptB at HF
      simp only at HF og
      obtain ⟨hp1, hp2, hp3⟩ := o0
      obtain ⟨hq1, hq2, hq3⟩ := o1
      simp only at hp1 hp2 hp3 hq1 hq2 hq3
      obtain ⟨u, hu⟩ : ∃ u, y - x0 = u := ⟨_, rfl⟩
      obtain ⟨v, hv⟩ : ∃ v, x1 - x0 = v := ⟨_, rfl⟩
      obtain ⟨da, hda⟩ : ∃ d, y1 - y0 = d := ⟨_, rfl⟩
      obtain ⟨de, hde⟩ : ∃ d, z1 - z0 = d := ⟨_, rfl⟩
      have u1 : IntKind.i64.wrap (y - x0) = u := by rw [IntKind.wrap_i64]; omega
      have u2 : IntKind.i64.wrap (x1 - x0) = v := by rw [IntKind.wrap_i64]; omega
      have u3 : IntKind.i64.wrap (y1 - y0) = da := by rw [IntKind.wrap_i64]; omega
      have u4 : IntKind.i64.wrap (z1 - z0) = de := by rw [IntKind.wrap_i64]; omega
      have ma := mul_bd (a := da) (b := u) (by omega) (by omega) (by omega) (by omega)
      have me := mul_bd (a := de) (b := u) (by omega) (by omega) (by omega) (by omega)
      rw [hu, hv, hda, hde] at HF
      obtain ⟨na, hna⟩ : ∃ d, da * u = d := ⟨_, rfl⟩
      obtain ⟨ne, hne⟩ : ∃ d, de * u = d := ⟨_, rfl⟩
      rw [hna] at ma HF
      rw [hne] at me HF
      have u5 : IntKind.i64.wrap (da * u) = na := by rw [IntKind.wrap_i64]; omega
      have u6 : IntKind.i64.wrap (de * u) = ne := by rw [IntKind.wrap_i64]; omega
      have v1 : 1 ≤ v := by omega
      have v2 : v ≤ 50 := by omega
      have ba := rq_bd ma.1 ma.2 v1
      have be := rq_bd me.1 me.2 v1
      have HCA := Lib.hid (round_any na v ma.1 ma.2 v1 v2)
      have HCE := Lib.hid (round_any ne v me.1 me.2 v1 v2)
      generalize rq na v = ra at *
      generalize rq ne v = re at *
      obtain ⟨A, hA⟩ : ∃ d, y0 + ra = d := ⟨_, rfl⟩
      obtain ⟨E, hE⟩ : ∃ d, z0 + re = d := ⟨_, rfl⟩
      rw [hA, hE] at HF
      have u7 : IntKind.i64.wrap (y0 + ra) = A := by rw [IntKind.wrap_i64]; omega
      have u8 : IntKind.i64.wrap (z0 + re) = E := by rw [IntKind.wrap_i64]; omega
      have w1 : IntKind.i64.wrap ((i : Int) - 1) = (k : Int) := by rw [IntKind.wrap_i64]; omega
      have hk0 : (0 : Int) ≤ (k : Int) := by omega
      have hkn : (k : Int) < (n : Int) := by omega
      clear hA hE hna hne hda hde hu hv ma me ba be v1 v2 hp1 hp2 hp3 hq1 hq2 hq3 hk hx0 og hx0y HPT
      go_upto_region 4 with fail
      go_cut [7, 8] (fun s7 s8 wc => ∃ g7 g8 : Nat, s7 = .pointer (some ⟨g7, 0, none⟩) ∧ s8 = .pointer (some ⟨g8, 0, none⟩) ∧ Hid (B3 wc g7 (x0, y0, z0) ∧ B3 wc g8 (x1, y1, z1) ∧ Below wr.heap.size wr wc))
      case first =>
        go_region_held3 (fun w' => w'.cell? ⟨b, off + k * 3, none⟩ = some (.int .i64 x0) ∧ w'.cell? ⟨b, off + k * 3 + 1, none⟩ = some (.int .i64 y0) ∧ w'.cell? ⟨b, off + k * 3 + 2, none⟩ = some (.int .i64 z0) ∧ w'.cell? ⟨b, off + i * 3, none⟩ = some (.int .i64 x1) ∧ w'.cell? ⟨b, off + i * 3 + 1, none⟩ = some (.int .i64 y1) ∧ w'.cell? ⟨b, off + i * 3 + 2, none⟩ = some (.int .i64 z1))
          (first | go_keep | (exact ⟨by assumption, by assumption, by assumption, by assumption, by assumption, by assumption⟩))
          (fail)
        all_goals go_wp2_with fail
        all_goals go_meet
        all_goals first | exact ⟨_, _, rfl, rfl, twoA wr (x0, y0, z0) (x1, y1, z1) _⟩ | exact ⟨_, _, rfl, rfl, twoB wr (x0, y0, z0) (x1, y1, z1) _⟩
      case rest =>
        obtain ⟨g7, g8, rfl, rfl, HC⟩ := hcut
        clear f1 f2 f3 g1 g2 g3
        have HBC := Lib.hid HC.out.2.2
        obtain ⟨a0, a1, a2, -⟩ := HC.out.1
        obtain ⟨b0, b1, b2, -⟩ := HC.out.2.1
        simp only at a0 a1 a2 b0 b1 b2
        clear HC w1
        have k1 := cell_regrown a0
        have k2 := cell_regrown b0
        go_wp2_with fail
        refine wp_region_quiet_below (by kernel_rfl) (by kernel_rfl) ?_
        repeat (go_big_quiet_step (fail))
        refine wpQuiet_nil ?_
        intro _ hw'
        obtain ⟨⟨dq, osq⟩, hw''⟩ := hw'
        subst hw''
        have hbq := below_regrown wc dq osq
        replace a1 := (hbq.cell (World.block_lt_of_cell? wc _ a1)).trans a1
        replace a2 := (hbq.cell (World.block_lt_of_cell? wc _ a2)).trans a2
        replace b1 := (hbq.cell (World.block_lt_of_cell? wc _ b1)).trans b1
        replace b2 := (hbq.cell (World.block_lt_of_cell? wc _ b2)).trans b2
        replace HBC := Lib.hid (HBC.out.trans (hbq.mono HBC.out.size))
        clear k1 k2 hbq a0 b0
        generalize Sort.grow (redrawn wc dq) osq = W2 at *
        have k1 := cell_regrown a1
        have k2 := cell_regrown a2
        have k3 := cell_regrown b1
        have k4 := cell_regrown b2
        have cA : ∀ d os, Calls Try.prog 99 #[.int .i64 na, .int .i64 v] (Sort.grow (redrawn W2 d) os) fun e w'' => e = .returned (.int .i64 ra) ∧ ∃ p : Regrown, w'' = Sort.grow (redrawn W2 p.d) p.os := fun d os => (HCA.out _).mono (fun e w' h => ⟨h.1, ⟨⟨d, os⟩, h.2⟩⟩)
        have cE : ∀ d os, Calls Try.prog 99 #[.int .i64 ne, .int .i64 v] (Sort.grow (redrawn W2 d) os) fun e w'' => e = .returned (.int .i64 re) ∧ ∃ p : Regrown, w'' = Sort.grow (redrawn W2 p.d) p.os := fun d os => (HCE.out _).mono (fun e w' h => ⟨h.1, ⟨⟨d, os⟩, h.2⟩⟩)
        go_wp2_with fail
        refine wp_region_quiet_below (by kernel_rfl) (by kernel_rfl) ?_
        repeat (go_big_quiet_step ((go_at_call 99; (first | with_reducible exact cA _ _ | with_reducible exact cE _ _))))
        refine wpQuiet_nil ?_
        intro _ hw'
        obtain ⟨⟨dq2, osq2⟩, hw''⟩ := hw'
        subst hw''
        have hbq := below_regrown W2 dq2 osq2
        replace HBC := Lib.hid (HBC.out.trans (hbq.mono HBC.out.size))
        clear k1 k2 k3 k4 cA cE hbq a1 a2 b1 b2
        go_wp2_with fail
        go_ret2
        exact ⟨by rw [HF.out]; rfl, by rw [HF.out], HBC.out⟩
theorem ptR_out {L : List Dt} {y : Int} (o : OkC L) (h : inC L y = false) : ptR L y = ((0, 0, 0), false) := ptR_none (ptP_out o h)
set_option maxRecDepth 100000 in
set_option maxHeartbeats 4000000 in
theorem spec_any : PtI.Says 19 := by
  intro a n L y w hn h
  have H := Lib.hid h
  have HL := Lib.hid h.1
  obtain ⟨r, hr⟩ : ∃ r, r = caP L y := ⟨_, rfl⟩
  rw [← hr]
  have HR := Lib.hid hr
  clear hr h
  go_enter Try.func19, Try.ntmps19
  go_wp2_with fail
  refine (CvS.good_any a n n L w hn H.out).mono ?_
  rintro e w1 ⟨rfl, b⟩
  replace H := Lib.hid (H.out.below b)
  have HB := Lib.hid b
  clear b
  cases hu : cv L with
  | false =>
    have HF := Lib.hid (HR.out.trans (caP_bad hu))
    clear hu
    go_wp2_with fail
    go_ret3
    exact ⟨by rw [HF.out]; rfl, HB.out⟩
  | true =>
    have O := Lib.hid (cv_iff.1 hu)
    have HF := Lib.hid (HR.out.trans (caP_yes (y := y) hu))
    have hn2 : 1 ≤ n := by have := O.out.lo; rw [HL.out] at this; omega
    clear hu HR
    go_wp2_with fail
    refine (years_any a n n L y w1 hn hn2 H.out).mono ?_
    rintro e w2 ⟨rfl, b⟩
    replace H := Lib.hid (H.out.below b)
    replace HB := Lib.hid (HB.out.trans (b.mono HB.out.size))
    clear b
    cases hi : inC L y with
    | false =>
      rw [ptR_out O.out hi] at HF
      clear hi
      go_wp2_with fail
      go_ret3
      exact ⟨by rw [HF.out]; rfl, HB.out⟩
    | true =>
      have HC := Lib.hid (at_any a n n L y w2 hn O.out hi H.out)
      generalize ptR L y = p at *
      obtain ⟨⟨x, u, v⟩, ok⟩ := p
      simp only at HC HF
      clear hi
      go_wp2_with fail
      refine HC.out.mono ?_
      rintro e w3 ⟨rfl, rfl, b⟩
      replace HB := Lib.hid (HB.out.trans (b.mono HB.out.size))
      clear b
      go_wp2_with fail
      go_ret3
      exact ⟨by rw [HF.out]; rfl, HB.out⟩
end Go.Proofs.Ytlpcgchekhoieaa.PtS
