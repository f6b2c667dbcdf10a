/- The model's l7Good. -/
import Derived.Test.YtbdplgcdnpcnfaaExactOrderPhasesSaidPartar
import Derived.Test.YtbdplgcdnpcnfaaExactOrderPhasesSaidPartat
import Derived.Lib.QuietBelow
namespace Go.Proofs.Ytbdplgcdnpcnfaa.GpS
open Go.RowKit Pairs Rec RecEq Keep GivesI Chain Find2 GoodM Ph GpM GpB GpC GpI
theorem rs_of {l m : Ps} {M : List Int} (hg : good l m = true) (h : MbP l M) : Rs M M.length := fun i x hi hx => by
  obtain ⟨k, hk⟩ := Option.isSome_iff_exists.1 (isAt_keys.2 (h.2.2 x (List.mem_of_getElem? hx)))
  refine ⟨IsLater.rng_at hg hk, fun y h0 hy => ?_⟩
  obtain ⟨j, rfl⟩ : ∃ j, i = j + 1 := ⟨i - 1, by omega⟩
  rw [Nat.add_sub_cancel] at hy
  exact h.2.1 j y x hy hx
theorem bad_name {l : Ps} {L : List Pt} {k : Nat} {s : ByteArray} {M : List Int} (hx : L[k]? = some (s, M)) (h : nm s = false) : gp l L = false :=
  gp_bad hx fun o => by have := nm_yes o.1; rw [h] at this; cases this
theorem bad_len {l : Ps} {L : List Pt} {k : Nat} {s : ByteArray} {M : List Int} (hx : L[k]? = some (s, M)) (h : M.length = 0) : gp l L = false :=
  gp_bad hx fun o => o.2.1.1 (List.length_eq_zero_iff.1 h)
theorem bad_rise {l m : Ps} {L : List Pt} {k : Nat} {s : ByteArray} {M : List Int} (hg : good l m = true) (hx : L[k]? = some (s, M)) (h : rs M = false) : gp l L = false :=
  gp_bad hx fun o => by have := rs_yes (rs_of hg o.2.1); rw [h] at this; cases this
theorem bad_twin {l : Ps} {L : List Pt} {k j : Nat} {s : ByteArray} {M : List Int} {y : Pt} (hx : L[k]? = some (s, M)) (hj : j < k) (hy : L[j]? = some y) (h : y.1 = s) : gp l L = false :=
  gp_bad hx fun o => (colT.1 o.2.2 j y hj hy).1 h
theorem bad_key {l : Ps} {L : List Pt} {k : Nat} {s : ByteArray} {M : List Int} {z : Int} (hx : L[k]? = some (s, M)) (hz : z ∈ M) (h : isAt l z = none) : gp l L = false :=
  gp_bad hx fun o => by have := isAt_keys.2 (o.2.1.2.2 z hz); rw [h] at this; cases this
theorem bad_place {l : Ps} {L : List Pt} {k : Nat} {s : ByteArray} {M : List Int} {z : Int} (hx : L[k]? = some (s, M)) (hz : z ∈ M) (h : ¬ phs L z = (k : Int)) : gp l L = false :=
  gp_bad hx fun o => h ((phs_is hx hz).2 fun j y hj hy => (colT.1 o.2.2 j y hj hy).2 z hz)
theorem ok_of {l : Ps} {L : List Pt} {k : Nat} {s : ByteArray} {M : List Int} (hx : L[k]? = some (s, M)) (h1 : nm s = true) (h2 : ¬ M.length = 0) (h3 : rs M = true) (h4 : ∀ j y, j < k → L[j]? = some y → y.1 ≠ s) (h5 : ∀ i z, i < M.length → M[i]? = some z → (∃ t, isAt l z = some t) ∧ phs L z = (k : Int)) : OkP l L k (s, M) := by
  have hm : ∀ z ∈ M, (∃ t, isAt l z = some t) ∧ phs L z = (k : Int) := fun z hz => by
    obtain ⟨i, hi, e⟩ := List.getElem_of_mem hz
    exact h5 i z hi (by rw [List.getElem?_eq_getElem hi, e])
  refine ⟨nm_iff.1 h1, ⟨fun e => h2 (by have e2 : M = [] := e; rw [e2]; rfl), fun i x y hx hy => ?_, fun z hz => isAt_keys.1 (by obtain ⟨t, ht⟩ := (hm z hz).1; rw [ht]; rfl)⟩, colT.2 fun j y hj hy => ⟨h4 j y hj hy, fun z hz => (phs_is hx hz).1 (hm z hz).2 j y hj hy⟩⟩
  exact ((rs_iff.1 h3) (i + 1) y (List.getElem?_eq_some_iff.1 hy).1 hy).2 x (by omega) (by rw [Nat.add_sub_cancel]; exact hx)
set_option maxRecDepth 100000 in
set_option maxHeartbeats 16000000 in
theorem l7Good_any (a1 a2 : Option Addr) (n1 c1 n2 c2 : Nat) (l m : Ps) (p : Option Addr) (n c : Nat) (L : List Pt) (w : World) (hz1 : n1 ≤ 1048576) (hnz : n ≤ 1048576) (hS : Sm L 1048576) (h1 : Holds w a1 n1 l) (h2 : Holds w a2 n2 m) (h : HoldsP w p n L) :
    Calls Try.prog 32 #[.agg #[.slice a1 n1 c1, .slice a2 n2 c2], .slice p n c] w fun e w' => e = .returned (.bool (grp l m L)) ∧ Below w.heap.size w w' := by
  have hb := below_alloc w (.cells #[.slice a1 n1 c1, .slice a2 n2 c2] 33)
  have hf := box_first w (.slice a1 n1 c1) (.slice a2 n2 c2) 33
  have hf2 := box_second w (.slice a1 n1 c1) (.slice a2 n2 c2) 33
  have hsz : w.heap.size < (w.alloc (.cells #[.slice a1 n1 c1, .slice a2 n2 c2] 33)).heap.size := by simp
  have H1 := Lib.hid (h1.below hb)
  have H2 := Lib.hid (h2.below hb)
  have HH := Lib.hid (h.below hb)
  have HL := Lib.hid h.1
  have HS := Lib.hid hS
  have HB := Lib.hid hb
  clear h h1 h2 hS hb
  go_enter Try.func32, Try.ntmps32
  go_wp2_with fail
  generalize w.alloc (.cells #[.slice a1 n1 c1, .slice a2 n2 c2] 33) = W at *
  refine (RedS.l5Good_any a1 a2 n1 c1 n2 c2 l m W H1.out H2.out).mono ?_
  rintro e w1 ⟨rfl, b1⟩
  have g1 := (b1.cell (p := ⟨w.heap.size, 0, none⟩) hsz).trans hf
  have g2 := (b1.cell (p := ⟨w.heap.size, 1, none⟩) hsz).trans hf2
  have hsz1 := Nat.lt_of_lt_of_le hsz b1.size
  have HB1 := Lib.hid (HB.out.trans (b1.mono HB.out.size))
  have K1 := Lib.hid (H1.out.below b1)
  have KH := Lib.hid (HH.out.below b1)
  clear b1 hf hf2 H1 H2 HH
  have hgr : grp l m L = ((good l m && !RedS.cyc l m) && gp l L) := rfl
  cases hgc : good l m && !RedS.cyc l m with
  | false =>
    have HG : Hid (grp l m L = false) := by unfold Hid; rw [hgr, hgc]; rfl
    clear hgr hgc
    go_wp2_with fail
    go_ret
    exact ⟨by rw [HG.out]; rfl, HB1.out⟩
  | true =>
    have HGE : Hid (grp l m L = gp l L) := by unfold Hid; rw [hgr, hgc]; rfl
    have HGD : Hid (good l m = true) := by
      unfold Hid
      cases hg : good l m with
      | true => rfl
      | false => rw [hg] at hgc; cases hgc
    clear hgr hgc
    by_cases h6 : n ≤ 6
    · have h6' : ¬ (6 : Int) < (n : Int) := by omega
      have F1 := Lib.hid g1
      have F2 := Lib.hid g2
      go_wp2_with fail
      clear g1 g2
      go_loopw [5] (fun s5 wr => ∃ k : Nat, k ≤ n ∧ s5 = .int .i64 k ∧ Hid (∀ i x, i < k → L[i]? = some x → OkP l L i x) ∧ Hid (Below w1.heap.size w1 wr)) (fun s5 _ => n - (intOf s5).toNat)
      case atStart => exact ⟨0, Nat.zero_le _, rfl, fun i x h => by omega, Below.refl _ _⟩
      case round =>
        obtain ⟨k, hk, rfl, HP, HR⟩ := hrel
        by_cases hlt : k < n
        · obtain ⟨b, off, s, M, pp, j, d, rfl, hx, e1, e2, hM⟩ := (KH.out.below HR.out).at k hlt
          have hsm := HS.out _ (List.mem_of_getElem? hx)
          have HJ := Lib.hid hM.1
          have hj : j ≤ 1048576 := by
            have h1 := hsm.2
            have h2 := hM.1
            simp only at h1
            omega
          have hss : s.size ≤ 1048576 := hsm.1
          have HX := Lib.hid hx
          have hki : (k : Int) < (n : Int) := by omega
          have hk0 : (0 : Int) ≤ (k : Int) := by omega
          have hb7 := below_alloc wr (.cells #[.string s, .slice pp j d] 57)
          have u1 := box_first wr (.string s) (.slice pp j d) 57
          have u2 := box_second wr (.string s) (.slice pp j d) 57
          have hlw : w.heap.size < wr.heap.size := Nat.lt_of_lt_of_le hsz1 HR.out.size
          have hltb : wr.heap.size < (wr.alloc (.cells #[.string s, .slice pp j d] 57)).heap.size := by simp
          have hbW := HR.out.trans (hb7.mono HR.out.size)
          have HM := Lib.hid (hM.below hb7)
          have HB7 := Lib.hid hbW
          have HBE7 := Lib.hid (HB1.out.trans (hbW.mono HB1.out.size))
          clear hx hsm hM hb7 hbW
          cases hn : nm s with
          | false =>
            have HG := Lib.hid (bad_name (l := l) HX.out hn)
            have HN := Lib.hid hn
            clear hn
            go_wp2_with (go_at_call 63; refine (GpA.l7Name_any s hss _).mono ?_; rw [HN.out]; rintro e w' ⟨rfl, rfl⟩)
            go_ret
            exact ⟨by rw [HGE.out, HG.out]; rfl, HBE7.out⟩
          | true =>
            have HN := Lib.hid hn
            clear hn
            by_cases hj0 : j = 0
            · have HG := Lib.hid (bad_len (l := l) HX.out (by rw [HJ.out]; exact hj0))
              subst hj0
              go_wp2_with (go_at_call 63; refine (GpA.l7Name_any s hss _).mono ?_; rw [HN.out]; rintro e w' ⟨rfl, rfl⟩)
              go_ret
              exact ⟨by rw [HGE.out, HG.out]; rfl, HBE7.out⟩
            · have hji : ¬ (j : Int) = 0 := by omega
              have hjb : ((j : Int) == 0) = false := by rw [beq_eq_false_iff_ne]; exact hji
              have U1 := Lib.hid u1
              have U2 := Lib.hid u2
              go_wp2_with (go_at_call 63; refine (GpA.l7Name_any s hss _).mono ?_; rw [HN.out]; rintro e w' ⟨rfl, rfl⟩)
              clear e1 e2 u1 u2 hjb hji
              generalize wr.alloc (.cells #[.string s, .slice pp j d] 57) = Z at *
              refine (l1Rising_any pp j d M hj Z HM.out).mono ?_
              rintro e w2 ⟨rfl, b2⟩
              have HB2 := Lib.hid (HB7.out.trans (b2.mono HB7.out.size))
              have HBE2 := Lib.hid (HB1.out.trans (HB2.out.mono HB1.out.size))
              have V1 := Lib.hid ((b2.cell (p := ⟨wr.heap.size, 0, none⟩) hltb).trans U1.out)
              have V2 := Lib.hid ((b2.cell (p := ⟨wr.heap.size, 1, none⟩) hltb).trans U2.out)
              have HM2 := Lib.hid (HM.out.below b2)
              have KH2 := Lib.hid (KH.out.below HB2.out)
              have hltb2 := Nat.lt_of_lt_of_le hltb b2.size
              clear b2 U1 U2
              cases hr : rs M with
              | false =>
                have HG := Lib.hid (bad_rise HGD.out HX.out hr)
                clear hr
                go_wp2_with fail
                go_ret
                exact ⟨by rw [HGE.out, HG.out]; rfl, HBE2.out⟩
              | true =>
                have HRS := Lib.hid hr
                clear hr
                go_wp2_with fail
                go_loopw [7] (fun s7 wq => ∃ q : Nat, q ≤ k ∧ s7 = .int .i64 q ∧ Hid (∀ i y, i < q → L[i]? = some y → y.1 ≠ s) ∧ Hid (Below w2.heap.size w2 wq)) (fun s7 _ => k - (intOf s7).toNat)
                case atStart => exact ⟨0, Nat.zero_le _, rfl, fun i x h => by omega, Below.refl _ _⟩
                case round =>
                  rename World => wq
                  obtain ⟨q, hq, rfl, HQ, HRq⟩ := hrel
                  by_cases hqk : q < k
                  · obtain ⟨b3, off3, s3, M3, p3, j3, d3, hb3, hx3, e3, e4, hM3⟩ := (KH2.out.below HRq.out).at q (by omega)
                    injection hb3 with hb3
                    injection hb3 with hb31 hb32
                    subst hb31 hb32
                    have f1 := (HRq.out.cell (p := ⟨wr.heap.size, 0, none⟩) hltb2).trans V1.out
                    have X3 := Lib.hid hx3
                    have hqi : (q : Int) < (k : Int) := by omega
                    have hqn : (q : Int) < (n : Int) := by omega
                    have hq0 : (0 : Int) ≤ (q : Int) := by omega
                    clear hx3 hM3 e4
                    by_cases hss3 : s3 = s
                    · subst hss3
                      have HG := Lib.hid (bad_twin (l := l) HX.out hqk X3.out rfl)
                      have HBE := Lib.hid (HBE2.out.trans (HRq.out.mono HBE2.out.size))
                      go_wp2_with fail
                      go_quiet (fail)
                      go_wp2_with fail
                      go_ret
                      exact ⟨by rw [HGE.out, HG.out]; rfl, HBE.out.trans ((Joins.below_draws _ _ _).mono HBE.out.size)⟩
                    · have hne := GpA.str_ne hss3
                      have HQ2 : Hid (∀ i y, i < q + 1 → L[i]? = some y → y.1 ≠ s) := fun i y hi hy => by
                        by_cases e : i = q
                        · subst e
                          have h2 := X3.out
                          rw [hy] at h2
                          injection h2 with h2
                          rw [h2]
                          exact hss3
                        · exact HQ.out i y (by omega) hy
                      clear hss3
                      go_wp2_with fail
                      go_quiet (fail)
                      go_wp2_with fail
                      exact ⟨⟨q + 1, by omega, by go_num, HQ2, HRq.out.trans ((Joins.below_draws _ _ _).mono HRq.out.size)⟩, by simp [intOf]; omega⟩
                  · obtain rfl : q = k := by omega
                    have hqi : ¬ (q : Int) < (q : Int) := by omega
                    have HBq := Lib.hid (HB2.out.trans (HRq.out.mono HB2.out.size))
                    have W1 := Lib.hid ((HRq.out.cell (p := ⟨wr.heap.size, 0, none⟩) hltb2).trans V1.out)
                    have W2 := Lib.hid ((HRq.out.cell (p := ⟨wr.heap.size, 1, none⟩) hltb2).trans V2.out)
                    have HMq := Lib.hid (HM2.out.below HRq.out)
                    have hltq := Nat.lt_of_lt_of_le hltb2 HRq.out.size
                    go_wp2_with fail
                    go_loopw [8] (fun s8 wt => ∃ t : Nat, t ≤ j ∧ s8 = .int .i64 t ∧ Hid (∀ i z, i < t → M[i]? = some z → (∃ t, isAt l z = some t) ∧ phs L z = (q : Int)) ∧ Hid (Below wq.heap.size wq wt)) (fun s8 _ => j - (intOf s8).toNat)
                    case atStart => exact ⟨0, Nat.zero_le _, rfl, fun i x h => by omega, Below.refl _ _⟩
                    case round =>
                      rename World => wt
                      obtain ⟨t, ht, rfl, HT, HRt⟩ := hrel
                      have f1 := (HRt.out.cell (p := ⟨wr.heap.size, 0, none⟩) hltq).trans W1.out
                      have f2 := (HRt.out.cell (p := ⟨wr.heap.size, 1, none⟩) hltq).trans W2.out
                      have hBt := HBq.out.trans (HRt.out.mono HBq.out.size)
                      have r1 := (hBt.cell (p := ⟨w.heap.size, 0, none⟩) hsz1).trans F1.out
                      have r2 := (hBt.cell (p := ⟨w.heap.size, 1, none⟩) hsz1).trans F2.out
                      have K1t := Lib.hid (K1.out.below hBt)
                      have KHt := Lib.hid (KH.out.below hBt)
                      have HBt := Lib.hid hBt
                      clear hBt
                      by_cases htj : t < j
                      · obtain ⟨b4, off4, z, rfl, hz, e5⟩ := (HMq.out.below HRt.out).at t htj
                        have HZ := Lib.hid hz
                        have hti : (t : Int) < (j : Int) := by omega
                        have ht0 : (0 : Int) ≤ (t : Int) := by omega
                        have k1 := cell_regrown f1
                        have k2 := cell_regrown f2
                        have k3 := cell_regrown r1
                        have k4 := cell_regrown r2
                        have k5 := cell_regrown e5
                        clear hz
                        cases ha : isAt l z with
                        | none =>
                          have HG := Lib.hid (bad_key HX.out (List.mem_of_getElem? HZ.out) ha)
                          have HF := Lib.hid (find_none ha)
                          have cU : ∀ d os, Calls Try.prog 41 #[.agg #[.slice a1 n1 c1, .slice a2 n2 c2], .int .i64 z] (Sort.grow (redrawn wt d) os) fun e w'' => e = .returned (.int .i64 (-1)) ∧ ∃ p : Regrown, w'' = Sort.grow (redrawn wt p.d) p.os := fun d os => Calls.regrown_of (by rw [← HF.out]; exact l2Find_any a1 a2 n1 c1 n2 c2 l z _ (by omega) (K1t.out.below (below_regrown wt d os)))
                          have HBE := Lib.hid (HB1.out.trans (HBt.out.mono HB1.out.size))
                          clear ha
                          go_wp2_with fail
                          refine wp_region_quiet_below (by kernel_rfl) (by kernel_rfl) ?_
                          repeat (go_big_quiet_step (first | (go_at_call 41; exact cU _ _)))
                          refine wpQuiet_nil ?_
                          intro _ hw'
                          obtain ⟨⟨dq, osq⟩, hw''⟩ := hw'
                          subst hw''
                          have hbq := below_regrown wt dq osq
                          have HBF := Lib.hid (HBE.out.trans (hbq.mono HBE.out.size))
                          clear k1 k2 k3 k4 k5 cU hbq
                          go_wp2_with fail
                          go_ret
                          exact ⟨by rw [HGE.out, HG.out]; rfl, HBF.out⟩
                        | some i0 =>
                          have HI0 := Lib.hid ha
                          have HF := Lib.hid (find_some ha)
                          have hi0 : ¬ (i0 : Int) < 0 := by omega
                          have hi0b : decide ((i0 : Int) < 0) = false := decide_eq_false hi0
                          have cU : ∀ d os, Calls Try.prog 41 #[.agg #[.slice a1 n1 c1, .slice a2 n2 c2], .int .i64 z] (Sort.grow (redrawn wt d) os) fun e w'' => e = .returned (.int .i64 (i0 : Int)) ∧ ∃ p : Regrown, w'' = Sort.grow (redrawn wt p.d) p.os := fun d os => Calls.regrown_of (by rw [← HF.out]; exact l2Find_any a1 a2 n1 c1 n2 c2 l z _ (by omega) (K1t.out.below (below_regrown wt d os)))
                          clear ha
                          by_cases hph : phs L z = (q : Int)
                          · have HT2 : Hid (∀ i z, i < t + 1 → M[i]? = some z → (∃ t, isAt l z = some t) ∧ phs L z = (q : Int)) := fun i y hi hy => by
                              by_cases e : i = t
                              · subst e
                                have h2 := HZ.out
                                rw [hy] at h2
                                injection h2 with h2
                                rw [h2]
                                exact ⟨⟨i0, HI0.out⟩, hph⟩
                              · exact HT.out i y (by omega) hy
                            have HPH := Lib.hid hph
                            have cP : ∀ d os, Calls Try.prog 42 #[.slice (some ⟨b, off, none⟩) n c, .int .i64 z] (Sort.grow (redrawn wt d) os) fun e w'' => e = .returned (.int .i64 (q : Int)) ∧ ∃ p : Regrown, w'' = Sort.grow (redrawn wt p.d) p.os := fun d os => Calls.regrown_of (by rw [← HPH.out]; exact (l7Phase_any _ n c L z hnz HS.out _ (KHt.out.below (below_regrown wt d os))).mono fun e w'' ⟨h1, h2⟩ => ⟨h1, by rw [h2]; exact Below.refl _ _⟩)
                            have hqq : ((q : Int) == (q : Int)) = true := beq_self_eq_true _
                            clear hph
                            go_wp2_with fail
                            refine wp_region_quiet_below (by kernel_rfl) (by kernel_rfl) ?_
                            repeat (go_big_quiet_step (first | (go_at_call 41; exact cU _ _) | (go_at_call 42; exact cP _ _)))
                            refine wpQuiet_nil ?_
                            intro _ hw'
                            obtain ⟨⟨dq, osq⟩, hw''⟩ := hw'
                            subst hw''
                            have hbq := below_regrown wt dq osq
                            have HRF : Hid (Below wq.heap.size wq (Sort.grow (redrawn wt dq) osq)) := HRt.out.trans (hbq.mono HRt.out.size)
                            clear k1 k2 k3 k4 k5 cU cP hbq
                            go_wp2_with fail
                            exact ⟨⟨t + 1, by omega, by go_num, HT2, HRF⟩, by simp [intOf]; omega⟩
                          · have HG := Lib.hid (bad_place (l := l) HX.out (List.mem_of_getElem? HZ.out) hph)
                            have hpn : (phs L z == (q : Int)) = false := by rw [beq_eq_false_iff_ne]; exact hph
                            have HBE := Lib.hid (HB1.out.trans (HBt.out.mono HB1.out.size))
                            have cP : ∀ d os, Calls Try.prog 42 #[.slice (some ⟨b, off, none⟩) n c, .int .i64 z] (Sort.grow (redrawn wt d) os) fun e w'' => e = .returned (.int .i64 (phs L z)) ∧ ∃ p : Regrown, w'' = Sort.grow (redrawn wt p.d) p.os := fun d os => Calls.regrown_of ((l7Phase_any _ n c L z hnz HS.out _ (KHt.out.below (below_regrown wt d os))).mono fun e w'' ⟨h1, h2⟩ => ⟨h1, by rw [h2]; exact Below.refl _ _⟩)
                            generalize phs L z = g at *
                            go_wp2_with fail
                            refine wp_region_quiet_below (by kernel_rfl) (by kernel_rfl) ?_
                            repeat (go_big_quiet_step (first | (go_at_call 41; exact cU _ _) | (go_at_call 42; exact cP _ _)))
                            refine wpQuiet_nil ?_
                            intro _ hw'
                            obtain ⟨⟨dq, osq⟩, hw''⟩ := hw'
                            subst hw''
                            have hbq := below_regrown wt dq osq
                            have HBF := Lib.hid (HBE.out.trans (hbq.mono HBE.out.size))
                            clear k1 k2 k3 k4 k5 cU cP hbq
                            go_wp2_with fail
                            go_ret
                            exact ⟨by rw [HGE.out, HG.out]; rfl, HBF.out⟩
                      · obtain rfl : t = j := by omega
                        have hti : ¬ (t : Int) < (t : Int) := by omega
                        have HP2 : Hid (∀ i x, i < q + 1 → L[i]? = some x → OkP l L i x) := fun i x hi hx => by
                          by_cases e : i = q
                          · subst e
                            have h2 := HX.out
                            rw [hx] at h2
                            injection h2 with h2
                            subst h2
                            exact ok_of HX.out HN.out (by rw [HJ.out]; exact hj0) HRS.out HQ.out (by rw [HJ.out]; exact HT.out)
                          · exact HP.out i x (by omega) hx
                        have HRE := Lib.hid HBt.out
                        clear r1 r2
                        go_wp2_with fail
                        exact ⟨⟨q + 1, by omega, by go_num, HP2, HRE⟩, by simp [intOf]; omega⟩
        · obtain rfl : k = n := by omega
          have hki : ¬ (k : Int) < (k : Int) := by omega
          have HG := Lib.hid (gp_yes (l := l) (L := L) ⟨by rw [HL.out]; exact h6, fun i x hx => HP.out i x (by rw [← HL.out]; exact (List.getElem?_eq_some_iff.1 hx).1) hx⟩)
          have HBE := Lib.hid (HB1.out.trans (HR.out.mono HB1.out.size))
          go_wp2_with fail
          go_ret
          exact ⟨by rw [HGE.out, HG.out]; rfl, HBE.out⟩
    · have h6' : (6 : Int) < (n : Int) := by omega
      have HG := Lib.hid (gp_big (l := l) (L := L) (by rw [HL.out]; exact h6))
      go_wp2_with fail
      go_ret
      exact ⟨by rw [HGE.out, HG.out]; rfl, HB1.out⟩
end Go.Proofs.Ytbdplgcdnpcnfaa.GpS
/- The program's placeOfPhase; PhaseOf on both sides; IsValidGrouping of the model. -/
namespace Go.Proofs.Ytbdplgcdnpcnfaa.GpP
open Go.RowKit Pairs Rec RecEq Keep GivesI Chain Find2 GoodM Ph GpM GpB GpC GpI GpS
theorem plc1_any (z : Int) (bx : Nat) (s : ByteArray) (pq : Option Addr) (jq dq : Nat) (Q : List Int) (hjq : jq ≤ 1048576) (w : World) (e1 : w.cell? ⟨bx, 0, none⟩ = some (.int .i64 z)) (hq : HoldsI w pq jq Q) :
    Calls Try.prog 80 #[.agg #[.string s, .slice pq jq dq], .pointer (some ⟨bx, 0, none⟩)] w fun e w' => e = .returned (.bool (inM Q z)) ∧ Below w.heap.size w w' := by
  have hb := below_alloc w (.cells #[.string s, .slice pq jq dq] 57)
  have u2 := box_second w (.string s) (.slice pq jq dq) 57
  have g1 := (hb.cell (p := ⟨bx, 0, none⟩) (World.block_lt_of_cell? w _ e1)).trans e1
  have HQ := Lib.hid (hq.below hb)
  have HB := Lib.hid hb
  clear hq hb e1
  go_enter Try.func80, Try.ntmps80
  go_wp2_with fail
  generalize w.alloc (.cells #[.string s, .slice pq jq dq] 57) = W at *
  refine (contains_any pq jq dq Q z hjq W HQ.out).mono ?_
  rintro e w' ⟨rfl, rfl⟩
  go_wp2_with fail
  go_ret
  exact ⟨rfl, HB.out⟩
set_option maxHeartbeats 1000000 in
theorem place_any (z : Int) (p : Option Addr) (n c : Nat) (L : List Pt) (hn : n ≤ 1048576) (hS : Sm L 1048576) (w : World) (h : HoldsP w p n L) :
    Calls Try.prog 44 #[.slice p n c, .int .i64 z] w fun e w' => e = .returned (.int .i64 (phs L z)) ∧ Below w.heap.size w w' := by
  have hb := below_alloc w (.cells #[.int .i64 z] 3)
  have u1 : (w.alloc (.cells #[.int .i64 z] 3)).cell? ⟨w.heap.size, 0, none⟩ = some (.int .i64 z) := by
    rw [World.cell?_alloc_mark]
    rfl
  have hlt : w.heap.size < (w.alloc (.cells #[.int .i64 z] 3)).heap.size := by simp
  have HH := Lib.hid (h.below hb)
  have HS := Lib.hid hS
  have HB := Lib.hid hb
  have U1 := Lib.hid u1
  clear h hS hb
  obtain ⟨g, hg⟩ : ∃ g, phs L z = g := ⟨_, rfl⟩
  rw [hg]
  have HG := Lib.hid hg
  clear hg
  go_enter Try.func44, Try.ntmps44
  go_wp2_with fail
  clear u1
  generalize w.alloc (.cells #[.int .i64 z] 3) = W at *
  refine (indexP_any 80 #[.pointer (some ⟨w.heap.size, 0, none⟩)] (fun q => inM q.2 z) p n c L W hn HH.out (fun args W => FuncI.call_enter Try.func80 (by kernel_rfl) rfl args W) (fun sq Q pq jq dq wq hin hwq hQ => ?_)).mono ?_
  · have hjq : jq ≤ 1048576 := by
      have h1 := (HS.out _ hin).2
      have h2 := hQ.1
      simp only at h1
      omega
    exact plc1_any z w.heap.size sq pq jq dq Q hjq wq ((hwq.cell (p := ⟨w.heap.size, 0, none⟩) hlt).trans U1.out) hQ
  rintro e w2 ⟨i, rfl, hi, b2⟩
  have hig : i = g := by
    rw [← HG.out]
    cases hq : L.any (fun q => inM q.2 z) with
    | true =>
      obtain ⟨k, rfl, hk⟩ := hi.1 hq
      exact (phs_some hk).symm
    | false =>
      rw [hi.2 hq]
      refine (phs_none ?_).symm
      unfold at?
      rw [List.findIdx?_eq_none_iff]
      intro x hx
      have := List.any_eq_false.1 hq x hx
      simpa using this
  subst hig
  have HB2 := Lib.hid (HB.out.trans (b2.mono HB.out.size))
  clear hi b2
  go_wp2_with fail
  go_ret
  exact ⟨rfl, HB2.out⟩
noncomputable def poP (z : Int) (l m : Ps) (L : List Pt) : Int × Bool := if grp l m L = true ∧ (isAt l z).isSome = true then (phs L z, true) else (0, false)
theorem po_no1 {z : Int} {l m : Ps} {L : List Pt} (h : grp l m L = false) : poP z l m L = (0, false) := by unfold poP; rw [if_neg (by rw [h]; simp)]
theorem po_no2 {z : Int} {l m : Ps} {L : List Pt} (h : (isAt l z).isSome = false) : poP z l m L = (0, false) := by unfold poP; rw [if_neg (by rw [h]; simp)]
theorem po_yes {z : Int} {l m : Ps} {L : List Pt} (h : grp l m L = true) (h2 : (isAt l z).isSome = true) : poP z l m L = (phs L z, true) := by unfold poP; rw [if_pos ⟨h, h2⟩]
theorem grp_good {l m : Ps} {L : List Pt} (h : grp l m L = true) : good l m = true := by
  unfold grp at h
  rw [Bool.and_eq_true, Bool.and_eq_true] at h
  exact h.1.1
set_option maxRecDepth 100000 in
set_option maxHeartbeats 4000000 in
theorem impl_any (z : Int) (a1 a2 : Option Addr) (n1 c1 n2 c2 : Nat) (l m : Ps) (p : Option Addr) (n : Nat) (L : List Pt) (w : World) (hz1 : n1 ≤ 1048576) (hz2 : n2 ≤ 1048576) (h1 : Holds w a1 n1 l) (h2 : Holds w a2 n2 m) (hn : n ≤ 1048576) (h : HoldsP w p n L) (hS : Sm L 1048576) :
    Calls Try.prog 17 #[.agg #[.slice a1 n1 c1, .slice a2 n2 c2], .slice p n n, .int .i64 z] w fun e w' => e = .returned (.tuple #[.int .i64 (poP z l m L).1, .bool (poP z l m L).2]) ∧ Below w.heap.size w w' := by
  have hb := below_alloc w (.cells #[.slice a1 n1 c1, .slice a2 n2 c2] 33)
  have hf := box_first w (.slice a1 n1 c1) (.slice a2 n2 c2) 33
  have hf2 := box_second w (.slice a1 n1 c1) (.slice a2 n2 c2) 33
  have hsz : w.heap.size < (w.alloc (.cells #[.slice a1 n1 c1, .slice a2 n2 c2] 33)).heap.size := by simp
  have H1 := Lib.hid (h1.below hb)
  have H2 := Lib.hid (h2.below hb)
  have HH := Lib.hid (h.below hb)
  have HS := Lib.hid hS
  have HB := Lib.hid hb
  clear h h1 h2 hS hb
  go_enter Try.func17, Try.ntmps17
  go_wp2_with fail
  generalize w.alloc (.cells #[.slice a1 n1 c1, .slice a2 n2 c2] 33) = W at *
  refine (grp_any a1 a2 n1 c1 n2 c2 l m p n n L W hz1 hz2 (Nat.le_refl _) hn HS.out H1.out H2.out HH.out).mono ?_
  rintro e w1 ⟨rfl, b1⟩
  have g1 := (b1.cell (p := ⟨w.heap.size, 0, none⟩) hsz).trans hf
  have g2 := (b1.cell (p := ⟨w.heap.size, 1, none⟩) hsz).trans hf2
  have hsz1 := Nat.lt_of_lt_of_le hsz b1.size
  have HB1 := Lib.hid (HB.out.trans (b1.mono HB.out.size))
  have B1 := Lib.hid b1
  clear b1 hf hf2
  cases hg : grp l m L with
  | false =>
    have HE := Lib.hid (po_no1 (z := z) hg)
    clear hg
    go_wp2_with fail
    go_ret2
    exact ⟨by rw [HE.out]; rfl, HB1.out⟩
  | true =>
    have HG := Lib.hid hg
    clear hg
    go_wp2_with fail
    refine (Avr.hasContext_any a1 a2 n1 c1 n2 c2 l z w1 hz1 (H1.out.below B1.out) (Idx.good_asc (grp_good HG.out)).1).mono ?_
    rintro e w2 ⟨rfl, b2⟩
    have HB2 := Lib.hid (HB1.out.trans (b2.mono HB1.out.size))
    have HH2 := Lib.hid ((HH.out.below B1.out).below b2)
    clear g1 g2 b2
    cases hi : (isAt l z).isSome with
    | false =>
      have HE := Lib.hid (po_no2 (m := m) (L := L) hi)
      clear hi
      go_wp2_with fail
      go_ret2
      exact ⟨by rw [HE.out]; rfl, HB2.out⟩
    | true =>
      have HE := Lib.hid (po_yes HG.out hi)
      clear hi
      go_wp2_with fail
      refine (place_any z p n n L hn HS.out w2 HH2.out).mono ?_
      rintro e w3 ⟨rfl, b3⟩
      have HB3 := Lib.hid (HB2.out.trans (b3.mono HB2.out.size))
      clear b3
      go_wp2_with fail
      go_ret2
      exact ⟨by rw [HE.out]; rfl, HB3.out⟩
set_option maxRecDepth 100000 in
set_option maxHeartbeats 4000000 in
theorem spec_any (z : Int) (a1 a2 : Option Addr) (n1 c1 n2 c2 : Nat) (l m : Ps) (p : Option Addr) (n : Nat) (L : List Pt) (w : World) (hz1 : n1 ≤ 1048576) (_hz2 : n2 ≤ 1048576) (h1 : Holds w a1 n1 l) (h2 : Holds w a2 n2 m) (hn : n ≤ 1048576) (h : HoldsP w p n L) (hS : Sm L 1048576) :
    Calls Try.prog 16 #[.agg #[.slice a1 n1 c1, .slice a2 n2 c2], .slice p n n, .int .i64 z] w fun e w' => e = .returned (.tuple #[.int .i64 (poP z l m L).1, .bool (poP z l m L).2]) ∧ Below w.heap.size w w' := by
  have hb := below_alloc w (.cells #[.slice a1 n1 c1, .slice a2 n2 c2] 33)
  have hf := box_first w (.slice a1 n1 c1) (.slice a2 n2 c2) 33
  have hf2 := box_second w (.slice a1 n1 c1) (.slice a2 n2 c2) 33
  have hsz : w.heap.size < (w.alloc (.cells #[.slice a1 n1 c1, .slice a2 n2 c2] 33)).heap.size := by simp
  have H1 := Lib.hid (h1.below hb)
  have H2 := Lib.hid (h2.below hb)
  have HH := Lib.hid (h.below hb)
  have HS := Lib.hid hS
  have HB := Lib.hid hb
  clear h h1 h2 hS hb
  go_enter Try.func16, Try.ntmps16
  go_wp2_with fail
  generalize w.alloc (.cells #[.slice a1 n1 c1, .slice a2 n2 c2] 33) = W at *
  refine (l7Good_any a1 a2 n1 c1 n2 c2 l m p n n L W hz1 hn HS.out H1.out H2.out HH.out).mono ?_
  rintro e w1 ⟨rfl, b1⟩
  have g1 := (b1.cell (p := ⟨w.heap.size, 0, none⟩) hsz).trans hf
  have g2 := (b1.cell (p := ⟨w.heap.size, 1, none⟩) hsz).trans hf2
  have HB1 := Lib.hid (HB.out.trans (b1.mono HB.out.size))
  have B1 := Lib.hid b1
  clear b1 hf hf2
  cases hg : grp l m L with
  | false =>
    have HE := Lib.hid (po_no1 (z := z) hg)
    clear hg
    go_wp2_with fail
    go_ret2
    exact ⟨by rw [HE.out]; rfl, HB1.out⟩
  | true =>
    have HG := Lib.hid hg
    clear hg
    go_wp2_with fail
    refine (l2Find_any a1 a2 n1 c1 n2 c2 l z w1 (by omega) (H1.out.below B1.out)).mono ?_
    rintro e w2 ⟨rfl, b2⟩
    have HB2 := Lib.hid (HB1.out.trans (b2.mono HB1.out.size))
    have HH2 := Lib.hid ((HH.out.below B1.out).below b2)
    clear g1 g2 b2
    cases hi : isAt l z with
    | none =>
      have HE := Lib.hid (po_no2 (z := z) (l := l) (m := m) (L := L) (by rw [hi]; rfl))
      rw [find_none hi]
      clear hi
      go_wp2_with fail
      go_ret2
      exact ⟨by rw [HE.out]; rfl, HB2.out⟩
    | some i0 =>
      have HE := Lib.hid (po_yes (z := z) HG.out (by rw [hi]; rfl))
      rw [find_some hi]
      have hi0 : ¬ (i0 : Int) < 0 := by omega
      clear hi
      go_wp2_with fail
      refine (l7Phase_any p n n L z hn HS.out w2 HH2.out).mono ?_
      rintro e w3 ⟨rfl, rfl⟩
      go_wp2_with fail
      go_ret2
      exact ⟨by rw [HE.out]; rfl, HB2.out⟩
theorem good_any (a1 a2 : Option Addr) (n1 c1 n2 c2 : Nat) (l m : Ps) (p : Option Addr) (n : Nat) (L : List Pt) (w : World) (hz1 : n1 ≤ 1048576) (_hz2 : n2 ≤ 1048576) (h1 : Holds w a1 n1 l) (h2 : Holds w a2 n2 m) (hn : n ≤ 1048576) (h : HoldsP w p n L) (hS : Sm L 1048576) :
    Calls Try.prog 10 #[.agg #[.slice a1 n1 c1, .slice a2 n2 c2], .slice p n n] w fun e w' => e = .returned (.bool (grp l m L)) ∧ Below w.heap.size w w' := by
  have hb := below_alloc w (.cells #[.slice a1 n1 c1, .slice a2 n2 c2] 33)
  have hf := box_first w (.slice a1 n1 c1) (.slice a2 n2 c2) 33
  have hf2 := box_second w (.slice a1 n1 c1) (.slice a2 n2 c2) 33
  have H1 := Lib.hid (h1.below hb)
  have H2 := Lib.hid (h2.below hb)
  have HH := Lib.hid (h.below hb)
  have HS := Lib.hid hS
  have HB := Lib.hid hb
  clear h h1 h2 hS hb
  obtain ⟨g, hg⟩ : ∃ g, grp l m L = g := ⟨_, rfl⟩
  rw [hg]
  have HG := Lib.hid hg
  clear hg
  go_enter Try.func10, Try.ntmps10
  go_wp2_with fail
  generalize w.alloc (.cells #[.slice a1 n1 c1, .slice a2 n2 c2] 33) = W at *
  refine (l7Good_any a1 a2 n1 c1 n2 c2 l m p n n L W hz1 hn HS.out H1.out H2.out HH.out).mono ?_
  rintro e w1 ⟨rfl, b1⟩
  rw [HG.out]
  have HB1 := Lib.hid (HB.out.trans (b1.mono HB.out.size))
  clear b1 hf hf2
  go_wp2_with fail
  go_ret
  exact ⟨rfl, HB1.out⟩
end Go.Proofs.Ytbdplgcdnpcnfaa.GpP
