/- The program's isGrouping, IsValidGrouping and placeOfPhase. -/
import Derived.Test.YtbdplgcdnpcnfaaGpC
import Derived.Test.YtbdplgcdnpcnfaaConsistA
namespace Go.Proofs.Ytbdplgcdnpcnfaa.GpI
open Go.RowKit Pairs Rec RecEq Keep GivesI Chain Find2 GoodM Ph GpM GpB GpC
set_option maxRecDepth 100000 in
set_option maxHeartbeats 8000000 in
theorem isGrouping_any (a1 a2 : Option Addr) (n1 c1 n2 c2 : Nat) (l : Ps) (p : Option Addr) (n c : Nat) (L : List Pt) (w : World) (hz : n1 ≤ 1048576) (hA : Asc l) (hc : n ≤ c) (hcz : c ≤ 1048576) (hS : Sm L 1048576) (h1 : Holds w a1 n1 l) (h : HoldsP w p n L) :
    Calls Try.prog 37 #[.agg #[.slice a1 n1 c1, .slice a2 n2 c2], .slice p n c] w fun e w' => e = .returned (.bool (gp l L)) ∧ Below w.heap.size w w' := by
  have hb := below_alloc w (.cells #[.slice a1 n1 c1, .slice a2 n2 c2] 33)
  have hf := box_first w (.slice a1 n1 c1) (.slice a2 n2 c2) 33
  have hf2 := box_second w (.slice a1 n1 c1) (.slice a2 n2 c2) 33
  have hsz : w.heap.size < (w.alloc (.cells #[.slice a1 n1 c1, .slice a2 n2 c2] 33)).heap.size := by simp
  have H1 := Lib.hid (h1.below hb)
  have HH := Lib.hid (h.below hb)
  have HL := Lib.hid h.1
  have HA := Lib.hid hA
  have HS := Lib.hid hS
  have F1 := Lib.hid hf
  have F2 := Lib.hid hf2
  have HB := Lib.hid hb
  clear h h1 hA hS hb
  go_enter Try.func37, Try.ntmps37
  by_cases h6 : n ≤ 6
  · have h6' : ¬ (6 : Int) < (n : Int) := by omega
    go_wp2_with fail
    clear hf hf2
    generalize w.alloc (.cells #[.slice a1 n1 c1, .slice a2 n2 c2] 33) = W at *
    go_loopw [13] (fun s9 wr => ∃ k : Nat, k ≤ n ∧ s9 = .int .i64 k ∧ Hid (∀ i x, i < k → L[i]? = some x → OkP l L i x) ∧ Hid (Below W.heap.size W wr)) (fun s9 _ => n - (intOf s9).toNat)
    case atStart => exact ⟨0, Nat.zero_le _, rfl, fun i x h => by omega, Below.refl _ _⟩
    case round =>
      obtain ⟨k, hk, rfl, HP, HR⟩ := hrel
      by_cases hlt : k < n
      · obtain ⟨b, off, s, M, pp, j, d, rfl, hx, e1, e2, hM⟩ := (HH.out.below HR.out).at k hlt
        have hsm := HS.out _ (List.mem_of_getElem? hx)
        have hj : j ≤ 1048576 := by
          have h1 := hsm.2
          have h2 := hM.1
          simp only at h1
          omega
        have hss : s.size ≤ 1048576 := hsm.1
        have HX := Lib.hid hx
        have hki : (k : Int) < (n : Int) := by omega
        have hk0 : (0 : Int) ≤ (k : Int) := by omega
        have hkc : (k : Int) ≤ (c : Int) := by omega
        have hb7 := below_alloc wr (.cells #[.string s, .slice pp j d] 57)
        have u1 := box_first wr (.string s) (.slice pp j d) 57
        have u2 := box_second wr (.string s) (.slice pp j d) 57
        have hlw : w.heap.size < wr.heap.size := Nat.lt_of_lt_of_le hsz HR.out.size
        have hltb : wr.heap.size < (wr.alloc (.cells #[.string s, .slice pp j d] 57)).heap.size := by simp
        have hbW := HR.out.trans (hb7.mono HR.out.size)
        have g1 := (hbW.cell (p := ⟨w.heap.size, 0, none⟩) hsz).trans F1.out
        have g2 := (hbW.cell (p := ⟨w.heap.size, 1, none⟩) hsz).trans F2.out
        have HM := Lib.hid (hM.below hb7)
        have HB7 := Lib.hid hbW
        clear hx hsm hM hb7 hbW
        cases hn : nm s with
        | false =>
          have HG := Lib.hid (gp_bad (l := l) HX.out (fun h => by have := nm_yes h.1; rw [hn] at this; cases this))
          have HN := Lib.hid hn
          have HBE := Lib.hid (HB.out.trans (HB7.out.mono HB.out.size))
          clear hn
          go_wp2_with (go_at_call 73; refine (GpA.isName_any s hss _).mono ?_; rw [HN.out]; rintro e w' ⟨rfl, rfl⟩)
          go_ret
          exact ⟨by rw [HG.out]; rfl, HBE.out⟩
        | true =>
          have HN := Lib.hid hn
          clear hn
          go_wp2_with (go_at_call 73; refine (GpA.isName_any s hss _).mono ?_; rw [HN.out]; rintro e w' ⟨rfl, rfl⟩)
          have U1 := Lib.hid u1
          have U2 := Lib.hid u2
          clear e1 e2 u1 u2
          generalize wr.alloc (.cells #[.string s, .slice pp j d] 57) = Z at *
          refine (areMembers_any a1 a2 n1 c1 n2 c2 l pp j d M Z hz HA.out hj (H1.out.below HB7.out) HM.out).mono ?_
          rintro e w2 ⟨rfl, b2⟩
          have HB2 := Lib.hid (HB7.out.trans (b2.mono HB7.out.size))
          have V1 := Lib.hid ((b2.cell (p := ⟨wr.heap.size, 0, none⟩) hltb).trans U1.out)
          have V2 := Lib.hid ((b2.cell (p := ⟨wr.heap.size, 1, none⟩) hltb).trans U2.out)
          have HM2 := Lib.hid (HM.out.below b2)
          have HH2 := Lib.hid (HH.out.below HB2.out)
          have hltb2 := Nat.lt_of_lt_of_le hltb b2.size
          clear b2 g1 g2
          cases hm : mb l M with
          | false =>
            have HG := Lib.hid (gp_bad (l := l) HX.out (fun h => by have := mb_yes h.2.1; rw [hm] at this; cases this))
            have HBE := Lib.hid (HB.out.trans (HB2.out.mono HB.out.size))
            clear hm
            go_wp2_with fail
            go_ret
            exact ⟨by rw [HG.out]; rfl, HBE.out⟩
          | true =>
            have HMB := Lib.hid hm
            clear hm
            go_wp2_with fail
            refine (containsP_any 71 #[.pointer (some ⟨wr.heap.size, 0, none⟩)] (col (s, M)) (some ⟨b, off, none⟩) k c (L.take k) w2 (by omega) (HH2.out.take k hk) (fun args W => FuncI.call_enter Try.func71 (by kernel_rfl) rfl args W) (fun sq Q pq jq dq wq hin hwq hQ => ?_)).mono ?_
            · have hjq : jq ≤ 1048576 := by
                have h1 := (HS.out _ (List.mem_of_mem_take hin)).2
                have h2 := hQ.1
                simp only at h1
                omega
              exact col1_any wr.heap.size sq s pq pp jq j dq d Q M hjq hj wq ((hwq.cell (p := ⟨wr.heap.size, 0, none⟩) hltb2).trans V1.out) ((hwq.cell (p := ⟨wr.heap.size, 1, none⟩) hltb2).trans V2.out) hQ (HM2.out.below hwq)
            rintro e w3 ⟨rfl, b3⟩
            have HB3 := Lib.hid (HB2.out.trans (b3.mono HB2.out.size))
            obtain ⟨qq, hqq⟩ : ∃ qq, (L.take k).any (col (s, M)) = qq := ⟨_, rfl⟩
            rw [hqq]
            clear b3
            cases qq with
            | true =>
              have HG := Lib.hid (gp_bad (l := l) HX.out (fun h => by have := h.2.2; rw [hqq] at this; cases this))
              have HBE := Lib.hid (HB.out.trans (HB3.out.mono HB.out.size))
              clear hqq
              go_wp2_with fail
              go_ret
              exact ⟨by rw [HG.out]; rfl, HBE.out⟩
            | false =>
              have HP2 : Hid (∀ i x, i < k + 1 → L[i]? = some x → OkP l L i x) := fun i x hi hx => by
                by_cases e : i = k
                · subst e
                  have h2 := HX.out
                  rw [hx] at h2
                  injection h2 with h2
                  subst h2
                  exact ⟨nm_iff.1 HN.out, mb_iff.1 HMB.out, hqq⟩
                · exact HP.out i x (by omega) hx
              clear hqq
              go_wp2_with fail
              exact ⟨⟨k + 1, by omega, by go_num, HP2, HB3⟩, by simp [intOf]; omega⟩
      · obtain rfl : k = n := by omega
        have hki : ¬ (k : Int) < (k : Int) := by omega
        have HG := Lib.hid (gp_yes (l := l) (L := L) ⟨by rw [HL.out]; exact h6, fun i x hx => HP.out i x (by rw [← HL.out]; exact (List.getElem?_eq_some_iff.1 hx).1) hx⟩)
        have HBE := Lib.hid (HB.out.trans (HR.out.mono HB.out.size))
        go_wp2_with fail
        go_ret
        exact ⟨by rw [HG.out]; rfl, HBE.out⟩
  · have h6' : (6 : Int) < (n : Int) := by omega
    have HG := Lib.hid (gp_big (l := l) (L := L) (by rw [HL.out]; exact h6))
    go_wp2_with fail
    go_ret
    exact ⟨by rw [HG.out]; rfl, HB.out⟩
/-- A grouping of a consistent record. -/
noncomputable def grp (l m : Ps) (L : List Pt) : Bool := good l m && !(l.any fun p => later m p.1 p.1) && gp l L
set_option maxRecDepth 100000 in
set_option maxHeartbeats 4000000 in
theorem grp_any (a1 a2 : Option Addr) (n1 c1 n2 c2 : Nat) (l m : Ps) (p : Option Addr) (n c : Nat) (L : List Pt) (w : World) (hz1 : n1 ≤ 1048576) (hz2 : n2 ≤ 1048576) (hc : n ≤ c) (hcz : c ≤ 1048576) (hS : Sm L 1048576) (h1 : Holds w a1 n1 l) (h2 : Holds w a2 n2 m) (h : HoldsP w p n L) :
    Calls Try.prog 13 #[.agg #[.slice a1 n1 c1, .slice a2 n2 c2], .slice p n c] w fun e w' => e = .returned (.bool (grp l m L)) ∧ Below w.heap.size w w' := by
  have hb := below_alloc w (.cells #[.slice a1 n1 c1, .slice a2 n2 c2] 33)
  have hf := box_first w (.slice a1 n1 c1) (.slice a2 n2 c2) 33
  have hf2 := box_second w (.slice a1 n1 c1) (.slice a2 n2 c2) 33
  have hsz : w.heap.size < (w.alloc (.cells #[.slice a1 n1 c1, .slice a2 n2 c2] 33)).heap.size := by simp
  have H1 := Lib.hid (h1.below hb)
  have H2 := Lib.hid (h2.below hb)
  have HH := Lib.hid (h.below hb)
  have HS := Lib.hid hS
  have HB := Lib.hid hb
  clear h h1 h2 hS hb
  go_enter Try.func13, Try.ntmps13
  go_wp2_with fail
  generalize w.alloc (.cells #[.slice a1 n1 c1, .slice a2 n2 c2] 33) = W at *
  refine (Consist.impl_any a1 a2 n1 c1 n2 c2 l m W hz1 hz2 H1.out H2.out).mono ?_
  rintro e w1 ⟨rfl, b1⟩
  have g1 := (b1.cell (p := ⟨w.heap.size, 0, none⟩) hsz).trans hf
  have g2 := (b1.cell (p := ⟨w.heap.size, 1, none⟩) hsz).trans hf2
  have HB1 := Lib.hid (HB.out.trans (b1.mono HB.out.size))
  have B1 := Lib.hid b1
  clear b1 hf hf2
  cases hg : good l m with
  | false =>
    have HG : Hid (grp l m L = false) := by unfold Hid grp; rw [hg]; rfl
    rw [Consist.cons_no hg]
    clear hg
    go_wp2_with fail
    go_ret
    exact ⟨by rw [HG.out]; rfl, HB1.out⟩
  | true =>
    rw [Consist.cons_yes hg]
    obtain ⟨cc, hcc⟩ : ∃ cc, (l.any fun p => later m p.1 p.1) = cc := ⟨_, rfl⟩
    rw [hcc]
    cases cc with
    | true =>
      have HG : Hid (grp l m L = false) := by unfold Hid grp; rw [hg, hcc]; rfl
      clear hg hcc
      go_wp2_with fail
      go_ret
      exact ⟨by rw [HG.out]; rfl, HB1.out⟩
    | false =>
      have HG : Hid (grp l m L = gp l L) := by unfold Hid grp; rw [hg, hcc]; rfl
      have HA : Hid (Asc l) := (Idx.good_asc hg).1
      clear hg hcc
      go_wp2_with fail
      refine (isGrouping_any a1 a2 n1 c1 n2 c2 l p n c L w1 hz1 HA.out hc hcz HS.out (H1.out.below B1.out) (HH.out.below B1.out)).mono ?_
      rintro e w2 ⟨rfl, b2⟩
      have HB2 := Lib.hid (HB1.out.trans (b2.mono HB1.out.size))
      clear g1 g2 b2
      generalize gp l L = q at *
      go_wp2_with fail
      go_ret
      exact ⟨by rw [HG.out]; rfl, HB2.out⟩
end Go.Proofs.Ytbdplgcdnpcnfaa.GpI
