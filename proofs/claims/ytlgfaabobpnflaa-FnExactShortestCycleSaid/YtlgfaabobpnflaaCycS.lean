/- The model's l4Cycle and ShortestCycle. -/
import Derived.Test.YtlgfaabobpnflaaStpD
import Derived.Test.YtlgfaabobpnflaaCycI
namespace Go.Proofs.Ytlgfaabobpnflaa.CycS
open Go.RowKit Pairs Rec RecEq Chain Find2 GoodM Keep GivesI Lows Order Bit Table Idx That IsLater Consist OrdM RedS BfsM ScM ScI StpM StpS StpC StpD CycM CycI
theorem isAt_of {l m : Ps} (hg : good l m = true) {k : Nat} {x y : Int} (hx : l[k]? = some (x, y)) : isAt l x = some k := by
  have ha := (good_asc hg).1
  obtain ⟨i, hi⟩ := Option.isSome_iff_exists.1 (isAt_keys.2 (List.mem_map.2 ⟨(x, y), List.mem_of_getElem? hx, rfl⟩))
  obtain ⟨z, hz⟩ := isAt_num hi
  rcases Nat.lt_trichotomy i k with e | e | e
  · have := Asc.lt ha (k - i - 1) i _ _ hz (by rw [show i + (k - i - 1) + 1 = k by omega]; exact hx)
    exact absurd this (Int.lt_irrefl x)
  · rw [hi, e]
  · have := Asc.lt ha (i - k - 1) k _ _ hx (by rw [show k + (i - k - 1) + 1 = i by omega]; exact hz)
    exact absurd this (Int.lt_irrefl x)
theorem own_cell {B n c : Nat} {p : Option Addr} {L : List Int} {w : World} (h : w.ownsRow B 3 1 (.slice p n c) n (ints L)) {j : Nat} {y : Int} (hy : L[j]? = some y) : ∃ g, p = some ⟨g, 0, none⟩ ∧ w.cell? ⟨g, j, none⟩ = some (.int .i64 y) := by
  have hj := (List.getElem?_eq_some_iff.1 hy).1
  obtain ⟨hl, ⟨hv, h0⟩ | ⟨g', cap, cur, hv, hB, hg, hnc, hm, hs, ht⟩⟩ := h
  · rw [ints_len] at hl
    omega
  injection hv with hv1 hv2 hv3
  rw [ints_len] at hl
  refine ⟨g', hv1, ?_⟩
  have e : (cur.toList.take (n * 1))[j]? = (ints L)[j]? := by rw [ht]
  rw [List.getElem?_take_of_lt (by omega), Array.getElem?_toList] at e
  simp only [World.cell?, hg]
  rw [e]
  unfold ints
  rw [List.getElem?_map, hy]
  rfl
def all (x : Int) (L : List Int) : Bool := L.all (fun y => decide (x ≤ y))
theorem all_least {x : Int} {L : List Int} : all x L = true ↔ leastC x L := by unfold all leastC; simp
theorem all_next {x y : Int} {L : List Int} {j : Nat} (h : L[j]? = some y) : all x (L.take (j + 1)) = (all x (L.take j) && decide (x ≤ y)) := by
  unfold all
  rw [List.take_add_one, h, List.all_append]
  simp
theorem cycM_next {l m : Ps} {k : Nat} {x y : Int} (hx : l[k]? = some (x, y)) : cycM m ((keys l).take (k + 1)) = stepM m (cycM m ((keys l).take k)) x := by
  rw [List.take_add_one, show (keys l)[k]? = some x by unfold keys; rw [List.getElem?_map, hx]; rfl, Option.toList_some]
  exact cyc_next _ _
set_option maxRecDepth 100000 in
set_option maxHeartbeats 8000000 in
theorem l4Cycle_any (a1 a2 : Option Addr) (n1 c1 n2 c2 : Nat) (l m : List (Int × Int)) (w : World) (hgood : good l m = true) (h1 : Holds w a1 n1 l) (h2 : Holds w a2 n2 m) :
    Calls Try.prog 105 #[.agg #[.slice a1 n1 c1, .slice a2 n2 c2]] w (ResL (cycM m (keys l)) w) := by
  have hn1 : n1 ≤ 10 := by rw [← h1.1]; exact (Table.good_few hgood).1
  have hb := below_alloc w (.cells #[.slice a1 n1 c1, .slice a2 n2 c2] 33)
  have hf := box_first w (.slice a1 n1 c1) (.slice a2 n2 c2) 33
  have hf2 := box_second w (.slice a1 n1 c1) (.slice a2 n2 c2) 33
  have H1 := Lib.hid (h1.below hb)
  have H2 := Lib.hid (h2.below hb)
  have HL1 := Lib.hid h1.1
  have hWe : (w.alloc (.cells #[.slice a1 n1 c1, .slice a2 n2 c2] 33)).heap.size = w.heap.size + 1 := by simp
  have HWE := Lib.hid hWe
  have HG := Lib.hid hgood
  have HB := Lib.hid hb
  clear h1 h2 hb hgood hWe
  go_enter Try.func105, Try.ntmps105
  go_wp2_with fail
  generalize w.alloc (.cells #[.slice a1 n1 c1, .slice a2 n2 c2] 33) = W at *
  have HG0 : Hid (That.G1 W.heap.size W (W.alloc (.cells #[] 3)) (.slice (some ⟨w.heap.size + 1, 0, none⟩) 0 0) (cycM m ((keys l).take 0))) := by rw [← HWE.out]; exact ⟨That.empty_own W, below_alloc W _⟩
  have HM3 : Hid (∀ wr, Below W.heap.size W wr → (Holds wr a1 n1 l ∧ Holds wr a2 n2 m) ∧ wr.cell? ⟨w.heap.size, 0, none⟩ = some (.slice a1 n1 c1) ∧ wr.cell? ⟨w.heap.size, 1, none⟩ = some (.slice a2 n2 c2)) := fun wr hwr =>
    ⟨⟨H1.out.below hwr, H2.out.below hwr⟩, (hwr.cell (World.block_lt_of_cell? W _ hf)).trans hf, (hwr.cell (World.block_lt_of_cell? W _ hf2)).trans hf2⟩
  clear hf hf2
  generalize W.alloc (.cells #[] 3) = V at *
  go_loopw [3, 4] (fun s3 s4 wr => ∃ k : Nat, k ≤ n1 ∧ s4 = .int .i64 k ∧ Hid (That.G1 W.heap.size W wr s3 (cycM m ((keys l).take k)))) (fun _ s4 _ => n1 - (intOf s4).toNat)
  case atStart => exact ⟨0, Nat.zero_le _, rfl, HG0⟩
  case round =>
    clear HG0
    obtain ⟨k, hk, rfl, HR⟩ := hrel
    have hsW := HR.out.2.size
    obtain ⟨⟨z1, z2⟩, q1, q2⟩ := HM3.out wr HR.out.2
    by_cases hlt : k < n1
    · obtain ⟨b, off, x, y, rfl, hx, e1, e2⟩ := z1.at k hlt
      have HX := Lib.hid hx
      have HAT := Lib.hid (isAt_of HG.out hx)
      have HNX := Lib.hid (cycM_next (m := m) hx)
      have Z1 := Lib.hid z1
      have Z2 := Lib.hid z2
      have hkn : (k : Int) < (n1 : Int) := by omega
      have hk00 : (0 : Int) ≤ (k : Int) := by omega
      obtain ⟨p3, d3, hv3⟩ := From.own_form HR.out.1
      subst hv3
      generalize hBk : cycM m ((keys l).take k) = Bk at *
      have HRR := Lib.hid HR.out
      clear hx z1 z2 HR hBk
      go_wp2_with fail
      refine (l4Chain_any x x k k _ a2 n1 c1 n2 c2 l m wr HG.out HAT.out HAT.out Z1.out Z2.out).mono ?_
      rintro e w2 ⟨p5, k5, d5, rfl, hown5, hk5, b5⟩
      have hkl : (chainP m x x).length = k5 := by have h := hown5.1; rw [ints_len] at h; omega
      have b5' : Below wr.heap.size wr w2 := b5
      have HNEW := Lib.hid (g1_of_res hsW HRR.out.2 hown5 b5 hkl)
      have HOLD : Hid (That.G1 W.heap.size W w2 (.slice p3 Bk.length d3) Bk) := ⟨ownsRow_below HRR.out.1 b5', HRR.out.2.trans (b5.mono hsW)⟩
      have e1' := (b5.cell (World.block_lt_of_cell? wr _ e1)).trans e1
      have q1' := (b5.cell (World.block_lt_of_cell? wr _ q1)).trans q1
      have HEX := Lib.hid (fun (X : World) (hX : Below w2.heap.size w2 X) => And.intro ((hX.cell (World.block_lt_of_cell? w2 _ e1')).trans e1') ((hX.cell (World.block_lt_of_cell? w2 _ q1')).trans q1'))
      clear hown5 b5 b5' e1 e2 q1 q2 HRR e1' q1'
      by_cases hk0 : k5 = 0
      · subst hk0
        have HS : Hid (cycM m ((keys l).take (k + 1)) = Bk) := by
          unfold Hid
          rw [HNX.out]
          unfold stepM
          rw [if_neg (by omega)]
        clear hkl HNX
        go_wp2_with fail
        exact ⟨⟨k + 1, by omega, by go_num, by rw [HS.out]; exact HOLD⟩, by simp [intOf] <;> omega⟩
      · have hne : chainP m x x ≠ [] := fun e => by rw [e] at hkl; exact hk0 hkl.symm
        have h2 := fch_two (chain_fch (AscM.lows_sorted HG.out) hne).1
        have hmx := chain_max HG.out x x
        rw [HL1.out] at hmx
        obtain ⟨q, rfl⟩ : ∃ q, k5 = q + 1 := ⟨k5 - 1, by omega⟩
        have hq1 : 1 ≤ q := by omega
        have hb1 : ¬ (q : Int) + 1 = 0 := by omega
        have hb2 : ((q : Int) + 1 == 0) = false := by rw [beq_eq_false_iff_ne]; omega
        have hw : wrap64 ((q : Int) + 1 - 1) = (q : Int) := by unfold wrap64; omega
        have hown5 := HNEW.out.1
        rw [hkl] at hown5
        have hd5 := own_cap hown5
        have hpop := pop (n := q) hown5 hkl
        have hdl : (chainP m x x).dropLast.length = q := by rw [List.length_dropLast]; omega
        obtain ⟨y0, hy0⟩ : ∃ y, (chainP m x x).dropLast[0]? = some y := ⟨_, List.getElem?_eq_getElem (by omega)⟩
        obtain ⟨g5, rfl, _⟩ := own_cell hpop hy0
        have HPOP := Lib.hid hpop
        have HNW := Lib.hid HNEW.out.2
        generalize hC : (chainP m x x).dropLast = C at *
        have HCC := Lib.hid hC
        have HDL := Lib.hid hdl
        have HKL := Lib.hid hkl
        have HW0 := Lib.hid (Below.refl w2.heap.size w2)
        clear hown5 hkl hC hdl hne h2 hpop hy0 HNEW hk0
        go_wp2_with fail
        go_loopw [7, 8] (fun s7 s8 wq => ∃ j : Nat, j ≤ q ∧ s8 = .int .i64 j ∧ s7 = .bool (all x (C.take j)) ∧ Hid (Below w2.heap.size w2 wq)) (fun _ s8 _ => q - (intOf s8).toNat)
        case atStart => exact ⟨0, Nat.zero_le _, rfl, rfl, HW0⟩
        case round =>
          clear HW0
          obtain ⟨j, hj, rfl, rfl, HW1⟩ := hrel
          by_cases hltj : j < q
          · have hjq : (j : Int) < (q : Int) := by omega
            have hj0 : (0 : Int) ≤ (j : Int) := by omega
            obtain ⟨y1, hy1⟩ : ∃ y, C[j]? = some y := ⟨_, List.getElem?_eq_getElem (by rw [HDL.out]; exact hltj)⟩
            obtain ⟨g6, hg6, f1⟩ := own_cell (ownsRow_below HPOP.out HW1.out) hy1
            injection hg6 with hg6
            injection hg6 with hg6
            subst hg6
            obtain ⟨f2, f3⟩ := HEX.out wr HW1.out
            have HAN := Lib.hid (all_next (x := x) hy1)
            have k1 := cell_regrown f1
            have k2 := cell_regrown f2
            have k3 := cell_regrown f3
            clear hy1
            cases hA : all x (C.take j) with
            | false =>
              rw [hA, Bool.false_and] at HAN
              clear hA
              go_wp2_with fail
              refine wp_region_quiet_below (by kernel_rfl) (by kernel_rfl) ?_
              repeat (go_big_quiet_step (fail))
              refine wpQuiet_nil ?_
              intro _ hw'
              obtain ⟨⟨dq2, osq2⟩, hw''⟩ := hw'
              subst hw''
              have HW2 := Lib.hid (HW1.out.trans ((below_regrown wr dq2 osq2).mono HW1.out.size))
              clear k1 k2 k3 f1 f2 f3 HW1
              generalize Sort.grow (redrawn wr dq2) osq2 = W6 at *
              go_wp2_with fail
              exact ⟨⟨j + 1, by omega, by go_num, by rw [HAN.out], HW2⟩, by simp [intOf] <;> omega⟩
            | true =>
              rw [hA, Bool.true_and] at HAN
              clear hA
              by_cases hxy : x ≤ y1
              · have hxd : decide (x ≤ y1) = true := decide_eq_true hxy
                rw [hxd] at HAN
                go_wp2_with fail
                refine wp_region_quiet_below (by kernel_rfl) (by kernel_rfl) ?_
                repeat (go_big_quiet_step (fail))
                refine wpQuiet_nil ?_
                intro _ hw'
                obtain ⟨⟨dq2, osq2⟩, hw''⟩ := hw'
                subst hw''
                have HW2 := Lib.hid (HW1.out.trans ((below_regrown wr dq2 osq2).mono HW1.out.size))
                clear k1 k2 k3 f1 f2 f3 HW1
                generalize Sort.grow (redrawn wr dq2) osq2 = W6 at *
                go_wp2_with fail
                exact ⟨⟨j + 1, by omega, by go_num, by rw [HAN.out], HW2⟩, by simp [intOf] <;> omega⟩
              · have hxd : decide (x ≤ y1) = false := decide_eq_false hxy
                rw [hxd] at HAN
                go_wp2_with fail
                refine wp_region_quiet_below (by kernel_rfl) (by kernel_rfl) ?_
                repeat (go_big_quiet_step (fail))
                refine wpQuiet_nil ?_
                intro _ hw'
                obtain ⟨⟨dq2, osq2⟩, hw''⟩ := hw'
                subst hw''
                have HW2 := Lib.hid (HW1.out.trans ((below_regrown wr dq2 osq2).mono HW1.out.size))
                clear k1 k2 k3 f1 f2 f3 HW1
                generalize Sort.grow (redrawn wr dq2) osq2 = W6 at *
                go_wp2_with fail
                exact ⟨⟨j + 1, by omega, by go_num, by rw [HAN.out], HW2⟩, by simp [intOf] <;> omega⟩
          · obtain rfl : j = q := by omega
            have hjq : ¬ (j : Int) < (j : Int) := by omega
            have HAC : Hid (all x (C.take j) = all x C) := by unfold Hid; rw [List.take_of_length_le (by rw [HDL.out]; exact Nat.le_refl _)]
            have HO1 : Hid (That.G1 W.heap.size W wr (.slice p3 Bk.length d3) Bk) := ⟨ownsRow_below HOLD.out.1 HW1.out, HOLD.out.2.trans (HW1.out.mono HOLD.out.2.size)⟩
            have HN1 : Hid (That.G1 W.heap.size W wr (.slice (some ⟨g5, 0, none⟩) j d5) C) := ⟨by rw [HDL.out]; exact ownsRow_below HPOP.out HW1.out, HNW.out.trans (HW1.out.mono HNW.out.size)⟩
            rw [HAC.out]
            cases hA : all x C with
            | false =>
              have HS : Hid (cycM m ((keys l).take (k + 1)) = Bk) := by
                unfold Hid
                rw [HNX.out]
                unfold stepM
                rw [if_neg]
                rintro ⟨_, h4, _⟩
                rw [HCC.out] at h4
                rw [all_least.2 h4] at hA
                cases hA
              clear hA HNX HAC
              go_wp2_with fail
              exact ⟨⟨k + 1, by omega, by go_num, by rw [HS.out]; exact HO1⟩, by simp [intOf] <;> omega⟩
            | true =>
              have hle := all_least.1 hA
              have hlj : (chainP m x x).length - 1 = j := by rw [HKL.out]; omega
              have hl0 : 0 < (chainP m x x).length := by rw [HKL.out]; omega
              by_cases hb0 : Bk.length = 0
              · have HS : Hid (cycM m ((keys l).take (k + 1)) = C) := by
                  unfold Hid
                  rw [HNX.out]
                  unfold stepM
                  rw [HCC.out, if_pos ⟨hl0, hle, .inl hb0⟩]
                clear hA hle hlj hl0 HNX HAC
                go_wp2_with fail
                exact ⟨⟨k + 1, by omega, by go_num, by rw [HS.out]; exact HN1⟩, by simp [intOf] <;> omega⟩
              · have hbn : ¬ (Bk.length : Int) = 0 := by omega
                have hbb : ((Bk.length : Int) == 0) = false := by rw [beq_eq_false_iff_ne]; exact hbn
                by_cases hlt2 : j < Bk.length
                · have hl2 : (j : Int) < (Bk.length : Int) := by omega
                  have HS : Hid (cycM m ((keys l).take (k + 1)) = C) := by
                    unfold Hid
                    rw [HNX.out]
                    unfold stepM
                    rw [HCC.out, if_pos ⟨hl0, hle, .inr (by rw [hlj]; exact hlt2)⟩]
                  clear hA hle hlj hl0 HNX HAC
                  go_wp2_with fail
                  exact ⟨⟨k + 1, by omega, by go_num, by rw [HS.out]; exact HN1⟩, by simp [intOf] <;> omega⟩
                · have hl2 : ¬ (j : Int) < (Bk.length : Int) := by omega
                  have HS : Hid (cycM m ((keys l).take (k + 1)) = Bk) := by
                    unfold Hid
                    rw [HNX.out]
                    unfold stepM
                    rw [if_neg]
                    rintro ⟨_, _, h5⟩
                    rw [hlj] at h5
                    rcases h5 with h5 | h5
                    · exact hb0 h5
                    · exact hlt2 h5
                  clear hA hle hlj hl0 HNX HAC
                  go_wp2_with fail
                  exact ⟨⟨k + 1, by omega, by go_num, by rw [HS.out]; exact HO1⟩, by simp [intOf] <;> omega⟩
    · obtain rfl : k = n1 := by omega
      have hkn : ¬ (k : Int) < (k : Int) := by omega
      have hRR := HR.out
      rw [List.take_of_length_le (by unfold keys; rw [List.length_map, HL1.out]; exact Nat.le_refl _)] at hRR
      obtain ⟨p3, d3, hv3⟩ := From.own_form hRR.1
      subst hv3
      have HRR := Lib.hid hRR
      have HB9 := Lib.hid (HB.out.trans (HRR.out.2.mono HB.out.size))
      have hs9 := HB.out.size
      have hll : (cycM m (keys l)).length ≤ 11 := by
        have h3 := (cyc_all HG.out).same
        have h4 := cycB_max HG.out (keys l)
        rw [h3, List.length_dropLast]
        rw [HL1.out] at h4
        omega
      clear hRR HR
      go_wp2_with fail
      go_ret
      exact ⟨p3, _, d3, rfl, ownsRow_base HRR.out.1 hs9, by omega, HB9.out⟩
set_option maxRecDepth 100000 in
set_option maxHeartbeats 8000000 in
theorem spec_any : GivesC.Gives 47 cycP := by
  intro a1 a2 n1 n2 l m w hz1 hz2 h1 h2
  have hb := below_alloc w (.cells #[.slice a1 n1 n1, .slice a2 n2 n2] 33)
  have hf := box_first w (.slice a1 n1 n1) (.slice a2 n2 n2) 33
  have hf2 := box_second w (.slice a1 n1 n1) (.slice a2 n2 n2) 33
  have H1 := Lib.hid (h1.below hb)
  have H2 := Lib.hid (h2.below hb)
  have HB := Lib.hid hb
  clear h1 h2 hb
  go_enter Try.func47, Try.ntmps47
  go_wp2_with fail
  generalize w.alloc (.cells #[.slice a1 n1 n1, .slice a2 n2 n2] 33) = W at *
  refine (Good2.l2Good_any a1 a2 n1 n1 n2 n2 l m W H1.out H2.out).mono ?_
  rintro e w1 ⟨rfl, b1⟩
  have q1 := (b1.cell (World.block_lt_of_cell? W _ hf)).trans hf
  have q2 := (b1.cell (World.block_lt_of_cell? W _ hf2)).trans hf2
  have HB1 := Lib.hid (HB.out.trans (b1.mono HB.out.size))
  have K1 := Lib.hid (H1.out.below b1)
  have K2 := Lib.hid (H2.out.below b1)
  clear hf hf2 b1
  cases hg : good l m with
  | false =>
    have HE := Lib.hid (cp_no hg)
    clear hg
    go_wp2_with fail
    refine bodyPost_ret (v := .tuple #[.slice (some ⟨w1.heap.size, 0, none⟩) 0 0, .bool false, .bool false]) (by simp [results, Try.results47, go_sem]) rfl ?_
    rw [HE.out]
    exact ⟨_, _, _, rfl, ownsRow_base (That.empty_own w1) HB1.out.size, by omega, HB1.out.trans ((below_alloc _ _).mono HB1.out.size)⟩
  | true =>
    have HE := Lib.hid (cp_yes hg)
    have HG := Lib.hid hg
    clear hg
    go_wp2_with fail
    refine (l4Cycle_any a1 a2 n1 n1 n2 n2 l m w1 HG.out K1.out K2.out).mono ?_
    rintro e w2 ⟨p, k, d, rfl, hown, hk, b3⟩
    have hkl : (cycM m (keys l)).length = k := by have h := hown.1; rw [ints_len] at h; omega
    have HO := Lib.hid hown
    have HB3 := Lib.hid (HB1.out.trans (b3.mono HB1.out.size))
    have hs2 := HB1.out.size
    rw [hkl] at HE
    clear hown b3 hkl
    go_wp2_with fail
    refine bodyPost_ret (v := .tuple #[.slice p k d, .bool (decide (0 < k)), .bool true]) (by simp [results, Try.results47, go_sem]) rfl ?_
    rw [HE.out]
    exact ⟨p, k, d, rfl, ownsRow_base HO.out hs2, hk, HB3.out⟩
end Go.Proofs.Ytlgfaabobpnflaa.CycS
