/- The model's SequenceDistance. -/
import Derived.Test.YtjllbbkpmmnkgaaDoorDisM
namespace Go.Proofs.YtjllbbkpmmnkgaaDoor.DisS
open Go.RowKit Pairs Rec Chain Find2 GoodM Keep GivesI Lows Order Table RedS SqM IsqS DisM
set_option linter.unusedVariables false
def Ans (l m : Ps) (A B : List Int) (w : World) (e : Ending) (w' : World) : Prop := e = .returned (.tuple #[.int .i64 (sdP l m A B).1, .bool (sdP l m A B).2]) ∧ Below w.heap.size w w'
set_option maxRecDepth 100000 in
set_option maxHeartbeats 8000000 in
theorem spec_any (a1 a2 pa pb : Option Addr) (n1 c1 n2 c2 na nb : Nat) (l m : List (Int × Int)) (A B : List Int) (w : World) (hz1 : n1 ≤ 1048576) (hz2 : n2 ≤ 1048576) (hz3 : na ≤ 1048576) (hz4 : nb ≤ 1048576) (h1 : Holds w a1 n1 l) (h2 : Holds w a2 n2 m) (h3 : HoldsI w pa na A) (h4 : HoldsI w pb nb B) :
    Calls Tryd.prog 18 #[.agg #[.slice a1 n1 c1, .slice a2 n2 c2], .slice pa na na, .slice pb nb nb] w (Ans l m A B w) := by
  obtain ⟨b, hb0⟩ : ∃ b, w.heap.size = b := ⟨_, rfl⟩
  have hb := below_alloc w (.cells #[.slice a1 n1 c1, .slice a2 n2 c2] 33)
  have hf := box_first w (.slice a1 n1 c1) (.slice a2 n2 c2) 33
  have hf2 := box_second w (.slice a1 n1 c1) (.slice a2 n2 c2) 33
  rw [hb0] at hf hf2
  have hsz : (w.alloc (.cells #[.slice a1 n1 c1, .slice a2 n2 c2] 33)).heap.size = b + 1 := by simp [hb0]
  have H1 := Lib.hid (h1.below hb)
  have H2 := Lib.hid (h2.below hb)
  have H3 := Lib.hid (h3.below hb)
  have H4 := Lib.hid (h4.below hb)
  have HBO := Lib.hid hb
  have HL1 := Lib.hid h1.1
  have HL3 := Lib.hid h3.1
  clear h1 h2 h3 h4 hb
  go_enter Tryd.func18, Tryd.ntmps18
  go_upto_region 1 with fail
  generalize w.alloc (.cells #[.slice a1 n1 c1, .slice a2 n2 c2] 33) = W2 at *
  have HGO := Lib.hid (l5Good_any a1 a2 n1 c1 n2 c2 l m W2 H1.out H2.out)
  by_cases hg : good l m = true ∧ cyc l m = false
  · have hgc : (good l m && !cyc l m) = true := by rw [hg.1, hg.2]; rfl
    rw [hgc] at HGO
    have HG := Lib.hid hg
    have hn10 : l.length ≤ 10 := (Table.good_few hg.1).1
    have HSA : Hid (∀ W, Below W2.heap.size W2 W → Calls Tryd.prog 38 #[.agg #[.slice a1 n1 c1, .slice a2 n2 c2], .slice pa na na] W fun e w' => e = .returned (.bool (isSq l m A)) ∧ Below W.heap.size W w') := fun W hW => l8Is_any a1 a2 pa n1 c1 n2 c2 na na l m A W hz1 hz3 (H1.out.below hW) (H2.out.below hW) (H3.out.below hW) HG.out.1
    have HSB : Hid (∀ W, Below W2.heap.size W2 W → Calls Tryd.prog 38 #[.agg #[.slice a1 n1 c1, .slice a2 n2 c2], .slice pb nb nb] W fun e w' => e = .returned (.bool (isSq l m B)) ∧ Below W.heap.size W w') := fun W hW => l8Is_any a1 a2 pb n1 c1 n2 c2 nb nb l m B W hz1 hz4 (H1.out.below hW) (H2.out.below hW) (H4.out.below hW) HG.out.1
    clear hg hgc
    cases hqa : isSq l m A with
    | false =>
      have HE := Lib.hid (sd_no (l := l) (m := m) (A := A) (B := B) (fun h => by rw [hqa] at h; cases h.2.2.1))
      rw [hqa] at HSA
      clear hqa
      go_wp2_with (first | (go_at_call 37; refine HGO.out.mono ?_; rintro e w2 ⟨rfl, b2⟩; have HB2 := Lib.hid b2; have s1 := (b2.cell (p := ⟨b, 0, none⟩) (by show b < _; omega)).trans hf; have s2 := (b2.cell (p := ⟨b, 1, none⟩) (by show b < _; omega)).trans hf2; have hsz2 := b2.size) | (go_at_call_of 38 pa; refine (HSA.out w2 HB2.out).mono ?_; rintro e w3 ⟨rfl, b3⟩; have HB3 := Lib.hid (HB2.out.trans (b3.mono HB2.out.size)); have s1' := (b3.cell (p := ⟨b, 0, none⟩) (by show b < _; omega)).trans s1; have s2' := (b3.cell (p := ⟨b, 1, none⟩) (by show b < _; omega)).trans s2) | (go_at_call_of 38 pb; refine (HSB.out w3 HB3.out).mono ?_; rintro e w4 ⟨rfl, b4⟩; have HB4 := Lib.hid (HB3.out.trans (b4.mono HB3.out.size))))
      go_ret2
      unfold Ans
      rw [HE.out]
      exact ⟨rfl, HBO.out.trans (HB3.out.mono HBO.out.size)⟩
    | true =>
      rw [hqa] at HSA
      cases hqb : isSq l m B with
      | false =>
        have HE := Lib.hid (sd_no (l := l) (m := m) (A := A) (B := B) (fun h => by rw [hqb] at h; cases h.2.2.2))
        rw [hqb] at HSB
        clear hqa hqb
        go_wp2_with (first | (go_at_call 37; refine HGO.out.mono ?_; rintro e w2 ⟨rfl, b2⟩; have HB2 := Lib.hid b2; have s1 := (b2.cell (p := ⟨b, 0, none⟩) (by show b < _; omega)).trans hf; have s2 := (b2.cell (p := ⟨b, 1, none⟩) (by show b < _; omega)).trans hf2; have hsz2 := b2.size) | (go_at_call_of 38 pa; refine (HSA.out w2 HB2.out).mono ?_; rintro e w3 ⟨rfl, b3⟩; have HB3 := Lib.hid (HB2.out.trans (b3.mono HB2.out.size)); have s1' := (b3.cell (p := ⟨b, 0, none⟩) (by show b < _; omega)).trans s1; have s2' := (b3.cell (p := ⟨b, 1, none⟩) (by show b < _; omega)).trans s2) | (go_at_call_of 38 pb; refine (HSB.out w3 HB3.out).mono ?_; rintro e w4 ⟨rfl, b4⟩; have HB4 := Lib.hid (HB3.out.trans (b4.mono HB3.out.size))))
        go_ret2
        unfold Ans
        rw [HE.out]
        exact ⟨rfl, HBO.out.trans (HB4.out.mono HBO.out.size)⟩
      | true =>
        have HE := Lib.hid (sd_yes (l := l) (m := m) (A := A) (B := B) ⟨HG.out.1, HG.out.2, hqa, hqb⟩)
        have hna : na ≤ 10 := by
          have := (isSq_yes hqa).2
          rw [HL3.out] at this
          omega
        rw [hqb] at HSB
        clear hqa hqb
        go_wp2_with (first | (go_at_call 37; refine HGO.out.mono ?_; rintro e w2 ⟨rfl, b2⟩; have HB2 := Lib.hid b2; have s1 := (b2.cell (p := ⟨b, 0, none⟩) (by show b < _; omega)).trans hf; have s2 := (b2.cell (p := ⟨b, 1, none⟩) (by show b < _; omega)).trans hf2; have hsz2 := b2.size) | (go_at_call_of 38 pa; refine (HSA.out w2 HB2.out).mono ?_; rintro e w3 ⟨rfl, b3⟩; have HB3 := Lib.hid (HB2.out.trans (b3.mono HB2.out.size)); have s1' := (b3.cell (p := ⟨b, 0, none⟩) (by show b < _; omega)).trans s1; have s2' := (b3.cell (p := ⟨b, 1, none⟩) (by show b < _; omega)).trans s2) | (go_at_call_of 38 pb; refine (HSB.out w3 HB3.out).mono ?_; rintro e w4 ⟨rfl, b4⟩; have HB4 := Lib.hid (HB3.out.trans (b4.mono HB3.out.size))))
        have P3 := Lib.hid (H3.out.below HB4.out)
        have P4 := Lib.hid (H4.out.below HB4.out)
        clear s1 s2 s1' s2' b3 b4 HSA HSB hf hf2
        go_loopw [8, 9] (fun s8 s9 wr => ∃ i : Nat, i ≤ na ∧ s9 = .int .i64 i ∧ s8 = .int .i64 (iv A B i : Nat) ∧ Hid (Below w4.heap.size w4 wr)) (fun _ s9 _ => na - (intOf s9).toNat)
        case atStart => exact ⟨0, Nat.zero_le _, rfl, rfl, Below.refl _ _⟩
        case round =>
          obtain ⟨i, hi, rfl, rfl, HWR⟩ := hrel
          by_cases hlt : i < na
          · obtain ⟨bp, off, x, rfl, hx, e0⟩ := P3.out.at i hlt
            clear e0
            have hin : (i : Int) < (na : Int) := by omega
            have hi00 : (0 : Int) ≤ (i : Int) := by omega
            have HX := Lib.hid hx
            have HIB : Hid (iv A B i ≤ 100) := by
              have := iv_le A B i
              rw [HL3.out] at this
              exact Nat.le_trans this (Nat.le_trans (Nat.mul_le_mul (Nat.le_trans hi hna) hna) (by decide))
            generalize hv : iv A B i = v at *
            have HV := Lib.hid hv
            clear hx hv
            have HN := Lib.hid (iv_next (B := B) HX.out)
            obtain ⟨k, hk⟩ : ∃ k, na - (i + 1) = k := ⟨_, rfl⟩
            have HK := Lib.hid hk
            have HLD : Hid ((A.drop (i + 1)).length = k) := by unfold Hid; rw [List.length_drop, HL3.out]; exact hk
            clear hk
            go_wp2_with fail
            go_loopw [8, 10] (fun s8 s10 wq => ∃ j : Nat, j ≤ k ∧ s10 = .int .i64 ((i + 1 + j : Nat) : Int) ∧ s8 = .int .i64 ((v + cn B x ((A.drop (i + 1)).take j) : Nat) : Int) ∧ Hid (Below w4.heap.size w4 wq)) (fun _ s10 _ => na - (intOf s10).toNat)
            case atStart => exact ⟨0, Nat.zero_le _, by go_num, by simp [cn], HWR⟩
            case round =>
              obtain ⟨j, hj, rfl, rfl, HWQ⟩ := hrel
              by_cases hjk : j < k
              · have hjn : ((i + 1 + j : Nat) : Int) < (na : Int) := by have := HK.out; omega
                have hj00 : (0 : Int) ≤ ((i + 1 + j : Nat) : Int) := by omega
                obtain ⟨bq, oq, x2, he, hx2, e1⟩ := (P3.out.below HWQ.out).at i hlt
                injection he with he
                injection he with he1 he2
                subst he1 he2
                obtain rfl : x2 = x := by
                  have := HX.out
                  rw [hx2] at this
                  injection this
                obtain ⟨bq, oq, y, he, hy, e2⟩ := (P3.out.below HWQ.out).at (i + 1 + j) (by have := HK.out; omega)
                injection he with he
                injection he with he1 he2
                subst he1 he2
                have hyd : (A.drop (i + 1))[j]? = some y := by rw [List.getElem?_drop]; exact hy
                have htk : (A.drop (i + 1)).take (j + 1) = (A.drop (i + 1)).take j ++ [y] := by rw [List.take_add_one, hyd]; rfl
                have hcs := cn_snoc B x2 y ((A.drop (i + 1)).take j)
                rw [← htk] at hcs
                have hcb := cn_le B x2 ((A.drop (i + 1)).take j)
                rw [List.length_take] at hcb
                have HCS := Lib.hid hcs
                have hvb := HIB.out
                have hk10 : k ≤ 10 := by have := HK.out; omega
                generalize cn B x2 ((A.drop (i + 1)).take j) = cc at *
                have hcc : v + cc ≤ 200 := by omega
                have Q4 := Lib.hid (P4.out.below HWQ.out)
                have k3 := cell_regrown e1
                have k4 := cell_regrown e2
                have hbx := ix_bd B x2
                have hby := ix_bd B y
                clear hx2 hy hyd htk hcs hcb e1 e2
                have cX : ∀ d os, Calls Tryd.prog 45 #[.slice pb nb nb, .int .i64 x2] (Sort.grow (redrawn wr d) os) fun e w'' => e = .returned (.int .i64 (ix B x2)) ∧ ∃ p : Regrown, w'' = Sort.grow (redrawn wr p.d) p.os := fun d os => Calls.regrown_of ((at_any pb nb nb B x2 hz4 _ (Q4.out.below (below_regrown wr d os))).mono fun e w' h => by obtain ⟨h1, h2⟩ := h; subst h2; exact ⟨h1, Below.refl _ _⟩)
                have cY : ∀ d os, Calls Tryd.prog 45 #[.slice pb nb nb, .int .i64 y] (Sort.grow (redrawn wr d) os) fun e w'' => e = .returned (.int .i64 (ix B y)) ∧ ∃ p : Regrown, w'' = Sort.grow (redrawn wr p.d) p.os := fun d os => Calls.regrown_of ((at_any pb nb nb B y hz4 _ (Q4.out.below (below_regrown wr d os))).mono fun e w' h => by obtain ⟨h1, h2⟩ := h; subst h2; exact ⟨h1, Below.refl _ _⟩)
                generalize hix : ix B x2 = ax at *
                generalize hiy : ix B y = ay at *
                have HIX := Lib.hid (And.intro hix hiy)
                clear hix hiy
                go_upto_region 10 with fail
                refine wp_region_quiet_below (by kernel_rfl) (by kernel_rfl) ?_
                repeat (go_big_quiet_step (first | (go_at_call_of 45 x2; exact cX _ _) | (go_at_call_of 45 y; exact cY _ _)))
                refine wpQuiet_nil ?_
                intro _ hw'
                obtain ⟨⟨dq, osq⟩, hw''⟩ := hw'
                subst hw''
                have HB2' := Lib.hid (HWQ.out.trans ((below_regrown wr dq osq).mono HWQ.out.size))
                clear cX cY k3 k4 hbx hby
                generalize Sort.grow (redrawn wr dq) osq = W5 at *
                by_cases hlt2 : ay < ax
                · have HC2 : Hid (cn B x2 ((A.drop (i + 1)).take (j + 1)) = cc + 1) := by
                    have := HCS.out
                    rw [if_pos hlt2] at this
                    exact this
                  go_wp2_with fail
                  exact ⟨⟨j + 1, by omega, by first | (simp; omega) | go_num, by rw [HC2.out]; first | done | rfl | go_num, HB2'⟩, by have := HK.out; simp [intOf]; omega⟩
                · have HC2 : Hid (cn B x2 ((A.drop (i + 1)).take (j + 1)) = cc) := by
                    have := HCS.out
                    rw [if_neg hlt2] at this
                    exact this
                  go_wp2_with fail
                  exact ⟨⟨j + 1, by omega, by first | (simp; omega) | go_num, by rw [HC2.out]; first | done | rfl | go_num, HB2'⟩, by have := HK.out; simp [intOf]; omega⟩
              · obtain rfl : j = k := by omega
                have hjn : ¬ ((i + 1 + j : Nat) : Int) < (na : Int) := by have := HK.out; omega
                rw [List.take_of_length_le (by rw [HLD.out]; exact Nat.le_refl _)]
                have HD : Hid (iv A B (i + 1) = v + cn B x (A.drop (i + 1))) := by
                  have := HN.out
                  rw [HV.out] at this
                  exact this
                generalize v + cn B x (A.drop (i + 1)) = vv at *
                go_wp2_with fail
                exact ⟨⟨i + 1, by omega, by go_num, by rw [HD.out], HWQ⟩, by simp [intOf]; omega⟩
          · obtain rfl : i = na := by omega
            have hin : ¬ (i : Int) < (i : Int) := by omega
            rw [HL3.out] at HE
            go_wp2_with fail
            go_ret2
            unfold Ans
            rw [HE.out]
            exact ⟨rfl, HBO.out.trans ((HB4.out.trans (HWR.out.mono HB4.out.size)).mono HBO.out.size)⟩
  · have hgc : (good l m && !cyc l m) = false := by
      cases h1 : good l m with
      | false => rfl
      | true =>
        cases h2 : cyc l m with
        | true => rfl
        | false => exact absurd ⟨h1, h2⟩ hg
    rw [hgc] at HGO
    have HE := Lib.hid (sd_no (l := l) (m := m) (A := A) (B := B) (fun h => hg ⟨h.1, h.2.1⟩))
    clear hg hgc
    go_wp2_with (first | (go_at_call 37; refine HGO.out.mono ?_; rintro e w2 ⟨rfl, b2⟩; have HB2 := Lib.hid b2; have s1 := (b2.cell (p := ⟨b, 0, none⟩) (by show b < _; omega)).trans hf; have s2 := (b2.cell (p := ⟨b, 1, none⟩) (by show b < _; omega)).trans hf2; have hsz2 := b2.size) | (go_at_call_of 38 pa; refine (HSA.out w2 HB2.out).mono ?_; rintro e w3 ⟨rfl, b3⟩; have HB3 := Lib.hid (HB2.out.trans (b3.mono HB2.out.size)); have s1' := (b3.cell (p := ⟨b, 0, none⟩) (by show b < _; omega)).trans s1; have s2' := (b3.cell (p := ⟨b, 1, none⟩) (by show b < _; omega)).trans s2) | (go_at_call_of 38 pb; refine (HSB.out w3 HB3.out).mono ?_; rintro e w4 ⟨rfl, b4⟩; have HB4 := Lib.hid (HB3.out.trans (b4.mono HB3.out.size))))
    go_ret2
    unfold Ans
    rw [HE.out]
    exact ⟨rfl, HBO.out.trans (HB2.out.mono HBO.out.size)⟩
end Go.Proofs.YtjllbbkpmmnkgaaDoor.DisS
