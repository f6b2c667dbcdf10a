/- PlaceRange: the model's side. -/
import Derived.Test.YtjllbbkpmmnkgaaPlrM
import Derived.Test.YtjllbbkpmmnkgaaSqM
set_option linter.unusedVariables false
namespace Go.Proofs.Ytjllbbkpmmnkgaa.PlrS
open Go.RowKit Pairs Rec Chain Find2 GoodM Keep GivesI Lows Order Bit Table That RedS PlrM IsLater
theorem sel_step (q : Int → Bool) {l : List (Int × Int)} {k : Nat} {x y : Int} (hx : l[k]? = some (x, y)) : (sel q (l.take (k + 1))).length = (sel q (l.take k)).length + (if q x = true then 1 else 0) := by
  rw [sel_next q hx, List.length_append]
  cases q x <;> simp
set_option maxRecDepth 100000 in
set_option maxHeartbeats 4000000 in
theorem spec_any (z : Int) (a1 a2 : Option Addr) (n1 c1 n2 c2 : Nat) (l m : List (Int × Int)) (w : World) (hz1 : n1 ≤ 1048576) (hz2 : n2 ≤ 1048576) (h1 : Holds w a1 n1 l) (h2 : Holds w a2 n2 m) :
    Calls Try.prog 5 #[.agg #[.slice a1 n1 c1, .slice a2 n2 c2], .int .i64 z] w (Ans z l m w) := by
  have hb := below_alloc w (.cells #[.slice a1 n1 c1, .slice a2 n2 c2] 32)
  have hf := box_first w (.slice a1 n1 c1) (.slice a2 n2 c2) 32
  have hf2 := box_second w (.slice a1 n1 c1) (.slice a2 n2 c2) 32
  have H1 := Lib.hid (h1.below hb)
  have H2 := Lib.hid (h2.below hb)
  have HL1 := Lib.hid h1.1
  have hsz : w.heap.size < (w.alloc (.cells #[.slice a1 n1 c1, .slice a2 n2 c2] 32)).heap.size := by simp
  have HB := Lib.hid hb
  clear h1 h2 hb
  go_enter Try.func5, Try.ntmps5
  go_wp2_with fail
  generalize w.alloc (.cells #[.slice a1 n1 c1, .slice a2 n2 c2] 32) = W at *
  refine (l2Find_any a1 a2 n1 c1 n2 c2 l z W (by omega) H1.out).mono ?_
  rintro e w1 ⟨rfl, b1⟩
  have r1 := (b1.cell (p := ⟨w.heap.size, 0, none⟩) (by show w.heap.size < _; omega)).trans hf
  have r2 := (b1.cell (p := ⟨w.heap.size, 1, none⟩) (by show w.heap.size < _; omega)).trans hf2
  have hs1 := b1.size
  have HB1 := Lib.hid (HB.out.trans (b1.mono HB.out.size))
  have K1 := Lib.hid (H1.out.below b1)
  have K2 := Lib.hid (H2.out.below b1)
  clear hf hf2 b1
  go_wp2_with fail
  refine (l5Good_any a1 a2 n1 c1 n2 c2 l m w1 K1.out K2.out).mono ?_
  rintro e w2 ⟨rfl, b2⟩
  have q1 := (b2.cell (p := ⟨w.heap.size, 0, none⟩) (by show w.heap.size < _; omega)).trans r1
  have q2 := (b2.cell (p := ⟨w.heap.size, 1, none⟩) (by show w.heap.size < _; omega)).trans r2
  have hs2 := b2.size
  have HB2 := Lib.hid (HB1.out.trans (b2.mono HB1.out.size))
  have M1 := Lib.hid (K1.out.below b2)
  have M2 := Lib.hid (K2.out.below b2)
  clear r1 r2 b2
  by_cases hg : good l m = true ∧ cyc l m = false
  · have hgc : (good l m && !cyc l m) = true := by rw [hg.1, hg.2]; rfl
    have HG := Lib.hid hg
    rw [hgc]
    clear hg hgc
    cases hz : isAt l z with
    | none =>
      have HE := Lib.hid (pr_no (z := z) (l := l) (m := m) (by rw [hz]; simp))
      rw [find_none hz]
      clear hz
      go_wp2_with fail
      go_ret3
      unfold Ans
      rw [HE.out]
      exact ⟨rfl, HB2.out⟩
    | some kz =>
      have HE := Lib.hid (pr_yes (z := z) HG.out.1 HG.out.2 (by rw [hz]; rfl))
      have HZ := Lib.hid hz
      have hkzn : kz < n1 := by rw [← HL1.out]; exact isAt_lt hz
      have hkz0 : ¬ (kz : Int) < 0 := by omega
      have hkz2 : (kz : Int) < (n1 : Int) := by omega
      have hkz3 : (0 : Int) ≤ (kz : Int) := by omega
      have hn10 : n1 ≤ 10 := by rw [← HL1.out]; exact (Table.good_few HG.out.1).1
      rw [find_some hz]
      clear hz
      go_wp2_with fail
      refine (later_any a1 a2 n1 c1 n2 c2 l m w2 HG.out.1 M1.out M2.out).mono ?_
      rintro e w3 ⟨gt, T, rfl, hge, hT, TT, b3⟩
      have HTT := Lib.hid TT
      have HT := Lib.hid hT
      have HB3 := Lib.hid (HB2.out.trans (b3.mono HB2.out.size))
      have N1 := Lib.hid (M1.out.below b3)
      clear hT TT b3 q1 q2 hge
      go_wp2_with fail
      go_loopw [9, 10, 11] (fun s9 s10 s11 wr => ∃ i : Nat, i ≤ n1 ∧ s11 = .int .i64 i ∧ s9 = .int .i64 ((sel (fun x => later m x z) (l.take i)).length : Int) ∧ s10 = .int .i64 ((sel (fun x => later m z x) (l.take i)).length : Int) ∧ wr = w3) (fun _ _ s11 _ => n1 - (intOf s11).toNat)
      case atStart => exact ⟨0, Nat.zero_le _, rfl, rfl, rfl, rfl⟩
      case round =>
        obtain ⟨i, hile, rfl, rfl, rfl, rfl⟩ := hrel
        by_cases hlt : i < n1
        · have hin : (i : Int) < (n1 : Int) := by omega
          have hi00 : (0 : Int) ≤ (i : Int) := by omega
          obtain ⟨b, off, x, y, e0, hx, e01, e02⟩ := N1.out.at i hlt
          clear e0 e01 e02
          have hxi := SqM.at_num (Idx.good_asc HG.out.1).1 hx
          obtain ⟨bb, oo, zz, hp, hzz, e3⟩ := HT.out.at i hlt
          obtain ⟨t, ht, rfl⟩ := row_at hzz
          injection hp with hp
          injection hp with hp1 hp2
          subst hp1 hp2
          rw [Nat.zero_add] at e3
          obtain ⟨bb, oo, zz, hp, hzz2, e4⟩ := HT.out.at kz hkzn
          obtain ⟨t2, ht2, rfl⟩ := row_at hzz2
          injection hp with hp
          injection hp with hp1 hp2
          subst hp1 hp2
          rw [Nat.zero_add] at e4
          have ht10 := bd hn10 (HTT.out.bd i t ht)
          have ht210 := bd hn10 (HTT.out.bd kz t2 ht2)
          have hbit : t.testBit kz = later m x z := tbit HG.out.1 HL1.out HTT.out hxi HZ.out ht
          have hbit2 : t2.testBit i = later m z x := tbit HG.out.1 HL1.out HTT.out HZ.out hxi ht2
          have hl4 := l4Bit_any t kz ht10 (by omega)
          have hl42 := l4Bit_any t2 i ht210 (by omega)
          rw [hbit] at hl4
          rw [hbit2] at hl42
          have HL4 := Lib.hid hl4
          have HL42 := Lib.hid hl42
          have s1 := sel_step (fun x => later m x z) hx
          have s2 := sel_step (fun x => later m z x) hx
          have k1 := sel_len (fun x => later m x z) (l.take i)
          have k2 := sel_len (fun x => later m z x) (l.take i)
          rw [List.length_take] at k1 k2
          generalize (sel (fun x => later m x z) (l.take i)).length = A1 at *
          generalize (sel (fun x => later m z x) (l.take i)).length = A2 at *
          have hA1 : A1 ≤ 10 := by omega
          have hA2 : A2 ≤ 10 := by omega
          have S12 := Lib.hid (And.intro s1 s2)
          clear hx hxi hzz hzz2 ht ht2 hbit hbit2 hl4 hl42 s1 s2 k1 k2
          go_wp2_with fail
          refine (HL4.out wr).mono ?_
          rintro e w' ⟨rfl, hw'⟩
          have hw2 := hw'.symm
          subst hw2
          clear hw'
          cases hq1 : later m x z <;> (
            have HQ1 := Lib.hid hq1
            clear hq1
            go_wp2_with fail
            refine (HL42.out _).mono ?_
            rintro e w' ⟨rfl, hw'⟩
            have hw2 := hw'.symm
            subst hw2
            clear hw'
            cases hq2 : later m z x <;> (
              have HQ2 := Lib.hid hq2
              clear hq2
              go_wp2_with fail
              have T1 := S12.out.1
              have T2 := S12.out.2
              rw [HQ1.out] at T1
              rw [HQ2.out] at T2
              simp at T1 T2
              refine ⟨⟨i + 1, by omega, by go_num, ?_, ?_, trivial⟩, by simp [intOf]; omega⟩
              · rw [T1]; first | done | rfl | go_num
              · rw [T2]; first | done | rfl | go_num))
        · obtain rfl : i = n1 := by omega
          have hin : ¬ (i : Int) < (i : Int) := by omega
          rw [List.take_of_length_le (by rw [HL1.out]; exact Nat.le_refl _)]
          have k2 := sel_len (fun x => later m z x) l
          rw [HL1.out] at k2
          obtain ⟨A2, hA2⟩ : ∃ A, A = (sel (fun x => later m z x) l).length := ⟨_, rfl⟩
          have HA2 := Lib.hid hA2
          rw [← hA2] at k2 ⊢
          clear hA2
          go_wp2_with fail
          go_ret3
          unfold Ans
          rw [HE.out, HL1.out, ← HA2.out]
          refine ⟨?_, HB3.out⟩
          have e1 : wrap64 (wrap64 ((i : Int) - 1) - (A2 : Int)) = (i : Int) - 1 - (A2 : Int) := by unfold wrap64; omega
          first | rfl | (rw [e1]) | (simp [e1])
  · have hgc : (good l m && !cyc l m) = false := by
      cases h1 : good l m with
      | false => rfl
      | true =>
        cases h2 : cyc l m with
        | true => rfl
        | false => exact absurd ⟨h1, h2⟩ hg
    have HE := Lib.hid (pr_no (z := z) (l := l) (m := m) (fun h => hg ⟨h.1, h.2.1⟩))
    rw [hgc]
    generalize find l z = fz
    clear hg hgc
    go_wp2_with fail
    go_ret3
    unfold Ans
    rw [HE.out]
    exact ⟨rfl, HB2.out⟩
end Go.Proofs.Ytjllbbkpmmnkgaa.PlrS
