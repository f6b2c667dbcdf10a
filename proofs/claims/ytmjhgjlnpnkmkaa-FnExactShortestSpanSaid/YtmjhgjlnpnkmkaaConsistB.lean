/- l4Consistent of the model. -/
import Derived.Test.YtmjhgjlnpnkmkaaConsistA
namespace Go.Proofs.Ytmjhgjlnpnkmkaa.Consist
open Go.RowKit Pairs Rec Chain Find2 GoodM Keep GivesI Lows Order Bit Table Idx That IsLater
set_option maxRecDepth 100000 in
set_option maxHeartbeats 4000000 in
theorem l4Consistent_any (a1 a2 : Option Addr) (n1 c1 n2 c2 : Nat) (l m : List (Int × Int)) (w : World) (hg : good l m = true) (h1 : Holds w a1 n1 l) (h2 : Holds w a2 n2 m) :
    Calls Try.prog 108 #[.agg #[.slice a1 n1 c1, .slice a2 n2 c2]] w fun e w' => e = .returned (.bool (!(l.any fun p => later m p.1 p.1))) ∧ Below w.heap.size w w' := by
  have hb := below_alloc w (.cells #[.slice a1 n1 c1, .slice a2 n2 c2] 33)
  have hf := box_first w (.slice a1 n1 c1) (.slice a2 n2 c2) 33
  have hf2 := box_second w (.slice a1 n1 c1) (.slice a2 n2 c2) 33
  have H1 := Lib.hid (h1.below hb)
  have H2 := Lib.hid (h2.below hb)
  have HL1 := Lib.hid h1.1
  have HG := Lib.hid hg
  have hn10 : n1 ≤ 10 := by rw [← HL1.out]; exact (Table.good_few hg).1
  clear h1 h2 hg
  go_enter Try.func108, Try.ntmps108
  go_wp2_with fail
  generalize w.alloc (.cells #[.slice a1 n1 c1, .slice a2 n2 c2] 33) = W0 at *
  refine (later_any a1 a2 n1 c1 n2 c2 l m W0 HG.out H1.out H2.out).mono ?_
  rintro e w2 ⟨g, L, rfl, hge, hT, T, b2⟩
  have HT := Lib.hid T
  have HTT := Lib.hid hT
  have HB2 := Lib.hid (hb.trans (b2.mono hb.size))
  clear hT T b2 hb hf hf2
  go_wp2_with fail
  go_loopw [4] (fun s4 wr => ∃ k : Nat, k ≤ n1 ∧ s4 = .int .i64 k ∧ Hid ((l.take k).any (fun p => later m p.1 p.1) = false) ∧ wr = w2) (fun s4 _ => n1 - (intOf s4).toNat)
  case atStart => exact ⟨0, Nat.zero_le _, rfl, rfl, rfl⟩
  case round =>
    obtain ⟨k, hk, rfl, HP, rfl⟩ := hrel
    by_cases hlt : k < n1
    · have hkn : (k : Int) < (n1 : Int) := by omega
      have hk0 : (0 : Int) ≤ (k : Int) := by omega
      obtain ⟨bb, off, z, hp, hz, e1⟩ := HTT.out.at k hlt
      obtain ⟨x, hx, rfl⟩ := row_at hz
      injection hp with hp
      injection hp with hp1 hp2
      subst hp1 hp2
      rw [Nat.zero_add] at e1
      obtain ⟨p, hp⟩ : ∃ p, l[k]? = some p := ⟨l[k]'(by rw [HL1.out]; exact hlt), List.getElem?_eq_getElem _⟩
      have HPK := Lib.hid hp
      have hik := num_at HG.out (x := p.1) (y := p.2) hp
      have hx10 := bd hn10 (HT.out.bd k x hx)
      have HX : Hid (x.testBit k = later m p.1 p.1) := tbit HG.out HL1.out HT.out hik hik hx
      clear hz hx hp hik
      go_wp2_with fail
      refine (l4Bit_any x k hx10 (by omega) _).mono ?_
      rintro e w3 ⟨rfl, rfl⟩
      rw [HX.out]
      cases hq : later m p.1 p.1 with
      | true =>
        have HA : Hid ((l.any fun p => later m p.1 p.1) = true) := any_hit _ HPK.out hq
        clear hq
        go_wp2_with fail
        go_ret
        exact ⟨by rw [HA.out]; rfl, HB2.out⟩
      | false =>
        have HP2 : Hid ((l.take (k + 1)).any (fun p => later m p.1 p.1) = false) := by unfold Hid; rw [tk_any _ HPK.out HP.out]; exact hq
        clear hq
        go_wp2_with fail
        exact ⟨⟨k + 1, by omega, by go_num, HP2, by first | rfl | trivial⟩, by simp [intOf]; omega⟩
    · obtain rfl : k = n1 := by omega
      have hkn : ¬ (k : Int) < (k : Int) := by omega
      have hp := HP.out
      rw [List.take_of_length_le (by rw [HL1.out]; exact Nat.le_refl _)] at hp
      have HQ := Lib.hid hp
      clear hp
      go_wp2_with fail
      go_ret
      exact ⟨by rw [HQ.out]; rfl, HB2.out⟩
end Go.Proofs.Ytmjhgjlnpnkmkaa.Consist
