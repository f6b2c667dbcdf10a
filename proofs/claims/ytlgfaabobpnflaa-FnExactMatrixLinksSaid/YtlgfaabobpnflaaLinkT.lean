/- The model's MatrixLinks. -/
import Derived.Test.YtlgfaabobpnflaaLinkS
namespace Go.Proofs.Ytlgfaabobpnflaa.LinkT
open Go.RowKit Pairs Rec RecEq Chain Find2 GoodM Keep GivesI Lows Order Bit Table Idx That IsLater Consist OrdM DepM RedM RedS Elems DepS LinkM LinkS
set_option maxRecDepth 100000 in
set_option maxHeartbeats 8000000 in
theorem spec_any : GivesRL.Gives 41 linkP := by
  intro a1 a2 n1 n2 l m w hz1 hz2 h1 h2
  have hb := below_alloc w (.cells #[.slice a1 n1 n1, .slice a2 n2 n2] 33)
  have hf := box_first w (.slice a1 n1 n1) (.slice a2 n2 n2) 33
  have hf2 := box_second w (.slice a1 n1 n1) (.slice a2 n2 n2) 33
  have H1 := Lib.hid (h1.below hb)
  have H2 := Lib.hid (h2.below hb)
  have HB := Lib.hid hb
  clear h1 h2 hb
  go_enter Try.func41, Try.ntmps41
  go_wp2_with fail
  generalize w.alloc (.cells #[.slice a1 n1 n1, .slice a2 n2 n2] 33) = W at *
  refine (l5Good_any a1 a2 n1 n1 n2 n2 l m W H1.out H2.out).mono ?_
  rintro e w1 ⟨rfl, b1⟩
  have q1 := (b1.cell (World.block_lt_of_cell? W _ hf)).trans hf
  have q2 := (b1.cell (World.block_lt_of_cell? W _ hf2)).trans hf2
  have HB1 := Lib.hid (HB.out.trans (b1.mono HB.out.size))
  have K1 := Lib.hid (H1.out.below b1)
  have K2 := Lib.hid (H2.out.below b1)
  clear hf hf2 b1
  cases hg : good l m with
  | false =>
    have HE := Lib.hid (link_bad hg)
    simp only [Bool.false_and]
    clear hg
    go_wp2_with fail
    go_ret2
    rw [HE.out]
    exact ⟨_, _, _, rfl, ownsRow_base (Elems.empty_own w1) HB1.out.size, by omega, HB1.out.trans ((below_alloc _ _).mono HB1.out.size)⟩
  | true =>
    cases hc : cyc l m with
    | true =>
      have HE := Lib.hid (link_cyc hg hc)
      simp only [Bool.not_true, Bool.and_false]
      clear hg hc
      go_wp2_with fail
      go_ret2
      rw [HE.out]
      exact ⟨_, _, _, rfl, ownsRow_base (Elems.empty_own w1) HB1.out.size, by omega, HB1.out.trans ((below_alloc _ _).mono HB1.out.size)⟩
    | false =>
      have HE := Lib.hid (link_yes hg hc)
      have HG := Lib.hid hg
      have HC := Lib.hid hc
      simp only [Bool.not_false, Bool.and_true]
      clear hg hc
      go_wp2_with fail
      refine (l5Links_any a1 a2 n1 n1 n2 n2 l m w1 HG.out HC.out K1.out K2.out).mono ?_
      rintro e w2 ⟨p, k, d, rfl, hown, hk, b2⟩
      have HO := Lib.hid hown
      have HB2 := Lib.hid (HB1.out.trans (b2.mono HB1.out.size))
      clear hown b2 q1 q2
      go_wp2_with fail
      go_ret2
      rw [HE.out]
      exact ⟨_, _, _, rfl, ownsRow_base HO.out HB1.out.size, hk, HB2.out⟩
end Go.Proofs.Ytlgfaabobpnflaa.LinkT
