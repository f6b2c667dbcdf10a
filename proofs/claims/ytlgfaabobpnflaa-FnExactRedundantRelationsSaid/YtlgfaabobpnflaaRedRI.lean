/- The program's RedundantRelations. -/
import Derived.Test.YtlgfaabobpnflaaRedOf
namespace Go.Proofs.Ytlgfaabobpnflaa.RedRI
open Go.RowKit Pairs Rec Chain Find2 GoodM Keep GivesI Lows Order Idx That IsLater Consist OrdM RedM RedOf
theorem empty_rel {B : Nat} (w : World) (hB : B ≤ w.heap.size) : (w.alloc (.cells #[] 89)).ownsRow B 89 2 (.slice (some ⟨w.heap.size, 0, none⟩) 0 0) 0 (flat []) := ownsRow_base (Elems.empty_own w) hB
set_option maxRecDepth 100000 in
set_option maxHeartbeats 8000000 in
theorem impl_any : GivesRL.Gives 25 redP := by
  intro a1 a2 n1 n2 l m w hz1 hz2 h1 h2
  have hb := below_alloc w (.cells #[.slice a1 n1 n1, .slice a2 n2 n2] 33)
  have hf := box_first w (.slice a1 n1 n1) (.slice a2 n2 n2) 33
  have hf2 := box_second w (.slice a1 n1 n1) (.slice a2 n2 n2) 33
  have H1 := Lib.hid (h1.below hb)
  have H2 := Lib.hid (h2.below hb)
  have HL2 := Lib.hid h2.1
  have hsz : w.heap.size < (w.alloc (.cells #[.slice a1 n1 n1, .slice a2 n2 n2] 33)).heap.size := by simp
  clear h1 h2
  go_enter Try.func25, Try.ntmps25
  go_wp2_with fail
  generalize w.alloc (.cells #[.slice a1 n1 n1, .slice a2 n2 n2] 33) = W at *
  refine (Consist.impl_any a1 a2 n1 n1 n2 n2 l m W hz1 hz2 H1.out H2.out).mono ?_
  rintro e w1 ⟨rfl, b1⟩
  have r1 := (b1.cell (p := ⟨w.heap.size, 0, none⟩) hsz).trans hf
  have r2 := (b1.cell (p := ⟨w.heap.size, 1, none⟩) hsz).trans hf2
  have hsz1 := Nat.lt_of_lt_of_le hsz b1.size
  have HB1 := Lib.hid (hb.trans (b1.mono hb.size))
  have K1 := Lib.hid (H1.out.below b1)
  have K2 := Lib.hid (H2.out.below b1)
  clear hf hf2 b1 hb
  cases hg : good l m with
  | false =>
    have HE := Lib.hid (red_bad hg)
    rw [cons_no hg]
    clear hg
    go_wp2_with fail
    go_ret2
    rw [HE.out]
    exact ⟨_, _, _, rfl, empty_rel w1 HB1.out.size, by omega, HB1.out.trans ((below_alloc _ _).mono HB1.out.size)⟩
  | true =>
    cases hc : (l.any fun p => later m p.1 p.1) with
    | true =>
      have HE := Lib.hid (red_cyc hg hc)
      rw [cons_yes hg, hc]
      clear hg hc
      go_wp2_with fail
      go_ret2
      rw [HE.out]
      exact ⟨_, _, _, rfl, empty_rel w1 HB1.out.size, by omega, HB1.out.trans ((below_alloc _ _).mono HB1.out.size)⟩
    | false =>
      have HE := Lib.hid (red_yes hg hc)
      have HG := Lib.hid hg
      have hn2 : n2 ≤ 24 := by rw [← HL2.out]; exact (Table.good_few hg).2
      rw [cons_yes hg, hc]
      clear hg hc
      go_wp2_with fail
      have HSS : Hid (∀ X, Below w1.heap.size w1 X → X.cell? ⟨w.heap.size, 0, none⟩ = some (.slice a1 n1 n1) ∧ X.cell? ⟨w.heap.size, 1, none⟩ = some (.slice a2 n2 n2)) := fun X hX => ⟨(hX.cell (p := ⟨w.heap.size, 0, none⟩) hsz1).trans r1, (hX.cell (p := ⟨w.heap.size, 1, none⟩) hsz1).trans r2⟩
      have hbdr := (Below.refl w1.heap.size w1).drew
      go_region_held3 (fun X => X.cell? ⟨w.heap.size, 0, none⟩ = some (.slice a1 n1 n1) ∧ X.cell? ⟨w.heap.size, 1, none⟩ = some (.slice a2 n2 n2))
        (first | exact s4 | exact s3 | (refine HSS.out _ ?_; (repeat (first | exact Below.refl _ _ | refine Lows.belA ?_ _ | refine Below.drew ?_)); done))
        (first
          | (go_at_call 80; refine (redundancyOf_any a1 a2 n1 n1 n2 n2 l m _ HG.out (K1.out.below hbdr) (K2.out.below hbdr)).mono ?_; rintro e w3 ⟨br, bo, bx, rfl, hir, b3⟩; have HIR := Lib.hid hir; have HB3 := Lib.hid (hbdr.trans b3); have s3 := HSS.out w3 HB3.out)
          | (go_at_call 79; refine (Elems.elems_any 121 #[.pointer (some ⟨br, 0, none⟩), .pointer (some ⟨bo, 0, none⟩)] (red m) a2 n2 n2 m w3 hn2 HIR.out.rel (fun args W => FuncI.call_enter Try.func121 (by kernel_rfl) rfl args W) (fun x y wr hm hwr => clos1_any x y br bo bx a2 n2 n2 l m wr HG.out (by omega) (HIR.out.below hwr) (key_rng HG.out (ends_key HG.out hm).2))).mono ?_; rintro e w4 ⟨p4, k4, d4, rfl, hown4, hk4, b4⟩; have HB4 := Lib.hid (HB1.out.trans ((HB3.out.trans (b4.mono HB3.out.size)).mono HB1.out.size)); have s4 := HSS.out w4 (HB3.out.trans (b4.mono HB3.out.size)))
          | fail)
      all_goals (have HOW4 := Lib.hid hown4)
      all_goals (have hsb := Nat.le_trans HB1.out.size HB3.out.size)
      all_goals clear hown4 b4 hir b3 s3 s4
      all_goals go_wp2_with fail
      all_goals go_ret2
      all_goals rw [HE.out]
      all_goals exact ⟨_, _, _, rfl, ownsRow_base HOW4.out hsb, hk4, HB4.out⟩
end Go.Proofs.Ytlgfaabobpnflaa.RedRI
