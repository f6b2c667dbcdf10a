/- The program's DepthOf. -/
import Derived.Test.YtlgfaabobpnflaaDepI
import Derived.Test.YtlgfaabobpnflaaGivesD
namespace Go.Proofs.Ytlgfaabobpnflaa.DepthI
open Go.RowKit Go.Maps Pairs Rec Chain Find2 GoodM Keep GivesI Lows Queue From MapStep Order Idx IsLater OrdM DepM NumMap DepI GivesD
noncomputable def depthP (l m : Ps) (z : Int) : Int × Bool := if ok5 l m = true then (if (isAt l z).isSome = true then (depth l m z, true) else (0, false)) else (0, false)
theorem dep_bad {l m : Ps} {z : Int} (h : ok5 l m = false) : depthP l m z = (0, false) := by unfold depthP; rw [if_neg (by rw [h]; simp)]
theorem dep_no {l m : Ps} {z : Int} (h : ok5 l m = true) (h2 : (isAt l z).isSome = false) : depthP l m z = (0, false) := by unfold depthP; rw [if_pos h, if_neg (by rw [h2]; simp)]
theorem dep_yes {l m : Ps} {z : Int} (h : ok5 l m = true) (h2 : (isAt l z).isSome = true) : depthP l m z = (depth l m z, true) := by unfold depthP; rw [if_pos h, if_pos h2]
theorem ok5_good {l m : Ps} (h : ok5 l m = true) : good l m = true ∧ (l.any fun p => later m p.1 p.1) = false := by
  unfold ok5 at h
  simp only [Bool.and_eq_true, Bool.not_eq_true'] at h
  exact h
set_option maxRecDepth 100000 in
set_option maxHeartbeats 4000000 in
theorem impl_any : AnswersI0 35 depthP := by
  intro a1 a2 n1 n2 l m z w hz1 hz2 h1 h2
  have hb := below_alloc w (.cells #[.slice a1 n1 n1, .slice a2 n2 n2] 33)
  have hf := box_first w (.slice a1 n1 n1) (.slice a2 n2 n2) 33
  have hf2 := box_second w (.slice a1 n1 n1) (.slice a2 n2 n2) 33
  have hsz : w.heap.size < (w.alloc (.cells #[.slice a1 n1 n1, .slice a2 n2 n2] 33)).heap.size := by simp
  have H1 := Lib.hid (h1.below hb)
  have H2 := Lib.hid (h2.below hb)
  have HB := Lib.hid hb
  clear h1 h2 hb
  go_enter Try.func35, Try.ntmps35
  go_wp2_with fail
  generalize w.alloc (.cells #[.slice a1 n1 n1, .slice a2 n2 n2] 33) = W at *
  refine (depthsOf_any a1 a2 n1 n2 l m W hz1 hz2 H1.out H2.out).mono ?_
  rintro e w1 ⟨g, n, rfl, hnum, hgl, b1⟩
  have q1 := (b1.cell (World.block_lt_of_cell? W _ hf)).trans hf
  have q2 := (b1.cell (World.block_lt_of_cell? W _ hf2)).trans hf2
  have HB1 := Lib.hid (HB.out.trans (b1.mono HB.out.size))
  have HN := Lib.hid hnum
  have K1 := Lib.hid (H1.out.below b1)
  clear hf hf2 b1 hnum
  cases hok : ok5 l m with
  | false =>
    have HE := Lib.hid (dep_bad (z := z) hok)
    clear hok
    go_wp2_with fail
    go_ret2
    exact ⟨by rw [HE.out]; rfl, HB1.out⟩
  | true =>
    have HOK := Lib.hid hok
    have hgd := (ok5_good hok).1
    have HGD := Lib.hid hgd
    have HA := Lib.hid (good_asc hgd).1
    clear hok hgd
    go_wp2_with fail
    refine (Avr.hasContext_any a1 a2 n1 n1 n2 n2 l z w1 hz1 K1.out HA.out).mono ?_
    rintro e w2 ⟨rfl, b2⟩
    have HB2 := Lib.hid (HB1.out.trans (b2.mono HB1.out.size))
    have HN2 := Lib.hid ((HN.out HOK.out).below b2)
    clear b2 q1 q2
    cases ha : isAt l z with
    | none =>
      have HE := Lib.hid (dep_no (z := z) HOK.out (by rw [ha]; rfl))
      simp only [Option.isSome_none]
      clear ha
      go_wp2_with fail
      go_ret2
      exact ⟨by rw [HE.out]; rfl, HB2.out⟩
    | some i =>
      have HE := Lib.hid (dep_yes (z := z) HOK.out (by rw [ha]; rfl))
      have hzr := rng_at HGD.out ha
      have k1 := num_look HN2.out (x := z) (by omega)
      simp only [Option.isSome_some]
      clear ha
      go_wp2_with fail
      go_ret2
      exact ⟨by rw [HE.out]; rfl, HB2.out⟩
end Go.Proofs.Ytlgfaabobpnflaa.DepthI
