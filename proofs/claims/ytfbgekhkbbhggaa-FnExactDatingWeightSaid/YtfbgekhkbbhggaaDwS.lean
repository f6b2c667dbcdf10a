/- The model's DatingWeight. -/
import Derived.Test.YtfbgekhkbbhggaaWgtS
import Derived.Test.YtfbgekhkbbhggaaVdS
import Derived.Test.YtfbgekhkbbhggaaDwI
namespace Go.Proofs.Ytfbgekhkbbhggaa.DwS
open Go Go.RowKit Pairs Rec Keep GivesI Zh Dr DvM ChM ChE Find2 GoodM ShI AtM DwI
set_option linter.unusedVariables false
set_option maxRecDepth 100000 in
set_option maxHeartbeats 8000000 in
theorem spec_any (a1 a2 a3 : Option Addr) (n1 c1 n2 c2 n3 c3 : Nat) (l m : List (Int × Int)) (Z : List Zh.Pt) (p : Option Addr) (k c : Nat) (ys : List Int) (w : World) (h : Arg w a1 n1 a2 n2 a3 n3 l m Z) (hk0 : k ≤ 1048576) (hy : HoldsI w p k ys) :
    Calls Try.prog 19 #[.agg #[.slice a1 n1 c1, .slice a2 n2 c2, .slice a3 n3 c3], .slice p k c] w fun e w' => e = .returned (.tuple #[.int .i64 (dwP l m Z ys).1, .bool (dwP l m Z ys).2]) ∧ Below w.heap.size w w' := by
  have hb := below_alloc w (.cells #[.slice a1 n1 c1, .slice a2 n2 c2, .slice a3 n3 c3] 37)
  obtain ⟨f1, f2, f3⟩ := box3 w (.slice a1 n1 c1) (.slice a2 n2 c2) (.slice a3 n3 c3) 37
  have hlt : w.heap.size < (w.alloc (.cells #[.slice a1 n1 c1, .slice a2 n2 c2, .slice a3 n3 c3] 37)).heap.size := by simp
  have H := Lib.hid (h.below hb)
  have HY := Lib.hid (hy.below hb)
  have HB := Lib.hid hb
  have hl3 := Lib.hid h.h3.1
  have hyl := Lib.hid hy.1
  clear h hy hb
  obtain ⟨r, hr⟩ : ∃ r, r = dwP l m Z ys := ⟨_, rfl⟩
  rw [← hr]
  have HR := Lib.hid hr
  clear hr
  go_enter Try.func19, Try.ntmps19
  go_wp2_with fail
  generalize w.alloc (.cells #[.slice a1 n1 c1, .slice a2 n2 c2, .slice a3 n3 c3] 37) = W at *
  refine (VdS.good_any a1 a2 a3 n1 c1 n2 c2 n3 c3 l m Z W H.out).mono ?_
  rintro e w1 ⟨rfl, b1⟩
  have g1 := (b1.cell (p := ⟨w.heap.size, 0, none⟩) hlt).trans f1
  have g2 := (b1.cell (p := ⟨w.heap.size, 1, none⟩) hlt).trans f2
  have g3 := (b1.cell (p := ⟨w.heap.size, 2, none⟩) hlt).trans f3
  have H1 := Lib.hid (H.out.below b1)
  have HY1 := Lib.hid (HY.out.below b1)
  have HB1 := Lib.hid (HB.out.trans (b1.mono HB.out.size))
  clear b1 f1 f2 f3 hlt H HY HB
  cases hg : vd l m Z with
  | false =>
    have HN := Lib.hid (HR.out.trans (dwP_no fun e _ => by rw [hg] at e; cases e))
    clear hg
    go_wp2_with fail
    go_ret2
    exact ⟨by rw [HN.out]; rfl, HB1.out⟩
  | true =>
    by_cases hkn : k = n3
    · have HV := Lib.hid (vd_iff.1 hg)
      have HN := Lib.hid (HR.out.trans (dwP_yes hg (by rw [hyl.out, hl3.out, hkn])))
      have hkni : (k : Int) = (n3 : Int) := by omega
      have HKN := Lib.hid hkn
      clear hg hkn
      go_wp2_with fail
      clear hkni
      refine (WgtS.weight_any a1 a2 a3 n1 c1 n2 c2 n3 c3 l m Z p k c ys w1 H1.out HV.out HY1.out HKN.out).mono ?_
      rintro e w2 ⟨rfl, b2⟩
      have HB2 := Lib.hid (HB1.out.trans (b2.mono HB1.out.size))
      clear b2
      go_wp2_with fail
      go_ret2
      exact ⟨by rw [HN.out]; rfl, HB2.out⟩
    · have HN := Lib.hid (HR.out.trans (dwP_no fun _ e => by rw [hyl.out, hl3.out] at e; exact hkn e))
      have hkni : ¬ (k : Int) = (n3 : Int) := by omega
      clear hg
      go_wp2_with fail
      go_ret2
      exact ⟨by rw [HN.out]; rfl, HB1.out⟩
end Go.Proofs.Ytfbgekhkbbhggaa.DwS
