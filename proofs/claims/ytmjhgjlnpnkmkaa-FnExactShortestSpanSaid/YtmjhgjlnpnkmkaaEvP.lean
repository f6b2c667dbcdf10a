/- The program's IsValidEvidence. -/
import Derived.Test.YtmjhgjlnpnkmkaaEvI
namespace Go.Proofs.Ytmjhgjlnpnkmkaa.EvP
open Go.RowKit Pairs Rec RecEq Chain Find2 GoodM Keep GivesI Da DaT DaG EvM RedS Consist Idx
set_option linter.unusedVariables false
theorem ev_bad {l m : List (Int × Int)} {L : List Dt} (h : good l m = false) : evP l m L = false := by unfold evP; rw [h]; rfl
theorem ev_cyc {l m : List (Int × Int)} {L : List Dt} (h : cyc l m = true) : evP l m L = false := by unfold evP; rw [h, Bool.not_true, Bool.and_false]; rfl
theorem ev_yes {l m : List (Int × Int)} {L : List Dt} (h : good l m = true) (h2 : cyc l m = false) : evP l m L = evi l L := by unfold evP; rw [h, h2]; rfl
def Says (f : FuncId) : Prop := ∀ (a1 a2 p : Option Addr) (n1 c1 n2 c2 np cp : Nat) (l m : List (Int × Int)) (L : List Dt) (w : World), n1 ≤ 1048576 → n2 ≤ 1048576 → np ≤ 1048576 → Holds w a1 n1 l → Holds w a2 n2 m → HoldsD w p np L →
    Calls Try.prog f #[.agg #[.slice a1 n1 c1, .slice a2 n2 c2], .slice p np cp] w fun e w' => e = .returned (.bool (evP l m L)) ∧ Below w.heap.size w w'
set_option maxRecDepth 100000 in
set_option maxHeartbeats 4000000 in
theorem impl_any : Says 17 := by
  intro a1 a2 p n1 c1 n2 c2 np cp l m L w z1 z2 z3 h1 h2 h3
  have hb := below_alloc w (.cells #[.slice a1 n1 c1, .slice a2 n2 c2] 33)
  have hf := box_first w (.slice a1 n1 c1) (.slice a2 n2 c2) 33
  have hf2 := box_second w (.slice a1 n1 c1) (.slice a2 n2 c2) 33
  have hsz : w.heap.size < (w.alloc (.cells #[.slice a1 n1 c1, .slice a2 n2 c2] 33)).heap.size := by simp
  have H1 := Lib.hid (h1.below hb)
  have H2 := Lib.hid (h2.below hb)
  have H3 := Lib.hid (h3.below hb)
  have HB := Lib.hid hb
  clear h1 h2 h3 hb
  go_enter Try.func17, Try.ntmps17
  go_wp2_with fail
  generalize w.alloc (.cells #[.slice a1 n1 c1, .slice a2 n2 c2] 33) = W at *
  refine (Consist.impl_any a1 a2 n1 c1 n2 c2 l m W z1 z2 H1.out H2.out).mono ?_
  rintro e w1 ⟨rfl, b1⟩
  have r1 := (b1.cell (p := ⟨w.heap.size, 0, none⟩) hsz).trans hf
  have r2 := (b1.cell (p := ⟨w.heap.size, 1, none⟩) hsz).trans hf2
  have HB1 := Lib.hid (HB.out.trans (b1.mono HB.out.size))
  have B1 := Lib.hid b1
  clear b1 hf hf2
  cases hg : good l m with
  | false =>
    have HE := Lib.hid (ev_bad (L := L) hg)
    rw [cons_no hg]
    clear hg
    go_wp2_with fail
    go_ret
    exact ⟨by rw [HE.out]; rfl, HB1.out⟩
  | true =>
    rw [cons_yes hg]
    cases hc : cyc l m with
    | true =>
      have HE := Lib.hid (ev_cyc (L := L) hc)
      have hc' : (l.any fun p => Chain.later m p.1 p.1) = true := hc
      rw [hc']
      clear hg hc hc'
      go_wp2_with fail
      go_ret
      exact ⟨by rw [HE.out]; rfl, HB1.out⟩
    | false =>
      have HE := Lib.hid (ev_yes (L := L) hg hc)
      have HA := Lib.hid (good_asc hg).1
      have hc' : (l.any fun p => Chain.later m p.1 p.1) = false := hc
      rw [hc']
      clear hg hc hc'
      go_wp2_with fail
      refine (EvI.isEvidence_any a1 a2 p n1 c1 n2 c2 np cp l L w1 z1 z3 (H1.out.below B1.out) HA.out (H3.out.below B1.out)).mono ?_
      rintro e w2 ⟨rfl, b2⟩
      have HB2 := Lib.hid (HB1.out.trans (b2.mono HB1.out.size))
      clear b2
      obtain ⟨bb, hbb⟩ : ∃ bb, evi l L = bb := ⟨_, rfl⟩
      have HV := Lib.hid hbb
      rw [hbb]
      clear hbb
      go_wp2_with fail
      go_ret
      exact ⟨by rw [HE.out, HV.out]; cases bb <;> rfl, HB2.out⟩
end Go.Proofs.Ytmjhgjlnpnkmkaa.EvP
