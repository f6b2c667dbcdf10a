/- PlaceRange, in plain words: how many contexts are later than one, and how many earlier; the program's side. -/
import Derived.Test.YtjllbbkpmmnkgaaRedS
import Derived.Test.YtjllbbkpmmnkgaaLaterCtxI
import Derived.Test.YtjllbbkpmmnkgaaEarlierCtxI
import Derived.Test.YtjllbbkpmmnkgaaConsistA
import Derived.BigQuiet
namespace Go.Proofs.Ytjllbbkpmmnkgaa.PlrM
open Go.RowKit Pairs Rec Chain Find2 GoodM Keep GivesI Lows Order Bit Table That RedS
noncomputable def prP (z : Int) (l m : Ps) : Int × Int × Bool :=
  if good l m = true ∧ cyc l m = false ∧ (isAt l z).isSome = true then (((sel (fun x => later m x z) l).length : Int), (l.length : Int) - 1 - ((sel (fun x => later m z x) l).length : Int), true) else (0, 0, false)
theorem pr_no {z : Int} {l m : Ps} (h : ¬ (good l m = true ∧ cyc l m = false ∧ (isAt l z).isSome = true)) : prP z l m = (0, 0, false) := by unfold prP; rw [if_neg h]
theorem pr_yes {z : Int} {l m : Ps} (h1 : good l m = true) (h2 : cyc l m = false) (h3 : (isAt l z).isSome = true) : prP z l m = (((sel (fun x => later m x z) l).length : Int), (l.length : Int) - 1 - ((sel (fun x => later m z x) l).length : Int), true) := by unfold prP; rw [if_pos ⟨h1, h2, h3⟩]
def Ans (z : Int) (l m : Ps) (w : World) (e : Ending) (w' : World) : Prop := e = .returned (.tuple #[.int .i64 (prP z l m).1, .int .i64 (prP z l m).2.1, .bool (prP z l m).2.2]) ∧ Below w.heap.size w w'
set_option maxRecDepth 100000 in
set_option maxHeartbeats 4000000 in
theorem impl_any (z : Int) (a1 a2 : Option Addr) (n1 c1 n2 c2 : Nat) (l m : List (Int × Int)) (w : World) (hz1 : n1 ≤ 1048576) (hz2 : n2 ≤ 1048576) (h1 : Holds w a1 n1 l) (h2 : Holds w a2 n2 m) :
    Calls Try.prog 7 #[.agg #[.slice a1 n1 c1, .slice a2 n2 c2], .int .i64 z] w (Ans z l m w) := by
  have hb := below_alloc w (.cells #[.slice a1 n1 c1, .slice a2 n2 c2] 32)
  have hf := box_first w (.slice a1 n1 c1) (.slice a2 n2 c2) 32
  have hf2 := box_second w (.slice a1 n1 c1) (.slice a2 n2 c2) 32
  have H1 := Lib.hid (h1.below hb)
  have H2 := Lib.hid (h2.below hb)
  have HL1 := Lib.hid h1.1
  have hsz : w.heap.size < (w.alloc (.cells #[.slice a1 n1 c1, .slice a2 n2 c2] 32)).heap.size := by simp
  have HB := Lib.hid hb
  clear h1 h2 hb
  go_enter Try.func7, Try.ntmps7
  go_wp2_with fail
  generalize w.alloc (.cells #[.slice a1 n1 c1, .slice a2 n2 c2] 32) = W at *
  refine (Consist.impl_any a1 a2 n1 c1 n2 c2 l m W hz1 hz2 H1.out H2.out).mono ?_
  rintro e w1 ⟨rfl, b1⟩
  have r1 := (b1.cell (p := ⟨w.heap.size, 0, none⟩) hsz).trans hf
  have r2 := (b1.cell (p := ⟨w.heap.size, 1, none⟩) hsz).trans hf2
  have hsz1 := Nat.lt_of_lt_of_le hsz b1.size
  have HB1 := Lib.hid (HB.out.trans (b1.mono HB.out.size))
  have K1 := Lib.hid (H1.out.below b1)
  have K2 := Lib.hid (H2.out.below b1)
  clear hf hf2 b1
  by_cases hg : good l m = true ∧ cyc l m = false
  · have hcp : Consist.consP l m = (true, true) := by
      rw [Consist.cons_yes hg.1]
      have := hg.2
      unfold cyc at this
      rw [this]
      rfl
    rw [hcp]
    have HG := Lib.hid hg
    have hA := (Idx.good_asc hg.1).1
    have HA := Lib.hid hA
    clear hg hcp hA
    go_wp2_with fail
    refine (Avr.hasContext_any a1 a2 n1 c1 n2 c2 l z w1 hz1 K1.out HA.out).mono ?_
    rintro e w2 ⟨rfl, b2⟩
    have q1 := (b2.cell (p := ⟨w.heap.size, 0, none⟩) (by show w.heap.size < _; omega)).trans r1
    have q2 := (b2.cell (p := ⟨w.heap.size, 1, none⟩) (by show w.heap.size < _; omega)).trans r2
    have hsz2 := Nat.lt_of_lt_of_le hsz1 b2.size
    have HB2 := Lib.hid (HB1.out.trans (b2.mono HB1.out.size))
    have M1 := Lib.hid (K1.out.below b2)
    have M2 := Lib.hid (K2.out.below b2)
    clear r1 r2 b2
    cases hz : (isAt l z).isSome with
    | false =>
      have HE := Lib.hid (pr_no (z := z) (l := l) (m := m) (by rw [hz]; simp))
      clear hz
      go_wp2_with fail
      go_ret3
      unfold Ans
      rw [HE.out]
      exact ⟨rfl, HB2.out⟩
    | true =>
      have HE := Lib.hid (pr_yes (z := z) HG.out.1 HG.out.2 hz)
      have HC1 := Lib.hid (LaterCtxI.ctxs_some (z := z) HG.out.1 hz)
      have HC2 := Lib.hid (EarlierCtxI.ctxs_some (z := z) HG.out.1 hz)
      have hn1 : n1 ≤ 10 := by rw [← HL1.out]; exact (Table.good_few HG.out.1).1
      have hl1 := sel_len (fun x => later m x z) l
      have hl2 := sel_len (fun x => later m z x) l
      rw [HL1.out] at hl1 hl2
      have HLL := Lib.hid (And.intro hl1 hl2)
      clear hz hl1 hl2
      go_wp2_with fail
      refine (LaterCtxI.impl_any z a1 a2 n1 c1 n2 c2 l m w2 hz1 hz2 M1.out M2.out).mono ?_
      rintro e w3 ⟨p3, k3, d3, rfl, o3, hk3, b3⟩
      rw [HC1.out] at o3 ⊢
      have q1' := (b3.cell (p := ⟨w.heap.size, 0, none⟩) (by show w.heap.size < _; omega)).trans q1
      have q2' := (b3.cell (p := ⟨w.heap.size, 1, none⟩) (by show w.heap.size < _; omega)).trans q2
      have hsz3 := Nat.lt_of_lt_of_le hsz2 b3.size
      have HB3 := Lib.hid (HB2.out.trans (b3.mono HB2.out.size))
      have N1 := Lib.hid (M1.out.below b3)
      have N2 := Lib.hid (M2.out.below b3)
      have hk3l : (sel (fun x => later m x z) l).length = k3 := (holds_own o3).1
      have HK3 := Lib.hid hk3l
      clear q1 q2 b3 o3 hk3l
      go_wp2_with fail
      refine (EarlierCtxI.impl_any z a1 a2 n1 c1 n2 c2 l m w3 hz1 hz2 N1.out N2.out).mono ?_
      rintro e w4 ⟨p4, k4, d4, rfl, o4, hk4, b4⟩
      rw [HC2.out] at o4 ⊢
      have q1 := (b4.cell (p := ⟨w.heap.size, 0, none⟩) (by show w.heap.size < _; omega)).trans q1'
      have q2 := (b4.cell (p := ⟨w.heap.size, 1, none⟩) (by show w.heap.size < _; omega)).trans q2'
      have HB4 := Lib.hid (HB3.out.trans (b4.mono HB3.out.size))
      have hk4l : (sel (fun x => later m z x) l).length = k4 := (holds_own o4).1
      have hk4b : k4 ≤ n1 := by rw [← hk4l]; exact HLL.out.2
      have HK4 := Lib.hid hk4l
      clear q1' q2' b4 o4 hk4l
      go_wp2_with fail
      go_quiet (fail)
      go_wp2_with fail
      go_ret3
      unfold Ans
      rw [HE.out, HK3.out, HK4.out, HL1.out]
      refine ⟨?_, HB4.out.trans ((Joins.below_draws _ _ _).mono HB4.out.size)⟩
      have e1 : wrap64 (wrap64 ((n1 : Int) - 1) - (k4 : Int)) = (n1 : Int) - 1 - (k4 : Int) := by unfold wrap64; omega
      first | rfl | (rw [e1]) | (simp [e1])
  · have hcp : (Consist.consP l m).1 = false := by
      cases hg2 : good l m with
      | false => rw [Consist.cons_no hg2]
      | true =>
        rw [Consist.cons_yes hg2]
        cases hc : cyc l m with
        | false => exact absurd ⟨hg2, hc⟩ hg
        | true =>
          unfold cyc at hc
          rw [hc]
          rfl
    have HE := Lib.hid (pr_no (z := z) (l := l) (m := m) (fun h => hg ⟨h.1, h.2.1⟩))
    rw [hcp]
    generalize (Consist.consP l m).2 = cc
    clear hg hcp
    go_wp2_with fail
    go_ret3
    unfold Ans
    rw [HE.out]
    exact ⟨rfl, HB1.out⟩
end Go.Proofs.Ytjllbbkpmmnkgaa.PlrM
