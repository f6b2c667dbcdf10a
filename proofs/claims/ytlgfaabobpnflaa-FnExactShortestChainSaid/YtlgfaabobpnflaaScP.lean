/- The program's ShortestChain. -/
import Derived.Test.YtlgfaabobpnflaaScI
import Derived.Test.YtlgfaabobpnflaaAscM
import Derived.Test.YtlgfaabobpnflaaIsLater
import Derived.Test.YtlgfaabobpnflaaGivesC
import Derived.Deep.RegionWith
namespace Go.Proofs.Ytlgfaabobpnflaa.ScP
open Go.RowKit Pairs Rec Chain Find2 GoodM Keep GivesI Lows Queue From MapStep BfsM ScM ScI Idx IsLater
noncomputable def scP (a b : Int) (l m : Ps) : Bool × Bool × List Int := if has2 l m a b = true then (decide (0 < (chainP m a b).length), true, chainP m a b) else (false, false, [])
theorem sc_no {a b : Int} {l m : Ps} (h : has2 l m a b = false) : scP a b l m = (false, false, []) := by unfold scP; rw [if_neg (by rw [h]; simp)]
theorem sc_yes {a b : Int} {l m : Ps} (h : has2 l m a b = true) : scP a b l m = (decide (0 < (chainP m a b).length), true, chainP m a b) := by unfold scP; rw [if_pos h]
set_option maxRecDepth 100000 in
set_option maxHeartbeats 8000000 in
theorem impl_any (a b : Int) : GivesC.Gives2 46 (.int .i64 a) (.int .i64 b) (scP a b) := by
  intro a1 a2 n1 n2 l m w hz1 hz2 h1 h2
  have hb := below_alloc w (.cells #[.slice a1 n1 n1, .slice a2 n2 n2] 33)
  have hf := box_first w (.slice a1 n1 n1) (.slice a2 n2 n2) 33
  have hf2 := box_second w (.slice a1 n1 n1) (.slice a2 n2 n2) 33
  have H1 := Lib.hid (h1.below hb)
  have H2 := Lib.hid (h2.below hb)
  have HL1 := Lib.hid h1.1
  have HL2 := Lib.hid h2.1
  have HB := Lib.hid hb
  clear h1 h2 hb
  go_enter Try.func46, Try.ntmps46
  go_wp2_with fail
  generalize w.alloc (.cells #[.slice a1 n1 n1, .slice a2 n2 n2] 33) = W at *
  refine (hasContexts_any a b a1 a2 n1 n1 n2 n2 l m W hz1 hz2 H1.out H2.out).mono ?_
  rintro e w1 ⟨rfl, b1⟩
  have q1 := (b1.cell (World.block_lt_of_cell? W _ hf)).trans hf
  have q2 := (b1.cell (World.block_lt_of_cell? W _ hf2)).trans hf2
  have HB1 := Lib.hid (HB.out.trans (b1.mono HB.out.size))
  have K2 := Lib.hid (H2.out.below b1)
  clear hf hf2 b1
  cases hh : has2 l m a b with
  | false =>
    have HE := Lib.hid (sc_no hh)
    clear hh
    go_wp2_with fail
    refine bodyPost_ret (v := .tuple #[.slice (some ⟨w1.heap.size, 0, none⟩) 0 0, .bool false, .bool false]) (by simp [results, Try.results46, go_sem]) rfl ?_
    rw [HE.out]
    exact ⟨_, _, _, rfl, ownsRow_base (That.empty_own w1) HB1.out.size, by omega, HB1.out.trans ((below_alloc _ _).mono HB1.out.size)⟩
  | true =>
    have HE := Lib.hid (sc_yes hh)
    obtain ⟨hg, ⟨ia, hia⟩, ⟨ib, hib⟩⟩ := has2_iff.1 hh
    have HG := Lib.hid hg
    have har := rng_at hg hia
    have hbr := rng_at hg hib
    have hn2 : m.length ≤ 24 := (Table.good_few hg).2
    have HM : Hid (∀ x y, (x, y) ∈ m → (1 ≤ x ∧ x ≤ 999) ∧ (1 ≤ y ∧ y ≤ 999)) := fun x y hxy => by
      obtain ⟨⟨i, hi⟩, ⟨j, hj⟩⟩ := Table.good_ends hg x y hxy
      exact ⟨rng_at hg hi, rng_at hg hj⟩
    clear hh hg hia hib
    go_wp2_with fail
    refine (lowersOf_any a1 a2 n1 n1 n2 n2 l m w1 HG.out K2.out).mono ?_
    rintro e w2 ⟨bl, rfl, hlow, hbl, b2⟩
    have HLW := Lib.hid hlow
    have HB2 := Lib.hid (HB1.out.trans (b2.mono HB1.out.size))
    clear hlow b2 q1 q2
    go_wp2_with fail
    refine (short_any bl n2 m a b w2 (AscM.lows_sorted HG.out) hn2 HM.out har hbr HLW.out).mono ?_
    rintro e w3 ⟨p, k, d, rfl, hown, hk, b3⟩
    have hkl : (chainP m a b).length = k := by have h := hown.1; rw [ints_len] at h; omega
    have HO := Lib.hid hown
    have HB3 := Lib.hid (HB2.out.trans (b3.mono HB2.out.size))
    have hs2 := HB2.out.size
    rw [hkl] at HE
    clear hown b3 hkl
    go_wp2_with fail
    refine bodyPost_ret (v := .tuple #[.slice p k d, .bool (decide (0 < k)), .bool true]) (by simp [results, Try.results46, go_sem]) rfl ?_
    rw [HE.out]
    exact ⟨p, k, d, rfl, ownsRow_base HO.out hs2, hk, HB3.out⟩
end Go.Proofs.Ytlgfaabobpnflaa.ScP
