/- The model's DepthOf. -/
import Derived.Test.YtlgfaabobpnflaaDepS
import Derived.Test.YtlgfaabobpnflaaDepthI
namespace Go.Proofs.Ytlgfaabobpnflaa.DepthS
open Go.RowKit Pairs Rec RecEq Chain Find2 GoodM Keep GivesI Lows Order Bit Table Idx That IsLater Consist OrdM DepM RedS DepS DepI DepthI GivesD
set_option maxRecDepth 100000 in
set_option maxHeartbeats 4000000 in
theorem spec_any : AnswersI0 34 depthP := by
  intro a1 a2 n1 n2 l m z w hz1 hz2 h1 h2
  have hb := below_alloc w (.cells #[.slice a1 n1 n1, .slice a2 n2 n2] 33)
  have hf := box_first w (.slice a1 n1 n1) (.slice a2 n2 n2) 33
  have hf2 := box_second w (.slice a1 n1 n1) (.slice a2 n2 n2) 33
  have H1 := Lib.hid (h1.below hb)
  have H2 := Lib.hid (h2.below hb)
  have HL1 := Lib.hid h1.1
  have HB := Lib.hid hb
  clear h1 h2 hb
  go_enter Try.func34, Try.ntmps34
  go_wp2_with fail
  generalize w.alloc (.cells #[.slice a1 n1 n1, .slice a2 n2 n2] 33) = W at *
  refine (l5Good_any a1 a2 n1 n1 n2 n2 l m W H1.out H2.out).mono ?_
  rintro e w1 ⟨rfl, b1⟩
  have q1 := (b1.cell (World.block_lt_of_cell? W _ hf)).trans hf
  have q2 := (b1.cell (World.block_lt_of_cell? W _ hf2)).trans hf2
  have HB1 := Lib.hid (HB.out.trans (b1.mono HB.out.size))
  have K1 := Lib.hid (H1.out.below b1)
  have K2 := Lib.hid (H2.out.below b1)
  clear hf hf2 b1
  cases hok : ok5 l m with
  | false =>
    have HE := Lib.hid (dep_bad (z := z) hok)
    have h5 : (good l m && !cyc l m) = false := hok
    rw [h5]
    clear hok h5
    go_wp2_with fail
    go_ret2
    exact ⟨by rw [HE.out]; rfl, HB1.out⟩
  | true =>
    have HOK := Lib.hid hok
    have hgd := (ok5_good hok).1
    have HGD := Lib.hid hgd
    have HC : Hid (cyc l m = false) := (ok5_good hok).2
    have hn1 : n1 ≤ 10 := by rw [← HL1.out]; exact (Table.good_few hgd).1
    have h5 : (good l m && !cyc l m) = true := hok
    rw [h5]
    clear hok hgd h5
    go_wp2_with fail
    refine (l2Find_any a1 a2 n1 n1 n2 n2 l z w1 (by omega) K1.out).mono ?_
    rintro e w2 ⟨rfl, b2⟩
    have HB2 := Lib.hid (HB1.out.trans (b2.mono HB1.out.size))
    have M1 := Lib.hid (K1.out.below b2)
    have M2 := Lib.hid (K2.out.below b2)
    have q1 := (b2.cell (World.block_lt_of_cell? w1 _ q1)).trans q1
    have q2 := (b2.cell (World.block_lt_of_cell? w1 _ q2)).trans q2
    clear b2
    cases ha : isAt l z with
    | none =>
      have HE := Lib.hid (dep_no (z := z) HOK.out (by rw [ha]; rfl))
      rw [find_none ha]
      clear ha
      go_wp2_with fail
      go_ret2
      exact ⟨by rw [HE.out]; rfl, HB2.out⟩
    | some i =>
      have HE := Lib.hid (dep_yes (z := z) HOK.out (by rw [ha]; rfl))
      have HAI := Lib.hid ha
      have hil : i < n1 := by rw [← HL1.out]; exact isAt_lt ha
      obtain ⟨tz, hiz⟩ := isAt_num ha
      have HIZ := Lib.hid hiz
      rw [find_some ha]
      clear ha hiz
      have hi0 : (0 : Int) ≤ (i : Int) := by omega
      have hin : (i : Int) < (n1 : Int) := by omega
      go_wp2_with fail
      have HSS : Hid (∀ X, Below w2.heap.size w2 X → X.cell? ⟨w.heap.size, 0, none⟩ = some (.slice a1 n1 n1) ∧ X.cell? ⟨w.heap.size, 1, none⟩ = some (.slice a2 n2 n2)) := fun X hX => ⟨(hX.cell (World.block_lt_of_cell? w2 _ q1)).trans q1, (hX.cell (World.block_lt_of_cell? w2 _ q2)).trans q2⟩
      have hbdr := (Below.refl w2.heap.size w2).drew
      obtain ⟨z1, z2⟩ := HSS.out w2.drew hbdr
      have HFI := Lib.hid (fun W (h : Holds W a1 n1 l) => (find_some HAI.out) ▸ l2Find_any a1 a2 n1 n1 n2 n2 l z W (by omega) h)
      go_region_with (first
        | (go_at_call 91
           refine (l5Depths_any a1 a2 n1 n1 n2 n2 l m _ HGD.out HC.out ?_ ?_).mono ?_
           · first | exact M1.out.below hbdr | exact M1.out.below bF
           · first | exact M2.out.below hbdr | exact M2.out.below bF
           rintro e wD ⟨g, L, rfl, hge, hH, hLl, hT, hbD⟩
           have bD : Below w2.heap.size w2 wD := by first | exact hbdr.trans hbD | exact bF.trans (hbD.mono bF.size)
           obtain ⟨v, hv, hvz⟩ := hT i z tz HIZ.out
           have hVZ := Lib.hid hvz
           have hcD : wD.cell? ⟨g, i, none⟩ = some (.int .i64 (v : Int)) := by
             obtain ⟨bb, oo, zz, hp, hzz, e3⟩ := hH.at i hil
             obtain ⟨v', hv', rfl⟩ := row_at hzz
             obtain rfl : v' = v := by rw [hv] at hv'; exact (Option.some.inj hv').symm
             injection hp with hp
             injection hp with hp1 hp2
             subst hp1 hp2
             rw [Nat.zero_add] at e3
             exact e3
           obtain ⟨m1, m2⟩ := HSS.out _ bD
           clear hge hH hLl hT hv hvz)
        | (go_at_call 90
           refine (HFI.out _ ?_).mono ?_
           · first | exact M1.out.below hbdr | exact M1.out.below bD
           rintro e wF ⟨rfl, hbF⟩
           have bF : Below w2.heap.size w2 wF := by first | exact hbdr.trans hbF | exact bD.trans (hbF.mono bD.size)
           (try (have hcD := (hbF.cell (World.block_lt_of_cell? wD _ hcD)).trans hcD))
           obtain ⟨n1', n2'⟩ := HSS.out _ bF)
        | fail)
      all_goals go_wp2_with fail
      all_goals go_ret2
      all_goals refine ⟨by rw [HE.out, ← hVZ.out]; rfl, ?_⟩
      all_goals first | exact HB2.out.trans (bF.mono HB2.out.size) | exact HB2.out.trans (bD.mono HB2.out.size)
end Go.Proofs.Ytlgfaabobpnflaa.DepthS
