/- The walk of the law FnExactLaterBy, from contracts of the program's and of the model's LaterBy. -/
import Derived.Test.YtfnbjfmegikciaaLz
import Derived.Deep.DeepCutAuto
namespace Go.Proofs.Ytfnbjfmegikciaa.WLaterBy
open Go.ChangeShapes Go.WideShapes Go.ChangeAt Go.RowKit
open Pairs Rec RecOpen Keep GivesI Di ShI
set_option linter.unusedVariables false
set_option maxRecDepth 100000 in
set_option maxHeartbeats 32000000 in
theorem walk (F : Int → List Int → Int → List Int → Option (Int × List Int)) (hI : ∀ (fa : Int) (pa : Option Addr) (na : Nat) (Ma : List Int) (fb : Int) (pb : Option Addr) (nb : Nat) (Mb : List Int) (w : World), na ≤ 1048576 → nb ≤ 1048576 → HoldsI w pa na Ma → HoldsI w pb nb Mb → Calls Try.prog 32 #[.agg #[.int .i64 fa, .slice pa na na], .agg #[.int .i64 fb, .slice pb nb nb]] w (ResZ (F fa Ma fb Mb).isSome ((F fa Ma fb Mb).getD (0, [])).1 ((F fa Ma fb Mb).getD (0, [])).2 w)) (hM : ∀ (fa : Int) (pa : Option Addr) (na : Nat) (Ma : List Int) (fb : Int) (pb : Option Addr) (nb : Nat) (Mb : List Int) (w : World), na ≤ 1048576 → nb ≤ 1048576 → HoldsI w pa na Ma → HoldsI w pb nb Mb → Calls Try.prog 31 #[.agg #[.int .i64 fa, .slice pa na na], .agg #[.int .i64 fb, .slice pb nb nb]] w (ResZ (F fa Ma fb Mb).isSome ((F fa Ma fb Mb).getD (0, [])).1 ((F fa Ma fb Mb).getD (0, [])).2 w)) (fa : Int) (pa : Option Addr) (na ca : Nat) (Ma : List Int) (fb : Int) (pb : Option Addr) (nb cb : Nat) (Mb : List Int) (w : World) (z1 : na ≤ 9223372036854775807) (H1 : HoldsI w pa na Ma) (z2 : nb ≤ 9223372036854775807) (H2 : HoldsI w pb nb Mb) :
    Calls Try.prog 8 #[.agg #[.int .i64 fa, .slice pa na ca], .agg #[.int .i64 fb, .slice pb nb cb]] w fun e w' => e = .returned (.bool true) ∧ Below w.heap.size w w' := by
  have H0a := Lib.hid H1
  have H0b := Lib.hid H2
  have hI1 := fun (p1 p2 : Option Addr) (w : World) h1 h2 h3 h4 => hI fa p1 na Ma fb p2 nb Mb w h1 h2 h3 h4
  have hM1 := fun (p1 p2 : Option Addr) (w : World) h1 h2 h3 h4 => hM fa p1 na Ma fb p2 nb Mb w h1 h2 h3 h4
  clear hI hM
  generalize (F fa Ma fb Mb).isSome = ok at hI1 hM1
  generalize ((F fa Ma fb Mb).getD (0, [])).1 = fr at hI1 hM1
  generalize ((F fa Ma fb Mb).getD (0, [])).2 = A at hI1 hM1
  have HI := Lib.hid hI1
  have HM := Lib.hid hM1
  clear hI1 hM1
  have KA := Lib.hid H1
  have KB := Lib.hid H2
  have HB := Lib.hid (Below.refl w.heap.size w)
  clear H1 H2
  obtain ⟨e0, he0⟩ : ∃ e0, e0 = w.heap.size := ⟨_, rfl⟩
  obtain ⟨hs2, a1, a2, b1, b2, -, -, b⟩ := two w (.int .i64 fa) (.slice pa na ca) (.int .i64 fb) (.slice pb nb cb) 24 24
  have al : w.heap.size < ((w.alloc (.cells #[.int .i64 fa, .slice pa na ca] 24)).alloc (.cells #[.int .i64 fb, .slice pb nb cb] 24)).heap.size := by rw [hs2]; omega
  have bl : w.heap.size + 1 < ((w.alloc (.cells #[.int .i64 fa, .slice pa na ca] 24)).alloc (.cells #[.int .i64 fb, .slice pb nb cb] 24)).heap.size := by rw [hs2]; omega
  replace KA := Lib.hid (KA.out.below b)
  replace KB := Lib.hid (KB.out.below b)
  replace HB := Lib.hid (HB.out.trans (b.mono HB.out.size))
  clear b hs2
  go_enter Try.func8, Try.ntmps8
  go_wp2_with fail
  generalize ((w.alloc (.cells #[.int .i64 fa, .slice pa na ca] 24)).alloc (.cells #[.int .i64 fb, .slice pb nb cb] 24)) = W at *
  refine (szDist_any fa pa na ca 1048576 (by omega) (by omega) z1 W).mono ?_
  rintro e w1 ⟨rfl, bb⟩
  replace a1 := (bb.cell (p := ⟨w.heap.size, 0, none⟩) al).trans a1
  replace a2 := (bb.cell (p := ⟨w.heap.size, 1, none⟩) al).trans a2
  replace al := Nat.lt_of_lt_of_le al bb.size
  replace b1 := (bb.cell (p := ⟨(w.heap.size + 1), 0, none⟩) bl).trans b1
  replace b2 := (bb.cell (p := ⟨(w.heap.size + 1), 1, none⟩) bl).trans b2
  replace bl := Nat.lt_of_lt_of_le bl bb.size
  replace KA := Lib.hid (KA.out.below bb)
  replace KB := Lib.hid (KB.out.below bb)
  replace HB := Lib.hid (HB.out.trans (bb.mono HB.out.size))
  clear bb
  by_cases hbig : (1048576 : Int) < (na : Int)
  · rw [if_pos hbig]
    go_wp2_with fail
    go_ret
    exact ⟨rfl, HB.out⟩
  rw [if_neg hbig]
  have hsa : na ≤ 1048576 := by omega
  have hnn : ¬ (1048576 : Int) - na < 0 := by omega
  go_wp2_with fail
  refine (szDist_any fb pb nb cb (1048576 - na) (by omega) (by omega) z2 _).mono ?_
  rintro e w2 ⟨rfl, bb⟩
  replace a1 := (bb.cell (p := ⟨w.heap.size, 0, none⟩) al).trans a1
  replace a2 := (bb.cell (p := ⟨w.heap.size, 1, none⟩) al).trans a2
  replace al := Nat.lt_of_lt_of_le al bb.size
  replace b1 := (bb.cell (p := ⟨(w.heap.size + 1), 0, none⟩) bl).trans b1
  replace b2 := (bb.cell (p := ⟨(w.heap.size + 1), 1, none⟩) bl).trans b2
  replace bl := Nat.lt_of_lt_of_le bl bb.size
  replace KA := Lib.hid (KA.out.below bb)
  replace KB := Lib.hid (KB.out.below bb)
  replace HB := Lib.hid (HB.out.trans (bb.mono HB.out.size))
  clear bb
  by_cases hbig2 : (1048576 : Int) - na < (nb : Int)
  · rw [if_pos hbig2]
    go_wp2_with fail
    go_ret
    exact ⟨rfl, HB.out⟩
  rw [if_neg hbig2]
  have hsb : nb ≤ 1048576 := by omega
  have hnn2 : ¬ (1048576 : Int) - na - nb < 0 := by omega
  have bd : Below w2.heap.size w2 w2.drew := (Below.refl w2.heap.size w2).drew
  have ba := below_alloc w2 (.cells #[.int .i64 0, .slice none 0 0] 27)
  have bad : Below w2.heap.size w2 (w2.alloc (.cells #[.int .i64 0, .slice none 0 0] 27)).drew := ba.drew
  have KAd := Lib.hid (KA.out.below bd)
  have KAe := Lib.hid (KA.out.below bad)
  have BNa := Lib.hid (show Bx (w2.alloc (.cells #[.int .i64 0, .slice none 0 0] 27)).drew w2.heap.size (.int .i64 0) (.slice none 0 0) from ⟨(bx_new w2 _ _ _).c0, (bx_new w2 _ _ _).c1, (bx_new w2 _ _ _).f0, (bx_new w2 _ _ _).f1, (bx_new w2 _ _ _).lt⟩)
  have a1e := (ba.cell (p := ⟨w.heap.size, 0, none⟩) al).trans a1
  have a2e := (ba.cell (p := ⟨w.heap.size, 1, none⟩) al).trans a2
  have b1e := (ba.cell (p := ⟨(w.heap.size + 1), 0, none⟩) bl).trans b1
  have b2e := (ba.cell (p := ⟨(w.heap.size + 1), 1, none⟩) bl).trans b2
  go_upto_region 8 with fail
  go_cut [6, 7] (fun sx sy wc => ∃ gb p1 k1 d1, sx = .pointer (some ⟨gb, 0, none⟩) ∧ sy = .bool ok ∧ Hid (Lz.RelM w2 wc gb p1 k1 d1 fr A))
  case first =>
    go_region_held3 (fun w' => w'.cell? ⟨w.heap.size, 0, none⟩ = some (.int .i64 fa) ∧ w'.cell? ⟨w.heap.size, 1, none⟩ = some (.slice pa na ca) ∧ w'.cell? ⟨(w.heap.size + 1), 0, none⟩ = some (.int .i64 fb) ∧ w'.cell? ⟨(w.heap.size + 1), 1, none⟩ = some (.slice pb nb cb))
      (first | go_keep | (exact ⟨by first | assumption | exact a1s _ (by first | exact Nat.le_refl _ | exact bw1.size | exact bw2.size), by first | assumption | exact a2s _ (by first | exact Nat.le_refl _ | exact bw1.size | exact bw2.size), by first | assumption | exact b1s _ (by first | exact Nat.le_refl _ | exact bw1.size | exact bw2.size), by first | assumption | exact b2s _ (by first | exact Nat.le_refl _ | exact bw1.size | exact bw2.size)⟩))
      (first
        | (go_at_call 15; (fail_if_success have := bw1); refine (toDist_any fa pa na ca Ma hsa _ (by first | exact KAd.out | exact KAe.out)).mono ?_; rintro e v1 ⟨gA, rfl, oA, bA⟩; have bw1 : Below w2.heap.size w2 v1 := (by first | exact bd.trans (bA.mono bd.size) | exact bad.trans (bA.mono bad.size)); have bw1a : Below w2.heap.size w2 (v1.alloc (.cells #[.int .i64 0, .slice none 0 0] 27)) := bw1.trans ((below_alloc v1 (.cells #[.int .i64 0, .slice none 0 0] 27)).mono bw1.size); have a1v1 := (bw1.cell (p := ⟨w.heap.size, 0, none⟩) al).trans a1; have a2v1 := (bw1.cell (p := ⟨w.heap.size, 1, none⟩) al).trans a2; have a1v1e := (bw1a.cell (p := ⟨w.heap.size, 0, none⟩) al).trans a1; have a2v1e := (bw1a.cell (p := ⟨w.heap.size, 1, none⟩) al).trans a2; have b1v1 := (bw1.cell (p := ⟨(w.heap.size + 1), 0, none⟩) bl).trans b1; have b2v1 := (bw1.cell (p := ⟨(w.heap.size + 1), 1, none⟩) bl).trans b2; have b1v1e := (bw1a.cell (p := ⟨(w.heap.size + 1), 0, none⟩) bl).trans b1; have b2v1e := (bw1a.cell (p := ⟨(w.heap.size + 1), 1, none⟩) bl).trans b2; try have N1 := Lib.hid (BNa.out.below bA))
        | (go_at_call 15; have hbw1 := bw1; refine (toDist_any fb pb nb cb Mb hsb _ (by first | exact KB.out.below bw1 | exact KB.out.below bw1a)).mono ?_; rintro e v2 ⟨gB, rfl, oB, bB⟩; have bw2 : Below w2.heap.size w2 v2 := (by first | exact bw1.trans (bB.mono bw1.size) | exact bw1a.trans (bB.mono bw1a.size)); have bw2a : Below w2.heap.size w2 (v2.alloc (.cells #[.int .i64 0, .slice none 0 0] 27)) := bw2.trans ((below_alloc v2 (.cells #[.int .i64 0, .slice none 0 0] 27)).mono bw2.size); have a1v2 := (bw2.cell (p := ⟨w.heap.size, 0, none⟩) al).trans a1; have a2v2 := (bw2.cell (p := ⟨w.heap.size, 1, none⟩) al).trans a2; have a1v2e := (bw2a.cell (p := ⟨w.heap.size, 0, none⟩) al).trans a1; have a2v2e := (bw2a.cell (p := ⟨w.heap.size, 1, none⟩) al).trans a2; have b1v2 := (bw2.cell (p := ⟨(w.heap.size + 1), 0, none⟩) bl).trans b1; have b2v2 := (bw2.cell (p := ⟨(w.heap.size + 1), 1, none⟩) bl).trans b2; have b1v2e := (bw2a.cell (p := ⟨(w.heap.size + 1), 0, none⟩) bl).trans b1; have b2v2e := (bw2a.cell (p := ⟨(w.heap.size + 1), 1, none⟩) bl).trans b2; have oA2 : HoldsI v2 (some ⟨gA, 0, none⟩) na Ma := (by first | exact (holds_own oA).below bB | exact ((holds_own oA).below (below_alloc v1 _)).below bB); first | have N2 := Lib.hid (N1.out.below bB) | have N2 := Lib.hid ((bx_new v1 (.int .i64 0) (.slice none 0 0) 27).below bB) | skip)
        | (go_at_call 31; refine (HM.out _ _ _ hsa hsb (by first | exact oA2 | exact oA2.below (below_alloc v2 _)) (by first | exact holds_own oB | exact (holds_own oB).below (below_alloc v2 _))).mono ?_; rintro e v3 ⟨p1, k1, d1, rfl, oM, hk1, bM⟩; have bw3 : Below w2.heap.size w2 v3 := (by first | exact bw2.trans (bM.mono bw2.size) | exact bw2a.trans (bM.mono bw2a.size)); have bw3a : Below w2.heap.size w2 (v3.alloc (.cells #[.int .i64 0, .slice none 0 0] 27)) := bw3.trans ((below_alloc v3 (.cells #[.int .i64 0, .slice none 0 0] 27)).mono bw3.size); have a1v3 := (bw3.cell (p := ⟨w.heap.size, 0, none⟩) al).trans a1; have a2v3 := (bw3.cell (p := ⟨w.heap.size, 1, none⟩) al).trans a2; have a1v3e := (bw3a.cell (p := ⟨w.heap.size, 0, none⟩) al).trans a1; have a2v3e := (bw3a.cell (p := ⟨w.heap.size, 1, none⟩) al).trans a2; have b1v3 := (bw3.cell (p := ⟨(w.heap.size + 1), 0, none⟩) bl).trans b1; have b2v3 := (bw3.cell (p := ⟨(w.heap.size + 1), 1, none⟩) bl).trans b2; have b1v3e := (bw3a.cell (p := ⟨(w.heap.size + 1), 0, none⟩) bl).trans b1; have b2v3e := (bw3a.cell (p := ⟨(w.heap.size + 1), 1, none⟩) bl).trans b2; have a1s := fun k (hk : w2.heap.size ≤ k) => cell_off (k := k) (.int .i64 fr) (.slice p1 k1 d1) a1v3 (by omega); have a2s := fun k (hk : w2.heap.size ≤ k) => cell_off (k := k) (.int .i64 fr) (.slice p1 k1 d1) a2v3 (by omega); have b1s := fun k (hk : w2.heap.size ≤ k) => cell_off (k := k) (.int .i64 fr) (.slice p1 k1 d1) b1v3 (by omega); have b2s := fun k (hk : w2.heap.size ≤ k) => cell_off (k := k) (.int .i64 fr) (.slice p1 k1 d1) b2v3 (by omega); first | (have N3 := Lib.hid (N2.out.below bM); obtain ⟨n0, n1, n2, n3, -⟩ := N3.out) | (have N3 := Lib.hid ((bx_new v2 (.int .i64 0) (.slice none 0 0) 27).below bM); obtain ⟨n0, n1, n2, n3, -⟩ := N3.out) | skip))
    all_goals go_wp2_with fail
    all_goals go_meet
    all_goals exact ⟨_, p1, k1, d1, rfl, rfl, by first | exact Lz.relM_new oM bw2.size hk1 bw3 | exact Lz.relM_new oM bw2a.size hk1 bw3 | exact Lz.relM_put N3.out oM (by first | exact N1.out.lt | exact N2.out.lt | (simp; done) | (have := bA.size; have := bB.size; simp at *; omega)) (by first | exact Nat.le_refl _ | exact bw1.size | exact bw2.size) hk1 bw3⟩
  case rest =>
    obtain ⟨gx, p1, k1, d1, rfl, rfl, HC⟩ := hcut
    obtain ⟨⟨x1, x2, xl, hgx⟩, ho, hk1, bb⟩ := HC.out
    clear HC KAd KAe BNa bd ba bad a1e a2e b1e b2e
    replace a1 := (bb.cell (p := ⟨w.heap.size, 0, none⟩) al).trans a1
    replace a2 := (bb.cell (p := ⟨w.heap.size, 1, none⟩) al).trans a2
    replace al := Nat.lt_of_lt_of_le al bb.size
    replace b1 := (bb.cell (p := ⟨(w.heap.size + 1), 0, none⟩) bl).trans b1
    replace b2 := (bb.cell (p := ⟨(w.heap.size + 1), 1, none⟩) bl).trans b2
    replace bl := Nat.lt_of_lt_of_le bl bb.size
    replace KA := Lib.hid (KA.out.below bb)
    replace KB := Lib.hid (KB.out.below bb)
    replace HB := Lib.hid (HB.out.trans (bb.mono HB.out.size))
    clear bb
    have OW := Lib.hid ho
    have hbx := Lib.hid xl
    have ow1 := Lib.hid (fun b hb => (own_bd ho b hb).2)
    clear ho hgx
    obtain ⟨w3, hw3⟩ : ∃ z, z = wc.heap.size := ⟨_, rfl⟩
    have hzw := Lib.hid HB.out.size
    have hza := Lib.hid al
    have hzb := Lib.hid bl
    go_wp2_with fail
    refine (toDist_any fa pa na ca Ma hsa _ KA.out).mono ?_
    rintro e w4 ⟨g2, rfl, o, bb⟩
    replace a1 := (bb.cell (p := ⟨w.heap.size, 0, none⟩) al).trans a1
    replace a2 := (bb.cell (p := ⟨w.heap.size, 1, none⟩) al).trans a2
    replace al := Nat.lt_of_lt_of_le al bb.size
    replace b1 := (bb.cell (p := ⟨(w.heap.size + 1), 0, none⟩) bl).trans b1
    replace b2 := (bb.cell (p := ⟨(w.heap.size + 1), 1, none⟩) bl).trans b2
    replace bl := Nat.lt_of_lt_of_le bl bb.size
    replace x1 := (bb.cell (p := ⟨gx, 0, none⟩) xl).trans x1
    replace x2 := (bb.cell (p := ⟨gx, 1, none⟩) xl).trans x2
    replace xl := Nat.lt_of_lt_of_le xl bb.size
    replace KA := Lib.hid (KA.out.below bb)
    replace KB := Lib.hid (KB.out.below bb)
    replace OW := Lib.hid (ownsRow_below OW.out bb)
    replace HB := Lib.hid (HB.out.trans (bb.mono HB.out.size))
    clear bb
    have OX := Lib.hid o
    have hg2 := Lib.hid (o.lt g2 rfl)
    clear o
    have b := below_alloc w4 (.cells #[.int .i64 fa, .slice (some ⟨g2, 0, none⟩) na na] 27)
    have y1 := box_first w4 (.int .i64 fa) (.slice (some ⟨g2, 0, none⟩) na na) 27
    have y2 := box_second w4 (.int .i64 fa) (.slice (some ⟨g2, 0, none⟩) na na) 27
    have yl : w4.heap.size < (w4.alloc (.cells #[.int .i64 fa, .slice (some ⟨g2, 0, none⟩) na na] 27)).heap.size := by simp
    replace a1 := (b.cell (p := ⟨w.heap.size, 0, none⟩) al).trans a1
    replace a2 := (b.cell (p := ⟨w.heap.size, 1, none⟩) al).trans a2
    replace al := Nat.lt_of_lt_of_le al b.size
    replace b1 := (b.cell (p := ⟨(w.heap.size + 1), 0, none⟩) bl).trans b1
    replace b2 := (b.cell (p := ⟨(w.heap.size + 1), 1, none⟩) bl).trans b2
    replace bl := Nat.lt_of_lt_of_le bl b.size
    replace x1 := (b.cell (p := ⟨gx, 0, none⟩) xl).trans x1
    replace x2 := (b.cell (p := ⟨gx, 1, none⟩) xl).trans x2
    replace xl := Nat.lt_of_lt_of_le xl b.size
    replace KA := Lib.hid (KA.out.below b)
    replace KB := Lib.hid (KB.out.below b)
    replace OW := Lib.hid (ownsRow_below OW.out b)
    replace OX := Lib.hid (ownsRow_below OX.out b)
    replace HB := Lib.hid (HB.out.trans (b.mono HB.out.size))
    clear b
    go_wp2_with fail
    generalize w4.alloc (.cells #[.int .i64 fa, .slice (some ⟨g2, 0, none⟩) na na] 27) = W5 at *
    have hz2 := Lib.hid yl
    refine (toDist_any fb pb nb cb Mb hsb _ KB.out).mono ?_
    rintro e w5 ⟨g3, rfl, o, bb⟩
    replace a1 := (bb.cell (p := ⟨w.heap.size, 0, none⟩) al).trans a1
    replace a2 := (bb.cell (p := ⟨w.heap.size, 1, none⟩) al).trans a2
    replace al := Nat.lt_of_lt_of_le al bb.size
    replace b1 := (bb.cell (p := ⟨(w.heap.size + 1), 0, none⟩) bl).trans b1
    replace b2 := (bb.cell (p := ⟨(w.heap.size + 1), 1, none⟩) bl).trans b2
    replace bl := Nat.lt_of_lt_of_le bl bb.size
    replace x1 := (bb.cell (p := ⟨gx, 0, none⟩) xl).trans x1
    replace x2 := (bb.cell (p := ⟨gx, 1, none⟩) xl).trans x2
    replace xl := Nat.lt_of_lt_of_le xl bb.size
    replace y1 := (bb.cell (p := ⟨w4.heap.size, 0, none⟩) yl).trans y1
    replace y2 := (bb.cell (p := ⟨w4.heap.size, 1, none⟩) yl).trans y2
    replace yl := Nat.lt_of_lt_of_le yl bb.size
    replace KA := Lib.hid (KA.out.below bb)
    replace KB := Lib.hid (KB.out.below bb)
    replace OW := Lib.hid (ownsRow_below OW.out bb)
    replace OX := Lib.hid (ownsRow_below OX.out bb)
    replace HB := Lib.hid (HB.out.trans (bb.mono HB.out.size))
    clear bb
    have OZ := Lib.hid o
    have hg3 := Lib.hid (o.lt g3 rfl)
    clear o
    have b := below_alloc w5 (.cells #[.int .i64 fb, .slice (some ⟨g3, 0, none⟩) nb nb] 27)
    have v1 := box_first w5 (.int .i64 fb) (.slice (some ⟨g3, 0, none⟩) nb nb) 27
    have v2 := box_second w5 (.int .i64 fb) (.slice (some ⟨g3, 0, none⟩) nb nb) 27
    have vl : w5.heap.size < (w5.alloc (.cells #[.int .i64 fb, .slice (some ⟨g3, 0, none⟩) nb nb] 27)).heap.size := by simp
    replace a1 := (b.cell (p := ⟨w.heap.size, 0, none⟩) al).trans a1
    replace a2 := (b.cell (p := ⟨w.heap.size, 1, none⟩) al).trans a2
    replace al := Nat.lt_of_lt_of_le al b.size
    replace b1 := (b.cell (p := ⟨(w.heap.size + 1), 0, none⟩) bl).trans b1
    replace b2 := (b.cell (p := ⟨(w.heap.size + 1), 1, none⟩) bl).trans b2
    replace bl := Nat.lt_of_lt_of_le bl b.size
    replace x1 := (b.cell (p := ⟨gx, 0, none⟩) xl).trans x1
    replace x2 := (b.cell (p := ⟨gx, 1, none⟩) xl).trans x2
    replace xl := Nat.lt_of_lt_of_le xl b.size
    replace y1 := (b.cell (p := ⟨w4.heap.size, 0, none⟩) yl).trans y1
    replace y2 := (b.cell (p := ⟨w4.heap.size, 1, none⟩) yl).trans y2
    replace yl := Nat.lt_of_lt_of_le yl b.size
    replace KA := Lib.hid (KA.out.below b)
    replace KB := Lib.hid (KB.out.below b)
    replace OW := Lib.hid (ownsRow_below OW.out b)
    replace OX := Lib.hid (ownsRow_below OX.out b)
    replace OZ := Lib.hid (ownsRow_below OZ.out b)
    replace HB := Lib.hid (HB.out.trans (b.mono HB.out.size))
    clear b
    go_wp2_with fail
    generalize w5.alloc (.cells #[.int .i64 fb, .slice (some ⟨g3, 0, none⟩) nb nb] 27) = W6 at *
    have hz3 := Lib.hid vl
    refine (HI.out _ _ _ hsa hsb (holds_own OX.out) (holds_own OZ.out)).mono ?_
    rintro e w7 ⟨p2, k2, d2, rfl, o, hk2, bb⟩
    have hz5 := Lib.hid bb.size
    replace a1 := (bb.cell (p := ⟨w.heap.size, 0, none⟩) al).trans a1
    replace a2 := (bb.cell (p := ⟨w.heap.size, 1, none⟩) al).trans a2
    replace al := Nat.lt_of_lt_of_le al bb.size
    replace b1 := (bb.cell (p := ⟨(w.heap.size + 1), 0, none⟩) bl).trans b1
    replace b2 := (bb.cell (p := ⟨(w.heap.size + 1), 1, none⟩) bl).trans b2
    replace bl := Nat.lt_of_lt_of_le bl bb.size
    replace x1 := (bb.cell (p := ⟨gx, 0, none⟩) xl).trans x1
    replace x2 := (bb.cell (p := ⟨gx, 1, none⟩) xl).trans x2
    replace xl := Nat.lt_of_lt_of_le xl bb.size
    replace y1 := (bb.cell (p := ⟨w4.heap.size, 0, none⟩) yl).trans y1
    replace y2 := (bb.cell (p := ⟨w4.heap.size, 1, none⟩) yl).trans y2
    replace yl := Nat.lt_of_lt_of_le yl bb.size
    replace v1 := (bb.cell (p := ⟨w5.heap.size, 0, none⟩) vl).trans v1
    replace v2 := (bb.cell (p := ⟨w5.heap.size, 1, none⟩) vl).trans v2
    replace vl := Nat.lt_of_lt_of_le vl bb.size
    replace KA := Lib.hid (KA.out.below bb)
    replace KB := Lib.hid (KB.out.below bb)
    replace OW := Lib.hid (ownsRow_below OW.out bb)
    replace OX := Lib.hid (ownsRow_below OX.out bb)
    replace OZ := Lib.hid (ownsRow_below OZ.out bb)
    replace HB := Lib.hid (HB.out.trans (bb.mono HB.out.size))
    clear bb
    have OG := Lib.hid o
    have og1 := Lib.hid (own_bd o)
    clear o
    have b := below_alloc w7 (.cells #[.int .i64 fr, .slice p2 k2 d2] 27)
    have u1 := box_first w7 (.int .i64 fr) (.slice p2 k2 d2) 27
    have u2 := box_second w7 (.int .i64 fr) (.slice p2 k2 d2) 27
    have ul : w7.heap.size < (w7.alloc (.cells #[.int .i64 fr, .slice p2 k2 d2] 27)).heap.size := by simp
    replace a1 := (b.cell (p := ⟨w.heap.size, 0, none⟩) al).trans a1
    replace a2 := (b.cell (p := ⟨w.heap.size, 1, none⟩) al).trans a2
    replace al := Nat.lt_of_lt_of_le al b.size
    replace b1 := (b.cell (p := ⟨(w.heap.size + 1), 0, none⟩) bl).trans b1
    replace b2 := (b.cell (p := ⟨(w.heap.size + 1), 1, none⟩) bl).trans b2
    replace bl := Nat.lt_of_lt_of_le bl b.size
    replace x1 := (b.cell (p := ⟨gx, 0, none⟩) xl).trans x1
    replace x2 := (b.cell (p := ⟨gx, 1, none⟩) xl).trans x2
    replace xl := Nat.lt_of_lt_of_le xl b.size
    replace y1 := (b.cell (p := ⟨w4.heap.size, 0, none⟩) yl).trans y1
    replace y2 := (b.cell (p := ⟨w4.heap.size, 1, none⟩) yl).trans y2
    replace yl := Nat.lt_of_lt_of_le yl b.size
    replace v1 := (b.cell (p := ⟨w5.heap.size, 0, none⟩) vl).trans v1
    replace v2 := (b.cell (p := ⟨w5.heap.size, 1, none⟩) vl).trans v2
    replace vl := Nat.lt_of_lt_of_le vl b.size
    replace KA := Lib.hid (KA.out.below b)
    replace KB := Lib.hid (KB.out.below b)
    replace OW := Lib.hid (ownsRow_below OW.out b)
    replace OX := Lib.hid (ownsRow_below OX.out b)
    replace OZ := Lib.hid (ownsRow_below OZ.out b)
    replace OG := Lib.hid (ownsRow_below OG.out b)
    replace HB := Lib.hid (HB.out.trans (b.mono HB.out.size))
    clear b
    have hkk : k2 = k1 := by have h1 := OG.out.1; have h2 := OW.out.1; rw [ints_len] at h1 h2; omega
    subst hkk
    go_wp2_with fail
    generalize w7.alloc (.cells #[.int .i64 fr, .slice p2 k2 d2] 27) = W7 at *
    refine (eqDist_same fr p2 p1 k2 d2 d1 A hk2 _ (holds_own OG.out) (holds_own OW.out)).mono ?_
    rintro e w8 ⟨rfl, bb⟩
    replace a1 := (bb.cell (p := ⟨w.heap.size, 0, none⟩) al).trans a1
    replace a2 := (bb.cell (p := ⟨w.heap.size, 1, none⟩) al).trans a2
    replace al := Nat.lt_of_lt_of_le al bb.size
    replace b1 := (bb.cell (p := ⟨(w.heap.size + 1), 0, none⟩) bl).trans b1
    replace b2 := (bb.cell (p := ⟨(w.heap.size + 1), 1, none⟩) bl).trans b2
    replace bl := Nat.lt_of_lt_of_le bl bb.size
    replace x1 := (bb.cell (p := ⟨gx, 0, none⟩) xl).trans x1
    replace x2 := (bb.cell (p := ⟨gx, 1, none⟩) xl).trans x2
    replace xl := Nat.lt_of_lt_of_le xl bb.size
    replace y1 := (bb.cell (p := ⟨w4.heap.size, 0, none⟩) yl).trans y1
    replace y2 := (bb.cell (p := ⟨w4.heap.size, 1, none⟩) yl).trans y2
    replace yl := Nat.lt_of_lt_of_le yl bb.size
    replace v1 := (bb.cell (p := ⟨w5.heap.size, 0, none⟩) vl).trans v1
    replace v2 := (bb.cell (p := ⟨w5.heap.size, 1, none⟩) vl).trans v2
    replace vl := Nat.lt_of_lt_of_le vl bb.size
    replace u1 := (bb.cell (p := ⟨w7.heap.size, 0, none⟩) ul).trans u1
    replace u2 := (bb.cell (p := ⟨w7.heap.size, 1, none⟩) ul).trans u2
    replace ul := Nat.lt_of_lt_of_le ul bb.size
    replace KA := Lib.hid (KA.out.below bb)
    replace KB := Lib.hid (KB.out.below bb)
    replace OW := Lib.hid (ownsRow_below OW.out bb)
    replace OX := Lib.hid (ownsRow_below OX.out bb)
    replace OZ := Lib.hid (ownsRow_below OZ.out bb)
    replace OG := Lib.hid (ownsRow_below OG.out bb)
    replace HB := Lib.hid (HB.out.trans (bb.mono HB.out.size))
    clear bb
    go_wp2_with fail
    have bd : Below w8.heap.size w8 w8.drew := (Below.refl w8.heap.size w8).drew
    have Kd := Lib.hid (KA.out.below bd)
    have OXd := Lib.hid (ownsRow_below OX.out bd)
    go_region_held3 (fun w' => w'.cell? ⟨w.heap.size, 0, none⟩ = some (.int .i64 fa) ∧ w'.cell? ⟨w.heap.size, 1, none⟩ = some (.slice pa na ca) ∧ w'.cell? ⟨(w.heap.size + 1), 0, none⟩ = some (.int .i64 fb) ∧ w'.cell? ⟨(w.heap.size + 1), 1, none⟩ = some (.slice pb nb cb) ∧ w'.cell? ⟨gx, 0, none⟩ = some (.int .i64 fr) ∧ w'.cell? ⟨gx, 1, none⟩ = some (.slice p1 k2 d1) ∧ w'.cell? ⟨w4.heap.size, 0, none⟩ = some (.int .i64 fa) ∧ w'.cell? ⟨w4.heap.size, 1, none⟩ = some (.slice (some ⟨g2, 0, none⟩) na na) ∧ w'.cell? ⟨w5.heap.size, 0, none⟩ = some (.int .i64 fb) ∧ w'.cell? ⟨w5.heap.size, 1, none⟩ = some (.slice (some ⟨g3, 0, none⟩) nb nb) ∧ w'.cell? ⟨w7.heap.size, 0, none⟩ = some (.int .i64 fr) ∧ w'.cell? ⟨w7.heap.size, 1, none⟩ = some (.slice p2 k2 d2))
      (first | go_keep | (exact ⟨by assumption, by assumption, by assumption, by assumption, by assumption, by assumption, by assumption, by assumption, by assumption, by assumption, by assumption, by assumption⟩))
      (first
        | (go_at_call 15; refine (toDist_any fa pa na ca Ma hsa w8.drew Kd.out).mono ?_; rintro e w9 ⟨g7, rfl, o8, b8⟩; have sa1 := (b8.cell (p := ⟨w.heap.size, 0, none⟩) al).trans a1; have sa2 := (b8.cell (p := ⟨w.heap.size, 1, none⟩) al).trans a2; have sal := Nat.lt_of_lt_of_le al b8.size; have sb1 := (b8.cell (p := ⟨(w.heap.size + 1), 0, none⟩) bl).trans b1; have sb2 := (b8.cell (p := ⟨(w.heap.size + 1), 1, none⟩) bl).trans b2; have sbl := Nat.lt_of_lt_of_le bl b8.size; have sx1 := (b8.cell (p := ⟨gx, 0, none⟩) xl).trans x1; have sx2 := (b8.cell (p := ⟨gx, 1, none⟩) xl).trans x2; have sxl := Nat.lt_of_lt_of_le xl b8.size; have sy1 := (b8.cell (p := ⟨w4.heap.size, 0, none⟩) yl).trans y1; have sy2 := (b8.cell (p := ⟨w4.heap.size, 1, none⟩) yl).trans y2; have syl := Nat.lt_of_lt_of_le yl b8.size; have sv1 := (b8.cell (p := ⟨w5.heap.size, 0, none⟩) vl).trans v1; have sv2 := (b8.cell (p := ⟨w5.heap.size, 1, none⟩) vl).trans v2; have svl := Nat.lt_of_lt_of_le vl b8.size; have su1 := (b8.cell (p := ⟨w7.heap.size, 0, none⟩) ul).trans u1; have su2 := (b8.cell (p := ⟨w7.heap.size, 1, none⟩) ul).trans u2; have sul := Nat.lt_of_lt_of_le ul b8.size)
        | (go_at_call 17; refine (eqDist_same fa (some ⟨g2, 0, none⟩) (some ⟨g7, 0, none⟩) na na na Ma hsa w9 (holds_own (ownsRow_below OXd.out b8)) (holds_own o8)).mono ?_; rintro e wq ⟨rfl, b9⟩; have ta1 := (b9.cell (p := ⟨w.heap.size, 0, none⟩) sal).trans sa1; have ta2 := (b9.cell (p := ⟨w.heap.size, 1, none⟩) sal).trans sa2; have tal := Nat.lt_of_lt_of_le sal b9.size; have tb1 := (b9.cell (p := ⟨(w.heap.size + 1), 0, none⟩) sbl).trans sb1; have tb2 := (b9.cell (p := ⟨(w.heap.size + 1), 1, none⟩) sbl).trans sb2; have tbl := Nat.lt_of_lt_of_le sbl b9.size; have tx1 := (b9.cell (p := ⟨gx, 0, none⟩) sxl).trans sx1; have tx2 := (b9.cell (p := ⟨gx, 1, none⟩) sxl).trans sx2; have txl := Nat.lt_of_lt_of_le sxl b9.size; have ty1 := (b9.cell (p := ⟨w4.heap.size, 0, none⟩) syl).trans sy1; have ty2 := (b9.cell (p := ⟨w4.heap.size, 1, none⟩) syl).trans sy2; have tyl := Nat.lt_of_lt_of_le syl b9.size; have tv1 := (b9.cell (p := ⟨w5.heap.size, 0, none⟩) svl).trans sv1; have tv2 := (b9.cell (p := ⟨w5.heap.size, 1, none⟩) svl).trans sv2; have tvl := Nat.lt_of_lt_of_le svl b9.size; have tu1 := (b9.cell (p := ⟨w7.heap.size, 0, none⟩) sul).trans su1; have tu2 := (b9.cell (p := ⟨w7.heap.size, 1, none⟩) sul).trans su2; have tul := Nat.lt_of_lt_of_le sul b9.size))
    replace a1 := ta1
    replace a2 := ta2
    replace al := tal
    replace b1 := tb1
    replace b2 := tb2
    replace bl := tbl
    replace x1 := tx1
    replace x2 := tx2
    replace xl := txl
    replace y1 := ty1
    replace y2 := ty2
    replace yl := tyl
    replace v1 := tv1
    replace v2 := tv2
    replace vl := tvl
    replace u1 := tu1
    replace u2 := tu2
    replace ul := tul
    have bb := bd.trans ((b8.trans (b9.mono b8.size)).mono bd.size)
    replace KA := Lib.hid (KA.out.below bb)
    replace KB := Lib.hid (KB.out.below bb)
    replace OW := Lib.hid (ownsRow_below OW.out bb)
    replace OX := Lib.hid (ownsRow_below OX.out bb)
    replace OZ := Lib.hid (ownsRow_below OZ.out bb)
    replace OG := Lib.hid (ownsRow_below OG.out bb)
    replace HB := Lib.hid (HB.out.trans (bb.mono HB.out.size))
    clear bb
    clear o8 b8 b9 bd Kd OXd sa1 ta1 sa2 ta2 sal tal sb1 tb1 sb2 tb2 sbl tbl sx1 tx1 sx2 tx2 sxl txl sy1 ty1 sy2 ty2 syl tyl sv1 tv1 sv2 tv2 svl tvl su1 tu1 su2 tu2 sul tul
    go_wp2_with fail
    have bd : Below wq.heap.size wq wq.drew := (Below.refl wq.heap.size wq).drew
    have Kd := Lib.hid (KB.out.below bd)
    have OXd := Lib.hid (ownsRow_below OZ.out bd)
    go_region_held3 (fun w' => w'.cell? ⟨w.heap.size, 0, none⟩ = some (.int .i64 fa) ∧ w'.cell? ⟨w.heap.size, 1, none⟩ = some (.slice pa na ca) ∧ w'.cell? ⟨(w.heap.size + 1), 0, none⟩ = some (.int .i64 fb) ∧ w'.cell? ⟨(w.heap.size + 1), 1, none⟩ = some (.slice pb nb cb) ∧ w'.cell? ⟨gx, 0, none⟩ = some (.int .i64 fr) ∧ w'.cell? ⟨gx, 1, none⟩ = some (.slice p1 k2 d1) ∧ w'.cell? ⟨w4.heap.size, 0, none⟩ = some (.int .i64 fa) ∧ w'.cell? ⟨w4.heap.size, 1, none⟩ = some (.slice (some ⟨g2, 0, none⟩) na na) ∧ w'.cell? ⟨w5.heap.size, 0, none⟩ = some (.int .i64 fb) ∧ w'.cell? ⟨w5.heap.size, 1, none⟩ = some (.slice (some ⟨g3, 0, none⟩) nb nb) ∧ w'.cell? ⟨w7.heap.size, 0, none⟩ = some (.int .i64 fr) ∧ w'.cell? ⟨w7.heap.size, 1, none⟩ = some (.slice p2 k2 d2))
      (first | go_keep | (exact ⟨by assumption, by assumption, by assumption, by assumption, by assumption, by assumption, by assumption, by assumption, by assumption, by assumption, by assumption, by assumption⟩))
      (first
        | (go_at_call 15; refine (toDist_any fb pb nb cb Mb hsb wq.drew Kd.out).mono ?_; rintro e w9 ⟨g7, rfl, o8, b8⟩; have sa1 := (b8.cell (p := ⟨w.heap.size, 0, none⟩) al).trans a1; have sa2 := (b8.cell (p := ⟨w.heap.size, 1, none⟩) al).trans a2; have sal := Nat.lt_of_lt_of_le al b8.size; have sb1 := (b8.cell (p := ⟨(w.heap.size + 1), 0, none⟩) bl).trans b1; have sb2 := (b8.cell (p := ⟨(w.heap.size + 1), 1, none⟩) bl).trans b2; have sbl := Nat.lt_of_lt_of_le bl b8.size; have sx1 := (b8.cell (p := ⟨gx, 0, none⟩) xl).trans x1; have sx2 := (b8.cell (p := ⟨gx, 1, none⟩) xl).trans x2; have sxl := Nat.lt_of_lt_of_le xl b8.size; have sy1 := (b8.cell (p := ⟨w4.heap.size, 0, none⟩) yl).trans y1; have sy2 := (b8.cell (p := ⟨w4.heap.size, 1, none⟩) yl).trans y2; have syl := Nat.lt_of_lt_of_le yl b8.size; have sv1 := (b8.cell (p := ⟨w5.heap.size, 0, none⟩) vl).trans v1; have sv2 := (b8.cell (p := ⟨w5.heap.size, 1, none⟩) vl).trans v2; have svl := Nat.lt_of_lt_of_le vl b8.size; have su1 := (b8.cell (p := ⟨w7.heap.size, 0, none⟩) ul).trans u1; have su2 := (b8.cell (p := ⟨w7.heap.size, 1, none⟩) ul).trans u2; have sul := Nat.lt_of_lt_of_le ul b8.size)
        | (go_at_call 17; refine (eqDist_same fb (some ⟨g3, 0, none⟩) (some ⟨g7, 0, none⟩) nb nb nb Mb hsb w9 (holds_own (ownsRow_below OXd.out b8)) (holds_own o8)).mono ?_; rintro e wp ⟨rfl, b9⟩; have ta1 := (b9.cell (p := ⟨w.heap.size, 0, none⟩) sal).trans sa1; have ta2 := (b9.cell (p := ⟨w.heap.size, 1, none⟩) sal).trans sa2; have tal := Nat.lt_of_lt_of_le sal b9.size; have tb1 := (b9.cell (p := ⟨(w.heap.size + 1), 0, none⟩) sbl).trans sb1; have tb2 := (b9.cell (p := ⟨(w.heap.size + 1), 1, none⟩) sbl).trans sb2; have tbl := Nat.lt_of_lt_of_le sbl b9.size; have tx1 := (b9.cell (p := ⟨gx, 0, none⟩) sxl).trans sx1; have tx2 := (b9.cell (p := ⟨gx, 1, none⟩) sxl).trans sx2; have txl := Nat.lt_of_lt_of_le sxl b9.size; have ty1 := (b9.cell (p := ⟨w4.heap.size, 0, none⟩) syl).trans sy1; have ty2 := (b9.cell (p := ⟨w4.heap.size, 1, none⟩) syl).trans sy2; have tyl := Nat.lt_of_lt_of_le syl b9.size; have tv1 := (b9.cell (p := ⟨w5.heap.size, 0, none⟩) svl).trans sv1; have tv2 := (b9.cell (p := ⟨w5.heap.size, 1, none⟩) svl).trans sv2; have tvl := Nat.lt_of_lt_of_le svl b9.size; have tu1 := (b9.cell (p := ⟨w7.heap.size, 0, none⟩) sul).trans su1; have tu2 := (b9.cell (p := ⟨w7.heap.size, 1, none⟩) sul).trans su2; have tul := Nat.lt_of_lt_of_le sul b9.size))
    replace a1 := ta1
    replace a2 := ta2
    replace al := tal
    replace b1 := tb1
    replace b2 := tb2
    replace bl := tbl
    replace x1 := tx1
    replace x2 := tx2
    replace xl := txl
    replace y1 := ty1
    replace y2 := ty2
    replace yl := tyl
    replace v1 := tv1
    replace v2 := tv2
    replace vl := tvl
    replace u1 := tu1
    replace u2 := tu2
    replace ul := tul
    have bb := bd.trans ((b8.trans (b9.mono b8.size)).mono bd.size)
    replace KA := Lib.hid (KA.out.below bb)
    replace KB := Lib.hid (KB.out.below bb)
    replace OW := Lib.hid (ownsRow_below OW.out bb)
    replace OX := Lib.hid (ownsRow_below OX.out bb)
    replace OZ := Lib.hid (ownsRow_below OZ.out bb)
    replace OG := Lib.hid (ownsRow_below OG.out bb)
    replace HB := Lib.hid (HB.out.trans (bb.mono HB.out.size))
    clear bb
    clear o8 b8 b9 bd Kd OXd sa1 ta1 sa2 ta2 sal tal sb1 tb1 sb2 tb2 sbl tbl sx1 tx1 sx2 tx2 sxl txl sy1 ty1 sy2 ty2 syl tyl sv1 tv1 sv2 tv2 svl tvl su1 tu1 su2 tu2 sul tul
    go_wp2_with fail
    refine (markDist_any _ fa (some ⟨g2, 0, none⟩) na na 1 (ints Ma) (by omega) (by omega) hsa _ OX.out).mono ?_
    rintro e w11 ⟨rfl, -, kk⟩
    have q1 := hzw.out; have q2 := hza.out; have q3 := hzb.out; have q4 := hg2.out; have q5 := hz2.out; have q6 := hg3.out; have q7 := hz3.out; have q8 := hz5.out; have q9 := hbx.out
    have e2 : ∀ b, (Value.slice (some ⟨g2, 0, none⟩) na na).ownBlock = some b → b = g2 := fun b hb => by simpa [Value.ownBlock, eq_comm] using hb
    replace a1 := kk.cell a1 (by intro hq; have := e2 _ hq; simp only at this; omega)
    replace a2 := kk.cell a2 (by intro hq; have := e2 _ hq; simp only at this; omega)
    replace al := Nat.lt_of_lt_of_le al kk.size
    replace b1 := kk.cell b1 (by intro hq; have := e2 _ hq; simp only at this; omega)
    replace b2 := kk.cell b2 (by intro hq; have := e2 _ hq; simp only at this; omega)
    replace bl := Nat.lt_of_lt_of_le bl kk.size
    replace x1 := kk.cell x1 (by intro hq; have := e2 _ hq; simp only at this; omega)
    replace x2 := kk.cell x2 (by intro hq; have := e2 _ hq; simp only at this; omega)
    replace xl := Nat.lt_of_lt_of_le xl kk.size
    replace y1 := kk.cell y1 (by intro hq; have := e2 _ hq; simp only at this; omega)
    replace y2 := kk.cell y2 (by intro hq; have := e2 _ hq; simp only at this; omega)
    replace yl := Nat.lt_of_lt_of_le yl kk.size
    replace v1 := kk.cell v1 (by intro hq; have := e2 _ hq; simp only at this; omega)
    replace v2 := kk.cell v2 (by intro hq; have := e2 _ hq; simp only at this; omega)
    replace vl := Nat.lt_of_lt_of_le vl kk.size
    replace u1 := kk.cell u1 (by intro hq; have := e2 _ hq; simp only at this; omega)
    replace u2 := kk.cell u2 (by intro hq; have := e2 _ hq; simp only at this; omega)
    replace ul := Nat.lt_of_lt_of_le ul kk.size
    replace KA := Lib.hid (heldKept H0a.out KA.out kk (fun b hb hq => by have := e2 _ hq; omega))
    replace KB := Lib.hid (heldKept H0b.out KB.out kk (fun b hb hq => by have := e2 _ hq; omega))
    replace OW := Lib.hid (kk.owns OW.out (fun b hb hq => by have h1 := e2 _ hq; have h2 := ow1.out b hb; omega))
    replace OG := Lib.hid (kk.owns OG.out (fun b hb hq => by have h1 := e2 _ hq; have h2 := og1.out b hb; omega))
    replace OZ := Lib.hid (kk.owns OZ.out (fun b hb hq => by have h1 := e2 _ hq; have h2 : b = g3 := (by simpa [Value.ownBlock, eq_comm] using hb); omega))
    replace HB := Lib.hid (HB.out.trans (kk.below (B := w.heap.size) (fun b hq => by have := e2 _ hq; omega) HB.out.size))
    clear kk e2 OX
    clear q1 q2 q3 q4 q5 q6 q7 q8 q9
    go_wp2_with fail
    refine (markDist_any _ fb (some ⟨g3, 0, none⟩) nb nb (1 + (na : Int)) (ints Mb) (by omega) (by omega) hsb _ OZ.out).mono ?_
    rintro e w12 ⟨rfl, -, kk⟩
    have q1 := hzw.out; have q2 := hza.out; have q3 := hzb.out; have q4 := hg2.out; have q5 := hz2.out; have q6 := hg3.out; have q7 := hz3.out; have q8 := hz5.out; have q9 := hbx.out
    have e2 : ∀ b, (Value.slice (some ⟨g3, 0, none⟩) nb nb).ownBlock = some b → b = g3 := fun b hb => by simpa [Value.ownBlock, eq_comm] using hb
    replace a1 := kk.cell a1 (by intro hq; have := e2 _ hq; simp only at this; omega)
    replace a2 := kk.cell a2 (by intro hq; have := e2 _ hq; simp only at this; omega)
    replace al := Nat.lt_of_lt_of_le al kk.size
    replace b1 := kk.cell b1 (by intro hq; have := e2 _ hq; simp only at this; omega)
    replace b2 := kk.cell b2 (by intro hq; have := e2 _ hq; simp only at this; omega)
    replace bl := Nat.lt_of_lt_of_le bl kk.size
    replace x1 := kk.cell x1 (by intro hq; have := e2 _ hq; simp only at this; omega)
    replace x2 := kk.cell x2 (by intro hq; have := e2 _ hq; simp only at this; omega)
    replace xl := Nat.lt_of_lt_of_le xl kk.size
    replace v1 := kk.cell v1 (by intro hq; have := e2 _ hq; simp only at this; omega)
    replace v2 := kk.cell v2 (by intro hq; have := e2 _ hq; simp only at this; omega)
    replace vl := Nat.lt_of_lt_of_le vl kk.size
    replace u1 := kk.cell u1 (by intro hq; have := e2 _ hq; simp only at this; omega)
    replace u2 := kk.cell u2 (by intro hq; have := e2 _ hq; simp only at this; omega)
    replace ul := Nat.lt_of_lt_of_le ul kk.size
    replace KA := Lib.hid (heldKept H0a.out KA.out kk (fun b hb hq => by have := e2 _ hq; omega))
    replace KB := Lib.hid (heldKept H0b.out KB.out kk (fun b hb hq => by have := e2 _ hq; omega))
    replace OW := Lib.hid (kk.owns OW.out (fun b hb hq => by have h1 := e2 _ hq; have h2 := ow1.out b hb; omega))
    replace OG := Lib.hid (kk.owns OG.out (fun b hb hq => by have h1 := e2 _ hq; have h2 := og1.out b hb; omega))
    replace HB := Lib.hid (HB.out.trans (kk.below (B := w.heap.size) (fun b hq => by have := e2 _ hq; omega) HB.out.size))
    clear kk e2 OZ
    clear q1 q2 q3 q4 q5 q6 q7 q8 q9
    have hnk : ¬ (1 : Int) + na + nb < 0 := by omega
    have hnb : decide ((1 : Int) + na + nb < 0) = false := decide_eq_false hnk
    go_wp2_with fail
    refine (eqDist_same fr p2 p1 k2 d2 d1 A hk2 _ (holds_own OG.out) (holds_own OW.out)).mono ?_
    rintro e w13 ⟨rfl, bb⟩
    replace a1 := (bb.cell (p := ⟨w.heap.size, 0, none⟩) al).trans a1
    replace a2 := (bb.cell (p := ⟨w.heap.size, 1, none⟩) al).trans a2
    replace al := Nat.lt_of_lt_of_le al bb.size
    replace b1 := (bb.cell (p := ⟨(w.heap.size + 1), 0, none⟩) bl).trans b1
    replace b2 := (bb.cell (p := ⟨(w.heap.size + 1), 1, none⟩) bl).trans b2
    replace bl := Nat.lt_of_lt_of_le bl bb.size
    replace x1 := (bb.cell (p := ⟨gx, 0, none⟩) xl).trans x1
    replace x2 := (bb.cell (p := ⟨gx, 1, none⟩) xl).trans x2
    replace xl := Nat.lt_of_lt_of_le xl bb.size
    replace u1 := (bb.cell (p := ⟨w7.heap.size, 0, none⟩) ul).trans u1
    replace u2 := (bb.cell (p := ⟨w7.heap.size, 1, none⟩) ul).trans u2
    replace ul := Nat.lt_of_lt_of_le ul bb.size
    replace KA := Lib.hid (KA.out.below bb)
    replace KB := Lib.hid (KB.out.below bb)
    replace OW := Lib.hid (ownsRow_below OW.out bb)
    replace OG := Lib.hid (ownsRow_below OG.out bb)
    replace HB := Lib.hid (HB.out.trans (bb.mono HB.out.size))
    clear bb
    go_wp2_with fail
    refine (markDist_any _ fr p2 k2 d2 1 (ints A) (by omega) (by omega) hk2 _ OG.out).mono ?_
    rintro e w14 ⟨rfl, om, kk⟩
    have q1 := hzw.out; have q2 := hza.out; have q3 := hzb.out; have q4 := hg2.out; have q5 := hz2.out; have q6 := hg3.out; have q7 := hz3.out; have q8 := hz5.out; have q9 := hbx.out
    replace a1 := kk.cell a1 (by intro hq; have := og1.out _ hq; simp only at this; omega)
    replace a2 := kk.cell a2 (by intro hq; have := og1.out _ hq; simp only at this; omega)
    replace al := Nat.lt_of_lt_of_le al kk.size
    replace b1 := kk.cell b1 (by intro hq; have := og1.out _ hq; simp only at this; omega)
    replace b2 := kk.cell b2 (by intro hq; have := og1.out _ hq; simp only at this; omega)
    replace bl := Nat.lt_of_lt_of_le bl kk.size
    replace x1 := kk.cell x1 (by intro hq; have := og1.out _ hq; simp only at this; omega)
    replace x2 := kk.cell x2 (by intro hq; have := og1.out _ hq; simp only at this; omega)
    replace xl := Nat.lt_of_lt_of_le xl kk.size
    replace u1 := kk.cell u1 (by intro hq; have := og1.out _ hq; simp only at this; omega)
    replace u2 := kk.cell u2 (by intro hq; have := og1.out _ hq; simp only at this; omega)
    replace ul := Nat.lt_of_lt_of_le ul kk.size
    replace KA := Lib.hid (heldKept H0a.out KA.out kk (fun b hb hq => by have := og1.out _ hq; omega))
    replace KB := Lib.hid (heldKept H0b.out KB.out kk (fun b hb hq => by have := og1.out _ hq; omega))
    replace OW := Lib.hid (kk.owns OW.out (fun b hb hq => by have h1 := og1.out _ hq; have h2 := ow1.out b hb; omega))
    replace HB := Lib.hid (HB.out.trans (kk.below (B := w.heap.size) (fun b hq => by have := og1.out _ hq; omega) HB.out.size))
    have MG := Lib.hid (holds_own om)
    clear kk om OG
    clear q1 q2 q3 q4 q5 q6 q7 q8 q9
    have hkn : ¬ (1 : Int) + k2 < 0 := by omega
    have hkb : decide ((1 : Int) + k2 < 0) = false := decide_eq_false hkn
    go_wp2_with fail
    refine (heldDist_any fr p2 k2 d2 1 (by omega) (by omega) hk2 _ MG.out).mono ?_
    rintro e w15 ⟨rfl, bb⟩
    replace a1 := (bb.cell (p := ⟨w.heap.size, 0, none⟩) al).trans a1
    replace a2 := (bb.cell (p := ⟨w.heap.size, 1, none⟩) al).trans a2
    replace al := Nat.lt_of_lt_of_le al bb.size
    replace b1 := (bb.cell (p := ⟨(w.heap.size + 1), 0, none⟩) bl).trans b1
    replace b2 := (bb.cell (p := ⟨(w.heap.size + 1), 1, none⟩) bl).trans b2
    replace bl := Nat.lt_of_lt_of_le bl bb.size
    replace x1 := (bb.cell (p := ⟨gx, 0, none⟩) xl).trans x1
    replace x2 := (bb.cell (p := ⟨gx, 1, none⟩) xl).trans x2
    replace xl := Nat.lt_of_lt_of_le xl bb.size
    replace u1 := (bb.cell (p := ⟨w7.heap.size, 0, none⟩) ul).trans u1
    replace u2 := (bb.cell (p := ⟨w7.heap.size, 1, none⟩) ul).trans u2
    replace ul := Nat.lt_of_lt_of_le ul bb.size
    replace KA := Lib.hid (KA.out.below bb)
    replace KB := Lib.hid (KB.out.below bb)
    replace MG := Lib.hid (MG.out.below bb)
    replace OW := Lib.hid (ownsRow_below OW.out bb)
    replace HB := Lib.hid (HB.out.trans (bb.mono HB.out.size))
    clear bb
    obtain ⟨P1, hP1⟩ : ∃ z, z = p1 := ⟨_, rfl⟩
    obtain ⟨D1, hD1⟩ : ∃ z, z = d1 := ⟨_, rfl⟩
    rw [← hP1, ← hD1] at x2 OW
    clear hP1 hD1
    have bd : Below w15.heap.size w15 w15.drew := (Below.refl w15.heap.size w15).drew
    have ba := below_alloc w15 (.cells #[.int .i64 0, .slice none 0 0] 27)
    have bad : Below w15.heap.size w15 (w15.alloc (.cells #[.int .i64 0, .slice none 0 0] 27)).drew := ba.drew
    have KAd := Lib.hid (KA.out.below bd)
    have KAe := Lib.hid (KA.out.below bad)
    have BNa := Lib.hid (show Bx (w15.alloc (.cells #[.int .i64 0, .slice none 0 0] 27)).drew w15.heap.size (.int .i64 0) (.slice none 0 0) from ⟨(bx_new w15 _ _ _).c0, (bx_new w15 _ _ _).c1, (bx_new w15 _ _ _).f0, (bx_new w15 _ _ _).f1, (bx_new w15 _ _ _).lt⟩)
    have a1e := (ba.cell (p := ⟨w.heap.size, 0, none⟩) al).trans a1
    have a2e := (ba.cell (p := ⟨w.heap.size, 1, none⟩) al).trans a2
    have b1e := (ba.cell (p := ⟨(w.heap.size + 1), 0, none⟩) bl).trans b1
    have b2e := (ba.cell (p := ⟨(w.heap.size + 1), 1, none⟩) bl).trans b2
    have x1e := (ba.cell (p := ⟨gx, 0, none⟩) xl).trans x1
    have x2e := (ba.cell (p := ⟨gx, 1, none⟩) xl).trans x2
    have u1e := (ba.cell (p := ⟨w7.heap.size, 0, none⟩) ul).trans u1
    have u2e := (ba.cell (p := ⟨w7.heap.size, 1, none⟩) ul).trans u2
    go_upto_region 31 with fail
    go_cut [15, 16] (fun sx sy wc => ∃ gb p1 k1 d1, sx = .pointer (some ⟨gb, 0, none⟩) ∧ sy = .bool ok ∧ Hid (Lz.RelM w15 wc gb p1 k1 d1 fr A))
    case first =>
      go_region_held3 (fun w' => w'.cell? ⟨w.heap.size, 0, none⟩ = some (.int .i64 fa) ∧ w'.cell? ⟨w.heap.size, 1, none⟩ = some (.slice pa na ca) ∧ w'.cell? ⟨(w.heap.size + 1), 0, none⟩ = some (.int .i64 fb) ∧ w'.cell? ⟨(w.heap.size + 1), 1, none⟩ = some (.slice pb nb cb) ∧ w'.cell? ⟨gx, 0, none⟩ = some (.int .i64 fr) ∧ w'.cell? ⟨gx, 1, none⟩ = some (.slice P1 k2 D1) ∧ w'.cell? ⟨w7.heap.size, 0, none⟩ = some (.int .i64 fr) ∧ w'.cell? ⟨w7.heap.size, 1, none⟩ = some (.slice p2 k2 d2))
        (first | go_keep | (exact ⟨by first | assumption | exact a1s _ (by first | exact Nat.le_refl _ | exact bw1.size | exact bw2.size), by first | assumption | exact a2s _ (by first | exact Nat.le_refl _ | exact bw1.size | exact bw2.size), by first | assumption | exact b1s _ (by first | exact Nat.le_refl _ | exact bw1.size | exact bw2.size), by first | assumption | exact b2s _ (by first | exact Nat.le_refl _ | exact bw1.size | exact bw2.size), by first | assumption | exact x1s _ (by first | exact Nat.le_refl _ | exact bw1.size | exact bw2.size), by first | assumption | exact x2s _ (by first | exact Nat.le_refl _ | exact bw1.size | exact bw2.size), by first | assumption | exact u1s _ (by first | exact Nat.le_refl _ | exact bw1.size | exact bw2.size), by first | assumption | exact u2s _ (by first | exact Nat.le_refl _ | exact bw1.size | exact bw2.size)⟩))
        (first
          | (go_at_call 15; (fail_if_success have := bw1); refine (toDist_any fa pa na ca Ma hsa _ (by first | exact KAd.out | exact KAe.out)).mono ?_; rintro e v1 ⟨gA, rfl, oA, bA⟩; have bw1 : Below w15.heap.size w15 v1 := (by first | exact bd.trans (bA.mono bd.size) | exact bad.trans (bA.mono bad.size)); have bw1a : Below w15.heap.size w15 (v1.alloc (.cells #[.int .i64 0, .slice none 0 0] 27)) := bw1.trans ((below_alloc v1 (.cells #[.int .i64 0, .slice none 0 0] 27)).mono bw1.size); have a1v1 := (bw1.cell (p := ⟨w.heap.size, 0, none⟩) al).trans a1; have a2v1 := (bw1.cell (p := ⟨w.heap.size, 1, none⟩) al).trans a2; have a1v1e := (bw1a.cell (p := ⟨w.heap.size, 0, none⟩) al).trans a1; have a2v1e := (bw1a.cell (p := ⟨w.heap.size, 1, none⟩) al).trans a2; have b1v1 := (bw1.cell (p := ⟨(w.heap.size + 1), 0, none⟩) bl).trans b1; have b2v1 := (bw1.cell (p := ⟨(w.heap.size + 1), 1, none⟩) bl).trans b2; have b1v1e := (bw1a.cell (p := ⟨(w.heap.size + 1), 0, none⟩) bl).trans b1; have b2v1e := (bw1a.cell (p := ⟨(w.heap.size + 1), 1, none⟩) bl).trans b2; have x1v1 := (bw1.cell (p := ⟨gx, 0, none⟩) xl).trans x1; have x2v1 := (bw1.cell (p := ⟨gx, 1, none⟩) xl).trans x2; have x1v1e := (bw1a.cell (p := ⟨gx, 0, none⟩) xl).trans x1; have x2v1e := (bw1a.cell (p := ⟨gx, 1, none⟩) xl).trans x2; have u1v1 := (bw1.cell (p := ⟨w7.heap.size, 0, none⟩) ul).trans u1; have u2v1 := (bw1.cell (p := ⟨w7.heap.size, 1, none⟩) ul).trans u2; have u1v1e := (bw1a.cell (p := ⟨w7.heap.size, 0, none⟩) ul).trans u1; have u2v1e := (bw1a.cell (p := ⟨w7.heap.size, 1, none⟩) ul).trans u2; try have N1 := Lib.hid (BNa.out.below bA))
          | (go_at_call 15; have hbw1 := bw1; refine (toDist_any fb pb nb cb Mb hsb _ (by first | exact KB.out.below bw1 | exact KB.out.below bw1a)).mono ?_; rintro e v2 ⟨gB, rfl, oB, bB⟩; have bw2 : Below w15.heap.size w15 v2 := (by first | exact bw1.trans (bB.mono bw1.size) | exact bw1a.trans (bB.mono bw1a.size)); have bw2a : Below w15.heap.size w15 (v2.alloc (.cells #[.int .i64 0, .slice none 0 0] 27)) := bw2.trans ((below_alloc v2 (.cells #[.int .i64 0, .slice none 0 0] 27)).mono bw2.size); have a1v2 := (bw2.cell (p := ⟨w.heap.size, 0, none⟩) al).trans a1; have a2v2 := (bw2.cell (p := ⟨w.heap.size, 1, none⟩) al).trans a2; have a1v2e := (bw2a.cell (p := ⟨w.heap.size, 0, none⟩) al).trans a1; have a2v2e := (bw2a.cell (p := ⟨w.heap.size, 1, none⟩) al).trans a2; have b1v2 := (bw2.cell (p := ⟨(w.heap.size + 1), 0, none⟩) bl).trans b1; have b2v2 := (bw2.cell (p := ⟨(w.heap.size + 1), 1, none⟩) bl).trans b2; have b1v2e := (bw2a.cell (p := ⟨(w.heap.size + 1), 0, none⟩) bl).trans b1; have b2v2e := (bw2a.cell (p := ⟨(w.heap.size + 1), 1, none⟩) bl).trans b2; have x1v2 := (bw2.cell (p := ⟨gx, 0, none⟩) xl).trans x1; have x2v2 := (bw2.cell (p := ⟨gx, 1, none⟩) xl).trans x2; have x1v2e := (bw2a.cell (p := ⟨gx, 0, none⟩) xl).trans x1; have x2v2e := (bw2a.cell (p := ⟨gx, 1, none⟩) xl).trans x2; have u1v2 := (bw2.cell (p := ⟨w7.heap.size, 0, none⟩) ul).trans u1; have u2v2 := (bw2.cell (p := ⟨w7.heap.size, 1, none⟩) ul).trans u2; have u1v2e := (bw2a.cell (p := ⟨w7.heap.size, 0, none⟩) ul).trans u1; have u2v2e := (bw2a.cell (p := ⟨w7.heap.size, 1, none⟩) ul).trans u2; have oA2 : HoldsI v2 (some ⟨gA, 0, none⟩) na Ma := (by first | exact (holds_own oA).below bB | exact ((holds_own oA).below (below_alloc v1 _)).below bB); first | have N2 := Lib.hid (N1.out.below bB) | have N2 := Lib.hid ((bx_new v1 (.int .i64 0) (.slice none 0 0) 27).below bB) | skip)
          | (go_at_call 32; refine (HI.out _ _ _ hsa hsb (by first | exact oA2 | exact oA2.below (below_alloc v2 _)) (by first | exact holds_own oB | exact (holds_own oB).below (below_alloc v2 _))).mono ?_; rintro e v3 ⟨p1, k1, d1, rfl, oM, hk1, bM⟩; have bw3 : Below w15.heap.size w15 v3 := (by first | exact bw2.trans (bM.mono bw2.size) | exact bw2a.trans (bM.mono bw2a.size)); have bw3a : Below w15.heap.size w15 (v3.alloc (.cells #[.int .i64 0, .slice none 0 0] 27)) := bw3.trans ((below_alloc v3 (.cells #[.int .i64 0, .slice none 0 0] 27)).mono bw3.size); have a1v3 := (bw3.cell (p := ⟨w.heap.size, 0, none⟩) al).trans a1; have a2v3 := (bw3.cell (p := ⟨w.heap.size, 1, none⟩) al).trans a2; have a1v3e := (bw3a.cell (p := ⟨w.heap.size, 0, none⟩) al).trans a1; have a2v3e := (bw3a.cell (p := ⟨w.heap.size, 1, none⟩) al).trans a2; have b1v3 := (bw3.cell (p := ⟨(w.heap.size + 1), 0, none⟩) bl).trans b1; have b2v3 := (bw3.cell (p := ⟨(w.heap.size + 1), 1, none⟩) bl).trans b2; have b1v3e := (bw3a.cell (p := ⟨(w.heap.size + 1), 0, none⟩) bl).trans b1; have b2v3e := (bw3a.cell (p := ⟨(w.heap.size + 1), 1, none⟩) bl).trans b2; have x1v3 := (bw3.cell (p := ⟨gx, 0, none⟩) xl).trans x1; have x2v3 := (bw3.cell (p := ⟨gx, 1, none⟩) xl).trans x2; have x1v3e := (bw3a.cell (p := ⟨gx, 0, none⟩) xl).trans x1; have x2v3e := (bw3a.cell (p := ⟨gx, 1, none⟩) xl).trans x2; have u1v3 := (bw3.cell (p := ⟨w7.heap.size, 0, none⟩) ul).trans u1; have u2v3 := (bw3.cell (p := ⟨w7.heap.size, 1, none⟩) ul).trans u2; have u1v3e := (bw3a.cell (p := ⟨w7.heap.size, 0, none⟩) ul).trans u1; have u2v3e := (bw3a.cell (p := ⟨w7.heap.size, 1, none⟩) ul).trans u2; have a1s := fun k (hk : w15.heap.size ≤ k) => cell_off (k := k) (.int .i64 fr) (.slice p1 k1 d1) a1v3 (by omega); have a2s := fun k (hk : w15.heap.size ≤ k) => cell_off (k := k) (.int .i64 fr) (.slice p1 k1 d1) a2v3 (by omega); have b1s := fun k (hk : w15.heap.size ≤ k) => cell_off (k := k) (.int .i64 fr) (.slice p1 k1 d1) b1v3 (by omega); have b2s := fun k (hk : w15.heap.size ≤ k) => cell_off (k := k) (.int .i64 fr) (.slice p1 k1 d1) b2v3 (by omega); have x1s := fun k (hk : w15.heap.size ≤ k) => cell_off (k := k) (.int .i64 fr) (.slice p1 k1 d1) x1v3 (by omega); have x2s := fun k (hk : w15.heap.size ≤ k) => cell_off (k := k) (.int .i64 fr) (.slice p1 k1 d1) x2v3 (by omega); have u1s := fun k (hk : w15.heap.size ≤ k) => cell_off (k := k) (.int .i64 fr) (.slice p1 k1 d1) u1v3 (by omega); have u2s := fun k (hk : w15.heap.size ≤ k) => cell_off (k := k) (.int .i64 fr) (.slice p1 k1 d1) u2v3 (by omega); first | (have N3 := Lib.hid (N2.out.below bM); obtain ⟨n0, n1, n2, n3, -⟩ := N3.out) | (have N3 := Lib.hid ((bx_new v2 (.int .i64 0) (.slice none 0 0) 27).below bM); obtain ⟨n0, n1, n2, n3, -⟩ := N3.out) | skip))
      all_goals go_wp2_with fail
      all_goals go_meet
      all_goals exact ⟨_, p1, k1, d1, rfl, rfl, by first | exact Lz.relM_new oM bw2.size hk1 bw3 | exact Lz.relM_new oM bw2a.size hk1 bw3 | exact Lz.relM_put N3.out oM (by first | exact N1.out.lt | exact N2.out.lt | (simp; done) | (have := bA.size; have := bB.size; simp at *; omega)) (by first | exact Nat.le_refl _ | exact bw1.size | exact bw2.size) hk1 bw3⟩
    case rest =>
      obtain ⟨gt, p3, k3, d3, rfl, rfl, HC⟩ := hcut
      obtain ⟨⟨t1, t2, tl, hgt⟩, ho, hk3, bb⟩ := HC.out
      clear HC KAd KAe BNa bd ba bad a1e a2e b1e b2e x1e x2e u1e u2e
      replace a1 := (bb.cell (p := ⟨w.heap.size, 0, none⟩) al).trans a1
      replace a2 := (bb.cell (p := ⟨w.heap.size, 1, none⟩) al).trans a2
      replace al := Nat.lt_of_lt_of_le al bb.size
      replace b1 := (bb.cell (p := ⟨(w.heap.size + 1), 0, none⟩) bl).trans b1
      replace b2 := (bb.cell (p := ⟨(w.heap.size + 1), 1, none⟩) bl).trans b2
      replace bl := Nat.lt_of_lt_of_le bl bb.size
      replace x1 := (bb.cell (p := ⟨gx, 0, none⟩) xl).trans x1
      replace x2 := (bb.cell (p := ⟨gx, 1, none⟩) xl).trans x2
      replace xl := Nat.lt_of_lt_of_le xl bb.size
      replace u1 := (bb.cell (p := ⟨w7.heap.size, 0, none⟩) ul).trans u1
      replace u2 := (bb.cell (p := ⟨w7.heap.size, 1, none⟩) ul).trans u2
      replace ul := Nat.lt_of_lt_of_le ul bb.size
      replace KA := Lib.hid (KA.out.below bb)
      replace KB := Lib.hid (KB.out.below bb)
      replace MG := Lib.hid (MG.out.below bb)
      replace OW := Lib.hid (ownsRow_below OW.out bb)
      replace HB := Lib.hid (HB.out.trans (bb.mono HB.out.size))
      clear bb
      have OH := Lib.hid ho
      clear ho hgt
      have hkk : k3 = k2 := by have h1 := OH.out.1; have h2 := OW.out.1; rw [ints_len] at h1 h2; omega
      subst hkk
      go_wp2_with fail
      refine (eqDist_same fr p3 P1 k3 d3 D1 A hk2 _ (holds_own OH.out) (holds_own OW.out)).mono ?_
      rintro e w17 ⟨rfl, bb⟩
      replace a1 := (bb.cell (p := ⟨w.heap.size, 0, none⟩) al).trans a1
      replace a2 := (bb.cell (p := ⟨w.heap.size, 1, none⟩) al).trans a2
      replace al := Nat.lt_of_lt_of_le al bb.size
      replace b1 := (bb.cell (p := ⟨(w.heap.size + 1), 0, none⟩) bl).trans b1
      replace b2 := (bb.cell (p := ⟨(w.heap.size + 1), 1, none⟩) bl).trans b2
      replace bl := Nat.lt_of_lt_of_le bl bb.size
      replace x1 := (bb.cell (p := ⟨gx, 0, none⟩) xl).trans x1
      replace x2 := (bb.cell (p := ⟨gx, 1, none⟩) xl).trans x2
      replace xl := Nat.lt_of_lt_of_le xl bb.size
      replace u1 := (bb.cell (p := ⟨w7.heap.size, 0, none⟩) ul).trans u1
      replace u2 := (bb.cell (p := ⟨w7.heap.size, 1, none⟩) ul).trans u2
      replace ul := Nat.lt_of_lt_of_le ul bb.size
      replace t1 := (bb.cell (p := ⟨gt, 0, none⟩) tl).trans t1
      replace t2 := (bb.cell (p := ⟨gt, 1, none⟩) tl).trans t2
      replace tl := Nat.lt_of_lt_of_le tl bb.size
      replace KA := Lib.hid (KA.out.below bb)
      replace KB := Lib.hid (KB.out.below bb)
      replace MG := Lib.hid (MG.out.below bb)
      replace OW := Lib.hid (ownsRow_below OW.out bb)
      replace OH := Lib.hid (ownsRow_below OH.out bb)
      replace HB := Lib.hid (HB.out.trans (bb.mono HB.out.size))
      clear bb
      go_wp2_with fail
      refine (heldDist_any fr p2 k3 d2 1 (by omega) (by omega) hk2 _ MG.out).mono ?_
      rintro e w18 ⟨rfl, bb⟩
      replace a1 := (bb.cell (p := ⟨w.heap.size, 0, none⟩) al).trans a1
      replace a2 := (bb.cell (p := ⟨w.heap.size, 1, none⟩) al).trans a2
      replace al := Nat.lt_of_lt_of_le al bb.size
      replace b1 := (bb.cell (p := ⟨(w.heap.size + 1), 0, none⟩) bl).trans b1
      replace b2 := (bb.cell (p := ⟨(w.heap.size + 1), 1, none⟩) bl).trans b2
      replace bl := Nat.lt_of_lt_of_le bl bb.size
      replace x1 := (bb.cell (p := ⟨gx, 0, none⟩) xl).trans x1
      replace x2 := (bb.cell (p := ⟨gx, 1, none⟩) xl).trans x2
      replace xl := Nat.lt_of_lt_of_le xl bb.size
      replace u1 := (bb.cell (p := ⟨w7.heap.size, 0, none⟩) ul).trans u1
      replace u2 := (bb.cell (p := ⟨w7.heap.size, 1, none⟩) ul).trans u2
      replace ul := Nat.lt_of_lt_of_le ul bb.size
      replace t1 := (bb.cell (p := ⟨gt, 0, none⟩) tl).trans t1
      replace t2 := (bb.cell (p := ⟨gt, 1, none⟩) tl).trans t2
      replace tl := Nat.lt_of_lt_of_le tl bb.size
      replace KA := Lib.hid (KA.out.below bb)
      replace KB := Lib.hid (KB.out.below bb)
      replace MG := Lib.hid (MG.out.below bb)
      replace OW := Lib.hid (ownsRow_below OW.out bb)
      replace OH := Lib.hid (ownsRow_below OH.out bb)
      replace HB := Lib.hid (HB.out.trans (bb.mono HB.out.size))
      clear bb
      go_wp2_with fail
      go_ret
      exact ⟨rfl, HB.out⟩
end Go.Proofs.Ytfnbjfmegikciaa.WLaterBy
