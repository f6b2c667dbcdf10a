/- The walk of the law FnExactCalibrateAge, from contracts of the program's and of the model's CalibrateAge. -/
import Derived.Test.YtlpcgchekhoieaaCuG
import Derived.Test.YtlpcgchekhoieaaLz
import Derived.Deep.DeepCutAuto
namespace Go.Proofs.Ytlpcgchekhoieaa.WCalibrateAge
open Go.ChangeShapes Go.WideShapes Go.ChangeAt Go.RowKit
open Pairs Rec RecOpen
set_option linter.unusedVariables false
set_option maxRecDepth 100000 in
set_option maxHeartbeats 32000000 in
theorem walk (F : List Cu.Dt → Int → Int → Option (Int × List Int)) (hI : ∀ (p0 : Option Addr) (n0 : Nat) (M0 : List Cu.Dt) (y1 s1 : Int) (w : World), n0 ≤ 1048576 → Cu.HoldsD w p0 n0 M0 → Calls Try.prog 29 #[.slice p0 n0 n0, .agg #[.int .i64 y1, .int .i64 s1]] w (Di.ResZ (F M0 y1 s1).isSome ((F M0 y1 s1).getD (0, [])).1 ((F M0 y1 s1).getD (0, [])).2 w)) (hM : ∀ (p0 : Option Addr) (n0 : Nat) (M0 : List Cu.Dt) (y1 s1 : Int) (w : World), n0 ≤ 1048576 → Cu.HoldsD w p0 n0 M0 → Calls Try.prog 27 #[.slice p0 n0 n0, .agg #[.int .i64 y1, .int .i64 s1]] w (Di.ResZ (F M0 y1 s1).isSome ((F M0 y1 s1).getD (0, [])).1 ((F M0 y1 s1).getD (0, [])).2 w)) (p0 : Option Addr) (n0 c0 : Nat) (M0 : List Cu.Dt) (y1 s1 : Int) (w : World) (z0 : n0 ≤ 9223372036854775807) (H0 : Cu.HoldsD w p0 n0 M0) :
    Calls Try.prog 6 #[.slice p0 n0 c0, .agg #[.int .i64 y1, .int .i64 s1]] w fun e w' => e = .returned (.bool true) ∧ Below w.heap.size w w' := by
  have H00 := Lib.hid H0
  have hI1 := fun (q0 : Option Addr) (w : World) h1 h2 => hI q0 n0 M0 y1 s1 w h1 h2
  have hM1 := fun (q0 : Option Addr) (w : World) h1 h2 => hM q0 n0 M0 y1 s1 w h1 h2
  clear hI hM
  generalize (F M0 y1 s1).isSome = ok at hI1 hM1
  generalize ((F M0 y1 s1).getD (0, [])).1 = fr at hI1 hM1
  generalize ((F M0 y1 s1).getD (0, [])).2 = A at hI1 hM1
  have HI := Lib.hid hI1
  have HM := Lib.hid hM1
  clear hI1 hM1
  have K0 := Lib.hid H0
  clear H0
  have HB := Lib.hid (Below.refl w.heap.size w)
  go_enter Try.func6, Try.ntmps6
  have b := below_alloc w (.cells #[.int .i64 y1, .int .i64 s1] 40)
  have a1 := box_first w (.int .i64 y1) (.int .i64 s1) 40
  have a2 := box_second w (.int .i64 y1) (.int .i64 s1) 40
  have al : w.heap.size < (w.alloc (.cells #[.int .i64 y1, .int .i64 s1] 40)).heap.size := by simp
  replace K0 := Lib.hid (K0.out.below b)
  replace HB := Lib.hid (HB.out.trans (b.mono HB.out.size))
  clear b
  go_wp2_with fail
  generalize w.alloc (.cells #[.int .i64 y1, .int .i64 s1] 40) = W0 at *
  refine (CuT.szCurvePointS_any p0 n0 c0 1048576 (by omega) (by omega) z0 _).mono ?_
  rintro e ww ⟨rfl, hww⟩
  subst hww
  by_cases hbig0 : (1048576 : Int) < (n0 : Int)
  · rw [if_pos hbig0]
    go_wp2_with fail
    go_ret
    exact ⟨rfl, HB.out⟩
  rw [if_neg hbig0]
  have hs0 : n0 ≤ 1048576 := by omega
  have hnn0 : ¬ (1048576 : Int) - n0 < 0 := by omega
  have bd : Below W0.heap.size W0 W0.drew := (Below.refl W0.heap.size W0).drew
  have ba := below_alloc W0 (.cells #[.int .i64 0, .slice none 0 0] 42)
  have bad : Below W0.heap.size W0 (W0.alloc (.cells #[.int .i64 0, .slice none 0 0] 42)).drew := ba.drew
  have KAd := Lib.hid (K0.out.below bd)
  have KAe := Lib.hid (K0.out.below bad)
  have BNa := Lib.hid (show ShI.Bx (W0.alloc (.cells #[.int .i64 0, .slice none 0 0] 42)).drew W0.heap.size (.int .i64 0) (.slice none 0 0) from ⟨(ShI.bx_new W0 _ _ _).c0, (ShI.bx_new W0 _ _ _).c1, (ShI.bx_new W0 _ _ _).f0, (ShI.bx_new W0 _ _ _).f1, (ShI.bx_new W0 _ _ _).lt⟩)
  have a1e := (ba.cell (p := ⟨w.heap.size, 0, none⟩) al).trans a1
  have a2e := (ba.cell (p := ⟨w.heap.size, 1, none⟩) al).trans a2
  go_upto_region 5 with fail
  go_cut [6, 7] (fun sx sy wc => ∃ gb p1 k1 d1, sx = .pointer (some ⟨gb, 0, none⟩) ∧ sy = .bool ok ∧ Hid (Lz.RelM W0 wc gb p1 k1 d1 fr A))
  case first =>
    go_region_held3 (fun w' => w'.cell? ⟨w.heap.size, 0, none⟩ = some (.int .i64 y1) ∧ w'.cell? ⟨w.heap.size, 1, none⟩ = some (.int .i64 s1))
      (first | go_keep | (exact ⟨by first | assumption | exact a1s _ (by first | exact Nat.le_refl _ | exact bw1.size | exact bw2.size), by first | assumption | exact a2s _ (by first | exact Nat.le_refl _ | exact bw1.size | exact bw2.size)⟩))
      (first
        | (go_at_call 16; refine (CuT.toCurvePointS_any p0 n0 c0 M0 hs0 _ (by first | exact KAd.out | exact KAe.out)).mono ?_; rintro e v1 ⟨gA, rfl, oA, bA⟩; have bw1 : Below W0.heap.size W0 v1 := (by first | exact bd.trans (bA.mono bd.size) | exact bad.trans (bA.mono bad.size)); have bw1a : Below W0.heap.size W0 (v1.alloc (.cells #[.int .i64 0, .slice none 0 0] 42)) := bw1.trans ((below_alloc v1 (.cells #[.int .i64 0, .slice none 0 0] 42)).mono bw1.size); have a1v1 := (bw1.cell (p := ⟨w.heap.size, 0, none⟩) al).trans a1; have a2v1 := (bw1.cell (p := ⟨w.heap.size, 1, none⟩) al).trans a2; have a1v1e := (bw1a.cell (p := ⟨w.heap.size, 0, none⟩) al).trans a1; have a2v1e := (bw1a.cell (p := ⟨w.heap.size, 1, none⟩) al).trans a2; try have N1 := Lib.hid (BNa.out.below bA))
        | (go_at_call 28; refine (Me.toMeasurement_any y1 s1 _).mono ?_; rintro e v2 ⟨rfl, bB⟩; have bw2 : Below W0.heap.size W0 v2 := (by first | exact bw1.trans (bB.mono bw1.size) | exact bw1a.trans (bB.mono bw1a.size)); have bw2a : Below W0.heap.size W0 (v2.alloc (.cells #[.int .i64 0, .slice none 0 0] 42)) := bw2.trans ((below_alloc v2 (.cells #[.int .i64 0, .slice none 0 0] 42)).mono bw2.size); have a1v2 := (bw2.cell (p := ⟨w.heap.size, 0, none⟩) al).trans a1; have a2v2 := (bw2.cell (p := ⟨w.heap.size, 1, none⟩) al).trans a2; have a1v2e := (bw2a.cell (p := ⟨w.heap.size, 0, none⟩) al).trans a1; have a2v2e := (bw2a.cell (p := ⟨w.heap.size, 1, none⟩) al).trans a2; have oA2 : Cu.HoldsD v2 (some ⟨gA, 0, none⟩) n0 M0 := (by first | exact (Cu.holds_ownD oA).below bB | exact ((Cu.holds_ownD oA).below (below_alloc v1 _)).below bB); first | have N2 := Lib.hid (N1.out.below bB) | have N2 := Lib.hid ((ShI.bx_new v1 (.int .i64 0) (.slice none 0 0) 42).below bB) | skip)
        | (go_at_call 27; refine (HM.out _ _ hs0 (by first | exact oA2 | exact oA2.below (below_alloc v2 _))).mono ?_; rintro e v3 ⟨p1, k1, d1, rfl, oM, hk1, bM⟩; have bw3 : Below W0.heap.size W0 v3 := (by first | exact bw2.trans (bM.mono bw2.size) | exact bw2a.trans (bM.mono bw2a.size)); have bw3a : Below W0.heap.size W0 (v3.alloc (.cells #[.int .i64 0, .slice none 0 0] 42)) := bw3.trans ((below_alloc v3 (.cells #[.int .i64 0, .slice none 0 0] 42)).mono bw3.size); have a1v3 := (bw3.cell (p := ⟨w.heap.size, 0, none⟩) al).trans a1; have a2v3 := (bw3.cell (p := ⟨w.heap.size, 1, none⟩) al).trans a2; have a1v3e := (bw3a.cell (p := ⟨w.heap.size, 0, none⟩) al).trans a1; have a2v3e := (bw3a.cell (p := ⟨w.heap.size, 1, none⟩) al).trans a2; have a1s := fun k (hk : W0.heap.size ≤ k) => ShI.cell_off (k := k) (.int .i64 fr) (.slice p1 k1 d1) a1v3 (by omega); have a2s := fun k (hk : W0.heap.size ≤ k) => ShI.cell_off (k := k) (.int .i64 fr) (.slice p1 k1 d1) a2v3 (by omega); first | (have N3 := Lib.hid (N2.out.below bM); obtain ⟨n0_, n1_, n2_, n3_, -⟩ := N3.out) | (have N3 := Lib.hid ((ShI.bx_new v2 (.int .i64 0) (.slice none 0 0) 42).below bM); obtain ⟨n0_, n1_, n2_, n3_, -⟩ := N3.out) | skip))
    all_goals go_wp2_with fail
    all_goals go_meet
    all_goals exact ⟨_, p1, k1, d1, rfl, rfl, by first | exact Lz.relM_new oM bw2.size hk1 bw3 | exact Lz.relM_new oM bw2a.size hk1 bw3 | exact Lz.relM_put N3.out oM (by first | exact N1.out.lt | exact N2.out.lt | (simp; done) | (have := bA.size; have := bB.size; simp at *; omega)) (by first | exact Nat.le_refl _ | exact bw1.size | exact bw2.size) hk1 bw3⟩
  case rest =>
    obtain ⟨gbx, pW, kW, dW, rfl, rfl, HC⟩ := hcut
    obtain ⟨⟨m1, m2, ml, mg⟩, oo, hkW, b⟩ := HC.out
    have HZA : Hid (w.heap.size < gbx) := Nat.lt_of_lt_of_le al mg
    clear bd ba bad KAd KAe BNa a1e a2e HC
    replace a1 := (b.cell (p := ⟨w.heap.size, 0, none⟩) al).trans a1
    replace a2 := (b.cell (p := ⟨w.heap.size, 1, none⟩) al).trans a2
    replace al := Nat.lt_of_lt_of_le al b.size
    replace K0 := Lib.hid (K0.out.below b)
    replace HB := Lib.hid (HB.out.trans (b.mono HB.out.size))
    clear b
    have x1 := m1
    have x2 := m2
    have xl := ml
    have OW := Lib.hid oo
    have ow1 := Lib.hid (fun b hb => (Di.own_bd oo b hb).2)
    have hz1 := Lib.hid ml
    clear oo m1 m2 ml mg
    have hzw := Lib.hid HB.out.size
    have hza := Lib.hid (show w.heap.size < gbx from HZA.out)
    obtain ⟨Wx, hWx⟩ : ∃ W, W = wc := ⟨_, rfl⟩
    subst hWx
    go_wp2_with fail
    refine (CuT.toCurvePointS_any p0 n0 c0 M0 hs0 _ K0.out).mono ?_
    rintro e wcx0 ⟨gx0, rfl, o, b⟩
    replace a1 := (b.cell (p := ⟨w.heap.size, 0, none⟩) al).trans a1
    replace a2 := (b.cell (p := ⟨w.heap.size, 1, none⟩) al).trans a2
    replace al := Nat.lt_of_lt_of_le al b.size
    replace x1 := (b.cell (p := ⟨gbx, 0, none⟩) xl).trans x1
    replace x2 := (b.cell (p := ⟨gbx, 1, none⟩) xl).trans x2
    replace xl := Nat.lt_of_lt_of_le xl b.size
    replace K0 := Lib.hid (K0.out.below b)
    replace OW := Lib.hid (ownsRow_below OW.out b)
    replace HB := Lib.hid (HB.out.trans (b.mono HB.out.size))
    clear b
    have OX0 := Lib.hid o
    have hg0 := Lib.hid (o.lt gx0 rfl)
    clear o
    go_wp2_with fail
    refine (Me.toMeasurement_any y1 s1 _).mono ?_
    rintro e wt ⟨rfl, b⟩
    have hzt := Lib.hid b.size
    replace a1 := (b.cell (p := ⟨w.heap.size, 0, none⟩) al).trans a1
    replace a2 := (b.cell (p := ⟨w.heap.size, 1, none⟩) al).trans a2
    replace al := Nat.lt_of_lt_of_le al b.size
    replace x1 := (b.cell (p := ⟨gbx, 0, none⟩) xl).trans x1
    replace x2 := (b.cell (p := ⟨gbx, 1, none⟩) xl).trans x2
    replace xl := Nat.lt_of_lt_of_le xl b.size
    replace K0 := Lib.hid (K0.out.below b)
    replace OW := Lib.hid (ownsRow_below OW.out b)
    replace OX0 := Lib.hid (ownsRow_below OX0.out b)
    replace HB := Lib.hid (HB.out.trans (b.mono HB.out.size))
    clear b
    go_wp2_with fail
    refine (HI.out _ _ hs0 (Cu.holds_ownD OX0.out)).mono ?_
    rintro e w7 ⟨pG, kG, dG, rfl, o, hkG, b⟩
    have hz3 := Lib.hid b.size
    replace a1 := (b.cell (p := ⟨w.heap.size, 0, none⟩) al).trans a1
    replace a2 := (b.cell (p := ⟨w.heap.size, 1, none⟩) al).trans a2
    replace al := Nat.lt_of_lt_of_le al b.size
    replace x1 := (b.cell (p := ⟨gbx, 0, none⟩) xl).trans x1
    replace x2 := (b.cell (p := ⟨gbx, 1, none⟩) xl).trans x2
    replace xl := Nat.lt_of_lt_of_le xl b.size
    replace K0 := Lib.hid (K0.out.below b)
    replace OW := Lib.hid (ownsRow_below OW.out b)
    replace OX0 := Lib.hid (ownsRow_below OX0.out b)
    replace HB := Lib.hid (HB.out.trans (b.mono HB.out.size))
    clear b
    have OG := Lib.hid o
    have og1 := Lib.hid (Di.own_bd o)
    clear o
    have hkk : kG = kW := by have h1 := OG.out.1; have h2 := OW.out.1; rw [GivesI.ints_len] at h1 h2; omega
    subst hkk
    have b := below_alloc w7 (.cells #[.int .i64 fr, .slice pG kG dG] 42)
    have u1 := box_first w7 (.int .i64 fr) (.slice pG kG dG) 42
    have u2 := box_second w7 (.int .i64 fr) (.slice pG kG dG) 42
    have ul : w7.heap.size < (w7.alloc (.cells #[.int .i64 fr, .slice pG kG dG] 42)).heap.size := by simp
    replace a1 := (b.cell (p := ⟨w.heap.size, 0, none⟩) al).trans a1
    replace a2 := (b.cell (p := ⟨w.heap.size, 1, none⟩) al).trans a2
    replace al := Nat.lt_of_lt_of_le al b.size
    replace x1 := (b.cell (p := ⟨gbx, 0, none⟩) xl).trans x1
    replace x2 := (b.cell (p := ⟨gbx, 1, none⟩) xl).trans x2
    replace xl := Nat.lt_of_lt_of_le xl b.size
    replace K0 := Lib.hid (K0.out.below b)
    replace OW := Lib.hid (ownsRow_below OW.out b)
    replace OX0 := Lib.hid (ownsRow_below OX0.out b)
    replace OG := Lib.hid (ownsRow_below OG.out b)
    replace HB := Lib.hid (HB.out.trans (b.mono HB.out.size))
    clear b
    go_wp2_with fail
    generalize w7.alloc (.cells #[.int .i64 fr, .slice pG kG dG] 42) = W7 at *
    refine (Di.eqDist_same fr pG pW kG dG dW A hkG _ (GivesI.holds_own OG.out) (GivesI.holds_own OW.out)).mono ?_
    rintro e w8 ⟨rfl, b⟩
    replace a1 := (b.cell (p := ⟨w.heap.size, 0, none⟩) al).trans a1
    replace a2 := (b.cell (p := ⟨w.heap.size, 1, none⟩) al).trans a2
    replace al := Nat.lt_of_lt_of_le al b.size
    replace x1 := (b.cell (p := ⟨gbx, 0, none⟩) xl).trans x1
    replace x2 := (b.cell (p := ⟨gbx, 1, none⟩) xl).trans x2
    replace xl := Nat.lt_of_lt_of_le xl b.size
    replace u1 := (b.cell (p := ⟨w7.heap.size, 0, none⟩) ul).trans u1
    replace u2 := (b.cell (p := ⟨w7.heap.size, 1, none⟩) ul).trans u2
    replace ul := Nat.lt_of_lt_of_le ul b.size
    replace K0 := Lib.hid (K0.out.below b)
    replace OW := Lib.hid (ownsRow_below OW.out b)
    replace OX0 := Lib.hid (ownsRow_below OX0.out b)
    replace OG := Lib.hid (ownsRow_below OG.out b)
    replace HB := Lib.hid (HB.out.trans (b.mono HB.out.size))
    clear b
    go_wp2_with fail
    refine (CuT.toCurvePointS_any p0 n0 c0 M0 hs0 _ K0.out).mono ?_
    rintro e wd0 ⟨gd0, rfl, o, b⟩
    replace a1 := (b.cell (p := ⟨w.heap.size, 0, none⟩) al).trans a1
    replace a2 := (b.cell (p := ⟨w.heap.size, 1, none⟩) al).trans a2
    replace al := Nat.lt_of_lt_of_le al b.size
    replace x1 := (b.cell (p := ⟨gbx, 0, none⟩) xl).trans x1
    replace x2 := (b.cell (p := ⟨gbx, 1, none⟩) xl).trans x2
    replace xl := Nat.lt_of_lt_of_le xl b.size
    replace u1 := (b.cell (p := ⟨w7.heap.size, 0, none⟩) ul).trans u1
    replace u2 := (b.cell (p := ⟨w7.heap.size, 1, none⟩) ul).trans u2
    replace ul := Nat.lt_of_lt_of_le ul b.size
    replace K0 := Lib.hid (K0.out.below b)
    replace OW := Lib.hid (ownsRow_below OW.out b)
    replace OX0 := Lib.hid (ownsRow_below OX0.out b)
    replace OG := Lib.hid (ownsRow_below OG.out b)
    replace HB := Lib.hid (HB.out.trans (b.mono HB.out.size))
    clear b
    have Gd := Lib.hid (Cu.holds_ownD o)
    clear o
    go_wp2_with fail
    refine (CuT.eqCurvePointS_same (some ⟨gx0, 0, none⟩) (some ⟨gd0, 0, none⟩) n0 n0 n0 M0 hs0 _ (Cu.holds_ownD OX0.out) Gd.out).mono ?_
    rintro e we0 ⟨rfl, b⟩
    clear Gd
    replace a1 := (b.cell (p := ⟨w.heap.size, 0, none⟩) al).trans a1
    replace a2 := (b.cell (p := ⟨w.heap.size, 1, none⟩) al).trans a2
    replace al := Nat.lt_of_lt_of_le al b.size
    replace x1 := (b.cell (p := ⟨gbx, 0, none⟩) xl).trans x1
    replace x2 := (b.cell (p := ⟨gbx, 1, none⟩) xl).trans x2
    replace xl := Nat.lt_of_lt_of_le xl b.size
    replace u1 := (b.cell (p := ⟨w7.heap.size, 0, none⟩) ul).trans u1
    replace u2 := (b.cell (p := ⟨w7.heap.size, 1, none⟩) ul).trans u2
    replace ul := Nat.lt_of_lt_of_le ul b.size
    replace K0 := Lib.hid (K0.out.below b)
    replace OW := Lib.hid (ownsRow_below OW.out b)
    replace OX0 := Lib.hid (ownsRow_below OX0.out b)
    replace OG := Lib.hid (ownsRow_below OG.out b)
    replace HB := Lib.hid (HB.out.trans (b.mono HB.out.size))
    clear b
    go_wp2_with fail
    refine (CuM.markD_any (gbx + 1) (some ⟨gx0, 0, none⟩) n0 n0 1 (Cu.flatD M0) (by omega) (by omega) hs0 _ (Keep.ownsRow_base OX0.out (by have q1 := hz1.out; have q2 := hzw.out; have q3 := hzt.out; have q5 := hz3.out; have q10 := hg0.out; omega))).mono ?_
    rintro e wm0 ⟨rfl, -, kk⟩
    have e2 : ∀ b, (Value.slice (some ⟨gx0, 0, none⟩) n0 n0).ownBlock = some b → b = gx0 := fun b hb => by simpa [Value.ownBlock, eq_comm] using hb
    have q1 := hz1.out; have q2 := hzw.out; have q3 := hzt.out; have q5 := hz3.out; have q10 := hg0.out
    have q11 := hza.out
    have KB := fun b hq => e2 b hq
    replace a1 := kk.cell a1 (by intro hq; have := KB _ hq; simp only at this; omega)
    replace a2 := kk.cell a2 (by intro hq; have := KB _ hq; simp only at this; omega)
    replace al := Nat.lt_of_lt_of_le al kk.size
    replace x1 := kk.cell x1 (by intro hq; have := KB _ hq; simp only at this; omega)
    replace x2 := kk.cell x2 (by intro hq; have := KB _ hq; simp only at this; omega)
    replace xl := Nat.lt_of_lt_of_le xl kk.size
    replace u1 := kk.cell u1 (by intro hq; have := KB _ hq; simp only at this; omega)
    replace u2 := kk.cell u2 (by intro hq; have := KB _ hq; simp only at this; omega)
    replace ul := Nat.lt_of_lt_of_le ul kk.size
    replace K0 := Lib.hid (CuG.heldKeptD H00.out K0.out kk (fun b hb hq => by have := e2 _ hq; omega))
    replace OW := Lib.hid (kk.owns OW.out (fun b hb hq => by have h1 := e2 _ hq; have h2 := ow1.out b hb; omega))
    replace OG := Lib.hid (kk.owns OG.out (fun b hb hq => by have h1 := e2 _ hq; have h2 := og1.out b hb; omega))
    replace HB := Lib.hid (HB.out.trans (kk.below (B := w.heap.size) (fun b hq => by have := e2 _ hq; omega) HB.out.size))
    clear kk OX0 e2 KB q11
    clear q1 q2 q3 q5 q10
    have hnk : ¬ (1 : Int) + 3 * (n0 : Int) < 0 := by omega
    have hnb : decide ((1 : Int) + 3 * (n0 : Int) < 0) = false := decide_eq_false hnk
    go_wp2_with fail
    refine (Di.eqDist_same fr pG pW kG dG dW A hkG _ (GivesI.holds_own OG.out) (GivesI.holds_own OW.out)).mono ?_
    rintro e w12 ⟨rfl, b⟩
    replace a1 := (b.cell (p := ⟨w.heap.size, 0, none⟩) al).trans a1
    replace a2 := (b.cell (p := ⟨w.heap.size, 1, none⟩) al).trans a2
    replace al := Nat.lt_of_lt_of_le al b.size
    replace x1 := (b.cell (p := ⟨gbx, 0, none⟩) xl).trans x1
    replace x2 := (b.cell (p := ⟨gbx, 1, none⟩) xl).trans x2
    replace xl := Nat.lt_of_lt_of_le xl b.size
    replace u1 := (b.cell (p := ⟨w7.heap.size, 0, none⟩) ul).trans u1
    replace u2 := (b.cell (p := ⟨w7.heap.size, 1, none⟩) ul).trans u2
    replace ul := Nat.lt_of_lt_of_le ul b.size
    replace K0 := Lib.hid (K0.out.below b)
    replace OW := Lib.hid (ownsRow_below OW.out b)
    replace OG := Lib.hid (ownsRow_below OG.out b)
    replace HB := Lib.hid (HB.out.trans (b.mono HB.out.size))
    clear b
    go_wp2_with fail
    refine (Di.markDist_any _ fr pG kG dG 1 (GivesI.ints A) (by omega) (by omega) hkG _ OG.out).mono ?_
    rintro e w13 ⟨rfl, om, kk⟩
    have q1 := hz1.out; have q2 := hzw.out; have q3 := hzt.out; have q5 := hz3.out; have q10 := hg0.out
    have q11 := hza.out
    have KB := fun b hq => og1.out b hq
    replace a1 := kk.cell a1 (by intro hq; have := KB _ hq; simp only at this; omega)
    replace a2 := kk.cell a2 (by intro hq; have := KB _ hq; simp only at this; omega)
    replace al := Nat.lt_of_lt_of_le al kk.size
    replace x1 := kk.cell x1 (by intro hq; have := KB _ hq; simp only at this; omega)
    replace x2 := kk.cell x2 (by intro hq; have := KB _ hq; simp only at this; omega)
    replace xl := Nat.lt_of_lt_of_le xl kk.size
    replace u1 := kk.cell u1 (by intro hq; have := KB _ hq; simp only at this; omega)
    replace u2 := kk.cell u2 (by intro hq; have := KB _ hq; simp only at this; omega)
    replace ul := Nat.lt_of_lt_of_le ul kk.size
    replace K0 := Lib.hid (CuG.heldKeptD H00.out K0.out kk (fun b hb hq => by have := og1.out _ hq; omega))
    replace OW := Lib.hid (kk.owns OW.out (fun b hb hq => by have h1 := og1.out _ hq; have h2 := ow1.out b hb; omega))
    replace HB := Lib.hid (HB.out.trans (kk.below (B := w.heap.size) (fun b hq => by have := og1.out _ hq; omega) HB.out.size))
    have MG := Lib.hid (GivesI.holds_own om)
    clear kk om OG KB q11
    clear q1 q2 q3 q5 q10
    have hkn : ¬ (1 : Int) + (kG : Int) < 0 := by omega
    have hkb : decide ((1 : Int) + (kG : Int) < 0) = false := decide_eq_false hkn
    go_wp2_with fail
    refine (Di.heldDist_any fr pG kG dG 1 (by omega) (by omega) hkG _ MG.out).mono ?_
    rintro e w14 ⟨rfl, b⟩
    replace a1 := (b.cell (p := ⟨w.heap.size, 0, none⟩) al).trans a1
    replace a2 := (b.cell (p := ⟨w.heap.size, 1, none⟩) al).trans a2
    replace al := Nat.lt_of_lt_of_le al b.size
    replace x1 := (b.cell (p := ⟨gbx, 0, none⟩) xl).trans x1
    replace x2 := (b.cell (p := ⟨gbx, 1, none⟩) xl).trans x2
    replace xl := Nat.lt_of_lt_of_le xl b.size
    replace u1 := (b.cell (p := ⟨w7.heap.size, 0, none⟩) ul).trans u1
    replace u2 := (b.cell (p := ⟨w7.heap.size, 1, none⟩) ul).trans u2
    replace ul := Nat.lt_of_lt_of_le ul b.size
    replace K0 := Lib.hid (K0.out.below b)
    replace MG := Lib.hid (MG.out.below b)
    replace OW := Lib.hid (ownsRow_below OW.out b)
    replace HB := Lib.hid (HB.out.trans (b.mono HB.out.size))
    clear b
    go_wp2_with fail
    have bd : Below w14.heap.size w14 w14.drew := (Below.refl w14.heap.size w14).drew
    have ba := below_alloc w14 (.cells #[.int .i64 0, .slice none 0 0] 42)
    have bad : Below w14.heap.size w14 (w14.alloc (.cells #[.int .i64 0, .slice none 0 0] 42)).drew := ba.drew
    have KAd := Lib.hid (K0.out.below bd)
    have KAe := Lib.hid (K0.out.below bad)
    have BNa := Lib.hid (show ShI.Bx (w14.alloc (.cells #[.int .i64 0, .slice none 0 0] 42)).drew w14.heap.size (.int .i64 0) (.slice none 0 0) from ⟨(ShI.bx_new w14 _ _ _).c0, (ShI.bx_new w14 _ _ _).c1, (ShI.bx_new w14 _ _ _).f0, (ShI.bx_new w14 _ _ _).f1, (ShI.bx_new w14 _ _ _).lt⟩)
    have a1e := (ba.cell (p := ⟨w.heap.size, 0, none⟩) al).trans a1
    have a2e := (ba.cell (p := ⟨w.heap.size, 1, none⟩) al).trans a2
    have x1e := (ba.cell (p := ⟨gbx, 0, none⟩) xl).trans x1
    have x2e := (ba.cell (p := ⟨gbx, 1, none⟩) xl).trans x2
    have u1e := (ba.cell (p := ⟨w7.heap.size, 0, none⟩) ul).trans u1
    have u2e := (ba.cell (p := ⟨w7.heap.size, 1, none⟩) ul).trans u2
    go_upto_region 24 with fail
    go_cut [14, 15] (fun sx sy wc => ∃ gb p1 k1 d1, sx = .pointer (some ⟨gb, 0, none⟩) ∧ sy = .bool ok ∧ Hid (Lz.RelM w14 wc gb p1 k1 d1 fr A))
    case first =>
      go_region_held3 (fun w' => w'.cell? ⟨w.heap.size, 0, none⟩ = some (.int .i64 y1) ∧ w'.cell? ⟨w.heap.size, 1, none⟩ = some (.int .i64 s1) ∧ w'.cell? ⟨gbx, 0, none⟩ = some (.int .i64 fr) ∧ w'.cell? ⟨gbx, 1, none⟩ = some (.slice pW kG dW) ∧ w'.cell? ⟨w7.heap.size, 0, none⟩ = some (.int .i64 fr) ∧ w'.cell? ⟨w7.heap.size, 1, none⟩ = some (.slice pG kG dG))
        (first | go_keep | (exact ⟨by first | assumption | exact a1s _ (by first | exact Nat.le_refl _ | exact bw1.size | exact bw2.size), by first | assumption | exact a2s _ (by first | exact Nat.le_refl _ | exact bw1.size | exact bw2.size), by first | assumption | exact x1s _ (by first | exact Nat.le_refl _ | exact bw1.size | exact bw2.size), by first | assumption | exact x2s _ (by first | exact Nat.le_refl _ | exact bw1.size | exact bw2.size), by first | assumption | exact u1s _ (by first | exact Nat.le_refl _ | exact bw1.size | exact bw2.size), by first | assumption | exact u2s _ (by first | exact Nat.le_refl _ | exact bw1.size | exact bw2.size)⟩))
        (first
          | (go_at_call 16; refine (CuT.toCurvePointS_any p0 n0 c0 M0 hs0 _ (by first | exact KAd.out | exact KAe.out)).mono ?_; rintro e v1 ⟨gA, rfl, oA, bA⟩; have bw1 : Below w14.heap.size w14 v1 := (by first | exact bd.trans (bA.mono bd.size) | exact bad.trans (bA.mono bad.size)); have bw1a : Below w14.heap.size w14 (v1.alloc (.cells #[.int .i64 0, .slice none 0 0] 42)) := bw1.trans ((below_alloc v1 (.cells #[.int .i64 0, .slice none 0 0] 42)).mono bw1.size); have a1v1 := (bw1.cell (p := ⟨w.heap.size, 0, none⟩) al).trans a1; have a2v1 := (bw1.cell (p := ⟨w.heap.size, 1, none⟩) al).trans a2; have a1v1e := (bw1a.cell (p := ⟨w.heap.size, 0, none⟩) al).trans a1; have a2v1e := (bw1a.cell (p := ⟨w.heap.size, 1, none⟩) al).trans a2; have x1v1 := (bw1.cell (p := ⟨gbx, 0, none⟩) xl).trans x1; have x2v1 := (bw1.cell (p := ⟨gbx, 1, none⟩) xl).trans x2; have x1v1e := (bw1a.cell (p := ⟨gbx, 0, none⟩) xl).trans x1; have x2v1e := (bw1a.cell (p := ⟨gbx, 1, none⟩) xl).trans x2; have u1v1 := (bw1.cell (p := ⟨w7.heap.size, 0, none⟩) ul).trans u1; have u2v1 := (bw1.cell (p := ⟨w7.heap.size, 1, none⟩) ul).trans u2; have u1v1e := (bw1a.cell (p := ⟨w7.heap.size, 0, none⟩) ul).trans u1; have u2v1e := (bw1a.cell (p := ⟨w7.heap.size, 1, none⟩) ul).trans u2; try have N1 := Lib.hid (BNa.out.below bA))
          | (go_at_call 28; refine (Me.toMeasurement_any y1 s1 _).mono ?_; rintro e v2 ⟨rfl, bB⟩; have bw2 : Below w14.heap.size w14 v2 := (by first | exact bw1.trans (bB.mono bw1.size) | exact bw1a.trans (bB.mono bw1a.size)); have bw2a : Below w14.heap.size w14 (v2.alloc (.cells #[.int .i64 0, .slice none 0 0] 42)) := bw2.trans ((below_alloc v2 (.cells #[.int .i64 0, .slice none 0 0] 42)).mono bw2.size); have a1v2 := (bw2.cell (p := ⟨w.heap.size, 0, none⟩) al).trans a1; have a2v2 := (bw2.cell (p := ⟨w.heap.size, 1, none⟩) al).trans a2; have a1v2e := (bw2a.cell (p := ⟨w.heap.size, 0, none⟩) al).trans a1; have a2v2e := (bw2a.cell (p := ⟨w.heap.size, 1, none⟩) al).trans a2; have x1v2 := (bw2.cell (p := ⟨gbx, 0, none⟩) xl).trans x1; have x2v2 := (bw2.cell (p := ⟨gbx, 1, none⟩) xl).trans x2; have x1v2e := (bw2a.cell (p := ⟨gbx, 0, none⟩) xl).trans x1; have x2v2e := (bw2a.cell (p := ⟨gbx, 1, none⟩) xl).trans x2; have u1v2 := (bw2.cell (p := ⟨w7.heap.size, 0, none⟩) ul).trans u1; have u2v2 := (bw2.cell (p := ⟨w7.heap.size, 1, none⟩) ul).trans u2; have u1v2e := (bw2a.cell (p := ⟨w7.heap.size, 0, none⟩) ul).trans u1; have u2v2e := (bw2a.cell (p := ⟨w7.heap.size, 1, none⟩) ul).trans u2; have oA2 : Cu.HoldsD v2 (some ⟨gA, 0, none⟩) n0 M0 := (by first | exact (Cu.holds_ownD oA).below bB | exact ((Cu.holds_ownD oA).below (below_alloc v1 _)).below bB); first | have N2 := Lib.hid (N1.out.below bB) | have N2 := Lib.hid ((ShI.bx_new v1 (.int .i64 0) (.slice none 0 0) 42).below bB) | skip)
          | (go_at_call 29; refine (HI.out _ _ hs0 (by first | exact oA2 | exact oA2.below (below_alloc v2 _))).mono ?_; rintro e v3 ⟨p1, k1, d1, rfl, oM, hk1, bM⟩; have bw3 : Below w14.heap.size w14 v3 := (by first | exact bw2.trans (bM.mono bw2.size) | exact bw2a.trans (bM.mono bw2a.size)); have bw3a : Below w14.heap.size w14 (v3.alloc (.cells #[.int .i64 0, .slice none 0 0] 42)) := bw3.trans ((below_alloc v3 (.cells #[.int .i64 0, .slice none 0 0] 42)).mono bw3.size); have a1v3 := (bw3.cell (p := ⟨w.heap.size, 0, none⟩) al).trans a1; have a2v3 := (bw3.cell (p := ⟨w.heap.size, 1, none⟩) al).trans a2; have a1v3e := (bw3a.cell (p := ⟨w.heap.size, 0, none⟩) al).trans a1; have a2v3e := (bw3a.cell (p := ⟨w.heap.size, 1, none⟩) al).trans a2; have x1v3 := (bw3.cell (p := ⟨gbx, 0, none⟩) xl).trans x1; have x2v3 := (bw3.cell (p := ⟨gbx, 1, none⟩) xl).trans x2; have x1v3e := (bw3a.cell (p := ⟨gbx, 0, none⟩) xl).trans x1; have x2v3e := (bw3a.cell (p := ⟨gbx, 1, none⟩) xl).trans x2; have u1v3 := (bw3.cell (p := ⟨w7.heap.size, 0, none⟩) ul).trans u1; have u2v3 := (bw3.cell (p := ⟨w7.heap.size, 1, none⟩) ul).trans u2; have u1v3e := (bw3a.cell (p := ⟨w7.heap.size, 0, none⟩) ul).trans u1; have u2v3e := (bw3a.cell (p := ⟨w7.heap.size, 1, none⟩) ul).trans u2; have a1s := fun k (hk : w14.heap.size ≤ k) => ShI.cell_off (k := k) (.int .i64 fr) (.slice p1 k1 d1) a1v3 (by omega); have a2s := fun k (hk : w14.heap.size ≤ k) => ShI.cell_off (k := k) (.int .i64 fr) (.slice p1 k1 d1) a2v3 (by omega); have x1s := fun k (hk : w14.heap.size ≤ k) => ShI.cell_off (k := k) (.int .i64 fr) (.slice p1 k1 d1) x1v3 (by omega); have x2s := fun k (hk : w14.heap.size ≤ k) => ShI.cell_off (k := k) (.int .i64 fr) (.slice p1 k1 d1) x2v3 (by omega); have u1s := fun k (hk : w14.heap.size ≤ k) => ShI.cell_off (k := k) (.int .i64 fr) (.slice p1 k1 d1) u1v3 (by omega); have u2s := fun k (hk : w14.heap.size ≤ k) => ShI.cell_off (k := k) (.int .i64 fr) (.slice p1 k1 d1) u2v3 (by omega); first | (have N3 := Lib.hid (N2.out.below bM); obtain ⟨n0_, n1_, n2_, n3_, -⟩ := N3.out) | (have N3 := Lib.hid ((ShI.bx_new v2 (.int .i64 0) (.slice none 0 0) 42).below bM); obtain ⟨n0_, n1_, n2_, n3_, -⟩ := N3.out) | skip))
      all_goals go_wp2_with fail
      all_goals go_meet
      all_goals exact ⟨_, p1, k1, d1, rfl, rfl, by first | exact Lz.relM_new oM bw2.size hk1 bw3 | exact Lz.relM_new oM bw2a.size hk1 bw3 | exact Lz.relM_put N3.out oM (by first | exact N1.out.lt | exact N2.out.lt | (simp; done) | (have := bA.size; have := bB.size; simp at *; omega)) (by first | exact Nat.le_refl _ | exact bw1.size | exact bw2.size) hk1 bw3⟩
    case rest =>
    obtain ⟨gbh, pH, kH, dH, rfl, rfl, HC⟩ := hcut
    obtain ⟨⟨m1, m2, ml, mg⟩, oo, hkH, b⟩ := HC.out
    clear bd ba bad KAd KAe BNa a1e a2e x1e x2e u1e u2e HC
    replace a1 := (b.cell (p := ⟨w.heap.size, 0, none⟩) al).trans a1
    replace a2 := (b.cell (p := ⟨w.heap.size, 1, none⟩) al).trans a2
    replace al := Nat.lt_of_lt_of_le al b.size
    replace x1 := (b.cell (p := ⟨gbx, 0, none⟩) xl).trans x1
    replace x2 := (b.cell (p := ⟨gbx, 1, none⟩) xl).trans x2
    replace xl := Nat.lt_of_lt_of_le xl b.size
    replace u1 := (b.cell (p := ⟨w7.heap.size, 0, none⟩) ul).trans u1
    replace u2 := (b.cell (p := ⟨w7.heap.size, 1, none⟩) ul).trans u2
    replace ul := Nat.lt_of_lt_of_le ul b.size
    replace K0 := Lib.hid (K0.out.below b)
    replace MG := Lib.hid (MG.out.below b)
    replace OW := Lib.hid (ownsRow_below OW.out b)
    replace HB := Lib.hid (HB.out.trans (b.mono HB.out.size))
    clear b
    have h1 := m1
    have h2 := m2
    have hl := ml
    have OH := Lib.hid oo
    clear oo m1 m2 ml mg
    have hkk : kH = kG := by have h1 := OH.out.1; have h2 := OW.out.1; rw [GivesI.ints_len] at h1 h2; omega
    subst hkk
    go_wp2_with fail
    refine (Di.eqDist_same fr pH pW kH dH dW A hkH _ (GivesI.holds_own OH.out) (GivesI.holds_own OW.out)).mono ?_
    rintro e w17 ⟨rfl, b⟩
    replace a1 := (b.cell (p := ⟨w.heap.size, 0, none⟩) al).trans a1
    replace a2 := (b.cell (p := ⟨w.heap.size, 1, none⟩) al).trans a2
    replace al := Nat.lt_of_lt_of_le al b.size
    replace x1 := (b.cell (p := ⟨gbx, 0, none⟩) xl).trans x1
    replace x2 := (b.cell (p := ⟨gbx, 1, none⟩) xl).trans x2
    replace xl := Nat.lt_of_lt_of_le xl b.size
    replace u1 := (b.cell (p := ⟨w7.heap.size, 0, none⟩) ul).trans u1
    replace u2 := (b.cell (p := ⟨w7.heap.size, 1, none⟩) ul).trans u2
    replace ul := Nat.lt_of_lt_of_le ul b.size
    replace h1 := (b.cell (p := ⟨gbh, 0, none⟩) hl).trans h1
    replace h2 := (b.cell (p := ⟨gbh, 1, none⟩) hl).trans h2
    replace hl := Nat.lt_of_lt_of_le hl b.size
    replace K0 := Lib.hid (K0.out.below b)
    replace MG := Lib.hid (MG.out.below b)
    replace OW := Lib.hid (ownsRow_below OW.out b)
    replace OH := Lib.hid (ownsRow_below OH.out b)
    replace HB := Lib.hid (HB.out.trans (b.mono HB.out.size))
    clear b
    go_wp2_with fail
    refine (Di.heldDist_any fr pG kH dG 1 (by omega) (by omega) hkH _ MG.out).mono ?_
    rintro e w18 ⟨rfl, b⟩
    replace a1 := (b.cell (p := ⟨w.heap.size, 0, none⟩) al).trans a1
    replace a2 := (b.cell (p := ⟨w.heap.size, 1, none⟩) al).trans a2
    replace al := Nat.lt_of_lt_of_le al b.size
    replace x1 := (b.cell (p := ⟨gbx, 0, none⟩) xl).trans x1
    replace x2 := (b.cell (p := ⟨gbx, 1, none⟩) xl).trans x2
    replace xl := Nat.lt_of_lt_of_le xl b.size
    replace u1 := (b.cell (p := ⟨w7.heap.size, 0, none⟩) ul).trans u1
    replace u2 := (b.cell (p := ⟨w7.heap.size, 1, none⟩) ul).trans u2
    replace ul := Nat.lt_of_lt_of_le ul b.size
    replace h1 := (b.cell (p := ⟨gbh, 0, none⟩) hl).trans h1
    replace h2 := (b.cell (p := ⟨gbh, 1, none⟩) hl).trans h2
    replace hl := Nat.lt_of_lt_of_le hl b.size
    replace K0 := Lib.hid (K0.out.below b)
    replace MG := Lib.hid (MG.out.below b)
    replace OW := Lib.hid (ownsRow_below OW.out b)
    replace OH := Lib.hid (ownsRow_below OH.out b)
    replace HB := Lib.hid (HB.out.trans (b.mono HB.out.size))
    clear b
    go_wp2_with fail
    go_ret
    exact ⟨rfl, HB.out⟩
end Go.Proofs.Ytlpcgchekhoieaa.WCalibrateAge
