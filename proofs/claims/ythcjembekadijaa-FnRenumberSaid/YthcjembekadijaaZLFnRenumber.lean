/- FnRenumber: at every code the law returns true (a code of more than 65536 bytes at once), and what was there before is left as it was. No condition. -/
import Derived.Test.YthcjembekadijaaOrderSaidPartaa
import Derived.Test.YthcjembekadijaaRenumberSaidPartaa
import Derived.Test.YthcjembekadijaaRenumberSaidPartad
import Derived.Test.YthcjembekadijaaRenumberSaidPartaf
import Derived.Test.YthcjembekadijaaRenumberSaidPartae
namespace Go.Proofs.Ythcjembekadijaa.LFnRenumber
open Go.RowKit Cur Pairs Rec Find2 GoodM Keep Drw DrwC DrwR DrwP RenM RenB
theorem box_cells {w : World} {u v : Value} {T : TypeId} : ∀ X, Below (w.alloc (.cells #[u, v] T)).heap.size (w.alloc (.cells #[u, v] T)) X → X.cell? ⟨w.heap.size, 0, none⟩ = some u ∧ X.cell? ⟨w.heap.size, 1, none⟩ = some v := fun X hX => by
  have hb := (hX.block w.heap.size (by simp)).trans (heap_alloc_new w _)
  exact ⟨by simp [World.cell?, hb], by simp [World.cell?, hb]⟩
set_option maxRecDepth 100000 in
set_option maxHeartbeats 16000000 in
theorem walk (a : Option Addr) (len cap : Nat) (zs : List Int) (w : World) (h : LawC.IsRow .u8 w a len cap zs) :
    Calls Try.prog 7 #[.slice a len cap] w fun e w' => e = .returned (.bool true) ∧ Below w.heap.size w w' := by
  have HRow := Lib.hid h
  clear h
  go_enter Try.func7, Try.ntmps7
  go_wp2_with fail
  refine (LawC.vBig_any a len cap w).mono ?_
  rintro e w1 ⟨rfl, rfl⟩
  by_cases hl : 65536 < (len : Int)
  · rw [decide_eq_true hl]
    go_wp2_with fail
    go_ret
    exact ⟨rfl, Below.refl _ _⟩
  · rw [decide_eq_false hl]
    have HC := Lib.hid (LawC.code_of HRow.out (by omega))
    go_wp2_with fail
    refine (DrwM.drawRenumber_any a len cap w HC.out).mono ?_
    rintro e w1 ⟨p1, n1, d1, p2, n2, d2, l, m, x, y, rfl, hd⟩
    have hf1 := hd.few1
    have hf2 := hd.few2
    have hc1 := hd.cap1
    have hc2 := hd.cap2
    have hb1 := below_alloc w1 (.cells #[.slice p1 n1 d1, .slice p2 n2 d2] 27)
    have HR1 := Lib.hid ((holds_own hd.ctx).below hb1)
    have HR2 := Lib.hid ((holds_own hd.rel).below hb1)
    have HBV := Lib.hid (hd.bel.trans (hb1.mono hd.bel.size))
    have HBX : Hid (∀ X, Below (w1.alloc (.cells #[.slice p1 n1 d1, .slice p2 n2 d2] 27)).heap.size (w1.alloc (.cells #[.slice p1 n1 d1, .slice p2 n2 d2] 27)) X → X.cell? ⟨w1.heap.size, 0, none⟩ = some (.slice p1 n1 d1) ∧ X.cell? ⟨w1.heap.size, 1, none⟩ = some (.slice p2 n2 d2)) := box_cells
    clear hb1 hd
    go_upto_region 4 with fail
    generalize w1.alloc (.cells #[.slice p1 n1 d1, .slice p2 n2 d2] 27) = V at *
    cases hr : renM x y l m with
    | none =>
      have HI : Hid (∀ W, Holds W p1 n1 l → Holds W p2 n2 m → Calls Try.prog 42 #[.agg #[.slice p1 n1 d1, .slice p2 n2 d2], .int .i64 x, .int .i64 y] W (Gives.Res false [] [] W)) := fun W h1 h2 => by
        have h := RenI.impl_any x y p1 p2 n1 d1 n2 d2 l m W (by omega) (by omega) h1 h2
        rw [hr] at h
        exact h
      have HS : Hid (∀ W, Holds W p1 n1 l → Holds W p2 n2 m → Calls Try.prog 43 #[.agg #[.slice p1 n1 d1, .slice p2 n2 d2], .int .i64 x, .int .i64 y] W (Gives.Res false [] [] W)) := fun W h1 h2 => by
        have h := RenC.spec_cap x y p1 p2 n1 d1 n2 d2 l m W hc1 hc2 (by omega) (by omega) h1 h2
        rw [hr] at h
        exact h
      clear hr
      obtain ⟨s1, s2⟩ := HBX.out V (Below.refl _ _)
      go_wp2_with fail
      refine (HI.out V HR1.out HR2.out).mono ?_
      rintro e w2 ⟨q1, k1, e1, q2, k2, e2, rfl, hgot, hk1, hk2, b2⟩
      obtain rfl : k1 = 0 := by
        have h := (holds_own hgot.ctx).1
        simpa using h.symm
      have hb := below_alloc w2 (.cells #[.slice q1 0 e1, .slice q2 k2 e2] 27)
      have HB2 := Lib.hid (b2.trans (hb.mono b2.size))
      have HBS : Hid (∀ X, Below (w2.alloc (.cells #[.slice q1 0 e1, .slice q2 k2 e2] 27)).heap.size (w2.alloc (.cells #[.slice q1 0 e1, .slice q2 k2 e2] 27)) X → X.cell? ⟨w2.heap.size, 0, none⟩ = some (.slice q1 0 e1) ∧ X.cell? ⟨w2.heap.size, 1, none⟩ = some (.slice q2 k2 e2)) := box_cells
      clear hgot b2 hb s1 s2
      go_upto_region 5 with fail
      generalize w2.alloc (.cells #[.slice q1 0 e1, .slice q2 k2 e2] 27) = V2 at *
      obtain ⟨s1, s2⟩ := HBX.out V2 HB2.out
      go_wp2_with fail
      refine (HS.out V2 (HR1.out.below HB2.out) (HR2.out.below HB2.out)).mono ?_
      rintro e w3 ⟨r1, j1, f1, r2, j2, f2, rfl, hgot, hj1, hj2, b3⟩
      have hb := below_alloc w3 (.cells #[.slice r1 j1 f1, .slice r2 j2 f2] 27)
      have HB23 := Lib.hid (b3.trans (hb.mono b3.size))
      have HB3 := Lib.hid (HB2.out.trans (HB23.out.mono HB2.out.size))
      clear hgot b3 hb s1 s2
      go_upto_region 6 with fail
      generalize w3.alloc (.cells #[.slice r1 j1 f1, .slice r2 j2 f2] 27) = V3 at *
      obtain ⟨s1, s2⟩ := HBS.out V3 HB23.out
      go_wp2_with fail
      go_ret
      exact ⟨rfl, HBV.out.trans (HB3.out.mono HBV.out.size)⟩
    | some r =>
      obtain ⟨l', m'⟩ := r
      have HI : Hid (∀ W, Holds W p1 n1 l → Holds W p2 n2 m → Calls Try.prog 42 #[.agg #[.slice p1 n1 d1, .slice p2 n2 d2], .int .i64 x, .int .i64 y] W (Gives.Res true l' m' W)) := fun W h1 h2 => by
        have h := RenI.impl_any x y p1 p2 n1 d1 n2 d2 l m W (by omega) (by omega) h1 h2
        rw [hr] at h
        exact h
      have HS : Hid (∀ W, Holds W p1 n1 l → Holds W p2 n2 m → Calls Try.prog 43 #[.agg #[.slice p1 n1 d1, .slice p2 n2 d2], .int .i64 x, .int .i64 y] W (Gives.Res true l' m' W)) := fun W h1 h2 => by
        have h := RenC.spec_cap x y p1 p2 n1 d1 n2 d2 l m W hc1 hc2 (by omega) (by omega) h1 h2
        rw [hr] at h
        exact h
      obtain ⟨K, K', hK, hK', hlen⟩ := ren_rels hr
      have hbk := ren_back hr
      have HBk : Hid (∀ W q1 k1 e1 q2 k2 e2, k1 ≤ 1048576 → k2 ≤ 1048576 → Holds W q1 k1 l' → Holds W q2 k2 m' → Calls Try.prog 42 #[.agg #[.slice q1 k1 e1, .slice q2 k2 e2], .int .i64 y, .int .i64 x] W (Gives.Res true l m W)) := fun W q1 k1 e1 q2 k2 e2 z1 z2 h1 h2 => by
        have h := RenI.impl_any y x q1 q2 k1 e1 k2 e2 l' m' W z1 z2 h1 h2
        rw [hbk] at h
        exact h
      have HA : Hid (∀ W, Holds W p1 n1 l → Holds W p2 n2 m → Calls Try.prog 44 #[.agg #[.slice p1 n1 d1, .slice p2 n2 d2], .int .i64 x] W (GivesS.Res true K W)) := fun W h1 h2 => by
        have h := RelOf.impl_any x p1 p2 n1 d1 n2 d2 l m W (by omega) (by omega) h1 h2
        rw [hK] at h
        exact h
      have HB : Hid (∀ W q1 k1 e1 q2 k2 e2, k1 ≤ 1048576 → k2 ≤ 1048576 → Holds W q1 k1 l' → Holds W q2 k2 m' → Calls Try.prog 44 #[.agg #[.slice q1 k1 e1, .slice q2 k2 e2], .int .i64 y] W (GivesS.Res true K' W)) := fun W q1 k1 e1 q2 k2 e2 z1 z2 h1 h2 => by
        have h := RelOf.impl_any y q1 q2 k1 e1 k2 e2 l' m' W z1 z2 h1 h2
        rw [hK'] at h
        exact h
      have HLEN := Lib.hid hlen
      clear hr hK hK' hlen hbk
      obtain ⟨s1, s2⟩ := HBX.out V (Below.refl _ _)
      go_wp2_with fail
      refine (HI.out V HR1.out HR2.out).mono ?_
      rintro e w2 ⟨q1, k1, e1, q2, k2, e2, rfl, hgot, hk1, hk2, b2⟩
      have hb := below_alloc w2 (.cells #[.slice q1 k1 e1, .slice q2 k2 e2] 27)
      have HB2 := Lib.hid (b2.trans (hb.mono b2.size))
      have HQ1 := Lib.hid ((holds_own hgot.ctx).below hb)
      have HQ2 := Lib.hid ((holds_own hgot.rel).below hb)
      have HBS : Hid (∀ X, Below (w2.alloc (.cells #[.slice q1 k1 e1, .slice q2 k2 e2] 27)).heap.size (w2.alloc (.cells #[.slice q1 k1 e1, .slice q2 k2 e2] 27)) X → X.cell? ⟨w2.heap.size, 0, none⟩ = some (.slice q1 k1 e1) ∧ X.cell? ⟨w2.heap.size, 1, none⟩ = some (.slice q2 k2 e2)) := box_cells
      clear hgot b2 hb s1 s2
      go_upto_region 5 with fail
      generalize w2.alloc (.cells #[.slice q1 k1 e1, .slice q2 k2 e2] 27) = V2 at *
      obtain ⟨s1, s2⟩ := HBX.out V2 HB2.out
      go_wp2_with fail
      refine (HS.out V2 (HR1.out.below HB2.out) (HR2.out.below HB2.out)).mono ?_
      rintro e w3 ⟨r1, j1, f1, r2, j2, f2, rfl, hgot, hj1, hj2, b3⟩
      have hb := below_alloc w3 (.cells #[.slice r1 j1 f1, .slice r2 j2 f2] 27)
      have HB23 := Lib.hid (b3.trans (hb.mono b3.size))
      have HB3 := Lib.hid (HB2.out.trans (HB23.out.mono HB2.out.size))
      clear hgot b3 hb s1 s2
      go_upto_region 6 with fail
      generalize w3.alloc (.cells #[.slice r1 j1 f1, .slice r2 j2 f2] 27) = V3 at *
      obtain ⟨s1, s2⟩ := HBS.out V3 HB23.out
      go_wp2_with fail
      refine (HBk.out V3 q1 k1 e1 q2 k2 e2 hk1 hk2 (HQ1.out.below HB23.out) (HQ2.out.below HB23.out)).mono ?_
      rintro e w4 ⟨o1, i1, g1, o2, i2, g2, rfl, hgot, hi1, hi2, b4⟩
      have hb := below_alloc w4 (.cells #[.slice o1 i1 g1, .slice o2 i2 g2] 27)
      have HO1 := Lib.hid ((holds_own hgot.ctx).below hb)
      have HO2 := Lib.hid ((holds_own hgot.rel).below hb)
      have HB34 := Lib.hid (b4.trans (hb.mono b4.size))
      have HBO : Hid (∀ X, Below (w4.alloc (.cells #[.slice o1 i1 g1, .slice o2 i2 g2] 27)).heap.size (w4.alloc (.cells #[.slice o1 i1 g1, .slice o2 i2 g2] 27)) X → X.cell? ⟨w4.heap.size, 0, none⟩ = some (.slice o1 i1 g1) ∧ X.cell? ⟨w4.heap.size, 1, none⟩ = some (.slice o2 i2 g2)) := box_cells
      have HB24 := Lib.hid (HB23.out.trans (HB34.out.mono HB23.out.size))
      have HB4 := Lib.hid (HB3.out.trans (HB34.out.mono HB3.out.size))
      clear hgot b4 hb s1 s2
      go_upto_region 11 with fail
      generalize w4.alloc (.cells #[.slice o1 i1 g1, .slice o2 i2 g2] 27) = V4 at *
      obtain ⟨s1, s2⟩ := HBX.out V4 HB4.out
      go_wp2_with fail
      refine (HA.out V4 (HR1.out.below HB4.out) (HR2.out.below HB4.out)).mono ?_
      rintro e w5 ⟨pa, ka, da, rfl, hown, hka, b5⟩
      have hla := (holds_own hown).1
      have HB45 := Lib.hid b5
      have HB25 := Lib.hid (HB24.out.trans (b5.mono HB24.out.size))
      have HB5 := Lib.hid (HB4.out.trans (b5.mono HB4.out.size))
      clear hown b5 s1 s2
      obtain ⟨s1, s2⟩ := HBS.out w5 HB25.out
      go_wp2_with fail
      refine (HB.out w5 q1 k1 e1 q2 k2 e2 hk1 hk2 (HQ1.out.below HB25.out) (HQ2.out.below HB25.out)).mono ?_
      rintro e w6 ⟨pb, kb, db, rfl, hown, hkb, b6⟩
      have hlb := (holds_own hown).1
      obtain rfl : kb = ka := by rw [← hla, ← hlb, HLEN.out]
      have HB46 := Lib.hid (HB45.out.trans (b6.mono HB45.out.size))
      have HB6 := Lib.hid (HB5.out.trans (b6.mono HB5.out.size))
      clear hown b6 s1 s2 hla hlb
      obtain ⟨s1, s2⟩ := HBX.out w6 HB6.out
      obtain ⟨s3, s4⟩ := HBO.out w6 HB46.out
      obtain rfl : i1 = n1 := by rw [← HO1.out.1, ← HR1.out.1]
      obtain rfl : i2 = n2 := by rw [← HO2.out.1, ← HR2.out.1]
      go_wp2_with fail
      refine (Sites.sites_same o1 o2 p1 p2 i1 i2 g1 g2 d1 d2 l m (by omega) (by omega) w6 (HO1.out.below HB46.out) (HO2.out.below HB46.out) (HR1.out.below HB6.out) (HR2.out.below HB6.out)).mono ?_
      rintro e w7 ⟨rfl, b7⟩
      have HB7 := Lib.hid (HB6.out.trans (b7.mono HB6.out.size))
      clear b7 s1 s2 s3 s4
      go_wp2_with fail
      go_ret
      exact ⟨rfl, HBV.out.trans (HB7.out.mono HBV.out.size)⟩
theorem said : Rows.FnRenumberSaid := FFnRenumber.over walk
#print axioms said
end Go.Proofs.Ythcjembekadijaa.LFnRenumber
