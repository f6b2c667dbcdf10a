/- FnRecords: at every code the law returns true (a code of more than 65536 bytes at once), and what was there before is left as it was. No condition. -/
import Derived.Test.YthcjembekadijaaOrderSaidPartaa
import Derived.Test.YthcjembekadijaaOrderSaidPartal
import Derived.Test.YthcjembekadijaaCycleSaidPartaa
import Derived.Test.YthcjembekadijaaRecordsSaidPartaa
import Derived.Test.YthcjembekadijaaRecordsSaidPartab
import Derived.Test.YthcjembekadijaaRecordsSaidPartac
import Derived.Test.YthcjembekadijaaRecordsSaidPartad
import Derived.Test.YthcjembekadijaaRenumberSaidPartaf
import Derived.Deep.DeepCutAuto
import Derived.Lib.QuietBelow
import Derived.BigQuiet
namespace Go.Proofs.Ythcjembekadijaa.LFnRecords
open Go.RowKit Cur Pairs Rec Find2 GoodM Keep Drw DrwC DrwR DrwP DrwT RecB
theorem box_cells {w : World} {u v : Value} {T : TypeId} : ∀ X, Below (w.alloc (.cells #[u, v] T)).heap.size (w.alloc (.cells #[u, v] T)) X → X.cell? ⟨w.heap.size, 0, none⟩ = some u ∧ X.cell? ⟨w.heap.size, 1, none⟩ = some v := fun X hX => by
  have hb := (hX.block w.heap.size (by simp)).trans (heap_alloc_new w _)
  exact ⟨by simp [World.cell?, hb], by simp [World.cell?, hb]⟩
theorem box_cells2 {w : World} {u v x y : Value} {T T' : TypeId} : ∀ X, Below ((w.alloc (.cells #[u, v] T)).alloc (.cells #[x, y] T')).heap.size ((w.alloc (.cells #[u, v] T)).alloc (.cells #[x, y] T')) X → X.cell? ⟨w.heap.size, 0, none⟩ = some u ∧ X.cell? ⟨w.heap.size, 1, none⟩ = some v ∧ X.cell? ⟨w.heap.size + 1, 0, none⟩ = some x ∧ X.cell? ⟨w.heap.size + 1, 1, none⟩ = some y := fun X hX => by
  have h0 : (w.alloc (.cells #[u, v] T)).heap.size = w.heap.size + 1 := by simp
  have h2 := box_cells (w := w.alloc (.cells #[u, v] T)) X hX
  rw [h0] at h2
  have hb := below_alloc (w.alloc (.cells #[u, v] T)) (.cells #[x, y] T')
  have h1 := box_cells (w := w) X (hb.trans (hX.mono hb.size))
  exact ⟨h1.1, h1.2, h2.1, h2.2⟩
/-- An answer of a function that makes a record, its parts by letters. -/
theorem parts (F : Gives.RR) (l m : List (Int × Int)) : ∃ (ok : Bool) (L M : List (Int × Int)), (F l m).isSome = ok ∧ ((F l m).getD ([], [])).1 = L ∧ ((F l m).getD ([], [])).2 = M ∧ (ok = true → F l m = some (L, M)) ∧ (ok = false → L = [] ∧ M = []) := by
  cases h : F l m with
  | none => exact ⟨false, [], [], rfl, rfl, rfl, (fun h => by cases h), fun _ => ⟨rfl, rfl⟩⟩
  | some r => exact ⟨true, r.1, r.2, rfl, rfl, rfl, fun _ => rfl, (fun h => by cases h)⟩
set_option maxRecDepth 100000 in
set_option maxHeartbeats 16000000 in
theorem walk (a : Option Addr) (len cap : Nat) (zs : List Int) (w : World) (h : LawC.IsRow .u8 w a len cap zs) :
    Calls Try.prog 6 #[.slice a len cap] w fun e w' => e = .returned (.bool true) ∧ Below w.heap.size w w' := by
  have HRow := Lib.hid h
  clear h
  go_enter Try.func6, Try.ntmps6
  go_wp2_with fail
  refine (LawC.vBig_any a len cap w).mono ?_
  rintro e w1 ⟨rfl, rfl⟩
  by_cases hl : 65536 < (len : Int)
  · rw [decide_eq_true hl]
    go_wp2_with fail
    go_ret
    exact ⟨rfl, Below.refl _ _⟩
  · rw [decide_eq_false hl]
    have HC := Lib.hid (LawC.code_of HRow.out (by omega))
    clear hl HRow
    go_wp2_with fail
    refine (DrwV.drawAddC_any a len cap w HC.out).mono ?_
    rintro e w1 ⟨p1, n1, d1, p2, n2, d2, l, m, x, k, rfl, hd⟩
    have hf1 := hd.few1
    have hf2 := hd.few2
    have hc1 := hd.cap1
    have hc2 := hd.cap2
    have hb1 := below_alloc w1 (.cells #[.slice p1 n1 d1, .slice p2 n2 d2] 27)
    have hb2 := below_alloc (w1.alloc (.cells #[.slice p1 n1 d1, .slice p2 n2 d2] 27)) (.cells #[.int .i64 x, .int .i64 k] 55)
    have hbb := hb1.trans (hb2.mono hb1.size)
    have HR1 := Lib.hid ((holds_own hd.ctx).below hbb)
    have HR2 := Lib.hid ((holds_own hd.rel).below hbb)
    have HBV := Lib.hid (hd.bel.trans (hbb.mono hd.bel.size))
    have HBX : Hid (∀ X, Below ((w1.alloc (.cells #[.slice p1 n1 d1, .slice p2 n2 d2] 27)).alloc (.cells #[.int .i64 x, .int .i64 k] 55)).heap.size ((w1.alloc (.cells #[.slice p1 n1 d1, .slice p2 n2 d2] 27)).alloc (.cells #[.int .i64 x, .int .i64 k] 55)) X → X.cell? ⟨w1.heap.size, 0, none⟩ = some (.slice p1 n1 d1) ∧ X.cell? ⟨w1.heap.size, 1, none⟩ = some (.slice p2 n2 d2) ∧ X.cell? ⟨w1.heap.size + 1, 0, none⟩ = some (.int .i64 x) ∧ X.cell? ⟨w1.heap.size + 1, 1, none⟩ = some (.int .i64 k)) := box_cells2
    clear hb1 hb2 hbb hd
    go_upto_region 4 with fail
    generalize (w1.alloc (.cells #[.slice p1 n1 d1, .slice p2 n2 d2] 27)).alloc (.cells #[.int .i64 x, .int .i64 k] 55) = V at *
    obtain ⟨ok, L, M, hok, hL, hM, hyes, hno⟩ := parts (AddC.addC x k) l m
    have HI : Hid (∀ W, Holds W p1 n1 l → Holds W p2 n2 m → Calls Try.prog 28 #[.agg #[.slice p1 n1 d1, .slice p2 n2 d2], .agg #[.int .i64 x, .int .i64 k]] W (Gives.Res ok L M W)) := fun W h1 h2 => by
      have h := AddC.impl_any x k p1 p2 n1 d1 n2 d2 l m W (by omega) (by omega) h1 h2
      rw [hok, hL, hM] at h
      exact h
    have HS : Hid (∀ W, Holds W p1 n1 l → Holds W p2 n2 m → Calls Try.prog 29 #[.agg #[.slice p1 n1 d1, .slice p2 n2 d2], .agg #[.int .i64 x, .int .i64 k]] W (Gives.Res ok L M W)) := fun W h1 h2 => by
      have h := AddCC.spec_cap x k p1 p2 n1 d1 n2 d2 l m W hc1 hc2 (by omega) (by omega) h1 h2
      rw [hok, hL, hM] at h
      exact h
    have HYES := Lib.hid hyes
    clear hok hL hM hyes hno
    have hbo : (ok != ok) = false := by simp
    obtain ⟨s1, s2, s3, s4⟩ := HBX.out V (Below.refl _ _)
    go_wp2_with fail
    refine (HI.out V HR1.out HR2.out).mono ?_
    rintro e w2 ⟨q1, k1, e1, q2, k2, e2, rfl, hgot, hk1, hk2, b2⟩
    have hb := below_alloc w2 (.cells #[.slice q1 k1 e1, .slice q2 k2 e2] 27)
    have HB2 := Lib.hid (b2.trans (hb.mono b2.size))
    have HQ1 := Lib.hid ((holds_own hgot.ctx).below hb)
    have HQ2 := Lib.hid ((holds_own hgot.rel).below hb)
    have HBS : Hid (∀ X, Below (w2.alloc (.cells #[.slice q1 k1 e1, .slice q2 k2 e2] 27)).heap.size (w2.alloc (.cells #[.slice q1 k1 e1, .slice q2 k2 e2] 27)) X → X.cell? ⟨w2.heap.size, 0, none⟩ = some (.slice q1 k1 e1) ∧ X.cell? ⟨w2.heap.size, 1, none⟩ = some (.slice q2 k2 e2)) := box_cells
    clear hgot b2 hb s1 s2 s3 s4
    go_upto_region 5 with fail
    generalize w2.alloc (.cells #[.slice q1 k1 e1, .slice q2 k2 e2] 27) = V2 at *
    obtain ⟨s1, s2, s3, s4⟩ := HBX.out V2 HB2.out
    go_wp2_with fail
    refine (HS.out V2 (HR1.out.below HB2.out) (HR2.out.below HB2.out)).mono ?_
    rintro e w3 ⟨r1, j1, f1, r2, j2, f2, rfl, hgot, hj1, hj2, b3⟩
    have hb := below_alloc w3 (.cells #[.slice r1 j1 f1, .slice r2 j2 f2] 27)
    have HB23 := Lib.hid (b3.trans (hb.mono b3.size))
    have HB3 := Lib.hid (HB2.out.trans (HB23.out.mono HB2.out.size))
    clear hgot b3 hb s1 s2 s3 s4 HI HS
    go_upto_region 6 with fail
    generalize w3.alloc (.cells #[.slice r1 j1 f1, .slice r2 j2 f2] 27) = V3 at *
    obtain ⟨s1, s2, s3, s4⟩ := HBX.out V3 HB3.out
    have cK : ∀ d os, Calls Try.prog 30 #[.agg #[.slice p1 n1 d1, .slice p2 n2 d2]] (Sort.grow (redrawn V3 d) os) fun e w'' => e = .returned (.bool (good l m)) ∧ ∃ p : Regrown, w'' = Sort.grow (redrawn V3 p.d) p.os := fun d os => Calls.regrown_of (Avr.impl_any p1 p2 n1 d1 n2 d2 l m _ (by omega) (by omega) ((HR1.out.below HB3.out).below (below_regrown V3 d os)) ((HR2.out.below HB3.out).below (below_regrown V3 d os)))
    have cD : ∀ d os, Calls Try.prog 14 #[.agg #[.slice p1 n1 d1, .slice p2 n2 d2]] (Sort.grow (redrawn V3 d) os) fun e w'' => e = .returned (.bool (good l m)) ∧ ∃ p : Regrown, w'' = Sort.grow (redrawn V3 p.d) p.os := fun d os => Calls.regrown_of (ValS.valid_any p1 p2 n1 d1 n2 d2 l m _ (by omega) (by omega) ((HR1.out.below HB3.out).below (below_regrown V3 d os)) ((HR2.out.below HB3.out).below (below_regrown V3 d os)))
    generalize good l m = gb at *
    have hbg : (gb != gb) = false := by simp
    have k1 := cell_regrown s1
    have k2 := cell_regrown s2
    refine wp_region_quiet_below (by kernel_rfl) (by kernel_rfl) ?_
    repeat (go_big_quiet_step (first | (go_at_call 30; with_reducible exact cK _ _) | (go_at_call 14; with_reducible exact cD _ _)))
    refine wpQuiet_nil ?_
    intro _ hw'
    obtain ⟨⟨dq, osq⟩, hw''⟩ := hw'
    subst hw''
    clear cK cD k1 k2 s1 s2 s3 s4
    have bq := below_regrown V3 dq osq
    generalize Sort.grow (redrawn V3 dq) osq = wq at *
    have HBQ3 := Lib.hid bq
    have HBQ := Lib.hid (HB3.out.trans (bq.mono HB3.out.size))
    have HBQ2 := Lib.hid (HB23.out.trans (bq.mono HB23.out.size))
    clear bq
    go_upto_if 59 with fail
    go_cut [9, 10, 11, 12] from 60 (fun s9 s10 s11 s12 wx => Hid (Below w.heap.size w wx))
    case first =>
      cases ok with
      | false =>
        go_wp2_with fail
        go_meet
        exact HBV.out.trans (HBQ.out.mono HBV.out.size)
      | true =>
        have hh := HYES.out rfl
        have hbk := addC_back hh
        obtain ⟨i, hix, hat⟩ := addC_at hh
        have HAT := Lib.hid hat
        have HRem : Hid (∀ W, Holds W q1 k1 L → Holds W q2 k2 M → Calls Try.prog 31 #[.agg #[.slice q1 k1 e1, .slice q2 k2 e2], .int .i64 x] W (Gives.Res true l m W)) := fun W h1 h2 => by
          have h := RemC.impl_any x q1 q2 k1 e1 k2 e2 L M W hk1 hk2 h1 h2
          rw [hbk] at h
          exact h
        have HIx : Hid (∀ W, Holds W q1 k1 L → Holds W q2 k2 M → Calls Try.prog 32 #[.agg #[.slice q1 k1 e1, .slice q2 k2 e2], .int .i64 x] W fun e w' => e = .returned (.tuple #[.int .i64 i, .bool true]) ∧ Below W.heap.size W w') := fun W h1 h2 => by
          have h := Idx.impl_Index q1 q2 k1 e1 k2 e2 L M x W hk1 hk2 h1 h2
          rw [hix] at h
          exact h
        clear hh hbk hix hat
        obtain ⟨s1, s2, s3, s4⟩ := HBX.out wq HBQ.out
        obtain ⟨t1, t2⟩ := HBS.out wq HBQ2.out
        go_wp2_with fail
        refine (HRem.out wq (HQ1.out.below HBQ2.out) (HQ2.out.below HBQ2.out)).mono ?_
        rintro e w4 ⟨o1, i1, g1, o2, i2, g2, rfl, hgot, hi1, hi2, b4⟩
        have hb := below_alloc w4 (.cells #[.slice o1 i1 g1, .slice o2 i2 g2] 27)
        have HO1 := Lib.hid ((holds_own hgot.ctx).below hb)
        have HO2 := Lib.hid ((holds_own hgot.rel).below hb)
        have HBq4 := Lib.hid (b4.trans (hb.mono b4.size))
        have HBO : Hid (∀ X, Below (w4.alloc (.cells #[.slice o1 i1 g1, .slice o2 i2 g2] 27)).heap.size (w4.alloc (.cells #[.slice o1 i1 g1, .slice o2 i2 g2] 27)) X → X.cell? ⟨w4.heap.size, 0, none⟩ = some (.slice o1 i1 g1) ∧ X.cell? ⟨w4.heap.size, 1, none⟩ = some (.slice o2 i2 g2)) := box_cells
        have HB4 := Lib.hid (HBQ.out.trans (HBq4.out.mono HBQ.out.size))
        have HB24 := Lib.hid (HBQ2.out.trans (HBq4.out.mono HBQ2.out.size))
        clear hgot b4 hb s1 s2 s3 s4 t1 t2
        go_upto_region 10 with fail
        generalize w4.alloc (.cells #[.slice o1 i1 g1, .slice o2 i2 g2] 27) = V4 at *
        obtain ⟨s1, s2, s3, s4⟩ := HBX.out V4 HB4.out
        obtain ⟨t1, t2⟩ := HBS.out V4 HB24.out
        go_wp2_with fail
        refine (HIx.out V4 (HQ1.out.below HB24.out) (HQ2.out.below HB24.out)).mono ?_
        rintro e w5 ⟨rfl, b5⟩
        have HB45 := Lib.hid b5
        have HB5 := Lib.hid (HB4.out.trans (b5.mono HB4.out.size))
        have HB25 := Lib.hid (HB24.out.trans (b5.mono HB24.out.size))
        clear b5 s1 s2 s3 s4 t1 t2
        obtain ⟨s1, s2, s3, s4⟩ := HBX.out w5 HB5.out
        obtain ⟨t1, t2⟩ := HBS.out w5 HB25.out
        obtain ⟨u1, u2⟩ := HBO.out w5 HB45.out
        obtain rfl : i1 = n1 := by rw [← HO1.out.1, ← HR1.out.1]
        obtain rfl : i2 = n2 := by rw [← HO2.out.1, ← HR2.out.1]
        have hil : i < k1 := by have h := (List.getElem?_eq_some_iff.1 HAT.out).1; have h2 := HQ1.out.1; omega
        obtain ⟨b, off, x9, k9, hpe, hx9, c1, c2⟩ := (HQ1.out.below HB25.out).at i hil
        rw [HAT.out] at hx9
        injection hx9 with hx9
        injection hx9 with hx1 hx2
        subst hpe
        subst hx1 hx2
        have hii : (i : Int) < (k1 : Int) := by omega
        have hi00 : (0 : Int) ≤ (i : Int) := by omega
        have hilt : decide ((i : Int) < 0) = false := decide_eq_false (by omega)
        have hige : decide ((i : Int) ≥ (k1 : Int)) = false := decide_eq_false (by omega)
        have hige2 : decide ((k1 : Int) ≤ (i : Int)) = false := decide_eq_false (by omega)
        have hige3 : decide (k1 ≤ i) = false := decide_eq_false (by omega)
        have hng : ¬ (k1 : Int) ≤ (i : Int) := by omega
        have hng2 : ¬ k1 ≤ i := by omega
        have hE := Sites.differC
        have hG := Sites.guardC
        have hee : (x == x && k == k) = true := by simp
        have cV : ∀ d os, Calls Try.prog 33 #[.agg #[.slice o1 i1 g1, .slice o2 i2 g2], .agg #[.slice p1 i1 d1, .slice p2 i2 d2]] (Sort.grow (redrawn w5 d) os) fun e w'' => e = .returned (.bool true) ∧ ∃ p : Regrown, w'' = Sort.grow (redrawn w5 p.d) p.os := fun d os => Calls.regrown_of (Sites.sites_same o1 o2 p1 p2 i1 i2 g1 g2 d1 d2 l m (by omega) (by omega) _ ((HO1.out.below HB45.out).below (below_regrown w5 d os)) ((HO2.out.below HB45.out).below (below_regrown w5 d os)) ((HR1.out.below HB5.out).below (below_regrown w5 d os)) ((HR2.out.below HB5.out).below (below_regrown w5 d os)))
        have y1 := cell_regrown s1
        have y2 := cell_regrown s2
        have y3 := cell_regrown s3
        have y4 := cell_regrown s4
        have y5 := cell_regrown t1
        have y6 := cell_regrown t2
        have y7 := cell_regrown u1
        have y8 := cell_regrown u2
        have y9 := cell_regrown c1
        have y10 := cell_regrown c2
        go_upto_region 11 with fail
        refine wp_region_quiet_below (by kernel_rfl) (by kernel_rfl) ?_
        repeat (go_big_quiet_step ((go_at_call 33; with_reducible exact cV _ _)))
        refine wpQuiet_nil ?_
        intro _ hw'
        obtain ⟨⟨dr, osr⟩, hw''⟩ := hw'
        subst hw''
        have br := below_regrown w5 dr osr
        clear cV y1 y2 y3 y4 y5 y6 y7 y8 y9 y10 s1 s2 s3 s4 t1 t2 u1 u2 c1 c2 hE hG
        generalize Sort.grow (redrawn w5 dr) osr = wr at *
        go_wp2_with fail
        go_meet
        exact HBV.out.trans ((HB5.out.trans (br.mono HB5.out.size)).mono HBV.out.size)
    case rest =>
      have HCUT := Lib.hid hcut.out
      clear hcut HYES HBQ HBQ2 HBQ3 HB3 HB23 HB2 HBS HQ1 HQ2 HBX HBV HR1 HR2 hbo hbg
      go_upto_region 13 with fail
      go_wp2_with fail
      refine (DrwU.drawAddR_any a len cap _ (HC.out.below HCUT.out)).mono ?_
      rintro e u1 ⟨p5, n5, d5, p6, n6, d6, l5, m5, x5, k5, rfl, hd⟩
      have hf5 := hd.few1
      have hf6 := hd.few2
      have hc5 := hd.cap1
      have hc6 := hd.cap2
      have hb1 := below_alloc u1 (.cells #[.slice p5 n5 d5, .slice p6 n6 d6] 27)
      have hb2 := below_alloc (u1.alloc (.cells #[.slice p5 n5 d5, .slice p6 n6 d6] 27)) (.cells #[.int .i64 x5, .int .i64 k5] 39)
      have hbb := hb1.trans (hb2.mono hb1.size)
      have HR1 := Lib.hid ((holds_own hd.ctx).below hbb)
      have HR2 := Lib.hid ((holds_own hd.rel).below hbb)
      have HBV := Lib.hid (HCUT.out.trans ((hd.bel.trans (hbb.mono hd.bel.size)).mono HCUT.out.size))
      have HBX : Hid (∀ X, Below ((u1.alloc (.cells #[.slice p5 n5 d5, .slice p6 n6 d6] 27)).alloc (.cells #[.int .i64 x5, .int .i64 k5] 39)).heap.size ((u1.alloc (.cells #[.slice p5 n5 d5, .slice p6 n6 d6] 27)).alloc (.cells #[.int .i64 x5, .int .i64 k5] 39)) X → X.cell? ⟨u1.heap.size, 0, none⟩ = some (.slice p5 n5 d5) ∧ X.cell? ⟨u1.heap.size, 1, none⟩ = some (.slice p6 n6 d6) ∧ X.cell? ⟨u1.heap.size + 1, 0, none⟩ = some (.int .i64 x5) ∧ X.cell? ⟨u1.heap.size + 1, 1, none⟩ = some (.int .i64 k5)) := box_cells2
      clear hb1 hb2 hbb hd
      go_upto_region 14 with fail
      generalize (u1.alloc (.cells #[.slice p5 n5 d5, .slice p6 n6 d6] 27)).alloc (.cells #[.int .i64 x5, .int .i64 k5] 39) = V5 at *
      obtain ⟨ok2, L2, M2, hok, hL, hM, hyes, hno⟩ := parts (AddRM.addR x5 k5) l5 m5
      have HI : Hid (∀ W, Holds W p5 n5 l5 → Holds W p6 n6 m5 → Calls Try.prog 35 #[.agg #[.slice p5 n5 d5, .slice p6 n6 d6], .agg #[.int .i64 x5, .int .i64 k5]] W (Gives.Res ok2 L2 M2 W)) := fun W h1 h2 => by
        have h := AddR.impl_any x5 k5 p5 p6 n5 d5 n6 d6 l5 m5 W (by omega) (by omega) h1 h2
        rw [hok, hL, hM] at h
        exact h
      have HS : Hid (∀ W, Holds W p5 n5 l5 → Holds W p6 n6 m5 → Calls Try.prog 36 #[.agg #[.slice p5 n5 d5, .slice p6 n6 d6], .agg #[.int .i64 x5, .int .i64 k5]] W (Gives.Res ok2 L2 M2 W)) := fun W h1 h2 => by
        have h := AddRC.spec_cap x5 k5 p5 p6 n5 d5 n6 d6 l5 m5 W hc5 hc6 (by omega) (by omega) h1 h2
        rw [hok, hL, hM] at h
        exact h
      have HYES := Lib.hid hyes
      clear hok hL hM hyes hno
      obtain ⟨s1, s2, s3, s4⟩ := HBX.out V5 (Below.refl _ _)
      go_wp2_with fail
      refine (HI.out V5 HR1.out HR2.out).mono ?_
      rintro e u2 ⟨q1, k1, e1, q2, k2, e2, rfl, hgot, hk1, hk2, b2⟩
      have hb := below_alloc u2 (.cells #[.slice q1 k1 e1, .slice q2 k2 e2] 27)
      have HB2 := Lib.hid (b2.trans (hb.mono b2.size))
      have HQ1 := Lib.hid ((holds_own hgot.ctx).below hb)
      have HQ2 := Lib.hid ((holds_own hgot.rel).below hb)
      have HBS : Hid (∀ X, Below (u2.alloc (.cells #[.slice q1 k1 e1, .slice q2 k2 e2] 27)).heap.size (u2.alloc (.cells #[.slice q1 k1 e1, .slice q2 k2 e2] 27)) X → X.cell? ⟨u2.heap.size, 0, none⟩ = some (.slice q1 k1 e1) ∧ X.cell? ⟨u2.heap.size, 1, none⟩ = some (.slice q2 k2 e2)) := box_cells
      clear hgot b2 hb s1 s2 s3 s4
      go_upto_region 15 with fail
      generalize u2.alloc (.cells #[.slice q1 k1 e1, .slice q2 k2 e2] 27) = V6 at *
      obtain ⟨s1, s2, s3, s4⟩ := HBX.out V6 HB2.out
      go_wp2_with fail
      refine (HS.out V6 (HR1.out.below HB2.out) (HR2.out.below HB2.out)).mono ?_
      rintro e u3 ⟨r1, j1, f1, r2, j2, f2, rfl, hgot, hj1, hj2, b3⟩
      have hb := below_alloc u3 (.cells #[.slice r1 j1 f1, .slice r2 j2 f2] 27)
      have HB23 := Lib.hid (b3.trans (hb.mono b3.size))
      have HB3 := Lib.hid (HB2.out.trans (HB23.out.mono HB2.out.size))
      clear hgot b3 hb s1 s2 s3 s4 HI HS
      go_upto_region 16 with fail
      generalize u3.alloc (.cells #[.slice r1 j1 f1, .slice r2 j2 f2] 27) = V7 at *
      have HBW := Lib.hid (HBV.out.trans (HB3.out.mono HBV.out.size))
      cases ok2 with
      | false =>
        clear HYES HBX HBS HR1 HR2 HQ1 HQ2 HB2 HB23 HB3 HBV hf5 hf6 hc5 hc6
        go_wp2_with fail
        refine (DrwE.drawEquate_any a len cap _ (HC.out.below HBW.out)).mono ?_
        rintro e v1 ⟨p3, n3, d3, p4, n4, d4, l3, m3, keep, drop, rfl, hd⟩
        have hf3 := hd.few1
        have hf4 := hd.few2
        have hc3 := hd.cap1
        have hc4 := hd.cap2
        have hb := below_alloc v1 (.cells #[.slice p3 n3 d3, .slice p4 n4 d4] 27)
        have HR3 := Lib.hid ((holds_own hd.ctx).below hb)
        have HR4 := Lib.hid ((holds_own hd.rel).below hb)
        have HBU := Lib.hid (HBW.out.trans ((hd.bel.trans (hb.mono hd.bel.size)).mono HBW.out.size))
        have HBX3 : Hid (∀ X, Below (v1.alloc (.cells #[.slice p3 n3 d3, .slice p4 n4 d4] 27)).heap.size (v1.alloc (.cells #[.slice p3 n3 d3, .slice p4 n4 d4] 27)) X → X.cell? ⟨v1.heap.size, 0, none⟩ = some (.slice p3 n3 d3) ∧ X.cell? ⟨v1.heap.size, 1, none⟩ = some (.slice p4 n4 d4)) := box_cells
        clear hb hd
        go_upto_region 23 with fail
        generalize v1.alloc (.cells #[.slice p3 n3 d3, .slice p4 n4 d4] 27) = U at *
        obtain ⟨okE, LE, ME, hok, hL, hM, hyes, hno⟩ := parts (EquM.eqM keep drop) l3 m3
        have HI : Hid (∀ W, Holds W p3 n3 l3 → Holds W p4 n4 m3 → Calls Try.prog 39 #[.agg #[.slice p3 n3 d3, .slice p4 n4 d4], .int .i64 keep, .int .i64 drop] W (Gives.Res okE LE ME W)) := fun W h1 h2 => by
          have h := EquI.impl_any keep drop p3 p4 n3 d3 n4 d4 l3 m3 W (by omega) (by omega) h1 h2
          rw [hok, hL, hM] at h
          exact h
        have HS : Hid (∀ W, Holds W p3 n3 l3 → Holds W p4 n4 m3 → Calls Try.prog 40 #[.agg #[.slice p3 n3 d3, .slice p4 n4 d4], .int .i64 keep, .int .i64 drop] W (Gives.Res okE LE ME W)) := fun W h1 h2 => by
          have h := EquC.spec_cap keep drop p3 p4 n3 d3 n4 d4 l3 m3 W hc3 hc4 (by omega) (by omega) h1 h2
          rw [hok, hL, hM] at h
          exact h
        have HYES := Lib.hid hyes
        have HNO := Lib.hid hno
        clear hok hL hM hyes hno
        obtain ⟨s1, s2⟩ := HBX3.out U (Below.refl _ _)
        go_wp2_with fail
        refine (HI.out U HR3.out HR4.out).mono ?_
        rintro e v2 ⟨q1, k1, e1, q2, k2, e2, rfl, hgot, hk1, hk2, b2⟩
        have hb := below_alloc v2 (.cells #[.slice q1 k1 e1, .slice q2 k2 e2] 27)
        have HB2 := Lib.hid (b2.trans (hb.mono b2.size))
        have HQ1 := Lib.hid ((holds_own hgot.ctx).below hb)
        have HQ2 := Lib.hid ((holds_own hgot.rel).below hb)
        have HBS : Hid (∀ X, Below (v2.alloc (.cells #[.slice q1 k1 e1, .slice q2 k2 e2] 27)).heap.size (v2.alloc (.cells #[.slice q1 k1 e1, .slice q2 k2 e2] 27)) X → X.cell? ⟨v2.heap.size, 0, none⟩ = some (.slice q1 k1 e1) ∧ X.cell? ⟨v2.heap.size, 1, none⟩ = some (.slice q2 k2 e2)) := box_cells
        clear hgot b2 hb s1 s2
        go_upto_region 24 with fail
        generalize v2.alloc (.cells #[.slice q1 k1 e1, .slice q2 k2 e2] 27) = U2 at *
        obtain ⟨s1, s2⟩ := HBX3.out U2 HB2.out
        go_wp2_with fail
        refine (HS.out U2 (HR3.out.below HB2.out) (HR4.out.below HB2.out)).mono ?_
        rintro e v3 ⟨r1, j1, f1, r2, j2, f2, rfl, hgot, hj1, hj2, b3⟩
        have hb := below_alloc v3 (.cells #[.slice r1 j1 f1, .slice r2 j2 f2] 27)
        have HB23 := Lib.hid (b3.trans (hb.mono b3.size))
        have HB3 := Lib.hid (HB2.out.trans (HB23.out.mono HB2.out.size))
        clear hgot b3 hb s1 s2 HI HS
        go_upto_region 25 with fail
        generalize v3.alloc (.cells #[.slice r1 j1 f1, .slice r2 j2 f2] 27) = U3 at *
        obtain ⟨s1, s2⟩ := HBX3.out U3 HB3.out
        obtain ⟨t1, t2⟩ := HBS.out U3 HB23.out
        have hl1 := HQ1.out.1
        have hl3 := HR3.out.1
        cases okE with
        | false =>
          have hn := HNO.out (by simp)
          have hL0 := hn.1
          have hM0 := hn.2
          subst hL0 hM0
          obtain rfl : k1 = 0 := by simpa using hl1.symm
          have HIx : Hid (∀ W, Holds W q1 0 [] → Holds W q2 k2 [] → Calls Try.prog 32 #[.agg #[.slice q1 0 e1, .slice q2 k2 e2], .int .i64 drop] W fun e w' => e = .returned (.tuple #[.int .i64 0, .bool false]) ∧ Below W.heap.size W w') := fun W h1 h2 => by
            have h := Idx.impl_Index q1 q2 0 e1 k2 e2 [] [] drop W (by omega) hk2 h1 h2
            rw [idx_nil] at h
            exact h
          clear hn hl1 hl3
          go_wp2_with fail
          refine (HIx.out U3 (HQ1.out.below HB23.out) (HQ2.out.below HB23.out)).mono ?_
          rintro e v5 ⟨rfl, b5⟩
          have HB5 := Lib.hid (HB3.out.trans (b5.mono HB3.out.size))
          have HB25 := Lib.hid (HB23.out.trans (b5.mono HB23.out.size))
          clear b5 s1 s2 t1 t2
          obtain ⟨s1, s2⟩ := HBX3.out v5 HB5.out
          obtain ⟨t1, t2⟩ := HBS.out v5 HB25.out
          go_wp2_with fail
          go_ret
          exact ⟨rfl, HBU.out.trans (HB5.out.mono HBU.out.size)⟩
        | true =>
          obtain ⟨hgd, hle, hix⟩ := eq_left (HYES.out (by simp))
          have HIx : Hid (∀ W, Holds W q1 k1 LE → Holds W q2 k2 ME → Calls Try.prog 32 #[.agg #[.slice q1 k1 e1, .slice q2 k2 e2], .int .i64 drop] W fun e w' => e = .returned (.tuple #[.int .i64 0, .bool false]) ∧ Below W.heap.size W w') := fun W h1 h2 => by
            have h := Idx.impl_Index q1 q2 k1 e1 k2 e2 LE ME drop W hk1 hk2 h1 h2
            rw [hix] at h
            exact h
          have HVa : Hid (∀ W, Holds W q1 k1 LE → Holds W q2 k2 ME → Calls Try.prog 30 #[.agg #[.slice q1 k1 e1, .slice q2 k2 e2]] W fun e w' => e = .returned (.bool true) ∧ Below W.heap.size W w') := fun W h1 h2 => by
            have h := Avr.impl_any q1 q2 k1 e1 k2 e2 LE ME W hk1 hk2 h1 h2
            rw [hgd] at h
            exact h
          have hws : wrap64 ((n3 : Int) - 1) = (k1 : Int) := by unfold wrap64; omega
          have hws2 : IntKind.i64.wrap ((n3 : Int) - 1) = (k1 : Int) := by rw [IntKind.wrap_i64]; omega
          clear hgd hle hix hl1 hl3
          go_wp2_with fail
          refine (HIx.out U3 (HQ1.out.below HB23.out) (HQ2.out.below HB23.out)).mono ?_
          rintro e v5 ⟨rfl, b5⟩
          have HB5 := Lib.hid (HB3.out.trans (b5.mono HB3.out.size))
          have HB25 := Lib.hid (HB23.out.trans (b5.mono HB23.out.size))
          clear b5 s1 s2 t1 t2
          obtain ⟨s1, s2⟩ := HBX3.out v5 HB5.out
          obtain ⟨t1, t2⟩ := HBS.out v5 HB25.out
          go_wp2_with fail
          refine (HVa.out v5 (HQ1.out.below HB25.out) (HQ2.out.below HB25.out)).mono ?_
          rintro e v6 ⟨rfl, b6⟩
          have HB6 := Lib.hid (HB5.out.trans (b6.mono HB5.out.size))
          have HB26 := Lib.hid (HB25.out.trans (b6.mono HB25.out.size))
          clear b6 s1 s2 t1 t2
          obtain ⟨s1, s2⟩ := HBX3.out v6 HB6.out
          obtain ⟨t1, t2⟩ := HBS.out v6 HB26.out
          go_wp2_with fail
          go_ret
          exact ⟨rfl, HBU.out.trans (HB6.out.mono HBU.out.size)⟩
      | true =>
        obtain ⟨s1, s2, s3, s4⟩ := HBX.out V7 HB3.out
        obtain ⟨qb, hqb⟩ : ∃ qb, (m5.any fun p => p.1 == x5 && p.2 == k5) = qb := ⟨_, rfl⟩
        have HQB := Lib.hid hqb
        have HRel : Hid (∀ W, Holds W p6 n6 m5 → Calls Try.prog 15 #[.agg #[.slice p5 n5 d5, .slice p6 n6 d6], .int .i64 x5, .int .i64 k5] W fun e w' => e = .returned (.bool qb) ∧ Below W.heap.size W w') := fun W h2 => by
          have h := LawH.related_any p5 p6 n5 d5 n6 d6 m5 x5 k5 W (by omega) h2
          rw [hqb] at h
          exact h
        clear hqb
        go_wp2_with fail
        refine (HRel.out V7 (HR2.out.below HB3.out)).mono ?_
        rintro e u4 ⟨rfl, b4⟩
        have HB4 := Lib.hid (HB3.out.trans (b4.mono HB3.out.size))
        have HB24 := Lib.hid (HB23.out.trans (b4.mono HB23.out.size))
        have HBW4 := Lib.hid (HBV.out.trans (HB4.out.mono HBV.out.size))
        clear b4 s1 s2 s3 s4 HRel
        cases qb with
        | true =>
          clear HYES HQB HBX HBS HR1 HR2 HQ1 HQ2 HB2 HB23 HB24 HB3 HB4 HBV HBW hf5 hf6 hc5 hc6
          go_wp2_with fail
          refine (DrwE.drawEquate_any a len cap _ (HC.out.below HBW4.out)).mono ?_
          rintro e v1 ⟨p3, n3, d3, p4, n4, d4, l3, m3, keep, drop, rfl, hd⟩
          have hf3 := hd.few1
          have hf4 := hd.few2
          have hc3 := hd.cap1
          have hc4 := hd.cap2
          have hb := below_alloc v1 (.cells #[.slice p3 n3 d3, .slice p4 n4 d4] 27)
          have HR3 := Lib.hid ((holds_own hd.ctx).below hb)
          have HR4 := Lib.hid ((holds_own hd.rel).below hb)
          have HBU := Lib.hid (HBW4.out.trans ((hd.bel.trans (hb.mono hd.bel.size)).mono HBW4.out.size))
          have HBX3 : Hid (∀ X, Below (v1.alloc (.cells #[.slice p3 n3 d3, .slice p4 n4 d4] 27)).heap.size (v1.alloc (.cells #[.slice p3 n3 d3, .slice p4 n4 d4] 27)) X → X.cell? ⟨v1.heap.size, 0, none⟩ = some (.slice p3 n3 d3) ∧ X.cell? ⟨v1.heap.size, 1, none⟩ = some (.slice p4 n4 d4)) := box_cells
          clear hb hd
          go_upto_region 23 with fail
          generalize v1.alloc (.cells #[.slice p3 n3 d3, .slice p4 n4 d4] 27) = U at *
          obtain ⟨okE, LE, ME, hok, hL, hM, hyes, hno⟩ := parts (EquM.eqM keep drop) l3 m3
          have HI : Hid (∀ W, Holds W p3 n3 l3 → Holds W p4 n4 m3 → Calls Try.prog 39 #[.agg #[.slice p3 n3 d3, .slice p4 n4 d4], .int .i64 keep, .int .i64 drop] W (Gives.Res okE LE ME W)) := fun W h1 h2 => by
            have h := EquI.impl_any keep drop p3 p4 n3 d3 n4 d4 l3 m3 W (by omega) (by omega) h1 h2
            rw [hok, hL, hM] at h
            exact h
          have HS : Hid (∀ W, Holds W p3 n3 l3 → Holds W p4 n4 m3 → Calls Try.prog 40 #[.agg #[.slice p3 n3 d3, .slice p4 n4 d4], .int .i64 keep, .int .i64 drop] W (Gives.Res okE LE ME W)) := fun W h1 h2 => by
            have h := EquC.spec_cap keep drop p3 p4 n3 d3 n4 d4 l3 m3 W hc3 hc4 (by omega) (by omega) h1 h2
            rw [hok, hL, hM] at h
            exact h
          have HYES := Lib.hid hyes
          have HNO := Lib.hid hno
          clear hok hL hM hyes hno
          obtain ⟨s1, s2⟩ := HBX3.out U (Below.refl _ _)
          go_wp2_with fail
          refine (HI.out U HR3.out HR4.out).mono ?_
          rintro e v2 ⟨q1, k1, e1, q2, k2, e2, rfl, hgot, hk1, hk2, b2⟩
          have hb := below_alloc v2 (.cells #[.slice q1 k1 e1, .slice q2 k2 e2] 27)
          have HB2 := Lib.hid (b2.trans (hb.mono b2.size))
          have HQ1 := Lib.hid ((holds_own hgot.ctx).below hb)
          have HQ2 := Lib.hid ((holds_own hgot.rel).below hb)
          have HBS : Hid (∀ X, Below (v2.alloc (.cells #[.slice q1 k1 e1, .slice q2 k2 e2] 27)).heap.size (v2.alloc (.cells #[.slice q1 k1 e1, .slice q2 k2 e2] 27)) X → X.cell? ⟨v2.heap.size, 0, none⟩ = some (.slice q1 k1 e1) ∧ X.cell? ⟨v2.heap.size, 1, none⟩ = some (.slice q2 k2 e2)) := box_cells
          clear hgot b2 hb s1 s2
          go_upto_region 24 with fail
          generalize v2.alloc (.cells #[.slice q1 k1 e1, .slice q2 k2 e2] 27) = U2 at *
          obtain ⟨s1, s2⟩ := HBX3.out U2 HB2.out
          go_wp2_with fail
          refine (HS.out U2 (HR3.out.below HB2.out) (HR4.out.below HB2.out)).mono ?_
          rintro e v3 ⟨r1, j1, f1, r2, j2, f2, rfl, hgot, hj1, hj2, b3⟩
          have hb := below_alloc v3 (.cells #[.slice r1 j1 f1, .slice r2 j2 f2] 27)
          have HB23 := Lib.hid (b3.trans (hb.mono b3.size))
          have HB3 := Lib.hid (HB2.out.trans (HB23.out.mono HB2.out.size))
          clear hgot b3 hb s1 s2 HI HS
          go_upto_region 25 with fail
          generalize v3.alloc (.cells #[.slice r1 j1 f1, .slice r2 j2 f2] 27) = U3 at *
          obtain ⟨s1, s2⟩ := HBX3.out U3 HB3.out
          obtain ⟨t1, t2⟩ := HBS.out U3 HB23.out
          have hl1 := HQ1.out.1
          have hl3 := HR3.out.1
          cases okE with
          | false =>
            have hn := HNO.out (by simp)
            have hL0 := hn.1
            have hM0 := hn.2
            subst hL0 hM0
            obtain rfl : k1 = 0 := by simpa using hl1.symm
            have HIx : Hid (∀ W, Holds W q1 0 [] → Holds W q2 k2 [] → Calls Try.prog 32 #[.agg #[.slice q1 0 e1, .slice q2 k2 e2], .int .i64 drop] W fun e w' => e = .returned (.tuple #[.int .i64 0, .bool false]) ∧ Below W.heap.size W w') := fun W h1 h2 => by
              have h := Idx.impl_Index q1 q2 0 e1 k2 e2 [] [] drop W (by omega) hk2 h1 h2
              rw [idx_nil] at h
              exact h
            clear hn hl1 hl3
            go_wp2_with fail
            refine (HIx.out U3 (HQ1.out.below HB23.out) (HQ2.out.below HB23.out)).mono ?_
            rintro e v5 ⟨rfl, b5⟩
            have HB5 := Lib.hid (HB3.out.trans (b5.mono HB3.out.size))
            have HB25 := Lib.hid (HB23.out.trans (b5.mono HB23.out.size))
            clear b5 s1 s2 t1 t2
            obtain ⟨s1, s2⟩ := HBX3.out v5 HB5.out
            obtain ⟨t1, t2⟩ := HBS.out v5 HB25.out
            go_wp2_with fail
            go_ret
            exact ⟨rfl, HBU.out.trans (HB5.out.mono HBU.out.size)⟩
          | true =>
            obtain ⟨hgd, hle, hix⟩ := eq_left (HYES.out (by simp))
            have HIx : Hid (∀ W, Holds W q1 k1 LE → Holds W q2 k2 ME → Calls Try.prog 32 #[.agg #[.slice q1 k1 e1, .slice q2 k2 e2], .int .i64 drop] W fun e w' => e = .returned (.tuple #[.int .i64 0, .bool false]) ∧ Below W.heap.size W w') := fun W h1 h2 => by
              have h := Idx.impl_Index q1 q2 k1 e1 k2 e2 LE ME drop W hk1 hk2 h1 h2
              rw [hix] at h
              exact h
            have HVa : Hid (∀ W, Holds W q1 k1 LE → Holds W q2 k2 ME → Calls Try.prog 30 #[.agg #[.slice q1 k1 e1, .slice q2 k2 e2]] W fun e w' => e = .returned (.bool true) ∧ Below W.heap.size W w') := fun W h1 h2 => by
              have h := Avr.impl_any q1 q2 k1 e1 k2 e2 LE ME W hk1 hk2 h1 h2
              rw [hgd] at h
              exact h
            have hws : wrap64 ((n3 : Int) - 1) = (k1 : Int) := by unfold wrap64; omega
            have hws2 : IntKind.i64.wrap ((n3 : Int) - 1) = (k1 : Int) := by rw [IntKind.wrap_i64]; omega
            clear hgd hle hix hl1 hl3
            go_wp2_with fail
            refine (HIx.out U3 (HQ1.out.below HB23.out) (HQ2.out.below HB23.out)).mono ?_
            rintro e v5 ⟨rfl, b5⟩
            have HB5 := Lib.hid (HB3.out.trans (b5.mono HB3.out.size))
            have HB25 := Lib.hid (HB23.out.trans (b5.mono HB23.out.size))
            clear b5 s1 s2 t1 t2
            obtain ⟨s1, s2⟩ := HBX3.out v5 HB5.out
            obtain ⟨t1, t2⟩ := HBS.out v5 HB25.out
            go_wp2_with fail
            refine (HVa.out v5 (HQ1.out.below HB25.out) (HQ2.out.below HB25.out)).mono ?_
            rintro e v6 ⟨rfl, b6⟩
            have HB6 := Lib.hid (HB5.out.trans (b6.mono HB5.out.size))
            have HB26 := Lib.hid (HB25.out.trans (b6.mono HB25.out.size))
            clear b6 s1 s2 t1 t2
            obtain ⟨s1, s2⟩ := HBX3.out v6 HB6.out
            obtain ⟨t1, t2⟩ := HBS.out v6 HB26.out
            go_wp2_with fail
            go_ret
            exact ⟨rfl, HBU.out.trans (HB6.out.mono HBU.out.size)⟩
        | false =>
          have hbk := addR_back (HYES.out (by simp)) HQB.out
          have HRem : Hid (∀ W, Holds W q1 k1 L2 → Holds W q2 k2 M2 → Calls Try.prog 37 #[.agg #[.slice q1 k1 e1, .slice q2 k2 e2], .agg #[.int .i64 x5, .int .i64 k5]] W (Gives.Res true l5 m5 W)) := fun W h1 h2 => by
            have h := RemR.impl_any x5 k5 q1 q2 k1 e1 k2 e2 L2 M2 W hk1 hk2 h1 h2
            rw [hbk] at h
            exact h
          clear hbk HYES HQB
          obtain ⟨s1, s2, s3, s4⟩ := HBX.out u4 HB4.out
          obtain ⟨t1, t2⟩ := HBS.out u4 HB24.out
          go_wp2_with fail
          refine (HRem.out u4 (HQ1.out.below HB24.out) (HQ2.out.below HB24.out)).mono ?_
          rintro e u5 ⟨o1, i1, g1, o2, i2, g2, rfl, hgot, hi1, hi2, b5⟩
          have hb := below_alloc u5 (.cells #[.slice o1 i1 g1, .slice o2 i2 g2] 27)
          have HO1 := Lib.hid ((holds_own hgot.ctx).below hb)
          have HO2 := Lib.hid ((holds_own hgot.rel).below hb)
          have HB45 := Lib.hid (b5.trans (hb.mono b5.size))
          have HBO : Hid (∀ X, Below (u5.alloc (.cells #[.slice o1 i1 g1, .slice o2 i2 g2] 27)).heap.size (u5.alloc (.cells #[.slice o1 i1 g1, .slice o2 i2 g2] 27)) X → X.cell? ⟨u5.heap.size, 0, none⟩ = some (.slice o1 i1 g1) ∧ X.cell? ⟨u5.heap.size, 1, none⟩ = some (.slice o2 i2 g2)) := box_cells
          have HB5 := Lib.hid (HB4.out.trans (HB45.out.mono HB4.out.size))
          clear hgot b5 hb s1 s2 s3 s4 t1 t2
          go_upto_region 20 with fail
          generalize u5.alloc (.cells #[.slice o1 i1 g1, .slice o2 i2 g2] 27) = V8 at *
          obtain ⟨s1, s2, s3, s4⟩ := HBX.out V8 HB5.out
          obtain ⟨t1, t2⟩ := HBO.out V8 (Below.refl _ _)
          obtain rfl : i1 = n5 := by rw [← HO1.out.1, ← HR1.out.1]
          obtain rfl : i2 = n6 := by rw [← HO2.out.1, ← HR2.out.1]
          go_wp2_with fail
          refine (Sites.sites_same o1 o2 p5 p6 i1 i2 g1 g2 d5 d6 l5 m5 (by omega) (by omega) V8 HO1.out HO2.out (HR1.out.below HB5.out) (HR2.out.below HB5.out)).mono ?_
          rintro e u6 ⟨rfl, b6⟩
          have HBW6 := Lib.hid (HBV.out.trans ((HB5.out.trans (b6.mono HB5.out.size)).mono HBV.out.size))
          clear b6 s1 s2 s3 s4 t1 t2 HBX HBS HBO HO1 HO2 HR1 HR2 HQ1 HQ2 HB2 HB23 HB24 HB3 HB4 HB45 HB5 HBV HBW HBW4 HRem hf5 hf6 hc5 hc6
          go_wp2_with fail
          refine (DrwE.drawEquate_any a len cap _ (HC.out.below HBW6.out)).mono ?_
          rintro e v1 ⟨p3, n3, d3, p4, n4, d4, l3, m3, keep, drop, rfl, hd⟩
          have hf3 := hd.few1
          have hf4 := hd.few2
          have hc3 := hd.cap1
          have hc4 := hd.cap2
          have hb := below_alloc v1 (.cells #[.slice p3 n3 d3, .slice p4 n4 d4] 27)
          have HR3 := Lib.hid ((holds_own hd.ctx).below hb)
          have HR4 := Lib.hid ((holds_own hd.rel).below hb)
          have HBU := Lib.hid (HBW6.out.trans ((hd.bel.trans (hb.mono hd.bel.size)).mono HBW6.out.size))
          have HBX3 : Hid (∀ X, Below (v1.alloc (.cells #[.slice p3 n3 d3, .slice p4 n4 d4] 27)).heap.size (v1.alloc (.cells #[.slice p3 n3 d3, .slice p4 n4 d4] 27)) X → X.cell? ⟨v1.heap.size, 0, none⟩ = some (.slice p3 n3 d3) ∧ X.cell? ⟨v1.heap.size, 1, none⟩ = some (.slice p4 n4 d4)) := box_cells
          clear hb hd
          go_upto_region 23 with fail
          generalize v1.alloc (.cells #[.slice p3 n3 d3, .slice p4 n4 d4] 27) = U at *
          obtain ⟨okE, LE, ME, hok, hL, hM, hyes, hno⟩ := parts (EquM.eqM keep drop) l3 m3
          have HI : Hid (∀ W, Holds W p3 n3 l3 → Holds W p4 n4 m3 → Calls Try.prog 39 #[.agg #[.slice p3 n3 d3, .slice p4 n4 d4], .int .i64 keep, .int .i64 drop] W (Gives.Res okE LE ME W)) := fun W h1 h2 => by
            have h := EquI.impl_any keep drop p3 p4 n3 d3 n4 d4 l3 m3 W (by omega) (by omega) h1 h2
            rw [hok, hL, hM] at h
            exact h
          have HS : Hid (∀ W, Holds W p3 n3 l3 → Holds W p4 n4 m3 → Calls Try.prog 40 #[.agg #[.slice p3 n3 d3, .slice p4 n4 d4], .int .i64 keep, .int .i64 drop] W (Gives.Res okE LE ME W)) := fun W h1 h2 => by
            have h := EquC.spec_cap keep drop p3 p4 n3 d3 n4 d4 l3 m3 W hc3 hc4 (by omega) (by omega) h1 h2
            rw [hok, hL, hM] at h
            exact h
          have HYES := Lib.hid hyes
          have HNO := Lib.hid hno
          clear hok hL hM hyes hno
          obtain ⟨s1, s2⟩ := HBX3.out U (Below.refl _ _)
          go_wp2_with fail
          refine (HI.out U HR3.out HR4.out).mono ?_
          rintro e v2 ⟨q1, k1, e1, q2, k2, e2, rfl, hgot, hk1, hk2, b2⟩
          have hb := below_alloc v2 (.cells #[.slice q1 k1 e1, .slice q2 k2 e2] 27)
          have HB2 := Lib.hid (b2.trans (hb.mono b2.size))
          have HQ1 := Lib.hid ((holds_own hgot.ctx).below hb)
          have HQ2 := Lib.hid ((holds_own hgot.rel).below hb)
          have HBS : Hid (∀ X, Below (v2.alloc (.cells #[.slice q1 k1 e1, .slice q2 k2 e2] 27)).heap.size (v2.alloc (.cells #[.slice q1 k1 e1, .slice q2 k2 e2] 27)) X → X.cell? ⟨v2.heap.size, 0, none⟩ = some (.slice q1 k1 e1) ∧ X.cell? ⟨v2.heap.size, 1, none⟩ = some (.slice q2 k2 e2)) := box_cells
          clear hgot b2 hb s1 s2
          go_upto_region 24 with fail
          generalize v2.alloc (.cells #[.slice q1 k1 e1, .slice q2 k2 e2] 27) = U2 at *
          obtain ⟨s1, s2⟩ := HBX3.out U2 HB2.out
          go_wp2_with fail
          refine (HS.out U2 (HR3.out.below HB2.out) (HR4.out.below HB2.out)).mono ?_
          rintro e v3 ⟨r1, j1, f1, r2, j2, f2, rfl, hgot, hj1, hj2, b3⟩
          have hb := below_alloc v3 (.cells #[.slice r1 j1 f1, .slice r2 j2 f2] 27)
          have HB23 := Lib.hid (b3.trans (hb.mono b3.size))
          have HB3 := Lib.hid (HB2.out.trans (HB23.out.mono HB2.out.size))
          clear hgot b3 hb s1 s2 HI HS
          go_upto_region 25 with fail
          generalize v3.alloc (.cells #[.slice r1 j1 f1, .slice r2 j2 f2] 27) = U3 at *
          obtain ⟨s1, s2⟩ := HBX3.out U3 HB3.out
          obtain ⟨t1, t2⟩ := HBS.out U3 HB23.out
          have hl1 := HQ1.out.1
          have hl3 := HR3.out.1
          cases okE with
          | false =>
            have hn := HNO.out (by simp)
            have hL0 := hn.1
            have hM0 := hn.2
            subst hL0 hM0
            obtain rfl : k1 = 0 := by simpa using hl1.symm
            have HIx : Hid (∀ W, Holds W q1 0 [] → Holds W q2 k2 [] → Calls Try.prog 32 #[.agg #[.slice q1 0 e1, .slice q2 k2 e2], .int .i64 drop] W fun e w' => e = .returned (.tuple #[.int .i64 0, .bool false]) ∧ Below W.heap.size W w') := fun W h1 h2 => by
              have h := Idx.impl_Index q1 q2 0 e1 k2 e2 [] [] drop W (by omega) hk2 h1 h2
              rw [idx_nil] at h
              exact h
            clear hn hl1 hl3
            go_wp2_with fail
            refine (HIx.out U3 (HQ1.out.below HB23.out) (HQ2.out.below HB23.out)).mono ?_
            rintro e v5 ⟨rfl, b5⟩
            have HB5 := Lib.hid (HB3.out.trans (b5.mono HB3.out.size))
            have HB25 := Lib.hid (HB23.out.trans (b5.mono HB23.out.size))
            clear b5 s1 s2 t1 t2
            obtain ⟨s1, s2⟩ := HBX3.out v5 HB5.out
            obtain ⟨t1, t2⟩ := HBS.out v5 HB25.out
            go_wp2_with fail
            go_ret
            exact ⟨rfl, HBU.out.trans (HB5.out.mono HBU.out.size)⟩
          | true =>
            obtain ⟨hgd, hle, hix⟩ := eq_left (HYES.out (by simp))
            have HIx : Hid (∀ W, Holds W q1 k1 LE → Holds W q2 k2 ME → Calls Try.prog 32 #[.agg #[.slice q1 k1 e1, .slice q2 k2 e2], .int .i64 drop] W fun e w' => e = .returned (.tuple #[.int .i64 0, .bool false]) ∧ Below W.heap.size W w') := fun W h1 h2 => by
              have h := Idx.impl_Index q1 q2 k1 e1 k2 e2 LE ME drop W hk1 hk2 h1 h2
              rw [hix] at h
              exact h
            have HVa : Hid (∀ W, Holds W q1 k1 LE → Holds W q2 k2 ME → Calls Try.prog 30 #[.agg #[.slice q1 k1 e1, .slice q2 k2 e2]] W fun e w' => e = .returned (.bool true) ∧ Below W.heap.size W w') := fun W h1 h2 => by
              have h := Avr.impl_any q1 q2 k1 e1 k2 e2 LE ME W hk1 hk2 h1 h2
              rw [hgd] at h
              exact h
            have hws : wrap64 ((n3 : Int) - 1) = (k1 : Int) := by unfold wrap64; omega
            have hws2 : IntKind.i64.wrap ((n3 : Int) - 1) = (k1 : Int) := by rw [IntKind.wrap_i64]; omega
            clear hgd hle hix hl1 hl3
            go_wp2_with fail
            refine (HIx.out U3 (HQ1.out.below HB23.out) (HQ2.out.below HB23.out)).mono ?_
            rintro e v5 ⟨rfl, b5⟩
            have HB5 := Lib.hid (HB3.out.trans (b5.mono HB3.out.size))
            have HB25 := Lib.hid (HB23.out.trans (b5.mono HB23.out.size))
            clear b5 s1 s2 t1 t2
            obtain ⟨s1, s2⟩ := HBX3.out v5 HB5.out
            obtain ⟨t1, t2⟩ := HBS.out v5 HB25.out
            go_wp2_with fail
            refine (HVa.out v5 (HQ1.out.below HB25.out) (HQ2.out.below HB25.out)).mono ?_
            rintro e v6 ⟨rfl, b6⟩
            have HB6 := Lib.hid (HB5.out.trans (b6.mono HB5.out.size))
            have HB26 := Lib.hid (HB25.out.trans (b6.mono HB25.out.size))
            clear b6 s1 s2 t1 t2
            obtain ⟨s1, s2⟩ := HBX3.out v6 HB6.out
            obtain ⟨t1, t2⟩ := HBS.out v6 HB26.out
            go_wp2_with fail
            go_ret
            exact ⟨rfl, HBU.out.trans (HB6.out.mono HBU.out.size)⟩
theorem said : Rows.FnRecordsSaid := FFnRecords.over walk
#print axioms said
end Go.Proofs.Ythcjembekadijaa.LFnRecords
