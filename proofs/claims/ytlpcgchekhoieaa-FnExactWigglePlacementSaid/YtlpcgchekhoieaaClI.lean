/- CalibrateAge: the mathematics and the program. -/
import Derived.Test.YtlpcgchekhoieaaSw
import Derived.Test.YtlpcgchekhoieaaOvI
namespace Go.Proofs.Ytlpcgchekhoieaa.ClI
open Go Go.RowKit Pairs Rec Keep GivesI Cu CvM CvI PtM PtI Sw ShI Di RdM Yr
set_option linter.unusedVariables false
noncomputable def clP (L : List Dt) (m : Int × Int) : Option (Int × List Int) := if cv L && MsM.okM m then red (pt L 0).1 ((yrs (pt L 0).1 (pt L (L.length - 1)).1).map (swt L m)) else none
theorem clP_no {L : List Dt} {m : Int × Int} (h : cv L = true → MsM.okM m = true → False) : clP L m = none := by
  unfold clP
  rw [if_neg]
  intro e
  rw [Bool.and_eq_true] at e
  exact h e.1 e.2
theorem clP_yes {L : List Dt} {m : Int × Int} (h1 : cv L = true) (h2 : MsM.okM m = true) : clP L m = red (pt L 0).1 ((yrs (pt L 0).1 (pt L (L.length - 1)).1).map (swt L m)) := by
  unfold clP
  rw [h1, h2]
  rfl
def Says (f : FuncId) : Prop := ∀ (a : Option Addr) (n : Nat) (L : List Dt) (A E : Int) (w : World), n ≤ 1048576 → HoldsD w a n L →
  Calls Try.prog f #[.slice a n n, .agg #[.int .i64 A, .int .i64 E]] w (ResZ (clP L (A, E)).isSome ((clP L (A, E)).getD (0, [])).1 ((clP L (A, E)).getD (0, [])).2 w)
theorem boxes (w : World) (s u v : Value) (T1 T2 T3 : TypeId) :
    (((w.alloc (.cells #[s] T1)).alloc (.cells #[u, v] T2)).alloc (.cells #[.int .i64 0, .slice none 0 0] T3)).cell? ⟨w.heap.size, 0, none⟩ = some s ∧
    (((w.alloc (.cells #[s] T1)).alloc (.cells #[u, v] T2)).alloc (.cells #[.int .i64 0, .slice none 0 0] T3)).cell? ⟨w.heap.size + 1, 0, none⟩ = some u ∧
    (((w.alloc (.cells #[s] T1)).alloc (.cells #[u, v] T2)).alloc (.cells #[.int .i64 0, .slice none 0 0] T3)).cell? ⟨w.heap.size + 1, 1, none⟩ = some v ∧
    Bx (((w.alloc (.cells #[s] T1)).alloc (.cells #[u, v] T2)).alloc (.cells #[.int .i64 0, .slice none 0 0] T3)) (w.heap.size + 1 + 1) (.int .i64 0) (.slice none 0 0) ∧
    Below w.heap.size w (((w.alloc (.cells #[s] T1)).alloc (.cells #[u, v] T2)).alloc (.cells #[.int .i64 0, .slice none 0 0] T3)) := by
  have hs : (w.alloc (.cells #[s] T1)).heap.size = w.heap.size + 1 := by simp
  have hs2 : ((w.alloc (.cells #[s] T1)).alloc (.cells #[u, v] T2)).heap.size = w.heap.size + 1 + 1 := by simp
  have h1 : (w.alloc (.cells #[s] T1)).cell? ⟨w.heap.size, 0, none⟩ = some s := by rw [World.cell?_alloc_mark]; rfl
  have h2 := bx_new (w.alloc (.cells #[s] T1)) u v T2
  have h3 := bx_new ((w.alloc (.cells #[s] T1)).alloc (.cells #[u, v] T2)) (.int .i64 0) (.slice none 0 0) T3
  rw [hs] at h2
  rw [hs2] at h3
  have b2 := below_alloc (w.alloc (.cells #[s] T1)) (.cells #[u, v] T2)
  have b3 := below_alloc ((w.alloc (.cells #[s] T1)).alloc (.cells #[u, v] T2)) (.cells #[.int .i64 0, .slice none 0 0] T3)
  have h2' := h2.below b3
  refine ⟨?_, h2'.c0, h2'.c1, h3, below_alloc3 _ _ _ _⟩
  exact (b3.cell (p := ⟨w.heap.size, 0, none⟩) (by rw [hs2]; show w.heap.size < _; omega)).trans ((b2.cell (p := ⟨w.heap.size, 0, none⟩) (by rw [hs]; show w.heap.size < _; omega)).trans h1)
set_option maxRecDepth 100000 in
set_option maxHeartbeats 2000000 in
theorem clo_any (a : Option Addr) (n : Nat) (L : List Dt) (A E y : Int) (g2 g3 : Nat) (w : World) (hn : n ≤ 1048576) (o : OkC L) (hm : MsM.okM (A, E) = true) (h : HoldsD w a n L) (c1 : w.cell? ⟨g2, 0, none⟩ = some (.slice a n n)) (c2 : w.cell? ⟨g3, 0, none⟩ = some (.int .i64 A)) (c3 : w.cell? ⟨g3, 1, none⟩ = some (.int .i64 E)) :
    Calls Try.prog 73 #[.int .i64 y, .pointer (some ⟨g2, 0, none⟩), .pointer (some ⟨g3, 0, none⟩)] w fun e w' => e = .returned (.int .i64 (swt L (A, E) y)) ∧ Below w.heap.size w w' := by
  have HC := Lib.hid (Sw.impl_any a n L A E y w hn o hm h)
  clear o hm h
  generalize swt L (A, E) y = r at *
  go_enter Try.func73, Try.ntmps73
  go_wp2_with fail
  refine HC.out.mono ?_
  rintro e w2 ⟨rfl, b⟩
  have HB := Lib.hid b
  clear b c1 c2 c3
  go_wp2_with fail
  go_ret
  exact ⟨rfl, HB.out⟩
set_option maxRecDepth 100000 in
set_option maxHeartbeats 8000000 in
theorem impl_any : ClI.Says 29 := by
  intro a n L A E w hn h
  obtain ⟨c1, c2, c3, bx, hb⟩ := boxes w (.slice a n n) (.int .i64 A) (.int .i64 E) 25 45 42
  have HL := Lib.hid h.1
  have H := Lib.hid (h.below hb)
  have HB := Lib.hid hb
  have BX := Lib.hid bx
  obtain ⟨r, hr⟩ : ∃ r, r = clP L (A, E) := ⟨_, rfl⟩
  rw [← hr]
  have HR := Lib.hid hr
  clear hr h hb bx
  go_enter Try.func29, Try.ntmps29
  go_wp2_with fail
  generalize ((w.alloc (.cells #[.slice a n n] 25)).alloc (.cells #[.int .i64 A, .int .i64 E] 45)).alloc (.cells #[.int .i64 0, .slice none 0 0] 42) = W at *
  refine (valid_any a n n L W hn (Nat.le_refl _) H.out).mono ?_
  rintro e w1 ⟨rfl, b⟩
  replace c1 := (b.cell (World.block_lt_of_cell? W _ c1)).trans c1
  replace c2 := (b.cell (World.block_lt_of_cell? W _ c2)).trans c2
  replace c3 := (b.cell (World.block_lt_of_cell? W _ c3)).trans c3
  replace H := Lib.hid (H.out.below b)
  replace BX := Lib.hid (BX.out.below b)
  replace HB := Lib.hid (HB.out.trans (b.mono HB.out.size))
  clear b
  cases hu : cv L with
  | false =>
    have HN := Lib.hid (HR.out.trans (clP_no fun e _ => by rw [hu] at e; cases e))
    clear hu
    obtain ⟨d0, d1, f0, f1, lt1⟩ := BX.out
    go_wp2_with fail
    try simp only [Exit.inBlock, Exit.then]
    refine bodyPost_ret (v := .tuple #[.agg #[.int .i64 0, .slice none 0 0], .bool false]) (by simp [results, Try.results29, go_sem, d0, d1]) rfl ?_
    rw [HN.out]
    exact ⟨none, 0, 0, rfl, World.ownsRow_nil _ _ _ _, by omega, (HB.out.setCell (p := ⟨w.heap.size + 1 + 1, 0, none⟩) (by show w.heap.size ≤ w.heap.size + 1 + 1; omega) _).setCell (p := ⟨w.heap.size + 1 + 1, 1, none⟩) (by show w.heap.size ≤ w.heap.size + 1 + 1; omega) _⟩
  | true =>
    have HU := Lib.hid hu
    clear hu
    go_wp2_with fail
    refine (MsM.isMeas_any A E w1).mono ?_
    rintro e w2 ⟨rfl, b⟩
    replace c1 := (b.cell (World.block_lt_of_cell? w1 _ c1)).trans c1
    replace c2 := (b.cell (World.block_lt_of_cell? w1 _ c2)).trans c2
    replace c3 := (b.cell (World.block_lt_of_cell? w1 _ c3)).trans c3
    replace H := Lib.hid (H.out.below b)
    replace BX := Lib.hid (BX.out.below b)
    replace HB := Lib.hid (HB.out.trans (b.mono HB.out.size))
    clear b
    cases hm : MsM.okM (A, E) with
    | false =>
      have HN := Lib.hid (HR.out.trans (clP_no fun _ e => by rw [hm] at e; cases e))
      clear hm
      obtain ⟨d0, d1, f0, f1, lt1⟩ := BX.out
      go_wp2_with fail
      try simp only [Exit.inBlock, Exit.then]
      refine bodyPost_ret (v := .tuple #[.agg #[.int .i64 0, .slice none 0 0], .bool false]) (by simp [results, Try.results29, go_sem, d0, d1]) rfl ?_
      rw [HN.out]
      exact ⟨none, 0, 0, rfl, World.ownsRow_nil _ _ _ _, by omega, (HB.out.setCell (p := ⟨w.heap.size + 1 + 1, 0, none⟩) (by show w.heap.size ≤ w.heap.size + 1 + 1; omega) _).setCell (p := ⟨w.heap.size + 1 + 1, 1, none⟩) (by show w.heap.size ≤ w.heap.size + 1 + 1; omega) _⟩
    | true =>
      have HM := Lib.hid hm
      have O := Lib.hid (cv_iff.1 HU.out)
      have HY := Lib.hid (HR.out.trans (clP_yes HU.out hm))
      have hn1 : 1 ≤ n := by have := O.out.lo; rw [HL.out] at this; omega
      rw [HL.out] at HY
      have hy0 := (O.out.p (i := 0) (by rw [HL.out]; omega)).y
      have hy1 := (O.out.p (i := n - 1) (by rw [HL.out]; omega)).y
      clear hm HR
      go_wp2_with fail
      refine (CvM.years_any a n n L w2 hn hn1 H.out).mono ?_
      rintro e w3 ⟨rfl, b⟩
      replace c1 := (b.cell (World.block_lt_of_cell? w2 _ c1)).trans c1
      replace c2 := (b.cell (World.block_lt_of_cell? w2 _ c2)).trans c2
      replace c3 := (b.cell (World.block_lt_of_cell? w2 _ c3)).trans c3
      replace H := Lib.hid (H.out.below b)
      replace BX := Lib.hid (BX.out.below b)
      replace HB := Lib.hid (HB.out.trans (b.mono HB.out.size))
      clear b
      generalize (pt L 0).1 = t0 at *
      generalize (pt L (n - 1)).1 = t1 at *
      have HO := Lib.hid (OvI.over_any 73 #[.pointer (some ⟨w.heap.size, 0, none⟩), .pointer (some ⟨w.heap.size + 1, 0, none⟩)] (swt L (A, E)) t0 t1 w3 (by omega) (by omega) (fun y => by have := swt_bd O.out HM.out y; omega) (fun args W => FuncI.call_enter Try.func73 (by kernel_rfl) rfl args W) (fun y wr _ _ hbr => clo_any a n L A E y w.heap.size (w.heap.size + 1) wr hn O.out HM.out (H.out.below hbr) ((hbr.cell (World.block_lt_of_cell? w3 _ c1)).trans c1) ((hbr.cell (World.block_lt_of_cell? w3 _ c2)).trans c2) ((hbr.cell (World.block_lt_of_cell? w3 _ c3)).trans c3)))
      rw [← HY.out] at HO
      clear c1 c2 c3
      go_wp2_with fail
      refine HO.out.mono ?_
      rintro e v ⟨p3, k3, d3, rfl, o3, hk3, b⟩
      have hzv := BX.out.lt
      obtain ⟨n0, n1, f0, f1, lt1⟩ := BX.out.below b
      have O3 := Lib.hid o3
      have B3 := Lib.hid b
      clear o3 b
      go_wp2_with fail
      try simp only [Exit.inBlock, Exit.then]
      refine bodyPost_ret (v := .tuple #[.agg #[.int .i64 (r.getD (0, [])).1, .slice p3 k3 d3], .bool r.isSome]) (by simp [results, Try.results29, go_sem, n0, n1]) rfl ?_
      have O2 := ownsRow_setCell_below (ownsRow_setCell_below O3.out (a := ⟨w.heap.size + 1 + 1, 0, none⟩) (by show w.heap.size + 1 + 1 < _; exact hzv) (.int .i64 (r.getD (0, [])).1)) (a := ⟨w.heap.size + 1 + 1, 1, none⟩) (by show w.heap.size + 1 + 1 < _; exact hzv) (.slice p3 k3 d3)
      have hbz := HB.out.trans (B3.out.mono HB.out.size)
      exact ⟨p3, k3, d3, rfl, Keep.ownsRow_base O2 (by omega), hk3, (hbz.setCell (p := ⟨w.heap.size + 1 + 1, 0, none⟩) (by show w.heap.size ≤ w.heap.size + 1 + 1; omega) _).setCell (p := ⟨w.heap.size + 1 + 1, 1, none⟩) (by show w.heap.size ≤ w.heap.size + 1 + 1; omega) _⟩
end Go.Proofs.Ytlpcgchekhoieaa.ClI
