/- A curve's point in a year: the program's pointBetween, pointAt and CurveAt. -/
import Derived.Test.YtlpcgchekhoieaaPtM
import Derived.Test.YtlpcgchekhoieaaTnI
namespace Go.Proofs.Ytlpcgchekhoieaa.PtI
open Go Go.RowKit Pairs Rec Keep GivesI Cu CvM CvI PtM TnI Qsw
set_option linter.unusedVariables false
/-- A box of three cells that may be written. -/
structure R3 (w : World) (g : Nat) (u v x : Value) : Prop where
  c0 : w.cell? ⟨g, 0, none⟩ = some u
  c1 : w.cell? ⟨g, 1, none⟩ = some v
  c2 : w.cell? ⟨g, 2, none⟩ = some x
  f0 : w.frozen? ⟨g, 0, none⟩ = false
  f1 : w.frozen? ⟨g, 1, none⟩ = false
  f2 : w.frozen? ⟨g, 2, none⟩ = false
  lt : g < w.heap.size
theorem R3.below {w w' : World} {g : Nat} {u v x : Value} (h : R3 w g u v x) (b : Below w.heap.size w w') : R3 w' g u v x :=
  ⟨(b.cell (p := ⟨g, 0, none⟩) h.lt).trans h.c0, (b.cell (p := ⟨g, 1, none⟩) h.lt).trans h.c1, (b.cell (p := ⟨g, 2, none⟩) h.lt).trans h.c2, (b.frozen (p := ⟨g, 0, none⟩) h.lt).trans h.f0, (b.frozen (p := ⟨g, 1, none⟩) h.lt).trans h.f1, (b.frozen (p := ⟨g, 2, none⟩) h.lt).trans h.f2, Nat.lt_of_lt_of_le h.lt b.size⟩
theorem r3_new (w : World) (u v x : Value) (T : TypeId) : R3 (w.alloc (.cells #[u, v, x] T)) w.heap.size u v x := by
  have e : (w.alloc (.cells #[u, v, x] T)).heap[w.heap.size]? = some (.cells #[u, v, x] T) := by
    show (w.heap.push _)[w.heap.size]? = _
    rw [Array.getElem?_push, if_pos rfl]
  obtain ⟨a, b, c⟩ := box3 w u v x T
  refine ⟨a, b, c, ?_, ?_, ?_, by simp⟩
  · unfold World.frozen?; rw [e]; rfl
  · unfold World.frozen?; rw [e]; rfl
  · unfold World.frozen?; rw [e]; rfl
theorem off_ne {g i j : Nat} (h : i ≠ j) : (⟨g, i, none⟩ : Addr) ≠ ⟨g, j, none⟩ := fun e => h (congrArg Addr.off e)
theorem cell_set_ne {w : World} {g i j : Nat} {v : Value} (h : i ≠ j) : (w.setCell ⟨g, i, none⟩ v).cell? ⟨g, j, none⟩ = w.cell? ⟨g, j, none⟩ :=
  World.cell?_setCell_other (w := w) (a := ⟨g, i, none⟩) (b := ⟨g, j, none⟩) (v := v) (h := by first | exact off_ne h | exact off_ne (Ne.symm h))
theorem r3_put {w : World} {g : Nat} {u v x : Value} (h : R3 w g u v x) (u' v' x' : Value) : R3 (((w.setCell ⟨g, 0, none⟩ u').setCell ⟨g, 1, none⟩ v').setCell ⟨g, 2, none⟩ x') g u' v' x' := by
  have k0 := World.cell?_setCell_same (w := w) (a := ⟨g, 0, none⟩) (v := u') (h := h.c0)
  have k1 := World.cell?_setCell_same (w := w.setCell ⟨g, 0, none⟩ u') (a := ⟨g, 1, none⟩) (v := v') (h := (cell_set_ne (by decide)).trans h.c1)
  have k2 := World.cell?_setCell_same (w := (w.setCell ⟨g, 0, none⟩ u').setCell ⟨g, 1, none⟩ v') (a := ⟨g, 2, none⟩) (v := x') (h := ((cell_set_ne (by decide)).trans (cell_set_ne (by decide))).trans h.c2)
  refine ⟨((cell_set_ne (by decide)).trans (cell_set_ne (by decide))).trans k0, (cell_set_ne (by decide)).trans k1, k2, ?_, ?_, ?_, ?_⟩
  · rw [World.frozen?_setCell, World.frozen?_setCell, World.frozen?_setCell]; exact h.f0
  · rw [World.frozen?_setCell, World.frozen?_setCell, World.frozen?_setCell]; exact h.f1
  · rw [World.frozen?_setCell, World.frozen?_setCell, World.frozen?_setCell]; exact h.f2
  · have := h.lt; simpa [World.setCell] using this
theorem below_put {n₀ : Nat} {w W : World} {b : Nat} {u1 u2 u3 : Value} (h : Below n₀ w W) (hb : n₀ ≤ b) : Below n₀ w (((W.setCell ⟨b, 0, none⟩ u1).setCell ⟨b, 1, none⟩ u2).setCell ⟨b, 2, none⟩ u3) :=
  ((h.setCell (p := ⟨b, 0, none⟩) hb _).setCell (p := ⟨b, 1, none⟩) hb _).setCell (p := ⟨b, 2, none⟩) hb _
/-- Two boxes and a result. -/
theorem three3 (w : World) (p q : Dt) (T1 T2 T3 : TypeId) :
    B3 (((w.alloc (.cells #[.int .i64 p.1, .int .i64 p.2.1, .int .i64 p.2.2] T1)).alloc (.cells #[.int .i64 q.1, .int .i64 q.2.1, .int .i64 q.2.2] T2)).alloc (.cells #[.int .i64 0, .int .i64 0, .int .i64 0] T3)) w.heap.size p ∧
    B3 (((w.alloc (.cells #[.int .i64 p.1, .int .i64 p.2.1, .int .i64 p.2.2] T1)).alloc (.cells #[.int .i64 q.1, .int .i64 q.2.1, .int .i64 q.2.2] T2)).alloc (.cells #[.int .i64 0, .int .i64 0, .int .i64 0] T3)) (w.heap.size + 1) q ∧
    R3 (((w.alloc (.cells #[.int .i64 p.1, .int .i64 p.2.1, .int .i64 p.2.2] T1)).alloc (.cells #[.int .i64 q.1, .int .i64 q.2.1, .int .i64 q.2.2] T2)).alloc (.cells #[.int .i64 0, .int .i64 0, .int .i64 0] T3)) (w.heap.size + 1 + 1) (.int .i64 0) (.int .i64 0) (.int .i64 0) ∧
    Below w.heap.size w (((w.alloc (.cells #[.int .i64 p.1, .int .i64 p.2.1, .int .i64 p.2.2] T1)).alloc (.cells #[.int .i64 q.1, .int .i64 q.2.1, .int .i64 q.2.2] T2)).alloc (.cells #[.int .i64 0, .int .i64 0, .int .i64 0] T3)) := by
  have h1 := b3_new w p.1 p.2.1 p.2.2 T1
  have h2 := b3_new (w.alloc (.cells #[.int .i64 p.1, .int .i64 p.2.1, .int .i64 p.2.2] T1)) q.1 q.2.1 q.2.2 T2
  have h3 := r3_new ((w.alloc (.cells #[.int .i64 p.1, .int .i64 p.2.1, .int .i64 p.2.2] T1)).alloc (.cells #[.int .i64 q.1, .int .i64 q.2.1, .int .i64 q.2.2] T2)) (.int .i64 0) (.int .i64 0) (.int .i64 0) T3
  have hs : (w.alloc (.cells #[.int .i64 p.1, .int .i64 p.2.1, .int .i64 p.2.2] T1)).heap.size = w.heap.size + 1 := by simp
  have hs2 : ((w.alloc (.cells #[.int .i64 p.1, .int .i64 p.2.1, .int .i64 p.2.2] T1)).alloc (.cells #[.int .i64 q.1, .int .i64 q.2.1, .int .i64 q.2.2] T2)).heap.size = w.heap.size + 1 + 1 := by simp
  rw [hs] at h2
  rw [hs2] at h3
  exact ⟨(h1.below (below_alloc _ _)).below (below_alloc _ _), h2.below (below_alloc _ _), h3, below_alloc3 _ _ _ _⟩
set_option maxRecDepth 100000 in
set_option maxHeartbeats 8000000 in
theorem between_any (p q : Dt) (y : Int) (hp : OkP p) (hq : OkP q) (h1 : p.1 ≤ y) (h2 : y ≤ q.1) (h3 : 1 ≤ q.1 - p.1) (h4 : q.1 - p.1 ≤ 50) (w : World) :
    Calls Try.prog 100 #[.agg #[.int .i64 p.1, .int .i64 p.2.1, .int .i64 p.2.2], .agg #[.int .i64 q.1, .int .i64 q.2.1, .int .i64 q.2.2], .int .i64 y] w fun e w' => e = .returned (.agg #[.int .i64 (ptB p q y).1, .int .i64 (ptB p q y).2.1, .int .i64 (ptB p q y).2.2]) ∧ Below w.heap.size w w' := by
  obtain ⟨x0, y0, z0⟩ := p
  obtain ⟨x1, y1, z1⟩ := q
  obtain ⟨hp1, hp2, hp3⟩ := hp
  obtain ⟨hq1, hq2, hq3⟩ := hq
  obtain ⟨t1, t2, t3, hb⟩ := three3 w (x0, y0, z0) (x1, y1, z1) 75 75 75
  simp only at hp1 hp2 hp3 hq1 hq2 hq3 h1 h2 h3 h4
  unfold ptB
  simp only
  obtain ⟨u, hu⟩ : ∃ u, y - x0 = u := ⟨_, rfl⟩
  obtain ⟨v, hv⟩ : ∃ v, x1 - x0 = v := ⟨_, rfl⟩
  obtain ⟨da, hda⟩ : ∃ d, y1 - y0 = d := ⟨_, rfl⟩
  obtain ⟨de, hde⟩ : ∃ d, z1 - z0 = d := ⟨_, rfl⟩
  have u1 : IntKind.i64.wrap (y - x0) = u := by rw [IntKind.wrap_i64]; omega
  have u2 : IntKind.i64.wrap (x1 - x0) = v := by rw [IntKind.wrap_i64]; omega
  have u3 : IntKind.i64.wrap (y1 - y0) = da := by rw [IntKind.wrap_i64]; omega
  have u4 : IntKind.i64.wrap (z1 - z0) = de := by rw [IntKind.wrap_i64]; omega
  have ma := mul_bd (a := da) (b := u) (by omega) (by omega) (by omega) (by omega)
  have me := mul_bd (a := de) (b := u) (by omega) (by omega) (by omega) (by omega)
  rw [hu, hv, hda, hde]
  obtain ⟨na, hna⟩ : ∃ d, da * u = d := ⟨_, rfl⟩
  obtain ⟨ne, hne⟩ : ∃ d, de * u = d := ⟨_, rfl⟩
  rw [hna] at ma ⊢
  rw [hne] at me ⊢
  have u5 : IntKind.i64.wrap (da * u) = na := by rw [IntKind.wrap_i64]; omega
  have u6 : IntKind.i64.wrap (de * u) = ne := by rw [IntKind.wrap_i64]; omega
  have v1 : 1 ≤ v := by omega
  have v2 : v ≤ 50 := by omega
  have ba := rq_bd ma.1 ma.2 v1
  have be := rq_bd me.1 me.2 v1
  have HCA := Lib.hid (rq_any na v ma.1 ma.2 v1 v2)
  have HCE := Lib.hid (rq_any ne v me.1 me.2 v1 v2)
  generalize rq na v = ra at *
  generalize rq ne v = re at *
  obtain ⟨A, hA⟩ : ∃ d, y0 + ra = d := ⟨_, rfl⟩
  obtain ⟨E, hE⟩ : ∃ d, z0 + re = d := ⟨_, rfl⟩
  rw [hA, hE]
  have u7 : IntKind.i64.wrap (y0 + ra) = A := by rw [IntKind.wrap_i64]; omega
  have u8 : IntKind.i64.wrap (z0 + re) = E := by rw [IntKind.wrap_i64]; omega
  clear hA hE hna hne hda hde hu hv ma me ba be v1 v2 hp1 hp2 hp3 hq1 hq2 hq3 h1 h2 h3 h4
  have R := Lib.hid t3
  have HB := Lib.hid hb
  obtain ⟨a0, a1, a2, -⟩ := t1
  obtain ⟨b0, b1, b2, -⟩ := t2
  simp only at a0 a1 a2 b0 b1 b2
  clear t3 hb
  go_enter Try.func100, Try.ntmps100
  go_wp2_with fail
  try simp only at R HB a0 a1 a2 b0 b1 b2
  generalize ((w.alloc (.cells #[.int .i64 x0, .int .i64 y0, .int .i64 z0] 75)).alloc (.cells #[.int .i64 x1, .int .i64 y1, .int .i64 z1] 75)).alloc (.cells #[.int .i64 0, .int .i64 0, .int .i64 0] 75) = W at *
  have k1 := cell_regrown a0
  have k2 := cell_regrown b0
  refine wp_region_quiet_below (by kernel_rfl) (by kernel_rfl) ?_
  repeat (go_big_quiet_step (fail))
  refine wpQuiet_nil ?_
  intro _ hw'
  obtain ⟨⟨dq, osq⟩, hw''⟩ := hw'
  subst hw''
  have hbq := below_regrown W dq osq
  replace a1 := (hbq.cell (World.block_lt_of_cell? W _ a1)).trans a1
  replace a2 := (hbq.cell (World.block_lt_of_cell? W _ a2)).trans a2
  replace b1 := (hbq.cell (World.block_lt_of_cell? W _ b1)).trans b1
  replace b2 := (hbq.cell (World.block_lt_of_cell? W _ b2)).trans b2
  replace R := Lib.hid (R.out.below hbq)
  replace HB := Lib.hid (HB.out.trans (hbq.mono HB.out.size))
  clear k1 k2 hbq a0 b0
  generalize Sort.grow (redrawn W dq) osq = W2 at *
  have k1 := cell_regrown a1
  have k2 := cell_regrown a2
  have k3 := cell_regrown b1
  have k4 := cell_regrown b2
  have cA : ∀ d os, Calls Try.prog 112 #[.int .i64 na, .int .i64 v] (Sort.grow (redrawn W2 d) os) fun e w'' => e = .returned (.int .i64 ra) ∧ ∃ p : Regrown, w'' = Sort.grow (redrawn W2 p.d) p.os := fun d os => (HCA.out _).mono (fun e w' h => ⟨h.1, ⟨⟨d, os⟩, h.2⟩⟩)
  have cE : ∀ d os, Calls Try.prog 112 #[.int .i64 ne, .int .i64 v] (Sort.grow (redrawn W2 d) os) fun e w'' => e = .returned (.int .i64 re) ∧ ∃ p : Regrown, w'' = Sort.grow (redrawn W2 p.d) p.os := fun d os => (HCE.out _).mono (fun e w' h => ⟨h.1, ⟨⟨d, os⟩, h.2⟩⟩)
  go_wp2_with fail
  refine region_at_p 26 (by kernel_rfl) (by kernel_rfl) ?_
  simp only [List.take_succ_cons, List.take_zero, List.drop_succ_cons, List.drop_zero]
  repeat (go_big_quiet_step ((go_at_call 112; (first | with_reducible exact cA _ _ | with_reducible exact cE _ _))))
  refine wpQuiet_nil ?_
  intro _ hw'
  obtain ⟨⟨dq2, osq2⟩, hw''⟩ := hw'
  subst hw''
  have hbq := below_regrown W2 dq2 osq2
  replace R := Lib.hid (R.out.below hbq)
  replace HB := Lib.hid (HB.out.trans (hbq.mono HB.out.size))
  clear k1 k2 k3 k4 cA cE hbq a1 a2 b1 b2
  generalize Sort.grow (redrawn W2 dq2) osq2 = W3 at *
  obtain ⟨c0, c1, c2, f0, f1, f2, lt1⟩ := R.out
  obtain ⟨d0, d1, d2, -, -, -, -⟩ := r3_put R.out (.int .i64 y) (.int .i64 A) (.int .i64 E)
  go_wp2_with fail
  try simp only [Exit.inBlock, Exit.then]
  refine bodyPost_ret (v := .agg #[.int .i64 y, .int .i64 A, .int .i64 E]) (by simp [results, Try.results100, go_sem, d0, d1, d2]) rfl ⟨rfl, below_put HB.out (by omega)⟩
/-- What pointAt leaves. -/
def AtR (L : List Dt) (y : Int) (w : World) (e : Ending) (w' : World) : Prop :=
  e = .returned (.tuple #[.agg #[.int .i64 (ptR L y).1.1, .int .i64 (ptR L y).1.2.1, .int .i64 (ptR L y).1.2.2], .bool (ptR L y).2]) ∧ Below w.heap.size w w'
set_option maxRecDepth 100000 in
set_option maxHeartbeats 8000000 in
theorem at_any (a : Option Addr) (n : Nat) (L : List Dt) (y : Int) (w : World) (hn : n ≤ 1048576) (o : OkC L) (h : HoldsD w a n L) :
    Calls Try.prog 65 #[.slice a n n, .int .i64 y] w (AtR L y w) := by
  unfold AtR
  have O := Lib.hid o
  have HL := Lib.hid h.1
  have hb0 := below_alloc w (.cells #[.int .i64 0, .int .i64 0, .int .i64 0] 75)
  have R := Lib.hid (r3_new w (.int .i64 0) (.int .i64 0) (.int .i64 0) 75)
  have H := Lib.hid (h.below hb0)
  have HB := Lib.hid hb0
  have hn2 : 2 ≤ n := by have := o.lo; rw [h.1] at this; exact this
  have hn40 : n ≤ 40 := by have := o.len; rw [h.1] at this; exact this
  obtain ⟨r, hr⟩ : ∃ r, r = ptR L y := ⟨_, rfl⟩
  rw [← hr]
  have HR := Lib.hid hr
  obtain ⟨b, off, x, u, z, rfl, hx, e1, e2, e3⟩ := h.at 0 (by omega)
  clear hr h hb0 o hx e1 e2 e3
  have HT := Lib.hid (drop_holds H.out (k := 1) (by omega))
  have HN0 : Hid (∀ j, j < 0 → ¬ hit L y j) := fun j hj => absurd hj (by omega)
  go_enter Try.func65, Try.ntmps65
  go_wp2_with fail
  generalize w.alloc (.cells #[.int .i64 0, .int .i64 0, .int .i64 0] 75) = W at *
  obtain ⟨m, hm⟩ : ∃ m, n - 1 = m := ⟨_, rfl⟩
  rw [hm, show off + 1 * 3 = off + 3 by omega] at HT
  rw [hm]
  have HM : Hid (m + 1 = n) := by unfold Hid; omega
  clear hm
  go_loopw [11] (fun s11 wr => ∃ i : Nat, i ≤ m ∧ s11 = .int .i64 i ∧ Hid (∀ j, j < i → ¬ hit L y j) ∧ Hid (Below W.heap.size W wr)) (fun s11 _ => m - (intOf s11).toNat)
  case atStart => exact ⟨0, Nat.zero_le _, rfl, HN0, Below.refl _ _⟩
  case round =>
    clear HN0
    obtain ⟨i, hi, rfl, HS, HW⟩ := hrel
    by_cases hlt : i < m
    · have him : (i : Int) < (m : Int) := by omega
      have hi0 : (0 : Int) ≤ (i : Int) := by omega
      have hin : (i : Int) < (n : Int) := by have := HM.out; omega
      have HW0 := HW.out
      obtain ⟨b1, off1, x1, y1, z1, hb1, hx1, e1, e2, e3⟩ := (HT.out.below HW0).at i hlt
      injection hb1 with hb1
      injection hb1 with hb1 ho1
      subst hb1 ho1
      obtain ⟨b1, off1, x0, y0, z0, hb1, hx0, g1, g2, g3⟩ := (H.out.below HW0).at i (by have := HM.out; omega)
      injection hb1 with hb1
      injection hb1 with hb1 ho1
      subst hb1 ho1
      rw [List.getElem?_drop, Nat.add_comm 1 i] at hx1
      have HP1 := Lib.hid (pt_of hx1)
      have HP0 := Lib.hid (pt_of hx0)
      have hbz := below_alloc wr (.cells #[.int .i64 x1, .int .i64 y1, .int .i64 z1] 75)
      obtain ⟨f1, f2, f3⟩ := box3 wr (.int .i64 x1) (.int .i64 y1) (.int .i64 z1) 75
      replace g1 := (hbz.cell (World.block_lt_of_cell? wr _ g1)).trans g1
      replace g2 := (hbz.cell (World.block_lt_of_cell? wr _ g2)).trans g2
      replace g3 := (hbz.cell (World.block_lt_of_cell? wr _ g3)).trans g3
      have HW2 := Lib.hid (HW0.trans (hbz.mono HW0.size))
      have HSI : Hid ((x0 ≤ y ∧ y ≤ x1) ↔ hit L y i) := by unfold Hid hit; rw [HP1.out, HP0.out]
      clear hx1 hx0 hbz HW HW0
      by_cases c1 : x0 ≤ y
      · by_cases c2 : y ≤ x1
        · have HF := Lib.hid (HR.out.trans (ptR_some (ptP_hit i L (by rw [HL.out]; have := HM.out; omega) HS.out (HSI.out.1 ⟨c1, c2⟩))))
          have o0 := O.out.p (i := i) (by rw [HL.out]; have := HM.out; omega)
          have o1 := O.out.p (i := i + 1) (by rw [HL.out]; have := HM.out; omega)
          have og := O.out.st i (by rw [HL.out]; have := HM.out; omega)
          rw [HP1.out, HP0.out] at og HF
          rw [HP0.out] at o0
          rw [HP1.out] at o1
          have HC := Lib.hid (between_any (x0, y0, z0) (x1, y1, z1) y o0 o1 c1 c2 og.1 og.2)
          clear o0 o1 og
          simp only at HC
          generalize ptB (x0, y0, z0) (x1, y1, z1) y = q at *
          go_wp2_with fail
          generalize wr.alloc (.cells #[.int .i64 x1, .int .i64 y1, .int .i64 z1] 75) = W2 at *
          have k1 := cell_regrown g1
          have k2 := cell_regrown g2
          have k3 := cell_regrown g3
          have k4 := cell_regrown f1
          have k5 := cell_regrown f2
          have k6 := cell_regrown f3
          have cU : ∀ d os, Calls Try.prog 100 #[.agg #[.int .i64 x0, .int .i64 y0, .int .i64 z0], .agg #[.int .i64 x1, .int .i64 y1, .int .i64 z1], .int .i64 y] (Sort.grow (redrawn W2 d) os) fun e w'' => e = .returned (.agg #[.int .i64 q.1, .int .i64 q.2.1, .int .i64 q.2.2]) ∧ ∃ p : Regrown, w'' = Sort.grow (redrawn W2 p.d) p.os := fun d os => Calls.regrown_of (HC.out _)
          clear g1 g2 g3 f1 f2 f3 e1 e2 e3
          refine region_at_p 7 (by kernel_rfl) (by kernel_rfl) ?_
          simp only [List.take_succ_cons, List.take_zero, List.drop_succ_cons, List.drop_zero]
          repeat (go_big_quiet_step ((go_at_call 100; exact cU _ _)))
          refine wpQuiet_nil ?_
          intro _ hw'
          obtain ⟨⟨dq2, osq2⟩, hw''⟩ := hw'
          subst hw''
          have hbq := HW2.out.trans ((below_regrown W2 dq2 osq2).mono HW2.out.size)
          replace R := Lib.hid (R.out.below hbq)
          replace HB := Lib.hid (HB.out.trans (hbq.mono HB.out.size))
          clear k1 k2 k3 k4 k5 k6 cU hbq HW2
          generalize Sort.grow (redrawn W2 dq2) osq2 = W3 at *
          obtain ⟨c0, c1, c2, f0, f1, f2, lt1⟩ := R.out
          obtain ⟨d0, d1, d2, -, -, -, -⟩ := r3_put R.out (.int .i64 q.1) (.int .i64 q.2.1) (.int .i64 q.2.2)
          go_wp2_with fail
          try simp only [Exit.inBlock, Exit.then]
          refine bodyPost_ret (v := .tuple #[.agg #[.int .i64 q.1, .int .i64 q.2.1, .int .i64 q.2.2], .bool true]) (by simp [results, Try.results65, go_sem, d0, d1, d2]) rfl ⟨by rw [HF.out], below_put HB.out (by omega)⟩
        · have HS2 : Hid (∀ j, j < i + 1 → ¬ hit L y j) := fun j hj hh => by
            by_cases e : j = i
            · subst e; exact c2 (HSI.out.2 hh).2
            · exact HS.out j (by omega) hh
          clear HSI
          go_wp2_with fail
          exact ⟨⟨i + 1, by omega, by go_num, HS2, HW2⟩, by simp [intOf]; omega⟩
      · have HS2 : Hid (∀ j, j < i + 1 → ¬ hit L y j) := fun j hj hh => by
          by_cases e : j = i
          · subst e; exact c1 (HSI.out.2 hh).1
          · exact HS.out j (by omega) hh
        clear HSI
        go_wp2_with fail
        exact ⟨⟨i + 1, by omega, by go_num, HS2, HW2⟩, by simp [intOf]; omega⟩
    · obtain rfl : i = m := by omega
      have hii : ¬ (i : Int) < (i : Int) := by omega
      have HF := Lib.hid (HR.out.trans (ptR_none (ptP_none L fun j hj => HS.out j (by rw [HL.out] at hj; have := HM.out; omega))))
      replace R := Lib.hid (R.out.below HW.out)
      replace HB := Lib.hid (HB.out.trans (HW.out.mono HB.out.size))
      clear HW HS
      obtain ⟨c0, c1, c2, f0, f1, f2, lt1⟩ := R.out
      obtain ⟨d0, d1, d2, -, -, -, -⟩ := r3_put R.out (.int .i64 0) (.int .i64 0) (.int .i64 0)
      go_wp2_with fail
      try simp only [Exit.inBlock, Exit.then]
      refine bodyPost_ret (v := .tuple #[.agg #[.int .i64 0, .int .i64 0, .int .i64 0], .bool false]) (by simp [results, Try.results65, go_sem, d0, d1, d2]) rfl ⟨by rw [HF.out], below_put HB.out (by omega)⟩
noncomputable def caP (L : List Dt) (y : Int) : Int × Int × Bool := if cv L then ((ptR L y).1.2.1, (ptR L y).1.2.2, (ptR L y).2) else (0, 0, false)
theorem caP_bad {L : List Dt} {y : Int} (h : cv L = false) : caP L y = (0, 0, false) := by unfold caP; rw [h]; rfl
theorem caP_yes {L : List Dt} {y : Int} (h : cv L = true) : caP L y = ((ptR L y).1.2.1, (ptR L y).1.2.2, (ptR L y).2) := by unfold caP; rw [h]; rfl
def Says (f : FuncId) : Prop := ∀ (a : Option Addr) (n : Nat) (L : List Dt) (y : Int) (w : World), n ≤ 1048576 → HoldsD w a n L → Calls Try.prog f #[.slice a n n, .int .i64 y] w fun e w' => e = .returned (.tuple #[.int .i64 (caP L y).1, .int .i64 (caP L y).2.1, .bool (caP L y).2.2]) ∧ Below w.heap.size w w'
set_option maxRecDepth 100000 in
set_option maxHeartbeats 8000000 in
theorem impl_any : Says 20 := by
  intro a n L y w hn h
  have H := Lib.hid h
  obtain ⟨r, hr⟩ : ∃ r, r = caP L y := ⟨_, rfl⟩
  rw [← hr]
  have HR := Lib.hid hr
  clear hr h
  go_enter Try.func20, Try.ntmps20
  go_wp2_with fail
  refine (valid_any a n n L w hn (Nat.le_refl _) H.out).mono ?_
  rintro e w1 ⟨rfl, b⟩
  replace H := Lib.hid (H.out.below b)
  have HB := Lib.hid b
  clear b
  cases hu : cv L with
  | false =>
    have HF := Lib.hid (HR.out.trans (caP_bad hu))
    clear hu
    go_wp2_with fail
    go_ret3
    exact ⟨by rw [HF.out]; rfl, HB.out⟩
  | true =>
    have HC := Lib.hid (at_any a n L y w1 hn (cv_iff.1 hu) H.out)
    unfold AtR at HC
    have HF := Lib.hid (HR.out.trans (caP_yes hu))
    generalize ptR L y = p at *
    obtain ⟨⟨x, u, v⟩, ok⟩ := p
    simp only at HC HF
    clear hu HR
    go_wp2_with fail
    refine HC.out.mono ?_
    rintro e w2 ⟨rfl, b⟩
    have hbz := below_alloc w2 (.cells #[.int .i64 x, .int .i64 u, .int .i64 v] 75)
    obtain ⟨f1, f2, f3⟩ := box3 w2 (.int .i64 x) (.int .i64 u) (.int .i64 v) 75
    have HB2 := Lib.hid (HB.out.trans ((b.trans (hbz.mono b.size)).mono HB.out.size))
    have k2 := cell_regrown f2
    have k3 := cell_regrown f3
    clear b hbz f1 f2 f3
    go_wp2_with fail
    generalize w2.alloc (.cells #[.int .i64 x, .int .i64 u, .int .i64 v] 75) = W2 at *
    refine wp_region_quiet_below (by kernel_rfl) (by kernel_rfl) ?_
    repeat (go_big_quiet_step (fail))
    refine wpQuiet_nil ?_
    intro _ hw'
    obtain ⟨⟨dq, osq⟩, hw''⟩ := hw'
    subst hw''
    have HB3 := Lib.hid (HB2.out.trans ((below_regrown W2 dq osq).mono HB2.out.size))
    go_wp2_with fail
    go_ret3
    exact ⟨by rw [HF.out]; rfl, HB3.out⟩
end Go.Proofs.Ytlpcgchekhoieaa.PtI
