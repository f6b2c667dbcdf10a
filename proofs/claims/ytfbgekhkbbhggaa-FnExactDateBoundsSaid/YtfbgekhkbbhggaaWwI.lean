/- The program's weightAt, weightWithin and sum. -/
import Derived.Test.YtfbgekhkbbhggaaAtM
import Derived.Test.YtfbgekhkbbhggaaDvI
import Derived.Test.YtfbgekhkbbhggaaQsp
namespace Go.Proofs.Ytfbgekhkbbhggaa.WwI
open Go Go.RowKit Go.Shelf Pairs Rec Keep GivesI DvM DvG DvI ShI Yr AtM Qsp
attribute [local go_sem] Oper.semAt_some
set_option linter.unusedVariables false
set_option maxRecDepth 100000 in
theorem weightAt_any (f : Int) (p : Option Addr) (n c : Nat) (M : List Int) (y : Int) (w : World) (hn : n ≤ 1048576) (hf : -1000000000 ≤ f ∧ f ≤ 1000000000) (hy : -1000000000 ≤ y ∧ y ≤ 1000000000) (h : HoldsI w p n M) :
    Calls Try.prog 62 #[.agg #[.int .i64 f, .slice p n c], .int .i64 y] w fun e w' => e = .returned (.int .i64 (wat f M y)) ∧ Below w.heap.size w w' := by
  have hb := below_alloc w (.cells #[.int .i64 f, .slice p n c] 50)
  have H := h.below hb
  have hl := h.1
  go_enter Try.func62, Try.ntmps62
  by_cases h1 : y < f
  · have h1' : y - f < 0 := by omega
    rw [wat_out (f := f) (M := M) (y := y) (by omega)]
    go_wp2_with fail
    go_ret
    exact ⟨rfl, hb⟩
  have h1' : ¬ y - f < 0 := by omega
  by_cases h2 : (n : Int) ≤ y - f
  · rw [wat_out (f := f) (M := M) (y := y) (by omega)]
    have h2' : (decide (y - f < 0) || decide (y - f ≥ (n : Int))) = true := by simp [h2]
    go_wp2_with fail
    go_ret
    exact ⟨rfl, hb⟩
  have h2' : (decide (y - f < 0) || decide (y - f ≥ (n : Int))) = false := by simp [h1']; omega
  obtain ⟨i, hi⟩ : ∃ i : Nat, y - f = (i : Int) := ⟨(y - f).toNat, by omega⟩
  obtain ⟨b, off, x, rfl, hx, e1⟩ := H.at i (by omega)
  rw [wat_in (f := f) (M := M) (y := y) (x := x) (by omega) (by rw [hi]; exact hx)]
  rw [hi] at h1' h2 h2'
  clear hx H h
  go_wp2_with fail
  go_ret
  exact ⟨rfl, hb⟩
/-- Three boxes. -/
theorem three (w : World) (o1 o2 o3 : Obj) : (((w.alloc o1).alloc o2).alloc o3).heap.size = w.heap.size + 3 ∧ (((w.alloc o1).alloc o2).alloc o3).heap[w.heap.size]? = some o1 ∧ (((w.alloc o1).alloc o2).alloc o3).heap[w.heap.size + 1]? = some o2 ∧
    (((w.alloc o1).alloc o2).alloc o3).heap[w.heap.size + 2]? = some o3 ∧ Below w.heap.size w (((w.alloc o1).alloc o2).alloc o3) := by
  have e : ∀ (w : World) (o : Obj), (w.alloc o).heap = w.heap.push o := fun _ _ => rfl
  refine ⟨by rw [e, e, e]; simp, ?_, ?_, ?_, below_alloc3 _ _ _ _⟩
  · rw [e, e, e, Array.getElem?_push, if_neg (by simp; omega), Array.getElem?_push, if_neg (by simp), Array.getElem?_push, if_pos rfl]
  · rw [e, e, e, Array.getElem?_push, if_neg (by simp), Array.getElem?_push, if_pos (by simp)]
  · rw [e, e, e, Array.getElem?_push, if_pos (by simp)]
theorem others_below {W W' : World} (h : Below W.heap.size W W') : KeepsOthers W W' :=
  ⟨h.size, fun k o hk _ => (h.block k (Array.getElem?_eq_some_iff.1 hk).1).trans hk⟩
set_option maxRecDepth 100000 in
set_option maxHeartbeats 4000000 in
theorem within_any (f : Int) (p : Option Addr) (n c : Nat) (M : List Int) (x t : Int) (w : World) (hn : n ≤ 1048576) (hf : -1000000000 ≤ f ∧ f ≤ 1000000000) (hx : -1000000 ≤ x ∧ x ≤ 1000000) (ht : -1000000 ≤ t ∧ t ≤ 1000000) (hM : ∀ x ∈ M, 0 ≤ x ∧ x ≤ 1000000) (h : HoldsI w p n M) :
    Calls Try.prog 93 #[.agg #[.int .i64 f, .slice p n c], .agg #[.int .i64 x, .int .i64 t]] w fun e w' => e = .returned (.int .i64 (sw f M (yrs x t))) ∧ Below w.heap.size w w' := by
  obtain ⟨hs, k0, k1, k2, hb0⟩ := three w (.cells #[.int .i64 f, .slice p n c] 50) (.cells #[.int .i64 x, .int .i64 t] 86) (.cells #[.int .i64 0] 3)
  have f1 : (((w.alloc (.cells #[.int .i64 f, .slice p n c] 50)).alloc (.cells #[.int .i64 x, .int .i64 t] 86)).alloc (.cells #[.int .i64 0] 3)).cell? ⟨w.heap.size + 1, 0, none⟩ = some (.int .i64 x) := by unfold World.cell?; rw [k1]; rfl
  have f2 : (((w.alloc (.cells #[.int .i64 f, .slice p n c] 50)).alloc (.cells #[.int .i64 x, .int .i64 t] 86)).alloc (.cells #[.int .i64 0] 3)).cell? ⟨w.heap.size + 1, 1, none⟩ = some (.int .i64 t) := by unfold World.cell?; rw [k1]; rfl
  have hl := Lib.hid h
  clear h
  refine (callsIn_wide (n := 8)).1 ?_
  refine callsIn_of_wp_marks Try.func93 rfl trivial ?_ rfl
  simp only [Try.ntmps93, List.size_toArray, List.length_cons, List.length_nil, Nat.reduceAdd, Nat.reduceSub, Array.replicate_succ, Array.replicate_zero, List.push_toArray, List.append_toArray, List.nil_append, List.cons_append]
  gi_wp2_with (refine ⟨trivial, ?_⟩; gi_at_call 92; refine (callsIn_wide.2 (yearsOf_any x t _)).mono ?_; rintro e w1 ⟨rfl, rfl⟩)
  have hsz : ((((w.alloc (.cells #[.int .i64 f, .slice p n c] 50)).alloc (.cells #[.int .i64 x, .int .i64 t] 86)).alloc (.cells #[.int .i64 0] 3))).heap.size = w.heap.size + 3 := hs
  generalize ((w.alloc (.cells #[.int .i64 f, .slice p n c] 50)).alloc (.cells #[.int .i64 x, .int .i64 t] 86)).alloc (.cells #[.int .i64 0] 3) = W at *
  have b4 := below_alloc W (.cells #[.int .i64 x, .int .i64 t] 86)
  have g0 := box_first W (.int .i64 x) (.int .i64 t) 86
  have g1 := box_second W (.int .i64 x) (.int .i64 t) 86
  have s4 : (W.alloc (.cells #[.int .i64 x, .int .i64 t] 86)).heap.size = w.heap.size + 4 := by simp [hs]
  replace k0 := (b4.block _ (by omega)).trans k0
  replace k2 := (b4.block _ (by omega)).trans k2
  have HB := Lib.hid (hb0.trans (b4.mono hb0.size))
  rw [hs] at g0 g1
  clear k1 f1 f2 hb0 b4 hsz
  generalize W.alloc (.cells #[.int .i64 x, .int .i64 t] 86) = w1 at *
  clear hs
  have K0 := Lib.hid k0
  have K2 := Lib.hid k2
  have S4 := Lib.hid s4
  obtain ⟨e, he⟩ : ∃ e, e = w.heap.size := ⟨_, rfl⟩
  refine wpIn_rangeFunc_ownF (α := Yx x t) rfl (by decide) (gf := 120) (lb := #[.pointer (some ⟨w.heap.size + 3, 0, none⟩)]) rfl trivial (enters_of Try.func120 (by kernel_rfl) rfl)
    (yr_stops 7 (by omega) x t (by omega) (by omega) (w.heap.size + 3) w1 g0 g1) (fun h k => h.trans k) (fun W l0 o o' hl ho hc _ => kpC_b W l0 o o' hl (by omega)) (Below.refl _ _) (fun _ => rfl)
    (fun pre V => V.heap[w.heap.size]? = some (.cells #[.int .i64 f, .slice p n c] 50 (0, 0)) ∧ V.heap[w.heap.size + 2]? = some (.cells #[.int .i64 (sw f M (pre.map (·.1)))] 3 (0, 0)) ∧ Below w.heap.size w V ∧ w.heap.size + 4 ≤ V.heap.size)
    (fun _ _ _ => False)
    ?own (fun _ _ _ _ _ hs _ _ => hs) ⟨k0, k2, HB.out, Nat.le_of_eq s4.symm⟩ ?a1 ?assign ?body ?done ?stop
  case own =>
    intro pre V V' row hs hg hr
    have hne : ∀ k, k < w.heap.size + 4 → some k ≠ row := fun k hk e => by
      have := (hr k e.symm).1
      omega
    exact ⟨(hg.block _ (Array.getElem?_eq_some_iff.1 hs.1).1 (hne _ (by omega))).trans hs.1, (hg.block _ (Array.getElem?_eq_some_iff.1 hs.2.1).1 (hne _ (by omega))).trans hs.2.1, hs.2.2.1.grown hg hs.2.2.1.size (fun k hk => by have := (hr k hk).1; omega), Nat.le_trans hs.2.2.2 hg.size⟩
  case assign =>
    intro l0 y V K hK
    gi_wp2
    exact hK
  case stop =>
    rintro D c pre V _ _ h _
    exact h.elim
  case body =>
    rintro l0 pre ⟨y, hy⟩ V ⟨hd, hsum, hbel, hsz⟩ hlen
    have hyb := yrs_mem.1 hy
    rw [yrs_len] at hlen
    have hsb := sw_bd (f := f) (m := 1000000) (by omega) hM (pre.map (·.1))
    have hwb := wat_bd (f := f) (m := 1000000) (by omega) hM y
    rw [List.length_map] at hsb
    have HN := Lib.hid (show sw f M ((pre ++ [(⟨y, hy⟩ : Yx x t)]).map (·.1)) = sw f M (pre.map (·.1)) + wat f M y by rw [List.map_append]; exact sw_app _ _ _ _)
    have HV := Lib.hid hM
    obtain ⟨S, hS⟩ : ∃ S, S = sw f M (pre.map (·.1)) := ⟨_, rfl⟩
    rw [← hS] at hsum hsb HN
    have HS := Lib.hid hS
    clear hS
    have HH := Lib.hid (hl.out.below hbel)
    have c1 : V.cell? ⟨w.heap.size + 1 + 1, 0, none⟩ = some (.int .i64 S) := by unfold World.cell?; rw [show w.heap.size + 1 + 1 = w.heap.size + 2 from rfl, hsum]; rfl
    have c2 : V.cell? ⟨w.heap.size, 0, none⟩ = some (.int .i64 f) := by unfold World.cell?; rw [hd]; rfl
    have c3 : V.cell? ⟨w.heap.size, 1, none⟩ = some (.slice p n c) := by unfold World.cell?; rw [hd]; rfl
    have cU : ∀ d os, Calls Try.prog 62 #[.agg #[.int .i64 f, .slice p n c], .int .i64 y] (Sort.grow (redrawn V d) os) fun e w'' => e = .returned (.int .i64 (wat f M y)) ∧ ∃ p : Regrown, w'' = Sort.grow (redrawn V p.d) p.os := fun d os => Calls.regrown_of (weightAt_any f p n c M y _ hn hf (by omega) (HH.out.below (below_regrown V d os)))
    obtain ⟨v, hv⟩ : ∃ v, v = wat f M y := ⟨_, rfl⟩
    rw [← hv] at cU hwb HN
    have HW := Lib.hid hv
    clear hv
    have hwr : IntKind.i64.wrap (S + v) = S + v := by rw [IntKind.wrap_i64]; omega
    have HI := Lib.hid (And.intro hd (And.intro hsum (And.intro hbel hsz)))
    clear hd hsum hbel hsz
    have k1 := cell_regrown c1
    have k2 := cell_regrown c2
    have k3 := cell_regrown c3
    gi_wp2
    refine region_at (l := l0) 5 (by kernel_rfl) (by kernel_rfl) ?_
    simp only [List.take_succ_cons, List.take_zero, List.drop_succ_cons, List.drop_zero]
    repeat (go_big_quiet_step ((go_at_call 62; exact cU _ _)))
    refine wpQuiet_nil ?_
    intro _ hw'
    obtain ⟨⟨dq, osq⟩, hw''⟩ := hw'
    subst hw''
    have HBQ := Lib.hid (below_regrown V dq osq)
    clear k1 k2 k3 c1 c2 c3 cU
    generalize Sort.grow (redrawn V dq) osq = W5 at *
    have hd := (HBQ.out.block _ (Array.getElem?_eq_some_iff.1 HI.out.1).1).trans HI.out.1
    have hsum := (HBQ.out.block _ (Array.getElem?_eq_some_iff.1 HI.out.2.1).1).trans HI.out.2.1
    have d1 : W5.cell? ⟨w.heap.size + 1 + 1, 0, none⟩ = some (.int .i64 S) := by unfold World.cell?; rw [show w.heap.size + 1 + 1 = w.heap.size + 2 from rfl, hsum]; rfl
    have d2 : W5.frozen? ⟨w.heap.size + 1 + 1, 0, none⟩ = false := by unfold World.frozen?; rw [show w.heap.size + 1 + 1 = w.heap.size + 2 from rfl, hsum]; rfl
    have HD := Lib.hid (And.intro hd hsum)
    clear hd hsum
    gi_wp2
    have hne : ∀ k, k ≠ w.heap.size + 2 → ∀ u, (W5.setCell ⟨w.heap.size + 1 + 1, 0, none⟩ u).heap[k]? = W5.heap[k]? := fun k hk u => Below.heap_setCell _ _ _ k hk
    have hbx : Boxed W5 (w.heap.size + 2) 3 (.int .i64 S) := HD.out.2
    refine ⟨(others_below HBQ.out).trans (KeepsOthers.setCell _ _ _), (KpC.of_below HBQ.out (by have := HI.out.2.2.2; omega)).trans ⟨by simp [World.setCell], hne _ (by omega) _⟩, ?_, ?_, ?_, ?_⟩
    · rw [hne _ (by omega)]; exact HD.out.1
    · rw [HN.out]; exact hbx.set _
    · exact (HI.out.2.2.1.trans (HBQ.out.mono HI.out.2.2.1.size)).setCell (p := ⟨w.heap.size + 1 + 1, 0, none⟩) (by show w.heap.size ≤ w.heap.size + 1 + 1; omega) _
    · have h1 := HI.out.2.2.2
      have h2 := HBQ.out.size
      have h3 : (W5.setCell ⟨w.heap.size + 1 + 1, 0, none⟩ (.int .i64 (S + v))).heap.size = W5.heap.size := by simp [World.setCell]
      omega
  case done =>
    rintro D xs V hD hS ⟨hd, hsum, hbel, hsz⟩ hK
    rw [hS] at hsum
    have hbx : Boxed V (w.heap.size + 2) 3 (.int .i64 (sw f M (yrs x t))) := hsum
    obtain ⟨S, hSS⟩ : ∃ S, S = sw f M (yrs x t) := ⟨_, rfl⟩
    rw [← hSS] at hbx hsum
    have HSS := Lib.hid hSS
    clear hSS
    have c1 : V.cell? ⟨w.heap.size + 1 + 1, 0, none⟩ = some (.int .i64 S) := hbx.cell
    have HQ := Lib.hid (And.intro hbel (And.intro hsz hK))
    have HDD := Lib.hid hD
    clear hd hsum hbel hsz hK hS
    gi_wp2
    refine ⟨by simp, .inl ⟨_, _, rfl, run_takeDeferred HQ.out.2.2, ?_⟩⟩
    refine ⟨_, results_tmp rfl _ _ _, ?_⟩
    exact ⟨by rw [← HSS.out]; rfl, HQ.out.1.trans (belowK_b (w := w) (Nat.le_refl _) _ D _ _ (by have h1 := HDD.out; have h2 := S4.out; omega) HQ.out.2.2 rfl rfl)⟩
set_option maxRecDepth 100000 in
set_option maxHeartbeats 4000000 in
theorem sum_any (f : Int) (p : Option Addr) (n c : Nat) (M : List Int) (w : World) (hn : n ≤ 1048576) (ho : okD f M = true) (h : HoldsI w p n M) :
    Calls Try.prog 57 #[.agg #[.int .i64 f, .slice p n c]] w fun e w' => e = .returned (.int .i64 M.sum) ∧ Below w.heap.size w w' := by
  have O := okD_iff.1 ho
  have hb := below_alloc w (.cells #[.int .i64 f, .slice p n c] 50)
  have f1 := box_first w (.int .i64 f) (.slice p n c) 50
  have f2 := box_second w (.int .i64 f) (.slice p n c) 50
  have hlen := h.1
  have H := Lib.hid (h.below hb)
  have HB := Lib.hid hb
  have h1 := O.lo
  have h2 := O.hi
  have h3 := O.pos
  have h4 := O.len
  have hM : ∀ x ∈ M, 0 ≤ x ∧ x ≤ 1000000 := fun x hx => upTo_mem O.all hx
  rw [← sw_all f M]
  rw [hlen] at h2 h3 h4
  rw [hlen]
  go_enter Try.func57, Try.ntmps57
  go_wp2_with fail
  generalize w.alloc (.cells #[.int .i64 f, .slice p n c] 50) = W at *
  clear h hb O ho
  have cY : ∀ d os, Calls Try.prog 89 #[.agg #[.int .i64 f, .slice p n c]] (Sort.grow (redrawn W d) os) fun e w'' => e = .returned (.agg #[.int .i64 f, .int .i64 (f + n - 1)]) ∧ ∃ p : Regrown, w'' = Sort.grow (redrawn W p.d) p.os := fun d os => Calls.regrown_of (years_any f p n c _ (by omega) (by omega) hn)
  have cW : ∀ d os, Calls Try.prog 93 #[.agg #[.int .i64 f, .slice p n c], .agg #[.int .i64 f, .int .i64 (f + n - 1)]] (Sort.grow (redrawn W d) os) fun e w'' => e = .returned (.int .i64 (sw f M (yrs f (f + n - 1)))) ∧ ∃ p : Regrown, w'' = Sort.grow (redrawn W p.d) p.os := fun d os => Calls.regrown_of (within_any f p n c M f (f + n - 1) _ hn (by omega) (by omega) (by omega) hM (H.out.below (below_regrown W d os)))
  obtain ⟨S, hS⟩ : ∃ S, S = sw f M (yrs f (f + n - 1)) := ⟨_, rfl⟩
  rw [← hS] at cW
  have HS := Lib.hid hS
  clear hS
  have k1 := cell_regrown f1
  have k2 := cell_regrown f2
  refine wp_region_quiet_below (by kernel_rfl) (by kernel_rfl) ?_
  repeat (go_big_quiet_step (first | (go_at_call 89; exact cY _ _) | (go_at_call 93; exact cW _ _)))
  refine wpQuiet_nil ?_
  intro _ hw'
  obtain ⟨⟨dq, osq⟩, hw''⟩ := hw'
  subst hw''
  have HBQ := Lib.hid (below_regrown W dq osq)
  clear k1 k2 f1 f2 cY cW
  generalize Sort.grow (redrawn W dq) osq = W5 at *
  go_wp2_with fail
  go_ret
  exact ⟨by rw [← HS.out]; rfl, HB.out.trans (HBQ.out.mono HB.out.size)⟩
end Go.Proofs.Ytfbgekhkbbhggaa.WwI
