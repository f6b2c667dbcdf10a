/- The closure of the program's LaterBy: the sum over the years of a of the products. -/
import Derived.Test.YtfnbjfmegikciaaWwI
import Derived.Test.YtfnbjfmegikciaaOvI
namespace Go.Proofs.Ytfnbjfmegikciaa.LbC
open Go Go.RowKit Go.Shelf Pairs Rec Keep GivesI DvM DvG DvI ShI Yr AtM Qsp WwI
attribute [local go_sem] Oper.semAt_some
set_option linter.unusedVariables false
/-- The sum of the products of the weights n years apart. -/
def lw (fa : Int) (Ma : List Int) (fb : Int) (Mb : List Int) (n : Int) (ys : List Int) : Int := (ys.map fun y => wat fa Ma y * wat fb Mb (y + n)).sum
theorem lw_app (fa : Int) (Ma : List Int) (fb : Int) (Mb : List Int) (n : Int) (ys : List Int) (y : Int) : lw fa Ma fb Mb n (ys ++ [y]) = lw fa Ma fb Mb n ys + wat fa Ma y * wat fb Mb (y + n) := by
  unfold lw
  rw [List.map_append, List.sum_append]
  simp
theorem lw_bd {fa fb : Int} {Ma Mb : List Int} (ha : ∀ x ∈ Ma, 0 ≤ x ∧ x ≤ 1000000) (hb : ∀ x ∈ Mb, 0 ≤ x ∧ x ≤ 1000000) (n : Int) : ∀ ys : List Int, 0 ≤ lw fa Ma fb Mb n ys ∧ lw fa Ma fb Mb n ys ≤ 1000000000000 * ys.length
  | [] => by simp [lw]
  | y :: ys => by
    have ih := lw_bd (fa := fa) (fb := fb) ha hb n ys
    have h1 := wat_bd (f := fa) (m := 1000000) (by omega) ha y
    have h2 := wat_bd (f := fb) (m := 1000000) (by omega) hb (y + n)
    have m1 : 0 ≤ wat fa Ma y * wat fb Mb (y + n) := Int.mul_nonneg h1.1 h2.1
    have m2 : wat fa Ma y * wat fb Mb (y + n) ≤ 1000000 * 1000000 := Int.mul_le_mul h1.2 h2.2 h2.1 (by omega)
    have e : lw fa Ma fb Mb n (y :: ys) = wat fa Ma y * wat fb Mb (y + n) + lw fa Ma fb Mb n ys := rfl
    rw [e, List.length_cons]
    constructor
    · omega
    · have : (1000000000000 : Int) * ((ys.length + 1 : Nat) : Int) = 1000000000000 * ys.length + 1000000000000 := by rw [Int.natCast_add, Int.mul_add]; simp
      omega
set_option maxRecDepth 100000 in
set_option maxHeartbeats 4000000 in
theorem clo_any (fa : Int) (pa : Option Addr) (na ca : Nat) (Ma : List Int) (fb : Int) (pb : Option Addr) (nb cb : Nat) (Mb : List Int) (n : Int) (A B : Nat) (w : World) (hna : na ≤ 1048576) (hnb : nb ≤ 1048576) (hn60 : na ≤ 60) (hfa : -20000 ≤ fa ∧ fa ≤ 2100) (hfb : -20000 ≤ fb ∧ fb ≤ 2100) (hn : -100000 ≤ n ∧ n ≤ 100000)
    (hMa : ∀ x ∈ Ma, 0 ≤ x ∧ x ≤ 1000000) (hMb : ∀ x ∈ Mb, 0 ≤ x ∧ x ≤ 1000000) (ha : HoldsI w pa na Ma) (hb : HoldsI w pb nb Mb)
    (a0 : w.cell? ⟨A, 0, none⟩ = some (.int .i64 fa)) (a1 : w.cell? ⟨A, 1, none⟩ = some (.slice pa na ca)) (b0 : w.cell? ⟨B, 0, none⟩ = some (.int .i64 fb)) (b1 : w.cell? ⟨B, 1, none⟩ = some (.slice pb nb cb)) :
    Calls Try.prog 60 #[.int .i64 n, .pointer (some ⟨A, 0, none⟩), .pointer (some ⟨B, 0, none⟩)] w fun e w' => e = .returned (.int .i64 (lw fa Ma fb Mb n (yrs fa (fa + na - 1)))) ∧ Below w.heap.size w w' := by
  have hla := Lib.hid ha
  have hlb := Lib.hid hb
  have HMA := Lib.hid hMa
  have HMB := Lib.hid hMb
  have hAl := World.block_lt_of_cell? w _ a0
  have hBl := World.block_lt_of_cell? w _ b0
  have hAB := Lib.hid (And.intro a0 (And.intro a1 (And.intro b0 b1)))
  have hb2 := below_alloc2 w (.cells #[.int .i64 n] 3) (.cells #[.int .i64 0] 3)
  have e2 : ((w.alloc (.cells #[.int .i64 n] 3)).alloc (.cells #[.int .i64 0] 3)).heap.size = w.heap.size + 2 := by simp
  have k0 : ((w.alloc (.cells #[.int .i64 n] 3)).alloc (.cells #[.int .i64 0] 3)).heap[w.heap.size]? = some (.cells #[.int .i64 n] 3 (0, 0)) := by
    show ((w.heap.push _).push _)[w.heap.size]? = _
    rw [Array.getElem?_push, if_neg (by simp), Array.getElem?_push, if_pos rfl]
  have k1 : ((w.alloc (.cells #[.int .i64 n] 3)).alloc (.cells #[.int .i64 0] 3)).heap[w.heap.size + 1]? = some (.cells #[.int .i64 0] 3 (0, 0)) := by
    show ((w.heap.push _).push _)[w.heap.size + 1]? = _
    rw [Array.getElem?_push, if_pos (by simp)]
  have u0 := (hb2.cell (p := ⟨A, 0, none⟩) hAl).trans a0
  have u1 := (hb2.cell (p := ⟨A, 1, none⟩) hAl).trans a1
  clear ha hb a0 a1 b0 b1 hMa hMb
  refine (callsIn_wide (n := 8)).1 ?_
  refine callsIn_of_wp_marks Try.func60 rfl trivial ?_ rfl
  simp only [Try.ntmps60, List.size_toArray, List.length_cons, List.length_nil, Nat.reduceAdd, Nat.reduceSub, Array.replicate_succ, Array.replicate_zero, List.push_toArray, List.append_toArray, List.nil_append, List.cons_append]
  gi_wp2
  generalize (w.alloc (.cells #[.int .i64 n] 3)).alloc (.cells #[.int .i64 0] 3) = W2 at *
  refine ⟨trivial, ?_⟩
  refine (callsIn_wide.2 (years_any fa pa na ca _ (by omega) (by omega) hna)).mono ?_
  rintro e w1 ⟨rfl, b1⟩
  gi_wp2
  refine ⟨trivial, ?_⟩
  refine (callsIn_wide.2 (OvI.yearsOf_b fa (fa + na - 1) _)).mono ?_
  rintro e w2 ⟨rfl, b2, y0, y1⟩
  have hz2 := World.block_lt_of_cell? w2 _ y0
  have hz1 := b1.size
  have b12 := b1.trans (b2.mono b1.size)
  have HI0 : Hid (w2.heap[w.heap.size]? = some (.cells #[.int .i64 n] 3 (0, 0)) ∧ w2.heap[w.heap.size + 1]? = some (.cells #[.int .i64 (lw fa Ma fb Mb n [])] 3 (0, 0)) ∧ Below w.heap.size w w2 ∧ w1.heap.size + 1 ≤ w2.heap.size) :=
    ⟨(b12.block _ (by omega)).trans k0, (b12.block _ (by omega)).trans k1, hb2.trans (b12.mono hb2.size), hz2⟩
  have S4 := Lib.hid hz2
  have S1 := Lib.hid (show w.heap.size + 2 ≤ w1.heap.size by omega)
  clear k0 k1 u0 u1 hb2 b1 b2 b12 e2 hz1
  gi_wp2
  refine wpIn_rangeFunc_ownF (α := Yx fa (fa + na - 1)) rfl (by decide) (gf := 79) (lb := #[.pointer (some ⟨w1.heap.size, 0, none⟩)]) rfl trivial (enters_of Try.func79 (by kernel_rfl) rfl)
    (yr_stops 7 (by omega) fa (fa + na - 1) (by omega) (by omega) w1.heap.size w2 y0 y1) (fun h k => h.trans k) (fun W l0 o o' hl ho hc _ => kpC_b W l0 o o' hl (by omega)) (Below.refl _ _) (fun _ => rfl)
    (fun pre V => V.heap[w.heap.size]? = some (.cells #[.int .i64 n] 3 (0, 0)) ∧ V.heap[w.heap.size + 1]? = some (.cells #[.int .i64 (lw fa Ma fb Mb n (pre.map (·.1)))] 3 (0, 0)) ∧ Below w.heap.size w V ∧ w1.heap.size + 1 ≤ V.heap.size)
    (fun _ _ _ => False)
    ?own (fun _ _ _ _ _ hs _ _ => hs) HI0 ?a1 ?assign ?body ?done ?stop
  case own =>
    intro pre V V' row hs hg hr
    have hne : ∀ k, k < w.heap.size + 2 → some k ≠ row := fun k hk e => by
      have := (hr k e.symm).1
      have := S1.out
      omega
    exact ⟨(hg.block _ (Array.getElem?_eq_some_iff.1 hs.1).1 (hne _ (by omega))).trans hs.1, (hg.block _ (Array.getElem?_eq_some_iff.1 hs.2.1).1 (hne _ (by omega))).trans hs.2.1, hs.2.2.1.grown hg hs.2.2.1.size (fun k hk => by have h1 := (hr k hk).1; have h2 := S1.out; omega), Nat.le_trans hs.2.2.2 hg.size⟩
  case assign =>
    intro l0 y V K hK
    gi_wp2
    exact hK
  case stop =>
    rintro D c pre V _ _ h _
    exact h.elim
  case body =>
    rintro l0 pre ⟨y, hy⟩ V ⟨hd, hsum, hbel, hsz⟩ hlen
    have hyb := yrs_mem.1 hy
    rw [yrs_len] at hlen
    have hsb := lw_bd (fa := fa) (fb := fb) HMA.out HMB.out n (pre.map (·.1))
    have hwa := wat_bd (f := fa) (m := 1000000) (by omega) HMA.out y
    have hwb := wat_bd (f := fb) (m := 1000000) (by omega) HMB.out (y + n)
    rw [List.length_map] at hsb
    have HN := Lib.hid (show lw fa Ma fb Mb n ((pre ++ [(⟨y, hy⟩ : Yx fa (fa + na - 1))]).map (·.1)) = lw fa Ma fb Mb n (pre.map (·.1)) + wat fa Ma y * wat fb Mb (y + n) by rw [List.map_append]; exact lw_app _ _ _ _ _ _ _)
    obtain ⟨S, hS⟩ : ∃ S, S = lw fa Ma fb Mb n (pre.map (·.1)) := ⟨_, rfl⟩
    rw [← hS] at hsum hsb HN
    have HA2 := Lib.hid (hla.out.below hbel)
    have HB2 := Lib.hid (hlb.out.below hbel)
    have c1 : V.cell? ⟨w.heap.size + 1, 0, none⟩ = some (.int .i64 S) := by unfold World.cell?; rw [hsum]; rfl
    have c2 : V.cell? ⟨w.heap.size, 0, none⟩ = some (.int .i64 n) := by unfold World.cell?; rw [hd]; rfl
    have a0 := (hbel.cell (p := ⟨A, 0, none⟩) hAl).trans hAB.out.1
    have a1 := (hbel.cell (p := ⟨A, 1, none⟩) hAl).trans hAB.out.2.1
    have b0 := (hbel.cell (p := ⟨B, 0, none⟩) hBl).trans hAB.out.2.2.1
    have b1 := (hbel.cell (p := ⟨B, 1, none⟩) hBl).trans hAB.out.2.2.2
    have cA : ∀ d os, Calls Try.prog 53 #[.agg #[.int .i64 fa, .slice pa na ca], .int .i64 y] (Sort.grow (redrawn V d) os) fun e w'' => e = .returned (.int .i64 (wat fa Ma y)) ∧ ∃ p : Regrown, w'' = Sort.grow (redrawn V p.d) p.os := fun d os => Calls.regrown_of (weightAt_any fa pa na ca Ma y _ hna (by omega) (by omega) (HA2.out.below (below_regrown V d os)))
    have cB : ∀ d os, Calls Try.prog 53 #[.agg #[.int .i64 fb, .slice pb nb cb], .int .i64 (y + n)] (Sort.grow (redrawn V d) os) fun e w'' => e = .returned (.int .i64 (wat fb Mb (y + n))) ∧ ∃ p : Regrown, w'' = Sort.grow (redrawn V p.d) p.os := fun d os => Calls.regrown_of (weightAt_any fb pb nb cb Mb (y + n) _ hnb (by omega) (by omega) (HB2.out.below (below_regrown V d os)))
    obtain ⟨u, hu⟩ : ∃ u, u = wat fa Ma y := ⟨_, rfl⟩
    obtain ⟨v, hv⟩ : ∃ v, v = wat fb Mb (y + n) := ⟨_, rfl⟩
    rw [← hu] at cA hwa HN
    rw [← hv] at cB hwb HN
    have hm1 : 0 ≤ u * v := Int.mul_nonneg hwa.1 hwb.1
    have hm2 : u * v ≤ 1000000 * 1000000 := Int.mul_le_mul hwa.2 hwb.2 hwb.1 (by omega)
    have hw0 : IntKind.i64.wrap (y + n) = y + n := by rw [IntKind.wrap_i64]; omega
    have hw1 : IntKind.i64.wrap (u * v) = u * v := by rw [IntKind.wrap_i64]; omega
    have hw2 : IntKind.i64.wrap (S + u * v) = S + u * v := by rw [IntKind.wrap_i64]; omega
    have HI := Lib.hid (And.intro hd (And.intro hsum (And.intro hbel hsz)))
    clear hd hsum hbel hsz hS hu hv hm1 hm2 hsb hwa hwb
    have k1 := cell_regrown c1
    have k2 := cell_regrown c2
    have k3 := cell_regrown a0
    have k4 := cell_regrown a1
    have k5 := cell_regrown b0
    have k6 := cell_regrown b1
    gi_wp2
    refine region_at (l := l0) 11 (by kernel_rfl) (by kernel_rfl) ?_
    simp only [List.take_succ_cons, List.take_zero, List.drop_succ_cons, List.drop_zero]
    repeat (go_big_quiet_step ((go_at_call 53; (first | with_reducible exact cA _ _ | with_reducible exact cB _ _))))
    refine wpQuiet_nil ?_
    intro _ hw'
    obtain ⟨⟨dq, osq⟩, hw''⟩ := hw'
    subst hw''
    have HBQ := Lib.hid (below_regrown V dq osq)
    clear k1 k2 k3 k4 k5 k6 c1 c2 a0 a1 b0 b1 cA cB
    generalize Sort.grow (redrawn V dq) osq = W5 at *
    have hd := (HBQ.out.block _ (Array.getElem?_eq_some_iff.1 HI.out.1).1).trans HI.out.1
    have hsum := (HBQ.out.block _ (Array.getElem?_eq_some_iff.1 HI.out.2.1).1).trans HI.out.2.1
    have hbx : Boxed W5 (w.heap.size + 1) 3 (.int .i64 S) := hsum
    have d1 := hbx.cell
    have d2 := hbx.frozen
    have HD := Lib.hid (And.intro hd (And.intro hsum hbx))
    clear hd hsum hbx
    gi_wp2
    have hne : ∀ k, k ≠ w.heap.size + 1 → ∀ u, (W5.setCell ⟨w.heap.size + 1, 0, none⟩ u).heap[k]? = W5.heap[k]? := fun k hk u => Below.heap_setCell _ _ _ k hk
    have hS1 := S1.out
    refine ⟨(others_below HBQ.out).trans (KeepsOthers.setCell _ _ _), (KpC.of_below HBQ.out (by have := HI.out.2.2.2; omega)).trans ⟨by simp [World.setCell], hne _ (by omega) _⟩, ?_, ?_, ?_, ?_⟩
    · rw [hne _ (by omega)]; exact HD.out.1
    · rw [HN.out]; exact HD.out.2.2.set _
    · exact (HI.out.2.2.1.trans (HBQ.out.mono HI.out.2.2.1.size)).setCell (p := ⟨w.heap.size + 1, 0, none⟩) (by show w.heap.size ≤ w.heap.size + 1; omega) _
    · have h1 := HI.out.2.2.2
      have h2 := HBQ.out.size
      have h3 : (W5.setCell ⟨w.heap.size + 1, 0, none⟩ (.int .i64 (S + u * v))).heap.size = W5.heap.size := by simp [World.setCell]
      omega
  case done =>
    rintro D xs V hD hS ⟨hd, hsum, hbel, hsz⟩ hK
    rw [hS] at hsum
    have hbx : Boxed V (w.heap.size + 1) 3 (.int .i64 (lw fa Ma fb Mb n (yrs fa (fa + na - 1)))) := hsum
    obtain ⟨S, hSS⟩ : ∃ S, S = lw fa Ma fb Mb n (yrs fa (fa + na - 1)) := ⟨_, rfl⟩
    rw [← hSS] at hbx hsum
    have HSS := Lib.hid hSS
    clear hSS
    have c1 : V.cell? ⟨w.heap.size + 1, 0, none⟩ = some (.int .i64 S) := hbx.cell
    have HQ := Lib.hid (And.intro hbel (And.intro hsz hK))
    have HDD := Lib.hid hD
    clear hd hsum hbel hsz hK hS
    gi_wp2
    refine ⟨by simp, .inl ⟨_, _, rfl, run_takeDeferred HQ.out.2.2, ?_⟩⟩
    refine ⟨_, results_tmp rfl _ _ _, ?_⟩
    exact ⟨by rw [← HSS.out]; rfl, HQ.out.1.trans (belowK_b (w := w) (Nat.le_refl _) _ D _ _ (by have h1 := HDD.out; have h2 := S4.out; have h3 := S1.out; omega) HQ.out.2.2 rfl rfl)⟩
end Go.Proofs.Ytfnbjfmegikciaa.LbC
