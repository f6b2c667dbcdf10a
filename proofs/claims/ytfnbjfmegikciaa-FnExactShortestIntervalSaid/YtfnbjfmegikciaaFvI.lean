/- The program's firstThat over intervals. -/
import Derived.Test.YtfnbjfmegikciaaIn
import Derived.Test.YtfnbjfmegikciaaFtI
namespace Go.Proofs.Ytfnbjfmegikciaa.FvI
open Go Go.RowKit Go.Shelf Pairs Rec Keep GivesI DvM DvG DvI Di ShI Yr In AtM Qsp FtI
attribute [local go_sem] Oper.semAt_some
set_option linter.unusedVariables false
/-- The first interval at which q holds. -/
def fst2 (q : Int × Int → Bool) (ps : List (Int × Int)) : (Int × Int) × Bool := match ps.find? q with
  | some p => (p, true)
  | none => ((0, 0), false)
theorem fst2_hit {q : Int × Int → Bool} {ys pre : List (Int × Int)} {y : Int × Int} (hp : pre ++ [y] <+: ys) (hn : ∀ x ∈ pre, q x = false) (hy : q y = true) : fst2 q ys = (y, true) := by
  obtain ⟨r, rfl⟩ := hp
  unfold fst2
  rw [List.append_assoc, List.find?_append, List.find?_eq_none.2 (fun x hx => by rw [hn x hx]; simp)]
  simp [hy]
theorem fst2_none {q : Int × Int → Bool} {ys : List (Int × Int)} (hn : ∀ x ∈ ys, q x = false) : fst2 q ys = ((0, 0), false) := by
  unfold fst2
  rw [List.find?_eq_none.2 (fun x hx => by rw [hn x hx]; simp)]
theorem bx_grown {W W' : World} {g : Nat} {u v : Value} {row : Option Nat} (h : Bx W g u v) (hg : W.grownBy W' row) (hne : some g ≠ row) : Bx W' g u v := by
  have e := hg.block g h.lt hne
  refine ⟨?_, ?_, ?_, ?_, Nat.lt_of_lt_of_le h.lt hg.size⟩
  · unfold World.cell?; rw [e]; exact h.c0
  · unfold World.cell?; rw [e]; exact h.c1
  · unfold World.frozen?; rw [e]; exact h.f0
  · unfold World.frozen?; rw [e]; exact h.f1
theorem bx_eq {W W' : World} {g : Nat} {u v : Value} (h : Bx W g u v) (e : W'.heap[g]? = W.heap[g]?) (hs : W.heap.size ≤ W'.heap.size) : Bx W' g u v := by
  refine ⟨?_, ?_, ?_, ?_, Nat.lt_of_lt_of_le h.lt hs⟩
  · unfold World.cell?; rw [e]; exact h.c0
  · unfold World.cell?; rw [e]; exact h.c1
  · unfold World.frozen?; rw [e]; exact h.f0
  · unfold World.frozen?; rw [e]; exact h.f1
theorem resV (T : Array Value) (b : Nat) (u1 u2 : Int) (v : Bool) (W : World) (h1 : Bx W (b + 1) (.int .i64 u1) (.int .i64 u2)) (h2 : Boxed W (b + 2) 4 (.bool v)) (h4 : T[4]?.getD undef = .pointer (some ⟨b + 1, 0, none⟩)) (h5 : T[5]?.getD undef = .pointer (some ⟨b + 1 + 1, 0, none⟩)) :
    (results Try.f67 T).run Try.prog W = .ok (.tuple #[.agg #[.int .i64 u1, .int .i64 u2], .bool v]) W := by
  obtain ⟨c0, c1, -, -, -⟩ := h1
  have c2 : W.cell? ⟨b + 1 + 1, 0, none⟩ = some (.bool v) := h2.cell
  simp [results, Try.results67, go_sem, h4, h5, c0, c1, c2]
set_option maxRecDepth 100000 in
set_option maxHeartbeats 4000000 in
theorem first_any (fn : FuncId) (rc : Value) (q : Int × Int → Bool) (x t : Int) (B : Nat) (w : World) (hx : -1000000 ≤ x ∧ x ≤ 1000000) (ht : -1000000 ≤ t ∧ t ≤ 1000000)
    (h0 : w.cell? ⟨B, 0, none⟩ = some (.int .i64 x)) (h1 : w.cell? ⟨B, 1, none⟩ = some (.int .i64 t))
    (hcall : ∀ (args : Array Value) (W : World), (callFunc fn args).run Try.prog W = .ok (.enter fn args) W)
    (hf : ∀ a b wr, x ≤ a → a ≤ b → b ≤ t → Below w.heap.size w wr → Calls Try.prog fn #[rc, .agg #[.int .i64 a, .int .i64 b]] wr fun e w' => e = .returned (.bool (q (a, b))) ∧ Below wr.heap.size wr w') :
    Calls Try.prog 67 #[.func (.func 80) #[] #[.pointer (some ⟨B, 0, none⟩)], .func (.func fn) #[rc] #[]] w fun e w' => e = .returned (.tuple #[.agg #[.int .i64 (fst2 q (ivs x t)).1.1, .int .i64 (fst2 q (ivs x t)).1.2], .bool (fst2 q (ivs x t)).2]) ∧ Below w.heap.size w w' := by
  obtain ⟨hs, k0, k1, k2, hb0⟩ := three1 w (.cells #[.func (.func fn) #[rc] #[]] 76) (.cells #[.int .i64 0, .int .i64 0] 53) (.cells #[.bool false] 4)
  have HF := Lib.hid hf
  have HC := Lib.hid hcall
  have hBl : B < w.heap.size := World.block_lt_of_cell? w _ h0
  have g0 := (hb0.cell (p := ⟨B, 0, none⟩) hBl).trans h0
  have g1 := (hb0.cell (p := ⟨B, 1, none⟩) hBl).trans h1
  clear hf hcall h0 h1
  refine (callsIn_wide (n := 8)).1 ?_
  refine callsIn_of_wp_marks Try.func67 rfl trivial ?_ rfl
  simp only [Try.ntmps67, List.size_toArray, List.length_cons, List.length_nil, Nat.reduceAdd, Nat.reduceSub, Array.replicate_succ, Array.replicate_zero, List.push_toArray, List.append_toArray, List.nil_append, List.cons_append]
  gi_wp2
  generalize ((w.alloc (.cells #[.func (.func fn) #[rc] #[]] 76)).alloc (.cells #[.int .i64 0, .int .i64 0] 53)).alloc (.cells #[.bool false] 4) = w1 at *
  have K0 := Lib.hid k0
  have K1 : Hid (Bx w1 (w.heap.size + 1) (.int .i64 0) (.int .i64 0)) := by
    refine ⟨?_, ?_, ?_, ?_, by omega⟩
    · unfold World.cell?; rw [k1]; rfl
    · unfold World.cell?; rw [k1]; rfl
    · unfold World.frozen?; rw [k1]; rfl
    · unfold World.frozen?; rw [k1]; rfl
  have K2 := Lib.hid k2
  have HB := Lib.hid hb0
  have S4 := Lib.hid hs
  clear k0 k1 k2 hb0
  refine wpIn_rangeFunc_ownH (α := Ix x t) rfl (by decide) (gf := 80) (lb := #[.pointer (some ⟨B, 0, none⟩)]) rfl trivial (enters_of Try.func80 (by kernel_rfl) rfl)
    (in_stops 7 (by omega) x t (by omega) (by omega) B w1 g0 g1) (fun h k => h.trans k) (fun W l0 o o' hl ho hc _ => kpC_b W l0 o o' hl (by omega)) (Below.refl _ _) (fun _ => rfl)
    (fun pre V => V.heap[w.heap.size]? = some (.cells #[.func (.func fn) #[rc] #[]] 76 (0, 0)) ∧ (Bx V (w.heap.size + 1) (.int .i64 0) (.int .i64 0) ∧ Boxed V (w.heap.size + 2) 4 (.bool false)) ∧ Below w.heap.size w V ∧ w.heap.size + 3 ≤ V.heap.size ∧ (∀ y ∈ pre.map (·.1), q y = false))
    (fun c pre V => c = .ret ∧ ∃ (pr : List (Int × Int)) (y : Int × Int), pre.map (·.1) = pr ++ [y] ∧ q y = true ∧ (∀ z ∈ pr, q z = false) ∧ (Bx V (w.heap.size + 1) (.int .i64 y.1) (.int .i64 y.2) ∧ Boxed V (w.heap.size + 2) 4 (.bool true)) ∧ Below w.heap.size w V)
    ?own ?ownx ⟨K0.out, ⟨K1.out, K2.out⟩, HB.out, Nat.le_of_eq S4.out.symm, fun y hy => by cases hy⟩
    (fun y a' V => ∃ gb : Nat, w.heap.size + 3 ≤ gb ∧ V.heap[gb]? = some (.cells #[.int .i64 y.1.1, .int .i64 y.1.2] 53 (0, 0)) ∧ a' = { tmps := #[.func (.func 80) #[] #[.pointer (some ⟨B, 0, none⟩)], .func (.func fn) #[rc] #[], undef, .pointer (some ⟨w.heap.size, 0, none⟩), .pointer (some ⟨w.heap.size + 1, 0, none⟩), .pointer (some ⟨w.heap.size + 1 + 1, 0, none⟩), .pointer (some ⟨gb, 0, none⟩), undef, .func (.func 80) #[] #[.pointer (some ⟨B, 0, none⟩)], .agg #[.int .i64 y.1.1, .int .i64 y.1.2], undef, undef, undef, undef, undef], defers := [] }) ?ax ?assign ?body ?done ?stop
  case assign =>
    intro l0 pre y V K hi hK
    have hba := below_alloc V (.cells #[.int .i64 y.1.1, .int .i64 y.1.2] 53)
    have hi2 := hi.2.1.1
    have hi3 := hi.2.1.2
    have HX := Lib.hid (hK _ _ ((others_below hba).from _) (KpC.of_below hba (by have := hi.2.2.2.1; omega)) ⟨(hba.block _ (Array.getElem?_eq_some_iff.1 hi.1).1).trans hi.1, ⟨hi2.below hba, (hba.block _ hi3.lt).trans hi3⟩, hi.2.2.1.trans (hba.mono hi.2.2.1.size), Nat.le_trans hi.2.2.2.1 hba.size, hi.2.2.2.2⟩ ⟨V.heap.size, hi.2.2.2.1, World.alloc_heap_new V _, rfl⟩)
    clear hK hba hi2 hi3
    gi_wp2
    exact HX.out
  case own =>
    intro pre V V' row hs' hg hr
    have hne : ∀ k, k < w.heap.size + 3 → some k ≠ row := fun k hk e => by
      have := (hr k e.symm).1
      have := S4.out
      omega
    exact ⟨(hg.block _ (Array.getElem?_eq_some_iff.1 hs'.1).1 (hne _ (by omega))).trans hs'.1, ⟨bx_grown hs'.2.1.1 hg (hne _ (by omega)), hs'.2.1.2.kept hg (hne _ (by omega))⟩, hs'.2.2.1.grown hg hs'.2.2.1.size (fun k hk => by have := (hr k hk).1; have := S4.out; omega), Nat.le_trans hs'.2.2.2.1 hg.size, hs'.2.2.2.2⟩
  case ownx =>
    intro c pre V V' row hs' hg hr
    have hne : ∀ k, k < w.heap.size + 3 → some k ≠ row := fun k hk e => by
      have := (hr k e.symm).1
      have := S4.out
      omega
    obtain ⟨e1, pr, y, e2, e3, e4, ⟨e5, e6⟩, e7⟩ := hs'
    exact ⟨e1, pr, y, e2, e3, e4, ⟨bx_grown e5 hg (hne _ (by omega)), e6.kept hg (hne _ (by omega))⟩, e7.grown hg e7.size (fun k hk => by have := (hr k hk).1; have := S4.out; omega)⟩
  case ax =>
    intro y a' _ V V' row hs' hg hr
    obtain ⟨gb, h1, h2, h3⟩ := hs'
    refine ⟨gb, h1, (hg.block _ (Array.getElem?_eq_some_iff.1 h2).1 (fun e => ?_)).trans h2, h3⟩
    obtain ⟨_, o, ho, hc⟩ := hr gb e.symm
    rw [h2] at ho
    injection ho with ho
    rw [← ho] at hc
    cases hc
  case body =>
    rintro l0 pre ⟨⟨a, b⟩, hy⟩ a' V hl0 hlr ⟨hd, ⟨hb1, hb2⟩, hbel, hsz, hq⟩ ⟨gb, hgb, hcb, rfl⟩ hlen
    refine wpIn_mono ?_ ownPostG_of_ownPostK
    have hyb := ivs_mem hy
    simp only at hyb hcb
    have c1 : V.cell? ⟨w.heap.size, 0, none⟩ = some (.func (.func fn) #[rc] #[]) := by unfold World.cell?; rw [hd]; rfl
    have c2 : V.cell? ⟨gb, 0, none⟩ = some (.int .i64 a) := by unfold World.cell?; rw [hcb]; rfl
    have c3 : V.cell? ⟨gb, 1, none⟩ = some (.int .i64 b) := by unfold World.cell?; rw [hcb]; rfl
    have HCA := Lib.hid (HF.out a b V hyb.1 hyb.2.1 hyb.2.2 hbel)
    have HGL := Lib.hid (Array.getElem?_eq_some_iff.1 hcb).1
    have HI := Lib.hid (And.intro hd (And.intro hb1 (And.intro hb2 (And.intro hbel (And.intro hsz hq)))))
    clear hd hb1 hb2 hbel hsz hq hcb
    gi_wp2
    refine ⟨trivial, ?_⟩
    rw [HC.out]
    refine ⟨(fun h => by cases h), ?_⟩
    refine (CallsIn.inRound l0 (callsIn_wide.2 HCA.out)).mono ?_
    rintro e V2 ⟨rfl, bb⟩
    have h1' := HI.out.2.1
    have h2' := HI.out.2.2.1
    have r1 := h1'.below bb
    have r2 : Boxed V2 (w.heap.size + 2) 4 (.bool false) := (bb.block _ h2'.lt).trans h2'
    cases hqy : q (a, b) with
    | true =>
      have HQ := Lib.hid hqy
      have HB2 := Lib.hid bb
      have HR := Lib.hid (And.intro r1 r2)
      have e2 := (bb.cell (p := ⟨gb, 0, none⟩) HGL.out).trans c2
      have e3 := (bb.cell (p := ⟨gb, 1, none⟩) HGL.out).trans c3
      obtain ⟨d1, d2, d3, d4, -⟩ := r1
      have d5 : V2.cell? ⟨w.heap.size + 1 + 1, 0, none⟩ = some (.bool false) := r2.cell
      have d6 : V2.frozen? ⟨w.heap.size + 1 + 1, 0, none⟩ = false := r2.frozen
      clear hqy bb r2 h1' h2' c2 c3
      gi_wp2
      have hz := HI.out.2.2.2.1.size
      refine ⟨(others_below HB2.out).trans (((KeepsOthers.setCell _ _ _).trans (KeepsOthers.setCell _ _ _)).trans (KeepsOthers.setCell _ _ _)), rfl, pre.map (·.1), (a, b), by rw [List.map_append]; rfl, HQ.out, HI.out.2.2.2.2.2, ⟨bx_eq (bx_put HR.out.1 (.int .i64 a) (.int .i64 b)) (Below.heap_setCell _ _ _ _ (by show w.heap.size + 1 ≠ w.heap.size + 1 + 1; omega)) (by simp [World.setCell]), ((HR.out.2.kept (row := some (w.heap.size + 1)) ?_ ?_).set _)⟩, ?_⟩
      · exact ⟨rfl, rfl, rfl, by simp [World.setCell], fun k _ hk => (Below.heap_setCell _ _ _ _ (fun e => hk (by rw [e]))).trans (Below.heap_setCell _ _ _ _ (fun e => hk (by rw [e])))⟩
      · intro e
        injection e with e
        omega
      · exact (((HI.out.2.2.2.1.trans (HB2.out.mono hz)).setCell (p := ⟨w.heap.size + 1, 0, none⟩) (by show w.heap.size ≤ w.heap.size + 1; omega) _).setCell (p := ⟨w.heap.size + 1, 1, none⟩) (by show w.heap.size ≤ w.heap.size + 1; omega) _).setCell (p := ⟨w.heap.size + 1 + 1, 0, none⟩) (by show w.heap.size ≤ w.heap.size + 1 + 1; omega) _
    | false =>
      have HQ := Lib.hid hqy
      have HB2 := Lib.hid bb
      have HR := Lib.hid (And.intro r1 r2)
      clear hqy bb r1 r2 h1' h2'
      gi_wp2
      refine ⟨others_below HB2.out, KpC.of_below HB2.out (by have := HI.out.2.2.2.2.1; omega), (HB2.out.block _ (Array.getElem?_eq_some_iff.1 HI.out.1).1).trans HI.out.1, HR.out, HI.out.2.2.2.1.trans (HB2.out.mono HI.out.2.2.2.1.size), Nat.le_trans HI.out.2.2.2.2.1 HB2.out.size, ?_⟩
      intro z hz
      rw [List.map_append] at hz
      rcases List.mem_append.1 hz with hz | hz
      · exact HI.out.2.2.2.2.2 z hz
      · obtain rfl : z = (a, b) := by simpa using hz
        exact HQ.out
  case done =>
    rintro D xs V hD hS ⟨hd, ⟨hb1, hb2⟩, hbel, hsz, hq⟩ hK
    have HN := Lib.hid (fst2_none (q := q) (ys := ivs x t) (by rw [← hS]; exact hq))
    have HQ := Lib.hid (And.intro hb1 (And.intro hb2 (And.intro hbel (And.intro hK hD))))
    have hba := below_alloc V (.cells #[.int .i64 0, .int .i64 0] 53)
    have n1 := box_first V (.int .i64 0) (.int .i64 0) 53
    have n2 := box_second V (.int .i64 0) (.int .i64 0) 53
    obtain ⟨d1, d2, d3, d4, -⟩ := hb1.below hba
    have hb2' : Boxed (V.alloc (.cells #[.int .i64 0, .int .i64 0] 53)) (w.heap.size + 2) 4 (.bool false) := (hba.block _ hb2.lt).trans hb2
    have d5 : (V.alloc (.cells #[.int .i64 0, .int .i64 0] 53)).cell? ⟨w.heap.size + 1 + 1, 0, none⟩ = some (.bool false) := hb2'.cell
    have d6 : (V.alloc (.cells #[.int .i64 0, .int .i64 0] 53)).frozen? ⟨w.heap.size + 1 + 1, 0, none⟩ = false := hb2'.frozen
    have HBA := Lib.hid hba
    clear hd hb1 hb2 hbel hsz hK hS hq hD hb2' hba
    gi_wp2
    have hDz : w.heap.size + 3 ≤ D := by have h1 := HQ.out.2.2.2.2; have h2 := S4.out; omega
    have hx1 := bx_put (HQ.out.1.below HBA.out) (.int .i64 0) (.int .i64 0)
    have hx2 : Boxed (((V.alloc (.cells #[.int .i64 0, .int .i64 0] 53)).setCell ⟨w.heap.size + 1, 0, none⟩ (.int .i64 0)).setCell ⟨w.heap.size + 1, 1, none⟩ (.int .i64 0)) (w.heap.size + 2) 4 (.bool false) :=
      ((Below.heap_setCell _ _ _ _ (by show w.heap.size + 2 ≠ w.heap.size + 1; omega)).trans ((Below.heap_setCell _ _ _ _ (by show w.heap.size + 2 ≠ w.heap.size + 1; omega)).trans ((HBA.out.block _ HQ.out.2.1.lt)))).trans HQ.out.2.1
    have hko : KeepsOthers V ((((V.alloc (.cells #[.int .i64 0, .int .i64 0] 53)).setCell ⟨w.heap.size + 1, 0, none⟩ (.int .i64 0)).setCell ⟨w.heap.size + 1, 1, none⟩ (.int .i64 0)).setCell ⟨w.heap.size + 1 + 1, 0, none⟩ (.bool false)) :=
      (others_below HBA.out).trans (((KeepsOthers.setCell _ _ _).trans (KeepsOthers.setCell _ _ _)).trans (KeepsOthers.setCell _ _ _))
    have hK4 := hko.same D _ HQ.out.2.2.2.1 rfl
    have hz := HQ.out.2.2.1.size
    have hbb : Below w.heap.size w ((((V.alloc (.cells #[.int .i64 0, .int .i64 0] 53)).setCell ⟨w.heap.size + 1, 0, none⟩ (.int .i64 0)).setCell ⟨w.heap.size + 1, 1, none⟩ (.int .i64 0)).setCell ⟨w.heap.size + 1 + 1, 0, none⟩ (.bool false)) :=
      (((HQ.out.2.2.1.trans (HBA.out.mono hz)).setCell (p := ⟨w.heap.size + 1, 0, none⟩) (by show w.heap.size ≤ w.heap.size + 1; omega) _).setCell (p := ⟨w.heap.size + 1, 1, none⟩) (by show w.heap.size ≤ w.heap.size + 1; omega) _).setCell (p := ⟨w.heap.size + 1 + 1, 0, none⟩) (by show w.heap.size ≤ w.heap.size + 1 + 1; omega) _
    refine ⟨by simp, .inl ⟨_, _, rfl, run_takeDeferred hK4, ?_⟩⟩
    refine ⟨_, resV _ w.heap.size 0 0 false _ (bx_eq hx1 ((World.putObj_heap_other (by omega)).trans (Below.heap_setCell _ _ _ _ (by show w.heap.size + 1 ≠ w.heap.size + 1 + 1; omega))) (by simp [World.setCell])) ((World.putObj_heap_other (by omega)).trans (hx2.set _)) rfl rfl, ?_⟩
    exact ⟨by rw [HN.out], hbb.trans (belowK_b (w := w) (Nat.le_refl _) _ D _ _ (by omega) hK4 rfl rfl)⟩
  case stop =>
    rintro D c pre V hD hS ⟨rfl, pr, y, e2, e3, e4, ⟨e5, e6⟩, e7⟩ hK
    have HN := Lib.hid (fst2_hit (q := q) (ys := ivs x t) (by rw [← e2]; exact hS) e4 e3)
    have HQ := Lib.hid (And.intro e5 (And.intro e6 (And.intro e7 (And.intro hK hD))))
    clear e2 e3 e4 e5 e6 e7 hK hS hD
    gi_wp2
    have hDz : w.heap.size + 3 ≤ D := by have h1 := HQ.out.2.2.2.2; have h2 := S4.out; omega
    refine ⟨by simp, .inl ⟨_, _, rfl, run_takeDeferred HQ.out.2.2.2.1, ?_⟩⟩
    refine ⟨_, resV _ w.heap.size y.1 y.2 true _ (bx_eq HQ.out.1 (World.putObj_heap_other (by omega)) (by simp)) ((World.putObj_heap_other (by omega)).trans HQ.out.2.1) rfl rfl, ?_⟩
    exact ⟨by rw [HN.out], HQ.out.2.2.1.trans (belowK_b (w := w) (Nat.le_refl _) _ D _ _ (by omega) HQ.out.2.2.2.1 rfl rfl)⟩
end Go.Proofs.Ytfnbjfmegikciaa.FvI
