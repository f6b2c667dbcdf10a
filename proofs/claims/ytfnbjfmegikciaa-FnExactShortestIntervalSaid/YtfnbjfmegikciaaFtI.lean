/- The program's firstThat over years. -/
import Derived.Test.YtfnbjfmegikciaaAtM
import Derived.Test.YtfnbjfmegikciaaDvI
import Derived.Test.YtfnbjfmegikciaaQsp
namespace Go.Proofs.Ytfnbjfmegikciaa.FtI
open Go Go.RowKit Go.Shelf Pairs Rec Keep GivesI DvM DvG DvI Di ShI Yr AtM Qsp
attribute [local go_sem] Oper.semAt_some
set_option linter.unusedVariables false
/-- A closure's box and two results. -/
theorem three1 (w : World) (o1 o2 o3 : Obj) : (((w.alloc o1).alloc o2).alloc o3).heap.size = w.heap.size + 3 ∧ (((w.alloc o1).alloc o2).alloc o3).heap[w.heap.size]? = some o1 ∧ (((w.alloc o1).alloc o2).alloc o3).heap[w.heap.size + 1]? = some o2 ∧
    (((w.alloc o1).alloc o2).alloc o3).heap[w.heap.size + 2]? = some o3 ∧ Below w.heap.size w (((w.alloc o1).alloc o2).alloc o3) := by
  have e : ∀ (w : World) (o : Obj), (w.alloc o).heap = w.heap.push o := fun _ _ => rfl
  refine ⟨by rw [e, e, e]; simp, ?_, ?_, ?_, below_alloc3 _ _ _ _⟩
  · rw [e, e, e, Array.getElem?_push, if_neg (by simp; omega), Array.getElem?_push, if_neg (by simp), Array.getElem?_push, if_pos rfl]
  · rw [e, e, e, Array.getElem?_push, if_neg (by simp), Array.getElem?_push, if_pos (by simp)]
  · rw [e, e, e, Array.getElem?_push, if_pos (by simp)]
theorem others_below {W W' : World} (h : Below W.heap.size W W') : KeepsOthers W W' :=
  ⟨h.size, fun k o hk _ => (h.block k (Array.getElem?_eq_some_iff.1 hk).1).trans hk⟩
/-- The first year at which q holds. -/
def fst1 (q : Int → Bool) (ys : List Int) : Int × Bool := match ys.find? q with
  | some y => (y, true)
  | none => (0, false)
theorem fst1_hit {q : Int → Bool} {ys pre : List Int} {y : Int} (hp : pre ++ [y] <+: ys) (hn : ∀ x ∈ pre, q x = false) (hy : q y = true) : fst1 q ys = (y, true) := by
  obtain ⟨r, rfl⟩ := hp
  unfold fst1
  rw [List.append_assoc, List.find?_append, List.find?_eq_none.2 (fun x hx => by rw [hn x hx]; simp)]
  simp [hy]
theorem fst1_none {q : Int → Bool} {ys : List Int} (hn : ∀ x ∈ ys, q x = false) : fst1 q ys = (0, false) := by
  unfold fst1
  rw [List.find?_eq_none.2 (fun x hx => by rw [hn x hx]; simp)]
theorem resF (T : Array Value) (b : Nat) (u : Int) (v : Bool) (W : World) (h1 : Boxed W (b + 1) 3 (.int .i64 u)) (h2 : Boxed W (b + 2) 4 (.bool v)) (h4 : T[4]?.getD undef = .pointer (some ⟨b + 1, 0, none⟩)) (h5 : T[5]?.getD undef = .pointer (some ⟨b + 1 + 1, 0, none⟩)) :
    (results Try.f65 T).run Try.prog W = .ok (.tuple #[.int .i64 u, .bool v]) W := by
  have c1 := h1.cell
  have c2 : W.cell? ⟨b + 1 + 1, 0, none⟩ = some (.bool v) := h2.cell
  simp [results, Try.results65, go_sem, h4, h5, c1, c2]
set_option maxRecDepth 100000 in
set_option maxHeartbeats 4000000 in
theorem first_any (fn : FuncId) (rc : Value) (q : Int → Bool) (x t : Int) (B : Nat) (w : World) (hx : -1000000 ≤ x ∧ x ≤ 1000000) (ht : -1000000 ≤ t ∧ t ≤ 1000000)
    (h0 : w.cell? ⟨B, 0, none⟩ = some (.int .i64 x)) (h1 : w.cell? ⟨B, 1, none⟩ = some (.int .i64 t))
    (hcall : ∀ (args : Array Value) (W : World), (callFunc fn args).run Try.prog W = .ok (.enter fn args) W)
    (hf : ∀ y wr, x ≤ y → y ≤ t → Below w.heap.size w wr → Calls Try.prog fn #[rc, .int .i64 y] wr fun e w' => e = .returned (.bool (q y)) ∧ Below wr.heap.size wr w') :
    Calls Try.prog 65 #[.func (.func 79) #[] #[.pointer (some ⟨B, 0, none⟩)], .func (.func fn) #[rc] #[]] w fun e w' => e = .returned (.tuple #[.int .i64 (fst1 q (yrs x t)).1, .bool (fst1 q (yrs x t)).2]) ∧ Below w.heap.size w w' := by
  obtain ⟨hs, k0, k1, k2, hb0⟩ := three1 w (.cells #[.func (.func fn) #[rc] #[]] 51) (.cells #[.int .i64 0] 3) (.cells #[.bool false] 4)
  have HF := Lib.hid hf
  have HC := Lib.hid hcall
  have hBl : B < w.heap.size := World.block_lt_of_cell? w _ h0
  have g0 := (hb0.cell (p := ⟨B, 0, none⟩) hBl).trans h0
  have g1 := (hb0.cell (p := ⟨B, 1, none⟩) hBl).trans h1
  clear hf hcall h0 h1
  refine (callsIn_wide (n := 8)).1 ?_
  refine callsIn_of_wp_marks Try.func65 rfl trivial ?_ rfl
  simp only [Try.ntmps65, List.size_toArray, List.length_cons, List.length_nil, Nat.reduceAdd, Nat.reduceSub, Array.replicate_succ, Array.replicate_zero, List.push_toArray, List.append_toArray, List.nil_append, List.cons_append]
  gi_wp2
  generalize ((w.alloc (.cells #[.func (.func fn) #[rc] #[]] 51)).alloc (.cells #[.int .i64 0] 3)).alloc (.cells #[.bool false] 4) = w1 at *
  have K0 := Lib.hid k0
  have K1 := Lib.hid k1
  have K2 := Lib.hid k2
  have HB := Lib.hid hb0
  have S4 := Lib.hid hs
  clear k0 k1 k2 hb0
  refine wpIn_rangeFunc_ownF (α := Yx x t) rfl (by decide) (gf := 79) (lb := #[.pointer (some ⟨B, 0, none⟩)]) rfl trivial (enters_of Try.func79 (by kernel_rfl) rfl)
    (yr_stops 7 (by omega) x t (by omega) (by omega) B w1 g0 g1) (fun h k => h.trans k) (fun W l0 o o' hl ho hc _ => kpC_b W l0 o o' hl (by omega)) (Below.refl _ _) (fun _ => rfl)
    (fun pre V => V.heap[w.heap.size]? = some (.cells #[.func (.func fn) #[rc] #[]] 51 (0, 0)) ∧ (Boxed V (w.heap.size + 1) 3 (.int .i64 0) ∧ Boxed V (w.heap.size + 2) 4 (.bool false)) ∧ Below w.heap.size w V ∧ w.heap.size + 3 ≤ V.heap.size ∧ (∀ y ∈ pre.map (·.1), q y = false))
    (fun c pre V => c = .ret ∧ ∃ (pr : List Int) (y : Int), pre.map (·.1) = pr ++ [y] ∧ q y = true ∧ (∀ z ∈ pr, q z = false) ∧ (Boxed V (w.heap.size + 1) 3 (.int .i64 y) ∧ Boxed V (w.heap.size + 2) 4 (.bool true)) ∧ Below w.heap.size w V)
    ?own ?ownx ⟨K0.out, ⟨K1.out, K2.out⟩, HB.out, Nat.le_of_eq S4.out.symm, fun y hy => by cases hy⟩ ?a1 ?assign ?body ?done ?stop
  case own =>
    intro pre V V' row hs' hg hr
    have hne : ∀ k, k < w.heap.size + 3 → some k ≠ row := fun k hk e => by
      have := (hr k e.symm).1
      have := S4.out
      omega
    exact ⟨(hg.block _ (Array.getElem?_eq_some_iff.1 hs'.1).1 (hne _ (by omega))).trans hs'.1, ⟨hs'.2.1.1.kept hg (hne _ (by omega)), hs'.2.1.2.kept hg (hne _ (by omega))⟩, hs'.2.2.1.grown hg hs'.2.2.1.size (fun k hk => by have := (hr k hk).1; have := S4.out; omega), Nat.le_trans hs'.2.2.2.1 hg.size, hs'.2.2.2.2⟩
  case ownx =>
    intro c pre V V' row hs' hg hr
    have hne : ∀ k, k < w.heap.size + 3 → some k ≠ row := fun k hk e => by
      have := (hr k e.symm).1
      have := S4.out
      omega
    obtain ⟨e1, pr, y, e2, e3, e4, ⟨e5, e6⟩, e7⟩ := hs'
    exact ⟨e1, pr, y, e2, e3, e4, ⟨e5.kept hg (hne _ (by omega)), e6.kept hg (hne _ (by omega))⟩, e7.grown hg e7.size (fun k hk => by have := (hr k hk).1; have := S4.out; omega)⟩
  case assign =>
    intro l0 y V K hK
    gi_wp2
    exact hK
  case body =>
    rintro l0 pre ⟨y, hy⟩ V ⟨hd, ⟨hb1, hb2⟩, hbel, hsz, hq⟩ hlen
    have hyb := yrs_mem.1 hy
    have c1 : V.cell? ⟨w.heap.size, 0, none⟩ = some (.func (.func fn) #[rc] #[]) := by unfold World.cell?; rw [hd]; rfl
    have HCA := Lib.hid (HF.out y V hyb.1 hyb.2 hbel)
    have HI := Lib.hid (And.intro hd (And.intro hb1 (And.intro hb2 (And.intro hbel (And.intro hsz hq)))))
    clear hd hb1 hb2 hbel hsz hq
    gi_wp2
    refine ⟨trivial, ?_⟩
    rw [HC.out]
    refine ⟨(fun h => by cases h), ?_⟩
    refine (CallsIn.inRound l0 (callsIn_wide.2 HCA.out)).mono ?_
    rintro e V2 ⟨rfl, b⟩
    have h1' := HI.out.2.1
    have h2' := HI.out.2.2.1
    have r1 : Boxed V2 (w.heap.size + 1) 3 (.int .i64 0) := (b.block _ h1'.lt).trans h1'
    have r2 : Boxed V2 (w.heap.size + 2) 4 (.bool false) := (b.block _ h2'.lt).trans h2'
    cases hqy : q y with
    | true =>
      have HQ := Lib.hid hqy
      have HB2 := Lib.hid b
      have HR := Lib.hid (And.intro r1 r2)
      have d1 := r1.cell
      have d2 : V2.cell? ⟨w.heap.size + 1 + 1, 0, none⟩ = some (.bool false) := r2.cell
      have d3 := r1.frozen
      have d4 : V2.frozen? ⟨w.heap.size + 1 + 1, 0, none⟩ = false := r2.frozen
      clear hqy b r1 r2 h1' h2'
      gi_wp2
      refine ⟨(others_below HB2.out).trans ((KeepsOthers.setCell _ _ _).trans (KeepsOthers.setCell _ _ _)), rfl, pre.map (·.1), y, by rw [List.map_append]; rfl, HQ.out, HI.out.2.2.2.2.2, ⟨(HR.out.1.set _).other (by omega) _, (HR.out.2.other (by omega) _).set _⟩, ?_⟩
      exact ((HI.out.2.2.2.1.trans (HB2.out.mono HI.out.2.2.2.1.size)).setCell (p := ⟨w.heap.size + 1, 0, none⟩) (by show w.heap.size ≤ w.heap.size + 1; omega) _).setCell (p := ⟨w.heap.size + 1 + 1, 0, none⟩) (by show w.heap.size ≤ w.heap.size + 1 + 1; omega) _
    | false =>
      have HQ := Lib.hid hqy
      have HB2 := Lib.hid b
      have HR := Lib.hid (And.intro r1 r2)
      clear hqy b r1 r2 h1' h2'
      gi_wp2
      refine ⟨others_below HB2.out, KpC.of_below HB2.out (by have := HI.out.2.2.2.2.1; omega), (HB2.out.block _ (Array.getElem?_eq_some_iff.1 HI.out.1).1).trans HI.out.1, HR.out, HI.out.2.2.2.1.trans (HB2.out.mono HI.out.2.2.2.1.size), Nat.le_trans HI.out.2.2.2.2.1 HB2.out.size, ?_⟩
      intro z hz
      rw [List.map_append] at hz
      rcases List.mem_append.1 hz with hz | hz
      · exact HI.out.2.2.2.2.2 z hz
      · obtain rfl : z = y := by simpa using hz
        exact HQ.out
  case done =>
    rintro D xs V hD hS ⟨hd, ⟨hb1, hb2⟩, hbel, hsz, hq⟩ hK
    have HN := Lib.hid (fst1_none (q := q) (ys := yrs x t) (by rw [← hS]; exact hq))
    have d1 := hb1.cell
    have d2 : V.cell? ⟨w.heap.size + 1 + 1, 0, none⟩ = some (.bool false) := hb2.cell
    have d3 := hb1.frozen
    have d4 : V.frozen? ⟨w.heap.size + 1 + 1, 0, none⟩ = false := hb2.frozen
    have HQ := Lib.hid (And.intro hb1 (And.intro hb2 (And.intro hbel (And.intro hK hD))))
    clear hd hb1 hb2 hbel hsz hK hS hq hD
    gi_wp2
    have hK4 : ((V.setCell ⟨w.heap.size + 1, 0, none⟩ (.int .i64 0)).setCell ⟨w.heap.size + 1 + 1, 0, none⟩ (.bool false)).heap[D]? = some (.deferred (some [])) := ((KeepsOthers.setCell _ _ _).trans (KeepsOthers.setCell _ _ _)).same D _ HQ.out.2.2.2.1 rfl
    have hDz : w.heap.size + 3 ≤ D := by have h1 := HQ.out.2.2.2.2; have h2 := S4.out; omega
    have hbb : Below w.heap.size w ((V.setCell ⟨w.heap.size + 1, 0, none⟩ (.int .i64 0)).setCell ⟨w.heap.size + 1 + 1, 0, none⟩ (.bool false)) := (HQ.out.2.2.1.setCell (p := ⟨w.heap.size + 1, 0, none⟩) (by show w.heap.size ≤ w.heap.size + 1; omega) _).setCell (p := ⟨w.heap.size + 1 + 1, 0, none⟩) (by show w.heap.size ≤ w.heap.size + 1 + 1; omega) _
    refine ⟨by simp, .inl ⟨_, _, rfl, run_takeDeferred hK4, ?_⟩⟩
    refine ⟨_, resF _ w.heap.size 0 false _ ((World.putObj_heap_other (by omega)).trans ((HQ.out.1.set _).other (by omega) _)) ((World.putObj_heap_other (by omega)).trans ((HQ.out.2.1.other (by omega) _).set _)) rfl rfl, ?_⟩
    exact ⟨by rw [HN.out], hbb.trans (belowK_b (w := w) (Nat.le_refl _) _ D _ _ (by omega) hK4 rfl rfl)⟩
  case stop =>
    rintro D c pre V hD hS ⟨rfl, pr, y, e2, e3, e4, ⟨e5, e6⟩, e7⟩ hK
    have HN := Lib.hid (fst1_hit (q := q) (ys := yrs x t) (by rw [← e2]; exact hS) e4 e3)
    have HQ := Lib.hid (And.intro e5 (And.intro e6 (And.intro e7 (And.intro hK hD))))
    clear e2 e3 e4 e5 e6 e7 hK hS hD
    gi_wp2
    have hDz : w.heap.size + 3 ≤ D := by have h1 := HQ.out.2.2.2.2; have h2 := S4.out; omega
    refine ⟨by simp, .inl ⟨_, _, rfl, run_takeDeferred HQ.out.2.2.2.1, ?_⟩⟩
    refine ⟨_, resF _ w.heap.size y true _ ((World.putObj_heap_other (by omega)).trans HQ.out.1) ((World.putObj_heap_other (by omega)).trans HQ.out.2.1) rfl rfl, ?_⟩
    exact ⟨by rw [HN.out], HQ.out.2.2.1.trans (belowK_b (w := w) (Nat.le_refl _) _ D _ _ (by omega) HQ.out.2.2.2.1 rfl rfl)⟩
end Go.Proofs.Ytfnbjfmegikciaa.FtI
