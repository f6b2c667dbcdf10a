/- YearsWithin: the mathematics and the program. -/
import Derived.Test.YtlpcgchekhoieaaPtI
import Derived.Test.YtlpcgchekhoieaaOvI
namespace Go.Proofs.Ytlpcgchekhoieaa.YwI
open Go Go.RowKit Go.Shelf Pairs Rec Keep GivesI Cu CvM CvI PtM PtI CuG ShI Yr OvI
attribute [local go_sem] Oper.semAt_some
set_option linter.unusedVariables false
def inR (L : List Dt) (lo hi y : Int) : Bool := decide (lo ≤ (ptR L y).1.2.1) && decide ((ptR L y).1.2.1 ≤ hi)
noncomputable def ywP (L : List Dt) (lo hi : Int) : Bool × List Int := if cv L then (true, (yrs (pt L 0).1 (pt L (L.length - 1)).1).filter (inR L lo hi)) else (false, [])
theorem ywP_bad {L : List Dt} {lo hi : Int} (h : cv L = false) : ywP L lo hi = (false, []) := by unfold ywP; rw [h]; rfl
theorem ywP_yes {L : List Dt} {lo hi : Int} (h : cv L = true) : ywP L lo hi = (true, (yrs (pt L 0).1 (pt L (L.length - 1)).1).filter (inR L lo hi)) := by unfold ywP; rw [h]; rfl
def Says (f : FuncId) : Prop := ∀ (a : Option Addr) (n : Nat) (L : List Dt) (lo hi : Int) (w : World), n ≤ 1048576 → HoldsD w a n L → Calls Try.prog f #[.slice a n n, .int .i64 lo, .int .i64 hi] w (ResI (ywP L lo hi).1 (ywP L lo hi).2 w)
/-- A list that grows, told in a box. -/
structure Rv (V : World) (B e4 bq : Nat) (p : Option Addr) (d : Nat) (L : List Int) : Prop where
  box : Boxed V e4 32 (.slice p L.length d)
  own : V.ownsRow B 3 1 (.slice p L.length d) L.length (ints L)
  ne : (Value.slice p L.length d).ownBlock ≠ some e4
  nq : (Value.slice p L.length d).ownBlock ≠ some bq
theorem Rv.grown {V V' : World} {B e4 bq d : Nat} {p : Option Addr} {L : List Int} {row : Option Nat} (h : Rv V B e4 bq p d L) (hg : V.grownBy V' row) (hr : ∀ r, row = some r → ∃ o : Obj, V.heap[r]? = some o ∧ o.isCells = false) : Rv V' B e4 bq p d L := by
  refine ⟨h.box.kept hg (fun e => ?_), own_grown h.own hg (fun k hk e => ?_), h.ne, h.nq⟩
  · obtain ⟨o, ho, hc⟩ := hr e4 e.symm
    have := h.box
    unfold Boxed at this
    rw [this] at ho
    injection ho with ho
    rw [← ho] at hc
    cases hc
  · obtain ⟨o, ho, hc⟩ := hr k e.symm
    obtain ⟨o', ho', hc'⟩ := own_cells h.own k hk
    rw [ho] at ho'
    injection ho' with ho'
    rw [ho', hc'] at hc
    cases hc
theorem Rv.below {V V' : World} {B e4 bq d : Nat} {p : Option Addr} {L : List Int} (h : Rv V B e4 bq p d L) (b : Below V.heap.size V V') : Rv V' B e4 bq p d L :=
  ⟨(b.block _ h.box.lt).trans h.box, ownsRow_below h.own b, h.ne, h.nq⟩
/-- One number more. -/
theorem Rv.app {V : World} {B e4 bq d : Nat} {p : Option Addr} {L : List Int} (h : Rv V B e4 bq p d L) (hB : B ≤ V.heap.size) (hl : L.length < 1048576) (h5 : bq < V.heap.size) (z : Int) (ty : TypeId) :
    ∃ (g cap : Nat) (V' : World), (Builtin.append_ #[32, 32] ty #[.slice p L.length d, .slice (some ⟨V.heap.size, 0, none⟩) 1 1]).run Try.prog (V.alloc (.cells #[.int .i64 z] 3)) = .ok (.slice (some ⟨g, 0, none⟩) (L.length + 1) cap) V' ∧
      Boxed V' e4 32 (.slice p L.length d) ∧ Rv (V'.setCell ⟨e4, 0, none⟩ (.slice (some ⟨g, 0, none⟩) (L.length + 1) cap)) B e4 bq (some ⟨g, 0, none⟩) cap (L ++ [z]) ∧
      (V.alloc (.cells #[.int .i64 z] 3)).grownBy V' (Value.slice p L.length d).ownBlock := by
  obtain ⟨i0, hi, hy0, hy1, hy2⟩ := info_parts IntT.infoI
  have ha := h.below (below_alloc V (.cells #[.int .i64 z] 3))
  obtain ⟨g, cap, V', hr, hown, hgrow, hat, hlt⟩ := run_append_lies (P := Try.prog) (V.alloc (.cells #[.int .i64 z] 3)) 32 ty B 3 i0 (.int .i64 0) 1 8 Try.underlying32 hi hy0 hy1 hy2 rfl (by decide) (.slice p L.length d) L.length (ints L) ha.own ⟨V.heap.size, 0, none⟩ 1 1 [.int .i64 z] rfl (new_int V _ _) (by simp [Value.oneCell']) (by omega) (by unfold maxLen; omega) (by omega) (by simp; omega) (V.heap.size + 1) (by simp)
  have hbx : Boxed V' e4 32 (.slice p L.length d) := ha.box.kept hgrow (fun e => h.ne e.symm)
  have hg4 : g ≠ e4 := by
    rcases hat with e | e
    · intro e2
      exact h.ne (by rw [e, e2])
    · have := h.box.lt
      omega
  have hg5 : g ≠ bq := by
    rcases hat with e | e
    · intro e2
      exact h.nq (by rw [e, e2])
    · omega
  refine ⟨g, cap, V', hr, hbx, ⟨?_, ?_, ?_, ?_⟩, hgrow⟩
  · rw [show (L ++ [z]).length = L.length + 1 by simp]
    exact hbx.set _
  · rw [show (L ++ [z]).length = L.length + 1 by simp, show ints (L ++ [z]) = ints L ++ [.int .i64 z] by unfold ints; rw [List.map_append]; rfl]
    exact own_grown hown (grownBy_setCell' V' e4 _) (fun k hk e => by
      have : g = k := by simpa [Value.ownBlock] using hk
      injection e with e
      omega)
  · intro e
    have : g = e4 := by simpa [Value.ownBlock] using e
    omega
  · intro e
    have : g = bq := by simpa [Value.ownBlock] using e
    omega
theorem wpListIn_app_run {F : Fence} {n : Nat} {P : Program} {w w' : World} {ops : Array Oper} {rest : List Oper} {o : Oper} {a : Act} {Q : Exit → Act → World → Prop}
    (hg : o.guard = none) (s x : Operand) (t : TypeId) (hop : o.op = Op.call { callee := Callee.builtin Builtin.append, args := #[s, x], argTypes := #[t, t] })
    (v1 v2 v' : Value) (hs : a.eval s = v1) (hx : a.eval x = v2) (hrun : (Builtin.append_ #[t, t] o.type #[v1, v2]).run P w = .ok v' w')
    (hK : wpListIn F n P ops Q rest (a.put o.dst v') w') : wpListIn F n P ops Q (o :: rest) a w := by
  refine wpListIn_plain hg fun K hK' => ?_
  unfold Oper.wpIn
  refine ⟨?_, ?_⟩
  · simp [Oper.about, hop, resolve, Target.leads, Sem.run_pure]
  · rw [Oper.semAt_plain F _ _ (by rw [hop]; intro c hc'; cases hc')]
    simp [execOp, hop, resolve, invoke, builtin, hs, hx, hrun, Result.andThen]
    exact hK' _ _ hK
/-- What lies of a round's surroundings. -/
structure En3 (V : World) (e : Nat) (s : Value) (lo hi : Int) : Prop where
  c0 : V.heap[e]? = some (.cells #[s] 25 (0, 0))
  c1 : V.heap[e + 1]? = some (.cells #[.int .i64 lo] 3 (0, 0))
  c2 : V.heap[e + 2]? = some (.cells #[.int .i64 hi] 3 (0, 0))
  sz : e + 5 ≤ V.heap.size
theorem En3.grown {V V' : World} {e : Nat} {s : Value} {lo hi : Int} {row : Option Nat} (h : En3 V e s lo hi) (hg : V.grownBy V' row) (hr : ∀ r, row = some r → e + 3 ≤ r) : En3 V' e s lo hi := by
  have hs := h.sz
  have hne : ∀ k, k < e + 3 → some k ≠ row := fun k hk e2 => by have := hr k e2.symm; omega
  exact ⟨(hg.block _ (by omega) (hne _ (by omega))).trans h.c0, (hg.block _ (by omega) (hne _ (by omega))).trans h.c1, (hg.block _ (by omega) (hne _ (by omega))).trans h.c2, Nat.le_trans hs hg.size⟩
theorem En3.set {V : World} {e : Nat} {s : Value} {lo hi : Int} (h : En3 V e s lo hi) (u : Value) : En3 (V.setCell ⟨e + 4, 0, none⟩ u) e s lo hi :=
  ⟨(Below.heap_setCell _ _ _ _ (by show e ≠ e + 4; omega)).trans h.c0, (Below.heap_setCell _ _ _ _ (by show e + 1 ≠ e + 4; omega)).trans h.c1, (Below.heap_setCell _ _ _ _ (by show e + 2 ≠ e + 4; omega)).trans h.c2, by simpa [World.setCell] using h.sz⟩
theorem En3.below {V V' : World} {e : Nat} {s : Value} {lo hi : Int} (h : En3 V e s lo hi) (b : Below V.heap.size V V') : En3 V' e s lo hi := by
  have hs := h.sz
  exact ⟨(b.block _ (by omega)).trans h.c0, (b.block _ (by omega)).trans h.c1, (b.block _ (by omega)).trans h.c2, Nat.le_trans hs b.size⟩
/-- The years that are in the list so far. -/
def fl (L : List Dt) (lo hi : Int) {x t : Int} (pre : List (Yx x t)) : List Int := (pre.map (·.1)).filter (inR L lo hi)
theorem fl_app (L : List Dt) (lo hi : Int) {x t : Int} (pre : List (Yx x t)) (y : Yx x t) : fl L lo hi (pre ++ [y]) = fl L lo hi pre ++ (if inR L lo hi y.1 = true then [y.1] else []) := by
  unfold fl
  rw [List.map_append, List.filter_append]
  congr 1
  show List.filter (inR L lo hi) [y.1] = _
  rw [List.filter_cons]
  rfl
theorem fl_len (L : List Dt) (lo hi : Int) {x t : Int} (pre : List (Yx x t)) : (fl L lo hi pre).length ≤ pre.length := by
  unfold fl
  have h1 := List.length_filter_le (inR L lo hi) (pre.map (·.1))
  rw [List.length_map] at h1
  exact h1
theorem fl_done {L : List Dt} {lo hi x t : Int} {xs : List (Yx x t)} (h : xs.map (·.1) = yrs x t) : fl L lo hi xs = (yrs x t).filter (inR L lo hi) := by unfold fl; rw [h]
set_option maxRecDepth 100000 in
set_option maxHeartbeats 8000000 in
theorem impl_any : YwI.Says 22 := by
  intro a n L lo hi w hn h
  obtain ⟨hs, k0, k1, k2, k3, k4, hb0⟩ := five w (.cells #[.slice a n n] 25) (.cells #[.int .i64 lo] 3) (.cells #[.int .i64 hi] 3) (.cells #[] 3) (.cells #[.slice (some ⟨w.heap.size + 1 + 1 + 1, 0, none⟩) 0 0] 32)
  have f0 : (((((w.alloc (.cells #[.slice a n n] 25)).alloc (.cells #[.int .i64 lo] 3)).alloc (.cells #[.int .i64 hi] 3)).alloc (.cells #[] 3)).alloc (.cells #[.slice (some ⟨w.heap.size + 1 + 1 + 1, 0, none⟩) 0 0] 32)).cell? ⟨w.heap.size, 0, none⟩ = some (.slice a n n) := by unfold World.cell?; rw [k0]; rfl
  have HL := Lib.hid h.1
  have H0 := Lib.hid h
  have HV := Lib.hid (fun W b => valid_any a n n L W hn (Nat.le_refl _) (h.below (w' := W) b))
  obtain ⟨r, hr⟩ : ∃ r, r = ywP L lo hi := ⟨_, rfl⟩
  rw [← hr]
  have HR := Lib.hid hr
  clear hr h
  refine (callsIn_wide (n := 8)).1 ?_
  refine callsIn_of_wp_marks Try.func22 rfl trivial ?_ rfl
  simp only [Try.ntmps22, List.size_toArray, List.length_cons, List.length_nil, Nat.reduceAdd, Nat.reduceSub, Array.replicate_succ, Array.replicate_zero, List.push_toArray, List.append_toArray, List.nil_append, List.cons_append]
  gi_wp2
  refine ⟨trivial, ?_⟩
  refine (callsIn_wide.2 (HV.out _ hb0)).mono ?_
  rintro e w1 ⟨rfl, b1⟩
  generalize ((((w.alloc (.cells #[.slice a n n] 25)).alloc (.cells #[.int .i64 lo] 3)).alloc (.cells #[.int .i64 hi] 3)).alloc (.cells #[] 3)).alloc (.cells #[.slice (some ⟨w.heap.size + 1 + 1 + 1, 0, none⟩) 0 0] 32) = W5 at *
  have hz1 : w.heap.size + 5 ≤ w1.heap.size := by have := b1.size; omega
  have HEN : Hid (En3 w1 w.heap.size (.slice a n n) lo hi) := ⟨(b1.block _ (by omega)).trans k0, (b1.block _ (by omega)).trans k1, (b1.block _ (by omega)).trans k2, hz1⟩
  have HB3 := Lib.hid ((b1.block _ (by omega)).trans k3)
  have HB4 := Lib.hid ((b1.block _ (by omega)).trans k4)
  have HB := Lib.hid (hb0.trans (b1.mono hb0.size))
  have g4 : w1.cell? ⟨w.heap.size + 1 + 1 + 1 + 1, 0, none⟩ = some (.slice (some ⟨w.heap.size + 1 + 1 + 1, 0, none⟩) 0 0) := by unfold World.cell?; rw [show w.heap.size + 1 + 1 + 1 + 1 = w.heap.size + 4 from rfl, HB4.out]; rfl
  have g0 : w1.cell? ⟨w.heap.size, 0, none⟩ = some (.slice a n n) := by unfold World.cell?; rw [HEN.out.c0]; rfl
  clear k0 k1 k2 k3 k4 f0 hb0 b1 hs
  cases hu : cv L with
  | false =>
    have HF := Lib.hid (HR.out.trans (ywP_bad hu))
    clear hu
    gi_wp2
    refine ⟨_, results_tmp2 rfl _ _ _, ?_⟩
    rw [HF.out]
    exact ⟨_, 0, 0, rfl, ⟨rfl, .inr ⟨w.heap.size + 3, 0, #[], rfl, by omega, HB3.out, Nat.le_refl _, by unfold maxLen; omega, rfl, rfl⟩⟩, by omega, HB.out⟩
  | true =>
    have O := Lib.hid (cv_iff.1 hu)
    have HF := Lib.hid (HR.out.trans (ywP_yes hu))
    have hn1 : 1 ≤ n := by have := O.out.lo; rw [HL.out] at this; omega
    have HYC := Lib.hid (CvM.years_any a n n L w1 hn hn1 (H0.out.below HB.out))
    rw [HL.out] at HF
    have hya := (O.out.p (i := 0) (by rw [HL.out]; omega)).y
    have hyb := (O.out.p (i := n - 1) (by rw [HL.out]; omega)).y
    have hsp := O.out.span
    rw [HL.out] at hsp
    generalize (pt L 0).1 = x at *
    generalize (pt L (n - 1)).1 = t at *
    clear hu HR
    gi_wp2
    refine ⟨trivial, ?_⟩
    refine (callsIn_wide.2 HYC.out).mono ?_
    rintro e w2 ⟨rfl, b2⟩
    have HEN2 := Lib.hid (HEN.out.below b2)
    have HB32 := Lib.hid ((b2.block _ (by omega)).trans HB3.out)
    have HB42 := Lib.hid ((b2.block _ (by omega)).trans HB4.out)
    have HBB2 := Lib.hid (HB.out.trans (b2.mono HB.out.size))
    have hz2 : w.heap.size + 5 ≤ w2.heap.size := Nat.le_trans hz1 b2.size
    clear b2 HEN HB3 HB4 HB g0 g4 hz1
    gi_wp2
    refine ⟨trivial, ?_⟩
    refine (callsIn_wide.2 (yearsOf_b x t _)).mono ?_
    rintro e w3 ⟨rfl, b3, y0, y1⟩
    obtain ⟨bq, hbq⟩ : ∃ bq, w2.heap.size = bq := ⟨_, rfl⟩
    rw [hbq] at y0 y1 hz2
    have hqs : bq < w3.heap.size := World.block_lt_of_cell? w3 _ y0
    have HEN3 := Lib.hid (HEN2.out.below b3)
    have HRV : Hid (Rv w3 (w.heap.size + 3) (w.heap.size + 4) bq (some ⟨w.heap.size + 3, 0, none⟩) 0 []) :=
      ⟨(b3.block _ (by omega)).trans HB42.out, ⟨rfl, .inr ⟨w.heap.size + 3, 0, #[], rfl, Nat.le_refl _, (b3.block _ (by omega)).trans HB32.out, Nat.le_refl _, by unfold maxLen; omega, rfl, rfl⟩⟩, by simp [Value.ownBlock], by simp [Value.ownBlock]; omega⟩
    have HB := Lib.hid (HBB2.out.trans (b3.mono HBB2.out.size))
    have HQ := Lib.hid hbq
    have HQS := Lib.hid (And.intro hz2 hqs)
    clear b3 HEN2 HB32 HB42 HBB2 hbq
    gi_wp2
    refine wpIn_rangeFunc_ownF (α := Yx x t) rfl (by decide) (gf := 101) (lb := #[.pointer (some ⟨bq, 0, none⟩)]) ?_ trivial (enters_of Try.func101 (by kernel_rfl) rfl)
      (yr_stops 7 (by omega) x t (by omega) (by omega) bq w3 y0 y1) (fun h k => h.trans k) (fun W l0 o o' hl ho hc _ => kpC_b W l0 o o' hl (by omega)) (Below.refl _ _) (fun _ => rfl)
      (fun pre V => En3 V w.heap.size (.slice a n n) lo hi ∧ (∃ p d, Rv V (w.heap.size + 3) (w.heap.size + 4) bq p d (fl L lo hi pre)) ∧ Below w.heap.size w V ∧ bq < V.heap.size)
      (fun _ _ _ => False)
      ?own (fun _ _ _ _ _ hs _ _ => hs) ⟨HEN3.out, ⟨_, _, HRV.out⟩, HB.out, hqs⟩ ?a1 ?assign ?body ?done ?stop
    · show Value.func (.func 101) #[] #[.pointer (some ⟨w2.heap.size, 0, none⟩)] = _
      rw [HQ.out]
    case own =>
      intro pre V V' row hs' hgw hr
      obtain ⟨h1, ⟨p, d, h2⟩, h3, h4⟩ := hs'
      exact ⟨h1.grown hgw (fun r e => by have := (hr r e).1; have := HQS.out; omega), ⟨p, d, h2.grown hgw (fun r e => (hr r e).2)⟩, h3.grown hgw h3.size (fun k hk => by have := (hr k hk).1; have := HQS.out; omega), Nat.lt_of_lt_of_le h4 hgw.size⟩
    case assign =>
      intro l0 y V K hK
      gi_wp2
      exact hK
    case stop =>
      rintro D c pre V _ _ h _
      exact h.elim
    case body =>
      rintro l0 pre ⟨y, hy⟩ V ⟨hen, ⟨p, d, hrw⟩, hbel, hqv⟩ hlen
      have hyb := yrs_mem.1 hy
      rw [yrs_len] at hlen
      have hll : (fl L lo hi pre).length < 1048576 := by
        have h1 := fl_len L lo hi pre
        omega
      obtain ⟨X, hX⟩ : ∃ X, X = fl L lo hi pre := ⟨_, rfl⟩
      rw [← hX] at hrw hll
      have HXN := Lib.hid (fl_app L lo hi pre ⟨y, hy⟩)
      rw [← hX] at HXN
      clear hX
      have HCA := Lib.hid (PtI.at_any a n L y V hn O.out (H0.out.below hbel))
      unfold AtR at HCA
      have HIN : Hid (inR L lo hi y = (decide (lo ≤ (ptR L y).1.2.1) && decide ((ptR L y).1.2.1 ≤ hi))) := rfl
      generalize ptR L y = q at *
      obtain ⟨⟨q1, q2, q3⟩, ok⟩ := q
      simp only at HCA HIN
      have c0 : V.cell? ⟨w.heap.size, 0, none⟩ = some (.slice a n n) := by unfold World.cell?; rw [hen.c0]; rfl
      have HI := Lib.hid (And.intro hen (And.intro hrw (And.intro hbel hqv)))
      have HLL := Lib.hid hll
      clear hen hrw hbel hll hqv
      gi_wp2
      refine ⟨trivial, ?_⟩
      refine (CallsIn.inRound l0 (callsIn_wide.2 HCA.out)).mono ?_
      rintro e V2 ⟨rfl, b2⟩
      have ba := below_alloc V2 (.cells #[.int .i64 q1, .int .i64 q2, .int .i64 q3] 75)
      obtain ⟨u0, u1, u2⟩ := box3 V2 (.int .i64 q1) (.int .i64 q2) (.int .i64 q3) 75
      have b03 := b2.trans (ba.mono b2.size)
      have n3 := HI.out.1.below b03
      have r3 := HI.out.2.1.below b03
      have d1 : (V2.alloc (.cells #[.int .i64 q1, .int .i64 q2, .int .i64 q3] 75)).cell? ⟨w.heap.size + 1, 0, none⟩ = some (.int .i64 lo) := by unfold World.cell?; rw [n3.c1]; rfl
      have d2 : (V2.alloc (.cells #[.int .i64 q1, .int .i64 q2, .int .i64 q3] 75)).cell? ⟨w.heap.size + 1 + 1, 0, none⟩ = some (.int .i64 hi) := by unfold World.cell?; rw [show w.heap.size + 1 + 1 = w.heap.size + 2 from rfl, n3.c2]; rfl
      have d8 : (V2.alloc (.cells #[.int .i64 q1, .int .i64 q2, .int .i64 q3] 75)).cell? ⟨w.heap.size + 1 + 1 + 1 + 1, 0, none⟩ = some (.slice p X.length d) := r3.box.cell
      have HI3 := Lib.hid (And.intro n3 (And.intro r3 (And.intro (HI.out.2.2.1.trans (b03.mono HI.out.2.2.1.size)) (And.intro (Nat.lt_of_lt_of_le HI.out.2.2.2 b03.size) b03))))
      clear n3 r3 b2 ba b03 c0 HCA
      by_cases hq1 : lo ≤ q2
      · by_cases hq2 : q2 ≤ hi
        · have HT : Hid (inR L lo hi y = true) := HIN.out.trans (by simp [hq1, hq2])
          have HXN2 : Hid (fl L lo hi (pre ++ [(⟨y, hy⟩ : Yx x t)]) = X ++ [y]) := HXN.out.trans (by rw [if_pos HT.out])
          obtain ⟨V3, hV3⟩ : ∃ V3, V2.alloc (.cells #[.int .i64 q1, .int .i64 q2, .int .i64 q3] 75) = V3 := ⟨_, rfl⟩
          have HV3 := Lib.hid hV3
          rw [hV3] at HI3
          obtain ⟨g9, cap9, V9, hr9, hb9, hrw9, hgrow9⟩ := HI3.out.2.1.app (by have h1 := HI3.out.1.sz; omega) HLL.out HI3.out.2.2.2.1 y 32
          have e6 : V9.cell? ⟨w.heap.size + 1 + 1 + 1 + 1, 0, none⟩ = some (.slice p X.length d) := hb9.cell
          have e7 : V9.frozen? ⟨w.heap.size + 1 + 1 + 1 + 1, 0, none⟩ = false := hb9.frozen
          have HZ := Lib.hid (And.intro hrw9 hgrow9)
          rw [← hV3] at hr9
          have d8a : ((V2.alloc (.cells #[.int .i64 q1, .int .i64 q2, .int .i64 q3] 75)).alloc (.cells #[.int .i64 y] 3)).heap.size = V2.heap.size + 2 := by simp
          rw [show (V2.alloc (.cells #[.int .i64 q1, .int .i64 q2, .int .i64 q3] 75)).heap.size = V2.heap.size + 1 by simp] at hr9
          clear hrw9 hgrow9 hb9 HXN HIN HT hV3 d8a
          gi_wp2_with (gi_at_builtin; refine wpListIn_app_run rfl _ _ 32 rfl _ _ _ rfl rfl hr9 ?_)
          obtain ⟨hrw9, hgrow9⟩ := HZ.out
          obtain ⟨n3, r3, hb3, hq3, b03⟩ := HI3.out
          have hob := fun k hk => (Di.own_bd r3.own k hk).1
          have ba := below_alloc V3 (.cells #[.int .i64 y] 3)
          have n9 := (n3.below ba).grown hgrow9 hob
          have hbel9 : Below w.heap.size w V9 := (hb3.trans (ba.mono hb3.size)).grown hgrow9 (by have h1 := hb3.size; simp; omega) (fun k hk => by have := hob k hk; omega)
          have hs34 : (V3.alloc (.cells #[.int .i64 y] 3)).heap.size = V3.heap.size + 1 := by simp
          have hs9 : (V9.setCell ⟨w.heap.size + 1 + 1 + 1 + 1, 0, none⟩ (.slice (some ⟨g9, 0, none⟩) (X.length + 1) cap9)).heap.size = V9.heap.size := by simp [World.setCell]
          have h3 := hgrow9.size
          have hqV := HI.out.2.2.2
          have hVV := b03.size
          refine ⟨(((others_below b03).trans (others_below ba)).trans (others_grown hgrow9 fun k hk => own_cells (r3.below ba).own k hk)).trans (KeepsOthers.setCell _ _ _), ⟨by omega, ?_⟩, ?_⟩
          · refine (Below.heap_setCell _ _ _ _ (by show bq ≠ w.heap.size + 4; have := HQS.out; omega)).trans ?_
            refine (hgrow9.block _ (by omega) (fun e => r3.nq e.symm)).trans ?_
            exact (ba.block _ (by omega)).trans (b03.block _ hqV)
          · refine ⟨n9.set _, ⟨_, _, by rw [HXN2.out]; exact hrw9⟩, hbel9.setCell (p := ⟨w.heap.size + 4, 0, none⟩) (by show w.heap.size ≤ w.heap.size + 4; omega) _, by omega⟩
        · have HT : Hid (inR L lo hi y = false) := HIN.out.trans (by simp [hq2])
          have HXN2 : Hid (fl L lo hi (pre ++ [(⟨y, hy⟩ : Yx x t)]) = X) := HXN.out.trans (by rw [HT.out]; simp)
          clear HXN HIN HT
          gi_wp2
          obtain ⟨n3, r3, hb3, hq3, b03⟩ := HI3.out
          exact ⟨others_below b03, KpC.of_below b03 HI.out.2.2.2, n3, ⟨p, d, by rw [HXN2.out]; exact r3⟩, hb3, hq3⟩
      · have HT : Hid (inR L lo hi y = false) := HIN.out.trans (by simp [hq1])
        have HXN2 : Hid (fl L lo hi (pre ++ [(⟨y, hy⟩ : Yx x t)]) = X) := HXN.out.trans (by rw [HT.out]; simp)
        clear HXN HIN HT
        gi_wp2
        obtain ⟨n3, r3, hb3, hq3, b03⟩ := HI3.out
        exact ⟨others_below b03, KpC.of_below b03 HI.out.2.2.2, n3, ⟨p, d, by rw [HXN2.out]; exact r3⟩, hb3, hq3⟩
    case done =>
      rintro D xs V hD hS ⟨hen, ⟨p, d, hrw⟩, hbel, hqv⟩ hK
      rw [fl_done hS] at hrw
      obtain ⟨X, hX⟩ : ∃ X, X = (yrs x t).filter (inR L lo hi) := ⟨_, rfl⟩
      rw [← hX] at hrw
      rw [← hX] at HF
      have hll : X.length ≤ 1048576 := by
        have h1 := List.length_filter_le (inR L lo hi) (yrs x t)
        rw [← hX, yrs_len] at h1
        omega
      have c6 : V.cell? ⟨w.heap.size + 1 + 1 + 1 + 1, 0, none⟩ = some (.slice p X.length d) := hrw.box.cell
      have HI := Lib.hid (And.intro hen (And.intro hrw (And.intro hbel (And.intro hK hD))))
      have HLL := Lib.hid hll
      clear hen hrw hbel hK hS hD hX hll
      gi_wp2
      obtain ⟨hen, hrw, hbel, hK, hD⟩ := HI.out
      refine ⟨by simp, .inl ⟨_, _, rfl, run_takeDeferred hK, ?_⟩⟩
      refine ⟨_, results_tmp2 rfl _ _ _, ?_⟩
      rw [HF.out]
      exact ⟨p, X.length, d, rfl, Keep.ownsRow_base (ownsRow_putObj hrw.own _ hK rfl) (by omega), HLL.out, hbel.trans (belowK_b (w := w) (Nat.le_refl _) _ D _ _ (by have := HQS.out; omega) hK rfl rfl)⟩
end Go.Proofs.Ytlpcgchekhoieaa.YwI
