/- Curves, the mathematics: what is valid; a point's test in the program and in the model. -/
import Derived.Test.YtlpcgchekhoieaaFuncT
import Derived.Test.YtlpcgchekhoieaaMsM
import Derived.Lib.QuietBelow
import Derived.Test.YtlpcgchekhoieaaQsw
import Derived.Test.YtlpcgchekhoieaaShI
namespace Go.Proofs.Ytlpcgchekhoieaa.CvM
open Go Go.RowKit Pairs Rec Keep GivesI Cu Qsw
set_option linter.unusedVariables false
def pt (L : List Dt) (i : Nat) : Dt := L.getD i (0, 0, 0)
theorem pt_of {L : List Dt} {i : Nat} {q : Dt} (h : L[i]? = some q) : pt L i = q := by unfold pt; rw [List.getD_eq_getElem?_getD, h]; rfl
theorem pt_mem {L : List Dt} {i : Nat} (h : i < L.length) : pt L i ∈ L := by
  rw [pt_of (List.getElem?_eq_getElem h)]
  exact List.getElem_mem h
def okP (q : Dt) : Bool := DvM.isY q.1 && decide (0 ≤ q.2.1 ∧ q.2.1 ≤ 60000) && decide (0 ≤ q.2.2 ∧ q.2.2 ≤ 1000)
structure OkP (q : Dt) : Prop where
  y : -20000 ≤ q.1 ∧ q.1 ≤ 2100
  a : 0 ≤ q.2.1 ∧ q.2.1 ≤ 60000
  e : 0 ≤ q.2.2 ∧ q.2.2 ≤ 1000
theorem okP_iff {q : Dt} : okP q = true ↔ OkP q := by
  unfold okP DvM.isY
  rw [Bool.and_eq_true, Bool.and_eq_true, decide_eq_true_iff, decide_eq_true_iff, decide_eq_true_iff]
  exact ⟨fun ⟨⟨a, b⟩, c⟩ => ⟨a, b, c⟩, fun ⟨a, b, c⟩ => ⟨⟨a, b⟩, c⟩⟩
structure OkC (L : List Dt) : Prop where
  lo : 2 ≤ L.length
  len : L.length ≤ 40
  all : ∀ q ∈ L, okP q = true
  st : ∀ i, i + 1 < L.length → 1 ≤ (pt L (i + 1)).1 - (pt L i).1 ∧ (pt L (i + 1)).1 - (pt L i).1 ≤ 50
  span : (pt L (L.length - 1)).1 - (pt L 0).1 < 400
open Classical in
/-- What is a curve. -/
noncomputable def cv (L : List Dt) : Bool := if OkC L then true else false
open Classical in
theorem cv_iff {L : List Dt} : cv L = true ↔ OkC L := by
  unfold cv
  by_cases h : OkC L
  · rw [if_pos h]; exact ⟨fun _ => h, fun _ => rfl⟩
  · rw [if_neg h]; exact ⟨fun e => (by cases e), fun e => absurd e h⟩
theorem cv_not {L : List Dt} (h : OkC L → False) : cv L = false := by
  rw [Bool.eq_false_iff]
  exact fun e => h (cv_iff.1 e)
theorem OkC.p {L : List Dt} (o : OkC L) {i : Nat} (h : i < L.length) : OkP (pt L i) := okP_iff.1 (o.all _ (pt_mem h))
theorem any_not (L : List Dt) : (L.any fun q => !okP q) = !L.all okP := by rw [← List.not_all_eq_any_not]
/-- The first k points and the steps between them are in order. -/
structure Upto (L : List Dt) (k : Nat) : Prop where
  all : ∀ i, i < k → okP (pt L i) = true
  st : ∀ i, i + 1 < k → 1 ≤ (pt L (i + 1)).1 - (pt L i).1 ∧ (pt L (i + 1)).1 - (pt L i).1 ≤ 50
theorem Upto.start (L : List Dt) : Upto L 0 := ⟨fun i h => absurd h (by omega), fun i h => absurd h (by omega)⟩
theorem Upto.first {L : List Dt} (h : okP (pt L 0) = true) : Upto L 1 := ⟨fun i hi => (by obtain rfl : i = 0 := (by omega); exact h), fun i h => absurd h (by omega)⟩
theorem Upto.next {L : List Dt} {k : Nat} (u : Upto L (k + 1)) (h : okP (pt L (k + 1)) = true) (hs : 1 ≤ (pt L (k + 1)).1 - (pt L k).1 ∧ (pt L (k + 1)).1 - (pt L k).1 ≤ 50) : Upto L (k + 2) := by
  refine ⟨fun i hi => ?_, fun i hi => ?_⟩
  · by_cases e : i = k + 1
    · subst e; exact h
    · exact u.all i (by omega)
  · by_cases e : i = k
    · subst e; exact hs
    · exact u.st i (by omega)
theorem Upto.is {L : List Dt} (u : Upto L L.length) (h1 : 2 ≤ L.length) (h2 : L.length ≤ 40) : cv L = decide ((pt L (L.length - 1)).1 - (pt L 0).1 < 400) := by
  by_cases h : (pt L (L.length - 1)).1 - (pt L 0).1 < 400
  · rw [decide_eq_true h]
    refine cv_iff.2 ⟨h1, h2, fun q hq => ?_, u.st, h⟩
    obtain ⟨i, hi, he⟩ := List.getElem_of_mem hq
    have := u.all i hi
    rw [pt_of (List.getElem?_eq_getElem hi), he] at this
    exact this
  · rw [decide_eq_false h]
    exact cv_not fun o => h o.span
theorem box3 (w : World) (u v x : Value) (T : TypeId) : (w.alloc (.cells #[u, v, x] T)).cell? ⟨w.heap.size, 0, none⟩ = some u ∧ (w.alloc (.cells #[u, v, x] T)).cell? ⟨w.heap.size, 1, none⟩ = some v ∧ (w.alloc (.cells #[u, v, x] T)).cell? ⟨w.heap.size, 2, none⟩ = some x := by
  refine ⟨?_, ?_, ?_⟩ <;> rw [World.cell?_alloc_mark] <;> rfl
theorem isPoint_any (x y z : Int) (w : World) :
    Calls Try.prog 59 #[.agg #[.int .i64 x, .int .i64 y, .int .i64 z]] w fun e w' => e = .returned (.bool (okP (x, y, z))) ∧ Below w.heap.size w w' := by
  have hb := Lib.hid (below_alloc w (.cells #[.int .i64 x, .int .i64 y, .int .i64 z] 75))
  obtain ⟨f1, f2, f3⟩ := box3 w (.int .i64 x) (.int .i64 y) (.int .i64 z) 75
  obtain ⟨r, hr⟩ : ∃ r, r = okP (x, y, z) := ⟨_, rfl⟩
  rw [← hr]
  have HR : Hid (r = (DvM.isY x && decide (0 ≤ y ∧ y ≤ 60000) && decide (0 ≤ z ∧ z ≤ 1000))) := hr
  clear hr
  go_enter Try.func59, Try.ntmps59
  go_wp2_with fail
  generalize w.alloc (.cells #[.int .i64 x, .int .i64 y, .int .i64 z] 75) = W at *
  refine (DvG.isYear_any x W).mono ?_
  rintro e w1 ⟨rfl, rfl⟩
  generalize DvM.isY x = u at *
  cases u with
  | true =>
    go_wp2_with fail
    refine (MsM.isAge_any y _).mono ?_
    rintro e w2 ⟨rfl, rfl⟩
    generalize decide (0 ≤ y ∧ y ≤ 60000) = v at *
    cases v with
    | true =>
      by_cases h1 : 0 ≤ z
      · by_cases h2 : z ≤ 1000
        · rw [decide_eq_true (And.intro h1 h2)] at HR
          go_wp2_with fail
          go_ret
          exact ⟨by rw [HR.out]; rfl, hb.out⟩
        · rw [decide_eq_false (fun h : 0 ≤ z ∧ z ≤ 1000 => h2 h.2)] at HR
          have hd2 : decide (z ≤ 1000) = false := decide_eq_false h2
          go_wp2_with fail
          go_ret
          exact ⟨by rw [HR.out]; rfl, hb.out⟩
      · rw [decide_eq_false (fun h : 0 ≤ z ∧ z ≤ 1000 => h1 h.1)] at HR
        go_wp2_with fail
        go_ret
        exact ⟨by rw [HR.out]; rfl, hb.out⟩
    | false =>
      go_wp2_with fail
      go_ret
      exact ⟨by rw [HR.out]; rfl, hb.out⟩
  | false =>
    go_wp2_with fail
    go_ret
    exact ⟨by rw [HR.out]; rfl, hb.out⟩
theorem clo_any (x y z : Int) (w : World) :
    Calls Try.prog 58 #[.agg #[.int .i64 x, .int .i64 y, .int .i64 z]] w fun e w' => e = .returned (.bool (!okP (x, y, z))) ∧ Below w.heap.size w w' := by
  have hb := Lib.hid (below_alloc w (.cells #[.int .i64 x, .int .i64 y, .int .i64 z] 75))
  obtain ⟨f1, f2, f3⟩ := box3 w (.int .i64 x) (.int .i64 y) (.int .i64 z) 75
  have HM := Lib.hid (isPoint_any x y z)
  generalize okP (x, y, z) = r at *
  go_enter Try.func58, Try.ntmps58
  go_wp2_with fail
  generalize w.alloc (.cells #[.int .i64 x, .int .i64 y, .int .i64 z] 75) = W at *
  refine (HM.out W).mono ?_
  rintro e w1 ⟨rfl, b⟩
  have HB := Lib.hid (hb.out.trans (b.mono hb.out.size))
  clear b
  cases r with
  | true =>
    go_wp2_with fail
    go_ret
    exact ⟨rfl, HB.out⟩
  | false =>
    go_wp2_with fail
    go_ret
    exact ⟨rfl, HB.out⟩
set_option maxRecDepth 100000 in
set_option maxHeartbeats 4000000 in
theorem years_any (a : Option Addr) (n c : Nat) (L : List Dt) (w : World) (hn : n ≤ 1048576) (hn1 : 1 ≤ n) (h : HoldsD w a n L) :
    Calls Try.prog 61 #[.slice a n c] w fun e w' => e = .returned (.agg #[.int .i64 (pt L 0).1, .int .i64 (pt L (n - 1)).1]) ∧ Below w.heap.size w w' := by
  have hb0 := below_alloc w (.cells #[.int .i64 0, .int .i64 0] 81)
  have f1 := box_first w (.int .i64 0) (.int .i64 0) 81
  have f2 := box_second w (.int .i64 0) (.int .i64 0) 81
  have H := Lib.hid (h.below hb0)
  have HB := Lib.hid hb0
  clear h hb0
  obtain ⟨b, off, x, y, z, rfl, hx, e1, e2, e3⟩ := H.out.at 0 (by omega)
  obtain ⟨b', off', x', y', z', hbb, hx', e1', e2', e3'⟩ := H.out.at (n - 1) (by omega)
  injection hbb with hbb
  injection hbb with hbb hoo
  subst hbb hoo
  rw [pt_of hx, pt_of hx']
  rw [Nat.zero_mul, Nat.add_zero] at e1
  have hnn : (n : Int) - 1 = ((n - 1 : Nat) : Int) := by omega
  obtain ⟨m, hm⟩ : ∃ m, n - 1 = m := ⟨_, rfl⟩
  have hmn : m < n := by omega
  have hmi : (m : Int) < (n : Int) := by omega
  have hm0 : (0 : Int) ≤ (m : Int) := by omega
  have hwm : wrap64 ((n : Int) - 1) = (m : Int) := by unfold wrap64; omega
  have hwm' : IntKind.i64.wrap ((n : Int) - 1) = (m : Int) := by rw [IntKind.wrap_i64]; omega
  have hn0 : (0 : Int) < (n : Int) := by omega
  rw [hm] at e1' hnn
  have BX := Lib.hid (ShI.bx_new w (.int .i64 0) (.int .i64 0) 81)
  clear hm hx hx' e2 e3 e2' e3' f1 f2
  go_enter Try.func61, Try.ntmps61
  go_wp2_with fail
  generalize w.alloc (.cells #[.int .i64 0, .int .i64 0] 81) = W at *
  have k1 := cell_regrown e1
  have k2 := cell_regrown e1'
  refine region_at_p 12 (by kernel_rfl) (by kernel_rfl) ?_
  simp only [List.take_succ_cons, List.take_zero, List.drop_succ_cons, List.drop_zero]
  repeat (go_big_quiet_step (fail))
  refine wpQuiet_nil ?_
  intro _ hw'
  obtain ⟨⟨dq, osq⟩, hw''⟩ := hw'
  subst hw''
  have hbq := below_regrown W dq osq
  have BX2 := Lib.hid (BX.out.below hbq)
  have HB2 := Lib.hid (HB.out.trans (hbq.mono HB.out.size))
  clear k1 k2 hbq e1 e1'
  generalize Sort.grow (redrawn W dq) osq = W2 at *
  obtain ⟨c0, c1, g0, g1, lt1⟩ := BX2.out
  obtain ⟨d0, d1, _, _, _⟩ := ShI.bx_put BX2.out (.int .i64 x) (.int .i64 x')
  go_wp2_with fail
  try simp only [Exit.inBlock, Exit.then]
  refine bodyPost_ret (v := .agg #[.int .i64 x, .int .i64 x']) (by simp [results, Try.results61, go_sem, d0, d1]) rfl ⟨rfl, (HB2.out.setCell (p := ⟨w.heap.size, 0, none⟩) (Nat.le_refl _) _).setCell (p := ⟨w.heap.size, 1, none⟩) (Nat.le_refl _) _⟩
end Go.Proofs.Ytlpcgchekhoieaa.CvM
