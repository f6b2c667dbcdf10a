/- CombineMeasurements: the mathematics, the program and the model. -/
import Derived.Test.YtlpcgchekhoieaaMsM
import Derived.Test.YtlpcgchekhoieaaShI
import Derived.Lib.QuietBelow
namespace Go.Proofs.Ytlpcgchekhoieaa.Cm
open Go Go.RowKit Pairs Rec Keep GivesI MsM ShI
set_option linter.unusedVariables false
def wt (y : Int) : Int := (1000000 + y * y - 1) / (y * y)
def ws (l : List (Int × Int)) : Int := l.foldl (fun s q => s + wt q.2) 0
def sm (l : List (Int × Int)) : Int := l.foldl (fun s q => s + q.1 * wt q.2) 0
theorem ws_take {l : List (Int × Int)} {k : Nat} {x y : Int} (h : l[k]? = some (x, y)) : ws (l.take (k + 1)) = ws (l.take k) + wt y := by
  unfold ws
  rw [List.take_add_one, h, List.foldl_append]
  rfl
theorem sm_take {l : List (Int × Int)} {k : Nat} {x y : Int} (h : l[k]? = some (x, y)) : sm (l.take (k + 1)) = sm (l.take k) + x * wt y := by
  unfold sm
  rw [List.take_add_one, h, List.foldl_append]
  rfl
theorem sq_bd {y : Int} (h1 : 1 ≤ y) (h2 : y ≤ 1000) : 1 ≤ y * y ∧ y * y ≤ 1000000 := by
  constructor
  · exact Int.le_trans h1 (by have := Int.mul_le_mul_of_nonneg_left h1 (show (0 : Int) ≤ y by omega); omega)
  · have := Int.mul_le_mul h2 h2 (by omega) (by omega)
    omega
theorem wt_bd {y : Int} (h1 : 1 ≤ y) (h2 : y ≤ 1000) : 1 ≤ wt y ∧ wt y ≤ 1000000 := by
  obtain ⟨a, b⟩ := sq_bd h1 h2
  unfold wt
  generalize y * y = s at *
  constructor
  · exact (Int.le_ediv_iff_mul_le (by omega)).2 (by omega)
  · have h3 : (1000000 + s - 1) / s ≤ 1000000 := by
      refine Int.ediv_le_of_le_mul (by omega) ?_
      have : 1000000 * 1 ≤ 1000000 * s := Int.mul_le_mul_of_nonneg_left a (by omega)
      have h4 : 999999 * 1 ≤ 999999 * s := Int.mul_le_mul_of_nonneg_left a (by omega)
      omega
    exact h3
theorem xw_bd {x y : Int} (h0 : 0 ≤ x) (hx : x ≤ 60000) (h1 : 1 ≤ y) (h2 : y ≤ 1000) : 0 ≤ x * wt y ∧ x * wt y ≤ 60000000000 := by
  obtain ⟨a, b⟩ := wt_bd h1 h2
  constructor
  · exact Int.mul_nonneg h0 (by omega)
  · have := Int.mul_le_mul hx b (by omega) (by omega)
    omega
/-- The smallest e from e0 on that suffices. -/
def erF : Nat → Int → Int → Int
  | 0, e, _ => e
  | f + 1, e, W => if e * e * W < 1000000 then erF f (e + 1) W else e
def er (W : Int) : Int := erF 1000 1 W
theorem er_bd {e W : Int} (hW : 1 ≤ W) (he : 1 ≤ e) (h : e * e * W < 1000000) : e < 1000 := by
  refine Int.lt_of_not_ge fun hg => ?_
  have h1 : (1000 : Int) * 1000 ≤ e * e := Int.mul_le_mul hg hg (by omega) (by omega)
  have h2 : (1000 * 1000 : Int) * 1 ≤ e * e * W := Int.mul_le_mul h1 hW (by omega) (by omega)
  omega
theorem ee_bd {e W : Int} (h1 : 1 ≤ e) (h2 : e ≤ 1000) (hW : 1 ≤ W) (hW2 : W ≤ 10000000) : (0 ≤ e * e ∧ e * e ≤ 1000000) ∧ 0 ≤ e * e * W ∧ e * e * W ≤ 10000000000000 := by
  obtain ⟨a, b⟩ := sq_bd h1 h2
  refine ⟨⟨by omega, b⟩, Int.mul_nonneg (by omega) (by omega), ?_⟩
  have := Int.mul_le_mul b hW2 (by omega) (by omega)
  omega
/-- Where the loop stands: at e, of which the answer is still to be found. -/
def At (W e : Int) : Prop := 1 ≤ e ∧ e ≤ 1000 ∧ ∃ f : Nat, (f : Int) = 1001 - e ∧ er W = erF f e W
theorem At.start (W : Int) : At W 1 := ⟨by omega, by omega, 1000, rfl, rfl⟩
theorem At.next {W e : Int} (h : At W e) (hW : 1 ≤ W) (hc : e * e * W < 1000000) : At W (e + 1) := by
  obtain ⟨h1, h2, f, hf, he⟩ := h
  have h3 := er_bd hW h1 hc
  cases f with
  | zero => omega
  | succ f =>
    refine ⟨by omega, by omega, f, by omega, ?_⟩
    rw [he]
    show (if e * e * W < 1000000 then erF f (e + 1) W else e) = _
    rw [if_pos hc]
theorem At.end {W e : Int} (h : At W e) (hc : ¬ e * e * W < 1000000) : er W = e := by
  obtain ⟨h1, h2, f, hf, he⟩ := h
  cases f with
  | zero => omega
  | succ f =>
    rw [he]
    show (if e * e * W < 1000000 then erF f (e + 1) W else e) = _
    rw [if_neg hc]
def cmP (l : List (Int × Int)) : Int × Int × Bool := if msOK 10 l then (sm l / ws l, er (ws l), true) else (0, 0, false)
theorem cmP_bad {l : List (Int × Int)} (h : msOK 10 l = false) : cmP l = (0, 0, false) := by unfold cmP; rw [h]; rfl
theorem cmP_yes {l : List (Int × Int)} (h : msOK 10 l = true) : cmP l = (sm l / ws l, er (ws l), true) := by unfold cmP; rw [h]; rfl
def cellN (w : World) (g : Nat) : Nat := match w.cell? ⟨g, 1, none⟩ with | some v => (intOf v).toNat | none => 0
def Says (f : FuncId) : Prop := ∀ (p : Option Addr) (n c : Nat) (l : List (Int × Int)) (w : World), n ≤ 1048576 → Holds w p n l → Calls Try.prog f #[.slice p n c] w fun e w' => e = .returned (.tuple #[.agg #[.int .i64 (cmP l).1, .int .i64 (cmP l).2.1], .bool (cmP l).2.2]) ∧ Below w.heap.size w w'
theorem below_box {n₀ : Nat} {w W : World} {b : Nat} {u v : Value} (h : Below n₀ w W) (hb : n₀ ≤ b) : Below n₀ w ((W.setCell ⟨b, 0, none⟩ u).setCell ⟨b, 1, none⟩ v) :=
  (h.setCell (p := ⟨b, 0, none⟩) hb _).setCell (p := ⟨b, 1, none⟩) hb _
theorem put1 {w : World} {g : Nat} {u v : Value} (h : Bx w g u v) (v' : Value) : Bx (w.setCell ⟨g, 1, none⟩ v') g u v' := by
  have e : (⟨g, 0, none⟩ : Addr) ≠ ⟨g, 1, none⟩ := by intro e; cases congrArg Addr.off e
  have e' : (⟨g, 1, none⟩ : Addr) ≠ ⟨g, 0, none⟩ := Ne.symm e
  refine ⟨(World.cell?_setCell_other (w := w) (a := ⟨g, 1, none⟩) (b := ⟨g, 0, none⟩) (v := v') (h := by first | exact e | exact e')).trans h.c0, World.cell?_setCell_same (w := w) (a := ⟨g, 1, none⟩) (v := v') (h := h.c1), ?_, ?_, ?_⟩
  · rw [World.frozen?_setCell]; exact h.f0
  · rw [World.frozen?_setCell]; exact h.f1
  · have := h.lt; simpa [World.setCell] using this
theorem other1 {w : World} {g k : Nat} {u v : Value} (h : Bx w g u v) (hne : g ≠ k) (v' : Value) : Bx (w.setCell ⟨k, 1, none⟩ v') g u v := by
  have n0 : ∀ j, (⟨k, 1, none⟩ : Addr) ≠ ⟨g, j, none⟩ := fun j e => hne (congrArg Addr.block e).symm
  have n1 : ∀ j, (⟨g, j, none⟩ : Addr) ≠ ⟨k, 1, none⟩ := fun j e => hne (congrArg Addr.block e)
  refine ⟨?_, ?_, ?_, ?_, ?_⟩
  · rw [World.cell?_setCell_other (h := by first | exact n0 _ | exact n1 _)]; exact h.c0
  · rw [World.cell?_setCell_other (h := by first | exact n0 _ | exact n1 _)]; exact h.c1
  · rw [World.frozen?_setCell]; exact h.f0
  · rw [World.frozen?_setCell]; exact h.f1
  · have := h.lt; simpa [World.setCell] using this
set_option maxRecDepth 100000 in
set_option maxHeartbeats 8000000 in
theorem impl_any : Says 36 := by
  intro p n c l w hn h
  have hb0 := below_alloc w (.cells #[.int .i64 0, .int .i64 0] 45)
  have HL := Lib.hid h.1
  have H := Lib.hid (h.below hb0)
  have BX := Lib.hid (bx_new w (.int .i64 0) (.int .i64 0) 45)
  have HB := Lib.hid hb0
  obtain ⟨r, hr⟩ : ∃ r, r = cmP l := ⟨_, rfl⟩
  rw [← hr]
  have HR := Lib.hid hr
  clear hr h hb0
  go_enter Try.func36, Try.ntmps36
  go_wp2_with fail
  generalize w.alloc (.cells #[.int .i64 0, .int .i64 0] 45) = W at *
  refine (are_any 10 p n c l W hn H.out).mono ?_
  rintro e w1 ⟨rfl, b⟩
  replace H := Lib.hid (H.out.below b)
  replace BX := Lib.hid (BX.out.below b)
  replace HB := Lib.hid (HB.out.trans (b.mono HB.out.size))
  clear b
  cases hu : msOK 10 l with
  | false =>
    have HF := Lib.hid (HR.out.trans (cmP_bad hu))
    clear hu
    obtain ⟨c0, c1, f0, f1, lt1⟩ := BX.out
    go_wp2_with fail
    try simp only [Exit.inBlock, Exit.then]
    refine bodyPost_ret (v := .tuple #[.agg #[.int .i64 0, .int .i64 0], .bool false]) (by simp [results, Try.results36, go_sem, c0, c1]) rfl ?_
    rw [HF.out]
    exact ⟨rfl, below_box HB.out (Nat.le_refl _)⟩
  | true =>
    have HA := Lib.hid (msOK_iff.1 hu)
    have HFY := Lib.hid (HR.out.trans (cmP_yes hu))
    have hn1 : 1 ≤ n ∧ n ≤ 10 := by have h1 := HA.out.pos; have h2 := HA.out.len; rw [HL.out] at h1 h2; omega
    clear hu
    go_wp2_with fail
    go_loopw [4, 5, 17] (fun s4 s5 s17 wr => ∃ (k : Nat) (u v : Int), k ≤ n ∧ s17 = .int .i64 k ∧ s4 = .int .i64 u ∧ s5 = .int .i64 v ∧ 0 ≤ u ∧ u ≤ 60000000000 * k ∧ (k : Int) ≤ v ∧ v ≤ 1000000 * k ∧ Hid (u = sm (l.take k)) ∧ Hid (v = ws (l.take k)) ∧ Hid (Below w1.heap.size w1 wr)) (fun _ _ s17 _ => n - (intOf s17).toNat)
    case atStart => exact ⟨0, 0, 0, Nat.zero_le _, rfl, rfl, rfl, by omega, by omega, by omega, by omega, rfl, rfl, Below.refl _ _⟩
    case round =>
      obtain ⟨k, u, v, hk, rfl, rfl, rfl, hu0, hu1, hv0, hv1, HSM, HWS, HW⟩ := hrel
      by_cases hlt : k < n
      · have hkn : (k : Int) < (n : Int) := by omega
        have hk0 : (0 : Int) ≤ (k : Int) := by omega
        obtain ⟨b, off, x, y, rfl, hx, e1, e2⟩ := (H.out.below HW.out).at k hlt
        obtain ⟨⟨hx0, hx1⟩, hy0, hy1⟩ := okM_iff.1 (HA.out.all _ (List.mem_of_getElem? hx))
        have HT1 := Lib.hid (sm_take hx)
        have HT2 := Lib.hid (ws_take hx)
        rw [← HSM.out] at HT1
        rw [← HWS.out] at HT2
        have hbz := below_alloc wr (.cells #[.int .i64 x, .int .i64 y] 45)
        have f1 := box_first wr (.int .i64 x) (.int .i64 y) 45
        have f2 := box_second wr (.int .i64 x) (.int .i64 y) 45
        have HW2 := Lib.hid (HW.out.trans (hbz.mono HW.out.size))
        obtain ⟨hs1, hs2⟩ := sq_bd hy0 hy1
        obtain ⟨hw1, hw2⟩ := wt_bd hy0 hy1
        obtain ⟨hp1, hp2⟩ := xw_bd hx0 hx1 hy0 hy1
        obtain ⟨g, hg⟩ : ∃ g, wt y = g := ⟨_, rfl⟩
        rw [hg] at HT1 HT2 hw1 hw2 hp1 hp2
        have hgd : (1000000 + y * y - 1) / (y * y) = g := hg
        clear hg hx hbz
        have q1 : wrap64 (y * y) = y * y := by unfold wrap64; omega
        have q1' : IntKind.i64.wrap (y * y) = y * y := by rw [IntKind.wrap_i64]; omega
        obtain ⟨s, hs⟩ : ∃ s, y * y = s := ⟨_, rfl⟩
        rw [hs] at q1 q1' hs1 hs2 hgd
        have q2 : wrap64 (1000000 + s) = 1000000 + s := by unfold wrap64; omega
        have q3 : wrap64 (1000000 + s - 1) = 1000000 + s - 1 := by unfold wrap64; omega
        have q4 : wrap64 ((1000000 + s - 1) / s) = g := by rw [hgd]; unfold wrap64; omega
        have q4' : IntKind.i64.wrap ((1000000 + s - 1).tdiv s) = g := by rw [Int.tdiv_eq_ediv_of_nonneg (by omega), hgd, IntKind.wrap_i64]; omega
        have q0 : ¬ s = 0 := by omega
        have q5 : wrap64 (x * g) = x * g := by unfold wrap64; omega
        have q6 : wrap64 (u + x * g) = u + x * g := by unfold wrap64; omega
        have q7 : wrap64 (v + g) = v + g := by unfold wrap64; omega
        have HBD := Lib.hid (show (0 ≤ u + x * g ∧ u + x * g ≤ 60000000000 * ((k + 1 : Nat) : Int)) ∧ ((k + 1 : Nat) : Int) ≤ v + g ∧ v + g ≤ 1000000 * ((k + 1 : Nat) : Int) from ⟨⟨by omega, by omega⟩, by omega, by omega⟩)
        clear q1'
        go_wp2_with fail
        exact ⟨⟨k + 1, _, _, by omega, by go_num, rfl, rfl, HBD.out.1.1, HBD.out.1.2, HBD.out.2.1, HBD.out.2.2, HT1.out.symm, HT2.out.symm, HW2⟩, by simp [intOf]; omega⟩
      · obtain rfl : k = n := by omega
        have hkn : ¬ (k : Int) < (k : Int) := by omega
        rw [show l.take k = l by rw [List.take_of_length_le (by rw [HL.out]; exact Nat.le_refl _)]] at HSM HWS
        rw [← HSM.out, ← HWS.out] at HFY
        have hv3 : 1 ≤ v := by omega
        have hv4 : v ≤ 10000000 := by omega
        have q0 : ¬ v = 0 := by omega
        obtain ⟨t, ht⟩ : ∃ t, u / v = t := ⟨_, rfl⟩
        rw [ht] at HFY
        have ht0 : 0 ≤ t := by rw [← ht]; exact Int.ediv_nonneg hu0 (by omega)
        have ht1 : t ≤ 600000000000 := by rw [← ht]; exact Int.le_trans (Int.ediv_le_self _ hu0) (by omega)
        have q4 : wrap64 (u / v) = t := by rw [ht]; unfold wrap64; omega
        have q4' : IntKind.i64.wrap (u.tdiv v) = t := by rw [Int.tdiv_eq_ediv_of_nonneg hu0, ht, IntKind.wrap_i64]; omega
        have BXr := Lib.hid ((BX.out.below HW.out).below (below_alloc wr (.cells #[.int .i64 t, .int .i64 1] 45)))
        have BM := Lib.hid (bx_new wr (.int .i64 t) (.int .i64 1) 45)
        have HBr := Lib.hid (HB.out.trans ((HW.out.trans ((below_alloc wr (.cells #[.int .i64 t, .int .i64 1] 45)).mono HW.out.size)).mono HB.out.size))
        have hgb : Hid (w.heap.size < wr.heap.size) := Nat.lt_of_lt_of_le BX.out.lt HW.out.size
        clear ht HW H BX
        go_wp2_with fail
        generalize wr.alloc (.cells #[.int .i64 t, .int .i64 1] 45) = W2 at *
        generalize wr.heap.size = gm at *
        clear q4 q4'
        go_loopw [] (fun wx => ∃ e : Int, 1 ≤ e ∧ e ≤ 1000 ∧ Hid (Bx wx gm (.int .i64 t) (.int .i64 e)) ∧ Hid (Bx wx w.heap.size (.int .i64 0) (.int .i64 0)) ∧ Hid (At v e) ∧ Hid (Below w.heap.size w wx)) (fun wx => 1000 - cellN wx gm)
        case atStart => exact ⟨1, by omega, by omega, BM, BXr, At.start v, HBr⟩
        case round =>
          obtain ⟨e, he1, he2, BMx, BRx, HAt, HBx⟩ := hrel
          obtain ⟨⟨hs1, hs2⟩, hs3, hs4⟩ := ee_bd he1 he2 hv3 hv4
          have m0 : cellN wr gm = e.toNat := by unfold cellN; rw [BMx.out.c1]; rfl
          have q1 : wrap64 (e * e) = e * e := by unfold wrap64; omega
          have q2 : wrap64 (e * e * v) = e * e * v := by unfold wrap64; omega
          have HN := Lib.hid (fun hc => HAt.out.next hv3 hc)
          have HE := Lib.hid (fun hc => HAt.out.end hc)
          obtain ⟨d0, d1, g0, g1, lt1⟩ := BMx.out
          by_cases hc : e * e * v < 1000000
          · have h3 := er_bd hv3 he1 hc
            have HN2 := Lib.hid (HN.out hc)
            have BM2 := Lib.hid (put1 BMx.out (.int .i64 (e + 1)))
            have BR2 := Lib.hid (other1 BRx.out (Nat.ne_of_lt hgb.out) (.int .i64 (e + 1)))
            have HB2 := Lib.hid (HBx.out.setCell (p := ⟨gm, 1, none⟩) (Nat.le_of_lt hgb.out) (.int .i64 (e + 1)))
            clear HN HE
            go_wp2_with fail
            exact ⟨⟨e + 1, by omega, by omega, BM2, BR2, HN2, HB2⟩, by
              have m1 : cellN (wr.setCell ⟨gm, 1, none⟩ (.int .i64 (e + 1))) gm = (e + 1).toNat := by unfold cellN; rw [BM2.out.c1]; rfl
              rw [m0, m1]; omega⟩
          · have HF := HFY.out
            rw [HE.out hc] at HF
            replace HF := Lib.hid HF
            clear HN HE
            obtain ⟨c0, c1, f0, f1, lt2⟩ := BRx.out
            have HB2 := Lib.hid (below_box (u := .int .i64 t) (v := .int .i64 e) HBx.out (Nat.le_refl _))
            obtain ⟨k0, k1, _, _, _⟩ := bx_put BRx.out (.int .i64 t) (.int .i64 e)
            go_wp2_with fail
            try simp only [Exit.inBlock, Exit.then]
            refine bodyPost_ret (v := .tuple #[.agg #[.int .i64 t, .int .i64 e], .bool true]) (by simp [results, Try.results36, go_sem, k0, k1]) rfl ?_
            rw [HF.out]
            exact ⟨rfl, HB2.out⟩
set_option maxRecDepth 100000 in
set_option maxHeartbeats 8000000 in
theorem spec_any : Says 34 := by
  intro p n c l w hn h
  have hb0 := below_alloc w (.cells #[.int .i64 0, .int .i64 0] 45)
  have HL := Lib.hid h.1
  have H := Lib.hid (h.below hb0)
  have BX := Lib.hid (bx_new w (.int .i64 0) (.int .i64 0) 45)
  have HB := Lib.hid hb0
  obtain ⟨r, hr⟩ : ∃ r, r = cmP l := ⟨_, rfl⟩
  rw [← hr]
  have HR := Lib.hid hr
  clear hr h hb0
  go_enter Try.func34, Try.ntmps34
  go_wp2_with fail
  generalize w.alloc (.cells #[.int .i64 0, .int .i64 0] 45) = W at *
  refine (list_any p n c l W hn H.out).mono ?_
  rintro e w1 ⟨rfl, b⟩
  replace H := Lib.hid (H.out.below b)
  replace BX := Lib.hid (BX.out.below b)
  replace HB := Lib.hid (HB.out.trans (b.mono HB.out.size))
  clear b
  cases hu : msOK 10 l with
  | false =>
    have HF := Lib.hid (HR.out.trans (cmP_bad hu))
    clear hu
    obtain ⟨c0, c1, f0, f1, lt1⟩ := BX.out
    go_wp2_with fail
    try simp only [Exit.inBlock, Exit.then]
    refine bodyPost_ret (v := .tuple #[.agg #[.int .i64 0, .int .i64 0], .bool false]) (by simp [results, Try.results34, go_sem, c0, c1]) rfl ?_
    rw [HF.out]
    exact ⟨rfl, below_box HB.out (Nat.le_refl _)⟩
  | true =>
    have HA := Lib.hid (msOK_iff.1 hu)
    have HFY := Lib.hid (HR.out.trans (cmP_yes hu))
    have hn1 : 1 ≤ n ∧ n ≤ 10 := by have h1 := HA.out.pos; have h2 := HA.out.len; rw [HL.out] at h1 h2; omega
    clear hu
    go_wp2_with fail
    go_loopw [4, 5, 6] (fun s4 s5 s6 wr => ∃ (k : Nat) (u v : Int), k ≤ n ∧ s6 = .int .i64 k ∧ s4 = .int .i64 u ∧ s5 = .int .i64 v ∧ 0 ≤ u ∧ u ≤ 60000000000 * k ∧ (k : Int) ≤ v ∧ v ≤ 1000000 * k ∧ Hid (u = sm (l.take k)) ∧ Hid (v = ws (l.take k)) ∧ Hid (Below w1.heap.size w1 wr)) (fun _ _ s6 _ => n - (intOf s6).toNat)
    case atStart => exact ⟨0, 0, 0, Nat.zero_le _, rfl, rfl, rfl, by omega, by omega, by omega, by omega, rfl, rfl, Below.refl _ _⟩
    case round =>
      obtain ⟨k, u, v, hk, rfl, rfl, rfl, hu0, hu1, hv0, hv1, HSM, HWS, HW⟩ := hrel
      by_cases hlt : k < n
      · have hkn : (k : Int) < (n : Int) := by omega
        have hk0 : (0 : Int) ≤ (k : Int) := by omega
        obtain ⟨b, off, x, y, rfl, hx, e1, e2⟩ := (H.out.below HW.out).at k hlt
        obtain ⟨⟨hx0, hx1⟩, hy0, hy1⟩ := okM_iff.1 (HA.out.all _ (List.mem_of_getElem? hx))
        have HT1 := Lib.hid (sm_take hx)
        have HT2 := Lib.hid (ws_take hx)
        rw [← HSM.out] at HT1
        rw [← HWS.out] at HT2
        obtain ⟨hs1, hs2⟩ := sq_bd hy0 hy1
        obtain ⟨hw1, hw2⟩ := wt_bd hy0 hy1
        obtain ⟨hp1, hp2⟩ := xw_bd hx0 hx1 hy0 hy1
        obtain ⟨g, hg⟩ : ∃ g, wt y = g := ⟨_, rfl⟩
        rw [hg] at HT1 HT2 hw1 hw2 hp1 hp2
        have hgd : (1000000 + y * y - 1) / (y * y) = g := hg
        clear hg hx
        have q1' : IntKind.i64.wrap (y * y) = y * y := by rw [IntKind.wrap_i64]; omega
        have k1 := cell_regrown e1
        have k2 := cell_regrown e2
        go_wp2_with fail
        refine wp_region_quiet_below (by kernel_rfl) (by kernel_rfl) ?_
        repeat (go_big_quiet_step (fail))
        refine wpQuiet_nil ?_
        intro _ hw'
        obtain ⟨⟨dq, osq⟩, hw''⟩ := hw'
        subst hw''
        have hbq := below_regrown wr dq osq
        replace e1 := (hbq.cell (World.block_lt_of_cell? wr _ e1)).trans e1
        replace e2 := (hbq.cell (World.block_lt_of_cell? wr _ e2)).trans e2
        have HW2 := Lib.hid (HW.out.trans (hbq.mono HW.out.size))
        clear k1 k2 hbq HW q1'
        generalize Sort.grow (redrawn wr dq) osq = W2 at *
        obtain ⟨s, hs⟩ : ∃ s, y * y = s := ⟨_, rfl⟩
        rw [hs] at hs1 hs2 hgd ⊢
        have q2 : wrap64 (1000000 + s) = 1000000 + s := by unfold wrap64; omega
        have q3 : wrap64 (1000000 + s - 1) = 1000000 + s - 1 := by unfold wrap64; omega
        have q4 : wrap64 ((1000000 + s - 1) / s) = g := by rw [hgd]; unfold wrap64; omega
        have q0 : ¬ s = 0 := by omega
        have q5 : wrap64 (x * g) = x * g := by unfold wrap64; omega
        have q6 : wrap64 (u + x * g) = u + x * g := by unfold wrap64; omega
        have q7 : wrap64 (v + g) = v + g := by unfold wrap64; omega
        have HBD := Lib.hid (show (0 ≤ u + x * g ∧ u + x * g ≤ 60000000000 * ((k + 1 : Nat) : Int)) ∧ ((k + 1 : Nat) : Int) ≤ v + g ∧ v + g ≤ 1000000 * ((k + 1 : Nat) : Int) from ⟨⟨by omega, by omega⟩, by omega, by omega⟩)
        go_wp2_with fail
        exact ⟨⟨k + 1, _, _, by omega, by go_num, rfl, rfl, HBD.out.1.1, HBD.out.1.2, HBD.out.2.1, HBD.out.2.2, HT1.out.symm, HT2.out.symm, HW2⟩, by simp [intOf]; omega⟩
      · obtain rfl : k = n := by omega
        have hkn : ¬ (k : Int) < (k : Int) := by omega
        rw [show l.take k = l by rw [List.take_of_length_le (by rw [HL.out]; exact Nat.le_refl _)]] at HSM HWS
        rw [← HSM.out, ← HWS.out] at HFY
        have hv3 : 1 ≤ v := by omega
        have hv4 : v ≤ 10000000 := by omega
        have q0 : ¬ v = 0 := by omega
        have ht0 : 0 ≤ u / v := Int.ediv_nonneg hu0 (by omega)
        have ht1 : u / v ≤ 600000000000 := Int.le_trans (Int.ediv_le_self _ hu0) (by omega)
        have q4 : wrap64 (u / v) = u / v := by unfold wrap64; omega
        replace BX := Lib.hid (BX.out.below HW.out)
        replace HB := Lib.hid (HB.out.trans (HW.out.mono HB.out.size))
        clear HW H
        go_wp2_with fail
        go_loopw [9] (fun s9 wx => ∃ e : Int, s9 = .int .i64 e ∧ 1 ≤ e ∧ e ≤ 1000 ∧ Hid (At v e) ∧ wx = wr) (fun s9 _ => 1000 - (intOf s9).toNat)
        case atStart => exact ⟨1, rfl, by omega, by omega, At.start v, rfl⟩
        case round =>
          obtain ⟨e, rfl, he1, he2, HAt, rfl⟩ := hrel
          obtain ⟨⟨hs1, hs2⟩, hs3, hs4⟩ := ee_bd he1 he2 hv3 hv4
          have q1 : wrap64 (e * e) = e * e := by unfold wrap64; omega
          have q2 : wrap64 (e * e * v) = e * e * v := by unfold wrap64; omega
          by_cases hc : e * e * v < 1000000
          · have h3 := er_bd hv3 he1 hc
            have HN2 := Lib.hid (HAt.out.next hv3 hc)
            go_wp2_with fail
            exact ⟨⟨e + 1, rfl, by omega, by omega, HN2, trivial⟩, by simp [intOf]; omega⟩
          · have HF := HFY.out
            rw [HAt.out.end hc] at HF
            replace HF := Lib.hid HF
            obtain ⟨c0, c1, f0, f1, lt2⟩ := BX.out
            have HB2 := Lib.hid (below_box (u := .int .i64 (u / v)) (v := .int .i64 e) HB.out (Nat.le_refl _))
            obtain ⟨k0, k1, _, _, _⟩ := bx_put BX.out (.int .i64 (u / v)) (.int .i64 e)
            go_wp2_with fail
            try simp only [Exit.inBlock, Exit.then]
            refine bodyPost_ret (v := .tuple #[.agg #[.int .i64 (u / v), .int .i64 e], .bool true]) (by simp [results, Try.results34, go_sem, k0, k1]) rfl ?_
            rw [HF.out]
            exact ⟨rfl, HB2.out⟩
end Go.Proofs.Ytlpcgchekhoieaa.Cm
