/- ShiftCurve: the model. -/
import Derived.Test.YtlpcgchekhoieaaScI
import Derived.Test.YtlpcgchekhoieaaCvS
import Derived.Test.YtlpcgchekhoieaaPtI
namespace Go.Proofs.Ytlpcgchekhoieaa.ScS
open Go Go.RowKit Pairs Rec Keep GivesI Cu CvM CuG AppT ScI
set_option linter.unusedVariables false
theorem fw_is {u v : Int} {q : Dt} (h : OkP q) (h1 : -60000 ≤ u ∧ u ≤ 60000) (h2 : -1000 ≤ v ∧ v ≤ 1000) : fw u v q = fp u v q := by
  obtain ⟨hy, ha, he⟩ := h
  unfold fw fp
  rw [show wrap64 (q.2.1 + u) = q.2.1 + u by unfold wrap64; omega, show wrap64 (q.2.2 + v) = q.2.2 + v by unfold wrap64; omega]
theorem fw_out {L : List Dt} {u v : Int} (o : OkC L) (ra : -9223372036854775808 ≤ u) (rb : u ≤ 9223372036854775807) (rc : -9223372036854775808 ≤ v) (rd : v ≤ 9223372036854775807) (h : ¬ ((-60000 ≤ u ∧ u ≤ 60000) ∧ -1000 ≤ v ∧ v ≤ 1000)) : cv (L.map (fw u v)) = false := by
  refine cv_not fun o2 => ?_
  have hl : 0 < L.length := by have := o.lo; omega
  obtain ⟨hy, ha, he⟩ := o.p hl
  have h2 := okP_iff.1 (o2.all (fw u v (pt L 0)) (List.mem_map.2 ⟨pt L 0, pt_mem hl, rfl⟩))
  obtain ⟨_, ka, ke⟩ := h2
  unfold fw at ka ke
  simp only at ka ke
  unfold wrap64 at ka ke
  omega
theorem cell_three_new (w : World) (x y z : Value) (t : TypeId) : ∀ j u, [x, y, z][j]? = some u → (w.alloc (.cells #[x, y, z] t)).cell? ((⟨w.heap.size, 0, none⟩ : Addr).add j) = some u := by
  intro j u hj
  obtain ⟨a, b, c⟩ := box3 w x y z t
  match j, hj with
  | 0, hj => simp at hj; subst hj; exact a
  | 1, hj => simp at hj; subst hj; exact b
  | 2, hj => simp at hj; subst hj; exact c
theorem take_map {L : List Dt} {f : Dt → Dt} {i : Nat} {q : Dt} (h : L[i]? = some q) : (L.map f).take (i + 1) = (L.map f).take i ++ [f q] := by
  rw [List.take_add_one, List.getElem?_map, h]
  rfl
theorem flatD_one' (q : Dt) : flatD [q] = [.int .i64 q.1, .int .i64 q.2.1, .int .i64 q.2.2] := rfl
def R2 (B : Nat) (w wr : World) (s : Value) (n : Nat) (X : List Dt) : Prop := wr.ownsRow B 75 3 s n (flatD X) ∧ Below B w wr
theorem form3 {T : TypeId} {B n : Nat} {w : World} {v : Value} {xs : List Value} (h : w.ownsRow B T 3 v n xs) : ∃ p d, v = .slice p n d := by
  rcases h.2 with ⟨hv, hn⟩ | ⟨g, cap, cur, hv, _⟩
  · subst hn
    exact ⟨none, 0, hv⟩
  · exact ⟨_, cap, hv⟩
set_option maxRecDepth 100000 in
set_option maxHeartbeats 8000000 in
theorem spec_any : ScI.Says 43 := by
  intro a n L u v w hn h ra rb rc rd
  obtain ⟨i0, hi, hy0, hy1, hy2⟩ := info_parts CuT.infoCurvePoint
  have hb0 := below_alloc w (.cells #[] 75)
  have HL := Lib.hid h.1
  have H0 := Lib.hid h
  have H := Lib.hid (h.below hb0)
  have HG0 : Hid (R2 w.heap.size w (w.alloc (.cells #[] 75)) (.slice (some ⟨w.heap.size, 0, none⟩) 0 0) 0 []) := ⟨AppT.empty_own w, hb0⟩
  obtain ⟨r, hr⟩ : ∃ r, r = shP L u v := ⟨_, rfl⟩
  rw [← hr]
  have HR := Lib.hid hr
  have HOUT := Lib.hid (fun (o : OkC L) hx => fw_out o ra rb rc rd hx)
  clear hr h hb0 ra rb rc rd
  go_enter Try.func43, Try.ntmps43
  go_wp2_with fail
  generalize w.alloc (.cells #[] 75) = W at *
  refine (CvS.good_any a n n L W hn H.out).mono ?_
  rintro e w1 ⟨rfl, b⟩
  replace HG0 : Hid (R2 w.heap.size w w1 (.slice (some ⟨w.heap.size, 0, none⟩) 0 0) 0 []) := ⟨ownsRow_below HG0.out.1 b, HG0.out.2.trans (b.mono HG0.out.2.size)⟩
  clear b H
  cases hu : cv L with
  | false =>
    have HF := Lib.hid (HR.out.trans (shP_no fun e _ => by rw [hu] at e; cases e))
    clear hu
    go_wp2_with fail
    go_ret2
    rw [HF.out]
    exact ⟨_, _, _, rfl, HG0.out.1, by omega, HG0.out.2⟩
  | true =>
    have O := Lib.hid (cv_iff.1 hu)
    have HU := Lib.hid hu
    have hn2 : 2 ≤ n := by have := O.out.lo; rw [HL.out] at this; exact this
    have hn40 : n ≤ 40 := by have := O.out.len; rw [HL.out] at this; exact this
    clear hu
    go_wp2_with fail
    refine (DvG.l1In_any u (-60000) 60000 _).mono ?_
    rintro e w2 ⟨rfl, rfl⟩
    by_cases h1 : -60000 ≤ u ∧ u ≤ 60000
    · rw [decide_eq_true h1]
      go_wp2_with fail
      refine (DvG.l1In_any v (-1000) 1000 _).mono ?_
      rintro e w3 ⟨rfl, rfl⟩
      by_cases h2 : -1000 ≤ v ∧ v ≤ 1000
      · rw [decide_eq_true h2]
        obtain ⟨b, off, x, y, z, rfl, hx, e1, e2, e3⟩ := H0.out.at 0 (by omega)
        clear hx e1 e2 e3
        go_wp2_with fail
        go_loopw [8, 9] (fun s8 s9 wr => ∃ i : Nat, i ≤ n ∧ s9 = .int .i64 i ∧ Hid (R2 w.heap.size w wr s8 i ((L.map (fw u v)).take i))) (fun _ s9 _ => n - (intOf s9).toNat)
        case atStart => exact ⟨0, Nat.zero_le _, rfl, HG0⟩
        case round =>
          clear HG0
          obtain ⟨i, hi', rfl, HW⟩ := hrel
          obtain ⟨pv, dv, rfl⟩ := form3 HW.out.1
          by_cases hlt : i < n
          · have hin : (i : Int) < (n : Int) := by omega
            have hi0 : (0 : Int) ≤ (i : Int) := by omega
            obtain ⟨b1, off1, x0, y0, z0, hb1, hx0, g1, g2, g3⟩ := (H0.out.below HW.out.2).at i hlt
            injection hb1 with hb1
            injection hb1 with hb1 ho1
            subst hb1 ho1
            have hok := O.out.p (i := i) (by rw [HL.out]; exact hlt)
            rw [pt_of hx0] at hok
            have HTK := Lib.hid (take_map (f := fw u v) hx0)
            rw [fw_is hok h1 h2] at HTK
            unfold fp at HTK
            simp only at HTK
            obtain ⟨hp1, hp2, hp3⟩ := hok
            simp only at hp1 hp2 hp3
            have q1 : wrap64 (y0 + u) = y0 + u := by unfold wrap64; omega
            have q2 : wrap64 (z0 + v) = z0 + v := by unfold wrap64; omega
            have hgs : w.heap.size ≤ wr.heap.size := HW.out.2.size
            have hbz := below_alloc wr (.cells #[.int .i64 x0, .int .i64 (y0 + u), .int .i64 (z0 + v)] 75)
            have hsz : (wr.alloc (.cells #[.int .i64 x0, .int .i64 (y0 + u), .int .i64 (z0 + v)] 75)).heap.size = wr.heap.size + 1 := by simp
            have hcell := cell_three_new (wr.alloc (.cells #[.int .i64 x0, .int .i64 (y0 + u), .int .i64 (z0 + v)] 75)) (.int .i64 x0) (.int .i64 (y0 + u)) (.int .i64 (z0 + v)) 75
            rw [hsz] at hcell
            have HCE := Lib.hid hcell
            have hown := ownsRow_below HW.out.1 hbz
            have HWW := Lib.hid (HW.out.2.trans (hbz.mono hgs))
            have HSZ := Lib.hid hsz
            have RB := Lib.hid (PtI.r3_new wr (.int .i64 x0) (.int .i64 y0) (.int .i64 z0) 75)
            obtain ⟨c0, c1, c2, f0, f1, f2, lt1⟩ := RB.out
            have hi40 : i ≤ 40 := by omega
            clear hx0 hbz HW hcell hsz RB lt1
            go_wp2_with (at_builtin; refine wpList_append_own _ rfl _ _ 25 rfl w.heap.size 75 i0 (.agg #[.int .i64 0, .int .i64 0, .int .i64 0]) 3 24 Try.underlying25 hi hy0 hy1 hy2 rfl (by decide) _ _ _ rfl (hown.alloc _) ⟨wr.heap.size + 1, 0, none⟩ 1 1 [.int .i64 x0, .int .i64 (y0 + u), .int .i64 (z0 + v)] rfl rfl HCE.out (by simp [Value.oneCell']) (by unfold maxLen; omega) (by omega) (by simp; omega) ?_; intro v' w9 hown' hgrow hnil)
            have HG9 : Hid (R2 w.heap.size w w9 v' (i + 1) ((L.map (fw u v)).take (i + 1))) := by
              unfold Hid R2
              rw [HTK.out, flatD_app, flatD_one']
              exact ⟨hown', (HWW.out.alloc (by rw [HSZ.out]; omega) _).grown hgrow (by simp; omega) (fun j hj => (hown.lt j hj).1)⟩
            clear hown' hgrow hown hnil
            exact ⟨⟨i + 1, by omega, by go_num, HG9⟩, by simp [intOf]; omega⟩
          · obtain rfl : i = n := by omega
            have hii : ¬ (i : Int) < (i : Int) := by omega
            have HFU : Hid (wr.ownsRow w.heap.size 75 3 (.slice pv i dv) i (flatD (L.map (fw u v))) ∧ Below w.heap.size w wr) := by
              have := HW.out
              unfold R2 at this
              rw [List.take_of_length_le (by rw [List.length_map, HL.out]; exact Nat.le_refl _)] at this
              exact this
            have HV := Lib.hid (CvS.good_any pv i dv (L.map (fw u v)) wr hn (Cu.holds_ownD HFU.out.1))
            clear HW
            go_wp2_with fail
            refine HV.out.mono ?_
            rintro e w5 ⟨rfl, b⟩
            have HO5 := Lib.hid (And.intro (ownsRow_below HFU.out.1 b) (HFU.out.2.trans (b.mono HFU.out.2.size)))
            clear b HFU
            cases hs : cv (L.map (fw u v)) with
            | false =>
              have HF := Lib.hid (HR.out.trans (shP_no fun _ e => by rw [hs] at e; cases e))
              clear hs
              have he0 := below_alloc w5 (.cells #[] 75)
              have ho0 := AppT.empty_own w5
              have hb5 := HO5.out.2
              go_wp2_with fail
              go_ret2
              rw [HF.out]
              exact ⟨_, _, _, rfl, Keep.ownsRow_base ho0 hb5.size, by omega, hb5.trans (he0.mono hb5.size)⟩
            | true =>
              have HF := Lib.hid (HR.out.trans (shP_yes HU.out hs))
              clear hs
              go_wp2_with fail
              go_ret2
              rw [HF.out]
              exact ⟨_, _, _, rfl, HO5.out.1, hn, HO5.out.2⟩
      · have HF := Lib.hid (HR.out.trans (shP_no fun _ e => by rw [HOUT.out O.out (fun hx => h2 hx.2)] at e; cases e))
        rw [decide_eq_false h2]
        go_wp2_with fail
        go_ret2
        rw [HF.out]
        exact ⟨_, _, _, rfl, HG0.out.1, by omega, HG0.out.2⟩
    · have HF := Lib.hid (HR.out.trans (shP_no fun _ e => by rw [HOUT.out O.out (fun hx => h1 hx.1)] at e; cases e))
      rw [decide_eq_false h1]
      go_wp2_with fail
      go_ret2
      rw [HF.out]
      exact ⟨_, _, _, rfl, HG0.out.1, by omega, HG0.out.2⟩
end Go.Proofs.Ytlpcgchekhoieaa.ScS
