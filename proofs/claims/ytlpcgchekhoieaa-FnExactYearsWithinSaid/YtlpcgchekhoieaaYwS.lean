/- YearsWithin: the model. -/
import Derived.Test.YtlpcgchekhoieaaYwI
import Derived.Test.YtlpcgchekhoieaaPtS
namespace Go.Proofs.Ytlpcgchekhoieaa.YwS
open Go Go.RowKit Pairs Rec Keep GivesI Cu CvM PtM CuG Yr YwI
set_option linter.unusedVariables false
/-- The years of the first k that are in the list. -/
def fk (L : List Dt) (lo hi t0 t1 : Int) (k : Nat) : List Int := ((yrs t0 t1).take k).filter (inR L lo hi)
theorem fk_len {L : List Dt} {lo hi t0 t1 : Int} {k : Nat} : (fk L lo hi t0 t1 k).length ≤ k := by
  unfold fk
  have h1 := List.length_filter_le (inR L lo hi) ((yrs t0 t1).take k)
  rw [List.length_take] at h1
  omega
theorem fk_next {L : List Dt} {lo hi t0 t1 : Int} {k : Nat} (h : k < (t1 + 1 - t0).toNat) : fk L lo hi t0 t1 (k + 1) = fk L lo hi t0 t1 k ++ (if inR L lo hi (t0 + (k : Int)) = true then [t0 + (k : Int)] else []) := by
  unfold fk
  rw [yrs_take h, List.filter_append]
  congr 1
  rw [List.filter_cons]
  rfl
theorem fk_full {L : List Dt} {lo hi t0 t1 : Int} {k : Nat} (h : k = (t1 + 1 - t0).toNat) : fk L lo hi t0 t1 k = (yrs t0 t1).filter (inR L lo hi) := by
  unfold fk
  rw [List.take_of_length_le (by rw [yrs_len]; omega)]
set_option maxRecDepth 100000 in
set_option maxHeartbeats 8000000 in
theorem spec_any : YwI.Says 21 := by
  intro a n L lo hi w hn h
  obtain ⟨i0, hi', hy0, hy1, hy2⟩ := info_parts IntT.infoI
  have hb0 := below_alloc w (.cells #[] 3)
  have HL := Lib.hid h.1
  have H := Lib.hid h
  have HH := Lib.hid (h.below hb0)
  have HG0 : Hid (TnI.G1 w.heap.size w (w.alloc (.cells #[] 3)) (.slice (some ⟨w.heap.size, 0, none⟩) 0 0) []) := ⟨AppI.empty_own w, hb0⟩
  obtain ⟨r, hr⟩ : ∃ r, r = ywP L lo hi := ⟨_, rfl⟩
  rw [← hr]
  have HR := Lib.hid hr
  clear hr h hb0
  go_enter Try.func21, Try.ntmps21
  go_wp2_with fail
  generalize w.alloc (.cells #[] 3) = W at *
  refine (CvS.good_any a n n L W hn HH.out).mono ?_
  rintro e w2 ⟨rfl, b⟩
  replace HG0 : Hid (TnI.G1 w.heap.size w w2 (.slice (some ⟨w.heap.size, 0, none⟩) 0 0) []) := ⟨ownsRow_below HG0.out.1 b, HG0.out.2.trans (b.mono HG0.out.2.size)⟩
  clear b HH
  cases hu : cv L with
  | false =>
    have HF := Lib.hid (HR.out.trans (ywP_bad hu))
    clear hu
    go_wp2_with fail
    go_ret2
    rw [HF.out]
    exact ⟨_, _, _, rfl, HG0.out.1, by omega, HG0.out.2⟩
  | true =>
    have O := Lib.hid (cv_iff.1 hu)
    have HY := Lib.hid (HR.out.trans (ywP_yes hu))
    have hn2 : 2 ≤ n := by have := O.out.lo; rw [HL.out] at this; exact this
    have hn40 : n ≤ 40 := by have := O.out.len; rw [HL.out] at this; exact this
    rw [HL.out] at HY
    have hya := (O.out.p (i := 0) (by rw [HL.out]; omega)).y
    have hyb := (O.out.p (i := n - 1) (by rw [HL.out]; omega)).y
    have hle := le_pt O.out (i := 0) (j := n - 1) (by omega) (by rw [HL.out]; omega)
    have hsp := O.out.span
    rw [HL.out] at hsp
    have HIC : Hid (∀ y, inC L y = decide ((pt L 0).1 ≤ y ∧ y ≤ (pt L (n - 1)).1)) := fun y => by unfold inC; rw [HL.out]
    obtain ⟨m, hmm⟩ : ∃ m, n - 1 = m := ⟨_, rfl⟩
    rw [hmm] at HY hyb hle hsp HIC
    have hm1 : IntKind.i64.wrap ((n : Int) - 1) = (m : Int) := by rw [IntKind.wrap_i64]; omega
    have hm1' : wrap64 ((n : Int) - 1) = (m : Int) := by unfold wrap64; omega
    have hm0 : (0 : Int) ≤ (m : Int) := by omega
    have hmn : (m : Int) < (n : Int) := by omega
    have hmn' : m < n := by omega
    have hn0 : (0 : Int) < (n : Int) := by omega
    have HP0 : Hid (∀ q, L[0]? = some q → q.1 = (pt L 0).1) := fun q hq => by rw [pt_of hq]
    have HPm : Hid (∀ q, L[m]? = some q → q.1 = (pt L m).1) := fun q hq => by rw [pt_of hq]
    generalize (pt L 0).1 = t0 at *
    generalize (pt L m).1 = t1 at *
    obtain ⟨N, hN⟩ : ∃ N, (t1 + 1 - t0).toNat = N := ⟨_, rfl⟩
    have HN := Lib.hid hN
    have hN1 : N ≤ 400 := by omega
    have HT : Hid (t1 = t0 + (N : Int) - 1) := by unfold Hid; omega
    replace HG0 : Hid (TnI.G1 w.heap.size w w2 (.slice (some ⟨w.heap.size, 0, none⟩) 0 0) (fk L lo hi t0 t1 0)) := HG0
    obtain ⟨b, off, x, u, z, rfl, hx, e1, e2, e3⟩ := H.out.at 0 (by omega)
    have hx0 := HP0.out _ hx
    simp only at hx0
    subst hx0
    rw [Nat.zero_mul, Nat.add_zero] at e1
    have e1' := (HG0.out.2.cell (World.block_lt_of_cell? w _ e1)).trans e1
    clear hu HR hx e2 e3 hN hmm e1
    go_wp2_with fail
    clear e1'
    go_loopw [8, 9] (fun s8 s9 wr => ∃ k : Nat, k ≤ N ∧ s9 = .int .i64 (x + (k : Int)) ∧ Hid (TnI.G1 w.heap.size w wr s8 (fk L lo hi x t1 k))) (fun _ s9 _ => (x + (N : Int) - intOf s9).toNat)
    case atStart => exact ⟨0, Nat.zero_le _, by simp, HG0⟩
    case round =>
      clear HG0
      obtain ⟨k, hk, rfl, HRk⟩ := hrel
      obtain ⟨b1, off1, x1, u1, z1, hb1, hx1, g1, g2, g3⟩ := (H.out.below HRk.out.2).at m hmn'
      injection hb1 with hb1
      injection hb1 with hb1 ho1
      subst hb1 ho1
      have hxm := HPm.out _ hx1
      simp only at hxm
      subst hxm
      have hlen := fk_len (L := L) (lo := lo) (hi := hi) (t0 := x) (t1 := x1) (k := k)
      obtain ⟨pv, dv, rfl⟩ := TnI.own_form HRk.out.1
      clear hx1 g2 g3
      by_cases hlt : k < N
      · have hle : x + (k : Int) ≤ x1 := by have := HT.out; omega
        have HNX := Lib.hid (fk_next (L := L) (lo := lo) (hi := hi) (t0 := x) (t1 := x1) (k := k) (by rw [HN.out]; exact hlt))
        have hin : inC L (x + (k : Int)) = true := by rw [HIC.out]; exact decide_eq_true ⟨by omega, hle⟩
        have HC := Lib.hid (PtS.at_any (some ⟨b, off, none⟩) n n L (x + (k : Int)) wr hn O.out hin (H.out.below HRk.out.2))
        have HIN : Hid (inR L lo hi (x + (k : Int)) = decide (lo ≤ (ptR L (x + (k : Int))).1.2.1 ∧ (ptR L (x + (k : Int))).1.2.1 ≤ hi)) := by unfold Hid inR; rw [Bool.decide_and]
        have hl400 : (fk L lo hi x x1 k).length ≤ 400 := by omega
        generalize ptR L (x + (k : Int)) = q at *
        obtain ⟨⟨q1, q2, q3⟩, ok⟩ := q
        simp only at HC HIN
        clear hin hlen
        go_wp2_with fail
        refine HC.out.mono ?_
        rintro e w8 ⟨rfl, rfl, b8⟩
        have hown := ownsRow_below HRk.out.1 b8
        have HW8 := Lib.hid (HRk.out.2.trans (b8.mono HRk.out.2.size))
        have hw8 := HW8.out.size
        clear b8 HRk HC g1
        go_wp2_with fail
        refine (DvG.l1In_any q2 lo hi _).mono ?_
        rintro e w9' ⟨rfl, rfl⟩
        by_cases hq : lo ≤ q2 ∧ q2 ≤ hi
        · rw [decide_eq_true hq]
          have HNY : Hid (fk L lo hi x x1 (k + 1) = fk L lo hi x x1 k ++ [x + (k : Int)]) := HNX.out.trans (by rw [HIN.out, decide_eq_true hq, if_pos rfl])
          clear HNX HIN
          go_wp2_with (at_builtin; refine wpList_append_own _ rfl _ _ 32 rfl w.heap.size 3 i0 (.int .i64 0) 1 8 Try.underlying32 hi' hy0 hy1 hy2 rfl (by decide) _ _ _ rfl (hown.alloc _) ⟨w9'.heap.size, 0, none⟩ 1 1 [.int .i64 (x + (k : Int))] rfl rfl (TnI.cell_one_new _ _ _) (by simp [Value.oneCell']) (by unfold maxLen; omega) (by omega) (by simp; omega) ?_; intro v' w9 hown' hgrow hnil)
          have hG : TnI.G1 w.heap.size w w9 v' (fk L lo hi x x1 (k + 1)) := by
            unfold TnI.G1
            rw [HNY.out, List.length_append, TnI.ints_append]
            exact ⟨hown', (HW8.out.alloc hw8 _).grown hgrow (by simp; omega) (fun j hj => (hown.lt j hj).1)⟩
          have HG := Lib.hid hG
          clear hG hown' hgrow hown hnil
          exact ⟨⟨k + 1, by omega, by congr 1; omega, HG⟩, by simp [intOf]; omega⟩
        · rw [decide_eq_false hq]
          have HNY : Hid (fk L lo hi x x1 (k + 1) = fk L lo hi x x1 k) := HNX.out.trans (by rw [HIN.out, decide_eq_false hq]; simp)
          have HG : Hid (TnI.G1 w.heap.size w w9' (.slice pv (fk L lo hi x x1 k).length dv) (fk L lo hi x x1 (k + 1))) := by
            unfold Hid
            rw [HNY.out]
            exact ⟨hown, HW8.out⟩
          clear HNX HIN hown
          go_wp2_with fail
          exact ⟨⟨k + 1, by omega, by congr 1; omega, HG⟩, by simp [intOf]; omega⟩
      · obtain rfl : k = N := by omega
        have hle : ¬ x + (k : Int) ≤ x1 := by have := HT.out; omega
        have hl : (fk L lo hi x x1 k).length ≤ 1048576 := by omega
        rw [← fk_full HN.out.symm] at HY
        clear hlen
        go_wp2_with fail
        go_ret2
        rw [HY.out]
        exact ⟨_, _, _, rfl, HRk.out.1, hl, HRk.out.2⟩
end Go.Proofs.Ytlpcgchekhoieaa.YwS
