/- How much later, the mathematics: the model's double loop. -/
import Derived.Test.YtfnbjfmegikciaaLbC
namespace Go.Proofs.Ytfnbjfmegikciaa.LbM
open DvM Yr AtM LbC
/-- The sum over the first i weights of a, at place j. -/
def S (Ma : List Int) (fb : Int) (Mb : List Int) (i : Nat) (j : Nat) : Int := ((List.range i).map fun (i' : Nat) => Ma.getD i' 0 * wat fb Mb (fb + ((j : Int) + i' - Ma.length + 1))).sum
theorem S_succ (Ma : List Int) (fb : Int) (Mb : List Int) (i j : Nat) : S Ma fb Mb (i + 1) j = S Ma fb Mb i j + Ma.getD i 0 * wat fb Mb (fb + ((j : Int) + i - Ma.length + 1)) := by
  unfold S
  rw [List.range_succ, List.map_append, List.sum_append]
  simp
/-- The row, with i weights of a done and k weights of b of the next one. -/
def W (Ma : List Int) (fb : Int) (Mb : List Int) (N i k : Nat) : List Int := (List.range N).map fun (j : Nat) => S Ma fb Mb i j + (if 0 ≤ (j : Int) + i - Ma.length + 1 ∧ (j : Int) + i - Ma.length + 1 < k then Ma.getD i 0 * wat fb Mb (fb + ((j : Int) + i - Ma.length + 1)) else 0)
theorem W_len (Ma : List Int) (fb : Int) (Mb : List Int) (N i k : Nat) : (W Ma fb Mb N i k).length = N := by unfold W; simp
theorem W_at {Ma : List Int} {fb : Int} {Mb : List Int} {N i k j : Nat} (h : j < N) : (W Ma fb Mb N i k)[j]? = some (S Ma fb Mb i j + (if 0 ≤ (j : Int) + i - Ma.length + 1 ∧ (j : Int) + i - Ma.length + 1 < k then Ma.getD i 0 * wat fb Mb (fb + ((j : Int) + i - Ma.length + 1)) else 0)) := by
  unfold W
  rw [List.getElem?_map, List.getElem?_range h]
  rfl
theorem W_start (Ma : List Int) (fb : Int) (Mb : List Int) (N : Nat) : W Ma fb Mb N 0 0 = List.replicate N 0 := by
  apply List.ext_getElem?
  intro j
  by_cases h : j < N
  · rw [W_at h, List.getElem?_replicate, if_pos h, if_neg (by omega)]
    simp [S]
  · rw [List.getElem?_eq_none (by rw [W_len]; omega), List.getElem?_eq_none (by simp; omega)]
theorem W_row (Ma : List Int) (fb : Int) (Mb : List Int) (N i : Nat) : W Ma fb Mb N i Mb.length = W Ma fb Mb N (i + 1) 0 := by
  apply List.ext_getElem?
  intro j
  by_cases h : j < N
  · rw [W_at h, W_at h, S_succ, if_neg (c := 0 ≤ (j : Int) + ((i + 1 : Nat) : Int) - Ma.length + 1 ∧ (j : Int) + ((i + 1 : Nat) : Int) - Ma.length + 1 < ((0 : Nat) : Int)) (by omega), Int.add_zero]
    by_cases hc : 0 ≤ (j : Int) + i - Ma.length + 1 ∧ (j : Int) + i - Ma.length + 1 < (Mb.length : Int)
    · rw [if_pos hc]
    · rw [if_neg hc, wat_out (by omega), Int.mul_zero]
  · rw [List.getElem?_eq_none (by rw [W_len]; omega), List.getElem?_eq_none (by rw [W_len]; omega)]
theorem W_step {Ma : List Int} {fb : Int} {Mb : List Int} {N i k at' : Nat} (x y v : Int) (hx : Ma[i]? = some x) (hy : Mb[k]? = some y) (ha : (at' : Int) = k - i + Ma.length - 1) (hN : at' < N) (hv : (W Ma fb Mb N i k)[at']? = some v) :
    (W Ma fb Mb N i k).set at' (v + x * y) = W Ma fb Mb N i (k + 1) := by
  have hk := (List.getElem?_eq_some_iff.1 hy).1
  apply List.ext_getElem?
  intro j
  by_cases h : j < N
  · by_cases e : j = at'
    · subst e
      rw [List.getElem?_set_self (by rw [W_len]; exact hN), W_at h, if_pos (by omega)]
      rw [W_at h, if_neg (by omega)] at hv
      injection hv with hv
      rw [← hv, getD_of hx, Int.add_zero, wat_in (f := fb) (M := Mb) (x := y) (by omega) (by rw [show (fb + ((j : Int) + i - Ma.length + 1) - fb).toNat = k by omega]; exact hy)]
    · rw [List.getElem?_set_ne (Ne.symm e), W_at h, W_at h]
      congr 2
      by_cases hc : 0 ≤ (j : Int) + i - Ma.length + 1 ∧ (j : Int) + i - Ma.length + 1 < (k : Int)
      · rw [if_pos hc, if_pos (by omega)]
      · rw [if_neg hc, if_neg (by omega)]
  · rw [List.getElem?_eq_none (by rw [List.length_set, W_len]; omega), List.getElem?_eq_none (by rw [W_len]; omega)]
theorem W_end {fa : Int} {Ma : List Int} {fb : Int} {Mb : List Int} {N : Nat} (hN : N = (fb + Mb.length - 1 - fa + 1 - (fb - (fa + Ma.length - 1))).toNat) :
    W Ma fb Mb N Ma.length 0 = (yrs (fb - (fa + Ma.length - 1)) (fb + Mb.length - 1 - fa)).map fun n => lw fa Ma fb Mb n (yrs fa (fa + Ma.length - 1)) := by
  apply List.ext_getElem?
  intro j
  by_cases h : j < N
  · rw [W_at h, if_neg (by omega), Int.add_zero, List.getElem?_map, yrs_at (by omega)]
    show some _ = some _
    congr 1
    unfold S lw yrs
    show _ = (List.map (fun y => wat fa Ma y * wat fb Mb (y + (fb - (fa + (Ma.length : Int) - 1) + (j : Int)))) (List.map (fun (i : Nat) => fa + (i : Int)) (List.range (fa + (Ma.length : Int) - 1 + 1 - fa).toNat))).sum
    rw [List.map_map, show (fa + (Ma.length : Int) - 1 + 1 - fa).toNat = Ma.length by omega]
    congr 1
    refine List.map_congr_left fun i hi => ?_
    have hil := List.mem_range.1 hi
    show _ = wat fa Ma (fa + i) * wat fb Mb (fa + i + _)
    rw [wat_in (f := fa) (M := Ma) (y := fa + (i : Int)) (x := Ma[i]) (by omega) (by rw [show (fa + (i : Int) - fa).toNat = i by omega]; exact List.getElem?_eq_getElem hil), getD_of (List.getElem?_eq_getElem hil)]
    congr 2
    omega
  · rw [List.getElem?_eq_none (by rw [W_len]; omega), List.getElem?_eq_none (by rw [List.length_map, yrs_len]; omega)]
theorem S_bd {Ma : List Int} {fb : Int} {Mb : List Int} (ha : ∀ x ∈ Ma, 0 ≤ x ∧ x ≤ 1000000) (hb : ∀ x ∈ Mb, 0 ≤ x ∧ x ≤ 1000000) (j : Nat) : ∀ i : Nat, 0 ≤ S Ma fb Mb i j ∧ S Ma fb Mb i j ≤ 1000000000000 * i
  | 0 => by simp [S]
  | i + 1 => by
    have ih := S_bd (fb := fb) ha hb j i
    have h2 := wat_bd (f := fb) (m := 1000000) (by omega) hb (fb + ((j : Int) + i - Ma.length + 1))
    have h1 : 0 ≤ Ma.getD i 0 ∧ Ma.getD i 0 ≤ 1000000 := by
      rcases Nat.lt_or_ge i Ma.length with h | h
      · rw [getD_of (List.getElem?_eq_getElem h)]
        exact ha _ (List.getElem_mem h)
      · rw [List.getD_eq_getElem?_getD, List.getElem?_eq_none h]
        simp
    have m1 : 0 ≤ Ma.getD i 0 * wat fb Mb (fb + ((j : Int) + i - Ma.length + 1)) := Int.mul_nonneg h1.1 h2.1
    have m2 : Ma.getD i 0 * wat fb Mb (fb + ((j : Int) + i - Ma.length + 1)) ≤ 1000000 * 1000000 := Int.mul_le_mul h1.2 h2.2 h2.1 (by omega)
    rw [S_succ]
    omega
end Go.Proofs.Ytfnbjfmegikciaa.LbM
