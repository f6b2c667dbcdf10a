/- Weights at years and their sums, the mathematics. -/
import Derived.Test.YtfbgekhkbbhggaaDvM
import Derived.Test.YtfbgekhkbbhggaaYr
namespace Go.Proofs.Ytfbgekhkbbhggaa.AtM
open DvM Yr
/-- The weight of a year. -/
def wat (f : Int) (M : List Int) (y : Int) : Int := if f ≤ y ∧ y ≤ f + M.length - 1 then M.getD (y - f).toNat 0 else 0
theorem wat_out {f : Int} {M : List Int} {y : Int} (h : ¬ (f ≤ y ∧ y ≤ f + M.length - 1)) : wat f M y = 0 := by unfold wat; rw [if_neg h]
theorem wat_in {f : Int} {M : List Int} {y x : Int} (h : f ≤ y) (hx : M[(y - f).toNat]? = some x) : wat f M y = x := by
  have := (List.getElem?_eq_some_iff.1 hx).1
  unfold wat
  rw [if_pos ⟨h, by omega⟩, getD_of hx]
theorem wat_bd {f : Int} {M : List Int} {m : Int} (hm : 0 ≤ m) (h : ∀ x ∈ M, 0 ≤ x ∧ x ≤ m) (y : Int) : 0 ≤ wat f M y ∧ wat f M y ≤ m := by
  unfold wat
  split
  · rename_i hh
    have hl : (y - f).toNat < M.length := by omega
    rw [getD_of (List.getElem?_eq_getElem hl)]
    exact h _ (List.getElem_mem hl)
  · exact ⟨Int.le_refl _, hm⟩
/-- The sum of weights of a list of years. -/
def sw (f : Int) (M : List Int) (ys : List Int) : Int := (ys.map (wat f M)).sum
theorem sw_nil (f : Int) (M : List Int) : sw f M [] = 0 := rfl
theorem sw_app (f : Int) (M : List Int) (ys : List Int) (y : Int) : sw f M (ys ++ [y]) = sw f M ys + wat f M y := by
  unfold sw
  rw [List.map_append, List.sum_append]
  simp
theorem sw_bd {f : Int} {M : List Int} {m : Int} (hm : 0 ≤ m) (h : ∀ x ∈ M, 0 ≤ x ∧ x ≤ m) : ∀ ys : List Int, 0 ≤ sw f M ys ∧ sw f M ys ≤ m * ys.length
  | [] => by rw [sw_nil]; simp
  | y :: ys => by
    have ih := sw_bd (f := f) hm h ys
    have hb := wat_bd (f := f) hm h y
    have e : sw f M (y :: ys) = wat f M y + sw f M ys := rfl
    rw [e, List.length_cons]
    constructor
    · omega
    · have : m * ((ys.length + 1 : Nat) : Int) = m * ys.length + m := by rw [Int.natCast_add, Int.mul_add]; simp
      omega
theorem map_wat (f : Int) (M : List Int) : (yrs f (f + M.length - 1)).map (wat f M) = M := by
  apply List.ext_getElem?
  intro i
  by_cases h : i < M.length
  · rw [List.getElem?_map, yrs_at (by omega), List.getElem?_eq_getElem h]
    show some (wat f M (f + i)) = _
    rw [wat_in (x := M[i]) (by omega) (by rw [show (f + (i : Int) - f).toNat = i by omega]; exact List.getElem?_eq_getElem h)]
  · rw [List.getElem?_eq_none (by rw [List.length_map, yrs_len]; omega), List.getElem?_eq_none (by omega)]
theorem sw_all (f : Int) (M : List Int) : sw f M (yrs f (f + M.length - 1)) = M.sum := by unfold sw; rw [map_wat]
end Go.Proofs.Ytfbgekhkbbhggaa.AtM
