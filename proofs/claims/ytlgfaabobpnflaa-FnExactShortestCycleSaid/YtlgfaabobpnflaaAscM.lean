/- The Lower contexts of a context ascend. -/
import Derived.Test.YtlgfaabobpnflaaChain
import Derived.Test.YtlgfaabobpnflaaRelM
namespace Go.Proofs.Ytlgfaabobpnflaa.AscM
open Pairs Find2 GoodM RelM Chain
theorem okR_before {l m : List (Int × Int)} {k : Nat} {x y : Int × Int} (h : okR l m (k + 1) = true) (hx : m[k]? = some x) (hy : m[k + 1]? = some y) : before x y = true := by
  unfold okR at h
  rw [hy, Nat.add_sub_cancel, hx] at h
  rw [before_iff]
  simp at h
  omega
theorem pairwise_before {l m : List (Int × Int)} (h : good l m = true) : m.Pairwise (fun x y => before x y = true) := by
  rw [List.pairwise_iff_getElem]
  intro i j hi hj hij
  have hR : ∀ j, j < m.length → okR l m j = true := by
    unfold good at h
    simp only [Bool.and_eq_true, List.all_eq_true] at h
    exact fun j hj => h.2 j (List.mem_range.2 hj)
  have step : ∀ (d i : Nat) (x y : Int × Int), m[i]? = some x → m[i + d + 1]? = some y → before x y = true := by
    intro d
    induction d with
    | zero =>
      intro i x y hx hy
      exact okR_before (hR (i + 1) (List.getElem?_eq_some_iff.1 hy).1) hx hy
    | succ d ih =>
      intro i x y hx hy
      have hl : i + d + 1 < m.length := by have := (List.getElem?_eq_some_iff.1 hy).1; omega
      have hz : m[i + d + 1]? = some m[i + d + 1] := List.getElem?_eq_getElem hl
      exact before_trans (ih i x _ hx hz) (okR_before (hR (i + d + 1 + 1) (List.getElem?_eq_some_iff.1 hy).1) hz hy)
  obtain ⟨d, rfl⟩ : ∃ d, j = i + d + 1 := ⟨j - i - 1, by omega⟩
  exact step d i _ _ (List.getElem?_eq_getElem hi) (List.getElem?_eq_getElem hj)
theorem lows_sorted {l m : List (Int × Int)} (h : good l m = true) (a : Int) : (lows m a).Pairwise (· < ·) := by
  unfold lows
  rw [List.pairwise_map]
  have h1 := (pairwise_before h).filter (fun p => p.1 == a)
  refine List.Pairwise.imp_of_mem ?_ h1
  intro x y hx hy hb
  have e1 : x.1 = a := by simpa using (List.mem_filter.1 hx).2
  have e2 : y.1 = a := by simpa using (List.mem_filter.1 hy).2
  rw [before_iff] at hb
  omega
end Go.Proofs.Ytlgfaabobpnflaa.AscM
