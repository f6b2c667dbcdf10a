/- A row put in place of another. -/
import Derived.Test.YtcbfnhghhbgdkaaExactResolvesRecordSaidPartai
import Derived.Test.YtcbfnhghhbgdkaaExactResolvesRecordSaidPartat
namespace Go.Proofs.Ytcbfnhghhbgdkaa.DelI
open Go.RowKit Go.Sort Pairs Rec Keep GivesI
theorem heap_put {α : Type} [Inhabited α] (enc : α → Value) (w : World) (q g : Nat) (d : Array α) {cur : Array Value} {T : TypeId} {fr : Nat × Nat} (h : w.heap[g]? = some (.cells cur T fr)) :
    (putRow enc (Sort.ahead w q) g 0 d).heap[g]? = some (.cells (putCells enc 0 d cur) T fr) := by
  simp [putRow, mapBlock, Array.getElem?_modify, h, onCells, Sort.ahead]
theorem kept_put {α : Type} [Inhabited α] (enc : α → Value) (w : World) (q g off : Nat) (d : Array α) : Kept (fun b => b = g) w (putRow enc (Sort.ahead w q) g off d) := by
  refine ⟨rfl, rfl, rfl, by simp [Sort.ahead], fun k _ hs => ?_⟩
  have hs' : ¬ k = g := hs
  simp [putRow, mapBlock, Array.getElem?_modify, Sort.ahead, Ne.symm hs']
end Go.Proofs.Ytcbfnhghhbgdkaa.DelI
/- slices.Reverse over ints, of a row of its own. -/
namespace Go.Proofs.Ytcbfnhghhbgdkaa.RevI
open Go.RowKit Go.Sort Pairs Rec Keep GivesI DelI
theorem rev_any (B g n c : Nat) (L : List Int) (w : World) (hn : n ≤ 1048576) (h : w.ownsRow B 3 1 (.slice (some ⟨g, 0, none⟩) n c) n (ints L)) :
    Calls Try.prog 48 #[.slice (some ⟨g, 0, none⟩) n c] w fun e w' => e = .returned (.tuple #[]) ∧
      w'.ownsRow B 3 1 (.slice (some ⟨g, 0, none⟩) n c) n (ints L.reverse) ∧ Kept (fun b => b = g) w w' := by
  obtain ⟨hl, ⟨hv, _⟩ | ⟨g', cap, cur, hv, hB, hg, hnc, hm, hs, ht⟩⟩ := h
  · injection hv with hv
    cases hv
  injection hv with hv1 hv2 hv3
  injection hv1 with hv1
  injection hv1 with hv1
  subst hv1 hv3
  rw [ints_len] at hl
  have hLn : L.length = n := by omega
  subst hLn
  have hs' : cur.size = c := by omega
  have hc : ∀ j, j < L.length → cur[j]? = some (Value.int .i64 (L.toArray[j]!)) := by
    intro j hj
    have e : (cur.toList.take (L.length * 1))[j]? = (ints L)[j]? := by rw [ht]
    rw [List.getElem?_take_of_lt (by omega), Array.getElem?_toList] at e
    rw [e]
    unfold ints
    rw [List.getElem?_map, List.getElem?_eq_getElem hj, getElem!_pos L.toArray j (by simpa using hj)]
    simp
  have hH : Sort.Holds (Value.int .i64) w g 0 L.toArray := by
    intro j hj
    have hj' : j < L.length := by simpa using hj
    rw [Nat.zero_add]
    refine ⟨?_, ?_⟩
    · simp only [World.cell?, hg]
      exact hc j hj'
    · simp [World.frozen?, hg]
  refine (Try.slices_Reverse_int g 0 c L w hH (by omega)).mono ?_
  rintro e w' ⟨rfl, q, rfl⟩
  have hEl : L.reverse.length = L.length := List.length_reverse
  refine ⟨rfl, ⟨by rw [ints_len, hEl, Nat.mul_one], .inr ⟨g, c, _, rfl, hB, heap_put _ _ _ _ _ hg, by omega, hm, by simp [putCells, hs], ?_⟩⟩, kept_put _ _ _ _ _ _⟩
  rw [Nat.mul_one]
  apply List.ext_getElem?
  intro k
  by_cases hk : k < L.length
  · rw [List.getElem?_take_of_lt hk, Array.getElem?_toList]
    simp only [putCells, Array.getElem?_mapIdx]
    rw [hc k (by omega)]
    simp only [Option.map_some]
    rw [if_pos ⟨Nat.zero_le _, by simp; omega⟩]
    unfold ints
    rw [List.getElem?_map, List.getElem?_eq_getElem (by rw [hEl]; exact hk), getElem!_pos _ _ (by simp; omega)]
    simp only [Nat.sub_zero, Option.map_some, List.getElem_toArray]
  · rw [List.getElem?_eq_none (by rw [List.length_take]; omega), List.getElem?_eq_none (by rw [ints_len, hEl]; omega)]
end Go.Proofs.Ytcbfnhghhbgdkaa.RevI
