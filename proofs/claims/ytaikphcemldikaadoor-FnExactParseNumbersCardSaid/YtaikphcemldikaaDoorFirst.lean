/- The first part of a string that is split at a byte, and what strings.Cut gives: the same. No program in this text but for the parts. -/
import Derived.Test.YtaikphcemldikaaDoorSplit
import Derived.Lib.IndexLaws
import Derived.Lib.IndexBytes
import Derived.Lib.IndexMore
namespace Go.Proofs.YtaikphcemldikaaDoor.First
open Split

/-- Where the first part ends. -/
def idx (s : ByteArray) (b : UInt8) : Nat := if 0 ≤ Lib.indexByte s.data.toList b then (Lib.indexByte s.data.toList b).toNat else s.size
def first (s : ByteArray) (b : UInt8) : ByteArray := s.extract 0 (idx s b)

theorem st_none (s : ByteArray) (b : UInt8) (k : Nat) (h : ∀ j, j < k → s.data.toList[j]? ≠ some b) : st s b k = ([], 0) := by
  induction k with
  | zero => rfl
  | succ k ih =>
    rw [st, if_neg (h k (by omega))]
    exact ih fun j hj => h j (by omega)
theorem st_head (s : ByteArray) (b : UInt8) (i : Nat) (hi : s.data.toList[i]? = some b) (h : ∀ j, j < i → s.data.toList[j]? ≠ some b) :
    ∀ k, i < k → (st s b k).1.head? = some (s.extract 0 i) := by
  intro k
  induction k with
  | zero => intro hk; omega
  | succ k ih =>
    intro hk
    by_cases he : k = i
    · subst he
      rw [st, if_pos hi, st_none s b k h]
      rfl
    · have := ih (by omega)
      rw [st]
      split
      · simp only
        rw [List.head?_append, this]
        rfl
      · exact this
theorem parts_head (s : ByteArray) (b : UInt8) : (parts s b)[0]? = some (first s b) := by
  rw [← List.head?_eq_getElem?]
  unfold parts first idx
  by_cases h : 0 ≤ Lib.indexByte s.data.toList b
  · rw [if_pos h]
    obtain ⟨o, ho⟩ : ∃ o : Nat, Lib.indexByte s.data.toList b = o := ⟨_, (Int.toNat_of_nonneg h).symm⟩
    obtain ⟨h1, h2⟩ := Lib.indexByte_some ho
    have hlt : o < s.size := by
      have := (List.getElem?_eq_some_iff.1 h1).1
      simpa using this
    rw [ho, Int.toNat_natCast, List.head?_append, st_head s b o h1 h2 s.size hlt]
    rfl
  · rw [if_neg h]
    have hn : Lib.indexByte s.data.toList b = -1 := by have := Lib.indexByte_ge s.data.toList b; omega
    rw [st_none s b s.size (fun j _ => Lib.indexByte_none hn j)]
    rfl
theorem first_data (s : ByteArray) (b : UInt8) : (first s b).data.toList = s.data.toList.take (idx s b) := by
  unfold first
  rw [Lib.extract_data]
  simp
theorem first_size (s : ByteArray) (b : UInt8) : (first s b).size ≤ s.size := by
  unfold first
  simp
  omega
theorem idx_le (s : ByteArray) (b : UInt8) : idx s b ≤ s.size := by
  unfold idx
  split
  · rename_i h
    obtain ⟨o, ho⟩ : ∃ o : Nat, Lib.indexByte s.data.toList b = o := ⟨_, (Int.toNat_of_nonneg h).symm⟩
    obtain ⟨h1, _⟩ := Lib.indexByte_some ho
    have := (List.getElem?_eq_some_iff.1 h1).1
    rw [ho]
    simp at this ⊢
    omega
  · exact Nat.le_refl _
/-- The first part holds no such byte. -/
theorem first_clean (s : ByteArray) (b : UInt8) : (first s b).data.toList.contains b = false := by
  rw [first_data]
  cases hc : (s.data.toList.take (idx s b)).contains b with
  | false => rfl
  | true =>
    rw [List.contains_iff_mem] at hc
    obtain ⟨j, hj, he⟩ := List.getElem_of_mem hc
    have hj' : j < idx s b := by rw [List.length_take] at hj; omega
    have hj2 : s.data.toList[j]? = some b := by
      rw [List.getElem_take] at he
      rw [List.getElem?_eq_getElem (by rw [List.length_take] at hj; omega), he]
    unfold idx at hj'
    split at hj'
    · rename_i h
      obtain ⟨o, ho⟩ : ∃ o : Nat, Lib.indexByte s.data.toList b = o := ⟨_, (Int.toNat_of_nonneg h).symm⟩
      obtain ⟨_, h2⟩ := Lib.indexByte_some ho
      rw [ho] at hj'
      exact absurd hj2 (h2 j (by omega))
    · rename_i h
      have hn : Lib.indexByte s.data.toList b = -1 := by have := Lib.indexByte_ge s.data.toList b; omega
      exact absurd hj2 (Lib.indexByte_none hn j)
theorem cut_first (s : ByteArray) (b : UInt8) : (⟨(Lib.cut s.data.toList [b]).1.toArray⟩ : ByteArray) = first s b := by
  apply ByteArray.ext
  apply Array.toList_inj.1
  rw [first_data]
  unfold Lib.cut idx
  rw [Lib.index_one]
  split
  · simp
  · simp only
    rw [List.take_of_length_le (by simp)]
theorem cut_found (s : ByteArray) (b : UInt8) : (Lib.cut s.data.toList [b]).2.2 = decide (0 ≤ Lib.indexByte s.data.toList b) := by
  unfold Lib.cut
  rw [Lib.index_one]
  split <;> simp_all
theorem first_whole (s : ByteArray) (b : UInt8) (h : ¬ 0 ≤ Lib.indexByte s.data.toList b) : first s b = s := by
  unfold first idx
  rw [if_neg h]
  simp
end Go.Proofs.YtaikphcemldikaaDoor.First
