/- Splitting at a byte and joining again: the parts are free of the byte, and joined with it they are the string. No program in this text but for the names. -/
import Derived.Test.YtkoickdndjfnhaaJn
import Derived.Test.YtkoickdndjfnhaaImplSplit
namespace Go.Proofs.Ytkoickdndjfnhaa.Round
open Split Strs Jn Stands

/-- The parts, each with the separator behind it. -/
def cat (sep : List UInt8) : List ByteArray → List UInt8
  | [] => []
  | x :: r => x.data.toList ++ sep ++ cat sep r
theorem cat_snoc (sep : List UInt8) (x : ByteArray) : ∀ l, cat sep (l ++ [x]) = cat sep l ++ (x.data.toList ++ sep)
  | [] => by simp [cat]
  | y :: r => by rw [List.cons_append, cat, cat, cat_snoc sep x r]; simp [List.append_assoc]
theorem cat_inter (sep : List UInt8) : ∀ l : List ByteArray, l ≠ [] → cat sep l = sep.intercalate (l.map fun x => x.data.toList) ++ sep
  | [], h => absurd rfl h
  | [x], _ => by simp [cat, List.intercalate]
  | x :: y :: r, _ => by
    have h := cat_inter sep (y :: r) (by simp)
    rw [cat, h]
    simp [List.intercalate, List.append_assoc]
theorem inter_cat (sep : List UInt8) (x : ByteArray) (l : List ByteArray) : sep.intercalate ((l ++ [x]).map fun x => x.data.toList) = cat sep l ++ x.data.toList := by
  rw [List.map_append, List.map_cons, List.map_nil]
  cases l with
  | nil => simp [cat, List.intercalate]
  | cons y r =>
    rw [inter_snoc _ _ _ (by simp), cat_inter sep (y :: r) (by simp)]

theorem ext_data (s : ByteArray) (f k : Nat) : (s.extract f k).data.toList = (s.data.toList.drop f).take (k - f) := Lib.extract_data s f k
theorem take_split (l : List UInt8) (f k : Nat) (h : f ≤ k) : l.take k = l.take f ++ (l.drop f).take (k - f) := by
  have e := List.take_add (l := l) (i := f) (j := k - f)
  rw [show f + (k - f) = k by omega] at e
  exact e

theorem st_inv (s : ByteArray) (c : UInt8) : ∀ k, k ≤ s.size → cat [c] (st s c k).1 = s.data.toList.take (st s c k).2 ∧ (∀ j, (st s c k).2 ≤ j → j < k → s.data.toList[j]? ≠ some c) ∧ (∀ x ∈ (st s c k).1, hasB x.data.toList c = false) := by
  intro k
  induction k with
  | zero => intro _; exact ⟨by simp [st, cat], fun j _ hj => absurd hj (by omega), fun x hx => by cases hx⟩
  | succ k ih =>
    intro hk
    obtain ⟨h1, h2, h3⟩ := ih (by omega)
    have hbd := st_bd s c k
    rw [show st s c (k + 1) = if s.data.toList[k]? = some c then ((st s c k).1 ++ [s.extract (st s c k).2 k], k + 1) else st s c k from rfl]
    split
    · rename_i hit
      refine ⟨?_, fun j hj1 hj2 => absurd hj1 (by simp only; omega), ?_⟩
      · simp only
        rw [cat_snoc, h1, ext_data, ← List.append_assoc, ← take_split _ _ _ hbd.1]
        obtain ⟨hlt, he⟩ := List.getElem?_eq_some_iff.1 hit
        rw [List.take_succ_eq_append_getElem hlt, he]
      · intro x hx
        rcases List.mem_append.1 hx with hx | hx
        · exact h3 x hx
        · obtain rfl := List.mem_singleton.1 hx
          unfold hasB
          cases hc : (s.extract (st s c k).2 k).data.toList.contains c with
          | false => rfl
          | true =>
            rw [List.contains_iff_mem, ext_data] at hc
            obtain ⟨j, hj, he⟩ := List.getElem_of_mem hc
            rw [List.length_take, List.length_drop] at hj
            rw [List.getElem_take, List.getElem_drop] at he
            exact absurd (by rw [List.getElem?_eq_getElem (by omega), he]) (h2 ((st s c k).2 + j) (by omega) (by omega))
    · rename_i miss
      refine ⟨h1, fun j hj1 hj2 => ?_, h3⟩
      by_cases he : j = k
      · subst he; exact miss
      · exact h2 j hj1 (by omega)

theorem parts_clean (s : ByteArray) (c : UInt8) : ∀ x ∈ parts s c, hasB x.data.toList c = false := by
  obtain ⟨_, h2, h3⟩ := st_inv s c s.size (Nat.le_refl _)
  intro x hx
  unfold parts at hx
  rcases List.mem_append.1 hx with hx | hx
  · exact h3 x hx
  · obtain rfl := List.mem_singleton.1 hx
    unfold hasB
    cases hc : (s.extract (st s c s.size).2 s.size).data.toList.contains c with
    | false => rfl
    | true =>
      rw [List.contains_iff_mem, ext_data] at hc
      obtain ⟨j, hj, he⟩ := List.getElem_of_mem hc
      rw [List.length_take, List.length_drop] at hj
      rw [List.getElem_take, List.getElem_drop] at he
      exact absurd (by rw [List.getElem?_eq_getElem (by omega), he]) (h2 ((st s c s.size).2 + j) (by omega) (by omega))
theorem parts_join (s : ByteArray) (c : UInt8) (sep : ByteArray) (hs : sep.data.toList = [c]) : jn sep (parts s c) (parts s c).length = s := by
  apply ByteArray.ext
  apply Array.toList_inj.1
  rw [jn_join sep _ _ (Nat.le_refl _), List.take_length, hs]
  unfold Lib.join
  obtain ⟨h1, _, _⟩ := st_inv s c s.size (Nat.le_refl _)
  have hbd := st_bd s c s.size
  unfold parts
  rw [inter_cat, h1, ext_data, ← take_split _ _ _ hbd.1, List.take_of_length_le (by simp)]
theorem sep_list {sep : ByteArray} {c : UInt8} (h1 : sep.size = 1) (hc : sep.data.toList[0]? = some c) : sep.data.toList = [c] := by
  have hl : sep.data.toList.length = 1 := by simpa using h1
  match h : sep.data.toList, hl, hc with
  | [x], _, hc => simp at hc; rw [hc]
theorem back (s sep : ByteArray) (c : UInt8) (h1 : sep.size = 1) (hc : sep.data.toList[0]? = some c) (hs : s.size ≤ 4000) : jv (parts s c) sep c = some s := by
  have e := parts_join s c sep (sep_list h1 hc)
  have h := jv_ok (c := c) h1 (l := parts s c) (by unfold parts; simp) (parts_clean s c) (by rw [e]; exact hs)
  rw [h, e]
end Go.Proofs.Ytkoickdndjfnhaa.Round
