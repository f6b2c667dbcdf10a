/- Joining strings: the plain function, its size, and that it is what strings.Join gives. No program in this text but for the names. -/
import Derived.Test.YtkoickdndjfnhaaStands
import Derived.Test.YtkoickdndjfnhaaStrs
import Derived.Lib.Join
namespace Go.Proofs.Ytkoickdndjfnhaa.Jn
open Stands Strs

/-- The first k strings, with the separator between them. -/
def jn (sep : ByteArray) (l : List ByteArray) : Nat → ByteArray
  | 0 => ⟨#[]⟩
  | k + 1 => (if k = 0 then jn sep l k else jn sep l k ++ sep) ++ l.getD k ⟨#[]⟩
theorem jn_size (sep : ByteArray) (l : List ByteArray) (hs : sep.size = 1) : ∀ k, k ≤ l.length → (jn sep l k).size = tot (l.take k) + (k - 1) := by
  intro k
  induction k with
  | zero => intro _; rfl
  | succ k ih =>
    intro hk
    have h1 := ih (by omega)
    have ht := tot_take l k (by omega)
    have hg : l.getD k ⟨#[]⟩ = l[k] := by simp [List.getD, List.getElem?_eq_getElem (show k < l.length by omega)]
    rw [jn, hg]
    by_cases h0 : k = 0
    · subst h0
      rw [if_pos rfl, ByteArray.size_append, h1, ht]
      omega
    · rw [if_neg h0, ByteArray.size_append, ByteArray.size_append, h1, ht, hs]
      omega
theorem jn_mono (sep : ByteArray) (l : List ByteArray) (hs : sep.size = 1) (k : Nat) (hk : k ≤ l.length) : (jn sep l k).size ≤ (jn sep l l.length).size := by
  rw [jn_size sep l hs k hk, jn_size sep l hs l.length (Nat.le_refl _), List.take_length]
  have := tot_mono l k
  omega
/-- What JoinStrings returns. -/
def jv (l : List ByteArray) (sep : ByteArray) (c : UInt8) : Option ByteArray :=
  if (sep.size = 1 ∧ l ≠ []) ∧ (∀ x, x ∈ l → hasB x.data.toList c = false) ∧ (jn sep l l.length).size ≤ 4000 then some (jn sep l l.length) else none
theorem jv_dirty {l : List ByteArray} {sep : ByteArray} {c : UInt8} {x : ByteArray} (hx : x ∈ l) (h : hasB x.data.toList c = true) : jv l sep c = none := by
  unfold jv
  rw [if_neg]
  rintro ⟨_, h2, _⟩
  rw [h2 x hx] at h
  cases h
theorem jv_long {l : List ByteArray} {sep : ByteArray} {c : UInt8} (hs : sep.size = 1) (k : Nat) (hk : k ≤ l.length) (h : 4000 < (jn sep l k).size) : jv l sep c = none := by
  unfold jv
  rw [if_neg]
  rintro ⟨_, _, h3⟩
  have := jn_mono sep l hs k hk
  omega
theorem jv_ok {l : List ByteArray} {sep : ByteArray} {c : UInt8} (hs : sep.size = 1) (hl : l ≠ []) (h : ∀ x, x ∈ l → hasB x.data.toList c = false) (h3 : (jn sep l l.length).size ≤ 4000) : jv l sep c = some (jn sep l l.length) := by
  unfold jv
  rw [if_pos ⟨⟨hs, hl⟩, h, h3⟩]
theorem jv_bad {l : List ByteArray} {sep : ByteArray} {c : UInt8} (h : sep.size ≠ 1 ∨ l = []) : jv l sep c = none := by
  unfold jv
  rw [if_neg]
  rintro ⟨⟨h1, h2⟩, _⟩
  rcases h with h | h
  · exact h h1
  · exact h2 h

theorem inter_snoc (sep : List UInt8) (x : List UInt8) : ∀ (xs : List (List UInt8)), xs ≠ [] → sep.intercalate (xs ++ [x]) = sep.intercalate xs ++ sep ++ x := by
  intro xs
  induction xs with
  | nil => intro h; exact absurd rfl h
  | cons a r ih =>
    intro _
    cases r with
    | nil => simp [List.intercalate]
    | cons b r' =>
      have h2 := ih (by simp)
      have e1 : ∀ (y z : List UInt8) (t : List (List UInt8)), sep.intercalate (y :: z :: t) = y ++ sep ++ sep.intercalate (z :: t) := by
        intro y z t
        simp [List.intercalate, List.intersperse]
      rw [List.cons_append, List.cons_append, e1, ← List.cons_append, h2, e1]
      simp [List.append_assoc]
theorem jn_join (sep : ByteArray) (l : List ByteArray) : ∀ k, k ≤ l.length → (jn sep l k).data.toList = Lib.join ((l.take k).map fun x => x.data.toList) sep.data.toList := by
  intro k
  induction k with
  | zero => intro _; simp [jn, Lib.join, List.intercalate]
  | succ k ih =>
    intro hk
    have h1 := ih (by omega)
    have hg : l.getD k ⟨#[]⟩ = l[k] := by simp [List.getD, List.getElem?_eq_getElem (show k < l.length by omega)]
    rw [jn, hg, List.take_succ_eq_append_getElem (by omega), List.map_append]
    unfold Lib.join at h1 ⊢
    by_cases h0 : k = 0
    · subst h0
      simp [jn, List.intercalate]
    · rw [if_neg h0, Joins.data_append, Joins.data_append, h1, List.map_cons, List.map_nil, inter_snoc]
      intro e
      have h5 := congrArg List.length e
      rw [List.length_map, List.length_take, List.length_nil] at h5
      omega
end Go.Proofs.Ytkoickdndjfnhaa.Jn
