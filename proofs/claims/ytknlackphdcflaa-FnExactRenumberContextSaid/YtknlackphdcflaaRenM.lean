/- What RenumberContext answers. -/
import Derived.Test.YtknlackphdcflaaEquM
import Derived.Test.YtknlackphdcflaaRemC
import Derived.Test.YtknlackphdcflaaSortC
namespace Go.Proofs.Ytknlackphdcflaa.RenM
open Pairs Find2 GoodM RelM Gives SwapM EquM SortC Row2 Copy
open RemC (isAt_split)
def renM (o n : Int) : RR := fun l m =>
  if good l m = true ∧ 1 ≤ n ∧ n ≤ 999 then match isAt l o with
    | some i => if n ≠ o ∧ (isAt l n).isSome = true then none else some (ins (rest l i) (pl (rest l i) n) (n, (kindAt l i).getD 0), swapM o n m)
    | none => none
  else none
variable {o n : Int} {l m : List (Int × Int)} {i : Nat}
theorem renM_bad (h : good l m = false) : renM o n l m = none := by unfold renM; rw [if_neg (by rw [h]; simp)]
theorem renM_far (h : ¬ (1 ≤ n ∧ n ≤ 999)) : renM o n l m = none := by unfold renM; rw [if_neg (fun e => h e.2)]
theorem renM_noO (h : isAt l o = none) : renM o n l m = none := by
  unfold renM
  rw [h]
  split <;> rfl
theorem renM_has (hi : isAt l o = some i) (hne : n ≠ o) (h : (isAt l n).isSome = true) : renM o n l m = none := by
  unfold renM
  rw [hi]
  split
  · exact if_pos ⟨hne, h⟩
  · rfl
theorem renM_some (hg : good l m = true) (h1 : 1 ≤ n) (h2 : n ≤ 999) (hi : isAt l o = some i) (h : ¬ (n ≠ o ∧ (isAt l n).isSome = true)) : renM o n l m = some (ins (rest l i) (pl (rest l i) n) (n, (kindAt l i).getD 0), swapM o n m) := by
  unfold renM
  rw [if_pos ⟨hg, h1, h2⟩, hi]
  exact if_neg h
theorem rest_ne (hg : good l m = true) (hi : isAt l o = some i) (h : ¬ (n ≠ o ∧ (isAt l n).isSome = true)) : ∀ p ∈ rest l i, p.1 ≠ n := by
  intro p hp
  obtain ⟨x, h1, h2, h3⟩ := isAt_split hg hi
  unfold rest at hp
  by_cases e : n = o
  · rw [h3, List.mem_filter] at hp
    subst e
    exact of_decide_eq_true hp.2
  · have hn : isAt l n = none := by
      cases hh : isAt l n with
      | none => rfl
      | some k => exact absurd ⟨e, by rw [hh]; rfl⟩ h
    have hpl : p ∈ l := by
      rw [h1]
      rw [List.mem_append] at hp ⊢
      rcases hp with hp | hp
      · exact .inl hp
      · exact .inr (List.mem_cons_of_mem _ hp)
    unfold isAt at hn
    rw [List.findIdx?_eq_none_iff] at hn
    have := hn p hpl
    simpa using this
/-- A number written over a row's. -/
theorem put_block {w : World} {g : Nat} {T : TypeId} {x k : Int} (hw : w.heap[g]? = some (.cells (flat l).toArray T)) (hx : l[i]? = some (x, k)) : (w.setCell ⟨g, i * 2, none⟩ (.int .i64 n)).heap[g]? = some (.cells (flat (l.set i (n, k))).toArray T) := by
  have s1 := heap_setCell_same w g (i * 2) (flat l).toArray T (.int .i64 n) hw
  rw [s1]
  have hil := (List.getElem?_eq_some_iff.1 hx).1
  have e : (flat l).set (i * 2) (.int .i64 n) = flat (l.set i (n, k)) := by
    apply List.ext_getElem?
    intro t
    by_cases ht : t / 2 < l.length
    · by_cases hti : t / 2 = i
      · have e2 := flat_get (l.set i (n, k)) i n k (by rw [List.getElem?_set_self hil])
        by_cases h0 : t = i * 2
        · subst h0
          rw [List.getElem?_set_self (by rw [flat_len]; omega), e2.1]
        · have h1 : t = i * 2 + 1 := by omega
          subst h1
          rw [List.getElem?_set_ne (by omega), e2.2, (flat_get l i x k hx).2]
      · have hy : l[t / 2]? = some (l[t / 2].1, l[t / 2].2) := List.getElem?_eq_getElem ht
        have e1 := flat_get l (t / 2) _ _ hy
        have e2 := flat_get (l.set i (n, k)) (t / 2) l[t / 2].1 l[t / 2].2 (by rw [List.getElem?_set_ne (fun e => hti e.symm)]; exact hy)
        by_cases h0 : t = t / 2 * 2
        · rw [List.getElem?_set_ne (by omega)]
          rw [h0, e1.1, e2.1]
        · have h1 : t = t / 2 * 2 + 1 := by omega
          rw [List.getElem?_set_ne (by omega)]
          rw [h1, e1.2, e2.2]
    · rw [List.getElem?_eq_none (by simp [flat_len]; omega), List.getElem?_eq_none (by simp [flat_len]; omega)]
  simp [e]
theorem ins_rest_len {x : Int × Int} {j : Nat} (hi : i < l.length) : (ins (rest l i) j x).length = l.length := by
  rw [ins_len]
  unfold rest
  rw [List.length_append, List.length_take, List.length_drop]
  omega
end Go.Proofs.Ytknlackphdcflaa.RenM
