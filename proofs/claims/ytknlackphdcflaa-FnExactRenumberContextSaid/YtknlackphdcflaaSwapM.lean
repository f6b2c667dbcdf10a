/- Relations whose numbers are replaced: in their order, each once, none of a context with itself. -/
import Derived.Test.YtknlackphdcflaaRelM
namespace Go.Proofs.Ytknlackphdcflaa.SwapM
open Pairs Find2 GoodM RelM
def rn (o n a : Int) : Int := if a = o then n else a
def rnp (o n : Int) (p : Int × Int) : Int × Int := (rn o n p.1, rn o n p.2)
def nz (p : Int × Int) : Bool := decide (p.1 ≠ p.2)
def pre (o n : Int) (m : List (Int × Int)) : List (Int × Int) := (m.map (rnp o n)).filter nz
def swapM (o n : Int) (m : List (Int × Int)) : List (Int × Int) := (pre o n m).foldl link []
theorem rn_same (o n : Int) : rn o n o = n := by unfold rn; rw [if_pos rfl]
theorem rn_other {o n a : Int} (h : a ≠ o) : rn o n a = a := by unfold rn; rw [if_neg h]
theorem pre_next {o n : Int} {m : List (Int × Int)} {k : Nat} {x : Int × Int} (hx : m[k]? = some x) : pre o n (m.take (k + 1)) = pre o n (m.take k) ++ (if nz (rnp o n x) = true then [rnp o n x] else []) := by
  unfold pre
  rw [List.take_add_one, hx, List.map_append, List.filter_append]
  cases h : nz (rnp o n x) <;> simp [h]
theorem pre_len (o n : Int) (m : List (Int × Int)) (k : Nat) : (pre o n (m.take k)).length ≤ k :=
  Nat.le_trans (List.length_filter_le _ _) (by rw [List.length_map, List.length_take]; omega)
theorem up_fold : ∀ (L acc : List (Int × Int)), Up acc → Up (L.foldl link acc)
  | [], _, h => h
  | x :: L, acc, h => up_fold L (link acc x) (up_link h x)
theorem mem_fold {y : Int × Int} : ∀ (L acc : List (Int × Int)), y ∈ L.foldl link acc ↔ y ∈ acc ∨ y ∈ L
  | [], acc => by simp
  | x :: L, acc => by
    rw [List.foldl_cons, mem_fold L (link acc x), mem_link, List.mem_cons]
    constructor
    · rintro ((rfl | h) | h)
      · exact .inr (.inl rfl)
      · exact .inl h
      · exact .inr (.inr h)
    · rintro (h | rfl | h)
      · exact .inl (.inr h)
      · exact .inl (.inl rfl)
      · exact .inr h
theorem up_nil : Up [] := List.Pairwise.nil
theorem link_len (m : List (Int × Int)) (x : Int × Int) : (link m x).length ≤ m.length + 1 := by
  unfold link
  by_cases h : m[plR m x]? = some x
  · rw [if_pos h]; omega
  · rw [if_neg h, ins_len]; omega
theorem fold_len : ∀ (L acc : List (Int × Int)), (L.foldl link acc).length ≤ acc.length + L.length
  | [], _ => by simp
  | x :: L, acc => by
    have h1 := fold_len L (link acc x)
    have h2 := link_len acc x
    rw [List.foldl_cons, List.length_cons]
    omega
theorem swap_next {o n : Int} {m : List (Int × Int)} {k : Nat} {x : Int × Int} (hx : m[k]? = some x) : swapM o n (m.take (k + 1)) = if nz (rnp o n x) = true then link (swapM o n (m.take k)) (rnp o n x) else swapM o n (m.take k) := by
  unfold swapM
  rw [pre_next hx, List.foldl_append]
  cases h : nz (rnp o n x) <;> simp
theorem swap_len (o n : Int) (m : List (Int × Int)) (k : Nat) : (swapM o n (m.take k)).length ≤ k := by
  have h1 := fold_len (pre o n (m.take k)) []
  have h2 := pre_len o n m k
  unfold swapM
  simp at h1
  omega

/-- What slices.Compact keeps of the first k. -/
def ct (L : List (Int × Int)) : Nat → List (Int × Int)
  | 0 => []
  | k + 1 => ct L k ++ (match L[k]? with | none => [] | some x => if k = 0 ∨ L[k - 1]? ≠ some x then [x] else [])
theorem ct_new {L : List (Int × Int)} {k : Nat} {x : Int × Int} (hx : L[k]? = some x) (h : k = 0 ∨ L[k - 1]? ≠ some x) : ct L (k + 1) = ct L k ++ [x] := by
  show ct L k ++ _ = _
  rw [hx]
  simp only [if_pos h]
theorem ct_old {L : List (Int × Int)} {k : Nat} {x : Int × Int} (hx : L[k]? = some x) (h : ¬ (k = 0 ∨ L[k - 1]? ≠ some x)) : ct L (k + 1) = ct L k := by
  show ct L k ++ _ = _
  rw [hx]
  simp only [if_neg h, List.append_nil]
theorem ct_len (L : List (Int × Int)) : ∀ k, (ct L k).length ≤ k
  | 0 => Nat.le_refl _
  | k + 1 => by
    have ih := ct_len L k
    cases hx : L[k]? with
    | none =>
      show (ct L k ++ _).length ≤ _
      rw [hx]
      simp
      omega
    | some x =>
      by_cases h : k = 0 ∨ L[k - 1]? ≠ some x
      · rw [ct_new hx h, List.length_append]
        simp
        omega
      · rw [ct_old hx h]; omega
theorem ct_mem {L : List (Int × Int)} {y : Int × Int} : ∀ k, y ∈ ct L k ↔ y ∈ L.take k
  | 0 => by simp [ct]
  | k + 1 => by
    have ih := ct_mem (L := L) (y := y) k
    rw [List.take_add_one]
    cases hx : L[k]? with
    | none =>
      show y ∈ ct L k ++ _ ↔ _
      rw [hx]
      simpa using ih
    | some x =>
      by_cases h : k = 0 ∨ L[k - 1]? ≠ some x
      · rw [ct_new hx h, List.mem_append, ih, List.mem_append]
        simp
      · rw [ct_old hx h, ih, List.mem_append]
        constructor
        · exact .inl
        · rintro (h1 | h1)
          · exact h1
          · simp at h1
            subst h1
            have hk : ¬ k = 0 := fun e => h (.inl e)
            have hp : L[k - 1]? = some y := by
              cases e : decide (L[k - 1]? = some y) with
              | true => exact of_decide_eq_true e
              | false => exact absurd (.inr (of_decide_eq_false e)) h
            rw [List.mem_take_iff_getElem]
            have hl := (List.getElem?_eq_some_iff.1 hp).1
            exact ⟨k - 1, by omega, (List.getElem?_eq_some_iff.1 hp).2⟩
/-- A list in order, equals allowed. -/
def InOrder (L : List (Int × Int)) : Prop := ∀ (i j : Nat) (x y : Int × Int), i ≤ j → L[i]? = some x → L[j]? = some y → x = y ∨ before x y = true
theorem ct_up {L : List (Int × Int)} (hs : InOrder L) : ∀ k, Up (ct L k)
  | 0 => up_nil
  | k + 1 => by
    have ih := ct_up hs k
    cases hx : L[k]? with
    | none =>
      show Up (ct L k ++ _)
      rw [hx]
      simpa using ih
    | some x =>
      by_cases h : k = 0 ∨ L[k - 1]? ≠ some x
      · rw [ct_new hx h]
        unfold Up
        rw [List.pairwise_append]
        refine ⟨ih, List.pairwise_singleton _ _, ?_⟩
        intro a ha b hb
        have eb : b = x := by simpa using hb
        subst eb
        rw [ct_mem, List.mem_take_iff_getElem] at ha
        obtain ⟨i, hi, rfl⟩ := ha
        have hil : i < L.length := by omega
        rcases hs i k _ _ (by omega) (List.getElem?_eq_getElem hil) hx with e | e
        · exfalso
          rcases h with h | h
          · omega
          · have hkl := (List.getElem?_eq_some_iff.1 hx).1
            have hz : L[k - 1]? = some L[k - 1] := List.getElem?_eq_getElem (by omega)
            rcases hs i (k - 1) _ _ (by omega) (List.getElem?_eq_getElem hil) hz with e1 | e1
            · exact h (by rw [hz, ← e1, e])
            · rcases hs (k - 1) k _ _ (by omega) hz hx with e2 | e2
              · exact h (by rw [hz, e2])
              · have := before_trans e1 e2
                rw [e, before_irrefl] at this
                cases this
        · exact e
      · rw [ct_old hx h]; exact ih
def leR (x y : Int × Int) : Bool := !before y x
theorem leR_trans (a b c : Int × Int) (h1 : leR a b = true) (h2 : leR b c = true) : leR a c = true := by
  unfold leR at *
  cases hca : before c a with
  | false => rfl
  | true =>
    exfalso
    have n1 : before b a = false := by simpa using h1
    have n2 : before c b = false := by simpa using h2
    have m1 : ¬ before b a = true := by simp [n1]
    have m2 : ¬ before c b = true := by simp [n2]
    rw [before_iff] at hca m1 m2
    omega
theorem leR_total (a b : Int × Int) : (leR a b || leR b a) = true := by
  unfold leR
  cases h1 : before b a with
  | false => simp
  | true =>
    cases h2 : before a b with
    | false => simp
    | true =>
      have := before_trans h1 h2
      rw [before_irrefl] at this
      cases this
theorem sort_order (P : List (Int × Int)) : InOrder (P.mergeSort leR) := by
  have hp := List.pairwise_mergeSort leR_trans leR_total P
  intro i j x y hij hx hy
  by_cases e : i = j
  · subst e
    rw [hx] at hy
    injection hy with hy
    exact .inl hy
  · have hi := List.getElem?_eq_some_iff.1 hx
    have hj := List.getElem?_eq_some_iff.1 hy
    have h := List.pairwise_iff_getElem.1 hp i j hi.1 hj.1 (by omega)
    rw [hi.2, hj.2] at h
    unfold leR at h
    have h' : before y x = false := by simpa using h
    cases hb : before x y with
    | true => exact .inr rfl
    | false => exact .inl (before_total hb h')
/-- What the program makes of the relations is what the model makes of them. -/
theorem compact_sort (o n : Int) (m : List (Int × Int)) : ct ((pre o n m).mergeSort leR) (pre o n m).length = swapM o n m := by
  refine Up.ext (ct_up (sort_order _) _) (up_fold _ _ up_nil) ?_
  intro x
  unfold swapM
  rw [ct_mem, mem_fold, List.take_of_length_le (by rw [List.length_mergeSort]; omega), List.mem_mergeSort]
  simp
end Go.Proofs.Ytknlackphdcflaa.SwapM
