/- The model's l4Chain: mathematics. -/
import Derived.Test.YtlgfaabobpnflaaStpM
import Derived.Test.YtlgfaabobpnflaaIdx
namespace Go.Proofs.Ytlgfaabobpnflaa.StpC
open Pairs Rec Chain Find2 GoodM OrdM BfsM ScM StpM Idx
theorem lows_append (A B : Ps) (x : Int) : lows (A ++ B) x = lows A x ++ lows B x := by unfold lows; rw [List.filter_append, List.map_append]
theorem lows_take {m : Ps} (hs : ∀ h, (lows m h).Pairwise (· < ·)) (i : Nat) (x : Int) : (lows (m.take i) x).Pairwise (· < ·) := by
  have h := hs x
  rw [← List.take_append_drop i m, lows_append] at h
  exact (List.pairwise_append.1 h).1
/-- What the model looks for behind k further relations. -/
def nq (b : Int) (st : Int → Nat) (k : Nat) (y : Int) : Bool := if k = 1 then y == b else st y == k - 1
def best (l m : Ps) (b : Int) (st : Int → Nat) (k : Nat) (x : Int) : Int := match (lows m x).find? (nq b st k) with | some y => find l y | none => -1
theorem best_zero (l : Ps) (b : Int) (st : Int → Nat) (k : Nat) (x : Int) : best l [] b st k x = -1 := rfl
theorem best_same {l m : Ps} {b : Int} {st : Int → Nat} {k i : Nat} {x u v : Int} (hx : m[i]? = some (u, v)) (h : ¬ (u = x ∧ nq b st k v = true)) : best l (m.take (i + 1)) b st k x = best l (m.take i) b st k x := by
  unfold best
  rw [lows_next hx]
  by_cases e : u = x
  · rw [if_pos e, List.find?_append]
    have hq : nq b st k v = false := by
      cases hq : nq b st k v with
      | false => rfl
      | true => exact absurd ⟨e, hq⟩ h
    have e2 : [v].find? (nq b st k) = none := by simp [hq]
    rw [e2, Option.or_none]
  · rw [if_neg e, List.append_nil]
theorem best_new {l m : Ps} {b : Int} {st : Int → Nat} {k i : Nat} {x u v : Int} (hx : m[i]? = some (u, v)) (h : u = x) (hq : nq b st k v = true) (h0 : (lows (m.take i) x).find? (nq b st k) = none) : best l (m.take (i + 1)) b st k x = find l v := by
  unfold best
  rw [lows_next hx, if_pos h, List.find?_append, h0]
  have e2 : [v].find? (nq b st k) = some v := by simp [hq]
  rw [e2]
  rfl
theorem best_old {l m : Ps} {b : Int} {st : Int → Nat} {k i : Nat} {x u v y : Int} (hx : m[i]? = some (u, v)) (h0 : (lows (m.take i) x).find? (nq b st k) = some y) : best l (m.take (i + 1)) b st k x = best l (m.take i) b st k x := by
  unfold best
  rw [lows_next hx, List.find?_append, h0]
  rfl
theorem old_less {m : Ps} (hs : ∀ h, (lows m h).Pairwise (· < ·)) {b : Int} {st : Int → Nat} {k i : Nat} {x v y : Int} (hx : m[i]? = some (x, v)) (h0 : (lows (m.take i) x).find? (nq b st k) = some y) : y < v ∧ (x, y) ∈ m := by
  have h := lows_take hs (i + 1) x
  rw [lows_next hx, if_pos rfl, List.pairwise_append] at h
  have hm := List.mem_of_find?_eq_some h0
  exact ⟨h.2.2 y hm v (by simp), List.mem_of_mem_take (mem_lows.1 hm)⟩
theorem gr_cons (m : Ps) (b : Int) (st : Int → Nat) : ∀ (k : Nat) (x : Int), gr m b st k x = x :: (gr m b st k x).tail
  | 0, _ => rfl
  | 1, _ => rfl
  | k + 2, x => by
    cases h : (lows m x).find? (fun y => st y == k + 1) with
    | none => simp only [gr, h]; rfl
    | some y => rw [gr_next h]; rfl
/-- What is found at the end of a round. -/
theorem best_end {l m : Ps} (hg : good l m = true) {b : Int} {st : Int → Nat} (hs : StpM.Steps m b st) {k : Nat} {x : Int} (hb : ∃ j, isAt l b = some j) (h : IsMin m b (k + 1) x) :
    ∃ (y : Int) (i : Nat), best l m b st (k + 1) x = (i : Int) ∧ isAt l y = some i ∧ (gr m b st (k + 1) x).tail = gr m b st k y ∧ (k = 0 ∨ IsMin m b k y) := by
  rcases k with _ | k
  · have hm : (x, b) ∈ m := h.1
    obtain ⟨j, hj⟩ := hb
    have hf : (lows m x).find? (nq b st 1) = some b := by
      cases hq : (lows m x).find? (nq b st 1) with
      | none =>
        have := List.find?_eq_none.1 hq b (mem_lows.2 hm)
        simp [nq] at this
      | some z =>
        have e := List.find?_some hq
        have e2 : z = b := by simpa [nq] using e
        rw [e2]
    refine ⟨b, j, ?_, hj, rfl, .inl rfl⟩
    unfold best
    show (match (lows m x).find? (nq b st 1) with | some y => find l y | none => -1) = _
    rw [hf]
    exact find_some hj
  · obtain ⟨y, h1, h2, h3⟩ := find_min hs h
    obtain ⟨i, hi⟩ := (Table.good_ends hg x y h2).2
    have hf : (lows m x).find? (nq b st (k + 1 + 1)) = some y := by
      have e : nq b st (k + 1 + 1) = fun y => st y == k + 1 := by
        funext z
        unfold nq
        rw [if_neg (by omega)]
        rfl
      rw [e]
      exact h1
    refine ⟨y, i, ?_, hi, by rw [gr_next h1]; rfl, .inr h3⟩
    unfold best
    rw [hf]
    exact find_some hi
theorem at_less {l m : Ps} (hg : good l m = true) {y v : Int} {i j : Nat} (hi : isAt l y = some i) (hj : isAt l v = some j) (h : y < v) : i < j := by
  obtain ⟨t, ht⟩ := isAt_num hi
  obtain ⟨s, hs⟩ := isAt_num hj
  have ha := (good_asc hg).1
  rcases Nat.lt_or_ge i j with h1 | h1
  · exact h1
  · exfalso
    by_cases e : i = j
    · subst e
      rw [ht] at hs
      injection hs with hs
      injection hs with hs _
      omega
    · have := ha.le (show j ≤ i by omega) hs ht
      simp at this
      omega
end Go.Proofs.Ytlgfaabobpnflaa.StpC
