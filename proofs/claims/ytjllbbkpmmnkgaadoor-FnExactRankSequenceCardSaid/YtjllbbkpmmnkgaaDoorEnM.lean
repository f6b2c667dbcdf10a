/- How many ways a sequence goes on: the sums over the sets of contexts, from the full set downward (numbers of 64 bits, as the program and the model add them). -/
import Derived.Test.YtjllbbkpmmnkgaaDoorBlM
import Derived.Test.YtjllbbkpmmnkgaaDoorGivesI
namespace Go.Proofs.YtjllbbkpmmnkgaaDoor.EnM
open Go.RowKit BlM
theorem fold_congr {f g : Int → Nat → Int} : ∀ (xs : List Nat) (a : Int), (∀ a x, x ∈ xs → f a x = g a x) → xs.foldl f a = xs.foldl g a
  | [], _, _ => rfl
  | x :: xs, a, h => by
    rw [List.foldl_cons, List.foldl_cons, h a x (by simp)]
    exact fold_congr xs _ (fun a y hy => h a y (List.mem_cons_of_mem _ hy))
def vf (rd : Nat → Nat → Bool) (n : Nat) : Nat → Nat → Int
  | 0, p => if p = 2 ^ n - 1 then 1 else 0
  | f + 1, p => if p = 2 ^ n - 1 then 1 else ((List.range n).filter (rd p)).foldl (fun a i => wrap64 (a + vf rd n f (p ||| 2 ^ i))) 0
/-- Only a context that is not there yet may come next. -/
def Fine (rd : Nat → Nat → Bool) (n : Nat) : Prop := ∀ p i, p < 2 ^ n → rd p i = true → i < n ∧ p.testBit i = false
theorem or_gt {p i : Nat} (h : p.testBit i = false) : p < p ||| 2 ^ i := by
  apply Nat.lt_of_le_of_ne Nat.left_le_or
  intro e
  have h2 : (p ||| 2 ^ i).testBit i = true := by rw [Nat.testBit_or, Nat.testBit_two_pow]; simp
  rw [← e, h] at h2
  cases h2
theorem or_lt {n p i : Nat} (hp : p < 2 ^ n) (hi : i < n) : p ||| 2 ^ i < 2 ^ n := Nat.or_lt_two_pow hp (Nat.pow_lt_pow_right (by decide) hi)
theorem vf_same {rd : Nat → Nat → Bool} {n : Nat} (hF : Fine rd n) : ∀ (f g p : Nat), p < 2 ^ n → 2 ^ n - 1 - p ≤ f → 2 ^ n - 1 - p ≤ g → vf rd n f p = vf rd n g p
  | 0, g, p, hp, h1, h2 => by
    have e : p = 2 ^ n - 1 := by omega
    cases g <;> simp [vf, e]
  | f + 1, 0, p, hp, h1, h2 => by
    have e : p = 2 ^ n - 1 := by omega
    simp [vf, e]
  | f + 1, g + 1, p, hp, h1, h2 => by
    by_cases e : p = 2 ^ n - 1
    · simp [vf, e]
    · show (if p = 2 ^ n - 1 then _ else _) = (if p = 2 ^ n - 1 then _ else _)
      rw [if_neg e, if_neg e]
      refine fold_congr _ _ fun a i hi => ?_
      obtain ⟨h3, h4⟩ := List.mem_filter.1 hi
      have h5 := (hF p i hp h4).2
      have h6 := or_gt h5
      have h7 := or_lt hp (List.mem_range.1 h3)
      rw [vf_same hF f g (p ||| 2 ^ i) h7 (by omega) (by omega)]
def v (rd : Nat → Nat → Bool) (n p : Nat) : Int := vf rd n (2 ^ n) p
theorem v_full (rd : Nat → Nat → Bool) (n : Nat) : v rd n (2 ^ n - 1) = 1 := by
  unfold v
  cases h : 2 ^ n with
  | zero => simp [vf, h]
  | succ k => simp [vf, h]
theorem v_eq {rd : Nat → Nat → Bool} {n : Nat} (hF : Fine rd n) {p : Nat} (hp : p < 2 ^ n) (hn : p ≠ 2 ^ n - 1) : v rd n p = ((List.range n).filter (rd p)).foldl (fun a i => wrap64 (a + v rd n (p ||| 2 ^ i))) 0 := by
  have h1 : v rd n p = vf rd n (2 ^ n + 1) p := vf_same hF _ _ p hp (by omega) (by omega)
  rw [h1]
  show (if p = 2 ^ n - 1 then _ else _) = _
  rw [if_neg hn]
  rfl
/-- Where two ready functions agree on the sets that can be reached, the sums agree. -/
theorem v_agree {r1 r2 : Nat → Nat → Bool} {n : Nat} (h1 : Fine r1 n) (h2 : Fine r2 n) (Cl : Nat → Prop) (ha : ∀ p, p < 2 ^ n → Cl p → ∀ i, i < n → r1 p i = r2 p i) (hc : ∀ p i, p < 2 ^ n → Cl p → r1 p i = true → Cl (p ||| 2 ^ i)) :
    ∀ (d p : Nat), p < 2 ^ n → 2 ^ n - 1 - p ≤ d → Cl p → v r1 n p = v r2 n p
  | 0, p, hp, hd, hcl => by
    have e : p = 2 ^ n - 1 := by omega
    rw [e, v_full, v_full]
  | d + 1, p, hp, hd, hcl => by
    by_cases e : p = 2 ^ n - 1
    · rw [e, v_full, v_full]
    · rw [v_eq h1 hp e, v_eq h2 hp e]
      have hf : (List.range n).filter (r1 p) = (List.range n).filter (r2 p) := List.filter_congr fun i hi => ha p hp hcl i (List.mem_range.1 hi)
      rw [← hf]
      refine fold_congr _ _ fun a i hi => ?_
      obtain ⟨h3, h4⟩ := List.mem_filter.1 hi
      have h5 := (h1 p i hp h4).2
      have h6 := or_gt h5
      have h7 := or_lt hp (List.mem_range.1 h3)
      rw [v_agree h1 h2 Cl ha hc d (p ||| 2 ^ i) h7 (by omega) (hc p i hp hcl h4)]
/-- The bits of a set of n contexts. -/
theorem bl_range {n s : Nat} (hn : n ≤ 10) (hs : s < 2 ^ n) : bl s = (List.range n).filter s.testBit := by
  unfold bl
  obtain ⟨k, hk⟩ : ∃ k, 10 = n + k := ⟨10 - n, by omega⟩
  rw [hk, List.range_add, List.filter_append]
  have : ((List.range k).map (n + ·)).filter s.testBit = [] := by
    rw [List.filter_eq_nil_iff]
    intro i hi
    obtain ⟨j, _, rfl⟩ := List.mem_map.1 hi
    rw [Nat.testBit_lt_two_pow (Nat.lt_of_lt_of_le hs (Nat.pow_le_pow_right (by decide) (by omega)))]
    simp
  rw [this, List.append_nil]
/-- The counts under way: those of the sets from P on are there. -/
def cf (rd : Nat → Nat → Bool) (n P q : Nat) : Int := if P ≤ q ∧ q ≤ 2 ^ n - 1 then v rd n q else 0
def IsC (C : Array Value) (f : Nat → Int) : Prop := C.size = 1024 ∧ ∀ q, q < 1024 → C[q]? = some (.int .i64 (f q))
theorem IsC.set {C : Array Value} {f : Nat → Int} (h : IsC C f) (q : Nat) (z : Int) : IsC (C.setIfInBounds q (.int .i64 z)) (fun j => if j = q then z else f j) := by
  refine ⟨by rw [Array.size_setIfInBounds]; exact h.1, fun j hj => ?_⟩
  rw [Array.getElem?_setIfInBounds]
  by_cases e : q = j
  · subst e
    rw [if_pos rfl, if_pos (by rw [h.1]; exact hj)]
    show _ = some (Value.int .i64 (if q = q then z else f q))
    rw [if_pos rfl]
  · have e3 : ¬ j = q := fun e2 => e e2.symm
    rw [if_neg e]
    show _ = some (Value.int .i64 (if j = q then z else f j))
    rw [if_neg e3]
    exact h.2 j hj
theorem IsC.congr {C : Array Value} {f g : Nat → Int} (h : IsC C f) (e : ∀ q, q < 1024 → f q = g q) : IsC C g := ⟨h.1, fun q hq => by rw [← e q hq]; exact h.2 q hq⟩
end Go.Proofs.YtjllbbkpmmnkgaaDoor.EnM
