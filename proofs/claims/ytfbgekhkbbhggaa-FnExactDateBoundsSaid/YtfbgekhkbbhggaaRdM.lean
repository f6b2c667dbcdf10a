/- Reducing weights, the mathematics: where they begin and end, what they are divided by. -/
import Derived.Test.YtfbgekhkbbhggaaDvM
namespace Go.Proofs.Ytfbgekhkbbhggaa.RdM
open DvM
/-- Where the weights begin. -/
structure St (W : List Int) (s : Nat) : Prop where
  le : s ≤ W.length
  zero : ∀ j, j < s → W.getD j 0 = 0
  here : s < W.length → W.getD s 0 ≠ 0
theorem St.uniq {W : List Int} {s t : Nat} (h : St W s) (k : St W t) : s = t := by
  rcases Nat.lt_trichotomy s t with e | e | e
  · exact absurd (k.zero s e) (h.here (by have := k.le; omega))
  · exact e
  · exact absurd (h.zero t e) (k.here (by have := h.le; omega))
/-- Where they end. -/
structure En (W : List Int) (e : Nat) : Prop where
  le : e ≤ W.length
  zero : ∀ j, e ≤ j → j < W.length → W.getD j 0 = 0
  here : 0 < e → W.getD (e - 1) 0 ≠ 0
theorem En.uniq {W : List Int} {s t : Nat} (h : En W s) (k : En W t) : s = t := by
  rcases Nat.lt_trichotomy s t with e | e | e
  · exact absurd (h.zero (t - 1) (by omega) (by have := k.le; omega)) (k.here (by omega))
  · exact e
  · exact absurd (k.zero (s - 1) (by omega) (by have := h.le; omega)) (h.here (by omega))
def st : List Int → Nat
  | [] => 0
  | x :: W => if x = 0 then st W + 1 else 0
theorem st_is : ∀ W : List Int, St W (st W)
  | [] => ⟨Nat.le_refl _, fun j hj => absurd hj (Nat.not_lt_zero j), fun h => absurd h (Nat.lt_irrefl _)⟩
  | x :: W => by
    have ih := st_is W
    unfold st
    by_cases hx : x = 0
    · rw [if_pos hx]
      refine ⟨by have := ih.le; simp; omega, fun j hj => ?_, fun h => ?_⟩
      · cases j with
        | zero => exact hx
        | succ j => exact ih.zero j (by omega)
      · exact ih.here (by simpa using h)
    · rw [if_neg hx]
      exact ⟨Nat.zero_le _, fun j hj => absurd hj (Nat.not_lt_zero j), fun _ => hx⟩
def enTo (W : List Int) : Nat → Nat
  | 0 => 0
  | n + 1 => if W.getD n 0 = 0 then enTo W n else n + 1
def en (W : List Int) : Nat := enTo W W.length
theorem enTo_is (W : List Int) : ∀ n, n ≤ W.length → (∀ j, n ≤ j → j < W.length → W.getD j 0 = 0) → En W (enTo W n)
  | 0, _, h => ⟨Nat.zero_le _, h, fun e => absurd e (Nat.lt_irrefl _)⟩
  | n + 1, hn, h => by
    unfold enTo
    by_cases h0 : W.getD n 0 = 0
    · rw [if_pos h0]
      refine enTo_is W n (by omega) fun j h1 h2 => ?_
      by_cases e : j = n
      · rw [e]; exact h0
      · exact h j (by omega) h2
    · rw [if_neg h0]
      exact ⟨hn, h, fun _ => h0⟩
theorem en_is (W : List Int) : En W (en W) := enTo_is W W.length (Nat.le_refl _) fun j h1 h2 => absurd h2 (by omega)
theorem st_en {W : List Int} (h : st W < W.length) : st W < en W := by
  rcases Nat.lt_or_ge (st W) (en W) with e | e
  · exact e
  · exact absurd ((en_is W).zero _ e h) ((st_is W).here h)
/-- What is left of the weights. -/
def core (W : List Int) : List Int := (W.drop (st W)).take (en W - st W)
theorem core_len {W : List Int} : (core W).length = en W - st W := by
  unfold core
  rw [List.length_take, List.length_drop]
  have := (en_is W).le
  omega
theorem core_at {W : List Int} {j : Nat} (h : j < en W - st W) : (core W)[j]? = W[st W + j]? := by
  unfold core
  rw [List.getElem?_take_of_lt h, List.getElem?_drop]
theorem core_mem {W : List Int} {x : Int} (h : x ∈ core W) : x ∈ W := List.mem_of_mem_drop (List.mem_of_mem_take h)
theorem G_eq_zero {a b : Int} (h : G a b = 0) : a.toNat = 0 ∧ b.toNat = 0 := by
  unfold G at h
  have h' : Nat.gcd a.toNat b.toNat = 0 := by omega
  exact Nat.gcd_eq_zero_iff.1 h'
theorem fold_zero : ∀ (L : List Int) (a : Int), 0 ≤ a → L.foldl G a = 0 → a = 0 ∧ ∀ x ∈ L, x ≤ 0
  | [], a, _, h => ⟨h, fun x hx => by cases hx⟩
  | y :: L, a, ha, h => by
    obtain ⟨h1, h2⟩ := fold_zero L (G a y) (G_nonneg a y) h
    obtain ⟨h3, h4⟩ := G_eq_zero h1
    refine ⟨by omega, fun x hx => ?_⟩
    rcases List.mem_cons.1 hx with rfl | hx
    · omega
    · exact h2 x hx
theorem core_head {W : List Int} (h : st W < W.length) : W.getD (st W) 0 ∈ core W := by
  have h1 := st_en h
  have e : (core W)[0]? = some (W.getD (st W) 0) := by
    rw [core_at (by omega), Nat.add_zero, List.getD_eq_getElem?_getD, List.getElem?_eq_getElem h]
    rfl
  exact List.mem_of_getElem? e
theorem dv_pos {W : List Int} (h : st W < W.length) (hp : ∀ x ∈ W, 0 ≤ x) : 0 < dv (core W) := by
  have h0 := dv_nonneg (core W)
  rcases Int.lt_or_eq_of_le h0 with e | e
  · exact e
  · have h1 := (fold_zero (core W) 0 (Int.le_refl 0) e.symm).2 _ (core_head h)
    have h2 := (st_is W).here h
    have h3 := hp _ (core_mem (core_head h))
    omega
/-- Weights reduced, from a first year on. -/
def red (f : Int) (W : List Int) : Option (Int × List Int) :=
  if st W = W.length then none
  else if okD (f + st W) ((core W).map (· / dv (core W))) then some (f + st W, (core W).map (· / dv (core W))) else none
theorem red_none {f : Int} {W : List Int} (h : st W = W.length) : red f W = none := by unfold red; rw [if_pos h]
theorem red_no {f : Int} {W : List Int} (h : okD (f + st W) ((core W).map (· / dv (core W))) = false) : red f W = none := by
  unfold red
  rw [h]
  by_cases e : st W = W.length
  · rw [if_pos e]
  · rw [if_neg e]; rfl
theorem red_yes {f : Int} {W : List Int} (h0 : st W < W.length) (h : okD (f + st W) ((core W).map (· / dv (core W))) = true) : red f W = some (f + st W, (core W).map (· / dv (core W))) := by
  unfold red
  rw [if_neg (by omega), h]
  rfl
theorem div_bd {x d : Int} (hx : 0 ≤ x) (hd : 0 < d) : 0 ≤ x / d ∧ x / d ≤ x := ⟨Int.ediv_nonneg hx (by omega), Int.ediv_le_self d hx⟩
/-- Divided up to j. -/
def mixL (C : List Int) (D : Int) (j : Nat) : List Int := (C.take j).map (· / D) ++ C.drop j
theorem mixL_zero (C : List Int) (D : Int) : mixL C D 0 = C := rfl
theorem mixL_all {C : List Int} {D : Int} {m : Nat} (h : C.length = m) : mixL C D m = C.map (· / D) := by
  unfold mixL
  rw [List.take_of_length_le (by omega), List.drop_of_length_le (by omega), List.append_nil]
theorem mixL_len (C : List Int) (D : Int) (j : Nat) : (mixL C D j).length = C.length := by
  unfold mixL
  rw [List.length_append, List.length_map, List.length_take, List.length_drop]
  omega
theorem mixL_get (C : List Int) (D : Int) (j i : Nat) (hj : j ≤ C.length) : (mixL C D j)[i]? = if i < j then (C[i]?).map (· / D) else C[i]? := by
  unfold mixL
  by_cases h : i < j
  · rw [if_pos h, List.getElem?_append_left (by rw [List.length_map, List.length_take]; omega), List.getElem?_map, List.getElem?_take_of_lt h]
  · rw [if_neg h, List.getElem?_append_right (by rw [List.length_map, List.length_take]; omega), List.getElem?_drop, List.length_map, List.length_take]
    congr 1
    omega
theorem mixL_at {C : List Int} {D : Int} {j : Nat} {x : Int} (h : C[j]? = some x) : (mixL C D j)[j]? = some x := by
  have hj := (List.getElem?_eq_some_iff.1 h).1
  rw [mixL_get C D j j (by omega), if_neg (Nat.lt_irrefl _), h]
theorem mixL_set {C : List Int} {D : Int} {j : Nat} {x : Int} (h : C[j]? = some x) : (mixL C D j).set j (x / D) = mixL C D (j + 1) := by
  have hj := (List.getElem?_eq_some_iff.1 h).1
  apply List.ext_getElem?
  intro i
  rw [mixL_get C D (j + 1) i (by omega)]
  by_cases e : i = j
  · subst e
    rw [List.getElem?_set_self (by rw [mixL_len]; omega), if_pos (by omega), h]
    rfl
  · rw [List.getElem?_set_ne (by omega), mixL_get C D j i (by omega)]
    by_cases e2 : i < j
    · rw [if_pos e2, if_pos (by omega)]
    · rw [if_neg e2, if_neg (by omega)]
end Go.Proofs.Ytfbgekhkbbhggaa.RdM
