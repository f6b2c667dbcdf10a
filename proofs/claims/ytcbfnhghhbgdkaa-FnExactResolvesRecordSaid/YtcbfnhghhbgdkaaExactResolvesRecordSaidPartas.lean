/- The model's l4Chain: mathematics. -/
import Derived.Test.YtcbfnhghhbgdkaaExactResolvesRecordSaidPartar
import Derived.Test.YtcbfnhghhbgdkaaExactResolvesRecordSaidPartal
namespace Go.Proofs.Ytcbfnhghhbgdkaa.StpC
open Pairs Rec Chain Find2 GoodM OrdM BfsM ScM StpM Idx
theorem lows_append (A B : Ps) (x : Int) : lows (A ++ B) x = lows A x ++ lows B x := by unfold lows; rw [List.filter_append, List.map_append]
theorem lows_take {m : Ps} (hs : ∀ h, (lows m h).Pairwise (· < ·)) (i : Nat) (x : Int) : (lows (m.take i) x).Pairwise (· < ·) := by
  have h := hs x
  rw [← List.take_append_drop i m, lows_append] at h
  exact (List.pairwise_append.1 h).1
/-- What the model looks for behind k further relations. -/
def nq (b : Int) (st : Int → Nat) (k : Nat) (y : Int) : Bool := if k = 1 then y == b else st y == k - 1
def best (l m : Ps) (b : Int) (st : Int → Nat) (k : Nat) (x : Int) : Int := match (lows m x).find? (nq b st k) with | some y => find l y | none => -1
theorem best_zero (l : Ps) (b : Int) (st : Int → Nat) (k : Nat) (x : Int) : best l [] b st k x = -1 := rfl
theorem best_same {l m : Ps} {b : Int} {st : Int → Nat} {k i : Nat} {x u v : Int} (hx : m[i]? = some (u, v)) (h : ¬ (u = x ∧ nq b st k v = true)) : best l (m.take (i + 1)) b st k x = best l (m.take i) b st k x := by
  unfold best
  rw [lows_next hx]
  by_cases e : u = x
  · rw [if_pos e, List.find?_append]
    have hq : nq b st k v = false := by
      cases hq : nq b st k v with
      | false => rfl
      | true => exact absurd ⟨e, hq⟩ h
    have e2 : [v].find? (nq b st k) = none := by simp [hq]
    rw [e2, Option.or_none]
  · rw [if_neg e, List.append_nil]
theorem best_new {l m : Ps} {b : Int} {st : Int → Nat} {k i : Nat} {x u v : Int} (hx : m[i]? = some (u, v)) (h : u = x) (hq : nq b st k v = true) (h0 : (lows (m.take i) x).find? (nq b st k) = none) : best l (m.take (i + 1)) b st k x = find l v := by
  unfold best
  rw [lows_next hx, if_pos h, List.find?_append, h0]
  have e2 : [v].find? (nq b st k) = some v := by simp [hq]
  rw [e2]
  rfl
theorem best_old {l m : Ps} {b : Int} {st : Int → Nat} {k i : Nat} {x u v y : Int} (hx : m[i]? = some (u, v)) (h0 : (lows (m.take i) x).find? (nq b st k) = some y) : best l (m.take (i + 1)) b st k x = best l (m.take i) b st k x := by
  unfold best
  rw [lows_next hx, List.find?_append, h0]
  rfl
theorem old_less {m : Ps} (hs : ∀ h, (lows m h).Pairwise (· < ·)) {b : Int} {st : Int → Nat} {k i : Nat} {x v y : Int} (hx : m[i]? = some (x, v)) (h0 : (lows (m.take i) x).find? (nq b st k) = some y) : y < v ∧ (x, y) ∈ m := by
  have h := lows_take hs (i + 1) x
  rw [lows_next hx, if_pos rfl, List.pairwise_append] at h
  have hm := List.mem_of_find?_eq_some h0
  exact ⟨h.2.2 y hm v (by simp), List.mem_of_mem_take (mem_lows.1 hm)⟩
theorem gr_cons (m : Ps) (b : Int) (st : Int → Nat) : ∀ (k : Nat) (x : Int), gr m b st k x = x :: (gr m b st k x).tail
  | 0, _ => rfl
  | 1, _ => rfl
  | k + 2, x => by
    cases h : (lows m x).find? (fun y => st y == k + 1) with
    | none => simp only [gr, h]; rfl
    | some y => rw [gr_next h]; rfl
/-- What is found at the end of a round. -/
theorem best_end {l m : Ps} (hg : good l m = true) {b : Int} {st : Int → Nat} (hs : StpM.Steps m b st) {k : Nat} {x : Int} (hb : ∃ j, isAt l b = some j) (h : IsMin m b (k + 1) x) :
    ∃ (y : Int) (i : Nat), best l m b st (k + 1) x = (i : Int) ∧ isAt l y = some i ∧ (gr m b st (k + 1) x).tail = gr m b st k y ∧ (k = 0 ∨ IsMin m b k y) := by
  rcases k with _ | k
  · have hm : (x, b) ∈ m := h.1
    obtain ⟨j, hj⟩ := hb
    have hf : (lows m x).find? (nq b st 1) = some b := by
      cases hq : (lows m x).find? (nq b st 1) with
      | none =>
        have := List.find?_eq_none.1 hq b (mem_lows.2 hm)
        simp [nq] at this
      | some z =>
        have e := List.find?_some hq
        have e2 : z = b := by simpa [nq] using e
        rw [e2]
    refine ⟨b, j, ?_, hj, rfl, .inl rfl⟩
    unfold best
    show (match (lows m x).find? (nq b st 1) with | some y => find l y | none => -1) = _
    rw [hf]
    exact find_some hj
  · obtain ⟨y, h1, h2, h3⟩ := find_min hs h
    obtain ⟨i, hi⟩ := (Table.good_ends hg x y h2).2
    have hf : (lows m x).find? (nq b st (k + 1 + 1)) = some y := by
      have e : nq b st (k + 1 + 1) = fun y => st y == k + 1 := by
        funext z
        unfold nq
        rw [if_neg (by omega)]
        rfl
      rw [e]
      exact h1
    refine ⟨y, i, ?_, hi, by rw [gr_next h1]; rfl, .inr h3⟩
    unfold best
    rw [hf]
    exact find_some hi
theorem at_less {l m : Ps} (hg : good l m = true) {y v : Int} {i j : Nat} (hi : isAt l y = some i) (hj : isAt l v = some j) (h : y < v) : i < j := by
  obtain ⟨t, ht⟩ := isAt_num hi
  obtain ⟨s, hs⟩ := isAt_num hj
  have ha := (good_asc hg).1
  rcases Nat.lt_or_ge i j with h1 | h1
  · exact h1
  · exfalso
    by_cases e : i = j
    · subst e
      rw [ht] at hs
      injection hs with hs
      injection hs with hs _
      omega
    · have := ha.le (show j ≤ i by omega) hs ht
      simp at this
      omega
end Go.Proofs.Ytcbfnhghhbgdkaa.StpC
/- The shortest cycle: mathematics. -/
namespace Go.Proofs.Ytcbfnhghhbgdkaa.CycM
open Pairs Rec Chain Find2 GoodM OrdM BfsM ScM StpM StpC Idx
theorem chn_comp {m : Ps} {b z : Int} {i : Nat} (h2 : Chn m z i b) : ∀ (j : Nat) (y : Int), Chn m b j y → Chn m z (j + i) y
  | 0, _, h => h.elim
  | 1, y, h => by have := chn_cons (show (y, b) ∈ m from h) h2; rwa [Nat.add_comm] at this
  | j + 2, y, h => by
    obtain ⟨y', h1, h3⟩ := h
    have := chn_cons h1 (chn_comp h2 (j + 1) y' h3)
    rwa [show j + 1 + i + 1 = j + 2 + i by omega] at this
theorem fch_split {m : Ps} {b : Int} {e : List Int} (h : FCh m b e) : ∀ y ∈ e.dropLast, ∃ i j, i + j = e.length - 1 ∧ Chn m b j y ∧ ((i = 0 ∧ y = hd e) ∨ Chn m y i (hd e)) := by
  induction h with
  | one h0 =>
    rename_i x
    intro y hy
    obtain rfl : y = x := by simpa using hy
    exact ⟨0, 1, rfl, h0, .inl ⟨rfl, rfl⟩⟩
  | more hm hf ih =>
    rename_i x y' e'
    intro y hy
    have h2 := fch_two hf
    rw [List.dropLast_cons_of_ne_nil (by simp)] at hy
    rcases List.mem_cons.1 hy with rfl | hy
    · exact ⟨0, (y' :: e').length, by simp, by have := chn_cons hm (fch_chn hf); rwa [show (y' :: e').length - 1 + 1 = (y' :: e').length by simp] at this, .inl ⟨rfl, rfl⟩⟩
    · obtain ⟨i, j, h3, h4, h5⟩ := ih y hy
      refine ⟨i + 1, j, by simp at h3 h2 ⊢; omega, h4, .inr ?_⟩
      rcases h5 with ⟨rfl, h6⟩ | h5
      · have h6' : y = y' := h6
        subst h6'
        exact hm
      · exact chn_cons hm h5
open Classical in
noncomputable def sts (m : Ps) (b x : Int) : Nat := if h : ∃ k, IsMin m b k x then Classical.choose h else 0
theorem sts_steps (m : Ps) (b : Int) : StpM.Steps m b (sts m b) := by
  have hal : ∀ x k, IsMin m b k x → sts m b x = k := fun x k hk => by
    have hex : ∃ k, IsMin m b k x := ⟨k, hk⟩
    unfold sts
    rw [dif_pos hex]
    exact min_uniq (Classical.choose_spec hex) hk
  refine ⟨fun x hx => ?_, hal⟩
  by_cases hex : ∃ k, IsMin m b k x
  · obtain ⟨k, hk⟩ := hex
    rw [hal x k hk]
    exact hk
  · unfold sts at hx
    rw [dif_neg hex] at hx
    exact absurd hx (Nat.lt_irrefl 0)
theorem chain_fch {m : Ps} (hl : ∀ h, (lows m h).Pairwise (· < ·)) {a b : Int} (h : chainP m a b ≠ []) : FCh m b (chainP m a b) ∧ hd (chainP m a b) = a := by
  have hs := sts_steps m b
  have h0 : 0 < sts m b a := by
    rcases Nat.eq_zero_or_pos (sts m b a) with h0 | h0
    · exact absurd (gr_no hs h0) h
    · exact h0
  rw [gr_is hl hs h0]
  obtain ⟨g1, g2, _⟩ := gr_fch hs _ a (hs.some a h0)
  exact ⟨g1, g2⟩
theorem chain_len {m : Ps} (hl : ∀ h, (lows m h).Pairwise (· < ·)) {a b : Int} {k : Nat} (h : Chn m b k a) : 2 ≤ (chainP m a b).length ∧ (chainP m a b).length ≤ k + 1 := by
  obtain ⟨j, hj, hm⟩ := has_min k h
  have hs := sts_steps m b
  have e := hs.all a j hm
  have hp := min_pos hm
  rw [gr_is hl hs (by omega), e]
  obtain ⟨_, _, g3⟩ := gr_fch hs j a hm
  omega
/-- A context on the first shortest cycle through another one is on a cycle that is no longer. -/
theorem rot {m : Ps} (hl : ∀ h, (lows m h).Pairwise (· < ·)) {c y : Int} (hy : y ∈ (chainP m c c).dropLast) : 2 ≤ (chainP m y y).length ∧ (chainP m y y).length ≤ (chainP m c c).length := by
  have hne : chainP m c c ≠ [] := fun e => by rw [e] at hy; simp at hy
  obtain ⟨f1, f2⟩ := chain_fch hl hne
  have ht := fch_two f1
  obtain ⟨i, j, h1, h2, h3⟩ := fch_split f1 y hy
  rw [f2] at h3
  rcases h3 with ⟨rfl, rfl⟩ | h3
  · exact ⟨ht, Nat.le_refl _⟩
  · have := chain_len hl (chn_comp h3 j y h2)
    omega
theorem key_of {l m : Ps} (hg : good l m = true) {b : Int} {e : List Int} (h : FCh m b e) : ∀ y ∈ e.dropLast, y ∈ keys l := by
  induction h with
  | one h0 =>
    rename_i x
    intro y hy
    obtain rfl : y = x := by simpa using hy
    exact (RedM.ends_key hg h0).1
  | more hm hf ih =>
    rename_i x y' e'
    intro y hy
    rw [List.dropLast_cons_of_ne_nil (by simp)] at hy
    rcases List.mem_cons.1 hy with rfl | hy
    · exact (RedM.ends_key hg hm).1
    · exact ih y hy
/-- What the program keeps, and what the model keeps. -/
noncomputable def stepP (m : Ps) (B : List Int) (c : Int) : List Int := if 0 < (chainP m c c).length ∧ (B.length = 0 ∨ (chainP m c c).length < B.length) then chainP m c c else B
def leastC (c : Int) (L : List Int) : Prop := ∀ y ∈ L, c ≤ y
open Classical in
noncomputable def stepM (m : Ps) (B : List Int) (c : Int) : List Int := if 0 < (chainP m c c).length ∧ leastC c (chainP m c c).dropLast ∧ (B.length = 0 ∨ (chainP m c c).length - 1 < B.length) then (chainP m c c).dropLast else B
noncomputable def cycB (m : Ps) (t : List Int) : List Int := t.foldl (stepP m) []
noncomputable def cycM (m : Ps) (t : List Int) : List Int := t.foldl (stepM m) []
theorem cyc_next {f : List Int → Int → List Int} (t : List Int) (c : Int) : (t ++ [c]).foldl f [] = f (t.foldl f []) c := by simp
structure Cyc (m : Ps) (t : List Int) : Prop where
  len : (cycB m t).length = 0 ∨ 2 ≤ (cycB m t).length
  low : ∀ y ∈ t, 0 < (chainP m y y).length → 0 < (cycB m t).length ∧ (cycB m t).length ≤ (chainP m y y).length
  same : cycM m t = (cycB m t).dropLast
theorem cyc_nil (m : Ps) : Cyc m [] := ⟨.inl rfl, by simp, rfl⟩
theorem Cyc.next {m : Ps} (hl : ∀ h, (lows m h).Pairwise (· < ·)) {t : List Int} {c : Int} (h : Cyc m t) (hk : ∀ y, y ∈ (chainP m c c).dropLast → y < c → y ∈ t) : Cyc m (t ++ [c]) := by
  have e1 : cycB m (t ++ [c]) = stepP m (cycB m t) c := cyc_next t c
  have e2 : cycM m (t ++ [c]) = stepM m (cycM m t) c := cyc_next t c
  have h2 : 0 < (chainP m c c).length → 2 ≤ (chainP m c c).length := fun h0 => fch_two (chain_fch hl (by intro e; rw [e] at h0; simp at h0)).1
  by_cases hc : 0 < (chainP m c c).length ∧ ((cycB m t).length = 0 ∨ (chainP m c c).length < (cycB m t).length)
  · have e3 : stepP m (cycB m t) c = chainP m c c := by unfold stepP; rw [if_pos hc]
    have hle : leastC c (chainP m c c).dropLast := fun y hy => by
      rcases Int.lt_or_le y c with hlt | hle
      · obtain ⟨r1, r2⟩ := rot hl hy
        have := h.low y (hk y hy hlt) (by omega)
        omega
      · exact hle
    have e4 : stepM m (cycM m t) c = (chainP m c c).dropLast := by
      unfold stepM
      rw [if_pos]
      refine ⟨hc.1, hle, ?_⟩
      rw [h.same, List.length_dropLast]
      have := h2 hc.1
      rcases hc.2 with h3 | h3
      · left; omega
      · right; omega
    refine ⟨by rw [e1, e3]; exact .inr (h2 hc.1), fun y hy h0 => ?_, by rw [e1, e2, e3, e4]⟩
    rw [e1, e3]
    rcases List.mem_append.1 hy with hy | hy
    · have := h.low y hy h0
      exact ⟨hc.1, by rcases hc.2 with h3 | h3 <;> omega⟩
    · obtain rfl : y = c := by simpa using hy
      exact ⟨hc.1, Nat.le_refl _⟩
  · have e3 : stepP m (cycB m t) c = cycB m t := by unfold stepP; rw [if_neg hc]
    have e4 : stepM m (cycM m t) c = cycM m t := by
      unfold stepM
      rw [if_neg]
      rintro ⟨h3, _, h4⟩
      refine hc ⟨h3, ?_⟩
      rw [h.same, List.length_dropLast] at h4
      rcases h.len with h5 | h5
      · exact .inl h5
      · right; omega
    refine ⟨by rw [e1, e3]; exact h.len, fun y hy h0 => ?_, by rw [e1, e2, e3, e4]; exact h.same⟩
    rw [e1, e3]
    rcases List.mem_append.1 hy with hy | hy
    · exact h.low y hy h0
    · obtain rfl : y = c := by simpa using hy
      have hn : ¬ ((cycB m t).length = 0 ∨ (chainP m y y).length < (cycB m t).length) := fun h6 => hc ⟨h0, h6⟩
      omega
theorem cyc_pre {l m : Ps} (hg : good l m = true) (hl : ∀ h, (lows m h).Pairwise (· < ·)) (hsr : (keys l).Pairwise (· < ·)) : ∀ k, k ≤ l.length → Cyc m ((keys l).take k)
  | 0, _ => cyc_nil m
  | k + 1, h => by
    have ih := cyc_pre hg hl hsr k (by omega)
    have hkl : (keys l).length = l.length := by unfold keys; simp
    obtain ⟨c, hc⟩ : ∃ c, (keys l)[k]? = some c := ⟨_, List.getElem?_eq_getElem (by omega)⟩
    rw [List.take_add_one, hc, Option.toList_some]
    refine ih.next hl fun y hy hlt => ?_
    have hne : chainP m c c ≠ [] := fun e => by rw [e] at hy; simp at hy
    have hyk := key_of hg (chain_fch hl hne).1 y hy
    obtain ⟨j, hj, hjy⟩ := List.getElem_of_mem hyk
    have hcc : (keys l)[k]'(by omega) = c := by have := List.getElem?_eq_some_iff.1 hc; exact this.2
    have hjk : j < k := by
      rcases Nat.lt_trichotomy j k with e | e | e
      · exact e
      · subst e
        rw [hcc] at hjy
        omega
      · have := List.pairwise_iff_getElem.1 hsr k j (by omega) hj e
        omega
    rw [List.mem_take_iff_getElem]
    exact ⟨j, by omega, hjy⟩
end Go.Proofs.Ytcbfnhghhbgdkaa.CycM
