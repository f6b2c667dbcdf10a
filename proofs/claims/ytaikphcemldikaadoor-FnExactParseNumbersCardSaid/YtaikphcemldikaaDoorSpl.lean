/- Splitting a list of bytes at a byte, as a plain function; the parts of a string are that. -/
import Derived.Test.YtaikphcemldikaaDoorFirst
import Derived.Test.YtaikphcemldikaaDoorDec
namespace Go.Proofs.YtaikphcemldikaaDoor.Spl
open Split First Dec

abbrev By := List UInt8
def spl (c : UInt8) : By → List By
  | [] => [[]]
  | x :: l => if x = c then [] :: spl c l else ((x :: (spl c l).headD []) :: (spl c l).tail)
theorem spl_nil (c : UInt8) : spl c [] = [[]] := rfl
theorem spl_hit (c : UInt8) (l : By) : spl c (c :: l) = [] :: spl c l := by rw [spl, if_pos rfl]
theorem spl_miss {c x : UInt8} (l : By) (h : x ≠ c) : spl c (x :: l) = (x :: (spl c l).headD []) :: (spl c l).tail := by rw [spl, if_neg h]
theorem spl_ne (c : UInt8) (l : By) : spl c l ≠ [] := by
  cases l with
  | nil => simp [spl]
  | cons x l =>
    unfold spl
    split <;> simp
theorem spl_form (c : UInt8) (l : By) : ∃ p ps, spl c l = p :: ps := by
  cases h : spl c l with
  | nil => exact absurd h (spl_ne c l)
  | cons p ps => exact ⟨p, ps, rfl⟩
theorem spl_clean (c : UInt8) : ∀ a : By, (∀ x ∈ a, x ≠ c) → spl c a = [a]
  | [], _ => rfl
  | x :: a, h => by rw [spl_miss _ (h x (by simp)), spl_clean c a (fun y hy => h y (by simp [hy]))]; rfl
theorem spl_app (c : UInt8) (r : By) : ∀ a : By, (∀ x ∈ a, x ≠ c) → spl c (a ++ c :: r) = a :: spl c r
  | [], _ => spl_hit c r
  | x :: a, h => by rw [List.cons_append, spl_miss _ (h x (by simp)), spl_app c r a (fun y hy => h y (by simp [hy]))]; rfl
theorem spl_length (c : UInt8) : ∀ l : By, (spl c l).length ≤ l.length + 1
  | [] => by simp [spl]
  | x :: l => by
    have ih := spl_length c l
    unfold spl
    split
    · simp; omega
    · have := spl_ne c l
      cases h : spl c l with
      | nil => exact absurd h this
      | cons p ps => rw [h] at ih; simp at ih ⊢; omega
theorem spl_mem (c : UInt8) : ∀ l : By, ∀ p ∈ spl c l, p.length ≤ l.length ∧ ∀ x ∈ p, x ∈ l ∧ x ≠ c
  | [], p, hp => by simp [spl] at hp; subst hp; simp
  | y :: l, p, hp => by
    by_cases hy : y = c
    · subst hy
      rw [spl_hit] at hp
      rcases List.mem_cons.1 hp with rfl | hp
      · simp
      · obtain ⟨h1, h2⟩ := spl_mem y l p hp
        exact ⟨by simp; omega, fun x hx => ⟨List.mem_cons_of_mem _ (h2 x hx).1, (h2 x hx).2⟩⟩
    · obtain ⟨q, qs, hq⟩ := spl_form c l
      rw [spl_miss _ hy, hq] at hp
      rcases List.mem_cons.1 hp with rfl | hp
      · obtain ⟨h1, h2⟩ := spl_mem c l q (by rw [hq]; simp)
        refine ⟨by simp; omega, fun x hx => ?_⟩
        rcases List.mem_cons.1 hx with rfl | hx
        · exact ⟨by simp, hy⟩
        · exact ⟨List.mem_cons_of_mem _ (h2 x hx).1, (h2 x hx).2⟩
      · obtain ⟨h1, h2⟩ := spl_mem c l p (by rw [hq]; exact List.mem_cons_of_mem _ hp)
        exact ⟨by simp; omega, fun x hx => ⟨List.mem_cons_of_mem _ (h2 x hx).1, (h2 x hx).2⟩⟩

def tl' (x : ByteArray) : By := x.data.toList
def ofL (l : By) : ByteArray := ⟨l.toArray⟩
theorem ofL_tl (x : ByteArray) : ofL (tl' x) = x := by unfold ofL tl'; cases x; simp
theorem tl_ofL (l : By) : tl' (ofL l) = l := by unfold ofL tl'; simp
theorem ofL_size (l : By) : (ofL l).size = l.length := by unfold ofL; simp [ByteArray.size]
theorem ext_data (s : ByteArray) (i j : Nat) : tl' (s.extract i j) = ((tl' s).drop i).take (j - i) := by
  unfold tl'
  rw [Lib.extract_data]
theorem no_mem {c : UInt8} {l : By} {f k : Nat} (h : ∀ j, f ≤ j → j < k → l[j]? ≠ some c) : ∀ x ∈ (l.drop f).take (k - f), x ≠ c := by
  intro x hx e
  subst e
  obtain ⟨i, hi, he⟩ := List.getElem_of_mem hx
  have h1 : ((l.drop f).take (k - f))[i]? = some x := by rw [List.getElem?_eq_getElem hi, he]
  rw [List.length_take] at hi
  rw [List.getElem?_take_of_lt (by omega), List.getElem?_drop] at h1
  exact h (f + i) (by omega) (by omega) h1
theorem st_spl (s : ByteArray) (b : UInt8) : ∀ k, k ≤ s.size → spl b (tl' s) = ((st s b k).1.map tl') ++ spl b ((tl' s).drop (st s b k).2) ∧ (∀ j, (st s b k).2 ≤ j → j < k → (tl' s)[j]? ≠ some b) := by
  intro k
  induction k with
  | zero => intro _; exact ⟨by simp [st], fun j _ hj => by omega⟩
  | succ k ih =>
    intro hk
    obtain ⟨h1, h2⟩ := ih (by omega)
    have hbd := st_bd s b k
    have hl : (tl' s).length = s.size := by simp [tl']
    by_cases h : s.data.toList[k]? = some b
    · rw [st, if_pos h]
      refine ⟨?_, fun j hj hj2 => by simp only at hj; omega⟩
      rw [h1]
      have e : (tl' s).drop (st s b k).2 = ((tl' s).drop (st s b k).2).take (k - (st s b k).2) ++ b :: (tl' s).drop (k + 1) := by
        have e1 : (tl' s).drop k = b :: (tl' s).drop (k + 1) := by
          have hk' : k < (tl' s).length := by omega
          rw [List.drop_eq_getElem_cons hk']
          have h' : (tl' s)[k]? = some b := h
          rw [List.getElem?_eq_getElem hk'] at h'
          rw [Option.some.inj h']
        rw [← e1]
        conv => lhs; rw [← List.take_append_drop (k - (st s b k).2) ((tl' s).drop (st s b k).2)]
        rw [List.drop_drop, show (st s b k).2 + (k - (st s b k).2) = k by omega]
      rw [e, spl_app _ _ _ (no_mem h2)]
      simp only [List.map_append, List.map_cons, List.map_nil, List.append_assoc, List.singleton_append]
      rw [ext_data]
    · rw [st, if_neg h]
      refine ⟨h1, fun j hj hj2 => ?_⟩
      by_cases e : j = k
      · subst e; exact h
      · exact h2 j hj (by omega)
theorem parts_spl (s : ByteArray) (b : UInt8) : (parts s b).map tl' = spl b (tl' s) := by
  obtain ⟨h1, h2⟩ := st_spl s b s.size (Nat.le_refl _)
  have hl : (tl' s).length = s.size := by simp [tl']
  rw [h1]
  unfold parts
  rw [List.map_append, List.map_cons, List.map_nil, ext_data]
  have e : ((tl' s).drop (st s b s.size).2).take (s.size - (st s b s.size).2) = (tl' s).drop (st s b s.size).2 := by
    rw [List.take_of_length_le (by simp; omega)]
  rw [e]
  have := no_mem h2
  rw [e] at this
  rw [spl_clean _ _ this]

/-- A number's text: digits, perhaps a sign. -/
theorem digits_in (u : Nat) : ∀ c ∈ Lib.decDigits u, 48 ≤ c.toNat ∧ c.toNat ≤ 57 := by
  induction u using Nat.strongRecOn with
  | _ u ih =>
    intro c hc
    have hd : ∀ d, d < 10 → 48 ≤ (UInt8.ofNat (48 + d)).toNat ∧ (UInt8.ofNat (48 + d)).toNat ≤ 57 := by
      intro d hd
      have : ∀ d : Fin 10, 48 ≤ (UInt8.ofNat (48 + d.val)).toNat ∧ (UInt8.ofNat (48 + d.val)).toNat ≤ 57 := by decide
      exact this ⟨d, hd⟩
    rw [Lib.decDigits] at hc
    split at hc
    · rename_i h
      simp only [List.mem_singleton] at hc
      subst hc
      exact hd u h
    · rcases List.mem_append.1 hc with hc | hc
      · exact ih (u / 10) (by omega) c hc
      · simp only [List.mem_singleton] at hc
        subst hc
        exact hd (u % 10) (by omega)
theorem itoa_in (n : Int) : ∀ c ∈ Lib.itoa n, c = 45 ∨ 48 ≤ c.toNat ∧ c.toNat ≤ 57 := by
  intro c hc
  unfold Lib.itoa at hc
  split at hc
  · rcases List.mem_cons.1 hc with rfl | hc
    · exact .inl rfl
    · exact .inr (digits_in _ c hc)
  · exact .inr (digits_in _ c hc)
def pvL (l : By) : Option Int := pv (ofL l)
theorem pvL_iff (l : By) (n : Int) : pvL l = some n ↔ (-999999 ≤ n ∧ n ≤ 999999) ∧ Lib.itoa n = l := by
  unfold pvL
  rw [pv_iff]
  constructor
  · rintro ⟨h1, h2⟩
    refine ⟨h1, ?_⟩
    rw [← itoaB_list, h2]
    exact tl_ofL l
  · rintro ⟨h1, h2⟩
    refine ⟨h1, ?_⟩
    rw [← h2]
    rfl
theorem pvL_in {l : By} {n : Int} (h : pvL l = some n) : ∀ c ∈ l, c = 45 ∨ 48 ≤ c.toNat ∧ c.toNat ≤ 57 := by
  obtain ⟨_, rfl⟩ := (pvL_iff l n).1 h
  exact itoa_in n
theorem pv_pvL (s : ByteArray) : pv s = pvL (tl' s) := by unfold pvL; rw [ofL_tl]
end Go.Proofs.YtaikphcemldikaaDoor.Spl
