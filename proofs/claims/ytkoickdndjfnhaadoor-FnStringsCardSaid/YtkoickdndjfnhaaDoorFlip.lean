/- A sealed string with one byte changed is no sealed string. No program in this text but for the names. -/
import Derived.Test.YtkoickdndjfnhaaDoorVer
namespace Go.Proofs.YtkoickdndjfnhaaDoor.Flip
open Dec Seal First Stands Ver

theorem step_inj (a b : Int) (c : UInt8) (ha0 : 0 ≤ a) (ha : a ≤ 999978) (hb0 : 0 ≤ b) (hb : b ≤ 999978) (h : (41 * a + (c.toNat : Int) + 1) % 999979 = (41 * b + (c.toNat : Int) + 1) % 999979) : a = b := by omega
theorem byte_inj (a : Int) (c d : UInt8) (h : (41 * a + (c.toNat : Int) + 1) % 999979 = (41 * a + (d.toNat : Int) + 1) % 999979) : c = d := by
  have h1 := c.toNat_lt
  have h2 := d.toNat_lt
  exact UInt8.toNat_inj.1 (by omega)
theorem ck_app (l r : List UInt8) : Sum.ck (l ++ r) = r.foldl (fun h c => (41 * h + (c.toNat : Int) + 1) % 999979) (Sum.ck l) := by simp [Sum.ck, List.foldl_append]
theorem fold_inj : ∀ (r : List UInt8) (a b : Int), 0 ≤ a → a ≤ 999978 → 0 ≤ b → b ≤ 999978 → r.foldl (fun h c => (41 * h + (c.toNat : Int) + 1) % 999979) a = r.foldl (fun h c => (41 * h + (c.toNat : Int) + 1) % 999979) b → a = b
  | [], a, b, _, _, _, _, h => h
  | c :: r, a, b, h1, h2, h3, h4, h => by
    have e := fold_inj r ((41 * a + (c.toNat : Int) + 1) % 999979) ((41 * b + (c.toNat : Int) + 1) % 999979) (by omega) (by omega) (by omega) (by omega) h
    exact step_inj a b c h1 h2 h3 h4 e
theorem ck_set (l : List UInt8) (k : Nat) (hk : k < l.length) (c : UInt8) (h : Sum.ck (l.set k c) = Sum.ck l) : c = l[k] := by
  have e1 : l.set k c = (l.take k ++ [c]) ++ l.drop (k + 1) := by rw [List.set_eq_take_append_cons_drop, if_pos hk]; simp
  have e2 : l = (l.take k ++ [l[k]]) ++ l.drop (k + 1) := by simp
  rw [e1] at h
  have h' : Sum.ck ((l.take k ++ [c]) ++ l.drop (k + 1)) = Sum.ck ((l.take k ++ [l[k]]) ++ l.drop (k + 1)) := by rw [← e2]; exact h
  rw [ck_app (l.take k ++ [c]), ck_app (l.take k ++ [l[k]])] at h'
  have b1 := Sum.ck_bd (l.take k ++ [c])
  have b2 := Sum.ck_bd (l.take k ++ [l[k]])
  have e := fold_inj _ _ _ b1.1 b1.2 b2.1 b2.2 h'
  rw [Sum.ck_snoc, Sum.ck_snoc] at e
  exact byte_inj _ _ _ e

theorem digits_clean (u : Nat) : ¬ (35 : UInt8) ∈ Lib.decDigits u := by
  intro h
  obtain ⟨j, hj, he⟩ := List.getElem_of_mem h
  obtain ⟨d, hd⟩ := Lib.digit_of_decFrom _ 0 u (decFrom_digits u) j 35 (by rw [List.getElem?_eq_getElem hj, he])
  have := Lib.digitVal_eq hd
  have e : (35 : UInt8).toNat = 35 := rfl
  omega
theorem itoa_clean (l : List UInt8) : ¬ (35 : UInt8) ∈ Lib.itoa (Sum.ck l) := by
  have h := Sum.ck_bd l
  unfold Lib.itoa
  rw [if_neg (by omega)]
  exact digits_clean _
theorem itoa_inj (l r : List UInt8) (h : Lib.itoa (Sum.ck l) = Lib.itoa (Sum.ck r)) : Sum.ck l = Sum.ck r := by
  have h1 := Sum.ck_bd l
  have h2 := Sum.ck_bd r
  have e1 := atoi_itoa (Sum.ck l) (by omega) (by omega)
  have e2 := atoi_itoa (Sum.ck r) (by omega) (by omega)
  rw [h, e2] at e1
  injection e1 with e
  exact e.symm
theorem split_unique : ∀ (A T B D : List UInt8), ¬ (35 : UInt8) ∈ A → ¬ (35 : UInt8) ∈ T → A ++ 35 :: B = T ++ 35 :: D → A = T ∧ B = D
  | [], [], B, D, _, _, h => by simpa using h
  | [], t :: T, B, D, _, hT, h => by
    simp at h
    exact absurd (by rw [← h.1]; exact List.mem_cons_self ..) hT
  | a :: A, [], B, D, hA, _, h => by
    simp at h
    exact absurd (by rw [h.1]; exact List.mem_cons_self ..) hA
  | a :: A, t :: T, B, D, hA, hT, h => by
    simp only [List.cons_append, List.cons.injEq] at h
    obtain ⟨e1, e2⟩ := split_unique A T B D (fun hh => hA (List.mem_cons_of_mem _ hh)) (fun hh => hT (List.mem_cons_of_mem _ hh)) h.2
    exact ⟨by rw [h.1, e1], e2⟩
def sealL (l : List UInt8) : List UInt8 := l ++ 35 :: Lib.itoa (Sum.ck l)
theorem seal_list (s : ByteArray) : (sealB s).data.toList = sealL s.data.toList := by
  unfold sealB sealL
  rw [Joins.data_append, Joins.data_append, itoaB_list, List.append_assoc]
  rfl
theorem flip_list (X T : List UInt8) (hX : ¬ (35 : UInt8) ∈ X) (hT : ¬ (35 : UInt8) ∈ T) (k : Nat) (c : UInt8) (hk : k < (sealL X).length) (hc : (sealL X)[k] ≠ c) (h : (sealL X).set k c = sealL T) : False := by
  unfold sealL at h hc hk
  by_cases h1 : k < X.length
  · rw [List.set_append_left _ _ h1] at h
    rw [List.getElem_append_left h1] at hc
    by_cases he : c = 35
    · subst he
      have e1 : X.set k 35 = X.take k ++ 35 :: X.drop (k + 1) := by rw [List.set_eq_take_append_cons_drop, if_pos h1]
      rw [e1, List.append_assoc, List.cons_append] at h
      obtain ⟨_, e⟩ := split_unique _ _ _ _ (fun hh => hX (List.mem_of_mem_take hh)) hT h
      exact itoa_clean T (by rw [← e]; simp)
    · have hcl : ¬ (35 : UInt8) ∈ X.set k c := by
        intro hh
        rcases List.mem_or_eq_of_mem_set hh with hh | hh
        · exact hX hh
        · exact he hh.symm
      obtain ⟨e1, e2⟩ := split_unique _ _ _ _ hcl hT h
      subst e1
      exact hc (ck_set X k h1 c (itoa_inj _ _ e2).symm).symm
  · rw [List.set_append_right _ _ (by omega)] at h
    by_cases h2 : k = X.length
    · subst h2
      rw [Nat.sub_self, List.set_cons_zero] at h
      have hc' : c ≠ 35 := by
        intro e
        apply hc
        rw [List.getElem_append_right (Nat.le_refl _)]
        simp [e]
      have hm : (35 : UInt8) ∈ X ++ c :: Lib.itoa (Sum.ck X) := by rw [h]; simp
      rcases List.mem_append.1 hm with hm | hm
      · exact hX hm
      · rcases List.mem_cons.1 hm with hm | hm
        · exact hc' hm.symm
        · exact itoa_clean X hm
    · obtain ⟨j, hj⟩ : ∃ j, k - X.length = j + 1 := ⟨k - X.length - 1, by omega⟩
      rw [hj, List.set_cons_succ] at h
      obtain ⟨e1, e2⟩ := split_unique _ _ _ _ hX hT h
      subst e1
      apply hc
      rw [List.getElem_append_right (by omega)]
      have hjl : j < (Lib.itoa (Sum.ck X)).length := by
        rw [List.length_append, List.length_cons] at hk
        omega
      have e3 : (Lib.itoa (Sum.ck X))[j] = c := by
        have e4 : ((Lib.itoa (Sum.ck X)).set j c)[j]? = (Lib.itoa (Sum.ck X))[j]? := by rw [e2]
        rw [List.getElem?_set_self hjl, List.getElem?_eq_getElem hjl] at e4
        exact (Option.some.inj e4).symm
      simp only [hj, List.getElem_cons_succ]
      exact e3
theorem not_mem_of (l : List UInt8) (h : hasB l 35 = false) : ¬ (35 : UInt8) ∈ l := by
  unfold hasB at h
  intro hm
  rw [← List.contains_iff_mem] at hm
  rw [h] at hm
  cases hm
/-- One changed byte: VerifyChecksum finds nothing. -/
theorem flipped (x y y' : ByteArray) (h : av x = some y) (k : Nat) (hk : k < y.data.toList.length) (c : UInt8) (hc : y.data.toList[k] ≠ c) (hy : y'.data.toList = y.data.toList.set k c) : vv y' = none := by
  unfold av at h
  split at h
  · rename_i hh
    obtain rfl := Option.some.inj h
    unfold vv
    rw [if_neg]
    rintro ⟨_, hs⟩
    have e := congrArg (fun b : ByteArray => b.data.toList) hs
    simp only [seal_list] at e
    rw [hy] at e
    simp only [seal_list] at e hk hc
    exact flip_list _ _ (not_mem_of _ hh.1.2) (not_mem_of _ (first_clean y' 35)) k c hk hc e.symm
  · cases h
/-- What was sealed is found again. -/
theorem sealed (x y : ByteArray) (h : av x = some y) : vv y = some x := by
  unfold av at h
  split at h
  · rename_i hh
    obtain rfl := Option.some.inj h
    have hf : first (sealB x) 35 = x := by
      have hl := seal_list x
      have hcl := not_mem_of _ hh.1.2
      unfold sealL at hl
      have hix : idx (sealB x) 35 = x.data.toList.length := by
        unfold idx
        have hm : (35 : UInt8) ∈ (sealB x).data.toList := by rw [hl]; simp
        have h0 : 0 ≤ Lib.indexByte (sealB x).data.toList 35 := by
          have := Lib.contains_iff_indexByte (sealB x).data.toList 35
          rw [List.contains_iff_mem.2 hm] at this
          exact of_decide_eq_true this.symm
        rw [if_pos h0]
        obtain ⟨o, ho⟩ : ∃ o : Nat, Lib.indexByte (sealB x).data.toList 35 = o := ⟨_, (Int.toNat_of_nonneg h0).symm⟩
        obtain ⟨g1, g2⟩ := Lib.indexByte_some ho
        rw [ho, Int.toNat_natCast]
        rcases Nat.lt_trichotomy o x.data.toList.length with hlt | heq | hgt
        · rw [hl, List.getElem?_append_left hlt] at g1
          exact absurd (List.mem_of_getElem? g1) hcl
        · exact heq
        · have := g2 _ hgt
          rw [hl, List.getElem?_append_right (Nat.le_refl _)] at this
          simp at this
      apply ByteArray.ext
      apply Array.toList_inj.1
      rw [first_data, hix, hl, List.take_left']
      rfl
    unfold vv
    rw [hf, if_pos ⟨hh.2, rfl⟩]
  · cases h
end Go.Proofs.YtkoickdndjfnhaaDoor.Flip
