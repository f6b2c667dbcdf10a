/- The order of contexts, the smallest ready one first: mathematics. -/
import Derived.Test.YtmjhgjlnpnkmkaaConsistA
import Derived.Test.YtmjhgjlnpnkmkaaFuncM
namespace Go.Proofs.Ytmjhgjlnpnkmkaa.OrdM
open Pairs Rec Chain Find2 GoodM
/-- Not done, and all that come before it are done. -/
def rdy (rel : Int → Int → Bool) (K : List Int) (D : Int → Bool) (n : Int) : Bool := !D n && K.all (fun x => !rel x n || D x)
def ordD (rel : Int → Int → Bool) (K : List Int) : Nat → (Int → Bool) → List Int
  | 0, _ => []
  | f + 1, D => match K.find? (rdy rel K D) with | none => [] | some n => n :: ordD rel K f (fun x => D x || x == n)
def lft (K : List Int) (D : Int → Bool) : List Int := K.filter (fun x => !D x)
theorem erase_filter {n : Int} : ∀ {L : List Int} {i : Nat}, L.Nodup → L[i]? = some n → L.eraseIdx i = L.filter (fun x => !(x == n))
  | [], _, _, h => by simp at h
  | a :: t, 0, hd, h => by
    simp at h
    subst h
    rw [List.nodup_cons] at hd
    rw [List.eraseIdx_cons_zero, List.filter_cons_of_neg (by simp), List.filter_eq_self.2]
    intro x hx
    have : x ≠ a := fun e => hd.1 (e ▸ hx)
    simp [this]
  | a :: t, i + 1, hd, h => by
    rw [List.nodup_cons] at hd
    rw [List.getElem?_cons_succ] at h
    have hm := List.mem_of_getElem? h
    have : a ≠ n := fun e => hd.1 (e ▸ hm)
    rw [List.eraseIdx_cons_succ, List.filter_cons_of_pos (by simp [this]), erase_filter hd.2 h]
theorem lft_next {K : List Int} {D : Int → Bool} {n : Int} {i : Nat} (hK : K.Nodup) (h : (lft K D)[i]? = some n) : (lft K D).eraseIdx i = lft K (fun x => D x || x == n) := by
  have hN : (lft K D).Nodup := hK.filter _
  rw [erase_filter hN h]
  unfold lft
  rw [List.filter_filter]
  congr 1
  funext x
  cases hd : D x <;> cases hq : x == n <;> simp_all
theorem lft_any {K : List Int} {D : Int → Bool} (r : Int → Bool) : (lft K D).any r = !(K.all (fun x => !r x || D x)) := by
  unfold lft
  induction K with
  | nil => rfl
  | cons a t ih =>
    rw [List.filter_cons, List.all_cons]
    cases h : D a <;> simp [ih]
/-- The program's search among those that are left. -/
theorem left_find {rel : Int → Int → Bool} {K : List Int} {D : Int → Bool} : (lft K D).find? (fun n => !(lft K D).any (fun x => rel x n)) = K.find? (rdy rel K D) := by
  have e : (fun n => !(lft K D).any (fun x => rel x n)) = fun n => K.all (fun x => !rel x n || D x) := by
    funext n
    rw [lft_any, Bool.not_not]
  rw [e]
  unfold lft
  rw [List.find?_filter]
  congr 1
  funext n
  unfold rdy
  cases D n <;> cases (K.all fun x => !rel x n || D x) <;> rfl
theorem ix_find {q : Int → Bool} {L : List Int} {n : Int} (h : L.find? q = some n) : ∃ i : Nat, FuncI.ix q L = (i : Int) ∧ i < L.length ∧ L[i]? = some n := by
  unfold FuncI.ix
  cases e : L.findIdx? q with
  | none =>
    rw [List.findIdx?_eq_none_iff] at e
    have h1 := List.find?_some h
    have h2 := e n (List.mem_of_find?_eq_some h)
    rw [h1] at h2
    cases h2
  | some i =>
    obtain ⟨hi, hq, hl⟩ := List.findIdx?_eq_some_iff_getElem.1 e
    refine ⟨i, rfl, hi, ?_⟩
    obtain ⟨h1, pre, bs, h2, h3⟩ := List.find?_eq_some_iff_append.1 h
    have hj : i = pre.length := by
      rcases Nat.lt_trichotomy i pre.length with hlt | he | hgt
      · have hm : L[i] ∈ pre := by
          have : L[i]? = pre[i]? := by rw [h2, List.getElem?_append_left hlt]
          rw [List.getElem?_eq_getElem hi, List.getElem?_eq_getElem hlt] at this
          rw [Option.some.inj this]
          exact List.getElem_mem hlt
        have := h3 _ hm
        rw [hq] at this
        simp at this
      · exact he
      · have h4 := hl pre.length hgt
        have : L[pre.length]? = some n := by rw [h2, List.getElem?_append_right (Nat.le_refl _)]; simp
        rw [List.getElem?_eq_getElem (by omega)] at this
        rw [Option.some.inj this, h1] at h4
        simp at h4
    rw [hj, h2, List.getElem?_append_right (Nat.le_refl _)]
    simp
theorem cnt_lt {p q : Int → Bool} {z : Int} : ∀ {K : List Int}, (∀ x ∈ K, p x = true → q x = true) → z ∈ K → q z = true → p z = false → (K.filter p).length < (K.filter q).length
  | [], _, hz, _, _ => by simp at hz
  | a :: t, h, hz, h1, h2 => by
    have hle : ∀ {K : List Int}, (∀ x ∈ K, p x = true → q x = true) → (K.filter p).length ≤ (K.filter q).length := by
      intro K
      induction K with
      | nil => intro _; exact Nat.le_refl _
      | cons b s ih =>
        intro h
        have ih := ih (fun x hx => h x (List.mem_cons_of_mem _ hx))
        have hb := h b (List.mem_cons_self ..)
        cases e : p b
        · rw [List.filter_cons_of_neg (by simp [e])]
          refine Nat.le_trans ih ?_
          rw [List.filter_cons]
          split
          · simp
          · exact Nat.le_refl _
        · rw [List.filter_cons_of_pos e, List.filter_cons_of_pos (hb e)]
          simpa using ih
    have ht := hle (K := t) (fun x hx => h x (List.mem_cons_of_mem _ hx))
    rcases List.mem_cons.1 hz with rfl | hz
    · rw [List.filter_cons_of_neg (by simp [h2]), List.filter_cons_of_pos h1]
      simp
      omega
    · have ih := cnt_lt (fun x hx => h x (List.mem_cons_of_mem _ hx)) hz h1 h2
      have ha := h a (List.mem_cons_self ..)
      cases e : p a
      · rw [List.filter_cons_of_neg (by simp [e])]
        refine Nat.lt_of_lt_of_le ih ?_
        rw [List.filter_cons]
        split
        · simp
        · exact Nat.le_refl _
      · rw [List.filter_cons_of_pos e, List.filter_cons_of_pos (ha e)]
        simpa using ih
/-- Without cycles there is a next one as long as any are left. -/
theorem find_some {rel : Int → Int → Bool} {K : List Int} {D : Int → Bool} (htr : ∀ a b c, rel a b = true → rel b c = true → rel a c = true) (hir : ∀ a ∈ K, rel a a = false) :
    ∀ (f : Nat) (x : Int), x ∈ K → D x = false → (K.filter (fun y => !D y && rel y x)).length ≤ f → ∃ n, K.find? (rdy rel K D) = some n
  | f, x, hx, hd, hf => by
    by_cases hr : rdy rel K D x = true
    · cases e : K.find? (rdy rel K D) with
      | some n => exact ⟨n, rfl⟩
      | none =>
        rw [List.find?_eq_none] at e
        exact absurd hr (e x hx)
    · unfold rdy at hr
      rw [hd] at hr
      simp only [Bool.not_false, Bool.true_and, Bool.not_eq_true, List.all_eq_false] at hr
      obtain ⟨y, hy, hxy⟩ := hr
      simp only [Bool.or_eq_false_iff, Bool.not_eq_false'] at hxy
      have hlt : (K.filter (fun z => !D z && rel z y)).length < (K.filter (fun z => !D z && rel z x)).length := by
        refine cnt_lt (z := y) (fun z _ h => ?_) hy (by simp [hxy]) (by simp [hir y hy])
        simp only [Bool.and_eq_true] at h ⊢
        exact ⟨h.1, htr z y x h.2 hxy.1⟩
      match f, hf with
      | 0, hf => omega
      | f + 1, hf => exact find_some htr hir f y hy hxy.2 (by omega)
theorem find_in {rel : Int → Int → Bool} {K : List Int} {D : Int → Bool} {n : Int} (h : K.find? (rdy rel K D) = some n) : n ∈ K ∧ D n = false ∧ ∀ x ∈ K, rel x n = true → D x = true := by
  refine ⟨List.mem_of_find?_eq_some h, ?_⟩
  have h1 := List.find?_some h
  unfold rdy at h1
  simp only [Bool.and_eq_true, Bool.not_eq_true', List.all_eq_true, Bool.or_eq_true] at h1
  refine ⟨h1.1, fun x hx hr => ?_⟩
  rcases h1.2 x hx with h2 | h2
  · rw [hr] at h2
    cases h2
  · exact h2
theorem ordD_next {rel : Int → Int → Bool} {K : List Int} {D : Int → Bool} {n : Int} {f : Nat} (h : K.find? (rdy rel K D) = some n) : ordD rel K (f + 1) D = n :: ordD rel K f (fun x => D x || x == n) := by
  show (match K.find? (rdy rel K D) with | none => [] | some n => n :: ordD rel K f (fun x => D x || x == n)) = _
  rw [h]
theorem ordD_none {rel : Int → Int → Bool} {K : List Int} {D : Int → Bool} {f : Nat} (h : K.find? (rdy rel K D) = none) : ordD rel K f D = [] := by
  cases f with
  | zero => rfl
  | succ f =>
    show (match K.find? (rdy rel K D) with | none => [] | some n => n :: ordD rel K f (fun x => D x || x == n)) = _
    rw [h]
theorem ordD_len {rel : Int → Int → Bool} {K : List Int} : ∀ (f : Nat) (D : Int → Bool), (ordD rel K f D).length ≤ f
  | 0, _ => Nat.le_refl _
  | f + 1, D => by
    show (match K.find? (rdy rel K D) with | none => [] | some n => n :: ordD rel K f (fun x => D x || x == n)).length ≤ _
    split
    · simp
    · rename_i n _
      have := ordD_len (rel := rel) (K := K) f (fun x => D x || x == n)
      simp
      exact this
theorem lft_all (K : List Int) : lft K (fun _ => false) = K := List.filter_eq_self.2 (fun _ _ => rfl)
theorem len_pred {K : List Int} {D : Int → Bool} {n : Int} {f : Nat} {i : Nat} (hK : K.Nodup) (hi : (lft K D)[i]? = some n) (hf : (lft K D).length = f + 1) : (lft K (fun x => D x || x == n)).length = f := by
  have hil := (List.getElem?_eq_some_iff.1 hi).1
  rw [← lft_next hK hi, List.length_eraseIdx, if_pos hil, hf]
  rfl
noncomputable def orderL (l m : Ps) : List Int := ordD (later m) (keys l) l.length (fun _ => false)
noncomputable def orderP (l m : Ps) : Option (List Int) := if good l m = true then (if (l.any fun p => later m p.1 p.1) = true then none else some (orderL l m)) else none
theorem ord_bad {l m : Ps} (h : good l m = false) : orderP l m = none := by unfold orderP; rw [if_neg (by rw [h]; simp)]
theorem ord_cyc {l m : Ps} (h : good l m = true) (h2 : (l.any fun p => later m p.1 p.1) = true) : orderP l m = none := by unfold orderP; rw [if_pos h, if_pos h2]
theorem ord_yes {l m : Ps} (h : good l m = true) (h2 : (l.any fun p => later m p.1 p.1) = false) : orderP l m = some (orderL l m) := by unfold orderP; rw [if_pos h, if_neg (by rw [h2]; simp)]
theorem later_trans {m : Ps} (a b c : Int) (h1 : later m a b = true) (h2 : later m b c = true) : later m a c = true := later_iff.2 ((later_iff.1 h1).trans (later_iff.1 h2))
theorem irrefl {l m : Ps} (h : (l.any fun p => later m p.1 p.1) = false) : ∀ a ∈ keys l, later m a a = false := by
  intro a ha
  obtain ⟨p, hp, rfl⟩ := List.mem_map.1 ha
  rw [List.any_eq_false] at h
  have := h p hp
  simpa using this
theorem keys_nodup {l m : Ps} (h : good l m = true) : (keys l).Nodup := by
  unfold List.Nodup
  rw [List.pairwise_iff_getElem]
  intro i j hi hj hij e
  have hi' : i < l.length := by simpa [keys] using hi
  have hj' : j < l.length := by simpa [keys] using hj
  have e1 := Consist.num_at h (x := l[i].1) (y := l[i].2) (i := i) (by rw [List.getElem?_eq_getElem hi'])
  have e2 := Consist.num_at h (x := l[j].1) (y := l[j].2) (i := j) (by rw [List.getElem?_eq_getElem hj'])
  have e3 : l[i].1 = l[j].1 := by simpa [keys] using e
  rw [e3, e2] at e1
  injection e1 with e1
  omega
end Go.Proofs.Ytmjhgjlnpnkmkaa.OrdM
