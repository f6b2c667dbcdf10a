/- The order of contexts, the smallest ready one first: mathematics. -/
import Derived.Test.YtcbfnhghhbgdkaaExactResolvesRecordSaidPartao
import Derived.Test.YtcbfnhghhbgdkaaExactResolvesRecordSaidPartai
namespace Go.Proofs.Ytcbfnhghhbgdkaa.OrdM
open Pairs Rec Chain Find2 GoodM
/-- Not done, and all that come before it are done. -/
def rdy (rel : Int → Int → Bool) (K : List Int) (D : Int → Bool) (n : Int) : Bool := !D n && K.all (fun x => !rel x n || D x)
def ordD (rel : Int → Int → Bool) (K : List Int) : Nat → (Int → Bool) → List Int
  | 0, _ => []
  | f + 1, D => match K.find? (rdy rel K D) with | none => [] | some n => n :: ordD rel K f (fun x => D x || x == n)
def lft (K : List Int) (D : Int → Bool) : List Int := K.filter (fun x => !D x)
theorem erase_filter {n : Int} : ∀ {L : List Int} {i : Nat}, L.Nodup → L[i]? = some n → L.eraseIdx i = L.filter (fun x => !(x == n))
  | [], _, _, h => by simp at h
  | a :: t, 0, hd, h => by
    simp at h
    subst h
    rw [List.nodup_cons] at hd
    rw [List.eraseIdx_cons_zero, List.filter_cons_of_neg (by simp), List.filter_eq_self.2]
    intro x hx
    have : x ≠ a := fun e => hd.1 (e ▸ hx)
    simp [this]
  | a :: t, i + 1, hd, h => by
    rw [List.nodup_cons] at hd
    rw [List.getElem?_cons_succ] at h
    have hm := List.mem_of_getElem? h
    have : a ≠ n := fun e => hd.1 (e ▸ hm)
    rw [List.eraseIdx_cons_succ, List.filter_cons_of_pos (by simp [this]), erase_filter hd.2 h]
theorem lft_next {K : List Int} {D : Int → Bool} {n : Int} {i : Nat} (hK : K.Nodup) (h : (lft K D)[i]? = some n) : (lft K D).eraseIdx i = lft K (fun x => D x || x == n) := by
  have hN : (lft K D).Nodup := hK.filter _
  rw [erase_filter hN h]
  unfold lft
  rw [List.filter_filter]
  congr 1
  funext x
  cases hd : D x <;> cases hq : x == n <;> simp_all
theorem lft_any {K : List Int} {D : Int → Bool} (r : Int → Bool) : (lft K D).any r = !(K.all (fun x => !r x || D x)) := by
  unfold lft
  induction K with
  | nil => rfl
  | cons a t ih =>
    rw [List.filter_cons, List.all_cons]
    cases h : D a <;> simp [ih]
/-- The program's search among those that are left. -/
theorem left_find {rel : Int → Int → Bool} {K : List Int} {D : Int → Bool} : (lft K D).find? (fun n => !(lft K D).any (fun x => rel x n)) = K.find? (rdy rel K D) := by
  have e : (fun n => !(lft K D).any (fun x => rel x n)) = fun n => K.all (fun x => !rel x n || D x) := by
    funext n
    rw [lft_any, Bool.not_not]
  rw [e]
  unfold lft
  rw [List.find?_filter]
  congr 1
  funext n
  unfold rdy
  cases D n <;> cases (K.all fun x => !rel x n || D x) <;> rfl
theorem ix_find {q : Int → Bool} {L : List Int} {n : Int} (h : L.find? q = some n) : ∃ i : Nat, FuncI.ix q L = (i : Int) ∧ i < L.length ∧ L[i]? = some n := by
  unfold FuncI.ix
  cases e : L.findIdx? q with
  | none =>
    rw [List.findIdx?_eq_none_iff] at e
    have h1 := List.find?_some h
    have h2 := e n (List.mem_of_find?_eq_some h)
    rw [h1] at h2
    cases h2
  | some i =>
    obtain ⟨hi, hq, hl⟩ := List.findIdx?_eq_some_iff_getElem.1 e
    refine ⟨i, rfl, hi, ?_⟩
    obtain ⟨h1, pre, bs, h2, h3⟩ := List.find?_eq_some_iff_append.1 h
    have hj : i = pre.length := by
      rcases Nat.lt_trichotomy i pre.length with hlt | he | hgt
      · have hm : L[i] ∈ pre := by
          have : L[i]? = pre[i]? := by rw [h2, List.getElem?_append_left hlt]
          rw [List.getElem?_eq_getElem hi, List.getElem?_eq_getElem hlt] at this
          rw [Option.some.inj this]
          exact List.getElem_mem hlt
        have := h3 _ hm
        rw [hq] at this
        simp at this
      · exact he
      · have h4 := hl pre.length hgt
        have : L[pre.length]? = some n := by rw [h2, List.getElem?_append_right (Nat.le_refl _)]; simp
        rw [List.getElem?_eq_getElem (by omega)] at this
        rw [Option.some.inj this, h1] at h4
        simp at h4
    rw [hj, h2, List.getElem?_append_right (Nat.le_refl _)]
    simp
theorem cnt_lt {p q : Int → Bool} {z : Int} : ∀ {K : List Int}, (∀ x ∈ K, p x = true → q x = true) → z ∈ K → q z = true → p z = false → (K.filter p).length < (K.filter q).length
  | [], _, hz, _, _ => by simp at hz
  | a :: t, h, hz, h1, h2 => by
    have hle : ∀ {K : List Int}, (∀ x ∈ K, p x = true → q x = true) → (K.filter p).length ≤ (K.filter q).length := by
      intro K
      induction K with
      | nil => intro _; exact Nat.le_refl _
      | cons b s ih =>
        intro h
        have ih := ih (fun x hx => h x (List.mem_cons_of_mem _ hx))
        have hb := h b (List.mem_cons_self ..)
        cases e : p b
        · rw [List.filter_cons_of_neg (by simp [e])]
          refine Nat.le_trans ih ?_
          rw [List.filter_cons]
          split
          · simp
          · exact Nat.le_refl _
        · rw [List.filter_cons_of_pos e, List.filter_cons_of_pos (hb e)]
          simpa using ih
    have ht := hle (K := t) (fun x hx => h x (List.mem_cons_of_mem _ hx))
    rcases List.mem_cons.1 hz with rfl | hz
    · rw [List.filter_cons_of_neg (by simp [h2]), List.filter_cons_of_pos h1]
      simp
      omega
    · have ih := cnt_lt (fun x hx => h x (List.mem_cons_of_mem _ hx)) hz h1 h2
      have ha := h a (List.mem_cons_self ..)
      cases e : p a
      · rw [List.filter_cons_of_neg (by simp [e])]
        refine Nat.lt_of_lt_of_le ih ?_
        rw [List.filter_cons]
        split
        · simp
        · exact Nat.le_refl _
      · rw [List.filter_cons_of_pos e, List.filter_cons_of_pos (ha e)]
        simpa using ih
/-- Without cycles there is a next one as long as any are left. -/
theorem find_some {rel : Int → Int → Bool} {K : List Int} {D : Int → Bool} (htr : ∀ a b c, rel a b = true → rel b c = true → rel a c = true) (hir : ∀ a ∈ K, rel a a = false) :
    ∀ (f : Nat) (x : Int), x ∈ K → D x = false → (K.filter (fun y => !D y && rel y x)).length ≤ f → ∃ n, K.find? (rdy rel K D) = some n
  | f, x, hx, hd, hf => by
    by_cases hr : rdy rel K D x = true
    · cases e : K.find? (rdy rel K D) with
      | some n => exact ⟨n, rfl⟩
      | none =>
        rw [List.find?_eq_none] at e
        exact absurd hr (e x hx)
    · unfold rdy at hr
      rw [hd] at hr
      simp only [Bool.not_false, Bool.true_and, Bool.not_eq_true, List.all_eq_false] at hr
      obtain ⟨y, hy, hxy⟩ := hr
      simp only [Bool.or_eq_false_iff, Bool.not_eq_false'] at hxy
      have hlt : (K.filter (fun z => !D z && rel z y)).length < (K.filter (fun z => !D z && rel z x)).length := by
        refine cnt_lt (z := y) (fun z _ h => ?_) hy (by simp [hxy]) (by simp [hir y hy])
        simp only [Bool.and_eq_true] at h ⊢
        exact ⟨h.1, htr z y x h.2 hxy.1⟩
      match f, hf with
      | 0, hf => omega
      | f + 1, hf => exact find_some htr hir f y hy hxy.2 (by omega)
theorem find_in {rel : Int → Int → Bool} {K : List Int} {D : Int → Bool} {n : Int} (h : K.find? (rdy rel K D) = some n) : n ∈ K ∧ D n = false ∧ ∀ x ∈ K, rel x n = true → D x = true := by
  refine ⟨List.mem_of_find?_eq_some h, ?_⟩
  have h1 := List.find?_some h
  unfold rdy at h1
  simp only [Bool.and_eq_true, Bool.not_eq_true', List.all_eq_true, Bool.or_eq_true] at h1
  refine ⟨h1.1, fun x hx hr => ?_⟩
  rcases h1.2 x hx with h2 | h2
  · rw [hr] at h2
    cases h2
  · exact h2
theorem ordD_next {rel : Int → Int → Bool} {K : List Int} {D : Int → Bool} {n : Int} {f : Nat} (h : K.find? (rdy rel K D) = some n) : ordD rel K (f + 1) D = n :: ordD rel K f (fun x => D x || x == n) := by
  show (match K.find? (rdy rel K D) with | none => [] | some n => n :: ordD rel K f (fun x => D x || x == n)) = _
  rw [h]
theorem ordD_none {rel : Int → Int → Bool} {K : List Int} {D : Int → Bool} {f : Nat} (h : K.find? (rdy rel K D) = none) : ordD rel K f D = [] := by
  cases f with
  | zero => rfl
  | succ f =>
    show (match K.find? (rdy rel K D) with | none => [] | some n => n :: ordD rel K f (fun x => D x || x == n)) = _
    rw [h]
theorem ordD_len {rel : Int → Int → Bool} {K : List Int} : ∀ (f : Nat) (D : Int → Bool), (ordD rel K f D).length ≤ f
  | 0, _ => Nat.le_refl _
  | f + 1, D => by
    show (match K.find? (rdy rel K D) with | none => [] | some n => n :: ordD rel K f (fun x => D x || x == n)).length ≤ _
    split
    · simp
    · rename_i n _
      have := ordD_len (rel := rel) (K := K) f (fun x => D x || x == n)
      simp
      exact this
theorem lft_all (K : List Int) : lft K (fun _ => false) = K := List.filter_eq_self.2 (fun _ _ => rfl)
theorem len_pred {K : List Int} {D : Int → Bool} {n : Int} {f : Nat} {i : Nat} (hK : K.Nodup) (hi : (lft K D)[i]? = some n) (hf : (lft K D).length = f + 1) : (lft K (fun x => D x || x == n)).length = f := by
  have hil := (List.getElem?_eq_some_iff.1 hi).1
  rw [← lft_next hK hi, List.length_eraseIdx, if_pos hil, hf]
  rfl
noncomputable def orderL (l m : Ps) : List Int := ordD (later m) (keys l) l.length (fun _ => false)
noncomputable def orderP (l m : Ps) : Option (List Int) := if good l m = true then (if (l.any fun p => later m p.1 p.1) = true then none else some (orderL l m)) else none
theorem ord_bad {l m : Ps} (h : good l m = false) : orderP l m = none := by unfold orderP; rw [if_neg (by rw [h]; simp)]
theorem ord_cyc {l m : Ps} (h : good l m = true) (h2 : (l.any fun p => later m p.1 p.1) = true) : orderP l m = none := by unfold orderP; rw [if_pos h, if_pos h2]
theorem ord_yes {l m : Ps} (h : good l m = true) (h2 : (l.any fun p => later m p.1 p.1) = false) : orderP l m = some (orderL l m) := by unfold orderP; rw [if_pos h, if_neg (by rw [h2]; simp)]
theorem later_trans {m : Ps} (a b c : Int) (h1 : later m a b = true) (h2 : later m b c = true) : later m a c = true := later_iff.2 ((later_iff.1 h1).trans (later_iff.1 h2))
theorem irrefl {l m : Ps} (h : (l.any fun p => later m p.1 p.1) = false) : ∀ a ∈ keys l, later m a a = false := by
  intro a ha
  obtain ⟨p, hp, rfl⟩ := List.mem_map.1 ha
  rw [List.any_eq_false] at h
  have := h p hp
  simpa using this
theorem keys_nodup {l m : Ps} (h : good l m = true) : (keys l).Nodup := by
  unfold List.Nodup
  rw [List.pairwise_iff_getElem]
  intro i j hi hj hij e
  have hi' : i < l.length := by simpa [keys] using hi
  have hj' : j < l.length := by simpa [keys] using hj
  have e1 := Consist.num_at h (x := l[i].1) (y := l[i].2) (i := i) (by rw [List.getElem?_eq_getElem hi'])
  have e2 := Consist.num_at h (x := l[j].1) (y := l[j].2) (i := j) (by rw [List.getElem?_eq_getElem hj'])
  have e3 : l[i].1 = l[j].1 := by simpa [keys] using e
  rw [e3, e2] at e1
  injection e1 with e1
  omega
end Go.Proofs.Ytcbfnhghhbgdkaa.OrdM
/- The search for the shortest chain, with the chains that it stands for: mathematics. -/
namespace Go.Proofs.Ytcbfnhghhbgdkaa.BfsM
open Pairs Rec Chain Find2 GoodM From
/-! ### The order of chains, told from their ends: shorter ones first, then by their first contexts -/
def rlt : List Int → List Int → Prop
  | _, [] => False
  | [], _ :: _ => True
  | x :: t, y :: u => rlt t u ∨ (t = u ∧ x < y)
def rle (t u : List Int) : Prop := t = u ∨ rlt t u
theorem rlt_irrefl : ∀ t : List Int, ¬ rlt t t
  | [], h => h
  | x :: t, h => by
    rcases h with h | ⟨_, h⟩
    · exact rlt_irrefl t h
    · omega
theorem rlt_nil (t : List Int) : ¬ rlt t [] := by
  cases t <;> (intro h; exact h)
theorem rlt_tr : ∀ (t u v : List Int), rlt t u → rlt u v → rlt t v
  | _, u, [], _, h => absurd h (rlt_nil u)
  | t, [], _ :: _, h, _ => absurd h (rlt_nil t)
  | [], _ :: _, _ :: _, _, _ => trivial
  | x :: t, y :: u, z :: v, h, k => by
    rcases h with h | ⟨rfl, h⟩
    · rcases k with k | ⟨rfl, _⟩
      · exact .inl (rlt_tr _ _ _ h k)
      · exact .inl h
    · rcases k with k | ⟨rfl, k⟩
      · exact .inl k
      · exact .inr ⟨rfl, by omega⟩
theorem rlt_trans {t u v : List Int} (h : rlt t u) (k : rlt u v) : rlt t v := rlt_tr t u v h k
theorem rle_trans {t u v : List Int} (h : rle t u) (k : rle u v) : rle t v := by
  rcases h with rfl | h
  · exact k
  · rcases k with rfl | k
    · exact .inr h
    · exact .inr (rlt_trans h k)
theorem rle_rlt {t u v : List Int} (h : rle t u) (k : rlt u v) : rlt t v := by
  rcases h with rfl | h
  · exact k
  · exact rlt_trans h k
theorem rle_cons {t u : List Int} (x : Int) (h : rle t u) : rle (x :: t) (x :: u) := by
  rcases h with rfl | h
  · exact .inl rfl
  · exact .inr (.inl h)
theorem rlt_ln : ∀ (t u : List Int), rlt t u → t.length ≤ u.length
  | t, [], h => absurd h (rlt_nil t)
  | [], _ :: _, _ => Nat.zero_le _
  | x :: t, y :: u, h => by
    rcases h with h | ⟨rfl, _⟩
    · have := rlt_ln t u h
      simp
      omega
    · exact Nat.le_refl _
theorem rlt_len {t u : List Int} (h : rlt t u) : t.length ≤ u.length := rlt_ln t u h
theorem rle_len {t u : List Int} (h : rle t u) : t.length ≤ u.length := by
  rcases h with rfl | h
  · exact Nat.le_refl _
  · exact rlt_len h
/-- A smaller context at the same place, behind the same beginning. -/
theorem rlt_at : ∀ {s s' : List Int} {x y : Int} {t : List Int}, s.length = s'.length → x < y → rlt (s ++ x :: t) (s' ++ y :: t)
  | [], [], _, _, _, _, h => .inr ⟨rfl, h⟩
  | a :: s, b :: s', x, y, t, hl, h => .inl (rlt_at (by simpa using hl) h)
/-! ### The search -/
def hd (c : List Int) : Int := c.headD 0
abbrev PS := List (List Int) × List (List Int)
def pvis (c : List Int) (s : PS) (x : Int) : PS := if (s.2.any fun r => hd r == x) = true then s else (s.1 ++ [x :: c], s.2 ++ [x :: c])
def pvisAll (c : List Int) (s : PS) (xs : List Int) : PS := xs.foldl (pvis c) s
def pround (m : Ps) : PS → PS
  | ([], F) => ([], F)
  | (c :: Q, F) => ((pvisAll c (c :: Q, F) (lows m (hd c))).1.tail, (pvisAll c (c :: Q, F) (lows m (hd c))).2)
def entry (r : List Int) : Int × Int := (hd r, hd r.tail)
def toSt (s : PS) : St := (s.1.map hd, s.2.map entry)
theorem any_at (F : List (List Int)) (x : Int) : (F.any fun r => hd r == x) = (isAt (F.map entry) x).isSome := by
  rw [Bool.eq_iff_iff, isAt_keys, List.any_eq_true]
  unfold keys
  rw [List.map_map, List.mem_map]
  constructor
  · rintro ⟨r, h1, h2⟩
    exact ⟨r, h1, by simpa [entry] using h2⟩
  · rintro ⟨r, h1, h2⟩
    exact ⟨r, h1, by simpa [entry] using h2⟩
theorem toSt_vis (c : List Int) (s : PS) (x : Int) : toSt (pvis c s x) = vis (hd c) (toSt s) x := by
  unfold pvis vis
  rw [any_at]
  show _ = if (isAt (s.2.map entry) x).isSome = true then _ else _
  split
  · rfl
  · show (List.map hd (s.1 ++ [x :: c]), List.map entry (s.2 ++ [x :: c])) = _
    rw [List.map_append, List.map_append]
    rfl
theorem toSt_visAll (c : List Int) : ∀ (xs : List Int) (s : PS), toSt (pvisAll c s xs) = visAll (hd c) (toSt s) xs
  | [], _ => rfl
  | x :: xs, s => by
    show toSt (pvisAll c (pvis c s x) xs) = visAll (hd c) (vis (hd c) (toSt s) x) xs
    rw [toSt_visAll c xs, toSt_vis]
theorem toSt_round (m : Ps) (s : PS) : toSt (pround m s) = round m (toSt s) := by
  obtain ⟨Q, F⟩ := s
  cases Q with
  | nil => rfl
  | cons c Q =>
    have h := toSt_visAll c (lows m (hd c)) (c :: Q, F)
    show ((pvisAll c (c :: Q, F) (lows m (hd c))).1.tail.map hd, (pvisAll c (c :: Q, F) (lows m (hd c))).2.map entry) = ((visAll (hd c) (hd c :: Q.map hd, F.map entry) (lows m (hd c))).1.tail, (visAll (hd c) (hd c :: Q.map hd, F.map entry) (lows m (hd c))).2)
    have e : (hd c :: Q.map hd, F.map entry) = toSt (c :: Q, F) := rfl
    rw [e, ← h]
    show _ = (((pvisAll c (c :: Q, F) (lows m (hd c))).1.map hd).tail, _)
    rw [List.map_tail]
    rfl
def pAt (m : Ps) (a : Int) : Nat → PS
  | 0 => ([[a]], [])
  | t + 1 => pround m (pAt m a t)
theorem toSt_at (m : Ps) (a : Int) : ∀ t, toSt (pAt m a t) = stAt m a t
  | 0 => rfl
  | t + 1 => by
    show toSt (pround m (pAt m a t)) = round m (stAt m a t)
    rw [toSt_round, toSt_at m a t]
/-! ### What holds during the search: P has been searched -/
structure Bf (m : Ps) (a : Int) (P : List (List Int)) (s : PS) : Prop where
  suf : [a] :: s.2 = P ++ s.1
  srt : ([a] :: s.2).Pairwise rlt
  nd : (s.2.map hd).Nodup
  par : ∀ r ∈ s.2, ∃ x c, r = x :: c ∧ c ∈ P ∧ (hd c, x) ∈ m
  cov : ∀ c ∈ P, ∀ y ∈ lows m (hd c), ∃ r ∈ s.2, hd r = y ∧ rle r (y :: c)
/-- The same in the middle of a round: c is being searched, xs of its Lower contexts have been. -/
structure Bm (m : Ps) (a : Int) (P : List (List Int)) (c : List Int) (xs : List Int) (s : PS) : Prop where
  suf : ∃ Q, s.1 = c :: Q ∧ [a] :: s.2 = P ++ c :: Q
  srt : ([a] :: s.2).Pairwise rlt
  nd : (s.2.map hd).Nodup
  par : ∀ r ∈ s.2, ∃ x d, r = x :: d ∧ ((d ∈ P) ∨ (d = c ∧ x ∈ xs)) ∧ (hd d, x) ∈ m
  cov : ∀ d ∈ P, ∀ y ∈ lows m (hd d), ∃ r ∈ s.2, hd r = y ∧ rle r (y :: d)
  cur : ∀ y ∈ xs, ∃ r ∈ s.2, hd r = y ∧ rle r (y :: c)
theorem before_cur {a : Int} {F P Q : List (List Int)} {c d : List Int} (hs : [a] :: F = P ++ c :: Q) (hp : ([a] :: F).Pairwise rlt) (hd : d ∈ P) : rlt d c := by
  rw [hs, List.pairwise_append] at hp
  exact hp.2.2 d hd c (List.mem_cons_self ..)
theorem Bm.next {m : Ps} {a : Int} {P : List (List Int)} {c xs : List Int} {s : PS} {x : Int} (h : Bm m a P c xs s) (hx : (hd c, x) ∈ m) (hlt : ∀ y ∈ xs, y < x) : Bm m a P c (xs ++ [x]) (pvis c s x) := by
  obtain ⟨Q, hQ, hsuf⟩ := h.suf
  unfold pvis
  split
  · rename_i hf
    obtain ⟨r, hr, hrx⟩ := List.any_eq_true.1 hf
    have hrx' : hd r = x := by simpa using hrx
    refine ⟨⟨Q, hQ, hsuf⟩, h.srt, h.nd, fun r hr => ?_, h.cov, fun y hy => ?_⟩
    · obtain ⟨z, d, h1, h2, h3⟩ := h.par r hr
      exact ⟨z, d, h1, h2.imp_right (fun ⟨e, k⟩ => ⟨e, List.mem_append_left _ k⟩), h3⟩
    · rcases List.mem_append.1 hy with hy | hy
      · exact h.cur y hy
      · obtain rfl : y = x := by simpa using hy
        obtain ⟨z, d, h1, h2, h3⟩ := h.par r hr
        subst h1
        have hz : z = y := hrx'
        subst hz
        refine ⟨_, hr, rfl, ?_⟩
        rcases h2 with h2 | ⟨rfl, _⟩
        · exact .inr (.inl (before_cur hsuf h.srt h2))
        · exact .inl rfl
  · rename_i hf
    have hnew : ∀ r ∈ s.2, hd r ≠ x := fun r hr e => hf (List.any_eq_true.2 ⟨r, hr, by simpa using e⟩)
    have hall : ∀ r ∈ [a] :: s.2, rlt r (x :: c) := by
      intro r hr
      rcases List.mem_cons.1 hr with rfl | hr
      · have hc : c ∈ [a] :: s.2 := by rw [hsuf]; simp
        rcases List.mem_cons.1 hc with rfl | hc
        · exact .inl trivial
        · have hlt2 := (List.pairwise_cons.1 h.srt).1 c hc
          cases c with
          | nil => exact hlt2.elim
          | cons z t => exact .inl trivial
      · obtain ⟨z, d, rfl, h2, h3⟩ := h.par r hr
        rcases h2 with h2 | ⟨rfl, h2⟩
        · exact .inl (before_cur hsuf h.srt h2)
        · exact .inr ⟨rfl, hlt z h2⟩
    refine ⟨⟨Q ++ [x :: c], by rw [hQ]; rfl, ?_⟩, ?_, ?_, fun r hr => ?_, fun d hd' y hy => ?_, fun y hy => ?_⟩
    · show [a] :: (s.2 ++ [x :: c]) = _
      rw [← List.cons_append, hsuf, List.append_assoc]
      rfl
    · show ([a] :: (s.2 ++ [x :: c])).Pairwise rlt
      rw [← List.cons_append, List.pairwise_append]
      exact ⟨h.srt, List.pairwise_singleton _ _, fun r hr z hz => by
        obtain rfl : z = x :: c := by simpa using hz
        exact hall r hr⟩
    · show ((s.2 ++ [x :: c]).map hd).Nodup
      rw [List.map_append, List.nodup_append]
      refine ⟨h.nd, by simp, fun y hy z hz => ?_⟩
      obtain ⟨r, hr, rfl⟩ := List.mem_map.1 hy
      have hz' : z = x := by simpa [hd] using hz
      subst hz'
      exact hnew r hr
    · rcases List.mem_append.1 hr with hr | hr
      · obtain ⟨z, d, h1, h2, h3⟩ := h.par r hr
        exact ⟨z, d, h1, h2.imp_right (fun ⟨e, k⟩ => ⟨e, List.mem_append_left _ k⟩), h3⟩
      · obtain rfl : r = x :: c := by simpa using hr
        exact ⟨x, c, rfl, .inr ⟨rfl, by simp⟩, hx⟩
    · obtain ⟨r, h1, h2⟩ := h.cov d hd' y hy
      exact ⟨r, List.mem_append_left _ h1, h2⟩
    · rcases List.mem_append.1 hy with hy | hy
      · obtain ⟨r, h1, h2⟩ := h.cur y hy
        exact ⟨r, List.mem_append_left _ h1, h2⟩
      · obtain rfl : y = x := by simpa using hy
        exact ⟨y :: c, by simp, rfl, .inl rfl⟩
theorem Bm.all {m : Ps} {a : Int} {P : List (List Int)} {c : List Int} : ∀ (ys xs : List Int) (s : PS), Bm m a P c xs s → (∀ y ∈ ys, (hd c, y) ∈ m) → (xs ++ ys).Pairwise (· < ·) → Bm m a P c (xs ++ ys) (pvisAll c s ys)
  | [], xs, s, h, _, _ => by rw [List.append_nil]; exact h
  | y :: ys, xs, s, h, hm, hp => by
    have h1 := h.next (x := y) (hm y (by simp)) (fun z hz => (List.pairwise_append.1 hp).2.2 z hz y (by simp))
    have e : xs ++ y :: ys = (xs ++ [y]) ++ ys := by simp
    rw [e] at hp ⊢
    exact Bm.all ys (xs ++ [y]) _ h1 (fun z hz => hm z (by simp [hz])) hp
theorem bf_start (m : Ps) (a : Int) : Bf m a [] (pAt m a 0) :=
  ⟨rfl, by simp [pAt], by simp [pAt], fun r hr => by simp [pAt] at hr, fun c hc => by simp at hc⟩
theorem Bf.round {m : Ps} {a : Int} {P : List (List Int)} {c : List Int} {Q F : List (List Int)} (h : Bf m a P (c :: Q, F)) (hs : (lows m (hd c)).Pairwise (· < ·)) : Bf m a (P ++ [c]) (pround m (c :: Q, F)) := by
  have h0 : Bm m a P c [] (c :: Q, F) := ⟨⟨Q, rfl, h.suf⟩, h.srt, h.nd, fun r hr => by obtain ⟨x, d, h1, h2, h3⟩ := h.par r hr; exact ⟨x, d, h1, .inl h2, h3⟩, h.cov, fun y hy => by simp at hy⟩
  have h1 := Bm.all (lows m (hd c)) [] _ h0 (fun y hy => mem_lows.1 hy) (by simpa using hs)
  rw [List.nil_append] at h1
  obtain ⟨Q', hQ, hsuf⟩ := h1.suf
  refine ⟨?_, h1.srt, h1.nd, fun r hr => ?_, fun d hd' y hy => ?_⟩
  · show [a] :: (pvisAll c (c :: Q, F) (lows m (hd c))).2 = (P ++ [c]) ++ (pvisAll c (c :: Q, F) (lows m (hd c))).1.tail
    rw [hsuf, hQ, List.append_assoc]
    rfl
  · obtain ⟨x, d, e1, e2, e3⟩ := h1.par r hr
    exact ⟨x, d, e1, e2.elim (fun k => List.mem_append_left _ k) (fun k => by rw [k.1]; simp), e3⟩
  · rcases List.mem_append.1 hd' with hd' | hd'
    · exact h1.cov d hd' y hy
    · obtain rfl : d = c := by simpa using hd'
      exact h1.cur y hy
theorem bf_at {m : Ps} (hs : ∀ h, (lows m h).Pairwise (· < ·)) (a : Int) : ∀ t, ∃ P, Bf m a P (pAt m a t)
  | 0 => ⟨[], bf_start m a⟩
  | t + 1 => by
    obtain ⟨P, h⟩ := bf_at hs a t
    show ∃ P, Bf m a P (pround m (pAt m a t))
    cases e : pAt m a t with
    | mk Q F =>
      rw [e] at h
      cases Q with
      | nil => exact ⟨P, h⟩
      | cons c Q => exact ⟨P ++ [c], h.round (hs _)⟩
/-- The search at its end: all that has been found has been searched. -/
structure Fin (m : Ps) (a : Int) (F : List (List Int)) : Prop where
  srt : ([a] :: F).Pairwise rlt
  nd : (F.map hd).Nodup
  par : ∀ r ∈ F, ∃ x c, r = x :: c ∧ c ∈ [a] :: F ∧ (hd c, x) ∈ m
  cov : ∀ c ∈ [a] :: F, ∀ y ∈ lows m (hd c), ∃ r ∈ F, hd r = y ∧ rle r (y :: c)
theorem fin_of {m : Ps} (hs : ∀ h, (lows m h).Pairwise (· < ·)) {a : Int} {t : Nat} {pv : Ps} (h : stAt m a t = ([], pv)) : ∃ F, pv = F.map entry ∧ Fin m a F := by
  obtain ⟨P, hb⟩ := bf_at hs a t
  have e := toSt_at m a t
  rw [h] at e
  cases e2 : pAt m a t with
  | mk Q F =>
    rw [e2] at e hb
    unfold toSt at e
    injection e with e3 e4
    have hQ : Q = [] := List.map_eq_nil_iff.1 e3
    subst hQ
    have hP : P = [a] :: F := by have := hb.suf; rw [List.append_nil] at this; exact this.symm
    subst hP
    exact ⟨F, e4.symm, hb.srt, hb.nd, hb.par, hb.cov⟩
/-- A chain from a, told from its end. -/
inductive RCh (m : Ps) (a : Int) : List Int → Prop
  | one {y : Int} : (a, y) ∈ m → RCh m a [y, a]
  | more {y z : Int} {d : List Int} : RCh m a (z :: d) → (z, y) ∈ m → RCh m a (y :: z :: d)
theorem Fin.best {m : Ps} {a : Int} {F : List (List Int)} (h : Fin m a F) {d : List Int} (hc : RCh m a d) : ∃ r ∈ F, hd r = hd d ∧ rle r d := by
  induction hc with
  | one e => exact h.cov [a] (by simp) _ (mem_lows.2 e)
  | more _ e ih =>
    rename_i y z d _
    obtain ⟨r, hr, h1, h2⟩ := ih
    obtain ⟨q, hq, h3, h4⟩ := h.cov r (List.mem_cons_of_mem _ hr) y (by rw [h1]; exact mem_lows.2 e)
    exact ⟨q, hq, h3, rle_trans h4 (rle_cons y h2)⟩
theorem Fin.long {m : Ps} {a : Int} {F : List (List Int)} (h : Fin m a F) {r : List Int} (hr : r ∈ F) : rlt [a] r := (List.pairwise_cons.1 h.srt).1 r hr
theorem uniq_of : ∀ (F : List (List Int)), (F.map hd).Nodup → ∀ r q, r ∈ F → q ∈ F → hd r = hd q → r = q
  | [], _, _, _, h, _, _ => absurd h (by simp)
  | c :: F, hn, r, q, hr, hq, e => by
    rw [List.map_cons, List.nodup_cons] at hn
    rcases List.mem_cons.1 hr with e1 | hr1
    · rcases List.mem_cons.1 hq with e2 | hq1
      · rw [e1, e2]
      · exact (hn.1 (List.mem_map.2 ⟨q, hq1, by rw [← e, e1]⟩)).elim
    · rcases List.mem_cons.1 hq with e2 | hq1
      · exact (hn.1 (List.mem_map.2 ⟨r, hr1, by rw [e, e2]⟩)).elim
      · exact uniq_of F hn.2 r q hr1 hq1 e
theorem Fin.uniq {m : Ps} {a : Int} {F : List (List Int)} (h : Fin m a F) {r q : List Int} (hr : r ∈ F) (hq : q ∈ F) (e : hd r = hd q) : r = q := uniq_of F h.nd r q hr hq e
/-- What is found is a chain. -/
theorem Fin.chain {m : Ps} {a : Int} {F : List (List Int)} (h : Fin m a F) : ∀ (n : Nat) (r : List Int), r.length ≤ n → r ∈ F → RCh m a r
  | 0, r, hl, hr => by
    obtain ⟨x, c, rfl, _⟩ := h.par r hr
    simp at hl
  | n + 1, r, hl, hr => by
    obtain ⟨x, c, rfl, hc, hm⟩ := h.par r hr
    rcases List.mem_cons.1 hc with rfl | hc
    · exact .one hm
    · have ih := Fin.chain h n c (by simp at hl; omega) hc
      cases ih with
      | one e => exact .more (.one e) hm
      | more k e => exact .more (.more k e) hm
/-- A chain that is continued leads to a itself only at its beginning. -/
theorem Fin.mid {m : Ps} {a : Int} {F : List (List Int)} (h : Fin m a F) {x : Int} {c : List Int} (hr : x :: c ∈ F) (he : hd c = a) : c = [a] := by
  obtain ⟨x', c', e, hc, hm⟩ := h.par _ hr
  injection e with e1 e2
  subst e1 e2
  obtain ⟨q, hq, h1, h2⟩ := h.cov [a] (by simp) x (by show x ∈ lows m a; rw [← he]; exact mem_lows.2 hm)
  obtain rfl := h.uniq hq hr (by rw [h1]; rfl)
  rcases List.mem_cons.1 hc with hc | hc
  · exact hc
  · exfalso
    have h3 := h.long hc
    rcases h2 with h2 | h2
    · injection h2 with _ h2
      rw [h2] at h3
      exact rlt_irrefl _ h3
    · rcases h2 with h2 | ⟨_, h2⟩
      · exact rlt_irrefl _ (rlt_trans h2 h3)
      · omega
end Go.Proofs.Ytcbfnhghhbgdkaa.BfsM
