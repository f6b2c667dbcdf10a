/- Redundant relations: mathematics. -/
import Derived.Test.YtcbfnhghhbgdkaaExactResolvesRecordSaidPartap
import Derived.Test.YtcbfnhghhbgdkaaExactResolvesRecordSaidPartaq
namespace Go.Proofs.Ytcbfnhghhbgdkaa.RedM
open Pairs Rec Chain Find2 GoodM OrdM
noncomputable def red (m : Ps) (p : Int × Int) : Bool := m.any (fun y => y.1 == p.1 && later m y.2 p.2)
noncomputable def redP (l m : Ps) : Option Ps := if good l m = true then (if (l.any fun p => later m p.1 p.1) = true then none else some (m.filter (red m))) else none
theorem red_bad {l m : Ps} (h : good l m = false) : redP l m = none := by unfold redP; rw [if_neg (by rw [h]; simp)]
theorem red_cyc {l m : Ps} (h : good l m = true) (h2 : (l.any fun p => later m p.1 p.1) = true) : redP l m = none := by unfold redP; rw [if_pos h, if_pos h2]
theorem red_yes {l m : Ps} (h : good l m = true) (h2 : (l.any fun p => later m p.1 p.1) = false) : redP l m = some (m.filter (red m)) := by unfold redP; rw [if_pos h, if_neg (by rw [h2]; simp)]
theorem ends_key {l m : Ps} (hg : good l m = true) {x y : Int} (h : (x, y) ∈ m) : x ∈ keys l ∧ y ∈ keys l := by
  obtain ⟨⟨i, hi⟩, ⟨j, hj⟩⟩ := Table.good_ends hg x y h
  exact ⟨isAt_keys.1 (by rw [hi]; rfl), isAt_keys.1 (by rw [hj]; rfl)⟩
/-- Without cycles, no chain from a context leads back to it, so that the model's further test is idle. -/
theorem red_alt {l m : Ps} (hg : good l m = true) (hc : (l.any fun p => later m p.1 p.1) = false) (p : Int × Int) : red m p = m.any (fun y => y.1 == p.1 && !(y.2 == p.2) && later m y.2 p.2) := by
  unfold red
  have e : ∀ y ∈ m, (y.1 == p.1 && later m y.2 p.2) = (y.1 == p.1 && !(y.2 == p.2) && later m y.2 p.2) := fun y hy => by
    cases hl : later m y.2 p.2 with
    | false => simp
    | true =>
      have hne : y.2 ≠ p.2 := fun e => by
        have := irrefl hc y.2 (ends_key hg (x := y.1) (y := y.2) hy).2
        rw [e] at this hl
        rw [this] at hl
        cases hl
      simp [hne]
  rw [Bool.eq_iff_iff, List.any_eq_true, List.any_eq_true]
  exact ⟨fun ⟨y, hy, h⟩ => ⟨y, hy, (e y hy) ▸ h⟩, fun ⟨y, hy, h⟩ => ⟨y, hy, (e y hy).symm ▸ h⟩⟩
end Go.Proofs.Ytcbfnhghhbgdkaa.RedM
/- The model's steps to a context, and the first shortest chain that it walks down: mathematics. -/
namespace Go.Proofs.Ytcbfnhghhbgdkaa.StpM
open Pairs Rec Chain Find2 GoodM OrdM BfsM ScM
/-- A chain of k relations from x to b. -/
def Chn (m : Ps) (b : Int) : Nat → Int → Prop
  | 0, _ => False
  | 1, x => (x, b) ∈ m
  | k + 2, x => ∃ y, (x, y) ∈ m ∧ Chn m b (k + 1) y
def IsMin (m : Ps) (b : Int) (k : Nat) (x : Int) : Prop := Chn m b k x ∧ ∀ j, j < k → ¬ Chn m b j x
theorem min_pos {m : Ps} {b x : Int} {k : Nat} (h : IsMin m b k x) : 0 < k := by
  rcases k with _ | k
  · exact h.1.elim
  · omega
theorem min_uniq {m : Ps} {b x : Int} {j k : Nat} (h : IsMin m b j x) (h2 : IsMin m b k x) : j = k := by
  rcases Nat.lt_trichotomy j k with e | e | e
  · exact absurd h.1 (h2.2 j e)
  · exact e
  · exact absurd h2.1 (h.2 k e)
theorem has_min {m : Ps} {b x : Int} : ∀ k, Chn m b k x → ∃ j, j ≤ k ∧ IsMin m b j x := by
  intro k
  induction k using Nat.strongRecOn with
  | _ k ih =>
    intro h
    by_cases hs : ∃ j, j < k ∧ Chn m b j x
    · obtain ⟨j, hj, hc⟩ := hs
      obtain ⟨i, hi, hm⟩ := ih j hj hc
      exact ⟨i, by omega, hm⟩
    · exact ⟨k, Nat.le_refl _, h, fun j hj hc => hs ⟨j, hj, hc⟩⟩
theorem chn_cons {m : Ps} {b x y : Int} {k : Nat} (h : (x, y) ∈ m) (hk : Chn m b k y) : Chn m b (k + 1) x := by
  rcases k with _ | k
  · exact hk.elim
  · exact ⟨y, h, hk⟩
theorem min_next {m : Ps} {b x : Int} {k : Nat} (h : IsMin m b (k + 2) x) : ∃ y, (x, y) ∈ m ∧ IsMin m b (k + 1) y := by
  obtain ⟨y, h1, h2⟩ := h.1
  exact ⟨y, h1, h2, fun j hj hc => h.2 (j + 1) (by omega) (chn_cons h1 hc)⟩
theorem min_of {m : Ps} {b x y : Int} {k : Nat} (h : IsMin m b (k + 2) x) (h1 : (x, y) ∈ m) (h2 : Chn m b (k + 1) y) : IsMin m b (k + 1) y :=
  ⟨h2, fun j hj hc => h.2 (j + 1) (by omega) (chn_cons h1 hc)⟩
def Hit (m : Ps) (b : Int) (r : Nat) (y : Int) : Prop := (r = 1 ∧ y = b) ∨ (1 < r ∧ IsMin m b (r - 1) y)
/-- Round r over the relations, j of them done. -/
structure Stp (m : Ps) (b : Int) (st : Int → Nat) (r j : Nat) : Prop where
  old : ∀ x, 0 < st x → st x < r → IsMin m b (st x) x
  oldc : ∀ x k, k < r → IsMin m b k x → st x = k
  cur : ∀ x, st x = r → IsMin m b r x
  le : ∀ x, st x ≤ r
  mid : ∀ x y, (x, y) ∈ m.take j → Hit m b r y → st x ≠ 0
  pos : 1 ≤ r
theorem stp_start (m : Ps) (b : Int) : Stp m b (fun _ => 0) 1 0 :=
  ⟨fun x h => by simp at h, fun x k hk hm => by have := min_pos hm; omega, fun x h => by simp at h, fun x => Nat.zero_le _, fun x y h => by simp at h, Nat.le_refl _⟩
def updN (f : Int → Nat) (x : Int) (v : Nat) : Int → Nat := fun z => if x = z then v else f z
theorem Stp.hit {m : Ps} {b : Int} {st : Int → Nat} {r j : Nat} (h : Stp m b st r j) (y : Int) : Hit m b r y ↔ (r = 1 ∧ y = b) ∨ (1 < r ∧ st y = r - 1) := by
  unfold Hit
  constructor
  · rintro (h1 | ⟨h1, h2⟩)
    · exact .inl h1
    · exact .inr ⟨h1, h.oldc y (r - 1) (by omega) h2⟩
  · rintro (h1 | ⟨h1, h2⟩)
    · exact .inl h1
    · exact .inr ⟨h1, h2 ▸ h.old y (by omega) (by omega)⟩
theorem hit_chn {m : Ps} {b x y : Int} {r : Nat} (h : Hit m b r y) (hm : (x, y) ∈ m) : Chn m b r x := by
  rcases h with ⟨rfl, rfl⟩ | ⟨h1, h2⟩
  · exact hm
  · have := chn_cons hm h2.1
    rwa [show r - 1 + 1 = r by omega] at this
theorem Stp.set {m : Ps} {b : Int} {st : Int → Nat} {r j : Nat} {u y : Int} (h : Stp m b st r j) (hx : m[j]? = some (u, y)) (h0 : st u = 0) (hh : Hit m b r y) : Stp m b (updN st u r) r (j + 1) := by
  have hm := List.mem_of_getElem? hx
  have hu : IsMin m b r u := ⟨hit_chn hh hm, fun k hk hc => by
    obtain ⟨i, hi, hmi⟩ := has_min k hc
    have := h.oldc u i (by omega) hmi
    have := min_pos hmi
    omega⟩
  have hp := h.pos
  refine ⟨fun x h1 h2 => ?_, fun x k hk hm2 => ?_, fun x h1 => ?_, fun x => ?_, fun x z hz hhz => ?_, hp⟩
  · unfold updN at h1 h2 ⊢
    split at h1
    · rename_i e
      rw [if_pos e] at h2
      omega
    · rename_i e
      rw [if_neg e] at h2 ⊢
      exact h.old x h1 h2
  · unfold updN
    split
    · rename_i e
      subst e
      have := min_uniq hm2 hu
      omega
    · exact h.oldc x k hk hm2
  · unfold updN at h1
    split at h1
    · rename_i e
      exact e ▸ hu
    · exact h.cur x h1
  · unfold updN
    split
    · exact Nat.le_refl _
    · exact h.le x
  · unfold updN
    split
    · omega
    · rename_i e
      rw [List.take_add_one, hx, Option.toList_some] at hz
      rcases List.mem_append.1 hz with hz | hz
      · exact h.mid x z hz hhz
      · simp at hz
        exact absurd hz.1.symm e
theorem Stp.skip {m : Ps} {b : Int} {st : Int → Nat} {r j : Nat} {u y : Int} (h : Stp m b st r j) (hx : m[j]? = some (u, y)) (h0 : ¬ (st u = 0 ∧ Hit m b r y)) : Stp m b st r (j + 1) := by
  refine ⟨h.old, h.oldc, h.cur, h.le, fun x z hz hhz => ?_, h.pos⟩
  rw [List.take_add_one, hx, Option.toList_some] at hz
  rcases List.mem_append.1 hz with hz | hz
  · exact h.mid x z hz hhz
  · simp at hz
    obtain ⟨rfl, rfl⟩ := hz
    exact fun e => h0 ⟨e, hhz⟩
theorem Stp.round {m : Ps} {b : Int} {st : Int → Nat} {r : Nat} (h : Stp m b st r m.length) : Stp m b st (r + 1) 0 := by
  have hp := h.pos
  refine ⟨fun x h1 h2 => ?_, fun x k hk hm => ?_, fun x h1 => ?_, fun x => Nat.le_succ_of_le (h.le x), fun x y hz => by simp at hz, by omega⟩
  · rcases Nat.lt_or_ge (st x) r with h3 | h3
    · exact h.old x h1 h3
    · have : st x = r := by omega
      rw [this]
      exact h.cur x this
  · rcases Nat.lt_or_ge k r with h3 | h3
    · exact h.oldc x k h3 hm
    · have hkr : k = r := by omega
      subst hkr
      have hne : st x ≠ 0 := by
        rcases Nat.lt_or_ge 1 k with h4 | h4
        · obtain ⟨q, rfl⟩ : ∃ q, k = q + 2 := ⟨k - 2, by omega⟩
          obtain ⟨y, h5, h6⟩ := min_next hm
          exact h.mid x y (by rw [List.take_length]; exact h5) (.inr ⟨h4, h6⟩)
        · have e : k = 1 := by omega
          subst e
          exact h.mid x b (by rw [List.take_length]; exact hm.1) (.inl ⟨rfl, rfl⟩)
      have hle := h.le x
      rcases Nat.lt_or_ge (st x) k with h4 | h4
      · have := min_uniq (h.old x (by omega) h4) hm
        omega
      · omega
  · have := h.le x
    omega
/-- A context from which b can be reached lies at most as many relations away as there are contexts. -/
theorem min_list {l m : Ps} (hg : good l m = true) {b : Int} : ∀ (k : Nat) (x : Int), IsMin m b k x → ∃ D : List Int, D.length = k ∧ D.Nodup ∧ ∀ z ∈ D, z ∈ keys l ∧ ∃ j, j ≤ k ∧ IsMin m b j z
  | 0, x, h => h.1.elim
  | 1, x, h => ⟨[x], rfl, by simp, fun z hz => by
      obtain rfl : z = x := by simpa using hz
      exact ⟨(RedM.ends_key hg h.1).1, 1, Nat.le_refl _, h⟩⟩
  | k + 2, x, h => by
    obtain ⟨y, h1, h2⟩ := min_next h
    obtain ⟨D, h3, h4, h5⟩ := min_list hg (k + 1) y h2
    refine ⟨x :: D, by rw [List.length_cons, h3], ?_, fun z hz => ?_⟩
    · rw [List.nodup_cons]
      refine ⟨fun hx => ?_, h4⟩
      obtain ⟨_, j, hj, hmj⟩ := h5 x hx
      have := min_uniq hmj h
      omega
    · rcases List.mem_cons.1 hz with rfl | hz
      · exact ⟨(RedM.ends_key hg h1).1, k + 2, Nat.le_refl _, h⟩
      · obtain ⟨e1, j, hj, e2⟩ := h5 z hz
        exact ⟨e1, j, by omega, e2⟩
theorem min_le {l m : Ps} (hg : good l m = true) {b x : Int} {k : Nat} (h : IsMin m b k x) : k ≤ l.length := by
  obtain ⟨D, h1, h2, h3⟩ := min_list hg k x h
  have := nodup_le D (keys l) h2 (fun z hz => (h3 z hz).1)
  unfold keys at this
  simp at this
  omega
/-- What the rounds leave. -/
structure Steps (m : Ps) (b : Int) (st : Int → Nat) : Prop where
  some : ∀ x, 0 < st x → IsMin m b (st x) x
  all : ∀ x k, IsMin m b k x → st x = k
theorem Stp.done {l m : Ps} (hg : good l m = true) {b : Int} {st : Int → Nat} (h : Stp m b st (l.length + 1) 0) : Steps m b st := by
  refine ⟨fun x h1 => ?_, fun x k hk => h.oldc x k (by have := min_le hg hk; omega) hk⟩
  rcases Nat.lt_or_ge (st x) (l.length + 1) with h2 | h2
  · exact h.old x h1 h2
  · have h3 := h.le x
    have : st x = l.length + 1 := by omega
    rw [this]
    exact h.cur x this
/-! ### Chains told from their beginning -/
inductive FCh (m : Ps) (b : Int) : List Int → Prop
  | one {x : Int} : (x, b) ∈ m → FCh m b [x, b]
  | more {x y : Int} {e : List Int} : (x, y) ∈ m → FCh m b (y :: e) → FCh m b (x :: y :: e)
theorem conv1 {m : Ps} {a : Int} {d : List Int} (h : RCh m a d) : ∀ (b : Int) (e : List Int), ((e = [hd d] ∧ b = hd d) ∨ (FCh m b e ∧ hd e = hd d)) → FCh m b (d.tail.reverse ++ e) := by
  induction h with
  | one h0 =>
    rename_i y
    intro b e he
    show FCh m b ([a] ++ e)
    rcases he with ⟨rfl, rfl⟩ | ⟨h1, h2⟩
    · exact .one h0
    · cases h1 with
      | one k => have h2' : _ = _ := h2; subst h2'; exact .more h0 (.one k)
      | more k1 k2 => have h2' : _ = _ := h2; subst h2'; exact .more h0 (.more k1 k2)
  | more hr hm ih =>
    rename_i y z d'
    intro b e he
    have ih' := ih b (z :: e) (.inr ⟨by
      rcases he with ⟨rfl, rfl⟩ | ⟨h1, h2⟩
      · exact .one hm
      · cases h1 with
        | one k => have h2' : _ = _ := h2; subst h2'; exact .more hm (.one k)
        | more k1 k2 => have h2' : _ = _ := h2; subst h2'; exact .more hm (.more k1 k2), rfl⟩)
    show FCh m b ((z :: d').reverse ++ e)
    rw [List.reverse_cons, List.append_assoc]
    exact ih'
theorem fch_of {m : Ps} {a : Int} {d : List Int} (h : RCh m a d) : FCh m (hd d) d.reverse ∧ hd d.reverse = a := by
  have h1 := conv1 h (hd d) [hd d] (.inl ⟨rfl, rfl⟩)
  have e : d = hd d :: d.tail := by cases h <;> rfl
  have e2 : d.tail.reverse ++ [hd d] = d.reverse := by
    conv => rhs; rw [e, List.reverse_cons]
  rw [e2] at h1
  refine ⟨h1, ?_⟩
  clear h1 e e2
  induction h with
  | one _ => rfl
  | more hr _ ih =>
    rename_i y z d' _
    rw [List.reverse_cons]
    rw [← ih]
    cases hq : (z :: d').reverse with
    | nil => simp at hq
    | cons p q => rfl
theorem conv2 {m : Ps} {b : Int} {e : List Int} (h : FCh m b e) : ∀ (a : Int) (t : List Int), ((t = [] ∧ a = hd e) ∨ RCh m a (hd e :: t)) → RCh m a (e.reverse ++ t) := by
  induction h with
  | one h0 =>
    rename_i x
    intro a t ht
    show RCh m a (b :: x :: t)
    rcases ht with ⟨rfl, rfl⟩ | ht
    · exact .one h0
    · exact .more ht h0
  | more hm hf ih =>
    rename_i x y e'
    intro a t ht
    rw [List.reverse_cons, List.append_assoc]
    refine ih a (x :: t) (.inr ?_)
    rcases ht with ⟨rfl, rfl⟩ | ht
    · exact .one hm
    · exact .more ht hm
theorem rch_of {m : Ps} {b : Int} {e : List Int} (h : FCh m b e) : RCh m (hd e) e.reverse := by
  have := conv2 h (hd e) [] (.inl ⟨rfl, rfl⟩)
  rwa [List.append_nil] at this
theorem fch_last {m : Ps} {b : Int} {e : List Int} (h : FCh m b e) : hd e.reverse = b := by
  induction h with
  | one _ => rfl
  | more _ _ ih =>
    rename_i x y e' _ _
    rw [List.reverse_cons]
    cases hq : (y :: e').reverse with
    | nil => simp at hq
    | cons p q => rw [hq] at ih; exact ih
theorem fch_two {m : Ps} {b : Int} {e : List Int} (h : FCh m b e) : 2 ≤ e.length := by cases h <;> simp
theorem fch_chn {m : Ps} {b : Int} {e : List Int} (h : FCh m b e) : Chn m b (e.length - 1) (hd e) := by
  induction h with
  | one h0 => exact h0
  | more hm hf ih =>
    rename_i x y e'
    have := chn_cons hm ih
    have e : (y :: e').length - 1 + 1 = (x :: y :: e').length - 1 := by simp
    rw [e] at this
    exact this
/-- Down the steps, each time to the smallest context. -/
def gr (m : Ps) (b : Int) (st : Int → Nat) : Nat → Int → List Int
  | 0, x => [x]
  | 1, x => [x, b]
  | k + 2, x => match (lows m x).find? (fun y => st y == k + 1) with
    | some y => x :: gr m b st (k + 1) y
    | none => [x]
theorem gr_next {m : Ps} {b : Int} {st : Int → Nat} {k : Nat} {x y : Int} (h : (lows m x).find? (fun y => st y == k + 1) = some y) : gr m b st (k + 2) x = x :: gr m b st (k + 1) y := by simp only [gr, h]
theorem find_min {m : Ps} {b : Int} {st : Int → Nat} (hs : Steps m b st) {k : Nat} {x : Int} (h : IsMin m b (k + 2) x) : ∃ y, (lows m x).find? (fun y => st y == k + 1) = some y ∧ (x, y) ∈ m ∧ IsMin m b (k + 1) y := by
  obtain ⟨y, h1, h2⟩ := min_next h
  cases hf : (lows m x).find? (fun y => st y == k + 1) with
  | none =>
    have := List.find?_eq_none.1 hf y (mem_lows.2 h1)
    simp [hs.all y _ h2] at this
  | some z =>
    have e1 : st z = k + 1 := by simpa using List.find?_some hf
    exact ⟨z, rfl, mem_lows.1 (List.mem_of_find?_eq_some hf), e1 ▸ hs.some z (by omega)⟩
theorem gr_fch {m : Ps} {b : Int} {st : Int → Nat} (hs : Steps m b st) : ∀ (k : Nat) (x : Int), IsMin m b k x → FCh m b (gr m b st k x) ∧ hd (gr m b st k x) = x ∧ (gr m b st k x).length = k + 1
  | 0, x, h => h.1.elim
  | 1, x, h => ⟨.one h.1, rfl, rfl⟩
  | k + 2, x, h => by
    obtain ⟨y, h1, h2, h3⟩ := find_min hs h
    obtain ⟨i1, i2, i3⟩ := gr_fch hs (k + 1) y h3
    rw [gr_next h1]
    refine ⟨?_, rfl, by rw [List.length_cons, i3]⟩
    cases hq : gr m b st (k + 1) y with
    | nil => rw [hq] at i3; simp at i3
    | cons p q =>
      rw [hq] at i1 i2
      have : p = y := i2
      subst this
      exact .more h2 i1
theorem find_least {xs : List Int} (hs : xs.Pairwise (· < ·)) {q : Int → Bool} {y z : Int} (h : xs.find? q = some y) (hz : z ∈ xs) (hq : q z = true) : y ≤ z := by
  induction xs with
  | nil => cases hz
  | cons x t ih =>
    rw [List.pairwise_cons] at hs
    rw [List.find?_cons] at h
    cases hx : q x with
    | true =>
      rw [hx] at h
      injection h with h
      subst h
      rcases List.mem_cons.1 hz with rfl | hz
      · exact Int.le_refl _
      · exact Int.le_of_lt (hs.1 z hz)
    | false =>
      rw [hx] at h
      rcases List.mem_cons.1 hz with rfl | hz
      · rw [hx] at hq
        cases hq
      · exact ih hs.2 h hz
theorem gr_best {m : Ps} (hl : ∀ h, (lows m h).Pairwise (· < ·)) {b : Int} {st : Int → Nat} (hs : Steps m b st) : ∀ (k : Nat) (x : Int) (e t : List Int), IsMin m b k x → FCh m b e → hd e = x → e.length = k + 1 → rle ((gr m b st k x).reverse ++ t) (e.reverse ++ t)
  | 0, x, e, t, h, _, _, _ => h.1.elim
  | 1, x, e, t, h, hf, hx, hlen => by
    cases hf with
    | one _ =>
      have : _ = x := hx
      subst this
      exact .inl rfl
    | more _ hf2 =>
      have := fch_two hf2
      rw [List.length_cons] at hlen
      omega
  | k + 2, x, e, t, h, hf, hx, hlen => by
    cases hf with
    | one _ => simp at hlen
    | more hm hf2 =>
      rename_i x' y e'
      have hxx : x' = x := hx
      subst hxx
      have hlen2 : (y :: e').length = k + 1 + 1 := by simpa using hlen
      have hmy : IsMin m b (k + 1) y := min_of h hm (by have := fch_chn hf2; rwa [hlen2, Nat.add_sub_cancel] at this)
      obtain ⟨z, h1, h2, h3⟩ := find_min hs h
      have hle := find_least (hl x') h1 (mem_lows.2 hm) (by simp [hs.all y _ hmy])
      rw [gr_next h1, List.reverse_cons, List.reverse_cons, List.append_assoc, List.append_assoc]
      by_cases hzy : z = y
      · subst hzy
        exact gr_best hl hs (k + 1) z (z :: e') ([x'] ++ t) h3 hf2 rfl hlen2
      · obtain ⟨g1, g2, g3⟩ := gr_fch hs (k + 1) z h3
        cases hq : gr m b st (k + 1) z with
        | nil => rw [hq] at g3; simp at g3
        | cons p q =>
          rw [hq] at g2 g3
          have : p = z := g2
          subst this
          rw [List.reverse_cons, List.reverse_cons, List.append_assoc, List.append_assoc]
          refine .inr (rlt_at ?_ (by omega))
          simp at g3 hlen2 ⊢
          omega
theorem rlt_short : ∀ (t u : List Int), t.length < u.length → rlt t u
  | _, [], h => by simp at h
  | [], _ :: _, _ => trivial
  | x :: t, y :: u, h => .inl (rlt_short t u (by simpa using h))
/-- What the model walks is the first one of the shortest chains. -/
theorem gr_is {m : Ps} (hl : ∀ h, (lows m h).Pairwise (· < ·)) {a b : Int} {st : Int → Nat} (hs : Steps m b st) (h0 : 0 < st a) : chainP m a b = gr m b st (st a) a := by
  have hmin := hs.some a h0
  obtain ⟨g1, g2, g3⟩ := gr_fch hs (st a) a hmin
  have hbest : Best m a b (gr m b st (st a) a).reverse := by
    refine ⟨?_, fch_last g1, fun d hd' he => ?_⟩
    · have := rch_of g1
      rwa [g2] at this
    · obtain ⟨f1, f2⟩ := fch_of hd'
      rw [he] at f1
      have hc := fch_chn f1
      rw [f2] at hc
      have hlen : st a + 1 ≤ d.length := by
        rcases Nat.lt_or_ge (d.reverse.length - 1) (st a) with h | h
        · exact absurd hc (hmin.2 _ h)
        · have h2 : 2 ≤ d.reverse.length := fch_two f1
          rw [List.length_reverse] at h h2
          omega
      rcases Nat.lt_or_ge (st a + 1) d.length with h | h
      · exact .inr (rlt_short _ _ (by rw [List.length_reverse, g3]; exact h))
      · have := gr_best hl hs (st a) a d.reverse [] hmin f1 f2 (by rw [List.length_reverse]; omega)
        rwa [List.append_nil, List.append_nil, List.reverse_reverse] at this
  rw [chain_yes hbest, List.reverse_reverse]
theorem gr_no {m : Ps} {a b : Int} {st : Int → Nat} (hs : Steps m b st) (h0 : st a = 0) : chainP m a b = [] := by
  refine chain_no ?_
  cases hl : later m a b with
  | false => rfl
  | true =>
    exfalso
    obtain ⟨d, h1, h2⟩ := reach_rch (later_iff.1 hl)
    obtain ⟨f1, f2⟩ := fch_of h1
    rw [h2] at f1
    have hc := fch_chn f1
    rw [f2] at hc
    obtain ⟨j, _, hj⟩ := has_min _ hc
    have := hs.all a j hj
    have := min_pos hj
    omega
end Go.Proofs.Ytcbfnhghhbgdkaa.StpM
