/- Which context may come next, by bits: the program's sets say what okAt says. -/
import Derived.Test.YtjllbbkpmmnkgaaDoorSqM
import Derived.Test.YtjllbbkpmmnkgaaDoorOrg
namespace Go.Proofs.YtjllbbkpmmnkgaaDoor.IsqM
open Go.RowKit Pairs Rec Chain Find2 GoodM Keep Lows Order Table RedS BlM Nxt Tz SqM Org
theorem ups_bit (l : Ps) (i j : Nat) : ∀ (m : Ps), (ups l m i).testBit j = true ↔ ∃ p ∈ m, isAt l p.2 = some i ∧ (isAt l p.1).getD 0 = j := by
  intro m
  unfold ups
  suffices h : ∀ (m : Ps) (a : Nat), (m.foldl (fun a p => if isAt l p.2 = some i then a ||| 2 ^ ((isAt l p.1).getD 0) else a) a).testBit j = true ↔ a.testBit j = true ∨ ∃ p ∈ m, isAt l p.2 = some i ∧ (isAt l p.1).getD 0 = j by
    rw [h m 0]
    simp
  intro m
  induction m with
  | nil => intro a; simp
  | cons q m ih =>
    intro a
    rw [List.foldl_cons, ih]
    split
    · rename_i hq
      rw [Nat.testBit_or, Bool.or_eq_true, Nat.testBit_two_pow, decide_eq_true_iff]
      constructor
      · rintro ((h | h) | ⟨p, hp, h⟩)
        · exact .inl h
        · exact .inr ⟨q, by simp, hq, h⟩
        · exact .inr ⟨p, by simp [hp], h⟩
      · rintro (h | ⟨p, hp, h1, h2⟩)
        · exact .inl (.inl h)
        · rcases List.mem_cons.1 hp with e | e
          · subst e; exact .inl (.inr h2)
          · exact .inr ⟨p, e, h1, h2⟩
    · rename_i hq
      constructor
      · rintro (h | ⟨p, hp, h⟩)
        · exact .inl h
        · exact .inr ⟨p, by simp [hp], h⟩
      · rintro (h | ⟨p, hp, h1, h2⟩)
        · exact .inl h
        · rcases List.mem_cons.1 hp with e | e
          · subst e; exact absurd h1 hq
          · exact .inr ⟨p, e, h1, h2⟩
theorem an_zero {a b : Nat} (ha : a < 1024) (hb : b < 1024) : an a b = 0 ↔ ∀ i, a.testBit i = true → b.testBit i = true := by
  constructor
  · intro h i hi
    have := an_bit hb ha i
    rw [h, hi] at this
    simpa using this
  · intro h
    apply Nat.eq_of_testBit_eq
    intro i
    rw [an_bit hb ha]
    cases hi : a.testBit i with
    | false => simp
    | true => rw [h i hi]; simp
theorem all_lt {n : Nat} (hn : n ≤ 10) : 2 ^ n - 1 < 1024 := by
  have h1 : 2 ^ n ≤ 2 ^ 10 := Nat.pow_le_pow_right (by decide) hn
  have h2 : 0 < 2 ^ n := Nat.two_pow_pos _
  omega
theorem p_lt {n p : Nat} (hn : n ≤ 10) (h : p < 2 ^ n) : p < 1024 := Nat.lt_of_lt_of_le h (Nat.pow_le_pow_right (n := 2) (i := n) (j := 10) (by decide) hn)
theorem okAt_iff {l m : Ps} (hg : good l m = true) {P : List Int} {p : Nat} (hR : Rep l p P) {x : Int} {i : Nat} (hx : isAt l x = some i) :
    okAt l m P x ↔ (nxt (ups l m) (2 ^ l.length - 1) p).testBit i = true := by
  have hn := (Table.good_few hg).1
  have hA := (Idx.good_asc hg).1
  have hp := p_lt hn hR.1
  obtain ⟨y, hy⟩ := isAt_num hx
  unfold nxt
  rw [nxl_bit, mem_bl (an_lt (all_lt hn)), an_bit hp (all_lt hn), an_zero (ups_lt l m hn i) hp, Nat.testBit_two_pow_sub_one, decide_eq_true (isAt_lt hx), Bool.true_and]
  constructor
  · rintro ⟨_, h2, h3⟩
    refine ⟨?_, fun j hj => ?_⟩
    · cases hb : p.testBit i with
      | false => rfl
      | true => exact absurd ((hR.2 i x y hy).1 hb) h2
    · obtain ⟨q, hq, h4, h5⟩ := (ups_bit l i j m).1 hj
      obtain ⟨⟨u, hu⟩, v, hv⟩ := Table.good_ends hg q.1 q.2 hq
      rw [hu] at h5
      have e5 : u = j := h5
      subst e5
      have e2 : q.2 = x := isAt_inj h4 hx
      obtain ⟨z, hz⟩ := isAt_num hu
      exact (hR.2 u q.1 z hz).2 (h3 q.1 (by rw [← e2]; exact hq))
  · rintro ⟨h2, h3⟩
    refine ⟨isAt_keys.1 (by rw [hx]; rfl), fun h => ?_, fun a ha => ?_⟩
    · have := (hR.2 i x y hy).2 h
      rw [this] at h2
      cases h2
    · obtain ⟨⟨u, hu⟩, v, hv⟩ := Table.good_ends hg a x ha
      obtain ⟨z, hz⟩ := isAt_num hu
      exact (hR.2 u a z hz).1 (h3 u ((ups_bit l i u m).2 ⟨(a, x), ha, hx, by rw [hu]; rfl⟩))
theorem and_pow (a i : Nat) : a &&& 2 ^ i = 0 ↔ a.testBit i = false := by
  constructor
  · intro h
    have := Nat.testBit_and a (2 ^ i) i
    rw [h, Nat.testBit_two_pow] at this
    simpa using this.symm
  · intro h
    apply Nat.eq_of_testBit_eq
    intro j
    rw [Nat.testBit_and, Nat.testBit_two_pow]
    by_cases e : i = j
    · subst e; simp [h]
    · simp [e]
theorem nxt_lt (U : Nat → Nat) (all p : Nat) : nxt U all p < 1024 := nxl_lt U p _ (fun i hi => by unfold bl at hi; exact List.mem_range.1 (List.mem_filter.1 hi).1)
end Go.Proofs.YtjllbbkpmmnkgaaDoor.IsqM
