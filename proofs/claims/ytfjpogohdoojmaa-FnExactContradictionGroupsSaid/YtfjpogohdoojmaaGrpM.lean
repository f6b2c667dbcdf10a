/- Contradiction groups: mathematics. -/
import Derived.Test.YtfjpogohdoojmaaSusI
namespace Go.Proofs.Ytfjpogohdoojmaa.GrpM
open Pairs Rec Chain Find2 GoodM That IsLater Consist OrdM RedM RedOf SusI
noncomputable def mtl (m : Ps) (n x : Int) : Bool := later m n x && later m x n
theorem mtl_iff {m : Ps} {n x : Int} : mtl m n x = true ↔ Chain.Reach m n x ∧ Chain.Reach m x n := by unfold mtl; rw [Bool.and_eq_true, later_iff, later_iff]
theorem mtl_comm (m : Ps) (a b : Int) : mtl m a b = mtl m b a := by unfold mtl; rw [Bool.and_comm]
theorem mtl_trans {m : Ps} {a b c : Int} (h : mtl m a b = true) (k : mtl m b c = true) : mtl m a c = true := by
  rw [mtl_iff] at *
  exact ⟨h.1.trans k.1, k.2.trans h.2⟩
theorem mtl_sus {m : Ps} {a b : Int} (h : mtl m a b = true) : sus m a = true := by
  rw [mtl_iff] at h
  exact later_iff.2 (h.1.trans h.2)
theorem sus_mtl {m : Ps} {a : Int} : mtl m a a = sus m a := by unfold mtl sus; rw [Bool.and_self]
noncomputable def grp (l m : Ps) (n : Int) : List Int := sel (mtl m n) l
/-- Does a context stand first in its group? -/
noncomputable def isFst (l m : Ps) (n : Int) : Bool := decide ((grp l m n)[0]? = some n)
noncomputable def grps (l m : Ps) (L : List Int) : List (List Int) := (L.filter (isFst l m)).map (grp l m)
noncomputable def grpP (l m : Ps) : Option (List (List Int)) := if good l m = true then some (grps l m (sel (sus m) l)) else none
theorem grp_bad {l m : Ps} (h : good l m = false) : grpP l m = none := by unfold grpP; rw [if_neg (by rw [h]; simp)]
theorem grp_yes {l m : Ps} (h : good l m = true) : grpP l m = some (grps l m (sel (sus m) l)) := by unfold grpP; rw [if_pos h]
theorem grps_next (l m : Ps) {L : List Int} {k : Nat} {n : Int} (h : L[k]? = some n) : grps l m (L.take (k + 1)) = grps l m (L.take k) ++ (if isFst l m n = true then [grp l m n] else []) := by
  unfold grps
  rw [List.take_add_one, h, List.filter_append, List.map_append]
  cases hq : isFst l m n <;> simp [hq]
theorem mem_sel {q : Int → Bool} {l : Ps} {x : Int} : x ∈ sel q l ↔ x ∈ keys l ∧ q x = true := by
  unfold sel keys
  constructor
  · intro h
    obtain ⟨p, hp, rfl⟩ := List.mem_map.1 h
    obtain ⟨h1, h2⟩ := List.mem_filter.1 hp
    exact ⟨List.mem_map.2 ⟨p, h1, rfl⟩, h2⟩
  · rintro ⟨h1, h2⟩
    obtain ⟨p, hp, rfl⟩ := List.mem_map.1 h1
    exact List.mem_map.2 ⟨p, List.mem_filter.2 ⟨hp, h2⟩, rfl⟩
theorem grp_has {l m : Ps} {n : Int} (hk : n ∈ keys l) (hs : sus m n = true) : n ∈ grp l m n := mem_sel.2 ⟨hk, by rw [sus_mtl]; exact hs⟩
theorem grp_ne {l m : Ps} {n : Int} (hk : n ∈ keys l) (hs : sus m n = true) : 0 < (grp l m n).length := List.length_pos_of_mem (grp_has hk hs)
theorem grp_len (l m : Ps) (n : Int) : (grp l m n).length ≤ l.length := sel_len _ l
/-! ### By places -/
noncomputable def mtlI (l m : Ps) (i k : Nat) : Bool := match l[i]?, l[k]? with | some p, some q => mtl m p.1 q.1 | _, _ => false
theorem mtlI_eq {l m : Ps} {i k : Nat} {p q : Int × Int} (h1 : l[i]? = some p) (h2 : l[k]? = some q) : mtlI l m i k = mtl m p.1 q.1 := by unfold mtlI; rw [h1, h2]
/-- The places that are done with before place i. -/
def Done (l m : Ps) (i k : Nat) : Prop := ∃ j, j < i ∧ j ≤ k ∧ mtlI l m j k = true
theorem done_zero {l m : Ps} {k : Nat} : ¬ Done l m 0 k := fun ⟨_, h, _⟩ => absurd h (Nat.not_lt_zero _)
theorem mtlI_get {l m : Ps} {i k : Nat} (h : mtlI l m i k = true) : ∃ p q, l[i]? = some p ∧ l[k]? = some q ∧ mtl m p.1 q.1 = true := by
  unfold mtlI at h
  split at h
  · exact ⟨_, _, by assumption, by assumption, h⟩
  · cases h
theorem mtlI_trans {l m : Ps} {i j k : Nat} (h : mtlI l m i j = true) (h2 : mtlI l m j k = true) : mtlI l m i k = true := by
  obtain ⟨p, q, e1, e2, e3⟩ := mtlI_get h
  obtain ⟨q', r, e4, e5, e6⟩ := mtlI_get h2
  rw [e2] at e4
  injection e4 with e4
  subst e4
  rw [mtlI_eq e1 e5]
  exact mtl_trans e3 e6
theorem mtlI_comm {l m : Ps} {i k : Nat} (h : mtlI l m i k = true) : mtlI l m k i = true := by
  obtain ⟨p, q, e1, e2, e3⟩ := mtlI_get h
  rw [mtlI_eq e2 e1, mtl_comm]
  exact e3
theorem mtlI_self {l m : Ps} {i : Nat} {p : Int × Int} (h : l[i]? = some p) : mtlI l m i i = sus m p.1 := by rw [mtlI_eq h h, sus_mtl]
theorem done_not {l m : Ps} {i k : Nat} (h : mtlI l m i i = false) : Done l m (i + 1) k ↔ Done l m i k := by
  constructor
  · rintro ⟨j, h1, h2, h3⟩
    by_cases e : j = i
    · subst e
      have := mtlI_trans h3 (mtlI_comm h3)
      rw [h] at this
      cases this
    · exact ⟨j, by omega, h2, h3⟩
  · rintro ⟨j, h1, h2, h3⟩
    exact ⟨j, by omega, h2, h3⟩
theorem done_old {l m : Ps} {i k : Nat} (h : Done l m i i) : Done l m (i + 1) k ↔ Done l m i k := by
  constructor
  · rintro ⟨j, h1, h2, h3⟩
    by_cases e : j = i
    · subst e
      obtain ⟨q, h4, h5, h6⟩ := h
      exact ⟨q, h4, by omega, mtlI_trans h6 h3⟩
    · exact ⟨j, by omega, h2, h3⟩
  · rintro ⟨j, h1, h2, h3⟩
    exact ⟨j, by omega, h2, h3⟩
/-- Within the round of place i, the places before k are gone through. -/
def DoneTo (l m : Ps) (i k t : Nat) : Prop := Done l m i t ∨ (i ≤ t ∧ t < k ∧ mtlI l m i t = true)
theorem doneTo_start {l m : Ps} {i t : Nat} : DoneTo l m i i t ↔ Done l m i t := ⟨fun h => h.elim id (fun h => absurd h.2.1 (by omega)), .inl⟩
theorem doneTo_hit {l m : Ps} {i k t : Nat} (hik : i ≤ k) (h : mtlI l m i k = true) : DoneTo l m i (k + 1) t ↔ DoneTo l m i k t ∨ t = k := by
  unfold DoneTo
  constructor
  · rintro (h1 | ⟨h1, h2, h3⟩)
    · exact .inl (.inl h1)
    · by_cases e : t = k
      · exact .inr e
      · exact .inl (.inr ⟨h1, by omega, h3⟩)
  · rintro ((h1 | ⟨h1, h2, h3⟩) | rfl)
    · exact .inl h1
    · exact .inr ⟨h1, by omega, h3⟩
    · exact .inr ⟨hik, by omega, h⟩
theorem doneTo_miss {l m : Ps} {i k t : Nat} (h : mtlI l m i k = false) : DoneTo l m i (k + 1) t ↔ DoneTo l m i k t := by
  unfold DoneTo
  constructor
  · rintro (h1 | ⟨h1, h2, h3⟩)
    · exact .inl h1
    · by_cases e : t = k
      · subst e
        rw [h] at h3
        cases h3
      · exact .inr ⟨h1, by omega, h3⟩
  · rintro (h1 | ⟨h1, h2, h3⟩)
    · exact .inl h1
    · exact .inr ⟨h1, by omega, h3⟩
theorem doneTo_end {l m : Ps} {i t n : Nat} (hn : l.length = n) : DoneTo l m i n t ↔ Done l m (i + 1) t := by
  unfold DoneTo
  constructor
  · rintro (⟨j, h1, h2, h3⟩ | ⟨h1, h2, h3⟩)
    · exact ⟨j, by omega, h2, h3⟩
    · exact ⟨i, by omega, h1, h3⟩
  · rintro ⟨j, h1, h2, h3⟩
    by_cases e : j = i
    · subst e
      obtain ⟨p, q, e1, e2, _⟩ := mtlI_get h3
      exact .inr ⟨h2, by have := (List.getElem?_eq_some_iff.1 e2).1; omega, h3⟩
    · exact .inl ⟨j, by omega, h2, h3⟩
/-- The numbers of the places from i to k that stand with place i. -/
theorem sel_none {q : Int → Bool} : ∀ {l : Ps}, (∀ p ∈ l, q p.1 = false) → sel q l = []
  | [], _ => rfl
  | p :: l, h => by
    have := sel_none (l := l) (fun x hx => h x (List.mem_cons_of_mem _ hx))
    unfold sel at *
    rw [List.filter_cons, if_neg (by rw [h p (List.mem_cons_self ..)]; simp)]
    exact this
/-- Where place i is not done, no context before it stands with it. -/
theorem before_none {l m : Ps} {i : Nat} {p : Int × Int} (hp : l[i]? = some p) (hd : ¬ Done l m i i) : sel (mtl m p.1) (l.take i) = [] := by
  refine sel_none fun q hq => ?_
  obtain ⟨j, hj, e⟩ := List.getElem_of_mem hq
  have hji : j < i := by rw [List.length_take] at hj; omega
  have hjl : l[j]? = some q := by
    have := List.getElem?_eq_getElem hj
    rw [e, List.getElem?_take_of_lt hji] at this
    exact this
  cases h : mtl m p.1 q.1 with
  | false => rfl
  | true => exact absurd ⟨j, hji, by omega, by rw [mtlI_eq hjl hp, mtl_comm]; exact h⟩ hd
theorem fst_new {l m : Ps} {i : Nat} {p : Int × Int} (hp : l[i]? = some p) (hs : sus m p.1 = true) (hd : ¬ Done l m i i) : isFst l m p.1 = true := by
  unfold isFst grp
  rw [decide_eq_true_eq]
  have e : l = l.take i ++ p :: l.drop (i + 1) := by
    have hi := (List.getElem?_eq_some_iff.1 hp).1
    have h2 : l.drop i = p :: l.drop (i + 1) := by
      rw [List.drop_eq_getElem_cons hi]
      rw [(List.getElem?_eq_some_iff.1 hp).2]
    rw [← h2, List.take_append_drop]
  have e2 : sel (mtl m p.1) l = sel (mtl m p.1) (l.take i) ++ sel (mtl m p.1) (p :: l.drop (i + 1)) := by
    conv => lhs; rw [e]
    unfold sel
    rw [List.filter_append, List.map_append]
  rw [e2, before_none hp hd, List.nil_append]
  unfold sel
  rw [List.filter_cons, if_pos (by rw [sus_mtl]; exact hs)]
  rfl
theorem fst_old {l m : Ps} {i : Nat} {p : Int × Int} (hg : good l m = true) (hp : l[i]? = some p) (hd : Done l m i i) : isFst l m p.1 = false := by
  obtain ⟨j, h1, h2, h3⟩ := hd
  obtain ⟨q, p', e1, e2, e3⟩ := mtlI_get h3
  rw [hp] at e2
  injection e2 with e2
  subst e2
  unfold isFst grp
  rw [decide_eq_false_iff_not]
  intro h
  have hasc := (Idx.good_asc hg).1
  -- q stands before p, and is in the group
  have hq : q.1 ∈ sel (mtl m p.1) (l.take i) := mem_sel.2 ⟨List.mem_map.2 ⟨q, List.mem_of_getElem? (by rw [List.getElem?_take_of_lt h1]; exact e1), rfl⟩, by rw [mtl_comm]; exact e3⟩
  have e : sel (mtl m p.1) l = sel (mtl m p.1) (l.take i) ++ sel (mtl m p.1) (l.drop i) := by
    conv => lhs; rw [← List.take_append_drop i l]
    unfold sel
    rw [List.filter_append, List.map_append]
  rw [e, List.getElem?_append_left (List.length_pos_of_mem hq)] at h
  have hm := List.mem_of_getElem? h
  obtain ⟨r, hr, her⟩ := List.mem_map.1 (mem_sel.1 hm).1
  obtain ⟨t, ht, e4⟩ := List.getElem_of_mem hr
  have hti : t < i := by rw [List.length_take] at ht; omega
  have htl : l[t]? = some r := by
    have := List.getElem?_eq_getElem ht
    rw [e4, List.getElem?_take_of_lt hti] at this
    exact this
  have := hasc.lt (i - t - 1) t r p htl (by rw [show t + (i - t - 1) + 1 = i by omega]; exact hp)
  omega
/-- What place i adds to the groups. -/
noncomputable def grpsI (l m : Ps) (i : Nat) : List (List Int) := grps l m (sel (sus m) (l.take i))
theorem grpsI_zero (l m : Ps) : grpsI l m 0 = [] := rfl
theorem grpsI_end {l m : Ps} {n : Nat} (h : l.length = n) : grpsI l m n = grps l m (sel (sus m) l) := by unfold grpsI; rw [List.take_of_length_le (by omega)]
theorem grps_app (l m : Ps) (L K : List Int) : grps l m (L ++ K) = grps l m L ++ grps l m K := by unfold grps; rw [List.filter_append, List.map_append]
theorem grpsI_miss {l m : Ps} {i : Nat} {p : Int × Int} (hp : l[i]? = some p) (h : sus m p.1 = false) : grpsI l m (i + 1) = grpsI l m i := by
  obtain ⟨x, y⟩ := p
  unfold grpsI
  rw [sel_next (sus m) hp, if_neg (by rw [h]; simp), List.append_nil]
theorem grpsI_old {l m : Ps} {i : Nat} {p : Int × Int} (hg : good l m = true) (hp : l[i]? = some p) (hd : Done l m i i) : grpsI l m (i + 1) = grpsI l m i := by
  have hf := fst_old hg hp hd
  obtain ⟨x, y⟩ := p
  unfold grpsI
  rw [sel_next (sus m) hp, grps_app]
  cases hs : sus m x with
  | false => simp [grps]
  | true =>
    rw [if_pos rfl]
    have : grps l m [x] = [] := by unfold grps; simp [show isFst l m x = false from hf]
    rw [this, List.append_nil]
theorem grpsI_new {l m : Ps} {i : Nat} {p : Int × Int} (hp : l[i]? = some p) (hs : sus m p.1 = true) (hd : ¬ Done l m i i) : grpsI l m (i + 1) = grpsI l m i ++ [grp l m p.1] := by
  have hf := fst_new hp hs hd
  obtain ⟨x, y⟩ := p
  unfold grpsI
  rw [sel_next (sus m) hp, grps_app, if_pos hs]
  congr 1
  unfold grps
  simp [show isFst l m x = true from hf]
/-- The group of place i as it grows. -/
theorem grow_start {l m : Ps} {i : Nat} {p : Int × Int} (hp : l[i]? = some p) (hd : ¬ Done l m i i) : sel (mtl m p.1) (l.take i) = [] := before_none hp hd
theorem grps_few (l m : Ps) (L : List Int) : (grps l m L).length ≤ L.length := by unfold grps; rw [List.length_map]; exact List.length_filter_le _ _
theorem off_le {N : Nat} : ∀ (R : List (List Int)), (∀ r ∈ R, r.length ≤ N) → ∀ j, j ≤ R.length → SS.off R j ≤ j * N
  | R, h, 0, _ => by simp [SS.off]
  | R, h, j + 1, hj => by
    have hr : R[j]? = some (R[j]'(by omega)) := List.getElem?_eq_getElem _
    have ih := off_le R h j (by omega)
    rw [SS.off_next hr, Nat.add_mul]
    have := h _ (List.mem_of_getElem? hr)
    omega
theorem grps_off {l m : Ps} (L : List Int) : SS.off (grps l m L) (grps l m L).length ≤ L.length * l.length := by
  refine Nat.le_trans (off_le (N := l.length) (grps l m L) (fun r hr => ?_) _ (Nat.le_refl _)) (Nat.mul_le_mul_right _ (grps_few l m L))
  unfold grps at hr
  obtain ⟨n, _, rfl⟩ := List.mem_map.1 hr
  exact grp_len l m n
end Go.Proofs.Ytfjpogohdoojmaa.GrpM
