/- Contradictory relations and contexts: mathematics. -/
import Derived.Test.YtcbfnhghhbgdkaaExactResolvesRecordSaidPartar
import Derived.Test.YtcbfnhghhbgdkaaExactResolvesRecordSaidPartat
import Derived.Test.YtcbfnhghhbgdkaaExactResolvesRecordSaidPartaz
namespace Go.Proofs.Ytcbfnhghhbgdkaa.ConM
open Pairs Rec Chain Find2 GoodM OrdM RedM
/-- A relation whose Lower context is later than its Upper one. -/
noncomputable def con (m : Ps) (p : Int × Int) : Bool := later m p.2 p.1
noncomputable def conP (l m : Ps) : Option Ps := if good l m = true then some (m.filter (con m)) else none
theorem con_bad {l m : Ps} (h : good l m = false) : conP l m = none := by unfold conP; rw [if_neg (by rw [h]; simp)]
theorem con_yes {l m : Ps} (h : good l m = true) : conP l m = some (m.filter (con m)) := by unfold conP; rw [if_pos h]
/-- The places of what meets a condition. -/
def plc (q : Int × Int → Bool) (m : Ps) (k : Nat) : List Nat := (List.range k).filter fun i => match m[i]? with | some p => q p | none => false
theorem plc_zero (q : Int × Int → Bool) (m : Ps) : plc q m 0 = [] := rfl
theorem plc_next (q : Int × Int → Bool) {m : Ps} {k : Nat} {p : Int × Int} (h : m[k]? = some p) : plc q m (k + 1) = plc q m k ++ (if q p = true then [k] else []) := by
  unfold plc
  rw [List.range_succ, List.filter_append]
  cases hq : q p <;> simp [h, hq]
theorem plc_len (q : Int × Int → Bool) (m : Ps) (k : Nat) : (plc q m k).length ≤ k := by
  unfold plc
  exact Nat.le_trans (List.length_filter_le _ _) (by simp)
theorem plc_lt {q : Int × Int → Bool} {m : Ps} {k i : Nat} (h : i ∈ plc q m k) : i < k := by
  unfold plc at h
  exact List.mem_range.1 (List.mem_filter.1 h).1
theorem plc_has {q : Int × Int → Bool} {m : Ps} {k i : Nat} (h : i ∈ plc q m k) : ∃ p, m[i]? = some p ∧ q p = true := by
  unfold plc at h
  have := (List.mem_filter.1 h).2
  split at this
  · exact ⟨_, by assumption, this⟩
  · cases this
/-- What stands at some places. -/
def pickAt (m : Ps) (J : List Nat) : Ps := J.filterMap fun i => m[i]?
theorem pickAt_append (m : Ps) (J K : List Nat) : pickAt m (J ++ K) = pickAt m J ++ pickAt m K := by unfold pickAt; rw [List.filterMap_append]
theorem pickAt_one {m : Ps} {i : Nat} {p : Int × Int} (h : m[i]? = some p) : pickAt m [i] = [p] := by unfold pickAt; simp [h]
theorem pickAt_next {m : Ps} {J : List Nat} {k i : Nat} {p : Int × Int} (hj : J[k]? = some i) (h : m[i]? = some p) : pickAt m (J.take (k + 1)) = pickAt m (J.take k) ++ [p] := by
  rw [List.take_add_one, hj, pickAt_append]
  congr 1
  exact pickAt_one h
theorem pickAt_len (m : Ps) (J : List Nat) : (pickAt m J).length ≤ J.length := by unfold pickAt; exact List.length_filterMap_le _ _
theorem pick_plc (q : Int × Int → Bool) (m : Ps) : ∀ k, k ≤ m.length → pickAt m (plc q m k) = (m.take k).filter q
  | 0, _ => by simp [plc_zero, pickAt]
  | k + 1, h => by
    have hk : m[k]? = some (m[k]'(by omega)) := List.getElem?_eq_getElem _
    generalize m[k]'_ = p at hk
    rw [plc_next q hk, pickAt_append, pick_plc q m k (by omega), List.take_add_one, hk, List.filter_append]
    cases hq : q p with
    | true => rw [if_pos rfl, pickAt_one hk]; simp [hq]
    | false => rw [if_neg (by simp)]; simp [hq, pickAt]
theorem pick_all (q : Int × Int → Bool) {m : Ps} {n : Nat} (h : m.length = n) : pickAt m (plc q m n) = m.filter q := by rw [pick_plc q m n (by omega), List.take_of_length_le (by omega)]
end Go.Proofs.Ytcbfnhghhbgdkaa.ConM
/- Cycles: what the law asks of them. -/
namespace Go.Proofs.Ytcbfnhghhbgdkaa.CycL
open Pairs Rec Chain Find2 GoodM OrdM BfsM ScM StpM StpC Idx CycM CycI ChnL ConM
open Classical in
def Form (m : Ps) (B : List Int) : Prop := B = [] ∨ ∃ c, B = (chainP m c c).dropLast ∧ leastC c (chainP m c c).dropLast ∧ 0 < (chainP m c c).length
open Classical in
theorem form_step {m : Ps} {B : List Int} (h : Form m B) (c : Int) : Form m (stepM m B c) := by
  unfold stepM
  split
  · rename_i h1
    exact .inr ⟨c, rfl, h1.2.1, h1.1⟩
  · exact h
theorem form_fold {m : Ps} : ∀ (t : List Int) (B : List Int), Form m B → Form m (t.foldl (stepM m) B)
  | [], _, h => h
  | c :: t, _, h => form_fold t _ (form_step h c)
theorem form_cyc (m : Ps) (t : List Int) : Form m (cycM m t) := form_fold t [] (.inl rfl)
noncomputable def loop (l m : Ps) : Bool := l.any fun p => later m p.1 p.1
theorem cyc_iff {l m : Ps} (hg : good l m = true) : 0 < (cycM m (keys l)).length ↔ loop l m = true := by
  unfold loop
  rw [List.any_eq_true]
  constructor
  · intro h
    rcases form_cyc m (keys l) with h0 | ⟨c, h1, h2, h3⟩
    · rw [h0] at h
      exact absurd h (Nat.lt_irrefl 0)
    · have hl := (chain_later hg c c).1 h3
      obtain ⟨f1, f2⟩ := chain_fch (AscM.lows_sorted hg) (a := c) (b := c) (fun e => by rw [e] at h3; exact absurd h3 (Nat.lt_irrefl 0))
      have hk : c ∈ keys l := key_of hg f1 c (by
        have h4 := fch_two f1
        have h5 := fch_at0 f1
        rw [f2] at h5
        refine List.mem_of_getElem? (i := 0) ?_
        rw [List.dropLast_eq_take, List.getElem?_take_of_lt (by omega)]
        exact h5)
      obtain ⟨p, hp, rfl⟩ := List.mem_map.1 hk
      exact ⟨p, hp, hl⟩
  · rintro ⟨p, hp, hl⟩
    have hC := cyc_all hg
    have h1 := hC.low p.1 (List.mem_map.2 ⟨p, hp, rfl⟩) ((chain_later hg _ _).2 hl)
    rw [hC.same, List.length_dropLast]
    rcases hC.len with h2 | h2 <;> omega
theorem con_iff {l m : Ps} (hg : good l m = true) : (m.filter (con m)).length = 0 ↔ loop l m = false := by
  rw [List.length_eq_zero_iff, List.filter_eq_nil_iff]
  constructor
  · intro h
    cases hl : loop l m with
    | false => rfl
    | true =>
      unfold loop at hl
      obtain ⟨p, hp, h1⟩ := List.any_eq_true.1 hl
      have h2 : ∃ q ∈ m, con m q = true := by
        have h3 := later_iff.1 h1
        have : ∀ {a b : Int}, Chain.Reach m a b → ∃ y, (a, y) ∈ m ∧ (y = b ∨ Chain.Reach m y b) := by
          intro a b hr
          induction hr with
          | one e => exact ⟨_, e, .inl rfl⟩
          | more _ e ih =>
            obtain ⟨y, h4, h5⟩ := ih
            rcases h5 with rfl | h5
            · exact ⟨_, h4, .inr (.one e)⟩
            · exact ⟨_, h4, .inr (.more h5 e)⟩
        obtain ⟨y, h4, h5⟩ := this h3
        rcases h5 with rfl | h5
        · exact (no_self hg h4).elim
        · exact ⟨_, h4, later_iff.2 h5⟩
      obtain ⟨q, hq, h3⟩ := h2
      exact absurd h3 (h q hq)
  · intro h q hq hc
    have hk := (RedM.ends_key hg (x := q.1) (y := q.2) hq).1
    obtain ⟨p, hp, e⟩ := List.mem_map.1 hk
    have h1 : later m q.1 q.1 = true := later_iff.2 (Chain.Reach.trans (.one (show (q.1, q.2) ∈ m from hq)) (later_iff.1 hc))
    unfold loop at h
    rw [List.any_eq_false] at h
    have h2 := h p hp
    rw [e] at h2
    exact h2 h1
theorem cyc_is {l m : Ps} (hg : good l m = true) (h : 0 < (cycM m (keys l)).length) : 1 < (cycM m (keys l)).length ∧ ∃ c, (cycM m (keys l))[0]? = some c ∧ ∀ (i : Nat) (x : Int), (cycM m (keys l))[i]? = some x → c ≤ x ∧ ∃ y, (cycM m (keys l))[(i + 1) % (cycM m (keys l)).length]? = some y ∧ (x, y) ∈ m := by
  rcases form_cyc m (keys l) with h0 | ⟨c, h1, h2, h3⟩
  · rw [h0] at h
    exact absurd h (Nat.lt_irrefl 0)
  obtain ⟨g1, g2, g3, g4⟩ := chain_is hg h3
  generalize chainP m c c = e at *
  have hlen : (cycM m (keys l)).length = e.length - 1 := by rw [h1, List.length_dropLast]
  have hat : ∀ i, i < e.length - 1 → (cycM m (keys l))[i]? = e[i]? := fun i hi => by rw [h1, List.dropLast_eq_take, List.getElem?_take_of_lt hi]
  have h2' : ∀ y ∈ cycM m (keys l), c ≤ y := fun y hy => h2 y (by rw [← h1]; exact hy)
  generalize cycM m (keys l) = L at *
  have hone : 1 < L.length := by
    rcases Nat.lt_or_ge 1 L.length with h4 | h4
    · exact h4
    · have h5 : e.length = 2 := by omega
      rw [h5] at g3
      exact (no_self hg (g4 0 c c g2 g3)).elim
  refine ⟨hone, c, by rw [hat 0 (by omega)]; exact g2, fun i x hx => ?_⟩
  have hi : i < L.length := (List.getElem?_eq_some_iff.1 hx).1
  refine ⟨h2' x (List.mem_of_getElem? hx), ?_⟩
  rw [hat i (by omega)] at hx
  rcases Nat.lt_or_ge (i + 1) L.length with h4 | h4
  · have h5 : e[i + 1]? = some (e[i + 1]'(by omega)) := List.getElem?_eq_getElem _
    refine ⟨_, ?_, g4 i x _ hx h5⟩
    rw [Nat.mod_eq_of_lt h4, hat (i + 1) (by omega)]
    exact h5
  · have h5 : i + 1 = e.length - 1 := by omega
    refine ⟨c, ?_, g4 i x c hx (by rw [h5]; exact g3)⟩
    rw [show i + 1 = L.length by omega, Nat.mod_self, hat 0 (by omega)]
    exact g2
end Go.Proofs.Ytcbfnhghhbgdkaa.CycL
