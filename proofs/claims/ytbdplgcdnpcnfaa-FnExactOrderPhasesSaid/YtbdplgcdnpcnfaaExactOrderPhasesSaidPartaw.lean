/- The order of phases: the record of phases, and that the smallest ready one first is the same with the relations as with the chains. No program in this text. -/
import Derived.Test.YtbdplgcdnpcnfaaExactOrderPhasesSaidPartav
import Derived.Test.YtbdplgcdnpcnfaaExactOrderPhasesSaidPartas
import Derived.Deep.RegionHeld3
namespace Go.Proofs.Ytbdplgcdnpcnfaa.OpM
open Pairs Chain Find2 GoodM RelM OrdM GoodE
def lR (n : Nat) : Ps := (List.range n).map (fun i : Nat => ((i : Int) + 1, (1 : Int)))
def rowR (e : Nat → Nat → Bool) (j i : Nat) : Ps := ((List.range j).filter (e i)).map (fun k : Nat => ((i : Int) + 1, (k : Int) + 1))
def mR (e : Nat → Nat → Bool) (n t : Nat) : Ps := (List.range t).flatMap (rowR e n)
theorem lR_next (n : Nat) : lR (n + 1) = lR n ++ [((n : Int) + 1, 1)] := by unfold lR; rw [List.range_succ, List.map_append]; rfl
theorem lR_len (n : Nat) : (lR n).length = n := by unfold lR; simp
theorem rowR_zero (e : Nat → Nat → Bool) (i : Nat) : rowR e 0 i = [] := rfl
theorem rowR_next (e : Nat → Nat → Bool) (j i : Nat) : rowR e (j + 1) i = rowR e j i ++ (if e i j = true then [((i : Int) + 1, (j : Int) + 1)] else []) := by
  unfold rowR
  rw [List.range_succ, List.filter_append, List.map_append]
  congr 1
  cases h : e i j <;> simp [h]
theorem mR_next (e : Nat → Nat → Bool) (n t : Nat) : mR e n (t + 1) = mR e n t ++ rowR e n t := by unfold mR; rw [List.range_succ, List.flatMap_append]; simp
theorem mem_row {e : Nat → Nat → Bool} {j i : Nat} {p : Int × Int} : p ∈ rowR e j i ↔ ∃ k, k < j ∧ e i k = true ∧ p = ((i : Int) + 1, (k : Int) + 1) := by
  unfold rowR
  rw [List.mem_map]
  constructor
  · rintro ⟨k, hk, rfl⟩
    rw [List.mem_filter, List.mem_range] at hk
    exact ⟨k, hk.1, hk.2, rfl⟩
  · rintro ⟨k, h1, h2, rfl⟩
    exact ⟨k, by rw [List.mem_filter, List.mem_range]; exact ⟨h1, h2⟩, rfl⟩
theorem mem_mR {e : Nat → Nat → Bool} {n t : Nat} {p : Int × Int} : p ∈ mR e n t ↔ ∃ i k, i < t ∧ k < n ∧ e i k = true ∧ p = ((i : Int) + 1, (k : Int) + 1) := by
  unfold mR
  rw [List.mem_flatMap]
  constructor
  · rintro ⟨i, hi, hp⟩
    rw [List.mem_range] at hi
    obtain ⟨k, h1, h2, h3⟩ := mem_row.1 hp
    exact ⟨i, k, hi, h1, h2, h3⟩
  · rintro ⟨i, k, h1, h2, h3, h4⟩
    exact ⟨i, List.mem_range.2 h1, mem_row.2 ⟨k, h2, h3, h4⟩⟩
theorem mem_lR {n : Nat} {x u : Int} : (x, u) ∈ lR n ↔ ∃ i, i < n ∧ x = (i : Int) + 1 ∧ u = 1 := by
  unfold lR
  rw [List.mem_map]
  constructor
  · rintro ⟨i, hi, h⟩
    injection h with h1 h2
    exact ⟨i, List.mem_range.1 hi, h1.symm, h2.symm⟩
  · rintro ⟨i, h1, rfl, rfl⟩
    exact ⟨i, List.mem_range.2 h1, rfl⟩
theorem good_R {e : Nat → Nat → Bool} {n : Nat} (hn : n ≤ 6) (he : ∀ i, e i i = false) (h24 : (mR e n n).length ≤ 24) : good (lR n) (mR e n n) = true := by
  refine good_of ⟨by rw [lR_len]; omega, h24, ?_, ?_, ?_, ?_⟩
  · unfold AscP lR
    rw [List.pairwise_map]
    exact List.pairwise_lt_range.imp (fun {a b} h => by show (a : Int) + 1 < (b : Int) + 1; omega)
  · intro p hp
    obtain ⟨x, u⟩ := p
    obtain ⟨i, h1, rfl, rfl⟩ := mem_lR.1 hp
    simp only
    omega
  · unfold RelM.Up mR
    rw [List.pairwise_flatMap]
    refine ⟨fun i _ => ?_, ?_⟩
    · unfold rowR
      rw [List.pairwise_map]
      refine List.Pairwise.filter _ (List.pairwise_lt_range.imp (fun {a b} h => ?_))
      unfold before
      simp
      omega
    · refine List.pairwise_lt_range.imp (fun {a b} h => ?_)
      intro x hx y hy
      obtain ⟨k, _, _, rfl⟩ := mem_row.1 hx
      obtain ⟨k', _, _, rfl⟩ := mem_row.1 hy
      unfold before
      simp
      omega
  · intro p hp
    obtain ⟨i, k, h1, h2, h3, rfl⟩ := mem_mR.1 hp
    refine ⟨fun e1 => ?_, ⟨1, mem_lR.2 ⟨i, h1, rfl, rfl⟩⟩, ⟨1, mem_lR.2 ⟨k, h2, rfl, rfl⟩⟩⟩
    have e2 : (i : Int) + 1 = (k : Int) + 1 := e1
    obtain rfl : i = k := by omega
    rw [he i] at h3
    cases h3
/-! How many relations there can be without a cycle. -/
theorem two_cp (p q : Nat → Bool) (h : ∀ x, ¬ (p x = true ∧ q x = true)) : ∀ K : List Nat, K.countP p + K.countP q ≤ K.length
  | [] => by simp
  | a :: K => by
    have ih := two_cp p q h K
    have ha := h a
    rw [List.countP_cons, List.countP_cons, List.length_cons]
    by_cases h1 : p a = true
    · have h2 : ¬ q a = true := fun h2 => ha ⟨h1, h2⟩
      rw [if_pos h1, if_neg h2]
      omega
    · rw [if_neg h1]
      split <;> omega
theorem row_len (e : Nat → Nat → Bool) (j i : Nat) : (rowR e j i).length = (List.range j).countP (e i) := by unfold rowR; rw [List.length_map, List.countP_eq_length_filter]
theorem mR_len_next (e : Nat → Nat → Bool) (n t : Nat) : (mR e n (t + 1)).length = (mR e n t).length + (List.range n).countP (e t) := by rw [mR_next, List.length_append, row_len]
theorem mR_wide (e : Nat → Nat → Bool) (n : Nat) : ∀ t, (mR e (n + 1) t).length = (mR e n t).length + (List.range t).countP (fun i => e i n)
  | 0 => rfl
  | t + 1 => by
    rw [mR_len_next, mR_len_next, mR_wide e n t, List.range_succ (n := t), List.countP_append, List.range_succ (n := n), List.countP_append]
    simp only [List.countP_cons, List.countP_nil]
    omega
def tri : Nat → Nat
  | 0 => 0
  | n + 1 => tri n + n
theorem mR_few {e : Nat → Nat → Bool} (he : ∀ i, e i i = false) (ha : ∀ i k, ¬ (e i k = true ∧ e k i = true)) : ∀ n, (mR e n n).length ≤ tri n
  | 0 => Nat.le_refl _
  | n + 1 => by
    have ih := mR_few he ha n
    rw [mR_len_next, mR_wide, List.range_succ, List.countP_append]
    have h1 := two_cp (fun i => e i n) (e n) (fun x h => ha x n h) (List.range n)
    rw [List.length_range] at h1
    simp only [List.countP_cons, List.countP_nil, he n]
    show _ ≤ tri n + n
    simp
    omega
theorem tri_few : ∀ n, n ≤ 6 → tri n ≤ 15 := by decide
/-! The greedy order, with the relations themselves. -/
def rel1 (m : Ps) (a b : Int) : Bool := m.contains (a, b)
theorem rel1_iff {m : Ps} {a b : Int} : rel1 m a b = true ↔ (a, b) ∈ m := by unfold rel1; simp
def Closed (m : Ps) (K : List Int) (D : Int → Bool) : Prop := ∀ a b, D b = true → later m a b = true → a ∈ K → D a = true
theorem rdy_direct {m : Ps} {K : List Int} {D : Int → Bool} (hin : ∀ a b, (a, b) ∈ m → a ∈ K) (hc : Closed m K D) (n : Int) : rdy (rel1 m) K D n = rdy (later m) K D n := by
  unfold rdy
  congr 1
  rw [Bool.eq_iff_iff, List.all_eq_true, List.all_eq_true]
  have key : ∀ x, (!later m x n || D x) = true ↔ (later m x n = true → D x = true) := fun x => by cases later m x n <;> simp
  have key1 : ∀ x, (!rel1 m x n || D x) = true ↔ (rel1 m x n = true → D x = true) := fun x => by cases rel1 m x n <;> simp
  constructor
  · intro h x hx
    rw [key]
    intro hl
    have h1 : ∀ x ∈ K, (x, n) ∈ m → D x = true := fun x hx hm => (key1 x).1 (h x hx) (rel1_iff.2 hm)
    cases later_iff.1 hl with
    | one hm => exact h1 x hx hm
    | more r hm => exact hc x _ (h1 _ (hin _ _ hm) hm) (later_iff.2 r) hx
  · intro h x hx
    rw [key1]
    intro hm
    exact (key x).1 (h x hx) (later_iff.2 (.one (rel1_iff.1 hm)))
theorem ord_direct {m : Ps} {K : List Int} (hin : ∀ a b, (a, b) ∈ m → a ∈ K) : ∀ (f : Nat) (D : Int → Bool), Closed m K D → ordD (rel1 m) K f D = ordD (later m) K f D
  | 0, _, _ => rfl
  | f + 1, D, hc => by
    have hr : rdy (rel1 m) K D = rdy (later m) K D := funext fun n => rdy_direct hin hc n
    cases hf : K.find? (rdy (later m) K D) with
    | none => rw [ordD_none hf, ordD_none (by rw [hr]; exact hf)]
    | some n =>
      have h2 := find_in hf
      rw [ordD_next hf, ordD_next (by rw [hr]; exact hf), ord_direct hin f _ (fun a b hb hl ha => ?_)]
      simp only [Bool.or_eq_true, beq_iff_eq] at hb ⊢
      rcases hb with hb | hb
      · exact .inl (hc a b hb hl ha)
      · subst hb
        exact .inl (h2.2.2 a ha hl)
theorem left_at {K : List Int} {D : Int → Bool} {n : Int} (h1 : n ∈ K) (h2 : D n = false) : ∃ i : Nat, (lft K D)[i]? = some n := by
  have h : n ∈ lft K D := by unfold lft; rw [List.mem_filter]; exact ⟨h1, by rw [h2]; rfl⟩
  obtain ⟨i, hi, e⟩ := List.getElem_of_mem h
  exact ⟨i, by rw [List.getElem?_eq_getElem hi, e]⟩
theorem ord_full {rel : Int → Int → Bool} {K : List Int} (htr : ∀ a b c, rel a b = true → rel b c = true → rel a c = true) (hir : ∀ a ∈ K, rel a a = false) (hK : K.Nodup) : ∀ (f : Nat) (D : Int → Bool), (lft K D).length = f → (ordD rel K f D).length = f
  | 0, _, _ => rfl
  | f + 1, D, hf => by
    obtain ⟨x, hx⟩ : ∃ x, x ∈ lft K D := List.exists_mem_of_length_pos (by omega)
    unfold lft at hx
    rw [List.mem_filter] at hx
    obtain ⟨n, hn⟩ := find_some (rel := rel) (K := K) (D := D) htr hir _ x hx.1 (by simpa using hx.2) (Nat.le_refl _)
    have h2 := find_in hn
    obtain ⟨i, hi⟩ := left_at h2.1 h2.2.1
    rw [ordD_next hn, List.length_cons, ord_full htr hir hK f _ (len_pred hK hi hf)]
theorem ord_stuck {rel : Int → Int → Bool} {K : List Int} {a : Int} (haK : a ∈ K) (haa : rel a a = true) (hK : K.Nodup) : ∀ (f : Nat) (D : Int → Bool), D a = false → (lft K D).length = f → (ordD rel K f D).length < f
  | 0, D, hd, hf => by
    obtain ⟨i, hi⟩ := left_at haK hd
    have := (List.getElem?_eq_some_iff.1 hi).1
    omega
  | f + 1, D, hd, hf => by
    cases hn : K.find? (rdy rel K D) with
    | none => rw [ordD_none hn]; exact Nat.succ_pos _
    | some n =>
      have h2 := find_in hn
      have hna : a ≠ n := fun e => by
        subst e
        have := h2.2.2 a haK haa
        rw [hd] at this
        cases this
      obtain ⟨i, hi⟩ := left_at h2.1 h2.2.1
      have ih := ord_stuck haK haa hK f (fun x => D x || x == n) (by simp [hd, hna]) (len_pred hK hi hf)
      rw [ordD_next hn, List.length_cons]
      omega
theorem ord_map {rel : Int → Int → Bool} {g : Int → Int} (hg : ∀ a b, g a = g b → a = b) {K : List Int} : ∀ (f : Nat) (D : Int → Bool), (ordD (fun a b => rel (g a) (g b)) K f (fun a => D (g a))).map g = ordD rel (K.map g) f D
  | 0, _ => rfl
  | f + 1, D => by
    have hr : ∀ n, rdy rel (K.map g) D (g n) = rdy (fun a b => rel (g a) (g b)) K (fun a => D (g a)) n := fun n => by
      unfold rdy
      rw [List.all_map]
      rfl
    have hq : (K.map g).find? (rdy rel (K.map g) D) = (K.find? (rdy (fun a b => rel (g a) (g b)) K (fun a => D (g a)))).map g := by
      rw [List.find?_map]
      congr 2
      funext n
      exact hr n
    cases hn : K.find? (rdy (fun a b => rel (g a) (g b)) K (fun a => D (g a))) with
    | none => rw [ordD_none hn, ordD_none (by rw [hq, hn]; rfl)]; rfl
    | some n =>
      have hD : (fun x => D (g x) || x == n) = (fun x => (fun y => D y || y == g n) (g x)) := by
        funext x
        simp only
        congr 1
        rw [Bool.eq_iff_iff, beq_iff_eq, beq_iff_eq]
        exact ⟨fun e => by rw [e], fun e => hg _ _ e⟩
      rw [ordD_next hn, ordD_next (n := g n) (by rw [hq, hn]; rfl), List.map_cons, hD, ord_map hg f (fun y => D y || y == g n)]
/-! The two orders of phases. -/
def K0 (n : Nat) : List Int := (List.range n).map (fun i : Nat => (i : Int))
def rel0 (e : Nat → Nat → Bool) (a b : Int) : Bool := e a.toNat b.toNat
def outP (e : Nat → Nat → Bool) (n : Nat) : List Int := ordD (rel0 e) (K0 n) n (fun _ => false)
def up1 (a : Int) : Int := a + 1
theorem keys_lR (n : Nat) : keys (lR n) = (K0 n).map up1 := by
  unfold keys lR K0 up1
  rw [List.map_map, List.map_map]
  rfl
theorem ordD_congr {r1 r2 : Int → Int → Bool} {K : List Int} (h : ∀ a b, a ∈ K → b ∈ K → r1 a b = r2 a b) : ∀ (f : Nat) (D : Int → Bool), ordD r1 K f D = ordD r2 K f D
  | 0, _ => rfl
  | f + 1, D => by
    have hq : K.find? (rdy r1 K D) = K.find? (rdy r2 K D) := by
      have hr : ∀ n ∈ K, rdy r1 K D n = rdy r2 K D n := fun n hn => by
        unfold rdy
        congr 1
        rw [Bool.eq_iff_iff, List.all_eq_true, List.all_eq_true]
        exact ⟨fun k x hx => by rw [← h x n hx hn]; exact k x hx, fun k x hx => by rw [h x n hx hn]; exact k x hx⟩
      have gen : ∀ (J : List Int), (∀ x ∈ J, x ∈ K) → J.find? (rdy r1 K D) = J.find? (rdy r2 K D) := by
        intro J
        induction J with
        | nil => intro _; rfl
        | cons a J ih =>
          intro hJ
          rw [List.find?_cons, List.find?_cons, hr a (hJ a (by simp)), ih (fun x hx => hJ x (List.mem_cons_of_mem _ hx))]
      exact gen K (fun _ hx => hx)
    cases hn : K.find? (rdy r2 K D) with
    | none => rw [ordD_none hn, ordD_none (by rw [hq]; exact hn)]
    | some n => rw [ordD_next hn, ordD_next (by rw [hq]; exact hn), ordD_congr h f _]
theorem out_is {e : Nat → Nat → Bool} {n : Nat} : (outP e n).map up1 = ordD (rel1 (mR e n n)) (keys (lR n)) n (fun _ => false) := by
  have h1 : outP e n = ordD (fun a b => rel1 (mR e n n) (up1 a) (up1 b)) (K0 n) n (fun _ => false) := by
    unfold outP
    refine ordD_congr (fun a b ha hb => ?_) _ _
    unfold K0 at ha hb
    obtain ⟨i, hi, rfl⟩ := List.mem_map.1 ha
    obtain ⟨k, hk, rfl⟩ := List.mem_map.1 hb
    rw [List.mem_range] at hi hk
    unfold rel0 up1
    rw [Bool.eq_iff_iff, rel1_iff, mem_mR]
    constructor
    · intro h
      exact ⟨i, k, hi, hk, by simpa using h, rfl⟩
    · rintro ⟨i', k', _, _, h3, h4⟩
      injection h4 with h4 h5
      obtain rfl : i = i' := by omega
      obtain rfl : k = k' := by omega
      simpa using h3
  rw [h1, keys_lR, ord_map (rel := rel1 (mR e n n)) (g := up1) (fun a b h => by unfold up1 at h; omega) n (fun _ => false)]
theorem key_R {e : Nat → Nat → Bool} {n : Nat} {a b : Int} (h : (a, b) ∈ mR e n n) : a ∈ keys (lR n) := by
  obtain ⟨i, k, h1, h2, h3, h4⟩ := mem_mR.1 h
  injection h4 with h4 h5
  exact List.mem_map.2 ⟨(a, 1), mem_lR.2 ⟨i, h1, h4, rfl⟩, rfl⟩
theorem nodup_R (n : Nat) : (keys (lR n)).Nodup := by
  rw [keys_lR]
  unfold K0
  rw [List.map_map]
  refine List.Pairwise.map _ (fun a b (h : a < b) => ?_) List.pairwise_lt_range
  show (a : Int) + 1 ≠ (b : Int) + 1
  omega
theorem out_chain {e : Nat → Nat → Bool} {n : Nat} : (outP e n).map up1 = ordD (later (mR e n n)) (keys (lR n)) n (fun _ => false) := by
  rw [out_is]
  exact ord_direct (fun a b h => key_R h) n _ (fun a b hb => by simp at hb)
theorem len_keys (n : Nat) : (lft (keys (lR n)) (fun _ => false)).length = n := by
  rw [lft_all, keys_lR, List.length_map]
  unfold K0
  simp
theorem order_R {e : Nat → Nat → Bool} {n : Nat} (hn : n ≤ 6) (he : ∀ i, e i i = false) : orderP (lR n) (mR e n n) = if (outP e n).length = n then some ((outP e n).map up1) else none := by
  have hlen : (outP e n).length = (ordD (later (mR e n n)) (keys (lR n)) n (fun _ => false)).length := by rw [← out_chain, List.length_map]
  have cyc : ∀ a, a ∈ keys (lR n) → later (mR e n n) a a = true → ¬ (outP e n).length = n := fun a ha hl h => by
    have := ord_stuck ha hl (nodup_R n) n (fun _ => false) rfl (len_keys n)
    omega
  by_cases h24 : (mR e n n).length ≤ 24
  · have hg := good_R hn he h24
    cases hc : (lR n).any fun p => later (mR e n n) p.1 p.1 with
    | true =>
      rw [ord_cyc hg hc]
      obtain ⟨p, hp, hl⟩ := List.any_eq_true.1 hc
      rw [if_neg (cyc p.1 (List.mem_map.2 ⟨p, hp, rfl⟩) hl)]
    | false =>
      rw [ord_yes hg hc]
      have hf := ord_full (rel := later (mR e n n)) later_trans (irrefl hc) (nodup_R n) n (fun _ => false) (len_keys n)
      rw [if_pos (by omega), out_chain]
      unfold orderL
      rw [lR_len]
  · rw [ord_bad (good_big (fun h => h24 h.2))]
    have hex : ∃ i k, e i k = true ∧ e k i = true ∧ i < n ∧ k < n := by
      refine Classical.byContradiction fun hno => h24 ?_
      let e2 : Nat → Nat → Bool := fun i k => e i k && decide (i < n) && decide (k < n)
      have h1 : (mR e2 n n).length ≤ tri n := mR_few (fun i => by simp [e2, he i]) (fun i k h => hno ⟨i, k, by simp [e2] at h; exact ⟨h.1.1.1, h.2.1.1, h.1.1.2, h.1.2⟩⟩) n
      have h2 : mR e2 n n = mR e n n := by
        have hrow : ∀ i, i < n → rowR e2 n i = rowR e n i := fun i hi => by
          unfold rowR
          congr 1
          apply List.filter_congr
          intro k hk
          rw [List.mem_range] at hk
          simp [e2, hi, hk]
        have gen : ∀ t, t ≤ n → mR e2 n t = mR e n t := by
          intro t
          induction t with
          | zero => intro _; rfl
          | succ t ih => intro ht; rw [mR_next, mR_next, ih (by omega), hrow t (by omega)]
        exact gen n (Nat.le_refl _)
      rw [h2] at h1
      have := tri_few n hn
      omega
    obtain ⟨i, k, h1, h2, hi, hk⟩ := hex
    have ha : ((i : Int) + 1) ∈ keys (lR n) := List.mem_map.2 ⟨((i : Int) + 1, 1), mem_lR.2 ⟨i, hi, rfl, rfl⟩, rfl⟩
    have hl : later (mR e n n) ((i : Int) + 1) ((i : Int) + 1) = true :=
      later_iff.2 (.more (.one (mem_mR.2 ⟨i, k, hi, hk, h1, rfl⟩)) (mem_mR.2 ⟨k, i, hk, hi, h2, rfl⟩))
    rw [if_neg (cyc _ ha hl)]
end Go.Proofs.Ytbdplgcdnpcnfaa.OpM
/- SpreadOf on both sides. -/
namespace Go.Proofs.Ytbdplgcdnpcnfaa.GpW
open Go.RowKit Pairs Rec RecEq Keep GivesI Chain Find2 GoodM Lows Order Bit Table Idx Ph GpM GpB GpC GpI GpS GpP GpN
set_option maxRecDepth 100000 in
set_option maxHeartbeats 4000000 in
theorem count_any (bx : Nat) (l m : Ps) (p1 p2 : Option Addr) (n1 n2 c1 c2 : Nat) (A B : List Int) (hn1 : n1 ≤ 10) (hn2 : n2 ≤ 10) (w : World) (ho : IsOrd w l m bx) (hA : HoldsI w p1 n1 A) (hB : HoldsI w p2 n2 B)
    (hKA : ∀ x ∈ A, x ∈ keys l) (hrA : ∀ x ∈ A, 1 ≤ x ∧ x ≤ 999) (hrB : ∀ x ∈ B, 1 ≤ x ∧ x ≤ 999) :
    Calls Try.prog 59 #[.func (.func 90) #[] #[.pointer (some ⟨bx, 0, none⟩)], .slice p1 n1 c1, .slice p2 n2 c2] w fun e w' => e = .returned (.int .i64 (cnt (later m) A B : Nat)) ∧ w' = w := by
  have HO := Lib.hid ho
  have HA := Lib.hid hA
  have HB := Lib.hid hB
  have HK := Lib.hid (And.intro hKA (And.intro hrA hrB))
  have HLA := Lib.hid hA.1
  have HLB := Lib.hid hB.1
  clear ho hA hB hKA hrA hrB
  go_enter Try.func59, Try.ntmps59
  go_wp2_with fail
  go_loop [7, 14] (fun s7 s14 => ∃ k c : Nat, k ≤ n1 ∧ s14 = .int .i64 k ∧ s7 = .int .i64 (c : Int) ∧ Hid (c = cnt (later m) (A.take k) B)) (fun _ s14 => n1 - (intOf s14).toNat)
  case atStart => exact ⟨0, 0, Nat.zero_le _, rfl, rfl, rfl⟩
  case round =>
    obtain ⟨k, c, hk, rfl, rfl, HC⟩ := hrel
    have hc100 : c ≤ 100 := by
      rw [HC.out]
      refine Nat.le_trans (cnt_le _ _ _) ?_
      rw [List.length_take, HLA.out, HLB.out]
      exact Nat.mul_le_mul (by omega : min k n1 ≤ 10) hn2
    by_cases hlt : k < n1
    · obtain ⟨b, off, x, rfl, hx, e1⟩ := HA.out.at k hlt
      have HX := Lib.hid hx
      have hki : (k : Int) < (n1 : Int) := by omega
      have hk0 : (0 : Int) ≤ (k : Int) := by omega
      have HXK := Lib.hid (And.intro (HK.out.1 x (List.mem_of_getElem? hx)) (HK.out.2.1 x (List.mem_of_getElem? hx)))
      clear hx
      go_wp2_with fail
      go_loop [7, 20] (fun s7 s20 => ∃ j d : Nat, j ≤ n2 ∧ s20 = .int .i64 j ∧ s7 = .int .i64 (d : Int) ∧ Hid (d = c + (B.take j).countP (later m x))) (fun _ s20 => n2 - (intOf s20).toNat)
      case atStart => exact ⟨0, c, Nat.zero_le _, rfl, rfl, rfl⟩
      case round =>
        obtain ⟨j, d, hj, rfl, rfl, HD⟩ := hrel
        have hd : d ≤ 110 := by
          have h1 : (B.take j).countP (later m x) ≤ (B.take j).length := List.countP_le_length
          rw [List.length_take] at h1
          have := HD.out
          omega
        by_cases hjt : j < n2
        · obtain ⟨b2, off2, y, rfl, hy, e2⟩ := HB.out.at j hjt
          have hji : (j : Int) < (n2 : Int) := by omega
          have hj0 : (0 : Int) ≤ (j : Int) := by omega
          have hry := HK.out.2.2 y (List.mem_of_getElem? hy)
          have HN := Lib.hid (cp_next (later m x) hy)
          have hrx := HXK.out.2
          have cL := isLater_any bx l m x y w HO.out HXK.out.1 (by omega) (by omega)
          clear hy
          cases hl : later m x y with
          | true =>
            rw [hl] at cL
            have HD2 : Hid (d + 1 = c + (B.take (j + 1)).countP (later m x)) := by
              unfold Hid
              rw [HN.out, HD.out, hl, if_pos rfl]
              omega
            have CL := Lib.hid cL
            clear cL hl
            go_wp2_with fail
            refine CL.out.mono ?_
            rintro e w' ⟨rfl, hw⟩
            have hw2 := hw.symm
            subst hw2
            clear hw
            go_wp2_with fail
            go_round
            case rel => exact ⟨j + 1, d + 1, by omega, by go_num, by go_num, HD2⟩
            case measure => simp [intOf]; omega
          | false =>
            rw [hl] at cL
            have HD2 : Hid (d = c + (B.take (j + 1)).countP (later m x)) := by
              unfold Hid
              rw [HN.out, HD.out, hl, if_neg (by simp)]
              omega
            have CL := Lib.hid cL
            clear cL hl
            go_wp2_with fail
            refine CL.out.mono ?_
            rintro e w' ⟨rfl, hw⟩
            have hw2 := hw.symm
            subst hw2
            clear hw
            go_wp2_with fail
            go_round
            case rel => exact ⟨j + 1, d, by omega, by go_num, rfl, HD2⟩
            case measure => simp [intOf]; omega
        · obtain rfl : j = n2 := by omega
          have hji : ¬ (j : Int) < (j : Int) := by omega
          have HC2 : Hid (d = cnt (later m) (A.take (k + 1)) B) := by
            unfold Hid
            rw [cnt_next _ HX.out, ← HC.out, HD.out, List.take_of_length_le (by rw [HLB.out]; exact Nat.le_refl _)]
          go_wp2_with fail
          go_round
          case rel => exact ⟨k + 1, d, by omega, by go_num, rfl, HC2⟩
          case measure => simp [intOf]; omega
    · obtain rfl : k = n1 := by omega
      have hki : ¬ (k : Int) < (k : Int) := by omega
      have HR : Hid (c = cnt (later m) A B) := by
        unfold Hid
        rw [HC.out, List.take_of_length_le (by rw [HLA.out]; exact Nat.le_refl _)]
      go_wp2_with fail
      go_ret
      exact ⟨by rw [← HR.out]; rfl, rfl⟩
theorem hasPhase_any (z : Int) (p : Option Addr) (n c : Nat) (w : World) :
    Calls Try.prog 58 #[.slice p n c, .int .i64 z] w fun e w' => e = .returned (.bool (decide (0 ≤ z) && decide (z < (n : Int)))) ∧ w' = w := by
  go_enter Try.func58, Try.ntmps58
  by_cases h1 : 0 ≤ z
  · rw [decide_eq_true h1]
    by_cases h2 : z < (n : Int)
    · rw [decide_eq_true h2]
      go_wp2_with fail
      go_ret
      exact ⟨rfl, rfl⟩
    · rw [decide_eq_false h2]
      go_wp2_with fail
      go_ret
      exact ⟨rfl, rfl⟩
  · rw [decide_eq_false h1]
    go_wp2_with fail
    go_ret
    exact ⟨rfl, rfl⟩
theorem mb_rng {l m : Ps} {M : List Int} (hg : good l m = true) (hM : MbP l M) : ∀ x ∈ M, 1 ≤ x ∧ x ≤ 999 := fun x hx => by
  obtain ⟨k, hk⟩ := Option.isSome_iff_exists.1 (isAt_keys.2 (hM.2.2 x hx))
  exact IsLater.rng_at hg hk
set_option maxRecDepth 100000 in
set_option maxHeartbeats 8000000 in
theorem impl_any (z : Int) (a1 a2 : Option Addr) (n1 c1 n2 c2 : Nat) (l m : Ps) (p : Option Addr) (n : Nat) (L : List Pt) (w : World) (hz1 : n1 ≤ 1048576) (hz2 : n2 ≤ 1048576) (h1 : Holds w a1 n1 l) (h2 : Holds w a2 n2 m) (hn : n ≤ 1048576) (h : HoldsP w p n L) (hS : Sm L 1048576) :
    Calls Try.prog 28 #[.agg #[.slice a1 n1 c1, .slice a2 n2 c2], .slice p n n, .int .i64 z] w fun e w' => e = .returned (.tuple #[.int .i64 (spP z l m L).1, .bool (spP z l m L).2]) ∧ Below w.heap.size w w' := by
  have hb := below_alloc w (.cells #[.slice a1 n1 c1, .slice a2 n2 c2] 33)
  have hf := box_first w (.slice a1 n1 c1) (.slice a2 n2 c2) 33
  have hf2 := box_second w (.slice a1 n1 c1) (.slice a2 n2 c2) 33
  have hsz : w.heap.size < (w.alloc (.cells #[.slice a1 n1 c1, .slice a2 n2 c2] 33)).heap.size := by simp
  have H1 := Lib.hid (h1.below hb)
  have H2 := Lib.hid (h2.below hb)
  have HH := Lib.hid (h.below hb)
  have HL := Lib.hid h.1
  have HS := Lib.hid hS
  have HB := Lib.hid hb
  have HLl := Lib.hid h1.1
  clear h h1 h2 hS hb
  go_enter Try.func28, Try.ntmps28
  go_wp2_with fail
  generalize w.alloc (.cells #[.slice a1 n1 c1, .slice a2 n2 c2] 33) = W at *
  refine (grp_any a1 a2 n1 c1 n2 c2 l m p n n L W hz1 hz2 (Nat.le_refl _) hn HS.out H1.out H2.out HH.out).mono ?_
  rintro e w1 ⟨rfl, b1⟩
  have g1 := (b1.cell (p := ⟨w.heap.size, 0, none⟩) hsz).trans hf
  have g2 := (b1.cell (p := ⟨w.heap.size, 1, none⟩) hsz).trans hf2
  have hsz1 := Nat.lt_of_lt_of_le hsz b1.size
  have HB1 := Lib.hid (HB.out.trans (b1.mono HB.out.size))
  have K1 := Lib.hid (H1.out.below b1)
  have K2 := Lib.hid (H2.out.below b1)
  have KH := Lib.hid (HH.out.below b1)
  clear b1 hf hf2 H1 H2 HH
  cases hg : grp l m L with
  | false =>
    have HE := Lib.hid (sp_no1 (z := z) hg)
    clear hg
    go_wp2_with fail
    go_ret2
    exact ⟨by rw [HE.out]; rfl, HB1.out⟩
  | true =>
    have HG := Lib.hid hg
    clear hg
    go_wp2_with fail
    refine (hasPhase_any z p n n w1).mono ?_
    rintro e w2 ⟨rfl, hw⟩
    have hw2 := hw.symm
    subst hw2
    clear hw
    by_cases hzr : 0 ≤ z ∧ z < (n : Int)
    · rw [decide_eq_true hzr.1, decide_eq_true hzr.2]
      obtain ⟨k, rfl⟩ : ∃ k : Nat, z = (k : Int) := ⟨z.toNat, by have := hzr.1; omega⟩
      have hkn : k < n := by have := hzr.2; omega
      have hki : (k : Int) < (n : Int) := hzr.2
      have hk0 : (0 : Int) ≤ (k : Int) := hzr.1
      clear hzr
      obtain ⟨b, off, s, M, pp, j, d, rfl, hx, e1, e2, hM⟩ := KH.out.at k hkn
      have hmb := grp_mb HG.out hx
      have hgd := grp_good HG.out
      have hj10 : j ≤ 10 := by
        have h1 := mb_len (Idx.good_asc hgd).1 hmb
        have h2 := (Idx.good_asc hgd).2
        have h3 := hM.1
        omega
      have HE := Lib.hid (sp_yes HG.out hx)
      have HMB := Lib.hid hmb
      have HGD := Lib.hid hgd
      have bd := (Below.refl w1.heap.size w1).drew
      have HMd := Lib.hid (hM.below bd)
      have K1d := Lib.hid (K1.out.below bd)
      have K2d := Lib.hid (K2.out.below bd)
      have BD := Lib.hid bd
      have hblt := World.block_lt_of_cell? w1 _ e2
      have q1 : w1.drew.cell? ⟨w.heap.size, 0, none⟩ = some (.slice a1 n1 c1) := (bd.cell (p := ⟨w.heap.size, 0, none⟩) hsz1).trans g1
      have q2 : w1.drew.cell? ⟨w.heap.size, 1, none⟩ = some (.slice a2 n2 c2) := (bd.cell (p := ⟨w.heap.size, 1, none⟩) hsz1).trans g2
      have q3 : w1.drew.cell? ⟨b, off + k * 2 + 1, none⟩ = some (.slice pp j d) := (bd.cell (p := ⟨b, off + k * 2 + 1, none⟩) hblt).trans e2
      have Q := Lib.hid (And.intro q1 (And.intro q2 q3))
      have hszd : w1.heap.size ≤ w1.drew.heap.size := bd.size
      clear hx hM hmb hgd bd e1 q1 q2 q3
      go_wp2_with fail
      go_region_held3 (fun X => X.cell? ⟨w.heap.size, 0, none⟩ = some (.slice a1 n1 c1) ∧ X.cell? ⟨w.heap.size, 1, none⟩ = some (.slice a2 n2 c2) ∧ X.cell? ⟨b, off + k * 2 + 1, none⟩ = some (.slice pp j d))
        (first | go_keep | (exact ⟨by assumption, by assumption, by assumption⟩) | exact Q.out)
        (first
          | (go_at_call 60; refine (orderOf_any a1 a2 n1 c1 n2 c2 l m w1.drew HGD.out K1d.out K2d.out).mono ?_; rintro e w9 ⟨bx, rfl, ho, b9⟩; have s1 := (b9.cell (p := ⟨w.heap.size, 0, none⟩) (Nat.lt_of_lt_of_le hsz1 hszd)).trans Q.out.1; have s2 := (b9.cell (p := ⟨w.heap.size, 1, none⟩) (Nat.lt_of_lt_of_le hsz1 hszd)).trans Q.out.2.1; have s3 := (b9.cell (p := ⟨b, off + k * 2 + 1, none⟩) (Nat.lt_of_lt_of_le hblt hszd)).trans Q.out.2.2)
          | (go_at_call 59; refine (count_any bx l m pp pp j j d d M M hj10 hj10 w9 ho (HMd.out.below b9) (HMd.out.below b9) HMB.out.2.2 (mb_rng HGD.out HMB.out) (mb_rng HGD.out HMB.out)).mono ?_; rintro e w10 ⟨rfl, rfl⟩))
      have HBE := Lib.hid (HB1.out.trans ((BD.out.trans (b9.mono BD.out.size)).mono HB1.out.size))
      clear b9 ho s1 s2 s3 g1 g2 e2
      go_wp2_with fail
      go_ret2
      exact ⟨by rw [HE.out]; rfl, HBE.out⟩
    · have hd : (decide (0 ≤ z) && decide (z < (n : Int))) = false := by
        cases h1 : decide (0 ≤ z) with
        | false => rfl
        | true =>
          have h2 : ¬ z < (n : Int) := fun h => hzr ⟨of_decide_eq_true h1, h⟩
          rw [decide_eq_false h2]
          rfl
      rw [hd]
      have HE := Lib.hid (sp_no2 (z := z) (l := l) (m := m) (L := L) (by rw [HL.out]; exact hzr))
      clear hd hzr
      go_wp2_with fail
      go_ret2
      exact ⟨by rw [HE.out]; rfl, HB1.out⟩
end Go.Proofs.Ytbdplgcdnpcnfaa.GpW
