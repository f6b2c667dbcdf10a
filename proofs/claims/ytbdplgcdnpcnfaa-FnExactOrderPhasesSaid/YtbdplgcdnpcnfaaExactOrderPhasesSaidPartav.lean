/- Counting pairs of members in the order. No program in this text. -/
import Derived.Test.YtbdplgcdnpcnfaaExactOrderPhasesSaidPartau
import Derived.Test.YtbdplgcdnpcnfaaExactOrderPhasesSaidPartag
namespace Go.Proofs.Ytbdplgcdnpcnfaa.GpN
open Chain Find2 GoodM Ph GpM GpI
theorem up_pw : ∀ (M : List Int), Up M → M.Pairwise (· < ·)
  | [], _ => List.Pairwise.nil
  | a :: M, h => by
    have h2 : Up M := fun i x y hx hy => h (i + 1) x y (by simpa using hx) (by simpa using hy)
    have ih := up_pw M h2
    refine List.pairwise_cons.2 ⟨fun b hb => ?_, ih⟩
    cases M with
    | nil => simp at hb
    | cons c M =>
      have hac : a < c := h 0 a c rfl rfl
      rcases List.mem_cons.1 hb with e | e
      · rw [e]; exact hac
      · have := (List.pairwise_cons.1 ih).1 b e
        omega
theorem filt : ∀ (K M : List Int), K.Pairwise (· < ·) → M.Pairwise (· < ·) → (∀ x ∈ M, x ∈ K) → K.filter (fun z => inM M z) = M
  | [], M, _, _, h => by
    cases M with
    | nil => rfl
    | cons m M => exact absurd (h m (by simp)) (by simp)
  | k :: K, [], _, _, _ => by
    rw [List.filter_eq_nil_iff]
    intro a _
    simp [inM]
  | k :: K, m :: M, hK, hM, h => by
    obtain ⟨hk, hK'⟩ := List.pairwise_cons.1 hK
    obtain ⟨hm, hM'⟩ := List.pairwise_cons.1 hM
    by_cases e : m = k
    · subst e
      have h1 : ∀ x ∈ M, x ∈ K := fun x hx => by
        rcases List.mem_cons.1 (h x (List.mem_cons_of_mem _ hx)) with e | e
        · have := hm x hx
          omega
        · exact e
      have ih := filt K M hK' hM' h1
      have e1 : inM (m :: M) m = true := inM_iff.2 (by simp)
      rw [List.filter_cons, if_pos e1]
      have e2 : K.filter (fun z => inM (m :: M) z) = K.filter (fun z => inM M z) := by
        apply List.filter_congr
        intro z hz
        have hmz := hk z hz
        have : z ≠ m := by omega
        rw [Bool.eq_iff_iff, inM_iff, inM_iff, List.mem_cons]
        exact ⟨fun h => h.resolve_left this, .inr⟩
      rw [e2, ih]
    · have hmK : m ∈ K := (List.mem_cons.1 (h m (by simp))).resolve_left e
      have hkm := hk m hmK
      have h1 : ∀ x ∈ m :: M, x ∈ K := fun x hx => by
        rcases List.mem_cons.1 (h x hx) with e2 | e2
        · subst e2
          rcases List.mem_cons.1 hx with e3 | e3
          · omega
          · have := hm x e3
            omega
        · exact e2
      have ih := filt K (m :: M) hK' hM h1
      have e1 : ¬ inM (m :: M) k = true := by
        rw [inM_iff]
        intro hx
        have := hk k (h1 k hx)
        omega
      rw [List.filter_cons, if_neg e1, ih]
theorem keys_up {l : Ps} (h : Asc l) : Up (keys l) := fun i x y hx hy => by
  unfold keys at hx hy
  rw [List.getElem?_map] at hx hy
  cases h1 : l[i]? with
  | none => rw [h1] at hx; cases hx
  | some p =>
    cases h2 : l[i + 1]? with
    | none => rw [h2] at hy; cases hy
    | some q =>
      rw [h1] at hx
      rw [h2] at hy
      injection hx with hx
      injection hy with hy
      rw [← hx, ← hy]
      exact h i p q h1 h2
theorem mem_filt {l : Ps} {M : List Int} (hA : Asc l) (hM : MbP l M) : (keys l).filter (fun z => inM M z) = M :=
  filt _ _ (up_pw _ (keys_up hA)) (up_pw _ hM.2.1) hM.2.2
theorem mb_len {l : Ps} {M : List Int} (hA : Asc l) (hM : MbP l M) : M.length ≤ l.length := by
  rw [← mem_filt hA hM]
  have := List.length_filter_le (fun z => inM M z) (keys l)
  unfold keys at *
  rw [List.length_map] at this
  exact this
/-- How many pairs of the two lists q holds of. -/
def cnt (q : Int → Int → Bool) (A B : List Int) : Nat := (A.map (fun a => B.countP (q a))).sum
theorem cnt_next (q : Int → Int → Bool) {A B : List Int} {k : Nat} {a : Int} (ha : A[k]? = some a) : cnt q (A.take (k + 1)) B = cnt q (A.take k) B + B.countP (q a) := by
  unfold cnt
  rw [List.take_add_one, ha]
  simp
theorem cp_next (f : Int → Bool) {B : List Int} {j : Nat} {b : Int} (hb : B[j]? = some b) : (B.take (j + 1)).countP f = (B.take j).countP f + (if f b = true then 1 else 0) := by
  rw [List.take_add_one, hb, List.countP_append]
  simp [List.countP_cons]
theorem cnt_le (q : Int → Int → Bool) (B : List Int) : ∀ (A : List Int), cnt q A B ≤ A.length * B.length
  | [] => by simp [cnt]
  | a :: A => by
    have ih := cnt_le q B A
    have h1 : B.countP (q a) ≤ B.length := List.countP_le_length
    unfold cnt at *
    rw [List.map_cons, List.sum_cons, List.length_cons, Nat.succ_mul]
    omega
theorem cnt_filter (q : Int → Int → Bool) (p : Int → Bool) (B : List Int) : ∀ A : List Int, cnt (fun a b => q a b && (p a && p b)) A B = cnt q (A.filter p) (B.filter p)
  | [] => rfl
  | a :: A => by
    have ih := cnt_filter q p B A
    unfold cnt at *
    rw [List.map_cons, List.sum_cons, ih, List.filter_cons]
    cases hp : p a with
    | true =>
      rw [if_pos rfl, List.map_cons, List.sum_cons, List.countP_filter]
      congr 1
      apply List.countP_congr
      intro b _
      simp [hp]
    | false =>
      rw [if_neg (by simp)]
      have h0 : B.countP (fun b => q a b && (p a && p b)) = 0 := by
        rw [List.countP_eq_zero]
        intro b _
        simp [hp]
      show B.countP (fun b => q a b && (p a && p b)) + _ = _
      rw [h0, Nat.zero_add]
theorem spread_is {l m : Ps} {M : List Int} (hA : Asc l) (hM : MbP l M) : cnt (fun a b => later m a b && (inM M a && inM M b)) (keys l) (keys l) = cnt (later m) M M := by
  rw [cnt_filter (later m) (fun z => inM M z) (keys l) (keys l), mem_filt hA hM]
noncomputable def spP (z : Int) (l m : Ps) (L : List Pt) : Int × Bool := if grp l m L = true ∧ 0 ≤ z ∧ z < (L.length : Int) then (((cnt (later m) (L.getD z.toNat (⟨#[]⟩, [])).2 (L.getD z.toNat (⟨#[]⟩, [])).2 : Nat) : Int), true) else (0, false)
theorem sp_no1 {z : Int} {l m : Ps} {L : List Pt} (h : grp l m L = false) : spP z l m L = (0, false) := by unfold spP; rw [if_neg (by rw [h]; simp)]
theorem sp_no2 {z : Int} {l m : Ps} {L : List Pt} (h : ¬ (0 ≤ z ∧ z < (L.length : Int))) : spP z l m L = (0, false) := by unfold spP; rw [if_neg (fun g => h g.2)]
theorem sp_yes {k : Nat} {l m : Ps} {L : List Pt} {s : ByteArray} {M : List Int} (h : grp l m L = true) (hx : L[k]? = some (s, M)) : spP (k : Int) l m L = (((cnt (later m) M M : Nat) : Int), true) := by
  have hk := (List.getElem?_eq_some_iff.1 hx).1
  unfold spP
  rw [if_pos ⟨h, by omega, by omega⟩, Int.toNat_natCast, List.getD_eq_getElem?_getD, hx]
  rfl
theorem grp_mb {l m : Ps} {L : List Pt} {k : Nat} {s : ByteArray} {M : List Int} (h : grp l m L = true) (hx : L[k]? = some (s, M)) : MbP l M := by
  unfold grp at h
  rw [Bool.and_eq_true] at h
  exact ((gp_iff.1 h.2).2 k _ hx).2.1
end Go.Proofs.Ytbdplgcdnpcnfaa.GpN
/- A valid record, said of its members. -/
namespace Go.Proofs.Ytbdplgcdnpcnfaa.GoodE
open Pairs Find2 GoodM RelM
def AscP (l : List (Int × Int)) : Prop := l.Pairwise (fun a b => a.1 < b.1)
theorem ascP_of {l : List (Int × Int)} (h : Asc l) : AscP l := by
  unfold AscP
  rw [List.pairwise_iff_getElem]
  intro i j hi hj hij
  obtain ⟨d, rfl⟩ : ∃ d, j = i + d + 1 := ⟨j - i - 1, by omega⟩
  exact h.lt d i _ _ (List.getElem?_eq_getElem hi) (List.getElem?_eq_getElem hj)
theorem AscP.ext {l1 l2 : List (Int × Int)} (h1 : AscP l1) (h2 : AscP l2) (h : ∀ x, x ∈ l1 ↔ x ∈ l2) : l1 = l2 := by
  have n1 : l1.Nodup := h1.imp (fun {a b} hab e => by subst e; omega)
  have n2 : l2.Nodup := h2.imp (fun {a b} hab e => by subst e; omega)
  have hp : l1.Perm l2 := (List.perm_ext_iff_of_nodup n1 n2).2 h
  refine hp.eq_of_pairwise (le := fun (p q : Int × Int) => p.1 < q.1) ?_ h1 h2
  intro a b _ _ h3 h4
  omega
structure Good (l m : List (Int × Int)) : Prop where
  few1 : l.length ≤ 10
  few2 : m.length ≤ 24
  asc : AscP l
  num : ∀ p ∈ l, 1 ≤ p.1 ∧ p.1 ≤ 999 ∧ 1 ≤ p.2 ∧ p.2 ≤ 4
  up : Up m
  rel : ∀ p ∈ m, p.1 ≠ p.2 ∧ (∃ u, (p.1, u) ∈ l) ∧ ∃ v, (p.2, v) ∈ l
theorem isAt_of_mem {l : List (Int × Int)} {x u : Int} (h : (x, u) ∈ l) : ∃ i, isAt l x = some i := by
  have h1 : (isAt l x).isSome = true := by
    unfold isAt
    rw [List.findIdx?_isSome, List.any_eq_true]
    exact ⟨(x, u), h, by simp⟩
  exact Option.isSome_iff_exists.1 h1
theorem mem_of_isAt {l : List (Int × Int)} {x : Int} (h : (isAt l x).isSome = true) : ∃ u, (x, u) ∈ l := by
  unfold isAt at h
  rw [List.findIdx?_isSome, List.any_eq_true] at h
  obtain ⟨⟨a, u⟩, h1, h2⟩ := h
  obtain rfl : a = x := by simpa using h2
  exact ⟨u, h1⟩
theorem isAt_none_of {l : List (Int × Int)} {x : Int} (h : ∀ u, (x, u) ∉ l) : isAt l x = none := by
  cases hh : isAt l x with
  | none => rfl
  | some i => obtain ⟨u, hu⟩ := mem_of_isAt (l := l) (x := x) (by rw [hh]; rfl); exact absurd hu (h u)
theorem good_of {l m : List (Int × Int)} (h : Good l m) : good l m = true := by
  refine good_true h.few1 h.few2 (fun j hj => ?_) (fun j hj => ?_)
  · have hx := List.getElem?_eq_getElem hj
    obtain ⟨h1, h2, h3, h4⟩ := h.num _ (List.getElem_mem hj)
    cases j with
    | zero => exact okC_first (x := l[0].1) (y := l[0].2) hx ⟨h1, h2⟩ ⟨h3, h4⟩
    | succ k =>
      have hk : k < l.length := by omega
      exact okC_next (x := l[k + 1].1) (y := l[k + 1].2) (p := l[k].1) (q := l[k].2) hx (List.getElem?_eq_getElem hk) ⟨h1, h2⟩ ⟨h3, h4⟩ (List.pairwise_iff_getElem.1 h.asc k (k + 1) hk hj (by omega))
  · have hx := List.getElem?_eq_getElem hj
    obtain ⟨h0, ⟨u, h1⟩, v, h2⟩ := h.rel _ (List.getElem_mem hj)
    obtain ⟨i, h1⟩ := isAt_of_mem h1
    obtain ⟨k, h2⟩ := isAt_of_mem h2
    cases j with
    | zero => exact okR_first (x := m[0].1) (y := m[0].2) hx h0 h1 h2
    | succ j =>
      have hk : j < m.length := by omega
      rw [okR_prev (x := m[j + 1].1) (y := m[j + 1].2) (p := m[j].1) (q := m[j].2) hx (List.getElem?_eq_getElem hk) h0 h1 h2]
      exact List.pairwise_iff_getElem.1 h.up j (j + 1) hk hj (by omega)
theorem good_is {l m : List (Int × Int)} (h : good l m = true) : Good l m := by
  have h0 := h
  unfold good at h
  simp only [Bool.and_eq_true, decide_eq_true_eq, List.all_eq_true, List.mem_range] at h
  obtain ⟨⟨⟨h1, h2⟩, h3⟩, h4⟩ := h
  refine ⟨h1, h2, ascP_of (asc_of_ok h3), fun p hp => ?_, ?_, fun p hp => ?_⟩
  · obtain ⟨k, hk, e⟩ := List.getElem_of_mem hp
    have := h3 k hk
    unfold okC at this
    rw [List.getElem?_eq_getElem hk, e] at this
    simp only [Bool.and_eq_true, decide_eq_true_eq] at this
    exact ⟨this.1.1.1.1, this.1.1.1.2, this.1.1.2, this.1.2⟩
  · unfold Up
    rw [List.pairwise_iff_getElem]
    intro i j hi hj hij
    have hu : ∀ i x y, m[i]? = some x → m[i + 1]? = some y → before x y = true := by
      intro i x y hx hy
      have hl := (List.getElem?_eq_some_iff.1 hy).1
      have hk := h4 (i + 1) hl
      unfold okR at hk
      rw [hy, Nat.add_sub_cancel, hx] at hk
      unfold before
      simp only [Bool.and_eq_true, Bool.or_eq_true, decide_eq_true_eq] at hk
      rcases hk.2 with h0 | h0
      · omega
      · exact decide_eq_true h0
    have hd : ∀ (d i : Nat) (x y : Int × Int), m[i]? = some x → m[i + d + 1]? = some y → before x y = true := by
      intro d
      induction d with
      | zero => exact fun i x y hx hy => hu i x y hx hy
      | succ d ih =>
        intro i x y hx hy
        have hl : i + d + 1 < m.length := by
          have := (List.getElem?_eq_some_iff.1 hy).1
          omega
        have hz : m[i + d + 1]? = some m[i + d + 1] := List.getElem?_eq_getElem hl
        exact before_trans (ih i x _ hx hz) (hu (i + d + 1) _ y hz hy)
    obtain ⟨d, rfl⟩ : ∃ d, j = i + d + 1 := ⟨j - i - 1, by omega⟩
    exact hd d i _ _ (List.getElem?_eq_getElem hi) (List.getElem?_eq_getElem hj)
  · obtain ⟨k, hk, e⟩ := List.getElem_of_mem hp
    have := h4 k hk
    unfold okR at this
    rw [List.getElem?_eq_getElem hk, e] at this
    simp only [Bool.and_eq_true, decide_eq_true_eq] at this
    exact ⟨this.1.1.1, mem_of_isAt this.1.1.2, mem_of_isAt this.1.2⟩
theorem AscP.one {l : List (Int × Int)} (h : AscP l) {x u v : Int} (h1 : (x, u) ∈ l) (h2 : (x, v) ∈ l) : u = v := by
  obtain ⟨i, hi, e1⟩ := List.getElem_of_mem h1
  obtain ⟨j, hj, e2⟩ := List.getElem_of_mem h2
  have hp := List.pairwise_iff_getElem.1 h
  rcases Nat.lt_trichotomy i j with hij | hij | hij
  · have := hp i j hi hj hij
    rw [e1, e2] at this
    exact absurd this (by simp)
  · subst hij
    rw [e1] at e2
    injection e2
  · have := hp j i hj hi hij
    rw [e1, e2] at this
    exact absurd this (by simp)
theorem ascP_ins {l : List (Int × Int)} (h : AscP l) {x k : Int} (hx : ∀ u, (x, u) ∉ l) : AscP (ins l (pl l x) (x, k)) := by
  unfold ins AscP
  have h' := h
  rw [← List.take_append_drop (pl l x) l] at h'
  unfold AscP at h'
  rw [List.pairwise_append] at h' ⊢
  have hne : ∀ p ∈ l, p.1 ≠ x := fun p hp e => hx p.2 (by rw [← e]; exact hp)
  have ht : ∀ p ∈ l.take (pl l x), p.1 < x := by
    intro p hp
    obtain ⟨j, hj, he⟩ := List.mem_take_iff_getElem.1 hp
    have := List.not_of_lt_findIdx (p := fun (p : Int × Int) => decide (x ≤ p.1)) (xs := l) (show j < _ from by unfold pl at hj; omega)
    rw [he] at this
    simpa using this
  have hd : ∀ p ∈ l.drop (pl l x), x < p.1 := by
    intro p hp
    have hpl := List.mem_of_mem_drop hp
    have h1 := hne p hpl
    obtain ⟨j, hj, he⟩ := List.getElem_of_mem hp
    rw [List.getElem_drop] at he
    rw [List.length_drop] at hj
    have hlt : pl l x < l.length := by omega
    have hat : x ≤ l[pl l x].1 := by
      have := List.findIdx_getElem (p := fun (p : Int × Int) => decide (x ≤ p.1)) (xs := l) (w := hlt)
      unfold pl
      simpa using this
    by_cases hj0 : j = 0
    · subst hj0
      simp only [Nat.add_zero] at he
      rw [he] at hat
      omega
    · have := List.pairwise_iff_getElem.1 h (pl l x) (pl l x + j) hlt (by omega) (by omega)
      rw [he] at this
      omega
  refine ⟨h'.1, ?_, ?_⟩
  · rw [List.pairwise_cons]
    exact ⟨fun p hp => hd p hp, h'.2.1⟩
  · intro a ha b hb
    rcases List.mem_cons.1 hb with rfl | hb
    · exact ht a ha
    · exact h'.2.2 a ha b hb
theorem ascP_filter {l : List (Int × Int)} (h : AscP l) (q : Int × Int → Bool) : AscP (l.filter q) := List.Pairwise.filter _ h
theorem up_filter {m : List (Int × Int)} (h : Up m) (q : Int × Int → Bool) : Up (m.filter q) := List.Pairwise.filter _ h
/-- Where a number stands, and with which kind. -/
theorem isAt_at {l : List (Int × Int)} {z : Int} {i : Nat} (h : isAt l z = some i) : ∃ u, l[i]? = some (z, u) := by
  unfold isAt at h
  rw [List.findIdx?_eq_some_iff_getElem] at h
  obtain ⟨hl, h1, _⟩ := h
  have e : l[i].1 = z := by simpa using h1
  exact ⟨l[i].2, by rw [List.getElem?_eq_getElem hl, ← e]⟩
end Go.Proofs.Ytbdplgcdnpcnfaa.GoodE
