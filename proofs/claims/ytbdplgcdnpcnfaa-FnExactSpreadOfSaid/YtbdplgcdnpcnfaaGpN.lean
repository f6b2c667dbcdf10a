/- Counting pairs of members in the order. No program in this text. -/
import Derived.Test.YtbdplgcdnpcnfaaGpP
namespace Go.Proofs.Ytbdplgcdnpcnfaa.GpN
open Chain Find2 GoodM Ph GpM GpI
theorem up_pw : ∀ (M : List Int), Up M → M.Pairwise (· < ·)
  | [], _ => List.Pairwise.nil
  | a :: M, h => by
    have h2 : Up M := fun i x y hx hy => h (i + 1) x y (by simpa using hx) (by simpa using hy)
    have ih := up_pw M h2
    refine List.pairwise_cons.2 ⟨fun b hb => ?_, ih⟩
    cases M with
    | nil => simp at hb
    | cons c M =>
      have hac : a < c := h 0 a c rfl rfl
      rcases List.mem_cons.1 hb with e | e
      · rw [e]; exact hac
      · have := (List.pairwise_cons.1 ih).1 b e
        omega
theorem filt : ∀ (K M : List Int), K.Pairwise (· < ·) → M.Pairwise (· < ·) → (∀ x ∈ M, x ∈ K) → K.filter (fun z => inM M z) = M
  | [], M, _, _, h => by
    cases M with
    | nil => rfl
    | cons m M => exact absurd (h m (by simp)) (by simp)
  | k :: K, [], _, _, _ => by
    rw [List.filter_eq_nil_iff]
    intro a _
    simp [inM]
  | k :: K, m :: M, hK, hM, h => by
    obtain ⟨hk, hK'⟩ := List.pairwise_cons.1 hK
    obtain ⟨hm, hM'⟩ := List.pairwise_cons.1 hM
    by_cases e : m = k
    · subst e
      have h1 : ∀ x ∈ M, x ∈ K := fun x hx => by
        rcases List.mem_cons.1 (h x (List.mem_cons_of_mem _ hx)) with e | e
        · have := hm x hx
          omega
        · exact e
      have ih := filt K M hK' hM' h1
      have e1 : inM (m :: M) m = true := inM_iff.2 (by simp)
      rw [List.filter_cons, if_pos e1]
      have e2 : K.filter (fun z => inM (m :: M) z) = K.filter (fun z => inM M z) := by
        apply List.filter_congr
        intro z hz
        have hmz := hk z hz
        have : z ≠ m := by omega
        rw [Bool.eq_iff_iff, inM_iff, inM_iff, List.mem_cons]
        exact ⟨fun h => h.resolve_left this, .inr⟩
      rw [e2, ih]
    · have hmK : m ∈ K := (List.mem_cons.1 (h m (by simp))).resolve_left e
      have hkm := hk m hmK
      have h1 : ∀ x ∈ m :: M, x ∈ K := fun x hx => by
        rcases List.mem_cons.1 (h x hx) with e2 | e2
        · subst e2
          rcases List.mem_cons.1 hx with e3 | e3
          · omega
          · have := hm x e3
            omega
        · exact e2
      have ih := filt K (m :: M) hK' hM h1
      have e1 : ¬ inM (m :: M) k = true := by
        rw [inM_iff]
        intro hx
        have := hk k (h1 k hx)
        omega
      rw [List.filter_cons, if_neg e1, ih]
theorem keys_up {l : Ps} (h : Asc l) : Up (keys l) := fun i x y hx hy => by
  unfold keys at hx hy
  rw [List.getElem?_map] at hx hy
  cases h1 : l[i]? with
  | none => rw [h1] at hx; cases hx
  | some p =>
    cases h2 : l[i + 1]? with
    | none => rw [h2] at hy; cases hy
    | some q =>
      rw [h1] at hx
      rw [h2] at hy
      injection hx with hx
      injection hy with hy
      rw [← hx, ← hy]
      exact h i p q h1 h2
theorem mem_filt {l : Ps} {M : List Int} (hA : Asc l) (hM : MbP l M) : (keys l).filter (fun z => inM M z) = M :=
  filt _ _ (up_pw _ (keys_up hA)) (up_pw _ hM.2.1) hM.2.2
theorem mb_len {l : Ps} {M : List Int} (hA : Asc l) (hM : MbP l M) : M.length ≤ l.length := by
  rw [← mem_filt hA hM]
  have := List.length_filter_le (fun z => inM M z) (keys l)
  unfold keys at *
  rw [List.length_map] at this
  exact this
/-- How many pairs of the two lists q holds of. -/
def cnt (q : Int → Int → Bool) (A B : List Int) : Nat := (A.map (fun a => B.countP (q a))).sum
theorem cnt_next (q : Int → Int → Bool) {A B : List Int} {k : Nat} {a : Int} (ha : A[k]? = some a) : cnt q (A.take (k + 1)) B = cnt q (A.take k) B + B.countP (q a) := by
  unfold cnt
  rw [List.take_add_one, ha]
  simp
theorem cp_next (f : Int → Bool) {B : List Int} {j : Nat} {b : Int} (hb : B[j]? = some b) : (B.take (j + 1)).countP f = (B.take j).countP f + (if f b = true then 1 else 0) := by
  rw [List.take_add_one, hb, List.countP_append]
  simp [List.countP_cons]
theorem cnt_le (q : Int → Int → Bool) (B : List Int) : ∀ (A : List Int), cnt q A B ≤ A.length * B.length
  | [] => by simp [cnt]
  | a :: A => by
    have ih := cnt_le q B A
    have h1 : B.countP (q a) ≤ B.length := List.countP_le_length
    unfold cnt at *
    rw [List.map_cons, List.sum_cons, List.length_cons, Nat.succ_mul]
    omega
theorem cnt_filter (q : Int → Int → Bool) (p : Int → Bool) (B : List Int) : ∀ A : List Int, cnt (fun a b => q a b && (p a && p b)) A B = cnt q (A.filter p) (B.filter p)
  | [] => rfl
  | a :: A => by
    have ih := cnt_filter q p B A
    unfold cnt at *
    rw [List.map_cons, List.sum_cons, ih, List.filter_cons]
    cases hp : p a with
    | true =>
      rw [if_pos rfl, List.map_cons, List.sum_cons, List.countP_filter]
      congr 1
      apply List.countP_congr
      intro b _
      simp [hp]
    | false =>
      rw [if_neg (by simp)]
      have h0 : B.countP (fun b => q a b && (p a && p b)) = 0 := by
        rw [List.countP_eq_zero]
        intro b _
        simp [hp]
      show B.countP (fun b => q a b && (p a && p b)) + _ = _
      rw [h0, Nat.zero_add]
theorem spread_is {l m : Ps} {M : List Int} (hA : Asc l) (hM : MbP l M) : cnt (fun a b => later m a b && (inM M a && inM M b)) (keys l) (keys l) = cnt (later m) M M := by
  rw [cnt_filter (later m) (fun z => inM M z) (keys l) (keys l), mem_filt hA hM]
noncomputable def spP (z : Int) (l m : Ps) (L : List Pt) : Int × Bool := if grp l m L = true ∧ 0 ≤ z ∧ z < (L.length : Int) then (((cnt (later m) (L.getD z.toNat (⟨#[]⟩, [])).2 (L.getD z.toNat (⟨#[]⟩, [])).2 : Nat) : Int), true) else (0, false)
theorem sp_no1 {z : Int} {l m : Ps} {L : List Pt} (h : grp l m L = false) : spP z l m L = (0, false) := by unfold spP; rw [if_neg (by rw [h]; simp)]
theorem sp_no2 {z : Int} {l m : Ps} {L : List Pt} (h : ¬ (0 ≤ z ∧ z < (L.length : Int))) : spP z l m L = (0, false) := by unfold spP; rw [if_neg (fun g => h g.2)]
theorem sp_yes {k : Nat} {l m : Ps} {L : List Pt} {s : ByteArray} {M : List Int} (h : grp l m L = true) (hx : L[k]? = some (s, M)) : spP (k : Int) l m L = (((cnt (later m) M M : Nat) : Int), true) := by
  have hk := (List.getElem?_eq_some_iff.1 hx).1
  unfold spP
  rw [if_pos ⟨h, by omega, by omega⟩, Int.toNat_natCast, List.getD_eq_getElem?_getD, hx]
  rfl
theorem grp_mb {l m : Ps} {L : List Pt} {k : Nat} {s : ByteArray} {M : List Int} (h : grp l m L = true) (hx : L[k]? = some (s, M)) : MbP l M := by
  unfold grp at h
  rw [Bool.and_eq_true] at h
  exact ((gp_iff.1 h.2).2 k _ hx).2.1
end Go.Proofs.Ytbdplgcdnpcnfaa.GpN
