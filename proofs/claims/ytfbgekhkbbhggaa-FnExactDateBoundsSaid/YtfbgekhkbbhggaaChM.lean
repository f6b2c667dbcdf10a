/- Dated records, the mathematics: what is valid, the weight of a dating, the datings that come of all years. -/
import Derived.Test.YtfbgekhkbbhggaaAtM
import Derived.Test.YtfbgekhkbbhggaaGoodG
namespace Go.Proofs.Ytfbgekhkbbhggaa.ChM
open DvM Yr AtM Find2 GoodM GoodE
set_option linter.unusedVariables false
abbrev Pt := Int × List Int
/-- How many lists of years there are. -/
def cnt : List Pt → Int
  | [] => 1
  | x :: Z => (x.2.length : Int) * cnt Z
/-- The product of the sums. -/
def sms : List Pt → Int
  | [] => 1
  | x :: Z => x.2.sum * sms Z
def okZ (Z : List Pt) : Bool := Z.all fun x => okD x.1 x.2
/-- A valid dated record. -/
def vd (l m : List (Int × Int)) (Z : List Pt) : Bool :=
  good l m && decide (Z.length = l.length) && okZ Z && decide (cnt Z ≤ 5000 ∧ sms Z ≤ 1000000000000000)
theorem cnt_app (Z : List Pt) (x : Pt) : cnt (Z ++ [x]) = cnt Z * x.2.length := by
  induction Z with
  | nil => simp [cnt]
  | cons y Z ih =>
    rw [List.cons_append]
    show (y.2.length : Int) * cnt (Z ++ [x]) = (y.2.length : Int) * cnt Z * x.2.length
    rw [ih, Int.mul_assoc]
theorem sms_app (Z : List Pt) (x : Pt) : sms (Z ++ [x]) = sms Z * x.2.sum := by
  induction Z with
  | nil => simp [sms]
  | cons y Z ih =>
    rw [List.cons_append]
    show y.2.sum * sms (Z ++ [x]) = y.2.sum * sms Z * x.2.sum
    rw [ih, Int.mul_assoc]
theorem sum_mem_le : ∀ {L : List Int}, (∀ x ∈ L, 0 ≤ x) → 0 ≤ L.sum ∧ ∀ x ∈ L, x ≤ L.sum
  | [], _ => ⟨by simp, fun x h => by cases h⟩
  | y :: L, h => by
    obtain ⟨h1, h2⟩ := sum_mem_le (L := L) (fun x hx => h x (List.mem_cons_of_mem _ hx))
    have h3 := h y List.mem_cons_self
    rw [List.sum_cons]
    refine ⟨by omega, fun x hx => ?_⟩
    rcases List.mem_cons.1 hx with rfl | hx
    · omega
    · have := h2 x hx
      omega
theorem okD_sum {f : Int} {M : List Int} (h : okD f M = true) : 1 ≤ M.sum ∧ M.sum ≤ 60000000 ∧ ∀ y, 0 ≤ wat f M y ∧ wat f M y ≤ M.sum := by
  have ho := okD_iff.1 h
  have hm : ∀ x ∈ M, 0 ≤ x ∧ x ≤ 1000000 := fun x hx => upTo_mem ho.all hx
  obtain ⟨h1, h2⟩ := sum_mem_le (L := M) (fun x hx => (hm x hx).1)
  have h3 : M.getD 0 0 ∈ M := by
    rw [getD_of (List.getElem?_eq_getElem ho.pos)]
    exact List.getElem_mem _
  have h4 := h2 _ h3
  have h5 := ho.fst
  refine ⟨by omega, ?_, fun y => ?_⟩
  · have h6 := (sw_bd (f := f) (M := M) (m := 1000000) (by omega) hm (yrs f (f + M.length - 1))).2
    rw [sw_all, yrs_len] at h6
    have h7 := ho.len
    have h8 : (((f + (M.length : Int) - 1 + 1 - f).toNat : Nat) : Int) = (M.length : Int) := by omega
    rw [h8] at h6
    omega
  · unfold wat
    split
    · rename_i hh
      have hl : (y - f).toNat < M.length := by omega
      rw [getD_of (List.getElem?_eq_getElem hl)]
      exact ⟨(hm _ (List.getElem_mem hl)).1, h2 _ (List.getElem_mem hl)⟩
    · omega
theorem okZ_cons {x : Pt} {Z : List Pt} : okZ (x :: Z) = true ↔ okD x.1 x.2 = true ∧ okZ Z = true := by
  unfold okZ
  rw [List.all_cons, Bool.and_eq_true]
theorem okZ_mem {x : Pt} {Z : List Pt} (h : okZ Z = true) (hx : x ∈ Z) : okD x.1 x.2 = true := by
  unfold okZ at h
  exact List.all_eq_true.1 h x hx
theorem okZ_take {Z : List Pt} (h : okZ Z = true) (k : Nat) : okZ (Z.take k) = true := by
  unfold okZ at *
  rw [List.all_eq_true] at *
  exact fun x hx => h x (List.mem_of_mem_take hx)
theorem mul_pos1 {a b : Int} (ha : 1 ≤ a) (hb : 1 ≤ b) : 1 ≤ a * b ∧ a ≤ a * b ∧ b ≤ a * b := by
  have h1 : a * 1 ≤ a * b := Int.mul_le_mul_of_nonneg_left hb (by omega)
  have h2 : 1 * b ≤ a * b := Int.mul_le_mul_of_nonneg_right ha (by omega)
  omega
theorem pos_of_okZ : ∀ {Z : List Pt}, okZ Z = true → 1 ≤ cnt Z ∧ 1 ≤ sms Z
  | [], _ => ⟨by decide, by decide⟩
  | x :: Z, h => by
    obtain ⟨h1, h2⟩ := okZ_cons.1 h
    obtain ⟨h3, h4⟩ := pos_of_okZ h2
    have h5 := (okD_iff.1 h1).pos
    exact ⟨(mul_pos1 (by omega) h3).1, (mul_pos1 (okD_sum h1).1 h4).1⟩
theorem split_at {Z : List Pt} (k : Nat) : cnt Z = cnt (Z.take k) * cnt (Z.drop k) ∧ sms Z = sms (Z.take k) * sms (Z.drop k) := by
  induction Z generalizing k with
  | nil => simp [cnt, sms]
  | cons x Z ih =>
    cases k with
    | zero => simp [cnt, sms]
    | succ k =>
      obtain ⟨h1, h2⟩ := ih k
      rw [List.take_succ_cons, List.drop_succ_cons]
      constructor
      · show (x.2.length : Int) * cnt Z = (x.2.length : Int) * cnt (Z.take k) * cnt (Z.drop k)
        rw [h1, Int.mul_assoc]
      · show x.2.sum * sms Z = x.2.sum * sms (Z.take k) * sms (Z.drop k)
        rw [h2, Int.mul_assoc]
theorem okZ_drop {Z : List Pt} (h : okZ Z = true) (k : Nat) : okZ (Z.drop k) = true := by
  unfold okZ at *
  rw [List.all_eq_true] at *
  exact fun x hx => h x (List.mem_of_mem_drop hx)
structure Vd (l m : List (Int × Int)) (Z : List Pt) : Prop where
  good : good l m = true
  len : Z.length = l.length
  each : okZ Z = true
  many : cnt Z ≤ 5000
  sums : sms Z ≤ 1000000000000000
theorem vd_iff {l m : List (Int × Int)} {Z : List Pt} : vd l m Z = true ↔ Vd l m Z := by
  unfold vd
  simp only [Bool.and_eq_true, decide_eq_true_eq]
  exact ⟨fun ⟨⟨⟨a, b⟩, c⟩, d, e⟩ => ⟨a, b, c, d, e⟩, fun ⟨a, b, c, d, e⟩ => ⟨⟨⟨a, b⟩, c⟩, d, e⟩⟩
theorem vd_not {l m : List (Int × Int)} {Z : List Pt} (h : Vd l m Z → False) : vd l m Z = false := by
  rw [Bool.eq_false_iff]
  exact fun e => h (vd_iff.1 e)
/-- Beginnings are within the limits too. -/
theorem part_le {Z : List Pt} (h : okZ Z = true) (k : Nat) : 1 ≤ cnt (Z.take k) ∧ cnt (Z.take k) ≤ cnt Z ∧ 1 ≤ sms (Z.take k) ∧ sms (Z.take k) ≤ sms Z := by
  obtain ⟨h1, h2⟩ := split_at (Z := Z) k
  obtain ⟨h3, h4⟩ := pos_of_okZ (okZ_take h k)
  obtain ⟨h5, h6⟩ := pos_of_okZ (okZ_drop h k)
  have h7 := mul_pos1 h3 h5
  have h8 := mul_pos1 h4 h6
  omega
theorem take_next {Z : List Pt} {k : Nat} {x : Pt} (h : Z[k]? = some x) : cnt (Z.take (k + 1)) = cnt (Z.take k) * x.2.length ∧ sms (Z.take (k + 1)) = sms (Z.take k) * x.2.sum := by
  rw [List.take_add_one, h]
  exact ⟨cnt_app _ _, sms_app _ _⟩
/-- The product of the weights of years. -/
def prd : List Pt → List Int → Int
  | x :: Z, y :: ys => wat x.1 x.2 y * prd Z ys
  | _, _ => 1
theorem prd_app : ∀ (Z : List Pt) (ys : List Int) (x : Pt) (y : Int), Z.length = ys.length → prd (Z ++ [x]) (ys ++ [y]) = prd Z ys * wat x.1 x.2 y
  | [], [], x, y, _ => by simp [prd]
  | [], _ :: _, _, _, h => by simp at h
  | _ :: _, [], _, _, h => by simp at h
  | z :: Z, u :: ys, x, y, h => by
    rw [List.cons_append, List.cons_append]
    show wat z.1 z.2 u * prd (Z ++ [x]) (ys ++ [y]) = wat z.1 z.2 u * prd Z ys * wat x.1 x.2 y
    rw [prd_app Z ys x y (by simpa using h), Int.mul_assoc]
theorem prd_bd : ∀ {Z : List Pt} (ys : List Int), okZ Z = true → 0 ≤ prd Z ys ∧ prd Z ys ≤ sms Z
  | [], ys, _ => by
    have e : prd [] ys = 1 := by cases ys <;> rfl
    rw [e]
    exact ⟨by decide, by decide⟩
  | x :: Z, [], h => ⟨by show (0 : Int) ≤ 1; decide, (pos_of_okZ h).2⟩
  | x :: Z, y :: ys, h => by
    obtain ⟨h1, h2⟩ := okZ_cons.1 h
    obtain ⟨h3, h4⟩ := prd_bd ys h2
    obtain ⟨h5, h6⟩ := (okD_sum h1).2.2 y
    exact ⟨Int.mul_nonneg h5 h3, Int.mul_le_mul h6 h4 h3 (by omega)⟩
theorem prd_pos : ∀ {Z : List Pt} {ys : List Int}, okZ Z = true → ys.length = Z.length → (0 < prd Z ys ↔ ∀ (i : Nat) (x : Pt) (y : Int), Z[i]? = some x → ys[i]? = some y → 0 < wat x.1 x.2 y)
  | [], ys, _, _ => by
    refine ⟨fun _ i x y hx => by simp at hx, fun _ => ?_⟩
    cases ys <;> (show (0 : Int) < 1; decide)
  | x :: Z, [], _, h => by simp at h
  | x :: Z, y :: ys, h, hl => by
    obtain ⟨h1, h2⟩ := okZ_cons.1 h
    have ih := prd_pos h2 (ys := ys) (by simpa using hl)
    obtain ⟨h5, h6⟩ := (okD_sum h1).2.2 y
    obtain ⟨h3, h4⟩ := prd_bd ys h2
    show 0 < wat x.1 x.2 y * prd Z ys ↔ _
    constructor
    · intro hp i u v hu hv
      have hw : 0 < wat x.1 x.2 y := by
        rcases Int.lt_or_eq_of_le h5 with h | h
        · exact h
        · rw [← h, Int.zero_mul] at hp; omega
      have hq : 0 < prd Z ys := by
        rcases Int.lt_or_eq_of_le h3 with h | h
        · exact h
        · rw [← h, Int.mul_zero] at hp; omega
      cases i with
      | zero =>
        obtain rfl : x = u := by simpa using hu
        obtain rfl : y = v := by simpa using hv
        exact hw
      | succ i => exact ih.1 hq i u v (by simpa using hu) (by simpa using hv)
    · intro hh
      exact Int.mul_pos (hh 0 x y rfl rfl) (ih.2 fun i u v hu hv => hh (i + 1) u v (by simpa using hu) (by simpa using hv))
/-- The place of a context. -/
def pos (l : List (Int × Int)) (n : Int) : Nat := (find l n).toNat
/-- Whether years respect the relations, as the model asks. -/
def resp (l m : List (Int × Int)) (ys : List Int) : Bool := m.all fun r => decide (ys.getD (pos l r.2) 0 ≤ ys.getD (pos l r.1) 0)
/-- The weight of a dating. -/
def wt (l m : List (Int × Int)) (Z : List Pt) (ys : List Int) : Int := if resp l m ys = true then prd Z ys else 0
theorem wt_bd {l m : List (Int × Int)} {Z : List Pt} (ys : List Int) (h : okZ Z = true) : 0 ≤ wt l m Z ys ∧ wt l m Z ys ≤ sms Z := by
  unfold wt
  split
  · exact prd_bd ys h
  · have := (pos_of_okZ h).2
    omega
/-- The number of the k-th context. -/
def nb (l : List (Int × Int)) (k : Nat) : Int := (l.getD k (0, 0)).1
/-- Whether a year at place k fits the years ahead of it. -/
def fit (l m : List (Int × Int)) (ys : List Int) (y : Int) : Prop :=
  ∀ (i : Nat) (u : Int), ys[i]? = some u → ((nb l ys.length, nb l i) ∈ m → u ≤ y) ∧ ((nb l i, nb l ys.length) ∈ m → y ≤ u)
/-- The years that are admitted, reckoned as the program does. -/
def one (a b u : Int) (p : Int × Int) (x : Int × Int) : Int × Int := (if x = (a, b) then max p.1 u else p.1, if x = (b, a) then min p.2 u else p.2)
def row (m : List (Int × Int)) (a b u : Int) (p : Int × Int) : Int × Int := m.foldl (one a b u) p
/-- The first k years are taken into account. -/
def admK (l m : List (Int × Int)) (a : Int) (ys : List Int) : Nat → Int × Int → Int × Int
  | 0, p => p
  | k + 1, p => row m a (nb l k) (ys.getD k 0) (admK l m a ys k p)
def adm (l m : List (Int × Int)) (ys : List Int) (p : Int × Int) : Int × Int := admK l m (nb l ys.length) ys ys.length p
theorem row_is (m : List (Int × Int)) (a b u y : Int) : ∀ p : Int × Int, ((row m a b u p).1 ≤ y ∧ y ≤ (row m a b u p).2 ↔ p.1 ≤ y ∧ y ≤ p.2 ∧ ((a, b) ∈ m → u ≤ y) ∧ ((b, a) ∈ m → y ≤ u)) := by
  induction m with
  | nil =>
    intro p
    show p.1 ≤ y ∧ y ≤ p.2 ↔ _
    simp
  | cons x m ih =>
    intro p
    show (row m a b u (one a b u p x)).1 ≤ y ∧ y ≤ (row m a b u (one a b u p x)).2 ↔ _
    rw [ih]
    unfold one
    simp only [List.mem_cons]
    by_cases h1 : x = (a, b)
    · by_cases h2 : x = (b, a)
      · subst h1
        injection h2 with h2 h3
        subst h2
        simp only [if_true, true_or, forall_const]
        constructor
        · rintro ⟨q1, q2, q3, q4⟩; omega
        · rintro ⟨q1, q2, q3, q4⟩; exact ⟨by omega, by omega, fun _ => by omega, fun _ => by omega⟩
      · subst h1
        have h2' : ¬ (b, a) = (a, b) := fun e => h2 e.symm
        simp only [if_true, if_neg h2, h2', false_or, true_or, forall_const]
        constructor
        · rintro ⟨q1, q2, q3, q4⟩; exact ⟨by omega, q2, by omega, q4⟩
        · rintro ⟨q1, q2, q3, q4⟩; exact ⟨by omega, q2, fun _ => q3, q4⟩
    · by_cases h2 : x = (b, a)
      · subst h2
        have h1' : ¬ (a, b) = (b, a) := fun e => h1 e.symm
        simp only [if_true, if_neg h1, h1', false_or, true_or, forall_const]
        constructor
        · rintro ⟨q1, q2, q3, q4⟩; exact ⟨q1, by omega, q3, by omega⟩
        · rintro ⟨q1, q2, q3, q4⟩; exact ⟨q1, by omega, q3, fun _ => q4⟩
      · have h1' : ¬ (a, b) = x := fun e => h1 e.symm
        have h2' : ¬ (b, a) = x := fun e => h2 e.symm
        simp only [if_neg h1, if_neg h2, h1', h2', false_or]
theorem row_bd (m : List (Int × Int)) (a b u : Int) {x t : Int} (hu : x ≤ u ∧ u ≤ t) : ∀ p : Int × Int, x ≤ p.1 → p.1 ≤ t → x ≤ p.2 → p.2 ≤ t → p.1 ≤ (row m a b u p).1 ∧ (row m a b u p).2 ≤ p.2 ∧ (row m a b u p).1 ≤ t ∧ x ≤ (row m a b u p).2 := by
  induction m with
  | nil => intro p h1 h2 h3 h4; exact ⟨Int.le_refl _, Int.le_refl _, h2, h3⟩
  | cons z m ih =>
    intro p h1 h2 h3 h4
    have e : row (z :: m) a b u p = row m a b u (one a b u p z) := rfl
    have k1 : p.1 ≤ (one a b u p z).1 ∧ (one a b u p z).1 ≤ t := by unfold one; dsimp only; split <;> omega
    have k2 : (one a b u p z).2 ≤ p.2 ∧ x ≤ (one a b u p z).2 := by unfold one; dsimp only; split <;> omega
    have := ih (one a b u p z) (by omega) k1.2 k2.2 (by omega)
    rw [e]
    omega
theorem admK_is (l m : List (Int × Int)) (a : Int) (ys : List Int) (y : Int) (p : Int × Int) : ∀ k, k ≤ ys.length → ((admK l m a ys k p).1 ≤ y ∧ y ≤ (admK l m a ys k p).2 ↔ p.1 ≤ y ∧ y ≤ p.2 ∧ ∀ (i : Nat) (u : Int), i < k → ys[i]? = some u → ((a, nb l i) ∈ m → u ≤ y) ∧ ((nb l i, a) ∈ m → y ≤ u))
  | 0, _ => by
    show p.1 ≤ y ∧ y ≤ p.2 ↔ _
    constructor
    · rintro ⟨h1, h2⟩; exact ⟨h1, h2, fun i u hi => by omega⟩
    · rintro ⟨h1, h2, _⟩; exact ⟨h1, h2⟩
  | k + 1, hk => by
    have ih := admK_is l m a ys y p k (by omega)
    show (row m a (nb l k) (ys.getD k 0) (admK l m a ys k p)).1 ≤ y ∧ y ≤ (row m a (nb l k) (ys.getD k 0) (admK l m a ys k p)).2 ↔ _
    rw [row_is]
    have hg : ys[k]? = some (ys.getD k 0) := by
      rw [List.getD_eq_getElem?_getD, List.getElem?_eq_getElem (by omega)]
      rfl
    constructor
    · rintro ⟨h1, h2, h3, h4⟩
      obtain ⟨k1, k2, k3⟩ := ih.1 ⟨h1, h2⟩
      refine ⟨k1, k2, fun i u hi hu => ?_⟩
      by_cases e : i = k
      · subst e
        rw [hg] at hu
        injection hu with hu
        subst hu
        exact ⟨h3, h4⟩
      · exact k3 i u (by omega) hu
    · rintro ⟨h1, h2, h3⟩
      obtain ⟨k1, k2⟩ := ih.2 ⟨h1, h2, fun i u hi hu => h3 i u (by omega) hu⟩
      have k3 := h3 k _ (by omega) hg
      exact ⟨k1, k2, k3.1, k3.2⟩
theorem adm_is (l m : List (Int × Int)) (ys : List Int) (y : Int) (p : Int × Int) : (adm l m ys p).1 ≤ y ∧ y ≤ (adm l m ys p).2 ↔ p.1 ≤ y ∧ y ≤ p.2 ∧ fit l m ys y := by
  unfold adm
  rw [admK_is l m _ ys y p ys.length (Nat.le_refl _)]
  constructor
  · rintro ⟨h1, h2, h3⟩
    exact ⟨h1, h2, fun i u hu => h3 i u (List.getElem?_eq_some_iff.1 hu).1 hu⟩
  · rintro ⟨h1, h2, h3⟩
    exact ⟨h1, h2, fun i u _ hu => h3 i u hu⟩
theorem admK_bd (l m : List (Int × Int)) (a : Int) (ys : List Int) {x t : Int} (hy : ∀ u ∈ ys, x ≤ u ∧ u ≤ t) (p : Int × Int) (h1 : x ≤ p.1) (h2 : p.1 ≤ t) (h3 : x ≤ p.2) (h4 : p.2 ≤ t) : ∀ k, k ≤ ys.length → p.1 ≤ (admK l m a ys k p).1 ∧ (admK l m a ys k p).2 ≤ p.2 ∧ (admK l m a ys k p).1 ≤ t ∧ x ≤ (admK l m a ys k p).2
  | 0, _ => ⟨Int.le_refl _, Int.le_refl _, h2, h3⟩
  | k + 1, hk => by
    have ih := admK_bd l m a ys hy p h1 h2 h3 h4 k (by omega)
    have hu : x ≤ ys.getD k 0 ∧ ys.getD k 0 ≤ t := by
      rw [List.getD_eq_getElem?_getD, List.getElem?_eq_getElem (by omega)]
      exact hy _ (List.getElem_mem _)
    have := row_bd m a (nb l k) (ys.getD k 0) hu (admK l m a ys k p) (by omega) (by omega) (by omega) (by omega)
    show p.1 ≤ (row m a (nb l k) (ys.getD k 0) (admK l m a ys k p)).1 ∧ _
    refine ⟨by omega, ?_, ?_, ?_⟩
    · show (row m a (nb l k) (ys.getD k 0) (admK l m a ys k p)).2 ≤ p.2
      omega
    · show (row m a (nb l k) (ys.getD k 0) (admK l m a ys k p)).1 ≤ t
      omega
    · show x ≤ (row m a (nb l k) (ys.getD k 0) (admK l m a ys k p)).2
      omega
end Go.Proofs.Ytfbgekhkbbhggaa.ChM
