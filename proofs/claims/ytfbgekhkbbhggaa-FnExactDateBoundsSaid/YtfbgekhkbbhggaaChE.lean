/- Dated records, the mathematics: the datings that the program lists one after another are those of all lists of years that have a weight. -/
import Derived.Test.YtfbgekhkbbhggaaChM
namespace Go.Proofs.Ytfbgekhkbbhggaa.ChE
open DvM Yr AtM Find2 GoodM GoodE ChM
set_option linter.unusedVariables false
/-- The datings that begin with some years. -/
def ext (l m : List (Int × Int)) : List Pt → List Int → Int → List (List Int × Int)
  | [], ys, w => [(ys, w)]
  | x :: Z, ys, w => (yrs (adm l m ys (x.1, x.1 + x.2.length - 1)).1 (adm l m ys (x.1, x.1 + x.2.length - 1)).2).flatMap fun y => if 0 < w * wat x.1 x.2 y then ext l m Z (ys ++ [y]) (w * wat x.1 x.2 y) else []
/-- All lists of years. -/
def prods : List Pt → List (List Int)
  | [] => [[]]
  | x :: Z => (yrs x.1 (x.1 + x.2.length - 1)).flatMap fun y => (prods Z).map (y :: ·)
/-- Whether all years fit those ahead of them. -/
def fits (l m : List (Int × Int)) (ys : List Int) : Prop := ∀ (k : Nat) (y : Int), ys[k]? = some y → fit l m (ys.take k) y
theorem fits_app {l m : List (Int × Int)} {ys : List Int} {y : Int} : fits l m (ys ++ [y]) ↔ fits l m ys ∧ fit l m ys y := by
  constructor
  · intro h
    refine ⟨fun k u hu => ?_, ?_⟩
    · have hk := (List.getElem?_eq_some_iff.1 hu).1
      have := h k u (by rw [List.getElem?_append_left hk]; exact hu)
      rwa [List.take_append_of_le_length (by omega)] at this
    · have := h ys.length y (by simp)
      rwa [List.take_append_of_le_length (Nat.le_refl _), List.take_length] at this
  · rintro ⟨h1, h2⟩ k u hu
    have hk := (List.getElem?_eq_some_iff.1 hu).1
    rw [List.length_append, List.length_singleton] at hk
    by_cases e : k < ys.length
    · rw [List.getElem?_append_left e] at hu
      rw [List.take_append_of_le_length (by omega)]
      exact h1 k u hu
    · obtain rfl : k = ys.length := by omega
      rw [List.take_append_of_le_length (Nat.le_refl _), List.take_length]
      have : y = u := by simpa using hu
      rw [← this]
      exact h2
theorem fits_part {l m : List (Int × Int)} {ys t : List Int} (h : fits l m (ys ++ t)) : fits l m ys := by
  intro k u hu
  have hk := (List.getElem?_eq_some_iff.1 hu).1
  have := h k u (by rw [List.getElem?_append_left hk]; exact hu)
  rwa [List.take_append_of_le_length (by omega)] at this
theorem yrs_split {a b f t : Int} (h1 : f ≤ a) (h2 : b ≤ t) (h3 : a ≤ b) : yrs f t = yrs f (a - 1) ++ (yrs a b ++ yrs (b + 1) t) := by
  apply List.ext_getElem?
  intro i
  by_cases hi : i < (t + 1 - f).toNat
  · rw [yrs_at hi]
    by_cases hA : i < (yrs f (a - 1)).length
    · rw [List.getElem?_append_left hA, yrs_at (by rwa [yrs_len] at hA)]
    · rw [List.getElem?_append_right (by omega)]
      rw [yrs_len] at *
      by_cases hB : i - (a - 1 + 1 - f).toNat < (yrs a b).length
      · rw [List.getElem?_append_left hB, yrs_at (by rwa [yrs_len] at hB)]
        congr 1
        omega
      · rw [List.getElem?_append_right (by omega)]
        rw [yrs_len] at *
        rw [yrs_at (by omega)]
        congr 1
        omega
  · rw [List.getElem?_eq_none (by rw [yrs_len]; omega), List.getElem?_eq_none (by simp only [List.length_append, yrs_len]; omega)]
theorem flat_nil {α β : Type} (g : α → List β) : ∀ L : List α, (∀ y ∈ L, g y = []) → L.flatMap g = []
  | [], _ => rfl
  | y :: L, h => by
    rw [List.flatMap_cons, h y List.mem_cons_self, flat_nil g L (fun z hz => h z (List.mem_cons_of_mem _ hz))]
    rfl
theorem flat_sub {β : Type} {a b f t : Int} (g : Int → List β) (h1 : f ≤ a) (h2 : b ≤ t) (h : ∀ y, ¬ (a ≤ y ∧ y ≤ b) → g y = []) : (yrs a b).flatMap g = (yrs f t).flatMap g := by
  by_cases h3 : a ≤ b
  · rw [yrs_split h1 h2 h3, List.flatMap_append, List.flatMap_append, flat_nil g (yrs f (a - 1)), flat_nil g (yrs (b + 1) t)]
    · simp
    · intro y hy
      have := yrs_mem.1 hy
      exact h y (by omega)
    · intro y hy
      have := yrs_mem.1 hy
      exact h y (by omega)
  · rw [flat_nil g (yrs f t) (fun y _ => h y (by omega)), flat_nil g (yrs a b) (fun y _ => h y (by omega))]
open Classical in
/-- The weight of years behind others. -/
noncomputable def wx (l m : List (Int × Int)) (Z : List Pt) (ys : List Int) (w : Int) (t : List Int) : List Int × Int := (ys ++ t, if fits l m (ys ++ t) then w * prd Z t else 0)
theorem filter_flat {α β : Type} (p : β → Bool) (g : α → List β) : ∀ L : List α, (L.flatMap g).filter p = L.flatMap fun y => (g y).filter p
  | [] => rfl
  | y :: L => by rw [List.flatMap_cons, List.filter_append, filter_flat p g L, List.flatMap_cons]
theorem flat_congr {α β : Type} {g h : α → List β} : ∀ {L : List α}, (∀ y ∈ L, g y = h y) → L.flatMap g = L.flatMap h
  | [], _ => rfl
  | y :: L, e => by rw [List.flatMap_cons, List.flatMap_cons, e y List.mem_cons_self, flat_congr (fun z hz => e z (List.mem_cons_of_mem _ hz))]
theorem map_flat {α β γ : Type} (p : β → γ) (g : α → List β) : ∀ L : List α, (L.flatMap g).map p = L.flatMap fun y => (g y).map p
  | [] => rfl
  | y :: L => by rw [List.flatMap_cons, List.map_append, map_flat p g L, List.flatMap_cons]
theorem adm_sub (l m : List (Int × Int)) (ys : List Int) (p : Int × Int) : p.1 ≤ (adm l m ys p).1 ∧ (adm l m ys p).2 ≤ p.2 := by
  have h1 : ∀ (m : List (Int × Int)) (a b u : Int) (p : Int × Int), p.1 ≤ (row m a b u p).1 ∧ (row m a b u p).2 ≤ p.2 := by
    intro m a b u
    induction m with
    | nil => intro p; exact ⟨Int.le_refl _, Int.le_refl _⟩
    | cons z m ih =>
      intro p
      have e : row (z :: m) a b u p = row m a b u (one a b u p z) := rfl
      have := ih (one a b u p z)
      have k1 : p.1 ≤ (one a b u p z).1 := by unfold one; dsimp only; split <;> omega
      have k2 : (one a b u p z).2 ≤ p.2 := by unfold one; dsimp only; split <;> omega
      rw [e]
      omega
  have h2 : ∀ (a : Int) (k : Nat), p.1 ≤ (admK l m a ys k p).1 ∧ (admK l m a ys k p).2 ≤ p.2 := by
    intro a k
    induction k with
    | zero => exact ⟨Int.le_refl _, Int.le_refl _⟩
    | succ k ih =>
      have := h1 m a (nb l k) (ys.getD k 0) (admK l m a ys k p)
      show p.1 ≤ (row m a (nb l k) (ys.getD k 0) (admK l m a ys k p)).1 ∧ (row m a (nb l k) (ys.getD k 0) (admK l m a ys k p)).2 ≤ p.2
      omega
  exact h2 _ _
theorem ext_is (l m : List (Int × Int)) : ∀ (Z : List Pt) (ys : List Int) (w : Int), okZ Z = true → fits l m ys → 0 < w → ext l m Z ys w = ((prods Z).map (wx l m Z ys w)).filter fun x => decide (0 < x.2)
  | [], ys, w, _, hf, hw => by
    unfold ext prods
    have e : wx l m [] ys w [] = (ys, w) := by
      unfold wx
      rw [List.append_nil, if_pos hf]
      show (ys, w * 1) = _
      rw [Int.mul_one]
    rw [List.map_cons, List.map_nil, e, List.filter_cons_of_pos (by simpa using hw)]
    rfl
  | x :: Z, ys, w, hz, hf, hw => by
    obtain ⟨hx, hz2⟩ := okZ_cons.1 hz
    unfold ext prods
    rw [map_flat, filter_flat]
    have hg : ∀ y, ¬ ((adm l m ys (x.1, x.1 + x.2.length - 1)).1 ≤ y ∧ y ≤ (adm l m ys (x.1, x.1 + x.2.length - 1)).2) ∨ ¬ 0 < w * wat x.1 x.2 y →
        ((((prods Z).map (y :: ·)).map (wx l m (x :: Z) ys w)).filter fun x => decide (0 < x.2)) = [] := by
      intro y hy
      rw [List.filter_eq_nil_iff]
      intro q hq
      rw [List.map_map] at hq
      obtain ⟨t, ht, rfl⟩ := List.mem_map.1 hq
      rw [decide_eq_true_eq]
      show ¬ 0 < (wx l m (x :: Z) ys w (y :: t)).2
      unfold wx
      dsimp only
      split
      · rename_i hfit
        have h1 : fits l m (ys ++ [y]) := fits_part (t := t) (by rwa [List.append_assoc])
        have h2 := (fits_app.1 h1).2
        show ¬ 0 < w * (wat x.1 x.2 y * prd Z t)
        have hwat := ((okD_sum hx).2.2 y).1
        rcases hy with hy | hy
        · have h0 : wat x.1 x.2 y = 0 := by
            by_cases hr : x.1 ≤ y ∧ y ≤ x.1 + x.2.length - 1
            · exact absurd ((adm_is l m ys y (x.1, x.1 + x.2.length - 1)).2 ⟨hr.1, hr.2, h2⟩) hy
            · exact wat_out hr
          rw [h0, Int.zero_mul, Int.mul_zero]
          omega
        · have h0 : wat x.1 x.2 y = 0 := by
            rcases Int.lt_or_eq_of_le hwat with h | h
            · exact absurd (Int.mul_pos hw h) hy
            · exact h.symm
          rw [h0, Int.zero_mul, Int.mul_zero]
          omega
      · omega
    have hs := adm_sub l m ys (x.1, x.1 + x.2.length - 1)
    rw [← flat_sub (fun y => (((prods Z).map (y :: ·)).map (wx l m (x :: Z) ys w)).filter fun x => decide (0 < x.2)) hs.1 hs.2 (fun y hy => hg y (.inl hy))]
    refine flat_congr fun y hy => ?_
    have hy2 := yrs_mem.1 hy
    by_cases hp : 0 < w * wat x.1 x.2 y
    · rw [if_pos hp]
      have hft : fits l m (ys ++ [y]) := fits_app.2 ⟨hf, ((adm_is l m ys y _).1 hy2).2.2⟩
      rw [ext_is l m Z (ys ++ [y]) (w * wat x.1 x.2 y) hz2 hft hp, List.map_map]
      congr 1
      refine List.map_congr_left fun t _ => ?_
      show wx l m Z (ys ++ [y]) (w * wat x.1 x.2 y) t = wx l m (x :: Z) ys w (y :: t)
      unfold wx
      rw [List.append_assoc]
      show (ys ++ (y :: t), _) = (ys ++ (y :: t), _)
      rw [Int.mul_assoc]
      rfl
    · rw [if_neg hp]
      exact (hg y (.inr hp)).symm
theorem prods_len : ∀ {Z : List Pt} {t : List Int}, t ∈ prods Z → t.length = Z.length
  | [], t, h => by
    obtain rfl : t = [] := by simpa [prods] using h
    rfl
  | x :: Z, t, h => by
    unfold prods at h
    obtain ⟨y, _, h2⟩ := List.mem_flatMap.1 h
    obtain ⟨s, hs, rfl⟩ := List.mem_map.1 h2
    simp [prods_len hs]
theorem nb_of {l : List (Int × Int)} {k : Nat} {x : Int × Int} (h : l[k]? = some x) : nb l k = x.1 := by
  unfold nb
  rw [List.getD_eq_getElem?_getD, h]
  rfl
theorem pos_nb {l : List (Int × Int)} (h : AscP l) {k : Nat} (hk : k < l.length) : isAt l (nb l k) = some k ∧ pos l (nb l k) = k := by
  have hx := List.getElem?_eq_getElem hk
  have hn : isAt (l.take k) (l[k]).1 = none := by
    refine isAt_none_of fun u hu => ?_
    obtain ⟨i, hi, he⟩ := List.mem_iff_getElem.1 hu
    rw [List.length_take] at hi
    rw [List.getElem_take] at he
    have := List.pairwise_iff_getElem.1 h i k (by omega) hk (by omega)
    rw [he] at this
    exact absurd this (by simp)
  have h1 : isAt l (nb l k) = some k := by
    rw [nb_of hx]
    exact isAt_here (y := (l[k]).2) hn hx
  refine ⟨h1, ?_⟩
  unfold pos
  rw [find_some h1]
  simp
theorem isAt_nb {l : List (Int × Int)} {n : Int} {k : Nat} (h : isAt l n = some k) : k < l.length ∧ nb l k = n := by
  unfold isAt at h
  obtain ⟨h1, h2, _⟩ := List.findIdx?_eq_some_iff_getElem.1 h
  refine ⟨h1, ?_⟩
  rw [nb_of (List.getElem?_eq_getElem h1)]
  simpa using h2
/-- Respecting the record is fitting the years ahead. -/
theorem resp_is {l m : List (Int × Int)} (hg : GoodE.Good l m) {ys : List Int} (hl : ys.length = l.length) : resp l m ys = true ↔ fits l m ys := by
  unfold resp
  rw [List.all_eq_true]
  have gd : ∀ {k : Nat} {u : Int}, ys[k]? = some u → ys.getD k 0 = u := fun h => by rw [List.getD_eq_getElem?_getD, h]; rfl
  constructor
  · intro h k y hy i u hu
    have hk := (List.getElem?_eq_some_iff.1 hy).1
    have hi := (List.getElem?_eq_some_iff.1 hu).1
    rw [List.length_take] at hi
    rw [List.getElem?_take_of_lt (by omega)] at hu
    rw [List.length_take, Nat.min_eq_left (by omega)]
    constructor
    · intro hm
      have := of_decide_eq_true (h _ hm)
      rw [(pos_nb hg.asc (by omega)).2, (pos_nb hg.asc (by omega)).2, gd hu, gd hy] at this
      exact this
    · intro hm
      have := of_decide_eq_true (h _ hm)
      rw [(pos_nb hg.asc (by omega)).2, (pos_nb hg.asc (by omega)).2, gd hu, gd hy] at this
      exact this
  · intro h r hr
    rw [decide_eq_true_eq]
    obtain ⟨hne, ⟨u1, h1⟩, v1, h2⟩ := hg.rel r hr
    obtain ⟨i, hi⟩ := isAt_of_mem h1
    obtain ⟨j, hj⟩ := isAt_of_mem h2
    obtain ⟨hil, hin⟩ := isAt_nb hi
    obtain ⟨hjl, hjn⟩ := isAt_nb hj
    have hij : i ≠ j := fun e => by
      subst e
      rw [hi] at *
      exact hne (by rw [← hin, ← hjn])
    have p1 : pos l r.1 = i := by unfold pos; rw [find_some hi]; simp
    have p2 : pos l r.2 = j := by unfold pos; rw [find_some hj]; simp
    rw [p1, p2]
    have gi : ys[i]? = some (ys.getD i 0) := by rw [List.getD_eq_getElem?_getD, List.getElem?_eq_getElem (by omega)]; rfl
    have gj : ys[j]? = some (ys.getD j 0) := by rw [List.getD_eq_getElem?_getD, List.getElem?_eq_getElem (by omega)]; rfl
    by_cases hlt : j < i
    · have := h i _ gi j (ys.getD j 0) (by rw [List.getElem?_take_of_lt hlt]; exact gj)
      rw [List.length_take, Nat.min_eq_left (by omega), hin, hjn] at this
      exact this.1 hr
    · have := h j _ gj i (ys.getD i 0) (by rw [List.getElem?_take_of_lt (by omega)]; exact gi)
      rw [List.length_take, Nat.min_eq_left (by omega), hin, hjn] at this
      exact this.2 hr
/-- All lists of years with their weights. -/
def al (l m : List (Int × Int)) (Z : List Pt) : List (List Int × Int) := (prods Z).map fun t => (t, wt l m Z t)
/-- The datings with a positive weight. -/
def dts (l m : List (Int × Int)) (Z : List Pt) : List (List Int × Int) := ext l m Z [] 1
theorem dts_is {l m : List (Int × Int)} {Z : List Pt} (h : Vd l m Z) : dts l m Z = (al l m Z).filter fun x => decide (0 < x.2) := by
  have hg : GoodE.Good l m := GoodE.good_is h.good
  unfold dts al
  rw [ext_is l m Z [] 1 h.each (fun k y hy => by simp at hy) (by decide)]
  congr 1
  refine List.map_congr_left fun t ht => ?_
  have hl : t.length = l.length := by rw [prods_len ht, h.len]
  unfold wx wt
  rw [List.nil_append, Int.one_mul]
  by_cases hr : resp l m t = true
  · rw [if_pos hr, if_pos ((resp_is hg hl).1 hr)]
  · rw [if_neg hr, if_neg (fun e => hr ((resp_is hg hl).2 e))]
/-- The list of years with a number. -/
def dig : List Pt → Nat → List Int
  | [], _ => []
  | x :: Z, n => (x.1 + ((n / (cnt Z).toNat % x.2.length : Nat) : Int)) :: dig Z n
theorem dig_len : ∀ (Z : List Pt) (n : Nat), (dig Z n).length = Z.length
  | [], _ => rfl
  | x :: Z, n => by simp [dig, dig_len Z n]
theorem cnt_nat (x : Pt) (Z : List Pt) (h : okZ Z = true) : (cnt (x :: Z)).toNat = x.2.length * (cnt Z).toNat := by
  have := (pos_of_okZ h).1
  show ((x.2.length : Int) * cnt Z).toNat = _
  obtain ⟨c, hc⟩ := Int.eq_ofNat_of_zero_le (show 0 ≤ cnt Z by omega)
  rw [hc, ← Int.natCast_mul]
  rfl
theorem dig_mod : ∀ (Z : List Pt), okZ Z = true → ∀ (i j : Nat), dig Z (i * (cnt Z).toNat + j) = dig Z j
  | [], _, i, j => rfl
  | x :: Z, h, i, j => by
    obtain ⟨hx, hz⟩ := okZ_cons.1 h
    have hc := (pos_of_okZ hz).1
    unfold dig
    rw [cnt_nat x Z hz, ← Nat.mul_assoc, dig_mod Z hz]
    congr 3
    rw [Nat.add_comm, Nat.add_mul_div_right _ _ (by omega), Nat.add_mul_mod_self_right]
theorem range_mul (b : Nat) : ∀ a : Nat, List.range (a * b) = (List.range a).flatMap fun i => (List.range b).map fun j => i * b + j
  | 0 => by simp
  | a + 1 => by
    rw [Nat.add_mul, Nat.one_mul, List.range_add, range_mul b a, List.range_succ, List.flatMap_append]
    simp
theorem prods_is : ∀ {Z : List Pt}, okZ Z = true → prods Z = (List.range (cnt Z).toNat).map (dig Z)
  | [], _ => rfl
  | x :: Z, h => by
    obtain ⟨hx, hz⟩ := okZ_cons.1 h
    have hc := (pos_of_okZ hz).1
    unfold prods
    rw [cnt_nat x Z hz, range_mul, map_flat, prods_is hz]
    have e : yrs x.1 (x.1 + x.2.length - 1) = (List.range x.2.length).map fun i => x.1 + ((i : Nat) : Int) := by
      unfold yrs
      rw [show (x.1 + (x.2.length : Int) - 1 + 1 - x.1).toNat = x.2.length by omega]
    rw [e, List.flatMap_map]
    refine flat_congr fun i hi => ?_
    have hi2 := List.mem_range.1 hi
    rw [List.map_map, List.map_map]
    refine List.map_congr_left fun j hj => ?_
    have hj2 := List.mem_range.1 hj
    show (x.1 + (i : Int)) :: dig Z j = (x.1 + (((i * (cnt Z).toNat + j) / (cnt Z).toNat % x.2.length : Nat) : Int)) :: dig Z (i * (cnt Z).toNat + j)
    rw [dig_mod Z hz]
    congr 2
    congr 1
    rw [Nat.add_comm, Nat.add_mul_div_right _ _ (by omega), Nat.div_eq_of_lt hj2, Nat.zero_add, Nat.mod_eq_of_lt hi2]
theorem al_len {l m : List (Int × Int)} {Z : List Pt} (h : okZ Z = true) : (al l m Z).length = (cnt Z).toNat := by
  unfold al
  rw [List.length_map, prods_is h, List.length_map, List.length_range]
theorem al_at {l m : List (Int × Int)} {Z : List Pt} (h : okZ Z = true) {n : Nat} (hn : n < (cnt Z).toNat) : (al l m Z)[n]? = some (dig Z n, wt l m Z (dig Z n)) := by
  unfold al
  rw [List.getElem?_map, prods_is h, List.getElem?_map, List.getElem?_range hn]
  rfl
end Go.Proofs.Ytfbgekhkbbhggaa.ChE
