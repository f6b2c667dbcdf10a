/- Combining distributions, the mathematics: weights of zero at both ends do not matter. -/
import Derived.Test.YtfnbjfmegikciaaRdM
import Derived.Test.YtfnbjfmegikciaaAtM
namespace Go.Proofs.Ytfnbjfmegikciaa.CoM
open DvM RdM Yr AtM
theorem core_eq {A B : List Int} {s e s' e' : Nat} (h1 : st A = s) (h2 : en A = e) (h3 : st B = s') (h4 : en B = e') (hl : e - s = e' - s') (h : ∀ j, j < e - s → A[s + j]? = B[s' + j]?) : core A = core B := by
  apply List.ext_getElem?
  intro j
  by_cases hj : j < e - s
  · rw [core_at (by omega), core_at (by omega), h1, h3]
    exact h j hj
  · rw [List.getElem?_eq_none (by rw [core_len]; omega), List.getElem?_eq_none (by rw [core_len]; omega)]
theorem red_eq {A B : List Int} {f g : Int} (hA : st A < A.length) (hB : st B < B.length) (hf : f + st A = g + st B) (hc : core A = core B) : red f A = red g B := by
  unfold red
  rw [if_neg (show ¬ st A = A.length by omega), if_neg (show ¬ st B = B.length by omega), hf, hc]
theorem getD_cons (x : Int) (W : List Int) (j : Nat) : (x :: W).getD (j + 1) 0 = W.getD j 0 := by simp
theorem red_front (f : Int) (W : List Int) : red f (0 :: W) = red (f + 1) W := by
  have e : st (0 :: W) = st W + 1 := by simp [st]
  have hle := (st_is W).le
  rcases Nat.lt_or_ge (st W) W.length with h | h
  · have h3 := st_en h
    have e2 : en (0 :: W) = en W + 1 := by
      refine (en_is (0 :: W)).uniq ⟨by have := (en_is W).le; simp; omega, fun j j1 j2 => ?_, fun _ => ?_⟩
      · obtain ⟨i, rfl⟩ : ∃ i, j = i + 1 := ⟨j - 1, by omega⟩
        rw [getD_cons]
        exact (en_is W).zero i (by omega) (by simpa using j2)
      · obtain ⟨i, hi⟩ : ∃ i, en W = i + 1 := ⟨en W - 1, by omega⟩
        have := (en_is W).here (by omega)
        rw [hi] at this ⊢
        rw [show i + 1 + 1 - 1 = i + 1 from rfl, getD_cons]
        exact this
    refine red_eq (by rw [e]; simp; exact h) h (by rw [e]; omega) (core_eq e e2 rfl rfl (by omega) fun j hj => ?_)
    rw [show st W + 1 + j = (st W + j) + 1 by omega, List.getElem?_cons_succ]
  · rw [red_none (by rw [e]; simp; omega), red_none (by omega)]
theorem getD_app {W : List Int} {j : Nat} (h : j < W.length) : (W ++ [0]).getD j 0 = W.getD j 0 := by
  rw [List.getD_eq_getElem?_getD, List.getD_eq_getElem?_getD, List.getElem?_append_left h]
theorem getD_app0 (W : List Int) : (W ++ [0]).getD W.length 0 = 0 := by simp
theorem red_back (f : Int) (W : List Int) : red f (W ++ [0]) = red f W := by
  have hle := (st_is W).le
  rcases Nat.lt_or_ge (st W) W.length with h | h
  · have h3 := st_en h
    have hel := (en_is W).le
    have e : st (W ++ [0]) = st W := by
      refine (st_is (W ++ [0])).uniq ⟨by simp; omega, fun j hj => ?_, fun _ => ?_⟩
      · rw [getD_app (by omega)]; exact (st_is W).zero j hj
      · rw [getD_app h]; exact (st_is W).here h
    have e2 : en (W ++ [0]) = en W := by
      refine (en_is (W ++ [0])).uniq ⟨by simp; omega, fun j j1 j2 => ?_, fun h0 => ?_⟩
      · rcases Nat.lt_or_ge j W.length with q | q
        · rw [getD_app q]; exact (en_is W).zero j j1 q
        · have : j = W.length := by simp at j2; omega
          subst this
          exact getD_app0 W
      · rw [getD_app (by omega)]; exact (en_is W).here h0
    refine red_eq (by rw [e]; simp; omega) h (by rw [e]) (core_eq e e2 rfl rfl rfl fun j hj => ?_)
    rw [List.getElem?_append_left (by omega)]
  · have e : st (W ++ [0]) = W.length + 1 := by
      refine (st_is (W ++ [0])).uniq ⟨by simp, fun j hj => ?_, fun h0 => by simp at h0⟩
      rcases Nat.lt_or_ge j W.length with q | q
      · rw [getD_app q]; exact (st_is W).zero j (by omega)
      · have : j = W.length := by omega
        subst this
        exact getD_app0 W
    rw [red_none (by rw [e]; simp), red_none (by omega)]
theorem red_fronts (W : List Int) : ∀ (k : Nat) (f : Int), red f (List.replicate k 0 ++ W) = red (f + k) W
  | 0, f => by simp
  | k + 1, f => by
    rw [List.replicate_succ, List.cons_append, red_front, red_fronts W k]
    congr 1
    omega
theorem red_backs (W : List Int) (f : Int) : ∀ m : Nat, red f (W ++ List.replicate m 0) = red f W
  | 0 => by simp
  | m + 1 => by
    rw [List.replicate_succ', ← List.append_assoc, red_back, red_backs W f m]
theorem yrs_get (f t : Int) (k : Nat) : (yrs f t)[k]? = if k < (t + 1 - f).toNat then some (f + (k : Int)) else none := by
  by_cases h : k < (t + 1 - f).toNat
  · rw [if_pos h, yrs_at h]
  · rw [if_neg h, List.getElem?_eq_none (by rw [yrs_len]; omega)]
/-- Years that count for nothing may be left out at both ends. -/
theorem red_cut {g : Int → Int} {x0 t0 x t : Int} (h1 : x0 ≤ x) (h2 : t ≤ t0) (hz : ∀ y, x0 ≤ y → y ≤ t0 → ¬ (x ≤ y ∧ y ≤ t) → g y = 0) : red x0 ((yrs x0 t0).map g) = red x ((yrs x t).map g) := by
  by_cases hxt : x ≤ t
  · have e : (yrs x0 t0).map g = List.replicate (x - x0).toNat 0 ++ ((yrs x t).map g ++ List.replicate (t0 - t).toNat 0) := by
      apply List.ext_getElem?
      intro k
      rw [List.getElem?_map, yrs_get, List.getElem?_append, List.length_replicate, List.getElem?_replicate, List.getElem?_append, List.length_map, yrs_len, List.getElem?_map, yrs_get, List.getElem?_replicate]
      by_cases a1 : k < (x - x0).toNat
      · rw [if_pos (by omega), if_pos a1, if_pos a1]
        show some (g _) = _
        rw [hz _ (by omega) (by omega) (by omega)]
      · rw [if_neg a1]
        by_cases a2 : k - (x - x0).toNat < (t + 1 - x).toNat
        · rw [if_pos (by omega), if_pos a2, if_pos a2]
          show some (g _) = some (g _)
          congr 2
          omega
        · rw [if_neg a2]
          by_cases a3 : k - (x - x0).toNat - (t + 1 - x).toNat < (t0 - t).toNat
          · rw [if_pos (by omega), if_pos a3]
            show some (g _) = _
            rw [hz _ (by omega) (by omega) (by omega)]
          · rw [if_neg (by omega), if_neg a3]
            rfl
    rw [e, red_fronts, red_backs]
    congr 1
    omega
  · have e : yrs x t = [] := List.eq_nil_of_length_eq_zero (by rw [yrs_len]; omega)
    rw [e, red_none (W := List.map g []) rfl, red_none]
    refine (st_is _).uniq ⟨Nat.le_refl _, fun j hj => ?_, fun h => absurd h (Nat.lt_irrefl _)⟩
    rw [List.length_map, yrs_len] at hj
    rw [List.getD_eq_getElem?_getD, List.getElem?_map, yrs_get, if_pos hj]
    show g _ = 0
    exact hz _ (by omega) (by omega) (by omega)
/-- The product of both weights of a year. -/
def pr (fa : Int) (Ma : List Int) (fb : Int) (Mb : List Int) (y : Int) : Int := wat fa Ma y * wat fb Mb y
theorem pr_bd {fa fb : Int} {Ma Mb : List Int} (ha : ∀ x ∈ Ma, 0 ≤ x ∧ x ≤ 1000000) (hb : ∀ x ∈ Mb, 0 ≤ x ∧ x ≤ 1000000) (y : Int) : 0 ≤ pr fa Ma fb Mb y ∧ pr fa Ma fb Mb y ≤ 1000000 * 1000000 := by
  have h1 := wat_bd (f := fa) (m := 1000000) (by omega) ha y
  have h2 := wat_bd (f := fb) (m := 1000000) (by omega) hb y
  exact ⟨Int.mul_nonneg h1.1 h2.1, Int.mul_le_mul h1.2 h2.2 h2.1 (by omega)⟩
/-- Combined distributions. -/
def coP (fa : Int) (Ma : List Int) (fb : Int) (Mb : List Int) : Option (Int × List Int) :=
  if okD fa Ma && okD fb Mb then red fa ((yrs fa (fa + Ma.length - 1)).map (pr fa Ma fb Mb)) else none
theorem coP_no {fa fb : Int} {Ma Mb : List Int} (h : okD fa Ma = true → okD fb Mb = true → False) : coP fa Ma fb Mb = none := by
  unfold coP
  rw [if_neg]
  intro e
  rw [Bool.and_eq_true] at e
  exact h e.1 e.2
theorem coP_yes {fa fb : Int} {Ma Mb : List Int} (h1 : okD fa Ma = true) (h2 : okD fb Mb = true) : coP fa Ma fb Mb = red fa ((yrs fa (fa + Ma.length - 1)).map (pr fa Ma fb Mb)) := by
  unfold coP
  rw [h1, h2]
  rfl
theorem coP_cut {fa fb : Int} {Ma Mb : List Int} (h1 : okD fa Ma = true) (h2 : okD fb Mb = true) : coP fa Ma fb Mb = red (max fa fb) ((yrs (max fa fb) (min (fa + Ma.length - 1) (fb + Mb.length - 1))).map (pr fa Ma fb Mb)) := by
  rw [coP_yes h1 h2]
  refine red_cut (by omega) (by omega) fun y y1 y2 y3 => ?_
  unfold pr
  by_cases h : fb ≤ y ∧ y ≤ fb + Mb.length - 1
  · exact absurd ⟨by omega, by omega⟩ y3
  · rw [wat_out h, Int.mul_zero]
end Go.Proofs.Ytfnbjfmegikciaa.CoM
