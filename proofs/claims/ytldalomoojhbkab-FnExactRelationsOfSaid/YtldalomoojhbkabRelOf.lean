/- The program's and the model's RelationsOf: the relations in which a number occurs. -/
import Derived.Test.YtldalomoojhbkabIdx
import Derived.Test.YtldalomoojhbkabGood2
import Derived.Test.YtldalomoojhbkabGivesS
import Derived.Maps.AppendAt
namespace Go.Proofs.Ytldalomoojhbkab.RelOf
open Go.RowKit Pairs Rec Find2 GoodM RelM Keep Idx

def occ (z : Int) (p : Int × Int) : Bool := decide (p.1 = z ∨ p.2 = z)
theorem occursIn_true (z x y : Int) (h : x = z ∨ y = z) (w : World) : Calls Try.prog 52 #[.int .i64 z, .agg #[.int .i64 x, .int .i64 y]] w fun e w' => e = .returned (.bool true) ∧ Below w.heap.size w w' := by
  have hb := below_alloc w (.cells #[.int .i64 x, .int .i64 y] 36)
  go_enter Try.func52, Try.ntmps52
  by_cases h1 : x = z
  · subst h1
    clear h
    go_wp2
    go_ret
    exact ⟨rfl, hb⟩
  · have h2 : y = z := h.resolve_left h1
    have hq : (x == z) = false := by simpa using h1
    subst h2
    clear h
    go_wp2
    go_ret
    exact ⟨rfl, hb⟩
theorem occursIn_false (z x y : Int) (h1 : ¬ x = z) (h2 : ¬ y = z) (w : World) : Calls Try.prog 52 #[.int .i64 z, .agg #[.int .i64 x, .int .i64 y]] w fun e w' => e = .returned (.bool false) ∧ Below w.heap.size w w' := by
  have hb := below_alloc w (.cells #[.int .i64 x, .int .i64 y] 36)
  have hq : (x == z) = false := by simpa using h1
  have hq2 : (y == z) = false := by simpa using h2
  go_enter Try.func52, Try.ntmps52
  go_wp2
  go_ret
  exact ⟨rfl, hb⟩
theorem cell_two_new (w : World) (x y : Value) (t : TypeId) : ∀ j u, [x, y][j]? = some u → (w.alloc (.cells #[x, y] t)).cell? ((⟨w.heap.size, 0, none⟩ : Addr).add j) = some u := by
  intro j u hj
  match j, hj with
  | 0, hj =>
    simp at hj
    subst hj
    exact box_first w x y t
  | 1, hj =>
    simp at hj
    subst hj
    exact box_second w x y t
theorem flat_append (l1 l2 : List (Int × Int)) : flat (l1 ++ l2) = flat l1 ++ flat l2 := by unfold flat; rw [List.flatMap_append]
theorem flat_one (x y : Int) : flat [(x, y)] = [.int .i64 x, .int .i64 y] := rfl
/-- How a filtered row grows. -/
theorem filt_next (q : Int × Int → Bool) {m : List (Int × Int)} {k : Nat} {x y : Int} (hx : m[k]? = some (x, y)) : (m.take (k + 1)).filter q = (m.take k).filter q ++ (if q (x, y) then [(x, y)] else []) := by
  rw [List.take_add_one, hx, List.filter_append]
  cases h : q (x, y) <;> simp [h]
theorem filt_len (q : Int × Int → Bool) (m : List (Int × Int)) (k : Nat) : ((m.take k).filter q).length ≤ k :=
  Nat.le_trans (List.length_filter_le _ _) (by rw [List.length_take]; omega)
/-- A row under way: a value that owns what the filter has kept of the first k. -/
def Got1 (T : TypeId) (B : Nat) (w wr : World) (v : Value) (q : Int × Int → Bool) (m : List (Int × Int)) (k : Nat) : Prop :=
  wr.ownsRow B T 2 v ((m.take k).filter q).length (flat ((m.take k).filter q)) ∧ Below B w wr
theorem own_form {T : TypeId} {B n : Nat} {w : World} {v : Value} {xs : List Value} (h : w.ownsRow B T 2 v n xs) : ∃ p d, v = .slice p n d := by
  rcases h.2 with ⟨hv, hn⟩ | ⟨g, cap, cur, hv, _⟩
  · subst hn
    exact ⟨none, 0, hv⟩
  · exact ⟨_, cap, hv⟩
def relsOf (z : Int) (l m : List (Int × Int)) : Option (List (Int × Int)) := if good l m = true ∧ (isAt l z).isSome = true then some (m.filter (occ z)) else none
theorem good_few {l m : List (Int × Int)} (h : good l m = true) : l.length ≤ 10 ∧ m.length ≤ 24 := by
  unfold good at h
  simp only [Bool.and_eq_true, decide_eq_true_eq] at h
  exact ⟨h.1.1.1, h.1.1.2⟩
theorem relsOf_none {z : Int} {l m : List (Int × Int)} (h : ¬ (good l m = true ∧ (isAt l z).isSome = true)) : relsOf z l m = none := by unfold relsOf; rw [if_neg h]
theorem relsOf_some {z : Int} {l m : List (Int × Int)} (h1 : good l m = true) (h2 : (isAt l z).isSome = true) : relsOf z l m = some (m.filter (occ z)) := by unfold relsOf; rw [if_pos ⟨h1, h2⟩]
theorem empty_own {T : TypeId} (w : World) : (w.alloc (.cells #[] T)).ownsRow w.heap.size T 2 (.slice (some ⟨w.heap.size, 0, none⟩) 0 0) 0 [] :=
  World.ownsRow_made w #[] 0 (Nat.le_refl _) (by unfold maxLen; omega) (by simp)
set_option maxRecDepth 100000 in
set_option maxHeartbeats 4000000 in
theorem impl_any (z : Int) : GivesS.Gives 20 (.int .i64 z) (relsOf z) := by
  intro a1 a2 n1 c1 n2 c2 l m w hz1 hz2 h1 h2
  obtain ⟨i0, hi, hy0, hy1, hy2⟩ := info_parts infoRelation
  have hb := below_alloc w (.cells #[.slice a1 n1 c1, .slice a2 n2 c2] 32)
  have hf := box_first w (.slice a1 n1 c1) (.slice a2 n2 c2) 32
  have hf2 := box_second w (.slice a1 n1 c1) (.slice a2 n2 c2) 32
  have H1 := Lib.hid (h1.below hb)
  have H2 := Lib.hid (h2.below hb)
  have hsz : w.heap.size < (w.alloc (.cells #[.slice a1 n1 c1, .slice a2 n2 c2] 32)).heap.size := by simp
  clear h1 h2
  go_enter Try.func20, Try.ntmps20
  go_wp2_with fail
  generalize w.alloc (.cells #[.slice a1 n1 c1, .slice a2 n2 c2] 32) = W at *
  refine (impl_Index a1 a2 n1 c1 n2 c2 l m z W hz1 hz2 H1.out H2.out).mono ?_
  rintro e w1 ⟨rfl, b1⟩
  have hbb := hb.trans (b1.mono hb.size)
  by_cases hg : good l m = true ∧ (isAt l z).isSome = true
  · have hi1 : idx l m z = (find l z, true) := by unfold idx; rw [if_pos hg]
    rw [hi1]
    clear hi1
    have HE := Lib.hid (relsOf_some hg.1 hg.2)
    have hn2 : n2 ≤ 24 := by rw [← H2.out.1]; exact (good_few hg.1).2
    clear hg
    have r2 := (b1.cell (p := ⟨w.heap.size, 1, none⟩) hsz).trans hf2
    have hsz1 := Nat.lt_of_lt_of_le hsz b1.size
    have he0 := below_alloc w1 (.cells #[] 36)
    have s2 := (he0.cell (p := ⟨w.heap.size, 1, none⟩) hsz1).trans r2
    have ho0 := empty_own (T := 36) w1
    have HM3 : Hid (∀ wr, Below w1.heap.size (w1.alloc (.cells #[] 36)) wr → Holds wr a2 n2 m) := fun wr hwr => (H2.out.below b1).below (he0.trans hwr)
    have HB2 := Lib.hid (hbb.trans (he0.mono hbb.size))
    have hG0 : Got1 36 w1.heap.size (w1.alloc (.cells #[] 36)) (w1.alloc (.cells #[] 36)) (.slice (some ⟨w1.heap.size, 0, none⟩) 0 0) (occ z) m 0 := ⟨ho0, Below.refl _ _⟩
    clear hf hf2 b1 hbb r2 ho0 he0
    go_wp2_with fail
    have hsz2 : w1.heap.size < (w1.alloc (.cells #[] 36)).heap.size := by simp
    generalize w1.alloc (.cells #[] 36) = W2 at *
    go_loopw [8, 24] (fun s8 s24 wr => ∃ k : Nat, k ≤ n2 ∧ s24 = .int .i64 k ∧ Got1 36 w1.heap.size W2 wr s8 (occ z) m k) (fun _ s24 _ => n2 - (intOf s24).toNat)
    case atStart => exact ⟨0, Nat.zero_le _, rfl, hG0⟩
    case round =>
      obtain ⟨k, hk, rfl, hR⟩ := hrel
      clear hG0
      by_cases hlt : k < n2
      · obtain ⟨b, off, x, y, rfl, hx, e1, e2⟩ := (HM3.out wr hR.2).at k hlt
        have HX := Lib.hid (filt_next (occ z) hx)
        have hkn : (k : Int) < (n2 : Int) := by omega
        have hb7 := below_alloc wr (.cells #[.int .i64 x, .int .i64 y] 36)
        have u1 := box_first wr (.int .i64 x) (.int .i64 y) 36
        have u2' := box_second wr (.int .i64 x) (.int .i64 y) 36
        have hsz7 : wr.heap.size < (wr.alloc (.cells #[.int .i64 x, .int .i64 y] 36)).heap.size := by simp
        have hBs : w1.heap.size ≤ wr.heap.size := Nat.le_trans (Nat.le_of_lt hsz2) hR.2.size
        have HR := Lib.hid hR
        clear hx hR
        go_wp2_with fail
        generalize wr.alloc (.cells #[.int .i64 x, .int .i64 y] 36) = W7 at *
        clear e1 e2
        by_cases ho : x = z ∨ y = z
        · refine (occursIn_true z x y ho W7).mono ?_
          rintro e w8 ⟨rfl, b8⟩
          have b78 := hb7.trans (b8.mono hb7.size)
          have v1 := (b8.cell (p := ⟨wr.heap.size, 0, none⟩) hsz7).trans u1
          have v2 := (b8.cell (p := ⟨wr.heap.size, 1, none⟩) hsz7).trans u2'
          have hown := ownsRow_below HR.out.1 b78
          have hfl := filt_len (occ z) m k
          have ho1 : occ z (x, y) = true := decide_eq_true ho
          have HO := Lib.hid ho1
          have HBD := Lib.hid (HR.out.2.trans (b78.mono hBs))
          have hs8 := b78.size
          clear ho ho1 u1 u2' b8 hb7 b78
          go_wp2_with (at_builtin; refine wpList_append_own _ rfl _ _ 30 rfl w1.heap.size 36 i0 (.agg #[.int .i64 0, .int .i64 0]) 2 16 Try.underlying30 hi hy0 hy1 hy2 rfl (by decide) _ _ _ rfl (hown.alloc _) ⟨w8.heap.size, 0, none⟩ 1 1 [.int .i64 x, .int .i64 y] rfl rfl (cell_two_new _ _ _ _) (by simp [Value.oneCell']) (by unfold maxLen; omega) (by omega) (by simp; omega) ?_; intro v' w9 hown' hgrow hnil)
          have hG : Got1 36 w1.heap.size W2 w9 v' (occ z) m (k + 1) := by
            unfold Got1
            rw [HX.out, HO.out, if_pos rfl, List.length_append, flat_append, flat_one]
            refine ⟨hown', ?_⟩
            exact (HBD.out.alloc (by omega) _).grown hgrow (by simp; omega) (fun j hj => (hown.lt j hj).1)
          have HG := Lib.hid hG
          clear hG hown' hgrow hown hnil
          exact ⟨⟨k + 1, by omega, by go_num, HG.out⟩, by simp [intOf]; omega⟩
        · have hx1 : ¬ x = z := fun h => ho (.inl h)
          have hx2 : ¬ y = z := fun h => ho (.inr h)
          refine (occursIn_false z x y hx1 hx2 W7).mono ?_
          rintro e w8 ⟨rfl, b8⟩
          have b78 := hb7.trans (b8.mono hb7.size)
          have hG : Got1 36 w1.heap.size W2 w8 u8 (occ z) m (k + 1) := by
            unfold Got1
            rw [HX.out, if_neg (by unfold occ; simp [hx1, hx2]), List.append_nil]
            exact ⟨ownsRow_below HR.out.1 b78, HR.out.2.trans (b78.mono hBs)⟩
          have HG := Lib.hid hG
          clear hG ho hx1 hx2
          go_wp2_with fail
          exact ⟨⟨k + 1, by omega, by go_num, HG.out⟩, by simp [intOf]; omega⟩
      · obtain rfl : k = n2 := by omega
        have hkn : ¬ (k : Int) < (k : Int) := by omega
        have hown := hR.1
        rw [List.take_of_length_le (by rw [(HM3.out wr hR.2).1]; omega)] at hown
        have hfl : (m.filter (occ z)).length ≤ 24 := Nat.le_trans (List.length_filter_le _ _) (by rw [(HM3.out wr hR.2).1]; omega)
        have HBD := Lib.hid (HB2.out.trans (hR.2.mono (by have := HB2.out.size; omega)))
        have HO := Lib.hid hown
        obtain ⟨p, d, rfl⟩ := own_form hown
        clear hown hR
        go_wp2_with fail
        go_ret2
        rw [HE.out]
        exact ⟨_, _, _, rfl, ownsRow_base HO.out (by omega), by show (m.filter (occ z)).length ≤ _; omega, HBD.out⟩
  · have hi1 : idx l m z = (0, false) := by unfold idx; rw [if_neg hg]
    rw [hi1]
    clear hi1
    have HE := Lib.hid (relsOf_none hg)
    clear hg
    go_wp2_with fail
    go_ret2
    rw [HE.out]
    exact ⟨_, _, _, rfl, ownsRow_base (empty_own _) hbb.size, by omega, hbb.trans ((below_alloc _ _).mono hbb.size)⟩
set_option maxRecDepth 100000 in
set_option maxHeartbeats 4000000 in
theorem spec_any (z : Int) : GivesS.Gives 19 (.int .i64 z) (relsOf z) := by
  intro a1 a2 n1 c1 n2 c2 l m w hz1 hz2 h1 h2
  obtain ⟨i0, hi, hy0, hy1, hy2⟩ := info_parts infoRelation
  have hb := below_alloc w (.cells #[.slice a1 n1 c1, .slice a2 n2 c2] 32)
  have hf := box_first w (.slice a1 n1 c1) (.slice a2 n2 c2) 32
  have hf2 := box_second w (.slice a1 n1 c1) (.slice a2 n2 c2) 32
  have H1 := Lib.hid (h1.below hb)
  have H2 := Lib.hid (h2.below hb)
  have hsz : w.heap.size < (w.alloc (.cells #[.slice a1 n1 c1, .slice a2 n2 c2] 32)).heap.size := by simp
  have hWe : (w.alloc (.cells #[.slice a1 n1 c1, .slice a2 n2 c2] 32)).heap.size = w.heap.size + 1 := by simp
  have HWE := Lib.hid hWe
  clear h1 h2 hWe
  go_enter Try.func19, Try.ntmps19
  go_wp2_with fail
  generalize w.alloc (.cells #[.slice a1 n1 c1, .slice a2 n2 c2] 32) = W at *
  have he0 := below_alloc W (.cells #[] 36)
  have ho0 := empty_own (T := 36) W
  rw [HWE.out] at ho0
  have g1 := (he0.cell (p := ⟨w.heap.size, 0, none⟩) hsz).trans hf
  have g2 := (he0.cell (p := ⟨w.heap.size, 1, none⟩) hsz).trans hf2
  have hszE := Nat.lt_of_lt_of_le hsz he0.size
  have hBE : W.heap.size < (W.alloc (.cells #[] 36)).heap.size := by simp
  have HO0 : Hid ((W.alloc (.cells #[] 36)).ownsRow W.heap.size 36 2 (.slice (some ⟨w.heap.size + 1, 0, none⟩) 0 0) 0 []) := by rw [HWE.out]; exact ho0
  have hbe := hb.trans (he0.mono hb.size)
  have HE1 := Lib.hid (H1.out.below he0)
  have HE2 := Lib.hid (H2.out.below he0)
  clear ho0 hf hf2
  generalize W.alloc (.cells #[] 36) = E at *
  refine (Good2.l2Good_any a1 a2 n1 c1 n2 c2 l m E HE1.out HE2.out).mono ?_
  rintro e w1 ⟨rfl, b1⟩
  have r1 := (b1.cell (p := ⟨w.heap.size, 0, none⟩) hszE).trans g1
  have r2 := (b1.cell (p := ⟨w.heap.size, 1, none⟩) hszE).trans g2
  have hb1 := hbe.trans (b1.mono hbe.size)
  cases hg : good l m with
  | false =>
    have HE := Lib.hid (relsOf_none (z := z) (l := l) (m := m) (by rw [hg]; simp))
    clear hg
    have HO := Lib.hid (ownsRow_below HO0.out b1)
    clear r1 r2
    go_wp2_with fail
    go_ret2
    rw [HE.out]
    exact ⟨_, _, _, rfl, ownsRow_base HO.out hb.size, by omega, hb1⟩
  | true =>
    have HV := Lib.hid hg
    clear hg
    go_wp2_with fail
    refine (l2Find_any a1 a2 n1 c1 n2 c2 l z w1 (by omega) (HE1.out.below b1)).mono ?_
    rintro e w2 ⟨rfl, b2⟩
    have b12 := b1.trans (b2.mono b1.size)
    have hb2 := hbe.trans (b12.mono hbe.size)
    have HO := Lib.hid (ownsRow_below HO0.out b12)
    cases ha : isAt l z with
    | none =>
      have HE := Lib.hid (relsOf_none (z := z) (l := l) (m := m) (by rw [ha]; simp))
      rw [find_none ha]
      clear ha r1 r2
      go_wp2_with fail
      go_ret2
      rw [HE.out]
      exact ⟨_, _, _, rfl, ownsRow_base HO.out hb.size, by omega, hb2⟩
    | some kk =>
      have HE := Lib.hid (relsOf_some (z := z) HV.out (by rw [ha]; rfl))
      have hk0 : ¬ find l z < 0 := by rw [find_some ha]; omega
      have hn2 : n2 ≤ 24 := by rw [← H2.out.1]; exact (good_few HV.out).2
      have hG0 : Got1 36 W.heap.size E w2 (.slice (some ⟨w.heap.size + 1, 0, none⟩) 0 0) (occ z) m 0 := ⟨HO.out, b12.mono (Nat.le_of_lt hBE)⟩
      have HM3 : Hid (∀ wr, Below W.heap.size E wr → Holds wr a2 n2 m ∧ wr.cell? ⟨w.heap.size, 1, none⟩ = some (.slice a2 n2 c2)) := fun wr hwr => ⟨H2.out.below (he0.trans hwr), (hwr.cell (p := ⟨w.heap.size, 1, none⟩) hsz).trans g2⟩
      clear ha r1 r2 b1 b2 b12 g1 g2 hb1 hb2
      go_wp2_with fail
      go_loopw [6, 7] (fun s6 s7 wr => ∃ k : Nat, k ≤ n2 ∧ s7 = .int .i64 k ∧ Got1 36 W.heap.size E wr s6 (occ z) m k) (fun _ s7 _ => n2 - (intOf s7).toNat)
      case atStart => exact ⟨0, Nat.zero_le _, rfl, hG0⟩
      case round =>
        obtain ⟨k, hk, rfl, hR⟩ := hrel
        clear hG0
        have q2 := (HM3.out wr hR.2).2
        by_cases hlt : k < n2
        · obtain ⟨b, off, x, y, rfl, hx, e1, e2⟩ := (HM3.out wr hR.2).1.at k hlt
          have HX := Lib.hid (filt_next (occ z) hx)
          have hkn : (k : Int) < (n2 : Int) := by omega
          have hBs : W.heap.size ≤ wr.heap.size := Nat.le_trans (Nat.le_of_lt hBE) hR.2.size
          have HR := Lib.hid hR
          clear hx hR
          by_cases hx1 : x = z
          · subst hx1
            have hown := HR.out.1
            have hfl := filt_len (occ x) m k
            have HO : Hid (occ x (x, y) = true) := decide_eq_true (.inl rfl)
            go_wp2_with (at_builtin; refine wpList_append_own _ rfl _ _ 30 rfl W.heap.size 36 i0 (.agg #[.int .i64 0, .int .i64 0]) 2 16 Try.underlying30 hi hy0 hy1 hy2 rfl (by decide) _ _ _ rfl (hown.alloc _) ⟨wr.heap.size, 0, none⟩ 1 1 [.int .i64 x, .int .i64 y] rfl rfl (cell_two_new _ _ _ _) (by simp [Value.oneCell']) (by unfold maxLen; omega) (by omega) (by simp; omega) ?_; intro v' w9 hown' hgrow hnil)
            have hG : Got1 36 W.heap.size E w9 v' (occ x) m (k + 1) := by
              unfold Got1
              rw [HX.out, HO.out, if_pos rfl, List.length_append, flat_append, flat_one]
              refine ⟨hown', ?_⟩
              exact (HR.out.2.alloc (by omega) _).grown hgrow (by simp; omega) (fun j hj => (hown.lt j hj).1)
            have HG := Lib.hid hG
            clear hG hown' hgrow hown hnil
            exact ⟨⟨k + 1, by omega, by go_num, HG.out⟩, by simp [intOf]; omega⟩
          · have hq1 : (x == z) = false := by simpa using hx1
            by_cases hx2 : y = z
            · subst hx2
              have hown := HR.out.1
              have hfl := filt_len (occ y) m k
              have HO : Hid (occ y (x, y) = true) := decide_eq_true (.inr rfl)
              go_wp2_with (at_builtin; refine wpList_append_own _ rfl _ _ 30 rfl W.heap.size 36 i0 (.agg #[.int .i64 0, .int .i64 0]) 2 16 Try.underlying30 hi hy0 hy1 hy2 rfl (by decide) _ _ _ rfl (hown.alloc _) ⟨wr.heap.size, 0, none⟩ 1 1 [.int .i64 x, .int .i64 y] rfl rfl (cell_two_new _ _ _ _) (by simp [Value.oneCell']) (by unfold maxLen; omega) (by omega) (by simp; omega) ?_; intro v' w9 hown' hgrow hnil)
              have hG : Got1 36 W.heap.size E w9 v' (occ y) m (k + 1) := by
                unfold Got1
                rw [HX.out, HO.out, if_pos rfl, List.length_append, flat_append, flat_one]
                refine ⟨hown', ?_⟩
                exact (HR.out.2.alloc (by omega) _).grown hgrow (by simp; omega) (fun j hj => (hown.lt j hj).1)
              have HG := Lib.hid hG
              clear hG hown' hgrow hown hnil
              exact ⟨⟨k + 1, by omega, by go_num, HG.out⟩, by simp [intOf]; omega⟩
            · have hq2 : (y == z) = false := by simpa using hx2
              have hG : Got1 36 W.heap.size E wr u6 (occ z) m (k + 1) := by
                unfold Got1
                rw [HX.out, if_neg (by unfold occ; simp [hx1, hx2]), List.append_nil]
                exact HR.out
              have HG := Lib.hid hG
              clear hG
              go_wp2_with fail
              exact ⟨⟨k + 1, by omega, by go_num, HG.out⟩, by simp [intOf]; omega⟩
        · obtain rfl : k = n2 := by omega
          have hkn : ¬ (k : Int) < (k : Int) := by omega
          have hown := hR.1
          rw [List.take_of_length_le (by rw [(HM3.out wr hR.2).1.1]; omega)] at hown
          have hfl : (m.filter (occ z)).length ≤ 24 := Nat.le_trans (List.length_filter_le _ _) (by rw [(HM3.out wr hR.2).1.1]; omega)
          have HBD := Lib.hid (hbe.trans (hR.2.mono hb.size))
          have HO := Lib.hid hown
          obtain ⟨p, d, rfl⟩ := own_form hown
          clear hown hR
          go_wp2_with fail
          go_ret2
          rw [HE.out]
          exact ⟨_, _, _, rfl, ownsRow_base HO.out hb.size, by show (m.filter (occ z)).length ≤ _; omega, HBD.out⟩
end Go.Proofs.Ytldalomoojhbkab.RelOf
