/- The program's and the model's ContextsOfKind: the numbers of the contexts of a kind. -/
import Derived.Test.YtldalomoojhbkabIdx
import Derived.Test.YtldalomoojhbkabGood2
import Derived.Test.YtldalomoojhbkabGivesI
import Derived.Maps.AppendAt
namespace Go.Proofs.Ytldalomoojhbkab.KindOf
open Go.RowKit Pairs Rec Find2 GoodM RelM Keep Idx Cmp GivesI

def isk (z : Int) (p : Int × Int) : Bool := decide (p.2 = z)
def nums (z : Int) (l : List (Int × Int)) : List Int := (l.filter (isk z)).map (fun p => p.1)
def kindsOf (z : Int) (l m : List (Int × Int)) : Option (List Int) := if good l m = true ∧ (1 ≤ z ∧ z ≤ 4) then some (nums z l) else none
theorem kindsOf_none {z : Int} {l m : List (Int × Int)} (h : ¬ (good l m = true ∧ (1 ≤ z ∧ z ≤ 4))) : kindsOf z l m = none := by unfold kindsOf; rw [if_neg h]
theorem kindsOf_some {z : Int} {l m : List (Int × Int)} (h1 : good l m = true) (h2 : 1 ≤ z ∧ z ≤ 4) : kindsOf z l m = some (nums z l) := by unfold kindsOf; rw [if_pos ⟨h1, h2⟩]
theorem nums_next (z : Int) {l : List (Int × Int)} {k : Nat} {x y : Int} (hx : l[k]? = some (x, y)) : nums z (l.take (k + 1)) = nums z (l.take k) ++ (if y = z then [x] else []) := by
  unfold nums
  rw [List.take_add_one, hx, List.filter_append, List.map_append]
  by_cases h : y = z <;> simp [isk, h]
theorem nums_len (z : Int) (l : List (Int × Int)) : (nums z l).length ≤ l.length := by unfold nums; rw [List.length_map]; exact List.length_filter_le _ _
theorem ints_append (l1 l2 : List Int) : ints (l1 ++ l2) = ints l1 ++ ints l2 := by unfold ints; rw [List.map_append]
def Got1 (B : Nat) (w wr : World) (v : Value) (z : Int) (l : List (Int × Int)) (k : Nat) : Prop :=
  wr.ownsRow B 3 1 v (nums z (l.take k)).length (ints (nums z (l.take k))) ∧ Below B w wr
theorem own_form {T : TypeId} {B n : Nat} {w : World} {v : Value} {xs : List Value} (h : w.ownsRow B T 1 v n xs) : ∃ p d, v = .slice p n d := by
  rcases h.2 with ⟨hv, hn⟩ | ⟨g, cap, cur, hv, _⟩
  · subst hn
    exact ⟨none, 0, hv⟩
  · exact ⟨_, cap, hv⟩
theorem good_few {l m : List (Int × Int)} (h : good l m = true) : l.length ≤ 10 ∧ m.length ≤ 24 := by
  unfold good at h
  simp only [Bool.and_eq_true, decide_eq_true_eq] at h
  exact ⟨h.1.1.1, h.1.1.2⟩
theorem empty_own {T : TypeId} (w : World) : (w.alloc (.cells #[] T)).ownsRow w.heap.size T 1 (.slice (some ⟨w.heap.size, 0, none⟩) 0 0) 0 [] :=
  World.ownsRow_made w #[] 0 (Nat.le_refl _) (by unfold maxLen; omega) (by simp)
theorem new_after (w : World) (x : Value) (o : Obj) (t : TypeId) : ∀ j u, [x][j]? = some u → ((w.alloc o).alloc (.cells #[x] t)).cell? ((⟨w.heap.size + 1, 0, none⟩ : Addr).add j) = some u := by
  have h := cell_one_new (w.alloc o) x t
  have e : (w.alloc o).heap.size = w.heap.size + 1 := by simp
  rw [e] at h
  exact h
theorem infoInt : (Try.prog.info? 3).map (fun i => (i.zero, i.size, i.bytes)) = some (some (.int .i64 0), 1, 8) := by kernel_rfl
set_option maxRecDepth 100000 in
set_option maxHeartbeats 4000000 in
theorem impl_any (z : Int) : GivesI.Gives 25 (.int .i64 z) (kindsOf z) := by
  intro a1 a2 n1 c1 n2 c2 l m w hz1 hz2 h1 h2
  obtain ⟨i0, hi, hy0, hy1, hy2⟩ := info_parts infoInt
  have hb := below_alloc w (.cells #[.slice a1 n1 c1, .slice a2 n2 c2] 32)
  have hf := box_first w (.slice a1 n1 c1) (.slice a2 n2 c2) 32
  have hf2 := box_second w (.slice a1 n1 c1) (.slice a2 n2 c2) 32
  have H1 := Lib.hid (h1.below hb)
  have H2 := Lib.hid (h2.below hb)
  have hsz : w.heap.size < (w.alloc (.cells #[.slice a1 n1 c1, .slice a2 n2 c2] 32)).heap.size := by simp
  clear h1 h2
  go_enter Try.func25, Try.ntmps25
  go_wp2_with fail
  generalize w.alloc (.cells #[.slice a1 n1 c1, .slice a2 n2 c2] 32) = W at *
  refine (Avr.impl_any a1 a2 n1 c1 n2 c2 l m W hz1 hz2 H1.out H2.out).mono ?_
  rintro e w1 ⟨rfl, b1⟩
  have hbb := hb.trans (b1.mono hb.size)
  cases hg : good l m with
  | false =>
    have HE := Lib.hid (kindsOf_none (z := z) (l := l) (m := m) (by rw [hg]; simp))
    clear hg
    go_wp2_with fail
    go_ret2
    rw [HE.out]
    exact ⟨_, _, _, rfl, ownsRow_base (empty_own _) hbb.size, by omega, hbb.trans ((below_alloc _ _).mono hbb.size)⟩
  | true =>
    have HV := Lib.hid hg
    clear hg
    by_cases hk : 1 ≤ z ∧ z ≤ 4
    · have HE := Lib.hid (kindsOf_some HV.out hk)
      have hn1 : n1 ≤ 10 := by rw [← H1.out.1]; exact (good_few HV.out).1
      have r1 := (b1.cell (p := ⟨w.heap.size, 0, none⟩) hsz).trans hf
      have hsz1 := Nat.lt_of_lt_of_le hsz b1.size
      have he0 := below_alloc w1 (.cells #[] 3)
      have s1 := (he0.cell (p := ⟨w.heap.size, 0, none⟩) hsz1).trans r1
      have ho0 := empty_own (T := 3) w1
      have HM3 : Hid (∀ wr, Below w1.heap.size (w1.alloc (.cells #[] 3)) wr → Holds wr a1 n1 l) := fun wr hwr => (H1.out.below b1).below (he0.trans hwr)
      have HB2 := Lib.hid (hbb.trans (he0.mono hbb.size))
      have hG0 : Got1 w1.heap.size (w1.alloc (.cells #[] 3)) (w1.alloc (.cells #[] 3)) (.slice (some ⟨w1.heap.size, 0, none⟩) 0 0) z l 0 := ⟨ho0, Below.refl _ _⟩
      clear hf hf2 b1 hbb ho0 he0
      go_wp2_with fail
      refine (isKind_true z hk.1 hk.2 _).mono ?_
      rintro e w' ⟨rfl, hw'⟩
      have hw'' := hw'.symm
      subst hw''
      clear hk
      go_wp2_with fail
      have hsz2 : w1.heap.size < (w1.alloc (.cells #[] 3)).heap.size := by simp
      generalize w1.alloc (.cells #[] 3) = W2 at *
      go_loopw [6, 22] (fun s6 s22 wr => ∃ k : Nat, k ≤ n1 ∧ s22 = .int .i64 k ∧ Got1 w1.heap.size W2 wr s6 z l k) (fun _ s22 _ => n1 - (intOf s22).toNat)
      case atStart => exact ⟨0, Nat.zero_le _, rfl, hG0⟩
      case round =>
        obtain ⟨k, hk, rfl, hR⟩ := hrel
        clear hG0
        by_cases hlt : k < n1
        · obtain ⟨b, off, x, y, rfl, hx, e1, e2⟩ := (HM3.out wr hR.2).at k hlt
          have HX := Lib.hid (nums_next z hx)
          have hkn : (k : Int) < (n1 : Int) := by omega
          have hb7 := below_alloc wr (.cells #[.int .i64 x, .int .i64 y] 74)
          have u1 := box_first wr (.int .i64 x) (.int .i64 y) 74
          have u2' := box_second wr (.int .i64 x) (.int .i64 y) 74
          have hBs : w1.heap.size ≤ wr.heap.size := Nat.le_trans (Nat.le_of_lt hsz2) hR.2.size
          have HR := Lib.hid hR
          have hfl := nums_len z (l.take k)
          rw [List.length_take] at hfl
          have hown := ownsRow_below hR.1 hb7
          have HN := Lib.hid (new_after wr (.int .i64 x) (.cells #[.int .i64 x, .int .i64 y] 74) 3)
          clear hx hR
          by_cases hyz : y = z
          · subst hyz
            go_wp2_with (at_builtin; refine wpList_append_own _ rfl _ _ 46 rfl w1.heap.size 3 i0 (.int .i64 0) 1 8 Try.underlying46 hi hy0 hy1 hy2 rfl (by decide) _ _ _ rfl (hown.alloc _) ⟨wr.heap.size + 1, 0, none⟩ 1 1 [.int .i64 x] rfl rfl HN.out (by simp [Value.oneCell']) (by unfold maxLen; omega) (by omega) (by simp; omega) ?_; intro v' w9 hown' hgrow hnil)
            have hG : Got1 w1.heap.size W2 w9 v' y l (k + 1) := by
              unfold Got1
              rw [HX.out, if_pos rfl, List.length_append, ints_append]
              refine ⟨hown', ?_⟩
              exact ((HR.out.2.trans (hb7.mono hBs)).alloc (by simp; omega) _).grown hgrow (by simp; omega) (fun j hj => (hown.lt j hj).1)
            have HG := Lib.hid hG
            clear hG hown' hgrow hown hnil
            exact ⟨⟨k + 1, by omega, by go_num, HG.out⟩, by simp [intOf]; omega⟩
          · have hq : (y == z) = false := by simpa using hyz
            have hG : Got1 w1.heap.size W2 (wr.alloc (.cells #[.int .i64 x, .int .i64 y] 74)) u6 z l (k + 1) := by
              unfold Got1
              rw [HX.out, if_neg hyz, List.append_nil]
              exact ⟨hown, HR.out.2.trans (hb7.mono hBs)⟩
            have HG := Lib.hid hG
            clear hG hown
            go_wp2_with fail
            exact ⟨⟨k + 1, by omega, by go_num, HG.out⟩, by simp [intOf]; omega⟩
        · obtain rfl : k = n1 := by omega
          have hkn : ¬ (k : Int) < (k : Int) := by omega
          have hown := hR.1
          rw [List.take_of_length_le (by rw [(HM3.out wr hR.2).1]; omega)] at hown
          have hfl : (nums z l).length ≤ 10 := Nat.le_trans (nums_len _ _) (by rw [(HM3.out wr hR.2).1]; omega)
          have HBD := Lib.hid (HB2.out.trans (hR.2.mono (by have := HB2.out.size; omega)))
          have HO := Lib.hid hown
          obtain ⟨p, d, rfl⟩ := own_form hown
          clear hown hR
          go_wp2_with fail
          go_ret2
          rw [HE.out]
          exact ⟨_, _, _, rfl, ownsRow_base HO.out (by omega), by show (nums z l).length ≤ _; omega, HBD.out⟩
    · have HE := Lib.hid (kindsOf_none (z := z) (l := l) (m := m) (fun h => hk h.2))
      go_wp2_with fail
      refine (isKind_false z hk _).mono ?_
      rintro e w' ⟨rfl, rfl⟩
      go_wp2_with fail
      go_ret2
      rw [HE.out]
      exact ⟨_, _, _, rfl, ownsRow_base (empty_own _) hbb.size, by omega, hbb.trans ((below_alloc _ _).mono hbb.size)⟩
set_option maxRecDepth 100000 in
set_option maxHeartbeats 4000000 in
theorem spec_any (z : Int) : GivesI.Gives 24 (.int .i64 z) (kindsOf z) := by
  intro a1 a2 n1 c1 n2 c2 l m w hz1 hz2 h1 h2
  obtain ⟨i0, hi, hy0, hy1, hy2⟩ := info_parts infoInt
  have hb := below_alloc w (.cells #[.slice a1 n1 c1, .slice a2 n2 c2] 32)
  have hf := box_first w (.slice a1 n1 c1) (.slice a2 n2 c2) 32
  have hf2 := box_second w (.slice a1 n1 c1) (.slice a2 n2 c2) 32
  have H1 := Lib.hid (h1.below hb)
  have H2 := Lib.hid (h2.below hb)
  have hsz : w.heap.size < (w.alloc (.cells #[.slice a1 n1 c1, .slice a2 n2 c2] 32)).heap.size := by simp
  have hWe : (w.alloc (.cells #[.slice a1 n1 c1, .slice a2 n2 c2] 32)).heap.size = w.heap.size + 1 := by simp
  have HWE := Lib.hid hWe
  clear h1 h2 hWe
  go_enter Try.func24, Try.ntmps24
  go_wp2_with fail
  generalize w.alloc (.cells #[.slice a1 n1 c1, .slice a2 n2 c2] 32) = W at *
  have he0 := below_alloc W (.cells #[] 3)
  have ho0 := empty_own (T := 3) W
  rw [HWE.out] at ho0
  have g1 := (he0.cell (p := ⟨w.heap.size, 0, none⟩) hsz).trans hf
  have g2 := (he0.cell (p := ⟨w.heap.size, 1, none⟩) hsz).trans hf2
  have hszE := Nat.lt_of_lt_of_le hsz he0.size
  have hBE : W.heap.size < (W.alloc (.cells #[] 3)).heap.size := by simp
  have HO0 : Hid ((W.alloc (.cells #[] 3)).ownsRow W.heap.size 3 1 (.slice (some ⟨w.heap.size + 1, 0, none⟩) 0 0) 0 []) := by rw [HWE.out]; exact ho0
  have hbe := hb.trans (he0.mono hb.size)
  have HE1 := Lib.hid (H1.out.below he0)
  have HE2 := Lib.hid (H2.out.below he0)
  clear ho0 hf hf2
  generalize W.alloc (.cells #[] 3) = E at *
  refine (Good2.l2Good_any a1 a2 n1 c1 n2 c2 l m E HE1.out HE2.out).mono ?_
  rintro e w1 ⟨rfl, b1⟩
  have hb1 := hbe.trans (b1.mono hbe.size)
  have HO := Lib.hid (ownsRow_below HO0.out b1)
  cases hg : good l m with
  | false =>
    have HE := Lib.hid (kindsOf_none (z := z) (l := l) (m := m) (by rw [hg]; simp))
    clear hg
    go_wp2_with fail
    go_ret2
    rw [HE.out]
    exact ⟨_, _, _, rfl, ownsRow_base HO.out hb.size, by omega, hb1⟩
  | true =>
    have HV := Lib.hid hg
    clear hg
    by_cases hk : 1 ≤ z ∧ z ≤ 4
    · have HE := Lib.hid (kindsOf_some HV.out hk)
      have hn1 : n1 ≤ 10 := by rw [← H1.out.1]; exact (good_few HV.out).1
      have hG0 : Got1 W.heap.size E w1 (.slice (some ⟨w.heap.size + 1, 0, none⟩) 0 0) z l 0 := ⟨HO.out, b1.mono (Nat.le_of_lt hBE)⟩
      have HM3 : Hid (∀ wr, Below W.heap.size E wr → Holds wr a1 n1 l ∧ wr.cell? ⟨w.heap.size, 0, none⟩ = some (.slice a1 n1 c1)) := fun wr hwr => ⟨H1.out.below (he0.trans hwr), (hwr.cell (p := ⟨w.heap.size, 0, none⟩) hsz).trans g1⟩
      clear b1 g1 g2 hb1
      go_wp2_with fail
      refine (Good2.l1In_true z 1 4 hk.1 hk.2 _).mono ?_
      rintro e w' ⟨rfl, hw'⟩
      have hw'' := hw'.symm
      subst hw''
      clear hk
      go_wp2_with fail
      go_loopw [6, 7] (fun s6 s7 wr => ∃ k : Nat, k ≤ n1 ∧ s7 = .int .i64 k ∧ Got1 W.heap.size E wr s6 z l k) (fun _ s7 _ => n1 - (intOf s7).toNat)
      case atStart => exact ⟨0, Nat.zero_le _, rfl, hG0⟩
      case round =>
        obtain ⟨k, hk, rfl, hR⟩ := hrel
        clear hG0
        have q2 := (HM3.out wr hR.2).2
        by_cases hlt : k < n1
        · obtain ⟨b, off, x, y, rfl, hx, e1, e2⟩ := (HM3.out wr hR.2).1.at k hlt
          have HX := Lib.hid (nums_next z hx)
          have hkn : (k : Int) < (n1 : Int) := by omega
          have hBs : W.heap.size ≤ wr.heap.size := Nat.le_trans (Nat.le_of_lt hBE) hR.2.size
          have HR := Lib.hid hR
          have hfl := nums_len z (l.take k)
          rw [List.length_take] at hfl
          have hown := hR.1
          clear hx hR
          by_cases hyz : y = z
          · subst hyz
            go_wp2_with (at_builtin; refine wpList_append_own _ rfl _ _ 46 rfl W.heap.size 3 i0 (.int .i64 0) 1 8 Try.underlying46 hi hy0 hy1 hy2 rfl (by decide) _ _ _ rfl (hown.alloc _) ⟨wr.heap.size, 0, none⟩ 1 1 [.int .i64 x] rfl rfl (cell_one_new _ _ _) (by simp [Value.oneCell']) (by unfold maxLen; omega) (by omega) (by simp; omega) ?_; intro v' w9 hown' hgrow hnil)
            have hG : Got1 W.heap.size E w9 v' y l (k + 1) := by
              unfold Got1
              rw [HX.out, if_pos rfl, List.length_append, ints_append]
              refine ⟨hown', ?_⟩
              exact (HR.out.2.alloc (by omega) _).grown hgrow (by simp; omega) (fun j hj => (hown.lt j hj).1)
            have HG := Lib.hid hG
            clear hG hown' hgrow hown hnil
            exact ⟨⟨k + 1, by omega, by go_num, HG.out⟩, by simp [intOf]; omega⟩
          · have hq : (y == z) = false := by simpa using hyz
            have hG : Got1 W.heap.size E wr u6 z l (k + 1) := by
              unfold Got1
              rw [HX.out, if_neg hyz, List.append_nil]
              exact HR.out
            have HG := Lib.hid hG
            clear hG hown
            go_wp2_with fail
            exact ⟨⟨k + 1, by omega, by go_num, HG.out⟩, by simp [intOf]; omega⟩
        · obtain rfl : k = n1 := by omega
          have hkn : ¬ (k : Int) < (k : Int) := by omega
          have hown := hR.1
          rw [List.take_of_length_le (by rw [(HM3.out wr hR.2).1.1]; omega)] at hown
          have hfl : (nums z l).length ≤ 10 := Nat.le_trans (nums_len _ _) (by rw [(HM3.out wr hR.2).1.1]; omega)
          have HBD := Lib.hid (hbe.trans (hR.2.mono hb.size))
          have HO := Lib.hid hown
          obtain ⟨p, d, rfl⟩ := own_form hown
          clear hown hR
          go_wp2_with fail
          go_ret2
          rw [HE.out]
          exact ⟨_, _, _, rfl, ownsRow_base HO.out hb.size, by show (nums z l).length ≤ _; omega, HBD.out⟩
    · have HE := Lib.hid (kindsOf_none (z := z) (l := l) (m := m) (fun h => hk h.2))
      go_wp2_with fail
      refine (Good2.l1In_false z 1 4 hk _).mono ?_
      rintro e w' ⟨rfl, rfl⟩
      go_wp2_with fail
      go_ret2
      rw [HE.out]
      exact ⟨_, _, _, rfl, ownsRow_base HO.out hb.size, by omega, hb1⟩
end Go.Proofs.Ytldalomoojhbkab.KindOf
