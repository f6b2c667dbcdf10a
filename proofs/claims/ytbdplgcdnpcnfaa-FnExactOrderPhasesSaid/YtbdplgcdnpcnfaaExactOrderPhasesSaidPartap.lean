/- Members: slices.Contains over ints, the model's l1Has and l1Rising, the program's areMembers, l7Phase and placeOfPhase. -/
import Derived.Test.YtbdplgcdnpcnfaaExactOrderPhasesSaidPartaf
import Derived.Test.YtbdplgcdnpcnfaaExactOrderPhasesSaidPartai
import Derived.Test.YtbdplgcdnpcnfaaExactOrderPhasesSaidPartaj
import Derived.Test.YtbdplgcdnpcnfaaExactOrderPhasesSaidPartan
import Derived.Test.YtbdplgcdnpcnfaaExactOrderPhasesSaidPartao
import Derived.BigQuiet
namespace Go.Proofs.Ytbdplgcdnpcnfaa.GpB
open Go.RowKit Pairs Rec Keep GivesI Chain Find2 GoodM Ph GpM
theorem has_hit {M : List Int} {k : Nat} {z : Int} (hx : M[k]? = some z) : inM M z = true := inM_iff.2 (List.mem_of_getElem? hx)
theorem has_no {M : List Int} {z : Int} (hp : ∀ j x, j < M.length → M[j]? = some x → x ≠ z) : inM M z = false := by
  cases h : inM M z with
  | false => rfl
  | true =>
    obtain ⟨j, hj, e⟩ := List.getElem_of_mem (inM_iff.1 h)
    exact absurd e (hp j _ hj (List.getElem?_eq_getElem hj))
set_option maxHeartbeats 1000000 in
theorem l1Has_any (a : Option Addr) (n c : Nat) (M : List Int) (z : Int) (hn : n ≤ 1048576) (w : World) (h : HoldsI w a n M) :
    Calls Try.prog 57 #[.slice a n c, .int .i64 z] w fun e w' => e = .returned (.bool (inM M z)) ∧ w' = w := by
  have HH := Lib.hid h
  have HL := Lib.hid h.1
  clear h
  go_enter Try.func57, Try.ntmps57
  go_wp2_with fail
  go_loop [5] (fun s5 => ∃ k : Nat, k ≤ n ∧ s5 = .int .i64 k ∧ Hid (∀ j x, j < k → M[j]? = some x → x ≠ z)) (fun s5 => n - (intOf s5).toNat)
  case atStart => exact ⟨0, Nat.zero_le _, rfl, fun j x h => by omega⟩
  case round =>
    obtain ⟨k, hk, rfl, HP⟩ := hrel
    by_cases hlt : k < n
    · obtain ⟨b, off, x, rfl, hx, e1⟩ := HH.out.at k hlt
      have hki : (k : Int) < (n : Int) := by omega
      have hk0 : (0 : Int) ≤ (k : Int) := by omega
      by_cases hxz : x = z
      · subst hxz
        have HR := Lib.hid (has_hit hx)
        clear hx
        go_wp2_with fail
        go_ret
        exact ⟨by rw [HR.out]; rfl, rfl⟩
      · have HP2 : Hid (∀ j x, j < k + 1 → M[j]? = some x → x ≠ z) := fun j y hj hy => by
          by_cases e : j = k
          · subst e
            rw [hx] at hy
            injection hy with hy
            rw [← hy]
            exact hxz
          · exact HP.out j y (by omega) hy
        have hxb : (x == z) = false := by rw [beq_eq_false_iff_ne]; exact hxz
        clear hx
        go_wp2_with fail
        go_round
        case rel => exact ⟨k + 1, by omega, by go_num, HP2⟩
        case measure => simp [intOf]; omega
    · obtain rfl : k = n := by omega
      have hki : ¬ (k : Int) < (k : Int) := by omega
      have HR := Lib.hid (has_no (M := M) (z := z) (by rw [HL.out]; exact HP.out))
      go_wp2_with fail
      go_ret
      exact ⟨by rw [HR.out]; rfl, rfl⟩
set_option maxHeartbeats 1000000 in
theorem index_any (a : Option Addr) (n c : Nat) (M : List Int) (z : Int) (hn : n ≤ 1048576) (w : World) (h : HoldsI w a n M) :
    Calls Try.prog 102 #[.slice a n c, .int .i64 z] w fun e w' => ∃ i : Int, e = .returned (.int .i64 i) ∧ Hid ((inM M z = true ↔ 0 ≤ i)) ∧ w' = w := by
  have HH := Lib.hid h
  have HL := Lib.hid h.1
  clear h
  go_enter Try.func102, Try.ntmps102
  go_wp2_with fail
  go_loop [8] (fun s5 => ∃ k : Nat, k ≤ n ∧ s5 = .int .i64 k ∧ Hid (∀ j x, j < k → M[j]? = some x → x ≠ z)) (fun s5 => n - (intOf s5).toNat)
  case atStart => exact ⟨0, Nat.zero_le _, rfl, fun j x h => by omega⟩
  case round =>
    obtain ⟨k, hk, rfl, HP⟩ := hrel
    by_cases hlt : k < n
    · obtain ⟨b, off, x, rfl, hx, e1⟩ := HH.out.at k hlt
      have hki : (k : Int) < (n : Int) := by omega
      have hk0 : (0 : Int) ≤ (k : Int) := by omega
      by_cases hxz : x = z
      · subst hxz
        have HR := Lib.hid (has_hit hx)
        clear hx
        go_wp2_with fail
        go_ret
        exact ⟨_, rfl, ⟨fun _ => hk0, fun _ => HR.out⟩, rfl⟩
      · have HP2 : Hid (∀ j x, j < k + 1 → M[j]? = some x → x ≠ z) := fun j y hj hy => by
          by_cases e : j = k
          · subst e
            rw [hx] at hy
            injection hy with hy
            rw [← hy]
            exact hxz
          · exact HP.out j y (by omega) hy
        have hxb : (z == x) = false := by rw [beq_eq_false_iff_ne]; exact fun e => hxz e.symm
        have hzx : ¬ z = x := fun e => hxz e.symm
        clear hx
        go_wp2_with fail
        go_round
        case rel => exact ⟨k + 1, by omega, by go_num, HP2⟩
        case measure => simp [intOf]; omega
    · obtain rfl : k = n := by omega
      have hki : ¬ (k : Int) < (k : Int) := by omega
      have HR := Lib.hid (has_no (M := M) (z := z) (by rw [HL.out]; exact HP.out))
      go_wp2_with fail
      go_ret
      exact ⟨_, rfl, ⟨fun h => (by rw [HR.out] at h; cases h), fun h => absurd h (by decide)⟩, rfl⟩
theorem contains_any (a : Option Addr) (n c : Nat) (M : List Int) (z : Int) (hn : n ≤ 1048576) (w : World) (h : HoldsI w a n M) :
    Calls Try.prog 81 #[.slice a n c, .int .i64 z] w fun e w' => e = .returned (.bool (inM M z)) ∧ w' = w := by
  have HH := Lib.hid h
  clear h
  generalize hb : inM M z = b
  have HB := Lib.hid hb
  clear hb
  go_enter Try.func81, Try.ntmps81
  go_wp2_with fail
  refine (index_any a n c M z hn w HH.out).mono ?_
  rintro e w' ⟨i, rfl, hi, rfl⟩
  cases b with
  | true =>
    have h0 : (0 : Int) ≤ i := hi.out.1 HB.out
    have h1 : i ≥ 0 := h0
    go_wp2_with fail
    go_ret
    exact ⟨rfl, rfl⟩
  | false =>
    have h0 : ¬ (0 : Int) ≤ i := fun h => by have := hi.out.2 h; rw [HB.out] at this; cases this
    have H0 : Hid (decide (0 ≤ i) = false) := decide_eq_false h0
    go_wp2_with fail
    go_ret
    exact ⟨by show Ending.returned (.bool (decide (0 ≤ i))) = _; rw [H0.out], rfl⟩
set_option maxHeartbeats 1000000 in
theorem l7Phase_any (a : Option Addr) (n c : Nat) (L : List Pt) (z : Int) (hn : n ≤ 1048576) (hS : Sm L 1048576) (w : World) (h : HoldsP w a n L) :
    Calls Try.prog 42 #[.slice a n c, .int .i64 z] w fun e w' => e = .returned (.int .i64 (phs L z)) ∧ w' = w := by
  have HH := Lib.hid h
  have HL := Lib.hid h.1
  have HS := Lib.hid hS
  clear h hS
  go_enter Try.func42, Try.ntmps42
  go_wp2_with fail
  go_loop [5] (fun s5 => ∃ k : Nat, k ≤ n ∧ s5 = .int .i64 k ∧ Hid (∀ j y, j < k → L[j]? = some y → inM y.2 z = false)) (fun s5 => n - (intOf s5).toNat)
  case atStart => exact ⟨0, Nat.zero_le _, rfl, fun j x h => by omega⟩
  case round =>
    obtain ⟨k, hk, rfl, HP⟩ := hrel
    by_cases hlt : k < n
    · obtain ⟨b, off, s, M, p, j, d, rfl, hx, e1, e2, hM⟩ := HH.out.at k hlt
      have hj : j ≤ 1048576 := by
        have h1 := (HS.out _ (List.mem_of_getElem? hx)).2
        have h2 := hM.1
        simp only at h1
        omega
      have HM := Lib.hid hM
      have HX := Lib.hid hx
      have hki : (k : Int) < (n : Int) := by omega
      have hk0 : (0 : Int) ≤ (k : Int) := by omega
      clear hx hM
      cases hc : inM M z with
      | true =>
        have HC := Lib.hid hc
        have HR := Lib.hid (phs_some (at_here HP.out HX.out hc))
        clear hc
        go_wp2_with (go_at_call 57; refine (l1Has_any p j d M z hj _ HM.out).mono ?_; rw [HC.out]; rintro e w' ⟨rfl, rfl⟩)
        go_ret
        exact ⟨by rw [HR.out]; rfl, rfl⟩
      | false =>
        have HC := Lib.hid hc
        have HP2 : Hid (∀ j y, j < k + 1 → L[j]? = some y → inM y.2 z = false) := fun j y hj hy => by
          by_cases e : j = k
          · subst e
            have h2 := HX.out
            rw [hy] at h2
            injection h2 with h2
            rw [h2]
            exact HC.out
          · exact HP.out j y (by omega) hy
        clear hc
        go_wp2_with (go_at_call 57; refine (l1Has_any p j d M z hj _ HM.out).mono ?_; rw [HC.out]; rintro e w' ⟨rfl, rfl⟩)
        go_round
        case rel => exact ⟨k + 1, by omega, by go_num, HP2⟩
        case measure => simp [intOf]; omega
    · obtain rfl : k = n := by omega
      have hki : ¬ (k : Int) < (k : Int) := by omega
      have HR := Lib.hid (phs_none (at_none (L := L) (z := z) (by rw [HL.out]; exact HP.out)))
      go_wp2_with fail
      go_ret
      exact ⟨by rw [HR.out]; rfl, rfl⟩
/-- Members in range and ascending. -/
def Rs (M : List Int) (k : Nat) : Prop := ∀ i x, i < k → M[i]? = some x → (1 ≤ x ∧ x ≤ 999) ∧ ∀ y, 0 < i → M[i - 1]? = some y → y < x
open Classical in
noncomputable def rs (M : List Int) : Bool := decide (Rs M M.length)
theorem rs_yes {M : List Int} (h : Rs M M.length) : rs M = true := by unfold rs; simp [h]
theorem rs_no {M : List Int} (h : ¬ Rs M M.length) : rs M = false := by unfold rs; simp [h]
theorem rs_iff {M : List Int} : rs M = true ↔ Rs M M.length := by unfold rs; simp
theorem Rs.next {M : List Int} {k : Nat} {x : Int} (h : Rs M k) (hx : M[k]? = some x) (hr : 1 ≤ x ∧ x ≤ 999) (hu : ∀ y, 0 < k → M[k - 1]? = some y → y < x) : Rs M (k + 1) := fun i z hi hz => by
  by_cases e : i = k
  · subst e
    rw [hx] at hz
    injection hz with hz
    subst hz
    exact ⟨hr, hu⟩
  · exact h i z (by omega) hz
theorem rs_bad {M : List Int} {k : Nat} {x : Int} (hx : M[k]? = some x) (h : ¬ ((1 ≤ x ∧ x ≤ 999) ∧ ∀ y, 0 < k → M[k - 1]? = some y → y < x)) : rs M = false :=
  rs_no fun r => h (r k x (List.getElem?_eq_some_iff.1 hx).1 hx)
set_option maxRecDepth 100000 in
set_option maxHeartbeats 2000000 in
theorem l1Rising_any (a : Option Addr) (n c : Nat) (M : List Int) (hn : n ≤ 1048576) (w : World) (h : HoldsI w a n M) :
    Calls Try.prog 64 #[.slice a n c, .int .i64 1, .int .i64 999] w fun e w' => e = .returned (.bool (rs M)) ∧ Below w.heap.size w w' := by
  have HH := Lib.hid h
  have HL := Lib.hid h.1
  clear h
  go_enter Try.func64, Try.ntmps64
  go_wp2_with fail
  go_loopw [7] (fun s5 wr => ∃ k : Nat, k ≤ n ∧ s5 = .int .i64 k ∧ Hid (Rs M k) ∧ Hid (Below w.heap.size w wr)) (fun s5 _ => n - (intOf s5).toNat)
  case atStart => exact ⟨0, Nat.zero_le _, rfl, fun i x h => by omega, Below.refl _ _⟩
  case round =>
    obtain ⟨k, hk, rfl, HP, HR⟩ := hrel
    by_cases hlt : k < n
    · obtain ⟨b, off, x, rfl, hx, e1⟩ := (HH.out.below HR.out).at k hlt
      have HX := Lib.hid hx
      have hki : (k : Int) < (n : Int) := by omega
      have hk0 : (0 : Int) ≤ (k : Int) := by omega
      clear hx
      by_cases hr : 1 ≤ x ∧ x ≤ 999
      · have HRG := Lib.hid hr
        clear hr
        by_cases hz0 : k = 0
        · subst hz0
          have HP2 := Lib.hid (HP.out.next HX.out HRG.out (fun y h => by omega))
          rw [Nat.add_zero] at e1
          have hn0 : (0 : Int) < (n : Int) := by omega
          clear hki hk0
          go_wp2_with fail
          go_quiet ((go_at_call 54; exact Calls.quiet_of_same (Good2.l1In_true x 1 999 HRG.out.1 HRG.out.2 _)))
          go_wp2_with fail
          exact ⟨⟨0 + 1, by omega, by go_num, HP2, HR.out.trans ((Joins.below_draws _ _ _).mono HR.out.size)⟩, by simp [intOf]; omega⟩
        · obtain ⟨k, rfl⟩ : ∃ i, k = i + 1 := ⟨k - 1, by omega⟩
          obtain ⟨b2, off2, y, hb, hy, e2⟩ := (HH.out.below HR.out).at k (by omega)
          injection hb with hb
          injection hb with hb1 hb2
          subst hb1 hb2
          have HY := Lib.hid hy
          have hw1 : IntKind.i64.wrap (((k + 1 : Nat) : Int) - 1) = (k : Int) := by rw [IntKind.wrap_i64]; omega
          clear hy
          by_cases hyx : y < x
          · have HP2 := Lib.hid (HP.out.next HX.out HRG.out (fun z _ hz => by rw [Nat.add_sub_cancel, HY.out] at hz; injection hz with hz; rw [← hz]; exact hyx))
            go_wp2_with fail
            go_quiet ((go_at_call 54; exact Calls.quiet_of_same (Good2.l1In_true x 1 999 HRG.out.1 HRG.out.2 _)))
            go_wp2_with fail
            exact ⟨⟨k + 1 + 1, by omega, by go_num, HP2, HR.out.trans ((Joins.below_draws _ _ _).mono HR.out.size)⟩, by simp [intOf]; omega⟩
          · have HN := Lib.hid (rs_bad HX.out (fun h => hyx (h.2 y (by omega) (by rw [Nat.add_sub_cancel]; exact HY.out))))
            go_wp2_with fail
            go_quiet ((go_at_call 54; exact Calls.quiet_of_same (Good2.l1In_true x 1 999 HRG.out.1 HRG.out.2 _)))
            go_wp2_with fail
            go_ret
            exact ⟨by rw [HN.out]; rfl, HR.out.trans ((Joins.below_draws _ _ _).mono HR.out.size)⟩
      · have HN := Lib.hid (rs_bad HX.out (fun h => hr h.1))
        have HRG := Lib.hid hr
        clear hr
        go_wp2_with fail
        go_quiet ((go_at_call 54; exact Calls.quiet_of_same (Good2.l1In_false x 1 999 HRG.out _)))
        go_wp2_with fail
        go_ret
        exact ⟨by rw [HN.out]; rfl, HR.out.trans ((Joins.below_draws _ _ _).mono HR.out.size)⟩
    · obtain rfl : k = n := by omega
      have hki : ¬ (k : Int) < (k : Int) := by omega
      have HN := Lib.hid (rs_yes (M := M) (by rw [HL.out]; exact HP.out))
      go_wp2_with fail
      go_ret
      exact ⟨by rw [HN.out]; rfl, HR.out⟩
end Go.Proofs.Ytbdplgcdnpcnfaa.GpB
/- Names and members: the program's isName, areMembers, slices.Contains; the model's l7Name, l1Has, l1Rising. -/
namespace Go.Proofs.Ytbdplgcdnpcnfaa.GpA
open Go.RowKit Pairs Rec Keep GivesI Chain Find2 GoodM Ph GpM
theorem str_ne {a b : ByteArray} (h : a ≠ b) : (a.toList == b.toList) = false := by
  rw [beq_eq_false_iff_ne, ByteArray.toList_eq, ByteArray.toList_eq]
  intro e
  apply h
  cases a
  cases b
  rename_i x y
  cases x
  cases y
  simp at e
  simp [e]
theorem str_eq (a : ByteArray) : (a.toList == a.toList) = true := beq_self_eq_true _
theorem nil_ne {s : ByteArray} (h : 1 ≤ s.size) : (s.toList == []) = false := by
  rw [beq_eq_false_iff_ne, ByteArray.toList_eq]
  intro e
  have e2 : s.size = 0 := by
    show s.data.size = 0
    rw [← Array.length_toList, e]
    rfl
  omega
theorem lower_any (c : UInt8) (w : World) : Calls Try.prog 97 #[.int .u8 (c.toNat : Int)] w fun e w' => e = .returned (.bool (lo c)) ∧ w' = w := by
  unfold lo
  generalize c.toNat = b
  go_enter Try.func97, Try.ntmps97
  by_cases h1 : 97 ≤ b
  · have h1' : (97 : Int) ≤ (b : Int) := by omega
    by_cases h2 : b ≤ 122
    · have h2' : (b : Int) ≤ 122 := by omega
      rw [decide_eq_true h1, decide_eq_true h2]
      clear h1 h2
      go_wp2_with fail
      go_ret
      exact ⟨rfl, rfl⟩
    · have h2' : ¬ (b : Int) ≤ 122 := by omega
      rw [decide_eq_true h1, decide_eq_false h2]
      clear h1 h2
      go_wp2_with fail
      go_ret
      exact ⟨rfl, rfl⟩
  · have h1' : ¬ (97 : Int) ≤ (b : Int) := by omega
    rw [decide_eq_false h1]
    clear h1
    go_wp2_with fail
    go_ret
    exact ⟨rfl, rfl⟩
theorem digit_any (c : UInt8) (w : World) : Calls Try.prog 98 #[.int .u8 (c.toNat : Int)] w fun e w' => e = .returned (.bool (di c)) ∧ w' = w := by
  unfold di
  generalize c.toNat = b
  go_enter Try.func98, Try.ntmps98
  by_cases h1 : 48 ≤ b
  · have h1' : (48 : Int) ≤ (b : Int) := by omega
    by_cases h2 : b ≤ 57
    · have h2' : (b : Int) ≤ 57 := by omega
      rw [decide_eq_true h1, decide_eq_true h2]
      clear h1 h2
      go_wp2_with fail
      go_ret
      exact ⟨rfl, rfl⟩
    · have h2' : ¬ (b : Int) ≤ 57 := by omega
      rw [decide_eq_true h1, decide_eq_false h2]
      clear h1 h2
      go_wp2_with fail
      go_ret
      exact ⟨rfl, rfl⟩
  · have h1' : ¬ (48 : Int) ≤ (b : Int) := by omega
    rw [decide_eq_false h1]
    clear h1
    go_wp2_with fail
    go_ret
    exact ⟨rfl, rfl⟩
set_option maxHeartbeats 1000000 in
theorem isName_any (s : ByteArray) (hs : s.size ≤ 1048576) (w : World) : Calls Try.prog 73 #[.string s] w fun e w' => e = .returned (.bool (nm s)) ∧ w' = w := by
  go_enter Try.func73, Try.ntmps73
  by_cases h0 : s.size = 0
  · have HN := Lib.hid (nm_no (s := s) (fun h => by have := h.1; omega))
    have he : s = ⟨#[]⟩ := by
      cases s with
      | mk d =>
        cases d with
        | mk l =>
          cases l with
          | nil => rfl
          | cons c r => exact absurd h0 (by show ¬ (List.length (c :: r) = 0); simp)
    subst he
    clear h0 hs
    go_wp2_with fail
    go_ret
    exact ⟨by rw [HN.out]; rfl, rfl⟩
  · have hne : (s.toList == []) = false := nil_ne (by omega)
    by_cases h8 : s.size ≤ 8
    · have h8' : ¬ (8 : Int) < (s.size : Int) := by omega
      have hp : 0 < s.size := by omega
      have hpi : (0 : Int) < (s.size : Int) := by omega
      cases hl : lo s[0] with
      | false =>
        have HN := Lib.hid (nm_no (s := s) (fun h => by have := h.2.2.1 hp; rw [hl] at this; cases this))
        have HL := Lib.hid hl
        clear hl
        go_wp2_with (go_at_call 97; refine (lower_any _ _).mono ?_; rw [HL.out]; rintro e w' ⟨rfl, rfl⟩)
        go_ret
        exact ⟨by rw [HN.out]; rfl, rfl⟩
      | true =>
        have HL := Lib.hid hl
        clear hl
        go_wp2_with (go_at_call 97; refine (lower_any _ _).mono ?_; rw [HL.out]; rintro e w' ⟨rfl, rfl⟩)
        clear hne
        go_loop [19] (fun s19 => ∃ k : Nat, k ≤ s.size ∧ s19 = .int .i64 k ∧ Hid (∀ j, ∀ h : j < s.size, j < k → (lo s[j] || di s[j]) = true)) (fun s19 => s.size - (intOf s19).toNat)
        case atStart => exact ⟨0, Nat.zero_le _, rfl, fun j _ h => by omega⟩
        case round =>
          obtain ⟨k, hk, rfl, HP⟩ := hrel
          by_cases hlt : k < s.size
          · have hki : (k : Int) < (s.size : Int) := by omega
            have hk0 : (0 : Int) ≤ (k : Int) := by omega
            cases hl : lo s[k] with
            | true =>
              have HK := Lib.hid hl
              have HP2 : Hid (∀ j, ∀ h : j < s.size, j < k + 1 → (lo s[j] || di s[j]) = true) := fun j h hj => by
                by_cases e : j = k
                · subst e
                  rw [HK.out]
                  rfl
                · exact HP.out j h (by omega)
              clear hl
              go_wp2_with (go_at_call 97; refine (lower_any _ _).mono ?_; rw [HK.out]; rintro e w' ⟨rfl, rfl⟩)
              go_round
              case rel => exact ⟨k + 1, by omega, by go_num, HP2⟩
              case measure => simp [intOf]; omega
            | false =>
              have HK := Lib.hid hl
              clear hl
              cases hd : di s[k] with
              | true =>
                have HD := Lib.hid hd
                have HP2 : Hid (∀ j, ∀ h : j < s.size, j < k + 1 → (lo s[j] || di s[j]) = true) := fun j h hj => by
                  by_cases e : j = k
                  · subst e
                    rw [HD.out, Bool.or_true]
                  · exact HP.out j h (by omega)
                clear hd
                go_wp2_with (first | (go_at_call 97; refine (lower_any _ _).mono ?_; rw [HK.out]; rintro e w' ⟨rfl, rfl⟩) | (go_at_call 98; refine (digit_any _ _).mono ?_; rw [HD.out]; rintro e w' ⟨rfl, rfl⟩))
                go_round
                case rel => exact ⟨k + 1, by omega, by go_num, HP2⟩
                case measure => simp [intOf]; omega
              | false =>
                have HD := Lib.hid hd
                have HN := Lib.hid (nm_no (s := s) (fun h => by have := h.2.2.2 k hlt; rw [HK.out, HD.out] at this; cases this))
                clear hd
                go_wp2_with (first | (go_at_call 97; refine (lower_any _ _).mono ?_; rw [HK.out]; rintro e w' ⟨rfl, rfl⟩) | (go_at_call 98; refine (digit_any _ _).mono ?_; rw [HD.out]; rintro e w' ⟨rfl, rfl⟩))
                go_ret
                exact ⟨by rw [HN.out]; rfl, rfl⟩
          · obtain rfl : k = s.size := by omega
            have hki : ¬ (s.size : Int) < (s.size : Int) := by omega
            have HN := Lib.hid (nm_yes (s := s) ⟨by omega, h8, fun _ => HL.out, fun j h => HP.out j h h⟩)
            go_wp2_with fail
            go_ret
            exact ⟨by rw [HN.out]; rfl, rfl⟩
    · have HN := Lib.hid (nm_no (s := s) (fun h => h8 h.2.1))
      have h8' : (8 : Int) < (s.size : Int) := by omega
      go_wp2_with fail
      go_ret
      exact ⟨by rw [HN.out]; rfl, rfl⟩
theorem lo_iff {c : UInt8} : lo c = true ↔ 97 ≤ c.toNat ∧ c.toNat ≤ 122 := by unfold lo; simp
theorem di_iff {c : UInt8} : di c = true ↔ 48 ≤ c.toNat ∧ c.toNat ≤ 57 := by unfold di; simp
set_option maxHeartbeats 2000000 in
theorem l7Name_any (s : ByteArray) (hs : s.size ≤ 1048576) (w : World) : Calls Try.prog 63 #[.string s] w fun e w' => e = .returned (.bool (nm s)) ∧ w' = w := by
  go_enter Try.func63, Try.ntmps63
  by_cases h18 : 1 ≤ s.size ∧ s.size ≤ 8
  · have hi18 : (1 : Int) ≤ (s.size : Int) ∧ (s.size : Int) ≤ 8 := by omega
    have HI := Lib.hid hi18
    have hp : 0 < s.size := by omega
    have hpi : (0 : Int) < (s.size : Int) := by omega
    have H18 := Lib.hid h18
    clear hi18 h18
    by_cases hl : lo s[0] = true
    · obtain ⟨q1, q2⟩ := lo_iff.1 hl
      have q1' : ¬ (s[0].toNat : Int) < 97 := by omega
      have q2' : ¬ (122 : Int) < (s[0].toNat : Int) := by omega
      have HL := Lib.hid hl
      clear hl q1 q2
      go_wp2_with (go_at_call 54; refine (Good2.l1In_true _ _ _ HI.out.1 HI.out.2 _).mono ?_; rintro e w' ⟨rfl, rfl⟩)
      clear q1' q2'
      go_loop [3] (fun s19 => ∃ k : Nat, k ≤ s.size ∧ s19 = .int .i64 k ∧ Hid (∀ j, ∀ h : j < s.size, j < k → (lo s[j] || di s[j]) = true)) (fun s19 => s.size - (intOf s19).toNat)
      case atStart => exact ⟨0, Nat.zero_le _, rfl, fun j _ h => by omega⟩
      case round =>
        obtain ⟨k, hk, rfl, HP⟩ := hrel
        by_cases hlt : k < s.size
        · have hki : (k : Int) < (s.size : Int) := by omega
          have hk0 : (0 : Int) ≤ (k : Int) := by omega
          by_cases hok : (lo s[k] || di s[k]) = true
          · have HP2 : Hid (∀ j, ∀ h : j < s.size, j < k + 1 → (lo s[j] || di s[j]) = true) := fun j h hj => by
              by_cases e : j = k
              · subst e
                exact hok
              · exact HP.out j h (by omega)
            rw [Bool.or_eq_true, lo_iff, di_iff] at hok
            by_cases a1 : (s[k].toNat : Int) < 97
            · have a3 : ¬ (s[k].toNat : Int) < 48 := by omega
              have a4 : ¬ (57 : Int) < (s[k].toNat : Int) := by omega
              clear hok
              go_wp2_with fail
              go_round
              case rel => exact ⟨k + 1, by omega, by go_num, HP2⟩
              case measure => simp [intOf]; omega
            · have a2 : ¬ (122 : Int) < (s[k].toNat : Int) := by omega
              clear hok
              go_wp2_with fail
              go_round
              case rel => exact ⟨k + 1, by omega, by go_num, HP2⟩
              case measure => simp [intOf]; omega
          · have HN := Lib.hid (nm_no (s := s) (fun h => hok (h.2.2.2 k hlt)))
            rw [Bool.or_eq_true, lo_iff, di_iff] at hok
            by_cases a1 : (s[k].toNat : Int) < 97
            · by_cases a3 : (s[k].toNat : Int) < 48
              · clear hok
                go_wp2_with fail
                go_ret
                exact ⟨by rw [HN.out]; rfl, rfl⟩
              · have a4 : (57 : Int) < (s[k].toNat : Int) := by omega
                clear hok
                go_wp2_with fail
                go_ret
                exact ⟨by rw [HN.out]; rfl, rfl⟩
            · have a2 : (122 : Int) < (s[k].toNat : Int) := by omega
              have a3 : ¬ (s[k].toNat : Int) < 48 := by omega
              have a4 : (57 : Int) < (s[k].toNat : Int) := by omega
              clear hok
              go_wp2_with fail
              go_ret
              exact ⟨by rw [HN.out]; rfl, rfl⟩
        · obtain rfl : k = s.size := by omega
          have hki : ¬ (s.size : Int) < (s.size : Int) := by omega
          have HN := Lib.hid (nm_yes (s := s) ⟨H18.out.1, H18.out.2, fun _ => HL.out, fun j h => HP.out j h h⟩)
          go_wp2_with fail
          go_ret
          exact ⟨by rw [HN.out]; rfl, rfl⟩
    · have HN := Lib.hid (nm_no (s := s) (fun h => hl (h.2.2.1 hp)))
      rw [lo_iff] at hl
      by_cases a1 : (s[0].toNat : Int) < 97
      · clear hl
        go_wp2_with (go_at_call 54; refine (Good2.l1In_true _ _ _ HI.out.1 HI.out.2 _).mono ?_; rintro e w' ⟨rfl, rfl⟩)
        go_ret
        exact ⟨by rw [HN.out]; rfl, rfl⟩
      · have a2 : (122 : Int) < (s[0].toNat : Int) := by omega
        clear hl
        go_wp2_with (go_at_call 54; refine (Good2.l1In_true _ _ _ HI.out.1 HI.out.2 _).mono ?_; rintro e w' ⟨rfl, rfl⟩)
        go_ret
        exact ⟨by rw [HN.out]; rfl, rfl⟩
  · have HN := Lib.hid (nm_no (s := s) (fun h => h18 ⟨h.1, h.2.1⟩))
    have HI : Hid (¬ ((1 : Int) ≤ (s.size : Int) ∧ (s.size : Int) ≤ 8)) := by unfold Hid; omega
    clear h18
    go_wp2_with (go_at_call 54; refine (Good2.l1In_false _ _ _ HI.out _).mono ?_; rintro e w' ⟨rfl, rfl⟩)
    go_ret
    exact ⟨by rw [HN.out]; rfl, rfl⟩
end Go.Proofs.Ytbdplgcdnpcnfaa.GpA
