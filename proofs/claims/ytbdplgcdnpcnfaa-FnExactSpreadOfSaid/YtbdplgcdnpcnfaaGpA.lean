/- Names and members: the program's isName, areMembers, slices.Contains; the model's l7Name, l1Has, l1Rising. -/
import Derived.Test.YtbdplgcdnpcnfaaGpM
import Derived.Test.YtbdplgcdnpcnfaaAvr
import Derived.Test.YtbdplgcdnpcnfaaGood2
import Derived.Test.YtbdplgcdnpcnfaaIsLater
import Derived.BigQuiet
namespace Go.Proofs.Ytbdplgcdnpcnfaa.GpA
open Go.RowKit Pairs Rec Keep GivesI Chain Find2 GoodM Ph GpM
theorem str_ne {a b : ByteArray} (h : a ≠ b) : (a.toList == b.toList) = false := by
  rw [beq_eq_false_iff_ne, ByteArray.toList_eq, ByteArray.toList_eq]
  intro e
  apply h
  cases a
  cases b
  rename_i x y
  cases x
  cases y
  simp at e
  simp [e]
theorem str_eq (a : ByteArray) : (a.toList == a.toList) = true := beq_self_eq_true _
theorem nil_ne {s : ByteArray} (h : 1 ≤ s.size) : (s.toList == []) = false := by
  rw [beq_eq_false_iff_ne, ByteArray.toList_eq]
  intro e
  have e2 : s.size = 0 := by
    show s.data.size = 0
    rw [← Array.length_toList, e]
    rfl
  omega
theorem lower_any (c : UInt8) (w : World) : Calls Try.prog 97 #[.int .u8 (c.toNat : Int)] w fun e w' => e = .returned (.bool (lo c)) ∧ w' = w := by
  unfold lo
  generalize c.toNat = b
  go_enter Try.func97, Try.ntmps97
  by_cases h1 : 97 ≤ b
  · have h1' : (97 : Int) ≤ (b : Int) := by omega
    by_cases h2 : b ≤ 122
    · have h2' : (b : Int) ≤ 122 := by omega
      rw [decide_eq_true h1, decide_eq_true h2]
      clear h1 h2
      go_wp2_with fail
      go_ret
      exact ⟨rfl, rfl⟩
    · have h2' : ¬ (b : Int) ≤ 122 := by omega
      rw [decide_eq_true h1, decide_eq_false h2]
      clear h1 h2
      go_wp2_with fail
      go_ret
      exact ⟨rfl, rfl⟩
  · have h1' : ¬ (97 : Int) ≤ (b : Int) := by omega
    rw [decide_eq_false h1]
    clear h1
    go_wp2_with fail
    go_ret
    exact ⟨rfl, rfl⟩
theorem digit_any (c : UInt8) (w : World) : Calls Try.prog 98 #[.int .u8 (c.toNat : Int)] w fun e w' => e = .returned (.bool (di c)) ∧ w' = w := by
  unfold di
  generalize c.toNat = b
  go_enter Try.func98, Try.ntmps98
  by_cases h1 : 48 ≤ b
  · have h1' : (48 : Int) ≤ (b : Int) := by omega
    by_cases h2 : b ≤ 57
    · have h2' : (b : Int) ≤ 57 := by omega
      rw [decide_eq_true h1, decide_eq_true h2]
      clear h1 h2
      go_wp2_with fail
      go_ret
      exact ⟨rfl, rfl⟩
    · have h2' : ¬ (b : Int) ≤ 57 := by omega
      rw [decide_eq_true h1, decide_eq_false h2]
      clear h1 h2
      go_wp2_with fail
      go_ret
      exact ⟨rfl, rfl⟩
  · have h1' : ¬ (48 : Int) ≤ (b : Int) := by omega
    rw [decide_eq_false h1]
    clear h1
    go_wp2_with fail
    go_ret
    exact ⟨rfl, rfl⟩
set_option maxHeartbeats 1000000 in
theorem isName_any (s : ByteArray) (hs : s.size ≤ 1048576) (w : World) : Calls Try.prog 73 #[.string s] w fun e w' => e = .returned (.bool (nm s)) ∧ w' = w := by
  go_enter Try.func73, Try.ntmps73
  by_cases h0 : s.size = 0
  · have HN := Lib.hid (nm_no (s := s) (fun h => by have := h.1; omega))
    have he : s = ⟨#[]⟩ := by
      cases s with
      | mk d =>
        cases d with
        | mk l =>
          cases l with
          | nil => rfl
          | cons c r => exact absurd h0 (by show ¬ (List.length (c :: r) = 0); simp)
    subst he
    clear h0 hs
    go_wp2_with fail
    go_ret
    exact ⟨by rw [HN.out]; rfl, rfl⟩
  · have hne : (s.toList == []) = false := nil_ne (by omega)
    by_cases h8 : s.size ≤ 8
    · have h8' : ¬ (8 : Int) < (s.size : Int) := by omega
      have hp : 0 < s.size := by omega
      have hpi : (0 : Int) < (s.size : Int) := by omega
      cases hl : lo s[0] with
      | false =>
        have HN := Lib.hid (nm_no (s := s) (fun h => by have := h.2.2.1 hp; rw [hl] at this; cases this))
        have HL := Lib.hid hl
        clear hl
        go_wp2_with (go_at_call 97; refine (lower_any _ _).mono ?_; rw [HL.out]; rintro e w' ⟨rfl, rfl⟩)
        go_ret
        exact ⟨by rw [HN.out]; rfl, rfl⟩
      | true =>
        have HL := Lib.hid hl
        clear hl
        go_wp2_with (go_at_call 97; refine (lower_any _ _).mono ?_; rw [HL.out]; rintro e w' ⟨rfl, rfl⟩)
        clear hne
        go_loop [19] (fun s19 => ∃ k : Nat, k ≤ s.size ∧ s19 = .int .i64 k ∧ Hid (∀ j, ∀ h : j < s.size, j < k → (lo s[j] || di s[j]) = true)) (fun s19 => s.size - (intOf s19).toNat)
        case atStart => exact ⟨0, Nat.zero_le _, rfl, fun j _ h => by omega⟩
        case round =>
          obtain ⟨k, hk, rfl, HP⟩ := hrel
          by_cases hlt : k < s.size
          · have hki : (k : Int) < (s.size : Int) := by omega
            have hk0 : (0 : Int) ≤ (k : Int) := by omega
            cases hl : lo s[k] with
            | true =>
              have HK := Lib.hid hl
              have HP2 : Hid (∀ j, ∀ h : j < s.size, j < k + 1 → (lo s[j] || di s[j]) = true) := fun j h hj => by
                by_cases e : j = k
                · subst e
                  rw [HK.out]
                  rfl
                · exact HP.out j h (by omega)
              clear hl
              go_wp2_with (go_at_call 97; refine (lower_any _ _).mono ?_; rw [HK.out]; rintro e w' ⟨rfl, rfl⟩)
              go_round
              case rel => exact ⟨k + 1, by omega, by go_num, HP2⟩
              case measure => simp [intOf]; omega
            | false =>
              have HK := Lib.hid hl
              clear hl
              cases hd : di s[k] with
              | true =>
                have HD := Lib.hid hd
                have HP2 : Hid (∀ j, ∀ h : j < s.size, j < k + 1 → (lo s[j] || di s[j]) = true) := fun j h hj => by
                  by_cases e : j = k
                  · subst e
                    rw [HD.out, Bool.or_true]
                  · exact HP.out j h (by omega)
                clear hd
                go_wp2_with (first | (go_at_call 97; refine (lower_any _ _).mono ?_; rw [HK.out]; rintro e w' ⟨rfl, rfl⟩) | (go_at_call 98; refine (digit_any _ _).mono ?_; rw [HD.out]; rintro e w' ⟨rfl, rfl⟩))
                go_round
                case rel => exact ⟨k + 1, by omega, by go_num, HP2⟩
                case measure => simp [intOf]; omega
              | false =>
                have HD := Lib.hid hd
                have HN := Lib.hid (nm_no (s := s) (fun h => by have := h.2.2.2 k hlt; rw [HK.out, HD.out] at this; cases this))
                clear hd
                go_wp2_with (first | (go_at_call 97; refine (lower_any _ _).mono ?_; rw [HK.out]; rintro e w' ⟨rfl, rfl⟩) | (go_at_call 98; refine (digit_any _ _).mono ?_; rw [HD.out]; rintro e w' ⟨rfl, rfl⟩))
                go_ret
                exact ⟨by rw [HN.out]; rfl, rfl⟩
          · obtain rfl : k = s.size := by omega
            have hki : ¬ (s.size : Int) < (s.size : Int) := by omega
            have HN := Lib.hid (nm_yes (s := s) ⟨by omega, h8, fun _ => HL.out, fun j h => HP.out j h h⟩)
            go_wp2_with fail
            go_ret
            exact ⟨by rw [HN.out]; rfl, rfl⟩
    · have HN := Lib.hid (nm_no (s := s) (fun h => h8 h.2.1))
      have h8' : (8 : Int) < (s.size : Int) := by omega
      go_wp2_with fail
      go_ret
      exact ⟨by rw [HN.out]; rfl, rfl⟩
theorem lo_iff {c : UInt8} : lo c = true ↔ 97 ≤ c.toNat ∧ c.toNat ≤ 122 := by unfold lo; simp
theorem di_iff {c : UInt8} : di c = true ↔ 48 ≤ c.toNat ∧ c.toNat ≤ 57 := by unfold di; simp
set_option maxHeartbeats 2000000 in
theorem l7Name_any (s : ByteArray) (hs : s.size ≤ 1048576) (w : World) : Calls Try.prog 63 #[.string s] w fun e w' => e = .returned (.bool (nm s)) ∧ w' = w := by
  go_enter Try.func63, Try.ntmps63
  by_cases h18 : 1 ≤ s.size ∧ s.size ≤ 8
  · have hi18 : (1 : Int) ≤ (s.size : Int) ∧ (s.size : Int) ≤ 8 := by omega
    have HI := Lib.hid hi18
    have hp : 0 < s.size := by omega
    have hpi : (0 : Int) < (s.size : Int) := by omega
    have H18 := Lib.hid h18
    clear hi18 h18
    by_cases hl : lo s[0] = true
    · obtain ⟨q1, q2⟩ := lo_iff.1 hl
      have q1' : ¬ (s[0].toNat : Int) < 97 := by omega
      have q2' : ¬ (122 : Int) < (s[0].toNat : Int) := by omega
      have HL := Lib.hid hl
      clear hl q1 q2
      go_wp2_with (go_at_call 54; refine (Good2.l1In_true _ _ _ HI.out.1 HI.out.2 _).mono ?_; rintro e w' ⟨rfl, rfl⟩)
      clear q1' q2'
      go_loop [3] (fun s19 => ∃ k : Nat, k ≤ s.size ∧ s19 = .int .i64 k ∧ Hid (∀ j, ∀ h : j < s.size, j < k → (lo s[j] || di s[j]) = true)) (fun s19 => s.size - (intOf s19).toNat)
      case atStart => exact ⟨0, Nat.zero_le _, rfl, fun j _ h => by omega⟩
      case round =>
        obtain ⟨k, hk, rfl, HP⟩ := hrel
        by_cases hlt : k < s.size
        · have hki : (k : Int) < (s.size : Int) := by omega
          have hk0 : (0 : Int) ≤ (k : Int) := by omega
          by_cases hok : (lo s[k] || di s[k]) = true
          · have HP2 : Hid (∀ j, ∀ h : j < s.size, j < k + 1 → (lo s[j] || di s[j]) = true) := fun j h hj => by
              by_cases e : j = k
              · subst e
                exact hok
              · exact HP.out j h (by omega)
            rw [Bool.or_eq_true, lo_iff, di_iff] at hok
            by_cases a1 : (s[k].toNat : Int) < 97
            · have a3 : ¬ (s[k].toNat : Int) < 48 := by omega
              have a4 : ¬ (57 : Int) < (s[k].toNat : Int) := by omega
              clear hok
              go_wp2_with fail
              go_round
              case rel => exact ⟨k + 1, by omega, by go_num, HP2⟩
              case measure => simp [intOf]; omega
            · have a2 : ¬ (122 : Int) < (s[k].toNat : Int) := by omega
              clear hok
              go_wp2_with fail
              go_round
              case rel => exact ⟨k + 1, by omega, by go_num, HP2⟩
              case measure => simp [intOf]; omega
          · have HN := Lib.hid (nm_no (s := s) (fun h => hok (h.2.2.2 k hlt)))
            rw [Bool.or_eq_true, lo_iff, di_iff] at hok
            by_cases a1 : (s[k].toNat : Int) < 97
            · by_cases a3 : (s[k].toNat : Int) < 48
              · clear hok
                go_wp2_with fail
                go_ret
                exact ⟨by rw [HN.out]; rfl, rfl⟩
              · have a4 : (57 : Int) < (s[k].toNat : Int) := by omega
                clear hok
                go_wp2_with fail
                go_ret
                exact ⟨by rw [HN.out]; rfl, rfl⟩
            · have a2 : (122 : Int) < (s[k].toNat : Int) := by omega
              have a3 : ¬ (s[k].toNat : Int) < 48 := by omega
              have a4 : (57 : Int) < (s[k].toNat : Int) := by omega
              clear hok
              go_wp2_with fail
              go_ret
              exact ⟨by rw [HN.out]; rfl, rfl⟩
        · obtain rfl : k = s.size := by omega
          have hki : ¬ (s.size : Int) < (s.size : Int) := by omega
          have HN := Lib.hid (nm_yes (s := s) ⟨H18.out.1, H18.out.2, fun _ => HL.out, fun j h => HP.out j h h⟩)
          go_wp2_with fail
          go_ret
          exact ⟨by rw [HN.out]; rfl, rfl⟩
    · have HN := Lib.hid (nm_no (s := s) (fun h => hl (h.2.2.1 hp)))
      rw [lo_iff] at hl
      by_cases a1 : (s[0].toNat : Int) < 97
      · clear hl
        go_wp2_with (go_at_call 54; refine (Good2.l1In_true _ _ _ HI.out.1 HI.out.2 _).mono ?_; rintro e w' ⟨rfl, rfl⟩)
        go_ret
        exact ⟨by rw [HN.out]; rfl, rfl⟩
      · have a2 : (122 : Int) < (s[0].toNat : Int) := by omega
        clear hl
        go_wp2_with (go_at_call 54; refine (Good2.l1In_true _ _ _ HI.out.1 HI.out.2 _).mono ?_; rintro e w' ⟨rfl, rfl⟩)
        go_ret
        exact ⟨by rw [HN.out]; rfl, rfl⟩
  · have HN := Lib.hid (nm_no (s := s) (fun h => h18 ⟨h.1, h.2.1⟩))
    have HI : Hid (¬ ((1 : Int) ≤ (s.size : Int) ∧ (s.size : Int) ≤ 8)) := by unfold Hid; omega
    clear h18
    go_wp2_with (go_at_call 54; refine (Good2.l1In_false _ _ _ HI.out _).mono ?_; rintro e w' ⟨rfl, rfl⟩)
    go_ret
    exact ⟨by rw [HN.out]; rfl, rfl⟩
end Go.Proofs.Ytbdplgcdnpcnfaa.GpA
