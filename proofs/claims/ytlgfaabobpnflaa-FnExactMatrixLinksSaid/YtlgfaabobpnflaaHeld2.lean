/- The laws' heldRecord. -/
import Derived.Test.YtlgfaabobpnflaaKeep
namespace Go.Proofs.Ytlgfaabobpnflaa.Mark2
open Go.RowKit Pairs Rec Keep

set_option maxRecDepth 100000 in
set_option maxHeartbeats 1000000 in
theorem heldC_any (p : Option Addr) (n c : Nat) (k : Int) (hk0 : 0 ≤ k) (hk1 : k ≤ 10000000) (hz : n ≤ 1048576) (w : World) (h : Holds w p n (marks k n)) :
    Calls Try.prog 85 #[.slice p n c, .int .i64 k] w fun e w' => e = .returned (.int .i64 (k + 2 * n)) ∧ w' = w := by
  have HH := Lib.hid h
  clear h
  go_enter Try.func85, Try.ntmps85
  go_wp2_with fail
  go_loop [1, 5] (fun s1 s5 => ∃ j : Nat, j ≤ n ∧ s5 = .int .i64 j ∧ s1 = .int .i64 (k + 2 * j)) (fun _ s5 => n - (intOf s5).toNat)
  case atStart => exact ⟨0, Nat.zero_le _, rfl, by simp⟩
  case round =>
    obtain ⟨j, hj, rfl, rfl⟩ := hrel
    by_cases hlt : j < n
    · obtain ⟨b, off, x, y, rfl, hx, e1, e2⟩ := HH.out.at j hlt
      rw [marks_at hlt] at hx
      injection hx with hx
      injection hx with hx1 hx2
      subst hx1 hx2
      have hi : (j : Int) < (n : Int) := by omega
      go_wp2_with fail
      go_round
      case rel => exact ⟨j + 1, by omega, by go_num, by go_num⟩
      case measure => simp [intOf]; omega
    · obtain rfl : j = n := by omega
      go_wp2_with fail
      go_ret
      exact ⟨rfl, rfl⟩
set_option maxRecDepth 100000 in
set_option maxHeartbeats 1000000 in
theorem heldR_any (p : Option Addr) (n c : Nat) (k : Int) (hk0 : 0 ≤ k) (hk1 : k ≤ 10000000) (hz : n ≤ 1048576) (w : World) (h : Holds w p n (marks k n)) :
    Calls Try.prog 28 #[.slice p n c, .int .i64 k] w fun e w' => e = .returned (.int .i64 (k + 2 * n)) ∧ w' = w := by
  have HH := Lib.hid h
  clear h
  go_enter Try.func28, Try.ntmps28
  go_wp2_with fail
  go_loop [1, 5] (fun s1 s5 => ∃ j : Nat, j ≤ n ∧ s5 = .int .i64 j ∧ s1 = .int .i64 (k + 2 * j)) (fun _ s5 => n - (intOf s5).toNat)
  case atStart => exact ⟨0, Nat.zero_le _, rfl, by simp⟩
  case round =>
    obtain ⟨j, hj, rfl, rfl⟩ := hrel
    by_cases hlt : j < n
    · obtain ⟨b, off, x, y, rfl, hx, e1, e2⟩ := HH.out.at j hlt
      rw [marks_at hlt] at hx
      injection hx with hx
      injection hx with hx1 hx2
      subst hx1 hx2
      have hi : (j : Int) < (n : Int) := by omega
      go_wp2_with fail
      go_round
      case rel => exact ⟨j + 1, by omega, by go_num, by go_num⟩
      case measure => simp [intOf]; omega
    · obtain rfl : j = n := by omega
      go_wp2_with fail
      go_ret
      exact ⟨rfl, rfl⟩
set_option maxRecDepth 100000 in
set_option maxHeartbeats 1000000 in
theorem heldRecord_any (p1 p2 : Option Addr) (k1 d1 k2 d2 : Nat) (h1 : k1 ≤ 1048576) (h2 : k2 ≤ 1048576) (w : World) (H1 : Holds w p1 k1 (marks 1 k1)) (H2 : Holds w p2 k2 (marks (1 + 2 * k1) k2)) :
    Calls Try.prog 31 #[.agg #[.slice p1 k1 d1, .slice p2 k2 d2], .int .i64 1] w fun e w' => e = .returned (.int .i64 (1 + 2 * k1 + 2 * k2)) ∧ Below w.heap.size w w' := by
  have hb0 := below_alloc w (.cells #[.slice p1 k1 d1, .slice p2 k2 d2] 33)
  have f1 := box_first w (.slice p1 k1 d1) (.slice p2 k2 d2) 33
  have f2 := box_second w (.slice p1 k1 d1) (.slice p2 k2 d2) 33
  have HH1 := Lib.hid (H1.below hb0)
  have HH2 := Lib.hid (H2.below hb0)
  clear H1 H2
  go_enter Try.func31, Try.ntmps31
  go_wp2_with fail
  generalize w.alloc (.cells #[.slice p1 k1 d1, .slice p2 k2 d2] 33) = W at *
  refine (heldC_any p1 k1 d1 1 (by omega) (by omega) h1 W HH1.out).mono ?_
  rintro e w2 ⟨rfl, rfl⟩
  have hn1 : ¬ 1 + 2 * (k1 : Int) < 0 := by omega
  go_wp2_with fail
  refine (heldR_any p2 k2 d2 (1 + 2 * k1) (by omega) (by omega) h2 w2 HH2.out).mono ?_
  rintro e w3 ⟨rfl, rfl⟩
  have hn2 : ¬ 1 + 2 * (k1 : Int) + 2 * (k2 : Int) < 0 := by omega
  go_wp2_with fail
  go_ret
  exact ⟨rfl, hb0⟩
end Go.Proofs.Ytlgfaabobpnflaa.Mark2
