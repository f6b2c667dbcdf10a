/- The law's heldRelationS. -/
import Derived.Test.YtkaafocadjhlnaaKeep
namespace Go.Proofs.Ytkaafocadjhlnaa.Mark2
open Go.RowKit Pairs Rec Keep

set_option maxRecDepth 100000 in
set_option maxHeartbeats 1000000 in
theorem heldR_any (p : Option Addr) (n c : Nat) (k : Int) (hk0 : 0 ≤ k) (hk1 : k ≤ 10000000) (hz : n ≤ 1048576) (w : World) (h : Holds w p n (marks k n)) :
    Calls Try.prog 21 #[.slice p n c, .int .i64 k] w fun e w' => e = .returned (.int .i64 (k + 2 * n)) ∧ w' = w := by
  have HH := Lib.hid h
  clear h
  go_enter Try.func21, Try.ntmps21
  go_wp2_with fail
  go_loop [1, 5] (fun s1 s5 => ∃ j : Nat, j ≤ n ∧ s5 = .int .i64 j ∧ s1 = .int .i64 (k + 2 * j)) (fun _ s5 => n - (intOf s5).toNat)
  case atStart => exact ⟨0, Nat.zero_le _, rfl, by simp⟩
  case round =>
    obtain ⟨j, hj, rfl, rfl⟩ := hrel
    by_cases hlt : j < n
    · obtain ⟨b, off, x, y, rfl, hx, e1, e2⟩ := HH.out.at j hlt
      rw [marks_at hlt] at hx
      injection hx with hx
      injection hx with hx1 hx2
      subst hx1 hx2
      have hi : (j : Int) < (n : Int) := by omega
      go_wp2_with fail
      go_round
      case rel => exact ⟨j + 1, by omega, by go_num, by go_num⟩
      case measure => simp [intOf]; omega
    · obtain rfl : j = n := by omega
      go_wp2_with fail
      go_ret
      exact ⟨rfl, rfl⟩
end Go.Proofs.Ytkaafocadjhlnaa.Mark2
