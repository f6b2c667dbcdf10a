/- The checksum of chapter 1: contracts of the model's l1Sum and Checksum and of the program's Checksum, for every string of at most maxLen bytes: each returns the fold 'ck' of the bytes. -/
import Derived.Test.YtkoickdndjfnhaaDoorRows
import Derived.WalkKit
import Derived.ProofKit
import Derived.Lib.Hide
namespace Go.Proofs.YtkoickdndjfnhaaDoor.Sum
open Go.RowKit

theorem ret_int {k : IntKind} {a b : Int} (h : a = b) : Ending.returned (.int k a) = .returned (.int k b) := by rw [h]
def ck (l : List UInt8) : Int := l.foldl (fun h c => (41 * h + (c.toNat : Int) + 1) % 999979) 7
theorem ck_snoc (l : List UInt8) (c : UInt8) : ck (l ++ [c]) = (41 * ck l + (c.toNat : Int) + 1) % 999979 := by
  simp [ck, List.foldl_append]
theorem ck_bd_rev (l : List UInt8) : 0 ≤ ck l.reverse ∧ ck l.reverse ≤ 999978 := by
  cases l with
  | nil => simp [ck]
  | cons c r => rw [List.reverse_cons, ck_snoc]; omega
theorem ck_bd (l : List UInt8) : 0 ≤ ck l ∧ ck l ≤ 999978 := by
  have h := ck_bd_rev l.reverse
  rwa [List.reverse_reverse] at h
theorem ck_take (s : ByteArray) (k : Nat) (h : k < s.size) : ck (s.data.toList.take (k + 1)) = (41 * ck (s.data.toList.take k) + (s[k].toNat : Int) + 1) % 999979 := by
  rw [List.take_succ_eq_append_getElem (by simpa using h), ck_snoc]; rfl

theorem step_eq (h : Int) (c : UInt8) (h0 : 0 ≤ h) (h1 : h ≤ 999978) :
    (wrap64 (wrap64 (41 * h + wrap64 (c.toNat : Int)) + 1)).tmod 999979 = (41 * h + (c.toNat : Int) + 1) % 999979 := by
  have hc : c.toNat < 256 := c.toNat_lt
  have e1 : wrap64 (c.toNat : Int) = c.toNat := by unfold wrap64; omega
  rw [e1]
  have e2 : wrap64 (41 * h + (c.toNat : Int)) = 41 * h + c.toNat := by unfold wrap64; omega
  rw [e2]
  have e3 : wrap64 (41 * h + (c.toNat : Int) + 1) = 41 * h + c.toNat + 1 := by unfold wrap64; omega
  rw [e3]
  exact Int.tmod_eq_emod_of_nonneg (by omega)
set_option maxHeartbeats 400000 in
theorem l1Sum_any (s : ByteArray) (w : World) (hs : s.size ≤ maxLen) :
    Calls Tryd.prog 42 #[.string s] w fun e w' => e = .returned (.int .i64 (ck s.data.toList)) ∧ w = w' := by
  unfold maxLen at hs
  go_enter Tryd.func42, Tryd.ntmps42
  go_wp2
  go_loop [3, 4] (fun n i => ∃ k : Nat, k ≤ s.size ∧ i = .int .i64 k ∧ n = .int .i64 (ck (s.data.toList.take k))) (fun _ i => s.size - (intOf i).toNat)
  case atStart => exact ⟨0, Nat.zero_le _, rfl, rfl⟩
  case round =>
    obtain ⟨k, hk, rfl, rfl⟩ := hrel
    have hd := ck_bd (s.data.toList.take k)
    by_cases hlt : k < s.size
    · have hsn := ck_take s k hlt
      have HS := Lib.hid hsn
      clear hsn
      go_wp2
      go_round
      case rel => exact ⟨k + 1, by omega, by go_num, by rw [HS.out, step_eq _ _ hd.1 hd.2]⟩
      case measure => simp [intOf]; omega
    · go_wp2
      go_ret
      exact ⟨ret_int (by rw [List.take_of_length_le (by simp; omega)]), rfl⟩


set_option maxHeartbeats 400000 in
theorem implChecksum_any (s : ByteArray) (w : World) (hs : s.size ≤ maxLen) :
    Calls Tryd.prog 31 #[.string s] w fun e w' => e = .returned (.tuple #[.int .i64 (if s.size ≤ 4000 then ck s.data.toList else 0), .bool (decide (s.size ≤ 4000))]) ∧ w = w' := by
  unfold maxLen at hs
  by_cases h : s.size ≤ 4000
  · go_enter Tryd.func31, Tryd.ntmps31
    go_wp2
    go_loop [4, 5, 11] (fun n _ i => ∃ k : Nat, k ≤ s.size ∧ i = .int .i64 k ∧ n = .int .i64 (ck (s.data.toList.take k))) (fun _ _ i => s.size - (intOf i).toNat)
    case atStart => exact ⟨0, Nat.zero_le _, rfl, rfl⟩
    case round =>
      obtain ⟨k, hk, rfl, rfl⟩ := hrel
      have hd := ck_bd (s.data.toList.take k)
      by_cases hlt : k < s.size
      · have hsn := ck_take s k hlt
        have HS := Lib.hid hsn
        clear hsn
        go_wp2
        go_round
        case rel => exact ⟨k + 1, by omega, by go_num, by rw [HS.out, step_eq _ _ hd.1 hd.2]⟩
        case measure => simp [intOf]; omega
      · go_wp2
        go_ret2
        exact ⟨by rw [List.take_of_length_le (by simp; omega)]; simp, rfl⟩
  · go_enter Tryd.func31, Tryd.ntmps31
    go_wp2
    go_ret2
    exact ⟨by simp, rfl⟩
end Go.Proofs.YtkoickdndjfnhaaDoor.Sum
