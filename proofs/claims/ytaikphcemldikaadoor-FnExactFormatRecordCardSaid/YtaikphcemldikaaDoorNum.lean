/- The model's l1In and l1Num: contracts. l1Num returns the decimal numeral of every number of at most six digits (and its negative). -/
import Derived.Test.YtaikphcemldikaaDoorRows
import Derived.WalkKit
import Derived.ProofKit
import Derived.Lib.Hide
import Derived.Lib.ItoaNum
import Derived.Lib.ItoaLen
import Derived.Deep.QuietTactic
import Derived.BigQuiet
import Derived.WalkSpells
import Derived.IntWalk
namespace Go.Proofs.YtaikphcemldikaaDoor.Num
open Go.RowKit

theorem l1In_yes (x a b : Int) (w : World) (h1 : a ≤ x) (h2 : x ≤ b) :
    Calls Tryd.prog 63 #[.int .i64 x, .int .i64 a, .int .i64 b] w fun e w' => e = .returned (.bool true) ∧ w = w' := by
  go_enter Tryd.func63, Tryd.ntmps63
  go_wp2
  go_ret
  exact ⟨rfl, rfl⟩
theorem l1In_low (x a b : Int) (w : World) (h1 : x < a) :
    Calls Tryd.prog 63 #[.int .i64 x, .int .i64 a, .int .i64 b] w fun e w' => e = .returned (.bool false) ∧ w = w' := by
  go_enter Tryd.func63, Tryd.ntmps63
  go_wp2
  go_ret
  exact ⟨rfl, rfl⟩
theorem l1In_high (x a b : Int) (w : World) (h0 : a ≤ x) (h1 : b < x) :
    Calls Tryd.prog 63 #[.int .i64 x, .int .i64 a, .int .i64 b] w fun e w' => e = .returned (.bool false) ∧ w = w' := by
  have hb : decide (x ≤ b) = false := by simp; omega
  go_enter Tryd.func63, Tryd.ntmps63
  go_wp2
  go_ret
  exact ⟨rfl, rfl⟩

/-- The decimal numeral of a number, and one digit. -/
def num (n : Nat) : ByteArray := ⟨(Lib.decDigits n).toArray⟩
def digB (d : Nat) : ByteArray := ⟨#[UInt8.ofNat (48 + d)]⟩
theorem num_small (n : Nat) (h : n < 10) : num n = digB n := by unfold num digB; rw [Lib.decDigits_one h]
theorem num_step (n : Nat) (h : ¬ n < 10) : num n = num (n / 10) ++ digB (n % 10) := by
  unfold num digB
  rw [Lib.decDigits, dif_neg h, show (#[UInt8.ofNat (48 + n % 10)] : Array UInt8) = [UInt8.ofNat (48 + n % 10)].toArray from rfl, ByteArray.mk_append_mk]
theorem num_size (n : Nat) (h : n < 18446744073709551616) : (num n).size ≤ 20 := by
  show (Lib.decDigits n).toArray.size ≤ 20
  rw [List.size_toArray, Lib.decDigits_length]
  exact Lib.nDigits_le20 n h
theorem digB_size (d : Nat) : (digB d).size = 1 := rfl
theorem dig_take (n : Nat) (h : n < 10) : (⟨#[48, 49, 50, 51, 52, 53, 54, 55, 56, 57]⟩ : ByteArray).extract n (n + 1) = digB n := by
  have : ∀ n : Fin 10, (⟨#[48, 49, 50, 51, 52, 53, 54, 55, 56, 57]⟩ : ByteArray).extract n (n + 1) = ⟨#[UInt8.ofNat (48 + n)]⟩ := by decide
  exact this ⟨n, h⟩
theorem slice_dig (d : Nat) (h : d < 10) (W : World) :
    (Instr.slice 9 (.string ⟨#[48, 49, 50, 51, 52, 53, 54, 55, 56, 57]⟩) (some (.int .i64 (d : Int))) (some (.int .i64 ((d : Int) + 1))) none).run Tryd.prog W = .ok (.string (digB d)) W := by
  have hz : ((⟨#[48, 49, 50, 51, 52, 53, 54, 55, 56, 57]⟩ : ByteArray).size : Int) = 10 := rfl
  rw [run_slice_string_if (h := Tryd.underlying9), hz, if_pos (by omega), if_pos (by omega)]
  rw [show ((d : Int) + 1).toNat = d + 1 by omega, Int.toNat_natCast, dig_take d h]

set_option maxHeartbeats 400000 in
theorem l1Num_nat (k : Nat) : ∀ (n : Int) (w : World), n ≤ k → 0 ≤ n → n ≤ 999999 →
    Calls Tryd.prog 65 #[.int .i64 n] w fun e w' => e = .returned (.string (num n.toNat)) ∧ ∃ m, w' = w.drewN m := by
  induction k with
  | zero =>
    intro n w hk h0 hn
    obtain rfl : n = 0 := by omega
    go_enter Tryd.func65, Tryd.ntmps65
    go_wp2_with fail
    go_ret
    exact ⟨by rw [num_small _ (by decide)]; rfl, 0, rfl⟩
  | succ k ih =>
    intro n w hk h0 hn
    obtain ⟨n, rfl⟩ := Int.eq_ofNat_of_zero_le h0
    rw [Int.toNat_natCast]
    have IH := Lib.hid ih
    clear ih
    by_cases h10 : n < 10
    · go_enter Tryd.func65, Tryd.ntmps65
      go_wp2_with fail
      go_ret
      refine ⟨?_, 0, rfl⟩
      rw [num_small n h10, ← dig_take n h10]
      rfl
    · have h10' : (10 : Int) ≤ (n : Int) := by omega
      have e1 : IntKind.i64.wrap ((n : Int) / 10) = (n : Int) / 10 := IntWalk.i64_in _ (by omega)
      obtain ⟨d, hd⟩ : ∃ d : Nat, d = n % 10 := ⟨_, rfl⟩
      have hd10 : d < 10 := by omega
      have m0 : (n : Int).tmod 10 = (d : Int) := by rw [Int.tmod_eq_emod_of_nonneg (by omega)]; omega
      have e2 : IntKind.i64.wrap ((d : Int) + 1) = (d : Int) + 1 := IntWalk.i64_in _ (by omega)
      have HD := Lib.hid hd
      clear hd
      have hsl := slice_dig d hd10
      have hd1 : (d : Int) < 10 := by omega
      have hd2 : (d : Int) + 1 ≤ 10 := by omega
      have hsz : (num ((n : Int) / 10).toNat).size ≤ 20 := num_size _ (by omega)
      have hadd := fun W : World => run_string_add_sum (P := Tryd.prog) W (num ((n : Int) / 10).toNat) (digB d) (by rw [digB_size]; omega)
      go_enter Tryd.func65, Tryd.ntmps65
      go_wp2_with fail
      go_quiet ((go_at_call 65; refine Calls.quiet_of (IH.out _ _ ?_ ?_ ?_) <;> omega))
      go_wp2_with fail
      go_ret
      refine ⟨?_, nq, rfl⟩
      rw [num_step n h10, ← HD.out, show n / 10 = ((n : Int) / 10).toNat by omega]
      rfl

set_option maxHeartbeats 400000 in
theorem l1Num_any (n : Int) (w : World) (h0 : -999999 ≤ n) (h1 : n ≤ 999999) :
    Calls Tryd.prog 65 #[.int .i64 n] w fun e w' => e = .returned (.string ⟨(Lib.itoa n).toArray⟩) ∧ ∃ m, w' = w.drewN m := by
  by_cases h : 0 ≤ n
  · have e : (⟨(Lib.itoa n).toArray⟩ : ByteArray) = num n.toNat := by unfold Lib.itoa num; rw [if_neg (by omega)]
    rw [e]
    exact l1Num_nat n.toNat n w (by omega) h h1
  · have e : (⟨(Lib.itoa n).toArray⟩ : ByteArray) = ⟨#[45]⟩ ++ num (-n).toNat := by
      unfold Lib.itoa num
      rw [if_pos (by omega), show (#[45] : Array UInt8) = [45].toArray from rfl, ByteArray.mk_append_mk, show n.natAbs = (-n).toNat by omega]
      rfl
    rw [e]
    clear e
    have hsz : (num (-n).toNat).size ≤ 20 := num_size _ (by omega)
    have hadd := fun W : World => run_string_add_sum (P := Tryd.prog) W ⟨#[45]⟩ (num (-n).toNat) (by show 1 + _ ≤ _; omega)
    go_enter Tryd.func65, Tryd.ntmps65
    go_wp2_with (go_at_call 65; refine (l1Num_nat (-n).toNat _ _ ?_ ?_ ?_).mono ?_; omega; omega; omega; rintro e w' ⟨rfl, m, rfl⟩)
    go_ret
    exact ⟨rfl, _, rfl⟩
end Go.Proofs.YtaikphcemldikaaDoor.Num
