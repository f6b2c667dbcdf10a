/- math/bits.TrailingZeros at small sets, and setOfContext: a set of one context. -/
import Derived.Test.YtjllbbkpmmnkgaaDoorBlM
import Derived.Test.YtjllbbkpmmnkgaaDoorGivesI
import Derived.Shelf.Spec.TrailingZeros
import Derived.Laws.BitsAllLaws
set_option linter.unusedVariables false
namespace Go.Proofs.YtjllbbkpmmnkgaaDoor.Tz
open Go.RowKit
/-- The library's table lies where its initialiser laid it. -/
def Tab (w : World) : Prop := ∀ j, j < 64 → w.cell? ⟨1, j, none⟩ = some (.int .u8 ((Lib.deBruijn64tab.getD j 0 : Nat) : Int))
theorem Tab.lt {w : World} (h : Tab w) : 1 < w.heap.size := by
  have h0 := h 0 (by omega)
  apply Classical.byContradiction
  intro hn
  have : w.heap[1]? = none := Array.getElem?_eq_none (by omega)
  simp [World.cell?, this] at h0
theorem Tab.below {w w' : World} (h : Tab w) (hb : Below w.heap.size w w') : Tab w' := fun j hj => (hb.cell (p := ⟨1, j, none⟩) h.lt).trans (h j hj)
def ren : Go.Shelf.Ren := ⟨fun | 29 => 87 | n => n, fun | 0 => 0 | 3 => 3 | 4 => 4 | 5 => 5 | 22 => 106 | 25 => 60 | 54 => 118 | n => n, fun | 1 => 1 | n => n⟩
theorem lays : Lays7.n29 Tryd.prog ren := {
  mixed := by kernel_rfl
  f29 := Tryd.func87.trans (congrArg some (by kernel_rfl))
  t0 := Tryd.underlying0
  a0 := Tryd.isAgg0
  z0 := Tryd.sizeOf0
  v0 := Tryd.zeroValue0
  i0 := by kernel_rfl
  t3 := Tryd.underlying3
  a3 := Tryd.isAgg3
  z3 := Tryd.sizeOf3
  v3 := Tryd.zeroValue3
  i3 := by kernel_rfl
  t4 := Tryd.underlying4
  a4 := Tryd.isAgg4
  z4 := Tryd.sizeOf4
  v4 := Tryd.zeroValue4
  i4 := by kernel_rfl
  t5 := Tryd.underlying5
  a5 := Tryd.isAgg5
  z5 := Tryd.sizeOf5
  v5 := Tryd.zeroValue5
  i5 := by kernel_rfl
  t22 := Tryd.underlying106
  a22 := Tryd.isAgg106
  z22 := Tryd.sizeOf106
  v22 := Tryd.zeroValue106
  i22 := by kernel_rfl
  t25 := Tryd.underlying60
  a25 := Tryd.isAgg60
  z25 := Tryd.sizeOf60
  v25 := Tryd.zeroValue60
  i25 := by kernel_rfl
  t54 := Tryd.underlying118
  a54 := Tryd.isAgg118
  z54 := Tryd.sizeOf118
  g1 := by kernel_rfl
}
theorem tz64_any (x : Nat) (h0 : x ≠ 0) (hx : x < 1024) (w : World) (hT : Tab w) :
    Calls Tryd.prog 87 #[.int .u64 (x : Int)] w fun e w' => e = .returned (.int .i64 (Lib.ctz 64 x : Nat)) ∧ w' = w :=
  Any7.bits_TrailingZeros64 lays x (by omega) w (fun _ j hj => hT j (by simpa [Lib.deBruijn64tab] using hj))
theorem tz_any (x : Nat) (h0 : x ≠ 0) (hx : x < 1024) (w : World) (hT : Tab w) :
    Calls Tryd.prog 75 #[.int .u64 (x : Int)] w fun e w' => e = .returned (.int .i64 (Lib.ctz 64 x : Nat)) ∧ w' = w := by
  have HC := Lib.hid (tz64_any x h0 hx w hT)
  clear h0 hT
  go_enter Tryd.func75, Tryd.ntmps75
  go_wp2_with fail
  refine HC.out.mono ?_
  rintro e w' ⟨rfl, rfl⟩
  go_wp2_with fail
  go_ret
  exact ⟨rfl, rfl⟩
theorem set_any (i : Nat) (hi : i ≤ 10) (w : World) :
    Calls Tryd.prog 53 #[.int .i64 (i : Int)] w fun e w' => e = .returned (.int .u64 ((2 ^ i : Nat) : Int)) ∧ w' = w := by
  go_enter Tryd.func53, Tryd.ntmps53
  rcases (show i = 0 ∨ i = 1 ∨ i = 2 ∨ i = 3 ∨ i = 4 ∨ i = 5 ∨ i = 6 ∨ i = 7 ∨ i = 8 ∨ i = 9 ∨ i = 10 by omega) with h | h | h | h | h | h | h | h | h | h | h <;> subst h <;> (go_wp2_with fail; go_ret; exact ⟨rfl, rfl⟩)
/-- a less b, as sets. -/
def an (a b : Nat) : Nat := a &&& (1023 - b)
theorem an_bit {a b : Nat} (hb : b < 1024) (ha : a < 1024) (i : Nat) : (an a b).testBit i = (a.testBit i && !b.testBit i) := by
  unfold an
  rw [Nat.testBit_and, show 1023 - b = 2 ^ 10 - (b + 1) by omega, Nat.testBit_two_pow_sub_succ hb]
  by_cases hi : i < 10
  · rw [decide_eq_true hi, Bool.true_and]
  · rw [decide_eq_false hi, Nat.testBit_lt_two_pow (Nat.lt_of_lt_of_le ha (Nat.pow_le_pow_right (n := 2) (i := 10) (j := i) (by decide) (by omega)))]
    simp
theorem an_lt {a b : Nat} (ha : a < 1024) : an a b < 1024 := Nat.lt_of_le_of_lt Nat.and_le_left ha
theorem andNot_is (a b : Nat) (ha : a < 1024) (hb : b < 1024) : bits .andNot .u64 (a : Int) (b : Int) = ((an a b : Nat) : Int) := by
  rw [u64_andNot_nat a b (by omega) (by omega)]
  congr 1
  apply Nat.eq_of_testBit_eq
  intro i
  rw [an_bit hb ha, Nat.testBit_and, show 18446744073709551615 - b = 2 ^ 64 - (b + 1) by omega, Nat.testBit_two_pow_sub_succ (by omega)]
  by_cases hi : i < 64
  · rw [decide_eq_true hi, Bool.true_and]
  · rw [Nat.testBit_lt_two_pow (Nat.lt_of_lt_of_le ha (Nat.pow_le_pow_right (n := 2) (i := 10) (j := i) (by decide) (by omega)))]
    simp
theorem or_is (a b : Nat) (ha : a < 1024) (hb : b < 1024) : bits .or .u64 (a : Int) (b : Int) = ((a ||| b : Nat) : Int) := u64_or_nat a b (by omega) (by omega)
theorem and_is (a b : Nat) (ha : a < 1024) (hb : b < 1024) : bits .and .u64 (a : Int) (b : Int) = ((a &&& b : Nat) : Int) := u64_and_nat a b (by omega) (by omega)
theorem pow_lt {i : Nat} (hi : i < 10) : 2 ^ i < 1024 := Nat.pow_lt_pow_right (n := 10) (by decide) hi
end Go.Proofs.YtjllbbkpmmnkgaaDoor.Tz
