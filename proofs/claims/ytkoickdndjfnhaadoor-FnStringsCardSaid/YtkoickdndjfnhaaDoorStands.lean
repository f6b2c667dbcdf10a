/- The model's l1Stands: whether a byte stands in a string, for every string of at most 1048576 bytes. -/
import Derived.Test.YtkoickdndjfnhaaDoorRows
import Derived.WalkKit
import Derived.ProofKit
import Derived.Lib.Hide
namespace Go.Proofs.YtkoickdndjfnhaaDoor.Stands
open Go.RowKit
def hasB (l : List UInt8) (c : UInt8) : Bool := l.contains c
theorem take_mem (l : List UInt8) (k : Nat) (c : UInt8) (h : ¬ c ∈ l.take k) (hk : k < l.length) (hne : l[k] ≠ c) : ¬ c ∈ l.take (k + 1) := by
  intro hm
  rw [List.take_succ_eq_append_getElem hk, List.mem_append] at hm
  rcases hm with hm | hm
  · exact h hm
  · exact hne (List.mem_singleton.1 hm).symm

set_option maxHeartbeats 400000 in
theorem l1Stands_any (s : ByteArray) (c : UInt8) (w : World) (hs : s.size ≤ 1048576) :
    Calls Tryd.prog 33 #[.string s, .int .u8 c.toNat] w fun e w' => e = .returned (.bool (hasB s.data.toList c)) ∧ w = w' := by
  go_enter Tryd.func33, Tryd.ntmps33
  go_wp2
  go_loop [5] (fun i => ∃ k : Nat, k ≤ s.size ∧ i = .int .i64 k ∧ Hid (¬ c ∈ s.data.toList.take k)) (fun i => s.size - (intOf i).toNat)
  case atStart => exact ⟨0, Nat.zero_le _, rfl, by simp [Hid]⟩
  case round =>
    obtain ⟨k, hk, rfl, HM⟩ := hrel
    by_cases hlt : k < s.size
    · have hkl : k < s.data.toList.length := by simpa using hlt
      by_cases heq : s[k] = c
      · have hb : ((s[k].toNat : Int) == (c.toNat : Int)) = true := by rw [heq]; simp
        have hc : hasB s.data.toList c = true := by
          unfold hasB
          rw [List.contains_iff_mem]
          exact heq ▸ List.getElem_mem hkl
        have HC := Lib.hid hc
        clear hc heq
        go_wp2
        go_ret
        exact ⟨by rw [HC.out]; rfl, rfl⟩
      · have hb : ((s[k].toNat : Int) == (c.toNat : Int)) = false := by
          rw [beq_eq_false_iff_ne]
          intro e
          exact heq (UInt8.toNat_inj.1 (by omega))
        have hm := take_mem _ k c HM.out hkl heq
        have HM' := Lib.hid hm
        clear hm heq
        go_wp2
        go_round
        case rel => exact ⟨k + 1, by omega, by go_num, HM'⟩
        case measure => simp [intOf]; omega
    · have hc : hasB s.data.toList c = false := by
        unfold hasB
        have := HM.out
        rw [List.take_of_length_le (by simp; omega)] at this
        simpa using this
      have HC := Lib.hid hc
      clear hc
      go_wp2
      go_ret
      exact ⟨by rw [HC.out]; rfl, rfl⟩

end Go.Proofs.YtkoickdndjfnhaaDoor.Stands
