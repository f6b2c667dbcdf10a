/- Splitting at a byte: the plain function 'parts', and the contract of the model's l1Split: for every string of at most 1048576 bytes it returns a new slice that holds the parts. -/
import Derived.Test.YtaikphcemldikaaDoorRows
import Derived.WalkKit
import Derived.ProofKit
import Derived.Lib.Hide
import Derived.Maps.AppendAt
import Derived.RangeFuncBox
import Derived.WalkSpells
namespace Go.Proofs.YtaikphcemldikaaDoor.Split
open Go.RowKit

/-- What the first k bytes have given: the parts that are shut, and where the open one begins. -/
def st (s : ByteArray) (b : UInt8) : Nat → List ByteArray × Nat
  | 0 => ([], 0)
  | k + 1 => if s.data.toList[k]? = some b then ((st s b k).1 ++ [s.extract (st s b k).2 k], k + 1) else st s b k
def parts (s : ByteArray) (b : UInt8) : List ByteArray := (st s b s.size).1 ++ [s.extract (st s b s.size).2 s.size]

theorem st_bd (s : ByteArray) (b : UInt8) (k : Nat) : (st s b k).2 ≤ k ∧ (st s b k).1.length ≤ k := by
  induction k with
  | zero => exact ⟨Nat.le_refl _, Nat.le_refl _⟩
  | succ k ih =>
    unfold st
    split
    · exact ⟨Nat.le_refl _, by simp; omega⟩
    · exact ⟨by omega, by omega⟩
theorem st_hit (s : ByteArray) (b : UInt8) (k : Nat) (hk : k < s.size) (h : s[k] = b) : st s b (k + 1) = ((st s b k).1 ++ [s.extract (st s b k).2 k], k + 1) := by
  have h' : k < s.data.toList.length := by simpa using hk
  rw [st, if_pos (by rw [List.getElem?_eq_getElem h']; exact congrArg some h)]
theorem st_miss (s : ByteArray) (b : UInt8) (k : Nat) (hk : k < s.size) (h : s[k] ≠ b) : st s b (k + 1) = st s b k := by
  have h' : k < s.data.toList.length := by simpa using hk
  rw [st, if_neg (by rw [List.getElem?_eq_getElem h']; intro e; exact h (Option.some.inj e))]

theorem infoS : (Tryd.prog.info? 9).map (fun i => (i.zero, i.size, i.bytes)) = some (some (.string ⟨#[]⟩), 1, 16) := by kernel_rfl

def strs (l : List ByteArray) : List Value := l.map Value.string
theorem strs_len (l : List ByteArray) : (strs l).length = l.length := by simp [strs]
theorem strs_snoc (l : List ByteArray) (s : ByteArray) : strs l ++ [Value.string s] = strs (l ++ [s]) := by simp [strs]

/-- The relation of the loop: v owns the parts o, the rest of memory is as it was. -/
def Rel (B : Nat) (w wr : World) (v : Value) (o : List ByteArray) : Prop :=
  wr.ownsRow B 9 1 v o.length (strs o) ∧ Below B w wr
theorem rel_keep {B : Nat} {w wr w1 : World} {v v' : Value} {o : List ByteArray} {x : ByteArray} {ob : Obj} (h : Rel B w wr v o) (hB : B ≤ wr.heap.size)
    (hown' : w1.ownsRow B 9 1 v' (o.length + 1) (strs o ++ [Value.string x])) (hg : (wr.alloc ob).grownBy w1 v.ownBlock) : Rel B w w1 v' (o ++ [x]) := by
  refine ⟨by rw [← strs_snoc]; simpa using hown', ?_⟩
  exact (h.2.alloc hB ob).grown hg (by simp; omega) (fun k hk => (h.1.lt k hk).1)

set_option maxHeartbeats 1000000 in
theorem l1Split_any (s : ByteArray) (b : UInt8) (w : World) (hs : s.size ≤ 1048576) :
    Calls Tryd.prog 52 #[.string s, .int .u8 b.toNat] w fun e w' => ∃ v, e = .returned v ∧ Rel w.heap.size w w' v (parts s b) := by
  obtain ⟨i0, hi, hz0, hz1, hz2⟩ := info_parts infoS
  obtain ⟨B, hB⟩ : ∃ B, w.heap.size = B := ⟨_, rfl⟩
  have h0 : Rel B w (w.alloc (.cells #[] 9)) (.slice (some ⟨B, 0, none⟩) 0 0) (st s b 0).1 := by
    subst hB
    exact ⟨World.ownsRow_made w #[] 0 (Nat.le_refl _) (by unfold maxLen; omega) rfl, (Below.refl _ _).alloc (Nat.le_refl _) _⟩
  rw [hB]
  have HB := Lib.hid hB
  have H0 := Lib.hid h0
  clear hB h0
  go_enter Tryd.func52, Tryd.ntmps52
  go_wp2
  rw [HB.out]
  go_loopw [5, 6, 7] (fun v f i wr => ∃ k : Nat, k ≤ s.size ∧ i = .int .i64 k ∧ f = .int .i64 (st s b k).2 ∧ Rel B w wr v (st s b k).1) (fun _ _ i _ => s.size - (intOf i).toNat)
  case atStart => exact ⟨0, Nat.zero_le _, rfl, rfl, H0.out⟩
  case round =>
    obtain ⟨k, hk, rfl, rfl, hR⟩ := hrel
    have hbd := st_bd s b k
    have hBw : B ≤ wr.heap.size := by have := hR.2.size; rw [HB.out] at this; exact this
    by_cases hlt : k < s.size
    · by_cases heq : s[k] = b
      · have hst := st_hit s b k hlt heq
        have HS := Lib.hid hst
        clear hst
        have hbb : ((s[k].toNat : Int) == (b.toNat : Int)) = true := by rw [heq]; simp
        clear heq
        generalize (st s b k).1 = o at *
        generalize (st s b k).2 = f at *
        obtain ⟨hf, ho⟩ := hbd
        have HR := Lib.hid hR
        have hown := hR.1
        clear hR
        go_wp2_with (at_builtin; refine wpList_append_own _ rfl _ _ 33 rfl B 9 i0 (.string ⟨#[]⟩) 1 16 Tryd.underlying33 hi hz0 hz1 hz2 rfl (by decide) _ _ _ rfl (hown.alloc _) ⟨wr.heap.size, 0, none⟩ 1 1 [.string (s.extract f k)] rfl rfl (cell_one_new _ _ _) (by simp [Value.oneCell']) (by unfold maxLen; omega) (by omega) (by simp; omega) ?_; intro v' w1 hown' hgrow _)
        have hR' := rel_keep HR.out hBw hown' hgrow
        clear hown' hgrow hown
        go_roundw
        case rel => exact ⟨k + 1, by omega, by go_num, by rw [HS.out]; go_num, by rw [HS.out]; exact hR'⟩
        case measure => simp [intOf]; omega
      · have hst := st_miss s b k hlt heq
        have HS := Lib.hid hst
        clear hst
        have hbb : ((s[k].toNat : Int) == (b.toNat : Int)) = false := by
          rw [beq_eq_false_iff_ne]
          intro e
          exact heq (UInt8.toNat_inj.1 (by omega))
        clear heq
        go_wp2
        go_roundw
        case rel => exact ⟨k + 1, by omega, by go_num, by rw [HS.out], by rw [HS.out]; exact hR⟩
        case measure => simp [intOf]; omega
    · obtain rfl : k = s.size := by omega
      have hpt : parts s b = (st s b s.size).1 ++ [s.extract (st s b s.size).2 s.size] := rfl
      have HP := Lib.hid hpt
      clear hpt
      generalize (st s b s.size).1 = o at *
      generalize (st s b s.size).2 = f at *
      obtain ⟨hf, ho⟩ := hbd
      have HR := Lib.hid hR
      have hown := hR.1
      clear hR
      go_wp2_with (at_builtin; refine wpList_append_own _ rfl _ _ 33 rfl B 9 i0 (.string ⟨#[]⟩) 1 16 Tryd.underlying33 hi hz0 hz1 hz2 rfl (by decide) _ _ _ rfl (hown.alloc _) ⟨wr.heap.size, 0, none⟩ 1 1 [.string (s.extract f s.size)] rfl rfl (cell_one_new _ _ _) (by simp [Value.oneCell']) (by unfold maxLen; omega) (by omega) (by simp; omega) ?_; intro v' w1 hown' hgrow _)
      have hR' := rel_keep HR.out hBw hown' hgrow
      clear hown' hgrow hown
      go_ret
      exact ⟨_, rfl, by rw [HP.out]; exact hR'⟩
end Go.Proofs.YtaikphcemldikaaDoor.Split
