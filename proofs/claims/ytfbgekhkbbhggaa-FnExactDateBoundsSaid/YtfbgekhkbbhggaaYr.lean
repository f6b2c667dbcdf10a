/- yearsOf: the program's iterator over the years of an interval: its contract. -/
import Derived.Test.YtfbgekhkbbhggaaShI
import Derived.RangeFuncNested
import Derived.RangeFuncLeaves
import Derived.Shelf.Abstract
import Derived.Shelf.RegionOpen
import Derived.OwnWalkIn
import Derived.TacticsInMore
import Derived.LoopNIn
import Derived.LoopIn
namespace Go.Proofs.Ytfbgekhkbbhggaa.Yr
open Go.RowKit Go.Shelf Pairs Rec Keep GivesI ShI
attribute [local go_sem] Oper.semAt_some
set_option linter.unusedVariables false
/-- What a round keeps: block B. -/
structure KpC (B : Nat) (W W' : World) : Prop where
  size : W.heap.size ≤ W'.heap.size
  block : W'.heap[B]? = W.heap[B]?
theorem KpC.refl (B : Nat) (W : World) : KpC B W W := ⟨Nat.le_refl _, rfl⟩
theorem KpC.trans {B : Nat} {W W' W'' : World} (h : KpC B W W') (k : KpC B W' W'') : KpC B W W'' := ⟨Nat.le_trans h.size k.size, k.block.trans h.block⟩
theorem KpC.of_below {B : Nat} {W W' : World} (h : Below W.heap.size W W') (hB : B < W.heap.size) : KpC B W W' := ⟨h.size, h.block B hB⟩
theorem kpC_b {B n₀ : Nat} (W : World) (l : Nat) (o o' : Obj) (h : n₀ ≤ l) (hB : B < n₀) : KpC B W (W.putObj l o') := ⟨by simp, World.putObj_heap_other (by omega)⟩
theorem KpC.cell {B : Nat} {W W' : World} (h : KpC B W W') {i : Nat} {v : Value} (hv : W.cell? ⟨B, i, none⟩ = some v) : W'.cell? ⟨B, i, none⟩ = some v :=
  (World.cell?_of_block h.block).trans hv
/-- The years of an interval. -/
def yrs (f t : Int) : List Int := (List.range (t + 1 - f).toNat).map fun (i : Nat) => f + (i : Int)
theorem yrs_len (f t : Int) : (yrs f t).length = (t + 1 - f).toNat := by unfold yrs; simp
theorem yrs_at {f t : Int} {k : Nat} (h : k < (t + 1 - f).toNat) : (yrs f t)[k]? = some (f + k) := by
  unfold yrs
  rw [List.getElem?_map, List.getElem?_range h]
  rfl
theorem yrs_take {f t : Int} {k : Nat} (h : k < (t + 1 - f).toNat) : (yrs f t).take (k + 1) = (yrs f t).take k ++ [f + (k : Int)] := by
  rw [List.take_add_one, yrs_at h]
  rfl
theorem yrs_mem {f t y : Int} : y ∈ yrs f t ↔ f ≤ y ∧ y ≤ t := by
  unfold yrs
  rw [List.mem_map]
  constructor
  · rintro ⟨i, hi, rfl⟩
    rw [List.mem_range] at hi
    omega
  · intro h
    exact ⟨(y - f).toNat, by rw [List.mem_range]; omega, by omega⟩
/-- A year that comes. -/
abbrev Yx (f t : Int) := { y : Int // y ∈ yrs f t }
abbrev encY {f t : Int} (y : Yx f t) : Array Value := #[.int .i64 y.1]
set_option maxRecDepth 100000 in
set_option maxHeartbeats 4000000 in
theorem yr_stops (n : Nat) (hn : 2 ≤ n) (f t : Int) (hf : -1000000000 ≤ f ∧ f ≤ 1000000000) (ht : -1000000000 ≤ t ∧ t ≤ 1000000000) (B : Nat) (w : World) (h0 : w.cell? ⟨B, 0, none⟩ = some (.int .i64 f)) (h1 : w.cell? ⟨B, 1, none⟩ = some (.int .i64 t)) :
    SeqStopsK Fence.wide n Try.prog 120 #[.pointer (some ⟨B, 0, none⟩)] (encY (f := f) (t := t)) (KpC B) (fun xs => xs.map (·.1) = yrs f t) (fun pre => pre.map (·.1) <+: yrs f t) (yrs f t).length w := by
  intro l0 J Jx W hW hJ hJx hY hj0
  have hBl : B < w.heap.size := World.block_lt_of_cell? w _ h0
  have HK0 : Hid (KpC B w W) := KpC.of_below hW hBl
  obtain ⟨N, hN⟩ : ∃ N, N = (t + 1 - f).toNat := ⟨_, rfl⟩
  rw [yrs_len, ← hN] at hY
  have HW := Lib.hid hW
  have c0 := HK0.out.cell h0
  clear hW
  show CallsIn Fence.wide n Try.prog 120 #[.func (.yield l0) #[] #[], .pointer (some ⟨B, 0, none⟩)] W _
  refine callsIn_of_wp Try.func120 rfl trivial ?_ rfl
  simp only [Try.ntmps120, List.size_toArray, List.length_cons, List.length_nil, Nat.reduceAdd, Nat.reduceSub, Array.replicate_succ, Array.replicate_zero, List.push_toArray, List.append_toArray, List.nil_append, List.cons_append]
  gi_wp2
  gi_loopw [3] (fun s3 wr => ∃ (k : Nat) (pre : List (Yx f t)), k ≤ N ∧ s3 = .int .i64 (f + (k : Int)) ∧ Hid (pre.map (·.1) = (yrs f t).take k) ∧ Hid (J pre wr) ∧ Hid (KpC B w wr)) (fun s3 _ => N - (intOf s3 - f).toNat)
  case atStart => exact ⟨0, [], Nat.zero_le _, by simp, rfl, hj0, HK0⟩
  case round =>
    obtain ⟨k, pre, hk, rfl, HP, HJ, HK⟩ := hrel
    have d1 := HK.out.cell h1
    clear c0
    by_cases hlt : k < N
    · have hkt : f + (k : Int) ≤ t := by omega
      have hmem : f + (k : Int) ∈ yrs f t := yrs_mem.2 (by omega)
      have hlen : pre.length < N := by
        have h := congrArg List.length HP.out
        rw [List.length_map, List.length_take, yrs_len] at h
        omega
      have HP2 : Hid ((pre ++ [(⟨f + (k : Int), hmem⟩ : Yx f t)]).map (·.1) = (yrs f t).take (k + 1)) := by
        unfold Hid
        rw [List.map_append, HP.out, yrs_take (by omega)]
        rfl
      obtain ⟨fn, tmps, assign, body, hy, hR⟩ := hY pre ⟨f + (k : Int), hmem⟩ wr HJ.out hlen
      dsimp only [encY] at hy
      gi_wp2
      refine ⟨(fun h => by cases h), ?_⟩
      refine hR.mono ?_
      rintro e W3 (⟨rfl, hJ3, hk3⟩ | ⟨rfl, hJx3⟩)
      · have HK5 := Lib.hid (HK.out.trans hk3)
        have HJ5 := Lib.hid hJ3
        clear hJ3 hk3
        gi_wp2
        go_roundw
        case rel => exact ⟨k + 1, _, by omega, by go_num, HP2, HJ5, HK5⟩
        case measure => simp [intOf]; omega
      · have HJ5 := Lib.hid hJx3
        clear hJx3
        gi_wp2
        refine bodyPost_ret (results_none rfl _ _ _) rfl ?_
        exact ⟨⟨_, rfl⟩, .inr ⟨_, by rw [HP2.out]; exact List.take_prefix _ _, HJ5.out⟩⟩
    · obtain rfl : k = N := by omega
      have hkt : ¬ f + (k : Int) ≤ t := by omega
      have HF := Lib.hid (show pre.map (·.1) = yrs f t by rw [HP.out, List.take_of_length_le (by rw [yrs_len]; omega)])
      gi_wp2
      go_end0
      exact ⟨⟨_, rfl⟩, .inl ⟨pre, HF.out, HJ.out⟩⟩
/-- What yearsOf gives. -/
theorem yearsOf_any (f t : Int) (w : World) :
    Calls Try.prog 92 #[.agg #[.int .i64 f, .int .i64 t]] w fun e w' => e = .returned (.func (.func 120) #[] #[.pointer (some ⟨w.heap.size, 0, none⟩)]) ∧ w' = w.alloc (.cells #[.int .i64 f, .int .i64 t] 86) := by
  go_enter Try.func92, Try.ntmps92
  go_wp2_with fail
  go_ret
  exact ⟨rfl, rfl⟩
end Go.Proofs.Ytfbgekhkbbhggaa.Yr
