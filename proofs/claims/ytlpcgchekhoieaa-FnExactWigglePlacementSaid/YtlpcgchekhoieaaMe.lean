/- The laws' helpers on measurements: size, copy, equality. -/
import Derived.Test.YtlpcgchekhoieaaIb
namespace Go.Proofs.Ytlpcgchekhoieaa.Me
open Go.RowKit Pairs Rec Keep
set_option linter.unusedVariables false
def Copied (T : TypeId) (B : Nat) (w : World) (n : Nat) (l : List (Int × Int)) (e : Ending) (w' : World) : Prop :=
  ∃ g : Nat, e = .returned (.slice (some ⟨g, 0, none⟩) n n) ∧ w'.ownsRow B T 2 (.slice (some ⟨g, 0, none⟩) n n) n (flat l) ∧ Below B w w'


theorem szMeasurementS_any (a : Option Addr) (n c : Nat) (z : Int) (hz0 : 0 ≤ z) (hz1 : z ≤ 1048576) (hn : n ≤ 9223372036854775807) (w : World) :
    Calls Try.prog 33 #[.slice a n c, .int .i64 z] w fun e w' => e = .returned (.int .i64 (if z < n then -1 else z - n)) ∧ w = w' := by
  go_enter Try.func33, Try.ntmps33
  by_cases h : z < n
  · rw [if_pos h]
    have hh : z - n < 0 := by omega
    go_wp2
    go_ret
    exact ⟨rfl, rfl⟩
  · rw [if_neg h]
    have hh : ¬ z - n < 0 := by omega
    go_wp2
    go_ret
    exact ⟨rfl, rfl⟩
theorem toMeasurement_any (x y : Int) (w : World) :
    Calls Try.prog 28 #[.agg #[.int .i64 x, .int .i64 y]] w fun e w' => e = .returned (.agg #[.int .i64 x, .int .i64 y]) ∧ Below w.heap.size w w' := by
  go_enter Try.func28, Try.ntmps28
  go_wp2
  try simp only [Exit.inBlock, Exit.then]
  refine bodyPost_ret (v := .agg #[.int .i64 x, .int .i64 y]) (by simp [results, Try.results28, go_sem]) rfl ⟨rfl, below_alloc3 _ _ _ _⟩
theorem infoMeasurement : (Try.prog.info? 45).map (fun i => (i.zero, i.size, i.bytes)) = some (some (.agg #[.int .i64 0, .int .i64 0]), 2, 16) := by kernel_rfl

set_option maxRecDepth 100000 in
set_option maxHeartbeats 1000000 in
theorem toMeasurementS_any (a : Option Addr) (n c : Nat) (l : List (Int × Int)) (hz : n ≤ 1048576) (w : World) (h : Holds w a n l) :
    Calls Try.prog 35 #[.slice a n c] w (Copied 45 w.heap.size w n l) := by
  obtain ⟨i0, hi, hz0, hz1, hz2⟩ := info_parts infoMeasurement
  obtain ⟨B, hB⟩ : ∃ B, w.heap.size = B := ⟨_, rfl⟩
  have HB := Lib.hid hB
  have HH := Lib.hid h
  rw [hB]
  clear hB h
  go_enter Try.func35, Try.ntmps35
  go_wp2_with (at_make; refine wpList_make_full _ rfl _ _ 54 rfl B 45 i0 (.agg #[.int .i64 0, .int .i64 0]) 2 Try.underlying54 hi hz0 hz1 .i64 .i64 _ _ n rfl rfl (by omega) (by omega) (by rw [hz2]; omega) (by unfold maxLen; omega) (by rw [HB.out]; omega) ?_; intro w1 hown hgrow)
  have hU : Upto 45 B w w1 B n l 0 := by
    rw [HB.out] at hown
    exact ⟨_, hown, fun i hi => absurd hi (by omega), (Below.refl _ _).grown hgrow (by rw [HB.out]; omega) (fun k hk => by cases hk)⟩
  clear hown hgrow
  rw [HB.out]
  go_loopw [4] (fun i wr => ∃ k : Nat, k ≤ n ∧ i = .int .i64 k ∧ Upto 45 B w wr B n l k) (fun i _ => n - (intOf i).toNat)
  case atStart => exact ⟨0, Nat.zero_le _, rfl, hU⟩
  case round =>
    obtain ⟨k, hk, rfl, hR⟩ := hrel
    clear hU
    by_cases hlt : k < n
    · have hbel := hR.bel
      have hsz := hR.size
      rw [← HB.out] at hbel
      rw [HB.out] at hsz
      obtain ⟨b, off, x, y, rfl, hx, e1, e2⟩ := (HH.out.below hbel).at k hlt
      have HX := Lib.hid hx
      have HR := Lib.hid hR
      clear hx hbel hR
      have hi : (k : Int) < (n : Int) := by omega
      go_wp2_with fail
      refine (toMeasurement_any x y _).mono ?_
      rintro e wq ⟨rfl, hq⟩
      have hQ := upto_quiet HR.out hsz hq
      obtain ⟨⟨v0, hv0⟩, hf0⟩ := upto_facts hQ (k * 2) (by omega)
      obtain ⟨⟨v1, hv1⟩, hf1⟩ := upto_facts hQ (k * 2 + 1) (by omega)
      have hR' := upto_step hQ (Nat.le_refl _) hlt HX.out
      have HR2 := Lib.hid hR'
      clear hR' hQ hq e1 e2
      go_wp2_with fail
      exact ⟨⟨k + 1, by omega, by go_num, HR2.out⟩, by simp [intOf]; omega⟩
    · obtain rfl : k = n := by omega
      have hE := upto_end hR HH.out.1
      go_wp2
      go_ret
      exact ⟨B, rfl, hE.1, hE.2⟩
theorem eqMeasurement_same (x y : Int) (w : World) :
    Calls Try.prog 37 #[.agg #[.int .i64 x, .int .i64 y], .agg #[.int .i64 x, .int .i64 y]] w fun e w' => e = .returned (.bool true) ∧ Below w.heap.size w w' := by
  go_enter Try.func37, Try.ntmps37
  go_wp2
  go_ret
  exact ⟨rfl, below_alloc2 _ _ _⟩
set_option maxRecDepth 100000 in
set_option maxHeartbeats 1000000 in
theorem eqMeasurementS_same (a1 a2 : Option Addr) (n c1 c2 : Nat) (l : List (Int × Int)) (hz : n ≤ 1048576) (w : World) (h1 : Holds w a1 n l) (h2 : Holds w a2 n l) :
    Calls Try.prog 38 #[.slice a1 n c1, .slice a2 n c2] w fun e w' => e = .returned (.bool true) ∧ Below w.heap.size w w' := by
  have H1 := Lib.hid h1
  have H2 := Lib.hid h2
  clear h1 h2
  go_enter Try.func38, Try.ntmps38
  go_wp2
  go_loopw [5] (fun i wr => ∃ k : Nat, k ≤ n ∧ i = .int .i64 k ∧ Below w.heap.size w wr) (fun i _ => n - (intOf i).toNat)
  case atStart => exact ⟨0, Nat.zero_le _, rfl, Below.refl _ _⟩
  case round =>
    obtain ⟨k, hk, rfl, hb⟩ := hrel
    by_cases hlt : k < n
    · obtain ⟨b, off, x, y, rfl, hx, e1, e2⟩ := (H1.out.below hb).at k hlt
      obtain ⟨b', off', x', y', rfl, hx', e1', e2'⟩ := (H2.out.below hb).at k hlt
      obtain ⟨rfl, rfl⟩ : x' = x ∧ y' = y := by
        rw [hx] at hx'
        injection hx' with hx'
        injection hx' with ha hb
        exact ⟨ha.symm, hb.symm⟩
      have HX := Lib.hid hx
      clear hx hx'
      have hi : (k : Int) < (n : Int) := by omega
      go_wp2_with fail
      refine wp_region_still_tail 8 (by kernel_rfl) (by kernel_rfl) ?_
      simp only [List.take_succ_cons, List.take_zero, List.drop_succ_cons, List.drop_zero]
      repeat still_step
      refine wpStill_nil ?_
      go_wp2_with fail
      refine (eqMeasurement_same x' y' _).mono ?_
      rintro e wq ⟨rfl, hq⟩
      have hb' := hb.drew.trans (hq.mono hb.drew.size)
      clear hb e1 e2 e1' e2' hq
      go_wp2_with fail
      exact ⟨⟨k + 1, by omega, by go_num, hb'⟩, by simp [intOf]; omega⟩
    · go_wp2
      go_ret
      exact ⟨rfl, hb⟩
set_option maxRecDepth 100000 in
set_option maxHeartbeats 1000000 in
theorem markMe_any (B : Nat) (p : Option Addr) (n c : Nat) (k : Int) (ys : List Value) (hk0 : 0 ≤ k) (hk1 : k ≤ 10000000) (hz : n ≤ 1048576) (w : World) (h : w.ownsRow B 45 2 (.slice p n c) n ys) :
    Calls Try.prog 49 #[.slice p n c, .int .i64 k] w fun e w' => e = .returned (.int .i64 (k + 2 * n)) ∧ w'.ownsRow B 45 2 (.slice p n c) n (flat (marks k n)) ∧ Kept (fun b => (Value.slice p n c).ownBlock = some b) w w' := by
  have hU : UptoP 45 B w w p n c (marks k n) 0 := ⟨ys, h, fun i hi => absurd hi (by omega), Kept.refl _ _⟩
  clear h
  go_enter Try.func49, Try.ntmps49
  go_wp2_with fail
  go_loopw [1, 5] (fun s1 s5 wr => ∃ j : Nat, j ≤ n ∧ s5 = .int .i64 j ∧ s1 = .int .i64 (k + 2 * j) ∧ UptoP 45 B w wr p n c (marks k n) j) (fun _ s5 _ => n - (intOf s5).toNat)
  case atStart => exact ⟨0, Nat.zero_le _, rfl, by simp, hU⟩
  case round =>
    obtain ⟨j, hj, rfl, rfl, hR⟩ := hrel
    clear hU
    by_cases hlt : j < n
    · obtain ⟨g, rfl⟩ := hR.some (by omega)
      have hi : (j : Int) < (n : Int) := by omega
      obtain ⟨⟨v0, hv0⟩, hf0⟩ := uptoP_facts hR (j * 2) (by omega)
      obtain ⟨⟨v1, hv1⟩, hf1⟩ := uptoP_facts hR (j * 2 + 1) (by omega)
      have HR := Lib.hid (uptoP_step hR hlt (marks_at hlt))
      clear hR
      go_wp2_with fail
      exact ⟨⟨j + 1, by omega, by go_num, by go_num, HR.out⟩, by simp [intOf]; omega⟩
    · obtain rfl : j = n := by omega
      have hE := uptoP_end hR (marks_len k j)
      have HE := Lib.hid hE
      clear hE hR
      go_wp2_with fail
      go_ret
      exact ⟨rfl, HE.out⟩
end Go.Proofs.Ytlpcgchekhoieaa.Me
