/- intervalsIn: the program's iterator over the intervals of the years of another one: its contract. -/
import Derived.Test.YtfnbjfmegikciaaYr
namespace Go.Proofs.Ytfnbjfmegikciaa.In
open Go.RowKit Go.Shelf Pairs Rec Keep GivesI ShI Yr
attribute [local go_sem] Oper.semAt_some
set_option linter.unusedVariables false
/-- The intervals of k + 1 years. -/
def L1 (f t : Int) (k : Nat) : List (Int × Int) := (List.range (t + 1 - f - k).toNat).map fun (i : Nat) => (f + (i : Int), f + (i : Int) + (k : Int))
def upI (f t : Int) (i : Nat) : List (Int × Int) := (List.range i).flatMap (L1 f t)
def ivs (f t : Int) : List (Int × Int) := upI f t (t + 1 - f).toNat
theorem L1_len (f t : Int) (k : Nat) : (L1 f t k).length = (t + 1 - f - k).toNat := by unfold L1; simp
theorem L1_at {f t : Int} {k j : Nat} (h : j < (t + 1 - f - k).toNat) : (L1 f t k)[j]? = some (f + (j : Int), f + (j : Int) + (k : Int)) := by
  unfold L1
  rw [List.getElem?_map, List.getElem?_range h]
  rfl
theorem L1_take {f t : Int} {k j : Nat} (h : j < (t + 1 - f - k).toNat) : (L1 f t k).take (j + 1) = (L1 f t k).take j ++ [(f + (j : Int), f + (j : Int) + (k : Int))] := by
  rw [List.take_add_one, L1_at h]
  rfl
theorem upI_next (f t : Int) (i : Nat) : upI f t (i + 1) = upI f t i ++ L1 f t i := by
  unfold upI
  rw [List.range_succ, List.flatMap_append]
  simp
theorem upI_pre (f t : Int) (i : Nat) : ∀ d, upI f t i <+: upI f t (i + d)
  | 0 => List.prefix_refl _
  | d + 1 => by
    rw [← Nat.add_assoc, upI_next]
    exact (upI_pre f t i d).trans (List.prefix_append _ _)
theorem row_pre {f t : Int} {k j : Nat} (hk : k < (t + 1 - f).toNat) : upI f t k ++ (L1 f t k).take j <+: ivs f t := by
  have h1 : upI f t k ++ (L1 f t k).take j <+: upI f t (k + 1) := by
    rw [upI_next]
    exact (List.prefix_append_right_inj _).2 (List.take_prefix _ _)
  have h2 := upI_pre f t (k + 1) ((t + 1 - f).toNat - (k + 1))
  rw [show k + 1 + ((t + 1 - f).toNat - (k + 1)) = (t + 1 - f).toNat by omega] at h2
  exact h1.trans h2
theorem ivs_mem {f t : Int} {p : Int × Int} (h : p ∈ ivs f t) : f ≤ p.1 ∧ p.1 ≤ p.2 ∧ p.2 ≤ t := by
  unfold ivs upI at h
  rw [List.mem_flatMap] at h
  obtain ⟨k, _, hp⟩ := h
  unfold L1 at hp
  rw [List.mem_map] at hp
  obtain ⟨i, hi, rfl⟩ := hp
  rw [List.mem_range] at hi
  simp only
  omega
/-- An interval that comes. -/
abbrev Ix (f t : Int) := { p : Int × Int // p ∈ ivs f t }
abbrev encI {f t : Int} (x : Ix f t) : Array Value := #[.agg #[.int .i64 x.1.1, .int .i64 x.1.2]]
set_option maxRecDepth 100000 in
set_option maxHeartbeats 4000000 in
theorem in_stops (n : Nat) (hn : 2 ≤ n) (f t : Int) (hf : -1000000000 ≤ f ∧ f ≤ 1000000000) (ht : -1000000000 ≤ t ∧ t ≤ 1000000000) (B : Nat) (w : World) (h0 : w.cell? ⟨B, 0, none⟩ = some (.int .i64 f)) (h1 : w.cell? ⟨B, 1, none⟩ = some (.int .i64 t)) :
    SeqStopsK Fence.wide n Try.prog 80 #[.pointer (some ⟨B, 0, none⟩)] (encI (f := f) (t := t)) (KpC B) (fun xs => xs.map (·.1) = ivs f t) (fun pre => pre.map (·.1) <+: ivs f t) (ivs f t).length w := by
  intro l0 J Jx W hW hJ hJx hY hj0
  have hBl : B < w.heap.size := World.block_lt_of_cell? w _ h0
  have HK0 : Hid (KpC B w W) := KpC.of_below hW hBl
  obtain ⟨N, hN⟩ : ∃ N, N = (t + 1 - f).toNat := ⟨_, rfl⟩
  obtain ⟨LN, hLN⟩ : ∃ LN, LN = (ivs f t).length := ⟨_, rfl⟩
  rw [← hLN] at hY
  have HLN := Lib.hid hLN
  clear hLN
  have c0 := HK0.out.cell h0
  have c1 := HK0.out.cell h1
  have HJ0 := Lib.hid hj0
  clear hW hj0
  show CallsIn Fence.wide n Try.prog 80 #[.func (.yield l0) #[] #[], .pointer (some ⟨B, 0, none⟩)] W _
  refine callsIn_of_wp Try.func80 rfl trivial ?_ rfl
  simp only [Try.ntmps80, List.size_toArray, List.length_cons, List.length_nil, Nat.reduceAdd, Nat.reduceSub, Array.replicate_succ, Array.replicate_zero, List.push_toArray, List.append_toArray, List.nil_append, List.cons_append]
  gi_wp2
  gi_loopw [11] (fun s11 wr => ∃ (k : Nat) (pre : List (Ix f t)), k ≤ N ∧ s11 = .int .i64 (k : Int) ∧ Hid (pre.map (·.1) = upI f t k) ∧ Hid (J pre wr) ∧ Hid (KpC B w wr)) (fun s11 _ => N - (intOf s11).toNat)
  case atStart => exact ⟨0, [], Nat.zero_le _, rfl, rfl, HJ0.out, HK0⟩
  case round =>
    obtain ⟨k, pre, hk, rfl, HP, HJ, HK⟩ := hrel
    have d0 := HK.out.cell h0
    have d1 := HK.out.cell h1
    clear c0 c1
    by_cases hlt : k < N
    · have hkt : (k : Int) < t - f + 1 := by omega
      gi_wp2
      gi_loopw [4] (fun s4 wr2 => ∃ (j : Nat) (pre : List (Ix f t)), j ≤ N - k ∧ s4 = .int .i64 (f + (j : Int)) ∧ Hid (pre.map (·.1) = upI f t k ++ (L1 f t k).take j) ∧ Hid (J pre wr2) ∧ Hid (KpC B w wr2)) (fun s4 _ => N - k - (intOf s4 - f).toNat)
      case atStart => exact ⟨0, pre, Nat.zero_le _, by simp, by unfold Hid; rw [HP.out]; simp, HJ, HK⟩
      case round =>
        rename World => wr2
        obtain ⟨j, pre2, hj, rfl, HP3, HJ3, HK3⟩ := hrel
        have e0 := HK3.out.cell h0
        have e1 := HK3.out.cell h1
        clear d0 d1
        by_cases hlj : j < N - k
        · have hjt : f + (j : Int) + (k : Int) ≤ t := by omega
          have hjj : j < (t + 1 - f - k).toNat := by omega
          have hpx := row_pre (f := f) (t := t) (k := k) (j := j + 1) (by omega)
          rw [L1_take hjj, ← List.append_assoc] at hpx
          have hmem : (f + (j : Int), f + (j : Int) + (k : Int)) ∈ ivs f t := hpx.subset (by simp)
          have hlen : pre2.length < LN := by
            have a := hpx.length_le
            rw [← HP3.out, List.length_append, List.length_map, ← HLN.out] at a
            simp at a
            omega
          obtain ⟨fn, tmps, assign, body, hy, hR⟩ := hY pre2 ⟨(f + (j : Int), f + (j : Int) + (k : Int)), hmem⟩ wr2 HJ3.out hlen
          dsimp only [encI] at hy
          have HPX := Lib.hid hpx
          have HUP : Hid ((pre2 ++ [(⟨(f + (j : Int), f + (j : Int) + (k : Int)), hmem⟩ : Ix f t)]).map (·.1) = upI f t k ++ (L1 f t k).take (j + 1)) := by
            unfold Hid
            rw [List.map_append, HP3.out, L1_take hjj, List.append_assoc]
            rfl
          have HUX : Hid ((pre2 ++ [(⟨(f + (j : Int), f + (j : Int) + (k : Int)), hmem⟩ : Ix f t)]).map (·.1) <+: ivs f t) := by
            unfold Hid
            rw [HUP.out]
            exact row_pre (by omega)
          clear hpx hlen
          gi_wp2
          refine ⟨(fun h => by cases h), ?_⟩
          refine hR.mono ?_
          rintro e W3 (⟨rfl, hJ3, hk3⟩ | ⟨rfl, hJx3⟩)
          · have HK5 := Lib.hid (HK3.out.trans hk3)
            have HJ5 := Lib.hid hJ3
            clear hJ3 hk3
            gi_wp2
            go_roundw
            case rel => exact ⟨j + 1, _, by omega, by go_num, HUP, HJ5, HK5⟩
            case measure => simp [intOf]; omega
          · have HJ5 := Lib.hid hJx3
            clear hJx3
            gi_wp2
            refine bodyPost_ret (results_none rfl _ _ _) rfl ?_
            exact ⟨⟨_, rfl⟩, .inr ⟨_, HUX.out, HJ5.out⟩⟩
        · obtain rfl : j = N - k := by omega
          have hjt : ¬ f + ((N - k : Nat) : Int) + (k : Int) ≤ t := by omega
          have HU := Lib.hid (show pre2.map (·.1) = upI f t (k + 1) by rw [HP3.out, upI_next, List.take_of_length_le (by rw [L1_len]; omega)])
          gi_wp2
          go_roundw
          case rel => exact ⟨k + 1, pre2, by omega, by go_num, HU, HJ3, HK3⟩
          case measure => simp [intOf]; omega
    · obtain rfl : k = N := by omega
      have hkt : ¬ (k : Int) < t - f + 1 := by omega
      have HF := Lib.hid (show pre.map (·.1) = ivs f t by rw [HP.out, hN]; rfl)
      gi_wp2
      go_end0
      exact ⟨⟨_, rfl⟩, .inl ⟨pre, HF.out, HJ.out⟩⟩
/-- What intervalsIn gives. -/
theorem intervalsIn_b (f t : Int) (w : World) :
    Calls Try.prog 68 #[.agg #[.int .i64 f, .int .i64 t]] w fun e w' => e = .returned (.func (.func 80) #[] #[.pointer (some ⟨w.heap.size, 0, none⟩)]) ∧ Below w.heap.size w w' ∧ w'.cell? ⟨w.heap.size, 0, none⟩ = some (.int .i64 f) ∧ w'.cell? ⟨w.heap.size, 1, none⟩ = some (.int .i64 t) := by
  go_enter Try.func68, Try.ntmps68
  go_wp2_with fail
  go_ret
  exact ⟨rfl, below_alloc w _, box_first _ _ _ _, box_second _ _ _ _⟩
end Go.Proofs.Ytfnbjfmegikciaa.In
