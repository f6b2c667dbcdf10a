/- slices.Repeat over one interval. -/
import Derived.Test.YtmjhgjlnpnkmkaaRow2
import Derived.Test.YtmjhgjlnpnkmkaaDaG
import Derived.Laws.CopyOwn
import Derived.Deep.RegionLaw
namespace Go.Proofs.Ytmjhgjlnpnkmkaa.RepI
open Go.RowKit Pairs Rec Keep GivesI Row2
set_option linter.unusedVariables false
set_option maxRecDepth 100000 in
set_option maxHeartbeats 4000000 in
theorem mul64_any (n : Nat) (hn : n ≤ 10) (w : World) : Calls Try.prog 124 #[.int .u64 1, .int .u64 (n : Int)] w fun e w' => e = .returned (.tuple #[.int .u64 0, .int .u64 (n : Int)]) ∧ w = w' := by
  have h : n = 0 ∨ n = 1 ∨ n = 2 ∨ n = 3 ∨ n = 4 ∨ n = 5 ∨ n = 6 ∨ n = 7 ∨ n = 8 ∨ n = 9 ∨ n = 10 := by omega
  rcases h with rfl | rfl | rfl | rfl | rfl | rfl | rfl | rfl | rfl | rfl | rfl
  all_goals (go_enter Try.func124, Try.ntmps124)
  all_goals go_wp2_with fail
  all_goals go_ret2
  all_goals exact ⟨rfl, rfl⟩
set_option maxRecDepth 100000 in
set_option maxHeartbeats 4000000 in
theorem mul_any (n : Nat) (hn : n ≤ 10) (w : World) : Calls Try.prog 116 #[.int .u64 1, .int .u64 (n : Int)] w fun e w' => e = .returned (.tuple #[.int .u64 0, .int .u64 (n : Int)]) ∧ w = w' := by
  go_enter Try.func116, Try.ntmps116
  go_wp2_with fail
  refine (mul64_any n hn w).mono ?_
  rintro e w2 ⟨rfl, rfl⟩
  go_wp2_with fail
  go_ret2
  exact ⟨rfl, rfl⟩
theorem infoV : (Try.prog.info? 64).map (fun i => (i.zero, i.size, i.bytes)) = some (some (.agg #[.int .i64 0, .int .i64 0]), 2, 16) := by kernel_rfl
theorem sizeV : (Try.prog.info? 64).map (·.size) = some 2 := by kernel_rfl
abbrev rep (n : Nat) (p : Int × Int) : List (Int × Int) := List.replicate n p
theorem flat_rep (n : Nat) (p : Int × Int) (i : Nat) (hi : i < n * 2) : (flat (rep n p))[i]? = some (if i % 2 = 0 then .int .i64 p.1 else .int .i64 p.2) := by
  have hk : i / 2 < n := by omega
  have hg : (rep n p)[i / 2]? = some (p.1, p.2) := by rw [List.getElem?_replicate, if_pos hk]
  have e := flat_get (rep n p) (i / 2) p.1 p.2 hg
  by_cases h : i % 2 = 0
  · rw [if_pos h]
    have e2 := e.1
    rw [show i / 2 * 2 = i by omega] at e2
    exact e2
  · rw [if_neg h]
    have h2 : i = i / 2 * 2 + 1 := by omega
    rw [h2]
    exact e.2
/-- A row of n of which the first k are p. -/
def RR (B : Nat) (w wr : World) (g n : Nat) (p : Int × Int) (k : Nat) (cur : List Value) : Prop :=
  wr.heap[g]? = some (.cells cur.toArray 64) ∧ cur.length = n * 2 ∧ (∀ i, i < k * 2 → cur[i]? = (flat (rep n p))[i]?) ∧ Below B w wr
theorem RR.step {B : Nat} {w wr : World} {g n k m : Nat} {p : Int × Int} {cur : List Value} (h : RR B w wr g n p k cur) (hB : B ≤ g) (hm : k + m ≤ n) :
    RR B w (wr.setRow g (splice cur (k * 2) (flat (rep m p))).toArray) g n p (k + m) (splice cur (k * 2) (flat (rep m p))) := by
  obtain ⟨h1, h2, h3, h4⟩ := h
  have hfl : (flat (rep m p)).length = m * 2 := by rw [flat_len, List.length_replicate]
  refine ⟨setRow_heap _ g _ _ _ _ h1, by rw [length_splice _ _ _ (by rw [hfl]; omega), h2], fun i hi => ?_, below_setRow (B := B) (w0 := w) (w := wr) (g := g) h4 hB _⟩
  unfold splice
  by_cases hk : i < k * 2
  · rw [List.getElem?_append_left (by rw [List.length_take]; omega), List.getElem?_take_of_lt hk]
    exact h3 i hk
  · rw [List.getElem?_append_right (by rw [List.length_take]; omega), List.length_take, Nat.min_eq_left (by omega), List.getElem?_append_left (by rw [hfl]; omega), flat_rep m p _ (by omega), flat_rep n p _ (by omega)]
    have e : (i - k * 2) % 2 = i % 2 := by omega
    rw [e]
theorem rr_end {B : Nat} {w wr : World} {g n : Nat} {p : Int × Int} {cur : List Value} (h : RR B w wr g n p n cur) : cur = flat (rep n p) := by
  obtain ⟨h1, h2, h3, h4⟩ := h
  apply List.ext_getElem?
  intro i
  by_cases hi : i < n * 2
  · exact h3 i hi
  · rw [List.getElem?_eq_none (by omega), List.getElem?_eq_none (by rw [flat_len, List.length_replicate]; omega)]
def RepAns (n : Nat) (p : Int × Int) (w : World) (e : Ending) (w' : World) : Prop :=
  ∃ g : Nat, e = .returned (.slice (some ⟨g, 0, none⟩) n n) ∧ w.heap.size ≤ g ∧ w'.heap[g]? = some (.cells (flat (rep n p)).toArray 64) ∧ Below w.heap.size w w'
theorem flat_one (l : List (Int × Int)) : ∀ v ∈ flat l, v.oneCell' = true := by
  intro v hv
  unfold flat at hv
  rw [List.mem_flatMap] at hv
  obtain ⟨p, _, hp⟩ := hv
  simp at hp
  rcases hp with rfl | rfl <;> rfl
set_option maxRecDepth 100000 in
set_option maxHeartbeats 8000000 in
theorem repeat_any (n : Nat) (hn : n ≤ 10) (a : Addr) (c : Nat) (x y : Int) (w : World) (ha0 : w.cell? a = some (.int .i64 x)) (ha1 : w.cell? (a.add 1) = some (.int .i64 y)) :
    Calls Try.prog 98 #[.slice (some a) 1 c, .int .i64 (n : Int)] w (RepAns n (x, y) w) := by
  have hmk := run_make2 (P := Try.prog) w 48 64 Try.underlying48 infoV n (by omega)
  have HS : Hid (w.cell? a = some (.int .i64 x) ∧ w.cell? (a.add 1) = some (.int .i64 y)) := ⟨ha0, ha1⟩
  have hu1 : IntKind.u64.wrap (n : Int) = (n : Int) := by rw [IntKind.wrap_u64]; omega
  have hi1 : IntKind.i64.wrap (n : Int) = (n : Int) := by rw [IntKind.wrap_i64]; omega
  have hnn : ¬ (9223372036854775807 : Int) < (n : Int) := by omega
  clear ha0 ha1
  go_enter Try.func98, Try.ntmps98
  go_wp2_with fail
  refine (mul_any n hn w).mono ?_
  rintro e w2 ⟨rfl, rfl⟩
  have HB0 := Lib.hid (below_alloc w (.cells (zeros n).toArray 64))
  have hH0 : (w.alloc (.cells (zeros n).toArray 64)).heap[w.heap.size]? = some (.cells (zeros n).toArray 64) := by show (w.heap.push _)[w.heap.size]? = _; rw [Array.getElem?_push, if_pos rfl]
  have HH0 := Lib.hid hH0
  have hlw : w.heap.size < (w.alloc (.cells (zeros n).toArray 64)).heap.size := by simp
  obtain ⟨m0, hm0, hm1, hmn⟩ : ∃ m0, Nat.min 1 n = m0 ∧ (m0 = 1 ∨ n = 0) ∧ m0 ≤ 1 ∧ m0 ≤ n := ⟨Nat.min 1 n, rfl, by simp only [Nat.min_def]; split <;> omega, Nat.min_le_left _ _, Nat.min_le_right _ _⟩
  have HM := Lib.hid (And.intro hm1 hmn)
  have HSR : Hid (∀ j v, (flat (rep m0 (x, y)))[j]? = some v → (w.alloc (.cells (zeros n).toArray 64)).cell? (a.add j) = some v) := by
    intro j v hj
    have hjl := (List.getElem?_eq_some_iff.1 hj).1
    rw [flat_len, List.length_replicate] at hjl
    have c1 := (HB0.out.cell (World.block_lt_of_cell? w _ HS.out.1)).trans HS.out.1
    have c2 := (HB0.out.cell (World.block_lt_of_cell? w _ HS.out.2)).trans HS.out.2
    rw [flat_rep m0 (x, y) j hjl] at hj
    injection hj with hj
    by_cases h0 : j = 0
    · subst h0
      rw [← hj]
      simpa [Addr.add] using c1
    · have h1 : j = 1 := by omega
      subst h1
      rw [← hj]
      exact c2
  have HFL : Hid ((flat (rep m0 (x, y))).length = m0 * 2) := by unfold Hid; rw [flat_len, List.length_replicate]
  have HZL := Lib.hid (zeros_len n)
  have HR0 : Hid (RR w.heap.size w (w.alloc (.cells (zeros n).toArray 64)) w.heap.size n (x, y) 0 (zeros n)) := ⟨hH0, zeros_len n, fun i hi => absurd hi (by omega), HB0.out⟩
  clear hH0 hm1 hmn
  generalize zeros n = Z at *
  obtain ⟨W, hW⟩ : ∃ W, w.alloc (.cells Z.toArray 64) = W := ⟨_, rfl⟩
  rw [hW] at hmk HB0 HH0 hlw HSR HR0
  clear hW
  go_wp2_with (with_reducible refine wpList_copy2 rfl (.tmp 31) (.tmp 32) 48 48 rfl 64 Try.underlying48 sizeV (some ⟨w.heap.size, 0, none⟩) (some a) n n 1 c rfl rfl m0 hm0 w.heap.size 0 Z 64 HH0.out (flat (rep m0 (x, y))) HFL.out (fun _ => ⟨rfl, a, rfl, HSR.out⟩) (by rw [HFL.out, HZL.out]; have := HM.out; omega) (flat_one _) ?_; intro w2 hw2)
  have HR1 := Lib.hid (HR0.out.step (m := m0) (Nat.le_refl _) (by have := HM.out; omega))
  rw [Nat.zero_mul, ← hw2.out, Nat.zero_add] at HR1
  generalize splice Z 0 (flat (rep m0 (x, y))) = Z2 at *
  clear hw2 HR0 HH0 HSR HZL HFL hm0 hlw HB0
  go_loopw [8] (fun s8 wr => ∃ k : Nat, k ≤ n ∧ s8 = .int .i64 (k : Int) ∧ (1 ≤ k ∨ n = 0) ∧ Hid (∃ cur, RR w.heap.size w wr w.heap.size n (x, y) k cur)) (fun s8 _ => n - (intOf s8).toNat)
  case atStart =>
    have hm := HM.out
    exact ⟨m0, by omega, rfl, by omega, _, HR1.out⟩
  case round =>
    obtain ⟨k, hk, rfl, hk1, HR⟩ := hrel
    by_cases hlt : k < n
    · obtain ⟨cur, hR⟩ := HR.out
      have hki : (k : Int) < (n : Int) := by omega
      obtain ⟨m, hm, hmk1, hmk2, hmp⟩ : ∃ m, Nat.min k (n - k) = m ∧ m ≤ k ∧ k + m ≤ n ∧ 1 ≤ m := ⟨Nat.min k (n - k), rfl, Nat.min_le_left _ _, by have h9 : Nat.min k (n - k) ≤ n - k := Nat.min_le_right _ _; omega, Nat.le_min.2 ⟨by omega, by omega⟩⟩
      have HMM := Lib.hid (And.intro hmk1 (And.intro hmk2 hmp))
      have HB := Lib.hid hR.1
      have HL := Lib.hid hR.2.1
      have HFL : Hid ((flat (rep m (x, y))).length = m * 2) := by unfold Hid; rw [flat_len, List.length_replicate]
      have HSR : Hid (∀ j v, (flat (rep m (x, y)))[j]? = some v → wr.drew.cell? ((⟨w.heap.size, 0, none⟩ : Addr).add j) = some v) := by
        intro j v hj
        have hjl := (List.getElem?_eq_some_iff.1 hj).1
        rw [flat_len, List.length_replicate] at hjl
        rw [Addr.add_lit, Nat.zero_add]
        show wr.cell? _ = some v
        simp only [World.cell?, hR.1, List.getElem?_toArray]
        rw [hR.2.2.1 j (by omega), flat_rep n (x, y) j (by omega)]
        rw [flat_rep m (x, y) j hjl] at hj
        rw [hj]
        rfl
      have HR2 := Lib.hid (RR.step (wr := wr.drew) (m := m) ⟨hR.1, hR.2.1, hR.2.2.1, hR.2.2.2.drew⟩ (Nat.le_refl _) hmk2)
      have hFT : k * 2 + (flat (rep m (x, y))).length ≤ cur.length := by rw [HFL.out, HL.out]; omega
      have HFT := Lib.hid hFT
      have hw1 : IntKind.i64.wrap ((k : Int) + (m : Int)) = ((k + m : Nat) : Int) := by rw [IntKind.wrap_i64]; omega
      have hne : ¬ n = k := by omega
      have hnk : ((n : Int) - (k : Int)).toNat = n - k := by omega
      clear hR hFT hmk1 hmk2 hmp HR1
      go_wp2_with fail
      have hkn1 : (k : Int) ≤ (n : Int) := by omega
      go_region_law (refine step_copy2 rfl (.tmp 41) (.tmp 44) 48 48 rfl 64 Try.underlying48 sizeV (some ⟨w.heap.size, k * 2, none⟩) (some ⟨w.heap.size, 0, none⟩) (n - k) (n - k) k n (by simp [Act.eval, Act.put]) (by simp [Act.eval, Act.put]) m hm w.heap.size (k * 2) cur 64 HB.out (flat (rep m (x, y))) HFL.out (fun _ => ⟨rfl, _, rfl, HSR.out⟩) HFT.out (flat_one _) ?_)
      have hmm := HMM.out
      go_wp2_with fail
      refine ⟨⟨_, _, _, _, _, _, _, _, _, _, _, _, _, _, ⟨k + m, by omega, ?_, by omega, _, HR2.out⟩, rfl⟩, ?_⟩
      · show Value.int .i64 _ = _
        go_num
      · show n - (intOf (Value.int .i64 ((k : Int) + (m : Int)))).toNat < _
        simp [intOf]; omega
    · obtain rfl : k = n := by omega
      obtain ⟨cur, hR⟩ := HR.out
      have e := rr_end hR
      subst e
      have HE := Lib.hid hR
      have hkn : ¬ (k : Int) < (k : Int) := by omega
      clear hR
      go_wp2_with fail
      go_ret
      exact ⟨_, rfl, Nat.le_refl _, HE.out.1, HE.out.2.2.2⟩
end Go.Proofs.Ytmjhgjlnpnkmkaa.RepI
