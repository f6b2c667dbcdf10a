/- The model's l10At, l10Sum and WeightAt. -/
import Derived.Test.YtfbgekhkbbhggaaWaI
import Derived.Test.YtfbgekhkbbhggaaDvS
namespace Go.Proofs.Ytfbgekhkbbhggaa.WaS
open Go Go.RowKit Pairs Rec Keep GivesI DvM DvG DvS ShI Yr AtM WaI
set_option linter.unusedVariables false
set_option maxRecDepth 100000 in
set_option maxHeartbeats 2000000 in
theorem l10At_any (f : Int) (p : Option Addr) (n c : Nat) (M : List Int) (y : Int) (w : World) (hn : n ≤ 1048576) (hf : -1000000000 ≤ f ∧ f ≤ 1000000000) (hy : -1000000000 ≤ y ∧ y ≤ 1000000000) (h : HoldsI w p n M) :
    Calls Try.prog 87 #[.agg #[.int .i64 f, .slice p n c], .int .i64 y] w fun e w' => e = .returned (.int .i64 (wat f M y)) ∧ Below w.heap.size w w' := by
  have hb := below_alloc w (.cells #[.int .i64 f, .slice p n c] 50)
  have f1 := box_first w (.int .i64 f) (.slice p n c) 50
  have f2 := box_second w (.int .i64 f) (.slice p n c) 50
  have H := h.below hb
  have hl := h.1
  have HB := Lib.hid hb
  clear hb
  go_enter Try.func87, Try.ntmps87
  go_wp2_with fail
  generalize w.alloc (.cells #[.int .i64 f, .slice p n c] 50) = W at *
  refine (l1In_any y f (f + n - 1) W).mono ?_
  rintro e w1 ⟨rfl, rfl⟩
  by_cases h1 : f ≤ y ∧ y ≤ f + n - 1
  · rw [decide_eq_true h1]
    obtain ⟨i, hi⟩ : ∃ i : Nat, y - f = (i : Int) := ⟨(y - f).toNat, by omega⟩
    obtain ⟨b, off, x, rfl, hx, e1⟩ := H.at i (by omega)
    have HE := Lib.hid (wat_in (f := f) (M := M) (y := y) (x := x) (by omega) (by rw [hi]; exact hx))
    clear hx H h
    go_wp2_with fail
    go_ret
    exact ⟨by rw [HE.out]; rfl, HB.out⟩
  · rw [decide_eq_false h1]
    have HE := Lib.hid (wat_out (f := f) (M := M) (y := y) (by rw [hl]; exact h1))
    go_wp2_with fail
    go_ret
    exact ⟨by rw [HE.out]; rfl, HB.out⟩
theorem sum_take {L : List Int} {k : Nat} {x : Int} (h : L[k]? = some x) : (L.take (k + 1)).sum = (L.take k).sum + x := by
  rw [List.take_add_one, h, List.sum_append]
  simp
theorem sum_bd {m : Int} (hm : 0 ≤ m) : ∀ L : List Int, (∀ x ∈ L, 0 ≤ x ∧ x ≤ m) → 0 ≤ L.sum ∧ L.sum ≤ m * L.length
  | [], _ => by simp
  | y :: L, h => by
    have ih := sum_bd hm L fun x hx => h x (List.mem_cons_of_mem _ hx)
    have hb := h y (by simp)
    rw [List.sum_cons, List.length_cons]
    have : m * ((L.length + 1 : Nat) : Int) = m * L.length + m := by rw [Int.natCast_add, Int.mul_add]; simp
    omega
set_option maxRecDepth 100000 in
set_option maxHeartbeats 2000000 in
theorem l10Sum_any (p : Option Addr) (n c : Nat) (M : List Int) (w : World) (hn : n ≤ 1048576) (hM : ∀ x ∈ M, 0 ≤ x ∧ x ≤ 1000000) (h : HoldsI w p n M) :
    Calls Try.prog 86 #[.slice p n c] w fun e w' => e = .returned (.int .i64 M.sum) ∧ Below w.heap.size w w' := by
  have H := Lib.hid h
  have HM := Lib.hid hM
  have HL := Lib.hid h.1
  clear h hM
  go_enter Try.func86, Try.ntmps86
  go_wp2_with fail
  go_loop [3, 4] (fun s3 s4 => ∃ k : Nat, k ≤ n ∧ s4 = .int .i64 k ∧ s3 = .int .i64 (M.take k).sum) (fun _ s4 => n - (intOf s4).toNat)
  case atStart => exact ⟨0, Nat.zero_le _, rfl, rfl⟩
  case round =>
    obtain ⟨k, hk, rfl, rfl⟩ := hrel
    by_cases hlt : k < n
    · obtain ⟨b, off, x, rfl, hx, e1⟩ := H.out.at k hlt
      have hkn : (k : Int) < (n : Int) := by omega
      have HT := Lib.hid (sum_take hx)
      have hx0 := HM.out x (List.mem_of_getElem? hx)
      have hsb := sum_bd (m := 1000000) (by omega) (M.take k) fun x hx => HM.out x (List.mem_of_mem_take hx)
      have hlk : (M.take k).length ≤ 1048576 := by rw [List.length_take]; omega
      obtain ⟨S, hS⟩ : ∃ S, S = (M.take k).sum := ⟨_, rfl⟩
      rw [← hS] at hsb HT ⊢
      have hS2 : 0 ≤ S ∧ S ≤ 1048576000000 := by omega
      clear hx hsb hlk hS
      go_wp2_with fail
      go_round
      case rel => exact ⟨k + 1, by omega, by go_num, by rw [HT.out]⟩
      case measure => simp [intOf]; omega
    · obtain rfl : k = n := by omega
      have hkn : ¬ (k : Int) < (k : Int) := by omega
      have HE := Lib.hid (show M.take k = M by rw [List.take_of_length_le (by rw [HL.out]; exact Nat.le_refl _)])
      obtain ⟨S, hS⟩ : ∃ S, S = (M.take k).sum := ⟨_, rfl⟩
      rw [← hS]
      have HS := Lib.hid hS
      clear hS
      go_wp2_with fail
      go_ret
      exact ⟨by rw [← HE.out, ← HS.out]; rfl, Below.refl _ _⟩
end Go.Proofs.Ytfbgekhkbbhggaa.WaS
