/- The distance of two sequences, in plain words; slices.Index over ints and the model's l5At: the first place. -/
import Derived.Test.YtjllbbkpmmnkgaaDoorIsqS
namespace Go.Proofs.YtjllbbkpmmnkgaaDoor.DisM
open Go.RowKit Pairs Rec Chain Find2 GoodM Keep GivesI RedS SqM IsqS
set_option linter.unusedVariables false
def ix (M : List Int) (z : Int) : Int := match M.findIdx? (fun y => y == z) with | some i => (i : Int) | none => -1
theorem ix_hit {M : List Int} {k : Nat} {x : Int} (hx : M[k]? = some x) (hb : ∀ (j : Nat) (y : Int), j < k → M[j]? = some y → y ≠ x) : ix M x = (k : Int) := by
  obtain ⟨hk, he⟩ := List.getElem?_eq_some_iff.1 hx
  have : M.findIdx? (fun y => y == x) = some k := by
    rw [List.findIdx?_eq_some_iff_getElem]
    refine ⟨hk, by simp [he], fun j hj => ?_⟩
    have := hb j M[j] hj (List.getElem?_eq_getElem (by omega))
    simpa using this
  unfold ix
  rw [this]
theorem ix_none {M : List Int} {z : Int} (h : ∀ (j : Nat) (y : Int), M[j]? = some y → y ≠ z) : ix M z = -1 := by
  have : M.findIdx? (fun y => y == z) = none := by
    rw [List.findIdx?_eq_none_iff]
    intro x hx
    obtain ⟨j, hj⟩ := List.mem_iff_getElem?.1 hx
    simpa using h j x hj
  unfold ix
  rw [this]
theorem ix_bd (M : List Int) (z : Int) : -1 ≤ ix M z ∧ ix M z ≤ M.length := by
  unfold ix
  cases h : M.findIdx? (fun y => y == z) with
  | none => simp
  | some i =>
    have := List.findIdx?_eq_some_iff_getElem.1 h
    obtain ⟨hi, _⟩ := this
    simp
    omega
def cn (B : List Int) (x : Int) (R : List Int) : Nat := (R.filter (fun y => decide (ix B y < ix B x))).length
theorem cn_snoc (B : List Int) (x y : Int) (R : List Int) : cn B x (R ++ [y]) = cn B x R + (if ix B y < ix B x then 1 else 0) := by
  unfold cn
  rw [List.filter_append, List.length_append]
  by_cases h : ix B y < ix B x <;> simp [h]
theorem cn_le (B : List Int) (x : Int) (R : List Int) : cn B x R ≤ R.length := List.length_filter_le _ _
def iv (A B : List Int) : Nat → Nat
  | 0 => 0
  | i + 1 => iv A B i + (match A[i]? with | some x => cn B x (A.drop (i + 1)) | none => 0)
theorem iv_next {A B : List Int} {i : Nat} {x : Int} (hx : A[i]? = some x) : iv A B (i + 1) = iv A B i + cn B x (A.drop (i + 1)) := by
  show iv A B i + _ = _
  rw [hx]
theorem iv_le (A B : List Int) : ∀ i, iv A B i ≤ i * A.length
  | 0 => Nat.zero_le _
  | i + 1 => by
    have h1 := iv_le A B i
    have h2 : (match A[i]? with | some x => cn B x (A.drop (i + 1)) | none => 0) ≤ A.length := by
      split
      · exact Nat.le_trans (cn_le _ _ _) (by rw [List.length_drop]; omega)
      · omega
    show iv A B i + _ ≤ _
    rw [Nat.add_mul, Nat.one_mul]
    omega
open Classical in
noncomputable def sdP (l m : Ps) (A B : List Int) : Int × Bool := if good l m = true ∧ cyc l m = false ∧ isSq l m A = true ∧ isSq l m B = true then ((iv A B A.length : Nat), true) else (0, false)
open Classical in
theorem sd_no {l m : Ps} {A B : List Int} (h : ¬ (good l m = true ∧ cyc l m = false ∧ isSq l m A = true ∧ isSq l m B = true)) : sdP l m A B = (0, false) := by unfold sdP; rw [if_neg h]
open Classical in
theorem sd_yes {l m : Ps} {A B : List Int} (h : good l m = true ∧ cyc l m = false ∧ isSq l m A = true ∧ isSq l m B = true) : sdP l m A B = (((iv A B A.length : Nat) : Int), true) := by unfold sdP; rw [if_pos h]
set_option maxHeartbeats 1000000 in
theorem index_any (a : Option Addr) (n c : Nat) (M : List Int) (z : Int) (hn : n ≤ 1048576) (w : World) (h : HoldsI w a n M) :
    Calls Tryd.prog 46 #[.slice a n c, .int .i64 z] w fun e w' => e = .returned (.int .i64 (ix M z)) ∧ w' = w := by
  have HH := Lib.hid h
  have HL := Lib.hid h.1
  clear h
  go_enter Tryd.func46, Tryd.ntmps46
  go_wp2_with fail
  go_loop [8] (fun s5 => ∃ k : Nat, k ≤ n ∧ s5 = .int .i64 k ∧ Hid (∀ j x, j < k → M[j]? = some x → x ≠ z)) (fun s5 => n - (intOf s5).toNat)
  case atStart => exact ⟨0, Nat.zero_le _, rfl, fun j x h => by omega⟩
  case round =>
    obtain ⟨k, hk, rfl, HP⟩ := hrel
    by_cases hlt : k < n
    · obtain ⟨b, off, x, rfl, hx, e1⟩ := HH.out.at k hlt
      have hki : (k : Int) < (n : Int) := by omega
      have hk0 : (0 : Int) ≤ (k : Int) := by omega
      by_cases hxz : x = z
      · subst hxz
        have HR := Lib.hid (ix_hit hx HP.out)
        clear hx
        go_wp2_with fail
        go_ret
        exact ⟨by rw [HR.out]; rfl, rfl⟩
      · have HP2 : Hid (∀ j x, j < k + 1 → M[j]? = some x → x ≠ z) := fun j y hj hy => by
          by_cases e : j = k
          · subst e
            rw [hx] at hy
            injection hy with hy
            rw [← hy]
            exact hxz
          · exact HP.out j y (by omega) hy
        have hzx : ¬ z = x := fun e => hxz e.symm
        clear hx
        go_wp2_with fail
        go_round
        case rel => exact ⟨k + 1, by omega, by go_num, HP2⟩
        case measure => simp [intOf]; omega
    · obtain rfl : k = n := by omega
      have hki : ¬ (k : Int) < (k : Int) := by omega
      have HR : Hid (ix M z = -1) := ix_none (fun j y hy => HP.out j y (by rw [← HL.out]; exact (List.getElem?_eq_some_iff.1 hy).1) hy)
      go_wp2_with fail
      go_ret
      exact ⟨by rw [HR.out]; rfl, rfl⟩
set_option maxHeartbeats 1000000 in
theorem at_any (a : Option Addr) (n c : Nat) (M : List Int) (z : Int) (hn : n ≤ 1048576) (w : World) (h : HoldsI w a n M) :
    Calls Tryd.prog 45 #[.slice a n c, .int .i64 z] w fun e w' => e = .returned (.int .i64 (ix M z)) ∧ w' = w := by
  have HH := Lib.hid h
  have HL := Lib.hid h.1
  clear h
  go_enter Tryd.func45, Tryd.ntmps45
  go_wp2_with fail
  go_loop [5] (fun s5 => ∃ k : Nat, k ≤ n ∧ s5 = .int .i64 k ∧ Hid (∀ j x, j < k → M[j]? = some x → x ≠ z)) (fun s5 => n - (intOf s5).toNat)
  case atStart => exact ⟨0, Nat.zero_le _, rfl, fun j x h => by omega⟩
  case round =>
    obtain ⟨k, hk, rfl, HP⟩ := hrel
    by_cases hlt : k < n
    · obtain ⟨b, off, x, rfl, hx, e1⟩ := HH.out.at k hlt
      have hki : (k : Int) < (n : Int) := by omega
      have hk0 : (0 : Int) ≤ (k : Int) := by omega
      by_cases hxz : x = z
      · subst hxz
        have HR := Lib.hid (ix_hit hx HP.out)
        clear hx
        go_wp2_with fail
        go_ret
        exact ⟨by rw [HR.out]; rfl, rfl⟩
      · have HP2 : Hid (∀ j x, j < k + 1 → M[j]? = some x → x ≠ z) := fun j y hj hy => by
          by_cases e : j = k
          · subst e
            rw [hx] at hy
            injection hy with hy
            rw [← hy]
            exact hxz
          · exact HP.out j y (by omega) hy
        have hxb : (x == z) = false := by rw [beq_eq_false_iff_ne]; exact hxz
        clear hx
        go_wp2_with fail
        go_round
        case rel => exact ⟨k + 1, by omega, by go_num, HP2⟩
        case measure => simp [intOf]; omega
    · obtain rfl : k = n := by omega
      have hki : ¬ (k : Int) < (k : Int) := by omega
      have HR : Hid (ix M z = -1) := ix_none (fun j y hy => HP.out j y (by rw [← HL.out]; exact (List.getElem?_eq_some_iff.1 hy).1) hy)
      go_wp2_with fail
      go_ret
      exact ⟨by rw [HR.out]; rfl, rfl⟩
end Go.Proofs.YtjllbbkpmmnkgaaDoor.DisM
