/- Greatest common divisors: the program's commonDivisor and the model's l10Gcd; years, ranges. -/
import Derived.Test.YtfbgekhkbbhggaaDvM
namespace Go.Proofs.Ytfbgekhkbbhggaa.DvG
open Go.RowKit Pairs Rec Keep GivesI DvM
set_option linter.unusedVariables false
theorem bdN {B : Nat} {w wr : World} (h : Below B w wr) : ∀ q : Nat, Below B w (wr.drewN q)
  | 0 => h
  | q + 1 => (bdN h q).drew
theorem l1In_any (x a b : Int) (w : World) :
    Calls Try.prog 76 #[.int .i64 x, .int .i64 a, .int .i64 b] w fun e w' => e = .returned (.bool (decide (a ≤ x ∧ x ≤ b))) ∧ w' = w := by
  go_enter Try.func76, Try.ntmps76
  by_cases h1 : a ≤ x
  · by_cases h2 : x ≤ b
    · rw [show decide (a ≤ x ∧ x ≤ b) = true from decide_eq_true ⟨h1, h2⟩]
      go_wp2_with fail
      go_ret
      exact ⟨rfl, rfl⟩
    · rw [show decide (a ≤ x ∧ x ≤ b) = false from decide_eq_false fun h => h2 h.2]
      go_wp2_with fail
      go_ret
      exact ⟨rfl, rfl⟩
  · rw [show decide (a ≤ x ∧ x ≤ b) = false from decide_eq_false fun h => h1 h.1]
    go_wp2_with fail
    go_ret
    exact ⟨rfl, rfl⟩
theorem isYear_any (x : Int) (w : World) :
    Calls Try.prog 102 #[.int .i64 x] w fun e w' => e = .returned (.bool (isY x)) ∧ w' = w := by
  unfold isY
  go_enter Try.func102, Try.ntmps102
  by_cases h1 : -20000 ≤ x
  · by_cases h2 : x ≤ 2100
    · rw [show decide (-20000 ≤ x ∧ x ≤ 2100) = true from decide_eq_true ⟨h1, h2⟩]
      go_wp2_with fail
      go_ret
      exact ⟨rfl, rfl⟩
    · rw [show decide (-20000 ≤ x ∧ x ≤ 2100) = false from decide_eq_false fun h => h2 h.2]
      go_wp2_with fail
      go_ret
      exact ⟨rfl, rfl⟩
  · rw [show decide (-20000 ≤ x ∧ x ≤ 2100) = false from decide_eq_false fun h => h1 h.1]
    go_wp2_with fail
    go_ret
    exact ⟨rfl, rfl⟩
set_option maxRecDepth 100000 in
theorem l10Gcd_any (a b : Int) (ha : 0 ≤ a) (hb : 0 ≤ b) (w : World) :
    Calls Try.prog 108 #[.int .i64 a, .int .i64 b] w fun e w' => e = .returned (.int .i64 (G a b)) ∧ w' = w := by
  go_enter Try.func108, Try.ntmps108
  go_wp2_with fail
  go_loop [0, 1, 5] (fun s0 s1 _ => ∃ x y : Int, s0 = .int .i64 x ∧ s1 = .int .i64 y ∧ 0 ≤ x ∧ 0 ≤ y ∧ G x y = G a b) (fun _ s1 _ => (intOf s1).toNat)
  case atStart => exact ⟨a, b, rfl, rfl, ha, hb, rfl⟩
  case round =>
    obtain ⟨x, y, rfl, rfl, hx, hy, hg⟩ := hrel
    have HG := Lib.hid hg
    clear hg
    by_cases h0 : y = 0
    · subst h0
      have HE := Lib.hid (HG.out.symm.trans (G_zero hx))
      go_wp2_with fail
      go_ret
      exact ⟨by rw [HE.out]; rfl, rfl⟩
    · have hy1 : 0 < y := by omega
      have hbd := mod_bd (a := x) hy1
      have HS := Lib.hid (G_step hx hy1)
      go_wp2_with fail
      exact ⟨⟨y, x % y, rfl, rfl, hy, hbd.1, HS.out.trans HG.out⟩, by simp [intOf]; omega⟩
set_option maxRecDepth 100000 in
set_option maxHeartbeats 2000000 in
theorem common_any (a : Option Addr) (n c : Nat) (L : List Int) (w : World) (hn : n ≤ 1048576) (h : HoldsI w a n L) (hp : ∀ x ∈ L, 0 ≤ x) :
    Calls Try.prog 103 #[.slice a n c] w fun e w' => e = .returned (.int .i64 (dv L)) ∧ Below w.heap.size w w' := by
  have H1 := Lib.hid h
  have HP := Lib.hid hp
  have HL := Lib.hid h.1
  clear h hp
  go_enter Try.func103, Try.ntmps103
  go_wp2_with fail
  go_loopw [3, 5, 8] (fun s3 _ s8 wr => ∃ k : Nat, k ≤ n ∧ s8 = .int .i64 k ∧ s3 = .int .i64 (dv (L.take k)) ∧ Hid (Below w.heap.size w wr)) (fun _ _ s8 _ => n - (intOf s8).toNat)
  case atStart => exact ⟨0, Nat.zero_le _, rfl, rfl, Below.refl _ _⟩
  case round =>
    obtain ⟨k, hk, rfl, rfl, HR⟩ := hrel
    by_cases hlt : k < n
    · obtain ⟨b, off, x, rfl, hx, e1⟩ := (H1.out.below HR.out).at k hlt
      have hkn : (k : Int) < (n : Int) := by omega
      have HT := Lib.hid (dv_take hx)
      have hx0 : 0 ≤ x := HP.out x (List.mem_of_getElem? hx)
      have hd0 := dv_nonneg (L.take k)
      clear hx
      generalize dv (L.take k) = d at *
      go_wp2_with fail
      clear e1 H1
      obtain ⟨x0, hx00⟩ : ∃ z, z = x := ⟨x, rfl⟩
      rw [← hx00] at HT
      obtain ⟨d0, hd00⟩ : ∃ z, z = d := ⟨d, rfl⟩
      rw [← hd00] at HT
      have HI := Lib.hid (show G d x = G d0 x0 by rw [hd00, hx00])
      clear hx00 hd00
      go_loopw [3, 5] (fun s3 s5 w2 => ∃ p q : Int, s3 = .int .i64 p ∧ s5 = .int .i64 q ∧ 0 ≤ p ∧ 0 ≤ q ∧ Hid (G p q = G d0 x0) ∧ Hid (Below w.heap.size w w2)) (fun _ s5 _ => (intOf s5).toNat)
      case atStart => exact ⟨d, x, rfl, rfl, hd0, hx0, HI, HR⟩
      case round =>
        obtain ⟨p, q, rfl, rfl, hp, hq, HG, HR2⟩ := hrel
        by_cases h0 : q = 0
        · subst h0
          have HE := Lib.hid (HT.out.trans (HG.out.symm.trans (G_zero hp)))
          clear HG HT HI
          go_wp2_with fail
          exact ⟨⟨k + 1, by omega, by go_num, by rw [HE.out], HR2⟩, by simp [intOf]; omega⟩
        · have hy1 : 0 < q := by omega
          have hbd := mod_bd (a := p) hy1
          have HS := Lib.hid (G_step hp hy1)
          go_wp2_with fail
          go_quiet (fail)
          go_wp2_with fail
          exact ⟨⟨q, p % q, rfl, rfl, hq, hbd.1, HS.out.trans HG.out, bdN HR2.out _⟩, by simp [intOf]; omega⟩
    · obtain rfl : k = n := by omega
      have hkn : ¬ (k : Int) < (k : Int) := by omega
      have HE := Lib.hid (show dv (L.take k) = dv L by rw [List.take_of_length_le (by rw [HL.out]; exact Nat.le_refl _)])
      generalize dv (L.take k) = d at *
      go_wp2_with fail
      go_ret
      exact ⟨by rw [← HE.out]; rfl, HR.out⟩
end Go.Proofs.Ytfbgekhkbbhggaa.DvG
