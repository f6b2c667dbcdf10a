/- Lists of pairs of ints (arrays of two): what a function that makes one of a record is said to do; the laws' eqIntA2S, markIntA2S, heldIntA2S. -/
import Derived.Test.YtaikphcemldikabMark2
import Derived.Test.YtaikphcemldikabLawKit
import Derived.BigQuiet
namespace Go.Proofs.Ytaikphcemldikab.GivesA
open Go.RowKit Pairs Rec Keep Mark2
def Res (ok : Bool) (L : List (Int × Int)) (w : World) (e : Ending) (w' : World) : Prop :=
  ∃ (p : Option Addr) (k d : Nat), e = .returned (.tuple #[.slice p k d, .bool ok]) ∧ w'.ownsRow w.heap.size 75 2 (.slice p k d) k (flat L) ∧ k ≤ 1048576 ∧ Below w.heap.size w w'
def Gives (f : FuncId) (F : List (Int × Int) → List (Int × Int) → Option (List (Int × Int))) : Prop :=
  ∀ (a1 a2 : Option Addr) (n1 n2 : Nat) (l m : List (Int × Int)) (w : World), n1 ≤ 1048576 → n2 ≤ 1048576 → Holds w a1 n1 l → Holds w a2 n2 m →
    Calls Try.prog f #[.agg #[.slice a1 n1 n1, .slice a2 n2 n2]] w (Res (F l m).isSome ((F l m).getD []) w)
set_option maxRecDepth 100000 in
set_option maxHeartbeats 1000000 in
theorem eq2 (x y : Int) (w : World) : Calls Try.prog 53 #[.agg #[.int .i64 x, .int .i64 y], .agg #[.int .i64 x, .int .i64 y]] w fun e w' => e = .returned (.bool true) ∧ Below w.heap.size w w' := by
  have hb := ((below_alloc w (.cells #[.int .i64 x, .int .i64 y] 75)).alloc (by simp) (.cells #[.int .i64 x, .int .i64 y] 75))
  have hsz : (w.alloc (.cells #[.int .i64 x, .int .i64 y] 75)).heap.size = w.heap.size + 1 := by simp
  have u3 := box_first (w.alloc (.cells #[.int .i64 x, .int .i64 y] 75)) (.int .i64 x) (.int .i64 y) 75
  have u4 := box_second (w.alloc (.cells #[.int .i64 x, .int .i64 y] 75)) (.int .i64 x) (.int .i64 y) 75
  rw [hsz] at u3 u4
  have u1 := ((below_alloc (w.alloc (.cells #[.int .i64 x, .int .i64 y] 75)) (.cells #[.int .i64 x, .int .i64 y] 75)).cell (p := ⟨w.heap.size, 0, none⟩) (by simp)).trans (box_first w (.int .i64 x) (.int .i64 y) 75)
  have u2 := ((below_alloc (w.alloc (.cells #[.int .i64 x, .int .i64 y] 75)) (.cells #[.int .i64 x, .int .i64 y] 75)).cell (p := ⟨w.heap.size, 1, none⟩) (by simp)).trans (box_second w (.int .i64 x) (.int .i64 y) 75)
  have HB := Lib.hid hb
  clear hb hsz
  go_enter Try.func53, Try.ntmps53
  go_wp2_with fail
  generalize (w.alloc (.cells #[.int .i64 x, .int .i64 y] 75)).alloc (.cells #[.int .i64 x, .int .i64 y] 75) = Z at *
  have U := Lib.hid (And.intro u1 (And.intro u2 (And.intro u3 u4)))
  clear u1 u2 u3 u4
  go_loopw [5] (fun s5 wr => ∃ k : Nat, k ≤ 2 ∧ s5 = .int .i64 k ∧ wr.cell? ⟨w.heap.size, 0, none⟩ = some (.int .i64 x) ∧ wr.cell? ⟨w.heap.size, 1, none⟩ = some (.int .i64 y) ∧ wr.cell? ⟨w.heap.size + 1, 0, none⟩ = some (.int .i64 x) ∧ wr.cell? ⟨w.heap.size + 1, 1, none⟩ = some (.int .i64 y) ∧ Below w.heap.size w wr) (fun s5 _ => 2 - (intOf s5).toNat)
  case atStart => exact ⟨0, by omega, rfl, U.out.1, U.out.2.1, U.out.2.2.1, U.out.2.2.2, HB.out⟩
  case round =>
    clear U
    obtain ⟨k, hk, rfl, u1, u2, u3, u4, hbr⟩ := hrel
    have HBR := Lib.hid hbr
    clear hbr
    rcases (show k = 0 ∨ k = 1 ∨ k = 2 by omega) with rfl | rfl | rfl
    · go_wp2_with fail
      go_quiet (fail)
      go_wp2_with fail
      exact ⟨⟨1, by omega, by go_num, u1, u2, u3, u4, HBR.out.trans ((Joins.below_draws _ _ _).mono HBR.out.size)⟩, by simp [intOf]⟩
    · go_wp2_with fail
      go_quiet (fail)
      go_wp2_with fail
      exact ⟨⟨2, by omega, by go_num, u1, u2, u3, u4, HBR.out.trans ((Joins.below_draws _ _ _).mono HBR.out.size)⟩, by simp [intOf]⟩
    · go_wp2_with fail
      go_ret
      exact ⟨rfl, HBR.out⟩
--EQA
set_option maxRecDepth 100000 in
set_option maxHeartbeats 1000000 in
theorem eqA_same (a1 a2 : Option Addr) (n c1 c2 : Nat) (l : List (Int × Int)) (hz : n ≤ 1048576) (w : World) (h1 : Holds w a1 n l) (h2 : Holds w a2 n l) :
    Calls Try.prog 21 #[.slice a1 n c1, .slice a2 n c2] w fun e w' => e = .returned (.bool true) ∧ Below w.heap.size w w' := by
  have H1 := Lib.hid h1
  have H2 := Lib.hid h2
  clear h1 h2
  go_enter Try.func21, Try.ntmps21
  go_wp2
  go_loopw [5] (fun i wr => ∃ k : Nat, k ≤ n ∧ i = .int .i64 k ∧ Below w.heap.size w wr) (fun i _ => n - (intOf i).toNat)
  case atStart => exact ⟨0, Nat.zero_le _, rfl, Below.refl _ _⟩
  case round =>
    obtain ⟨k, hk, rfl, hb⟩ := hrel
    by_cases hlt : k < n
    · obtain ⟨b, off, x, y, rfl, hx, e1, e2⟩ := (H1.out.below hb).at k hlt
      obtain ⟨b', off', x', y', rfl, hx', e1', e2'⟩ := (H2.out.below hb).at k hlt
      obtain ⟨rfl, rfl⟩ : x' = x ∧ y' = y := by
        rw [hx] at hx'
        injection hx' with hx'
        injection hx' with ha hb
        exact ⟨ha.symm, hb.symm⟩
      have HX := Lib.hid hx
      clear hx hx'
      have hi : (k : Int) < (n : Int) := by omega
      go_wp2_with fail
      refine wp_region_still_tail 8 (by kernel_rfl) (by kernel_rfl) ?_
      simp only [List.take_succ_cons, List.take_zero, List.drop_succ_cons, List.drop_zero]
      repeat still_step
      refine wpStill_nil ?_
      go_wp2_with fail
      refine (eq2 x' y' _).mono ?_
      rintro e wq ⟨rfl, hq⟩
      have hb' := hb.drew.trans (hq.mono hb.drew.size)
      clear hb e1 e2 e1' e2' hq
      go_wp2_with fail
      exact ⟨⟨k + 1, by omega, by go_num, hb'⟩, by simp [intOf]; omega⟩
    · go_wp2
      go_ret
      exact ⟨rfl, hb⟩

set_option maxRecDepth 100000 in
set_option maxHeartbeats 2000000 in
theorem markA_any (B : Nat) (p : Option Addr) (n c : Nat) (k : Int) (ys : List Value) (hk0 : 0 ≤ k) (hk1 : k ≤ 10000000) (hz : n ≤ 1048576) (w : World) (h : w.ownsRow B 75 2 (.slice p n c) n ys) :
    Calls Try.prog 22 #[.slice p n c, .int .i64 k] w fun e w' => e = .returned (.int .i64 (k + 2 * n)) ∧ w'.ownsRow B 75 2 (.slice p n c) n (flat (marks k n)) ∧ Kept (fun b => (Value.slice p n c).ownBlock = some b) w w' := by
  have hU : UptoP 75 B w w p n c (marks k n) 0 := ⟨ys, h, fun i hi => absurd hi (by omega), Kept.refl _ _⟩
  clear h
  go_enter Try.func22, Try.ntmps22
  go_wp2_with fail
  go_loopw [1, 5] (fun s1 s5 wr => ∃ j : Nat, j ≤ n ∧ s5 = .int .i64 j ∧ s1 = .int .i64 (k + 2 * j) ∧ Hid (UptoP 75 B w wr p n c (marks k n) j)) (fun _ s5 _ => n - (intOf s5).toNat)
  case atStart => exact ⟨0, Nat.zero_le _, rfl, by simp, hU⟩
  case round =>
    obtain ⟨j, hj, rfl, rfl, hR⟩ := hrel
    clear hU
    by_cases hlt : j < n
    · obtain ⟨g, rfl⟩ := hR.out.some (by omega)
      have hi : (j : Int) < (n : Int) := by omega
      obtain ⟨⟨v0, hv0⟩, hf0⟩ := uptoP_facts hR.out (j * 2) (by omega)
      obtain ⟨⟨v1, hv1⟩, hf1⟩ := uptoP_facts hR.out (j * 2 + 1) (by omega)
      have HR := Lib.hid (uptoP_step hR.out hlt (marks_at hlt))
      clear hR
      go_wp2_with fail
      generalize hw0 : wr = w0 at *
      go_loopw [1, 6] (fun s1 s6 wx => (s6 = .int .i64 0 ∧ s1 = .int .i64 (k + 2 * j) ∧ wx = w0) ∨ (s6 = .int .i64 1 ∧ s1 = .int .i64 (k + 2 * j + 1) ∧ wx = w0.setCell ⟨g, j * 2, none⟩ (.int .i64 (k + 2 * j))) ∨ (s6 = .int .i64 2 ∧ s1 = .int .i64 (k + 2 * j + 2) ∧ wx = (w0.setCell ⟨g, j * 2, none⟩ (.int .i64 (k + 2 * j))).setCell ⟨g, j * 2 + 1, none⟩ (.int .i64 (k + 2 * j + 1)))) (fun _ s6 _ => 2 - (intOf s6).toNat)
      case atStart => exact .inl ⟨rfl, rfl, by first | rfl | exact hw0⟩
      case round =>
        rcases hrel with ⟨rfl, rfl, rfl⟩ | ⟨rfl, rfl, rfl⟩ | ⟨rfl, rfl, rfl⟩
        · go_wp2_with fail
          exact ⟨.inr (.inl ⟨by go_num, by go_num, by first | rfl | trivial⟩), by simp [intOf]⟩
        · go_wp2_with fail
          exact ⟨.inr (.inr ⟨by go_num, by go_num, by first | rfl | trivial⟩), by simp [intOf]⟩
        · go_wp2_with fail
          exact ⟨⟨j + 1, by omega, by go_num, by go_num, HR⟩, by simp [intOf]; omega⟩
    · obtain rfl : j = n := by omega
      have hE := uptoP_end hR.out (marks_len k j)
      have HE := Lib.hid hE
      clear hE hR
      go_wp2_with fail
      go_ret
      exact ⟨rfl, HE.out⟩
set_option maxRecDepth 100000 in
set_option maxHeartbeats 2000000 in
theorem heldA_any (p : Option Addr) (n c : Nat) (k : Int) (hk0 : 0 ≤ k) (hk1 : k ≤ 10000000) (hz : n ≤ 1048576) (w : World) (h : Holds w p n (marks k n)) :
    Calls Try.prog 23 #[.slice p n c, .int .i64 k] w fun e w' => e = .returned (.int .i64 (k + 2 * n)) ∧ w' = w := by
  have HH := Lib.hid h
  clear h
  go_enter Try.func23, Try.ntmps23
  go_wp2_with fail
  go_loopw [1, 5] (fun s1 s5 wr => ∃ j : Nat, j ≤ n ∧ s5 = .int .i64 j ∧ s1 = .int .i64 (k + 2 * j) ∧ wr = w) (fun _ s5 _ => n - (intOf s5).toNat)
  case atStart => exact ⟨0, Nat.zero_le _, rfl, by simp, rfl⟩
  case round =>
    obtain ⟨j, hj, rfl, rfl, rfl⟩ := hrel
    by_cases hlt : j < n
    · obtain ⟨b, off, x, y, rfl, hx, e1, e2⟩ := HH.out.at j hlt
      rw [marks_at hlt] at hx
      injection hx with hx
      injection hx with hx1 hx2
      subst hx1 hx2
      have hi : (j : Int) < (n : Int) := by omega
      go_wp2_with fail
      generalize hw0 : wr = w0 at *
      go_loopw [1, 6] (fun s1 s6 wx => wx = w0 ∧ ((s6 = .int .i64 0 ∧ s1 = .int .i64 (k + 2 * j)) ∨ (s6 = .int .i64 1 ∧ s1 = .int .i64 (k + 2 * j + 1)) ∨ (s6 = .int .i64 2 ∧ s1 = .int .i64 (k + 2 * j + 2)))) (fun _ s6 _ => 2 - (intOf s6).toNat)
      case atStart => exact ⟨by first | rfl | exact hw0, .inl ⟨rfl, rfl⟩⟩
      case round =>
        obtain ⟨rfl, hrel⟩ := hrel
        rcases hrel with ⟨rfl, rfl⟩ | ⟨rfl, rfl⟩ | ⟨rfl, rfl⟩
        · go_wp2_with fail
          exact ⟨⟨by first | rfl | trivial, .inr (.inl ⟨by go_num, by go_num⟩)⟩, by simp [intOf]⟩
        · go_wp2_with fail
          exact ⟨⟨by first | rfl | trivial, .inr (.inr ⟨by go_num, by go_num⟩)⟩, by simp [intOf]⟩
        · go_wp2_with fail
          exact ⟨⟨j + 1, by omega, by go_num, by go_num, by first | rfl | trivial | exact hw0.symm⟩, by simp [intOf]; omega⟩
    · obtain rfl : j = n := by omega
      go_wp2_with fail
      go_ret
      exact ⟨rfl, rfl⟩
end Go.Proofs.Ytaikphcemldikab.GivesA
