/- The laws' markRecord. -/
import Derived.Test.YtfbgekhkbbhggaaKeep
namespace Go.Proofs.Ytfbgekhkbbhggaa.Mark2
open Go.RowKit Pairs Rec Keep

set_option maxRecDepth 100000 in
set_option maxHeartbeats 1000000 in
theorem markC_any (B : Nat) (p : Option Addr) (n c : Nat) (k : Int) (ys : List Value) (hk0 : 0 ≤ k) (hk1 : k ≤ 10000000) (hz : n ≤ 1048576) (w : World) (h : w.ownsRow B 123 2 (.slice p n c) n ys) :
    Calls Try.prog 112 #[.slice p n c, .int .i64 k] w fun e w' => e = .returned (.int .i64 (k + 2 * n)) ∧ w'.ownsRow B 123 2 (.slice p n c) n (flat (marks k n)) ∧ Kept (fun b => (Value.slice p n c).ownBlock = some b) w w' := by
  have hU : UptoP 123 B w w p n c (marks k n) 0 := ⟨ys, h, fun i hi => absurd hi (by omega), Kept.refl _ _⟩
  clear h
  go_enter Try.func112, Try.ntmps112
  go_wp2_with fail
  go_loopw [1, 5] (fun s1 s5 wr => ∃ j : Nat, j ≤ n ∧ s5 = .int .i64 j ∧ s1 = .int .i64 (k + 2 * j) ∧ UptoP 123 B w wr p n c (marks k n) j) (fun _ s5 _ => n - (intOf s5).toNat)
  case atStart => exact ⟨0, Nat.zero_le _, rfl, by simp, hU⟩
  case round =>
    obtain ⟨j, hj, rfl, rfl, hR⟩ := hrel
    clear hU
    by_cases hlt : j < n
    · obtain ⟨g, rfl⟩ := hR.some (by omega)
      have hi : (j : Int) < (n : Int) := by omega
      obtain ⟨⟨v0, hv0⟩, hf0⟩ := uptoP_facts hR (j * 2) (by omega)
      obtain ⟨⟨v1, hv1⟩, hf1⟩ := uptoP_facts hR (j * 2 + 1) (by omega)
      have HR := Lib.hid (uptoP_step hR hlt (marks_at hlt))
      clear hR
      go_wp2_with fail
      exact ⟨⟨j + 1, by omega, by go_num, by go_num, HR.out⟩, by simp [intOf]; omega⟩
    · obtain rfl : j = n := by omega
      have hE := uptoP_end hR (marks_len k j)
      have HE := Lib.hid hE
      clear hE hR
      go_wp2_with fail
      go_ret
      exact ⟨rfl, HE.out⟩
set_option maxRecDepth 100000 in
set_option maxHeartbeats 1000000 in
theorem markR_any (B : Nat) (p : Option Addr) (n c : Nat) (k : Int) (ys : List Value) (hk0 : 0 ≤ k) (hk1 : k ≤ 10000000) (hz : n ≤ 1048576) (w : World) (h : w.ownsRow B 125 2 (.slice p n c) n ys) :
    Calls Try.prog 113 #[.slice p n c, .int .i64 k] w fun e w' => e = .returned (.int .i64 (k + 2 * n)) ∧ w'.ownsRow B 125 2 (.slice p n c) n (flat (marks k n)) ∧ Kept (fun b => (Value.slice p n c).ownBlock = some b) w w' := by
  have hU : UptoP 125 B w w p n c (marks k n) 0 := ⟨ys, h, fun i hi => absurd hi (by omega), Kept.refl _ _⟩
  clear h
  go_enter Try.func113, Try.ntmps113
  go_wp2_with fail
  go_loopw [1, 5] (fun s1 s5 wr => ∃ j : Nat, j ≤ n ∧ s5 = .int .i64 j ∧ s1 = .int .i64 (k + 2 * j) ∧ UptoP 125 B w wr p n c (marks k n) j) (fun _ s5 _ => n - (intOf s5).toNat)
  case atStart => exact ⟨0, Nat.zero_le _, rfl, by simp, hU⟩
  case round =>
    obtain ⟨j, hj, rfl, rfl, hR⟩ := hrel
    clear hU
    by_cases hlt : j < n
    · obtain ⟨g, rfl⟩ := hR.some (by omega)
      have hi : (j : Int) < (n : Int) := by omega
      obtain ⟨⟨v0, hv0⟩, hf0⟩ := uptoP_facts hR (j * 2) (by omega)
      obtain ⟨⟨v1, hv1⟩, hf1⟩ := uptoP_facts hR (j * 2 + 1) (by omega)
      have HR := Lib.hid (uptoP_step hR hlt (marks_at hlt))
      clear hR
      go_wp2_with fail
      exact ⟨⟨j + 1, by omega, by go_num, by go_num, HR.out⟩, by simp [intOf]; omega⟩
    · obtain rfl : j = n := by omega
      have hE := uptoP_end hR (marks_len k j)
      have HE := Lib.hid hE
      clear hE hR
      go_wp2_with fail
      go_ret
      exact ⟨rfl, HE.out⟩
set_option maxRecDepth 100000 in
set_option maxHeartbeats 1000000 in
theorem markRecord_any (B : Nat) (p1 p2 : Option Addr) (k1 d1 k2 d2 : Nat) (l m : List (Int × Int)) (h1 : k1 ≤ 1048576) (h2 : k2 ≤ 1048576) (w : World) (h : Got w B p1 k1 d1 p2 k2 d2 l m) :
    Calls Try.prog 70 #[.agg #[.slice p1 k1 d1, .slice p2 k2 d2], .int .i64 1] w fun e w' => e = .returned (.int .i64 (1 + 2 * k1 + 2 * k2)) ∧ Got w' B p1 k1 d1 p2 k2 d2 (marks 1 k1) (marks (1 + 2 * k1) k2) ∧ Kept (fun b => (Value.slice p1 k1 d1).ownBlock = some b ∨ (Value.slice p2 k2 d2).ownBlock = some b) w w' := by
  have hb0 := below_alloc w (.cells #[.slice p1 k1 d1, .slice p2 k2 d2] 34)
  have f1 := box_first w (.slice p1 k1 d1) (.slice p2 k2 d2) 34
  have f2 := box_second w (.slice p1 k1 d1) (.slice p2 k2 d2) 34
  have HG := Lib.hid (h.below hb0)
  have HL1 : Hid (∀ b, (Value.slice p1 k1 d1).ownBlock = some b → b < w.heap.size) := fun b hb => (h.ctx.lt b hb).2
  clear h
  go_enter Try.func70, Try.ntmps70
  go_wp2_with fail
  generalize w.alloc (.cells #[.slice p1 k1 d1, .slice p2 k2 d2] 34) = W at *
  refine (markC_any B p1 k1 d1 1 (flat l) (by omega) (by omega) h1 W HG.out.ctx).mono ?_
  rintro e w2 ⟨rfl, o1, q1⟩
  have x2 := q1.cell f2 (fun hs => by have := HL1.out _ hs; exact absurd this (Nat.lt_irrefl _))
  have HO1 := Lib.hid o1
  have HQ1 := Lib.hid q1
  have HO2 := Lib.hid (q1.owns HG.out.rel (fun b hb hs => HG.out.ne b hs hb))
  clear o1 q1 f1 f2
  go_wp2_with fail
  refine (markR_any B p2 k2 d2 (1 + 2 * k1) (flat m) (by omega) (by omega) h2 w2 HO2.out).mono ?_
  rintro e w3 ⟨rfl, o2, q2⟩
  have HO3 := Lib.hid o2
  have HQ2 := Lib.hid q2
  clear o2 q2 x2
  go_wp2_with fail
  go_ret
  refine ⟨rfl, ⟨HQ2.out.owns HO1.out (fun b hb hs => HG.out.ne b hb hs), HO3.out, HG.out.ne⟩, ?_⟩
  exact (Kept.of hb0).trans ((HQ1.out.mono (fun _ => .inl)).trans (HQ2.out.mono (fun _ => .inr)))
end Go.Proofs.Ytfbgekhkbbhggaa.Mark2
