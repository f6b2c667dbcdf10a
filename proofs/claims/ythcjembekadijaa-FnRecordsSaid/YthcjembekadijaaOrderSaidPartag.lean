/- The laws' markRecord. -/
import Derived.Test.YthcjembekadijaaOrderSaidPartaf
namespace Go.Proofs.Ythcjembekadijaa.Mark2
open Go.RowKit Pairs Rec Keep

set_option maxRecDepth 100000 in
set_option maxHeartbeats 1000000 in
theorem markC_any (B : Nat) (p : Option Addr) (n c : Nat) (k : Int) (ys : List Value) (hk0 : 0 ≤ k) (hk1 : k ≤ 10000000) (hz : n ≤ 1048576) (w : World) (h : w.ownsRow B 55 2 (.slice p n c) n ys) :
    Calls Try.prog 110 #[.slice p n c, .int .i64 k] w fun e w' => e = .returned (.int .i64 (k + 2 * n)) ∧ w'.ownsRow B 55 2 (.slice p n c) n (flat (marks k n)) ∧ Kept (fun b => (Value.slice p n c).ownBlock = some b) w w' := by
  have hU : UptoP 55 B w w p n c (marks k n) 0 := ⟨ys, h, fun i hi => absurd hi (by omega), Kept.refl _ _⟩
  clear h
  go_enter Try.func110, Try.ntmps110
  go_wp2_with fail
  go_loopw [1, 5] (fun s1 s5 wr => ∃ j : Nat, j ≤ n ∧ s5 = .int .i64 j ∧ s1 = .int .i64 (k + 2 * j) ∧ UptoP 55 B w wr p n c (marks k n) j) (fun _ s5 _ => n - (intOf s5).toNat)
  case atStart => exact ⟨0, Nat.zero_le _, rfl, by simp, hU⟩
  case round =>
    obtain ⟨j, hj, rfl, rfl, hR⟩ := hrel
    clear hU
    by_cases hlt : j < n
    · obtain ⟨g, rfl⟩ := hR.some (by omega)
      have hi : (j : Int) < (n : Int) := by omega
      obtain ⟨⟨v0, hv0⟩, hf0⟩ := uptoP_facts hR (j * 2) (by omega)
      obtain ⟨⟨v1, hv1⟩, hf1⟩ := uptoP_facts hR (j * 2 + 1) (by omega)
      have HR := Lib.hid (uptoP_step hR hlt (marks_at hlt))
      clear hR
      go_wp2_with fail
      exact ⟨⟨j + 1, by omega, by go_num, by go_num, HR.out⟩, by simp [intOf]; omega⟩
    · obtain rfl : j = n := by omega
      have hE := uptoP_end hR (marks_len k j)
      have HE := Lib.hid hE
      clear hE hR
      go_wp2_with fail
      go_ret
      exact ⟨rfl, HE.out⟩
set_option maxRecDepth 100000 in
set_option maxHeartbeats 1000000 in
theorem markR_any (B : Nat) (p : Option Addr) (n c : Nat) (k : Int) (ys : List Value) (hk0 : 0 ≤ k) (hk1 : k ≤ 10000000) (hz : n ≤ 1048576) (w : World) (h : w.ownsRow B 39 2 (.slice p n c) n ys) :
    Calls Try.prog 111 #[.slice p n c, .int .i64 k] w fun e w' => e = .returned (.int .i64 (k + 2 * n)) ∧ w'.ownsRow B 39 2 (.slice p n c) n (flat (marks k n)) ∧ Kept (fun b => (Value.slice p n c).ownBlock = some b) w w' := by
  have hU : UptoP 39 B w w p n c (marks k n) 0 := ⟨ys, h, fun i hi => absurd hi (by omega), Kept.refl _ _⟩
  clear h
  go_enter Try.func111, Try.ntmps111
  go_wp2_with fail
  go_loopw [1, 5] (fun s1 s5 wr => ∃ j : Nat, j ≤ n ∧ s5 = .int .i64 j ∧ s1 = .int .i64 (k + 2 * j) ∧ UptoP 39 B w wr p n c (marks k n) j) (fun _ s5 _ => n - (intOf s5).toNat)
  case atStart => exact ⟨0, Nat.zero_le _, rfl, by simp, hU⟩
  case round =>
    obtain ⟨j, hj, rfl, rfl, hR⟩ := hrel
    clear hU
    by_cases hlt : j < n
    · obtain ⟨g, rfl⟩ := hR.some (by omega)
      have hi : (j : Int) < (n : Int) := by omega
      obtain ⟨⟨v0, hv0⟩, hf0⟩ := uptoP_facts hR (j * 2) (by omega)
      obtain ⟨⟨v1, hv1⟩, hf1⟩ := uptoP_facts hR (j * 2 + 1) (by omega)
      have HR := Lib.hid (uptoP_step hR hlt (marks_at hlt))
      clear hR
      go_wp2_with fail
      exact ⟨⟨j + 1, by omega, by go_num, by go_num, HR.out⟩, by simp [intOf]; omega⟩
    · obtain rfl : j = n := by omega
      have hE := uptoP_end hR (marks_len k j)
      have HE := Lib.hid hE
      clear hE hR
      go_wp2_with fail
      go_ret
      exact ⟨rfl, HE.out⟩
set_option maxRecDepth 100000 in
set_option maxHeartbeats 1000000 in
theorem markRecord_any (B : Nat) (p1 p2 : Option Addr) (k1 d1 k2 d2 : Nat) (l m : List (Int × Int)) (h1 : k1 ≤ 1048576) (h2 : k2 ≤ 1048576) (w : World) (h : Got w B p1 k1 d1 p2 k2 d2 l m) :
    Calls Try.prog 50 #[.agg #[.slice p1 k1 d1, .slice p2 k2 d2], .int .i64 1] w fun e w' => e = .returned (.int .i64 (1 + 2 * k1 + 2 * k2)) ∧ Got w' B p1 k1 d1 p2 k2 d2 (marks 1 k1) (marks (1 + 2 * k1) k2) ∧ Kept (fun b => (Value.slice p1 k1 d1).ownBlock = some b ∨ (Value.slice p2 k2 d2).ownBlock = some b) w w' := by
  have hb0 := below_alloc w (.cells #[.slice p1 k1 d1, .slice p2 k2 d2] 27)
  have f1 := box_first w (.slice p1 k1 d1) (.slice p2 k2 d2) 27
  have f2 := box_second w (.slice p1 k1 d1) (.slice p2 k2 d2) 27
  have HG := Lib.hid (h.below hb0)
  have HL1 : Hid (∀ b, (Value.slice p1 k1 d1).ownBlock = some b → b < w.heap.size) := fun b hb => (h.ctx.lt b hb).2
  clear h
  go_enter Try.func50, Try.ntmps50
  go_wp2_with fail
  generalize w.alloc (.cells #[.slice p1 k1 d1, .slice p2 k2 d2] 27) = W at *
  refine (markC_any B p1 k1 d1 1 (flat l) (by omega) (by omega) h1 W HG.out.ctx).mono ?_
  rintro e w2 ⟨rfl, o1, q1⟩
  have x2 := q1.cell f2 (fun hs => by have := HL1.out _ hs; exact absurd this (Nat.lt_irrefl _))
  have HO1 := Lib.hid o1
  have HQ1 := Lib.hid q1
  have HO2 := Lib.hid (q1.owns HG.out.rel (fun b hb hs => HG.out.ne b hs hb))
  clear o1 q1 f1 f2
  go_wp2_with fail
  refine (markR_any B p2 k2 d2 (1 + 2 * k1) (flat m) (by omega) (by omega) h2 w2 HO2.out).mono ?_
  rintro e w3 ⟨rfl, o2, q2⟩
  have HO3 := Lib.hid o2
  have HQ2 := Lib.hid q2
  clear o2 q2 x2
  go_wp2_with fail
  go_ret
  refine ⟨rfl, ⟨HQ2.out.owns HO1.out (fun b hb hs => HG.out.ne b hb hs), HO3.out, HG.out.ne⟩, ?_⟩
  exact (Kept.of hb0).trans ((HQ1.out.mono (fun _ => .inl)).trans (HQ2.out.mono (fun _ => .inr)))
end Go.Proofs.Ythcjembekadijaa.Mark2
/- The law file's eqRecord: two records that hold the same are equal. -/
namespace Go.Proofs.Ythcjembekadijaa.RecEq
open Go.RowKit Pairs Rec

theorem boxes2 (w : World) (u1 v1 u2 v2 : Value) (t1 t2 : TypeId) :
    ((w.alloc (.cells #[u1, v1] t1)).alloc (.cells #[u2, v2] t2)).heap.size = w.heap.size + 2 ∧
    ((w.alloc (.cells #[u1, v1] t1)).alloc (.cells #[u2, v2] t2)).cell? ⟨w.heap.size, 0, none⟩ = some u1 ∧
    ((w.alloc (.cells #[u1, v1] t1)).alloc (.cells #[u2, v2] t2)).cell? ⟨w.heap.size, 1, none⟩ = some v1 ∧
    ((w.alloc (.cells #[u1, v1] t1)).alloc (.cells #[u2, v2] t2)).cell? ⟨w.heap.size + 1, 0, none⟩ = some u2 ∧
    ((w.alloc (.cells #[u1, v1] t1)).alloc (.cells #[u2, v2] t2)).cell? ⟨w.heap.size + 1, 1, none⟩ = some v2 ∧
    Below w.heap.size w ((w.alloc (.cells #[u1, v1] t1)).alloc (.cells #[u2, v2] t2)) := by
  have e : ∀ (w : World) (o : Obj), (w.alloc o).heap = w.heap.push o := fun _ _ => rfl
  have i0 : ((w.alloc (.cells #[u1, v1] t1)).alloc (.cells #[u2, v2] t2)).heap[w.heap.size]? = some (.cells #[u1, v1] t1) := by
    rw [e, e, Array.getElem?_push, if_neg (by simp), Array.getElem?_push, if_pos rfl]
  have i1 : ((w.alloc (.cells #[u1, v1] t1)).alloc (.cells #[u2, v2] t2)).heap[w.heap.size + 1]? = some (.cells #[u2, v2] t2) := by
    rw [e, e, Array.getElem?_push, if_pos (by simp)]
  refine ⟨by rw [e, e]; simp, ?_, ?_, ?_, ?_, below_alloc2 _ _ _⟩
  · unfold World.cell?; rw [i0]; rfl
  · unfold World.cell?; rw [i0]; rfl
  · unfold World.cell?; rw [i1]; rfl
  · unfold World.cell?; rw [i1]; rfl

set_option maxHeartbeats 1000000 in
theorem eqRecord_same (a1 a2 b1 b2 : Option Addr) (n1 n2 c1 c2 d1 d2 : Nat) (l1 l2 : List (Int × Int)) (h1 : n1 ≤ 1048576) (h2 : n2 ≤ 1048576) (w : World) (A1 : Holds w a1 n1 l1) (A2 : Holds w a2 n2 l2) (B1 : Holds w b1 n1 l1) (B2 : Holds w b2 n2 l2) :
    Calls Try.prog 49 #[.agg #[.slice a1 n1 c1, .slice a2 n2 c2], .agg #[.slice b1 n1 d1, .slice b2 n2 d2]] w fun e w' => e = .returned (.bool true) ∧ Below w.heap.size w w' := by
  obtain ⟨hs, x1, x2, y1, y2, hb0⟩ := boxes2 w (.slice a1 n1 c1) (.slice a2 n2 c2) (.slice b1 n1 d1) (.slice b2 n2 d2) 27 27
  have HA1 := Lib.hid (A1.below hb0)
  have HA2 := Lib.hid (A2.below hb0)
  have HB1 := Lib.hid (B1.below hb0)
  have HB2 := Lib.hid (B2.below hb0)
  have HS := Lib.hid hs
  clear A1 A2 B1 B2 hs
  go_enter Try.func49, Try.ntmps49
  go_wp2_with fail
  generalize (w.alloc (.cells #[.slice a1 n1 c1, .slice a2 n2 c2] 27)).alloc (.cells #[.slice b1 n1 d1, .slice b2 n2 d2] 27) = W at *
  refine (eqContextS_same a1 b1 n1 c1 d1 l1 h1 W HA1.out HB1.out).mono ?_
  rintro e w2 ⟨rfl, bb⟩
  have hs := HS.out
  have k2 := (bb.cell (p := ⟨w.heap.size, 1, none⟩) (by show w.heap.size < _; omega)).trans x2
  have k4 := (bb.cell (p := ⟨w.heap.size + 1, 1, none⟩) (by show w.heap.size + 1 < _; omega)).trans y2
  have HA3 := Lib.hid (HA2.out.below bb)
  have HB3 := Lib.hid (HB2.out.below bb)
  have b3 := hb0.trans (bb.mono hb0.size)
  clear x1 x2 y1 y2 bb hb0 hs
  go_wp2_with fail
  refine (eqRelationS_same a2 b2 n2 c2 d2 l2 h2 w2 HA3.out HB3.out).mono ?_
  rintro e w3 ⟨rfl, b4⟩
  have b5 := b3.trans (b4.mono b3.size)
  clear b3 b4 k2 k4
  go_wp2_with fail
  go_ret
  exact ⟨rfl, b5⟩
end Go.Proofs.Ythcjembekadijaa.RecEq
