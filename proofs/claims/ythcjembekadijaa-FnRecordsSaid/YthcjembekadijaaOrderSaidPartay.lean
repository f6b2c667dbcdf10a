/- The model's l2Link: a record with a relation more, at its place, unless it is there. -/
import Derived.Test.YthcjembekadijaaOrderSaidPartax
import Derived.Test.YthcjembekadijaaOrderSaidPartar
import Derived.StillTailTactics
namespace Go.Proofs.Ythcjembekadijaa.Link2
open Go.RowKit Pairs Rec RecEq Find2 GoodM RelM Keep Row2 Copy AppH Two Gives PSrc
open OwnS (l2Own_any own_off)
open AddC (boxes222)
set_option maxRecDepth 100000 in
set_option maxHeartbeats 8000000 in
theorem link_old (zu zv : Int) (a1 a2 : Option Addr) (n1 c1 n2 c2 : Nat) (l m : List (Int × Int)) (h1 : n1 ≤ 1000000) (h2 : n2 ≤ 1000000) (w : World) (H1 : Holds w a1 n1 l) (H2 : Holds w a2 n2 m) (hat : m[plR m (zu, zv)]? = some (zu, zv)) :
    Calls Try.prog 93 #[.agg #[.slice a1 n1 c1, .slice a2 n2 c2], .agg #[.int .i64 zu, .int .i64 zv]] w fun e w' => ∃ g1 g2 d1 d2 : Nat, e = .returned (.agg #[.slice (some ⟨g1, 0, none⟩) n1 d1, .slice (some ⟨g2, 0, none⟩) n2 d2]) ∧ Own w' w.heap.size g1 n1 d1 g2 n2 d2 l m ∧ Below w.heap.size w w' := by
  obtain ⟨hs, x1, x2, x3, x4, y1, y2, fy1, fy2, hb0⟩ := boxes222 w (.slice a1 n1 c1) (.slice a2 n2 c2) (.int .i64 zu) (.int .i64 zv) (.slice none 0 0) (.slice none 0 0) 27 39 27
  have HS := Lib.hid hs
  have HH1 := Lib.hid (H1.below hb0)
  have HH2 := Lib.hid (H2.below hb0)
  obtain ⟨i, hi⟩ : ∃ i, plR m (zu, zv) = i := ⟨_, rfl⟩
  have hil : i ≤ n2 := by rw [← hi, ← H2.1]; exact plR_le m (zu, zv)
  have HIL := Lib.hid hil
  have HLO : Hid (∀ j y, j < i → m[j]? = some y → before y (zu, zv) = true) := fun j y hj hy => plR_lt (hi ▸ hj) hy
  have HHI : Hid (∀ y, m[i]? = some y → before y (zu, zv) = false) := fun y hy => plR_at (m := m) (x := (zu, zv)) (by rw [hi]; exact hy)
  have HAT : Hid (m[i]? = some (zu, zv)) := by unfold Hid; rw [← hi]; exact hat
  have HI := Lib.hid hi
  have HLEN := Lib.hid H2.1
  clear H1 H2 hs hi hat
  go_enter Try.func93, Try.ntmps93
  go_wp2_with fail
  generalize ((w.alloc (.cells #[.slice a1 n1 c1, .slice a2 n2 c2] 27)).alloc (.cells #[.int .i64 zu, .int .i64 zv] 39)).alloc (.cells #[.slice none 0 0, .slice none 0 0] 27) = W at *
  have lw : w.heap.size < W.heap.size := by rw [HS.out]; omega
  have lw1 : w.heap.size + 1 < W.heap.size := by rw [HS.out]; omega
  have lw2 : w.heap.size + 2 < W.heap.size := by rw [HS.out]; omega
  go_loopw [5] (fun s5 wr => ∃ k : Nat, k ≤ i ∧ s5 = .int .i64 k ∧ Below W.heap.size W wr) (fun s5 _ => i - (intOf s5).toNat)
  case atStart => exact ⟨0, Nat.zero_le _, rfl, Below.refl _ _⟩
  case round =>
    obtain ⟨k, hk, rfl, hbr⟩ := hrel
    have p1 := (hbr.cell (p := ⟨w.heap.size, 0, none⟩) lw).trans x1
    have p2 := (hbr.cell (p := ⟨w.heap.size, 1, none⟩) lw).trans x2
    have p3 := (hbr.cell (p := ⟨w.heap.size + 1, 0, none⟩) lw1).trans x3
    have p4 := (hbr.cell (p := ⟨w.heap.size + 1, 1, none⟩) lw1).trans x4
    by_cases hlt : k < i
    · obtain ⟨b, off, x, y, rfl, hx, e1, e2⟩ := (HH2.out.below hbr).at k (by omega)
      have hd := HLO.out k _ hlt hx
      have cB : ∀ d os, Calls Try.prog 121 #[.agg #[.int .i64 x, .int .i64 y], .agg #[.int .i64 zu, .int .i64 zv]] (Sort.grow (redrawn wr d) os) fun e w'' => e = .returned (.bool true) ∧ ∃ p : Regrown, w'' = Sort.grow (redrawn wr p.d) p.os := fun d os => Calls.regrown_of (by rw [← hd]; exact Good2.l2Before_any x y zu zv _)
      have hkn : (k : Int) < (n2 : Int) := by omega
      have hk0 : (0 : Int) ≤ (k : Int) := by omega
      have HBR := Lib.hid hbr
      clear hx hbr hd
      go_wp2_with fail
      have k2 := cell_regrown p2
      have k3 := cell_regrown p3
      have k4 := cell_regrown p4
      have j1 := cell_regrown e1
      have j2 := cell_regrown e2
      clear p1 p2 p3 p4 e1 e2
      refine wp_region_quiet_below (by kernel_rfl) (by kernel_rfl) ?_
      repeat (go_big_quiet_step (first | (go_at_call 121; exact cB _ _)))
      refine wpQuiet_nil ?_
      intro _ hw'
      obtain ⟨⟨dq, osq⟩, hw''⟩ := hw'
      subst hw''
      go_wp2_with fail
      exact ⟨⟨k + 1, by omega, by go_num, HBR.out.trans ((below_regrown wr dq osq).mono HBR.out.size)⟩, by simp [intOf]; omega⟩
    · obtain rfl : k = i := by omega
      have HBR := Lib.hid hbr
      clear hbr hlt hk
      have k1 := cell_regrown p1
      have k2 := cell_regrown p2
      have k3 := cell_regrown p3
      have k4 := cell_regrown p4
      have k2' := cell_regrown p2
      have K2' := Lib.hid k2'
      clear p1 p3 p4 k2'
      have hin : k < n2 := by rw [← HLEN.out]; exact (List.getElem?_eq_some_iff.1 HAT.out).1
      obtain ⟨b, off, x, y, ha, hx, e1, e2⟩ := (HH2.out.below HBR.out).at k hin
      rw [ha] at k2
      have hd := HHI.out _ hx
      have cB : ∀ d os, Calls Try.prog 121 #[.agg #[.int .i64 x, .int .i64 y], .agg #[.int .i64 zu, .int .i64 zv]] (Sort.grow (redrawn wr d) os) fun e w'' => e = .returned (.bool false) ∧ ∃ p : Regrown, w'' = Sort.grow (redrawn wr p.d) p.os := (fun d os => Calls.regrown_of (by rw [← hd]; exact Good2.l2Before_any x y zu zv _))
      have hkn : (k : Int) < (n2 : Int) := by omega
      have hk0 : (0 : Int) ≤ (k : Int) := by omega
      have j1 := cell_regrown e1
      have j2 := cell_regrown e2
      clear hx hd e1 e2 ha p2
      go_wp2_with fail
      refine wp_region_quiet_below (by kernel_rfl) (by kernel_rfl) ?_
      repeat (go_big_quiet_step (first | (go_at_call 121; exact cB _ _)))
      refine wpQuiet_nil ?_
      intro _ hw'
      obtain ⟨⟨dq, osq⟩, hw''⟩ := hw'
      subst hw''
      clear j1 j2 k1 k2 k3 k4 cB
      have bq := HBR.out.trans ((below_regrown wr dq osq).mono HBR.out.size)
      generalize Sort.grow (redrawn wr dq) osq = wq at *
      have p1 := (bq.cell (p := ⟨w.heap.size, 0, none⟩) lw).trans x1
      have p2 := (bq.cell (p := ⟨w.heap.size, 1, none⟩) lw).trans x2
      have HBQ := Lib.hid bq
      clear bq
      go_wp2_with fail
      refine (l2Own_any a1 a2 n1 c1 n2 c2 l m (by omega) (by omega) _ (HH1.out.below HBQ.out) (HH2.out.below HBQ.out)).mono ?_
      rintro e w2 ⟨g1, g2, d1, d2, rfl, o2, b2⟩
      have bW := HBQ.out.trans (b2.mono HBQ.out.size)
      have hctx := ownsRow_base o2.ctx HBQ.out.size
      have hrel := ownsRow_base o2.rel HBQ.out.size
      have hne := o2.ne
      clear o2 b2 p1 p2
      have hba := below_alloc w2 (.cells #[.slice (some ⟨g1, 0, none⟩) n1 d1, .slice (some ⟨g2, 0, none⟩) n2 d2] 27)
      have bZ := bW.trans (hba.mono bW.size)
      obtain ⟨b', off', x', y', ha', hx', j1, j2⟩ := (HH2.out.below bZ).at k hin
      obtain ⟨rfl, rfl⟩ : x' = zu ∧ y' = zv := by have h := hx'.symm.trans HAT.out; injection h with h; injection h with h1 h2; exact ⟨h1, h2⟩
      have p2 := (bZ.cell (p := ⟨w.heap.size, 1, none⟩) lw).trans x2
      rw [ha'] at p2
      have p3 := (bZ.cell (p := ⟨w.heap.size + 1, 0, none⟩) lw1).trans x3
      have p4 := (bZ.cell (p := ⟨w.heap.size + 1, 1, none⟩) lw1).trans x4
      have c1' := box_first w2 (.slice (some ⟨g1, 0, none⟩) n1 d1) (.slice (some ⟨g2, 0, none⟩) n2 d2) 27
      have c2' := box_second w2 (.slice (some ⟨g1, 0, none⟩) n1 d1) (.slice (some ⟨g2, 0, none⟩) n2 d2) 27
      have s1 := (bZ.cell (p := ⟨w.heap.size + 2, 0, none⟩) lw2).trans y1
      have s2 := (bZ.cell (p := ⟨w.heap.size + 2, 1, none⟩) lw2).trans y2
      have t1 := fz bZ ⟨w.heap.size + 2, 0, none⟩ lw2 fy1
      have t2 := fz bZ ⟨w.heap.size + 2, 1, none⟩ lw2 fy2
      have HREL := Lib.hid (ownsRow_below hrel hba)
      have HCTX := Lib.hid (ownsRow_below hctx hba)
      have HBZ := Lib.hid bZ
      have hl1 : W.heap.size ≤ g1 := (hctx.lt g1 rfl).1
      have hl2 : W.heap.size ≤ g2 := (hrel.lt g2 rfl).1
      have hbo : (x' == x' && y' == y') = true := by simp
      have hE := Eq2.equal2
      have hG := Eq2.guard2
      clear hx' ha' bW hba bZ hctx hrel x1 x2 x3 x4 y1 y2 fy1 fy2
      go_wp2_with fail
      go_quiet (fail)
      clear hbo hE hG j1 j2 p2 p3 p4
      go_wp2_with fail
      have bN := Joins.below_draws w.heap.size (w2.alloc (.cells #[.slice (some ⟨g1, 0, none⟩) n1 d1, .slice (some ⟨g2, 0, none⟩) n2 d2] 27)) nq
      obtain ⟨z1, z2⟩ := set2_cells (w := (w2.alloc (.cells #[.slice (some ⟨g1, 0, none⟩) n1 d1, .slice (some ⟨g2, 0, none⟩) n2 d2] 27)).drewN nq) (g := w.heap.size + 2) (u := .slice (some ⟨g1, 0, none⟩) n1 d1) (v := .slice (some ⟨g2, 0, none⟩) n2 d2) s1 s2
      refine bodyPost_ret (v := .agg #[.slice (some ⟨g1, 0, none⟩) n1 d1, .slice (some ⟨g2, 0, none⟩) n2 d2]) (by simp [results, Try.results93, go_sem, z1, z2]) rfl ⟨g1, g2, d1, d2, rfl, ?_, ?_⟩
      · have f1 : (Value.slice (some ⟨g1, 0, none⟩) n1 d1).ownBlock ≠ some (w.heap.size + 2) := own_off (by omega)
        have f2 : (Value.slice (some ⟨g2, 0, none⟩) n2 d2).ownBlock ≠ some (w.heap.size + 2) := own_off (by omega)
        have hW : w.heap.size ≤ W.heap.size := by omega
        have D1 : ((w2.alloc (.cells #[.slice (some ⟨g1, 0, none⟩) n1 d1, .slice (some ⟨g2, 0, none⟩) n2 d2] 27)).drewN nq).ownsRow W.heap.size 55 2 (.slice (some ⟨g1, 0, none⟩) n1 d1) n1 (flat l) := ownsRow_below HCTX.out (Joins.below_draws _ _ _)
        have D2 : ((w2.alloc (.cells #[.slice (some ⟨g1, 0, none⟩) n1 d1, .slice (some ⟨g2, 0, none⟩) n2 d2] 27)).drewN nq).ownsRow W.heap.size 39 2 (.slice (some ⟨g2, 0, none⟩) n2 d2) n2 (flat m) := ownsRow_below HREL.out (Joins.below_draws _ _ _)
        exact ⟨ownsRow_base (setCell_far (setCell_far D1 f1) f1) hW, ownsRow_base (setCell_far (setCell_far D2 f2) f2) hW, hne⟩
      · exact (((hb0.trans (HBZ.out.mono hb0.size)).trans bN).setCell (p := ⟨w.heap.size + 2, 0, none⟩) (by show _ ≤ w.heap.size + 2; omega) _).setCell (p := ⟨w.heap.size + 2, 1, none⟩) (by show _ ≤ w.heap.size + 2; omega) _
theorem l2Link_any (zu zv : Int) (a1 a2 : Option Addr) (n1 c1 n2 c2 : Nat) (l m : List (Int × Int)) (h1 : n1 ≤ 1000000) (h2 : n2 ≤ 1000000) (hcap : n2 ≤ c2) (w : World) (H1 : Holds w a1 n1 l) (H2 : Holds w a2 n2 m) :
    Calls Try.prog 93 #[.agg #[.slice a1 n1 c1, .slice a2 n2 c2], .agg #[.int .i64 zu, .int .i64 zv]] w fun e w' => ∃ k2 : Nat, k2 ≤ n2 + 1 ∧ ∃ g1 g2 d1 d2 : Nat, e = .returned (.agg #[.slice (some ⟨g1, 0, none⟩) n1 d1, .slice (some ⟨g2, 0, none⟩) k2 d2]) ∧ Own w' w.heap.size g1 n1 d1 g2 k2 d2 l (link m (zu, zv)) ∧ Below w.heap.size w w' := by
  by_cases h : m[plR m (zu, zv)]? = some (zu, zv)
  · have e : link m (zu, zv) = m := by unfold link; rw [if_pos h]
    rw [e]
    exact (link_old zu zv a1 a2 n1 c1 n2 c2 l m h1 h2 w H1 H2 h).mono fun _ _ hh => ⟨n2, by omega, hh⟩
  · have e : link m (zu, zv) = ins m (plR m (zu, zv)) (zu, zv) := by unfold link; rw [if_neg h]
    rw [e]
    exact (Link.link_new zu zv a1 a2 n1 c1 n2 c2 l m h1 h2 hcap w H1 H2 h).mono fun _ _ hh => ⟨n2 + 1, by omega, hh⟩
end Go.Proofs.Ythcjembekadijaa.Link2
/- Draws: a record. -/
namespace Go.Proofs.Ythcjembekadijaa.DrwR
open Go.RowKit Cur Pairs Rec RecEq Keep Two Drw DrwC
open OwnS (own_off)
/-- A record under way in a box, beside a cursor. -/
structure RSt (w wr : World) (B : Nat) (a : Option Addr) (len cap M gb : Nat) (p1 : Option Addr) (n1 d1 : Nat) (p2 : Option Addr) (n2 d2 : Nat) (L1 L2 : List (Int × Int)) : Prop where
  box : wr.heap[gb]? = some (.cells #[.slice p1 n1 d1, .slice p2 n2 d2] 27)
  ctx : wr.ownsRow w.heap.size 55 2 (.slice p1 n1 d1) n1 (flat L1)
  rel : wr.ownsRow w.heap.size 39 2 (.slice p2 n2 d2) n2 (flat L2)
  f1 : (Value.slice p1 n1 d1).ownBlock ≠ some gb
  f2 : (Value.slice p2 n2 d2).ownBlock ≠ some gb
  ok : Ok wr B a len cap M
  gr : w.grownBy wr (some B)
  gt : w.heap.size ≤ gb
variable {w wr wq : World} {B : Nat} {a : Option Addr} {len cap M M' gb : Nat} {p1 : Option Addr} {n1 d1 : Nat} {p2 : Option Addr} {n2 d2 : Nat} {L1 L2 : List (Int × Int)}
theorem RSt.cells (h : RSt w wr B a len cap M gb p1 n1 d1 p2 n2 d2 L1 L2) : wr.cell? ⟨gb, 0, none⟩ = some (.slice p1 n1 d1) ∧ wr.cell? ⟨gb, 1, none⟩ = some (.slice p2 n2 d2) ∧ wr.frozen? ⟨gb, 0, none⟩ = false ∧ wr.frozen? ⟨gb, 1, none⟩ = false ∧ gb < wr.heap.size := by
  have hb := h.box
  refine ⟨by simp [World.cell?, hb], by simp [World.cell?, hb], by simp only [World.frozen?, hb]; rfl, by simp only [World.frozen?, hb]; rfl, (Array.getElem?_eq_some_iff.1 hb).1⟩
theorem RSt.up (h : RSt w wr B a len cap M gb p1 n1 d1 p2 n2 d2 L1 L2) (hm : M ≤ M') : RSt w wr B a len cap M' gb p1 n1 d1 p2 n2 d2 L1 L2 :=
  ⟨h.box, h.ctx, h.rel, h.f1, h.f2, ok_up h.ok hm, h.gr, h.gt⟩
theorem RSt.step (h : RSt w wr B a len cap M gb p1 n1 d1 p2 n2 d2 L1 L2) (hB : B < w.heap.size) (hg : wr.grownBy wq (some B)) (ho : Ok wq B a len cap M') : RSt w wq B a len cap M' gb p1 n1 d1 p2 n2 d2 L1 L2 :=
  ⟨(hg.block gb h.cells.2.2.2.2 (fun e => by injection e with e; have := h.gt; omega)).trans h.box, own_step h.ctx hg hB, own_step h.rel hg hB, h.f1, h.f2, ho, gtrans h.gr hg, h.gt⟩
theorem RSt.below (h : RSt w wr B a len cap M gb p1 n1 d1 p2 n2 d2 L1 L2) (hb : Below wr.heap.size wr wq) : RSt w wq B a len cap M gb p1 n1 d1 p2 n2 d2 L1 L2 :=
  ⟨(hb.block gb h.cells.2.2.2.2).trans h.box, ownsRow_below h.ctx hb, ownsRow_below h.rel hb, h.f1, h.f2, ok_below h.ok hb, grown_below h.gr hb, h.gt⟩
theorem own_cap {T : TypeId} {w : World} {B n c : Nat} {p : Option Addr} {xs : List Value} (h : w.ownsRow B T 2 (.slice p n c) n xs) : n ≤ c := by
  rcases h.2 with ⟨e0, _⟩ | ⟨g0, cap0, cur, ev, hb, hg, hle, _⟩
  · injection e0 with _ e2 e3
    omega
  · injection ev with _ _ e3
    omega
theorem RSt.cap1 (h : RSt w wr B a len cap M gb p1 n1 d1 p2 n2 d2 L1 L2) : n1 ≤ d1 := own_cap h.ctx
theorem RSt.cap2 (h : RSt w wr B a len cap M gb p1 n1 d1 p2 n2 d2 L1 L2) : n2 ≤ d2 := own_cap h.rel
theorem setCell_grown {w : World} {g o : Nat} {u : Value} : w.grownBy (w.setCell ⟨g, o, none⟩ u) (some g) := ⟨rfl, rfl, rfl, by simp, fun k _ hk => heap_setCell_other w ⟨g, o, none⟩ k u (fun e => hk (by rw [e]))⟩
/-- Stores into the box, behind which other rows are the record's. -/
theorem RSt.put (h : RSt w wr B a len cap M gb p1 n1 d1 p2 n2 d2 L1 L2) {q1 : Option Addr} {k1 e1 : Nat} {q2 : Option Addr} {k2 e2 : Nat} {K1 K2 : List (Int × Int)} (hB : B < w.heap.size) (hb : Below wr.heap.size wr wq)
    (o1 : wq.ownsRow wr.heap.size 55 2 (.slice q1 k1 e1) k1 (flat K1)) (o2 : wq.ownsRow wr.heap.size 39 2 (.slice q2 k2 e2) k2 (flat K2)) :
    RSt w ((wq.setCell ⟨gb, 0, none⟩ (.slice q1 k1 e1)).setCell ⟨gb, 1, none⟩ (.slice q2 k2 e2)) B a len cap M gb q1 k1 e1 q2 k2 e2 K1 K2 := by
  have hlt := h.cells.2.2.2.2
  have hs := h.gr.size
  have f1 : (Value.slice q1 k1 e1).ownBlock ≠ some gb := fun e => by have := (o1.lt gb e).1; omega
  have f2 : (Value.slice q2 k2 e2).ownBlock ≠ some gb := fun e => by have := (o2.lt gb e).1; omega
  have hq := h.below hb
  have s1 := setCell_grown (w := wq) (g := gb) (o := 0) (u := .slice q1 k1 e1)
  have s2 := setCell_grown (w := wq.setCell ⟨gb, 0, none⟩ (.slice q1 k1 e1)) (g := gb) (o := 1) (u := .slice q2 k2 e2)
  have s3 := gtrans s1 s2
  have hf : ∀ k, some gb = some k → w.heap.size ≤ k := fun k e => by injection e with e; have := h.gt; omega
  exact ⟨(setCell_block (setCell_block hq.box).1).2, ownsRow_base (setCell_far (setCell_far o1 f1) f1) hs, ownsRow_base (setCell_far (setCell_far o2 f2) f2) hs, f1, f2, ok_fresh hq.ok hB s3 hf, fresh hq.gr s3 hf, h.gt⟩
theorem RSt.next (h : RSt w wr B a len cap M gb p1 n1 d1 p2 n2 d2 L1 L2) {g1 e1 g2 r2 e2 : Nat} {K : List (Int × Int)} (hB : B < w.heap.size) (o : Own wq wr.heap.size g1 n1 e1 g2 r2 e2 L1 K) (hb : Below wr.heap.size wr wq) :
    RSt w ((wq.setCell ⟨gb, 0, none⟩ (.slice (some ⟨g1, 0, none⟩) n1 e1)).setCell ⟨gb, 1, none⟩ (.slice (some ⟨g2, 0, none⟩) r2 e2)) B a len cap M gb (some ⟨g1, 0, none⟩) n1 e1 (some ⟨g2, 0, none⟩) r2 e2 L1 K := h.put hB hb o.ctx o.rel
/-- What a draw of a record leaves. -/
structure RGot (N1 N2 : Nat) (w w' : World) (B : Nat) (a : Option Addr) (len cap M : Nat) (p1 : Option Addr) (n1 d1 : Nat) (p2 : Option Addr) (n2 d2 : Nat) (L1 L2 : List (Int × Int)) : Prop where
  ctx : w'.ownsRow w.heap.size 55 2 (.slice p1 n1 d1) n1 (flat L1)
  rel : w'.ownsRow w.heap.size 39 2 (.slice p2 n2 d2) n2 (flat L2)
  ok : Ok w' B a len cap M
  gr : w.grownBy w' (some B)
  few1 : n1 ≤ N1
  few2 : n2 ≤ N2
theorem RSt.got {N1 N2 : Nat} (h : RSt w wr B a len cap M gb p1 n1 d1 p2 n2 d2 L1 L2) (h1 : n1 ≤ N1) (h2 : n2 ≤ N2) : RGot N1 N2 w wr B a len cap M p1 n1 d1 p2 n2 d2 L1 L2 := ⟨h.ctx, h.rel, h.ok, h.gr, h1, h2⟩
theorem RSt.ret {N1 N2 : Nat} {W : World} (h : RSt W wr B a len cap M gb p1 n1 d1 p2 n2 d2 L1 L2) (hs : W.heap.size = w.heap.size + 1) (hg : w.grownBy W (some B)) (hB : B < w.heap.size) (h1 : n1 ≤ N1) (h2 : n2 ≤ N2) (u v : Value) :
    RGot N1 N2 w ((wr.setCell ⟨w.heap.size, 0, none⟩ u).setCell ⟨w.heap.size, 1, none⟩ v) B a len cap M p1 n1 d1 p2 n2 d2 L1 L2 := by
  have e1 : (Value.slice p1 n1 d1).ownBlock ≠ some w.heap.size := fun e => by have := (h.ctx.lt _ e).1; omega
  have e2 : (Value.slice p2 n2 d2).ownBlock ≠ some w.heap.size := fun e => by have := (h.rel.lt _ e).1; omega
  have s1 := setCell_grown (w := wr) (g := w.heap.size) (o := 0) (u := u)
  have s2 := setCell_grown (w := wr.setCell ⟨w.heap.size, 0, none⟩ u) (g := w.heap.size) (o := 1) (u := v)
  have s3 := gtrans s1 s2
  have hf : ∀ k, some w.heap.size = some k → w.heap.size ≤ k := fun k e => by injection e with e; omega
  exact ⟨ownsRow_base (setCell_far (setCell_far h.ctx e1) e1) (by omega), ownsRow_base (setCell_far (setCell_far h.rel e2) e2) (by omega), ok_fresh h.ok hB s3 hf, fresh (gtrans hg h.gr) s3 hf, h1, h2⟩
theorem RSt.other (h : RSt w wr B a len cap M gb p1 n1 d1 p2 n2 d2 L1 L2) {k : Nat} {u v : Value} (hk : w.heap[k]? = some (.cells #[u, v] 27)) (hne : k ≠ B) (x y : Value) : wr.cell? ⟨k, 0, none⟩ = some u ∧ wr.cell? ⟨k, 1, none⟩ = some v ∧ wr.frozen? ⟨k, 0, none⟩ = false ∧ wr.frozen? ⟨k, 1, none⟩ = false ∧ (wr.setCell ⟨k, 0, none⟩ x).cell? ⟨k, 0, none⟩ = some x ∧ ((wr.setCell ⟨k, 0, none⟩ x).setCell ⟨k, 1, none⟩ y).cell? ⟨k, 1, none⟩ = some y := by
  have hb := (h.gr.block k (Array.getElem?_eq_some_iff.1 hk).1 (fun e => hne (by injection e))).trans hk
  exact ⟨by simp [World.cell?, hb], by simp [World.cell?, hb], by simp only [World.frozen?, hb]; rfl, by simp only [World.frozen?, hb]; rfl, by have h1 := (setCell_block (a := x) hb).1; simp [World.cell?, h1], by have h1 := (setCell_block (a := y) (setCell_block (a := x) hb).1).2; simp [World.cell?, h1]⟩
/-- A new record in a new box. -/
theorem RSt.new {V : World} (hc : V.ownsRow w.heap.size 55 2 (.slice p1 n1 d1) n1 (flat L1)) (hr : V.ownsRow w.heap.size 39 2 (.slice p2 n2 d2) n2 (flat L2)) (ho : Ok V B a len cap M) (hg : w.grownBy V (some B)) :
    RSt w (V.alloc (.cells #[.slice p1 n1 d1, .slice p2 n2 d2] 27)) B a len cap M V.heap.size p1 n1 d1 p2 n2 d2 L1 L2 :=
  ⟨heap_alloc_new V _, hc.alloc _, hr.alloc _, fun e => by have := (hc.lt _ e).2; omega, fun e => by have := (hr.lt _ e).2; omega, ok_alloc ho _, gtrans hg (World.grownBy_alloc V _ _), hg.size⟩
def RRes (N1 N2 B : Nat) (a : Option Addr) (len cap M : Nat) (w : World) (e : Ending) (w' : World) : Prop :=
  ∃ (p1 : Option Addr) (n1 d1 : Nat) (p2 : Option Addr) (n2 d2 : Nat) (L1 L2 : List (Int × Int)), e = .returned (.agg #[.slice p1 n1 d1, .slice p2 n2 d2]) ∧ RGot N1 N2 w w' B a len cap M p1 n1 d1 p2 n2 d2 L1 L2
set_option maxRecDepth 100000 in
set_option maxHeartbeats 8000000 in
theorem record_any (B : Nat) (a : Option Addr) (len cap m : Nat) (hm : m ≤ 700000) (w : World) (h : Ok w B a len cap m) :
    Calls Try.prog 115 #[.pointer (some ⟨B, 0, none⟩)] w (RRes 7 12 B a len cap (m + 60) w) := by
  have hB := h.lt
  have HB := Lib.hid hB
  have hok := ok_alloc h (.cells #[.slice none 0 0, .slice none 0 0] 27)
  have hg0 : w.grownBy (w.alloc (.cells #[.slice none 0 0, .slice none 0 0] 27)) (some B) := World.grownBy_alloc w _ _
  have hs0 : (w.alloc (.cells #[.slice none 0 0, .slice none 0 0] 27)).heap.size = w.heap.size + 1 := by simp
  have hrb : (w.alloc (.cells #[.slice none 0 0, .slice none 0 0] 27)).heap[w.heap.size]? = some (.cells #[.slice none 0 0, .slice none 0 0] 27) := heap_alloc_new w _
  have HOK := Lib.hid hok
  have HG0 := Lib.hid hg0
  have HS0 := Lib.hid hs0
  have HRB := Lib.hid hrb
  clear h hok hg0 hs0 hrb
  go_enter Try.func115, Try.ntmps115
  go_wp2_with fail
  generalize w.alloc (.cells #[.slice none 0 0, .slice none 0 0] 27) = W at *
  refine (pick_small B a len cap m (by omega) 8 (by omega) (by omega) W HOK.out).mono ?_
  rintro e w1 ⟨r, rfl, ⟨hr0, hr1⟩, hok1, hg1⟩
  obtain ⟨n, rfl⟩ := Int.eq_ofNat_of_zero_le hr0
  have HOK1 := Lib.hid hok1
  have HG1 := Lib.hid hg1
  clear hok1 hg1
  go_wp2_with fail
  refine (some_any B a len cap (m + 1) (by omega) n (by omega) w1 HOK1.out).mono ?_
  rintro e w2 ⟨p, d, L, rfl, hc⟩
  have hs1 := HG1.out.size
  have HN := Lib.hid (RSt.new (ownsRow_base hc.own hs1) (L2 := []) (World.ownsRow_nil w2 W.heap.size _ _) (ok_up hc.ok (show m + 1 + 2 * n ≤ m + 2 * 7 + 1 by omega)) (gtrans HG1.out hc.gr))
  have hs2 := hc.gr.size
  clear hc
  have HB1 : Hid (B < W.heap.size) := by have := HS0.out; have := HB.out; unfold Hid; omega
  obtain ⟨o1, o2, o3, o4, o5⟩ := HN.out.cells
  go_wp2_with fail
  clear o1 o2 o3 o4 o5
  generalize w2.alloc (.cells #[.slice p n d, .slice none 0 0] 27) = V at *
  refine (pick_small B a len cap _ (by omega) 12 (by omega) (by omega) V HN.out.ok).mono ?_
  rintro e w3 ⟨q, rfl, ⟨hq0, hq1⟩, hok3, hg3⟩
  obtain ⟨mm0, rfl⟩ := Int.eq_ofNat_of_zero_le hq0
  have HR0 := Lib.hid ((HN.out.step HB1.out hg3 hok3).up (M' := m + 2 * 7 + 2 + 3 * (12 - mm0)) (by omega))
  clear hok3 hg3
  go_wp2_with fail
  go_loopw [5] (fun s5 wr => ∃ (mm : Nat) (p1 : Option Addr) (d1 : Nat) (p2 : Option Addr) (n2 d2 : Nat) (L1 L2 : List (Int × Int)), mm ≤ 11 ∧ s5 = .int .i64 mm ∧ n2 + mm ≤ 12 ∧ Hid (RSt W wr B a len cap (m + 2 * 7 + 2 + 3 * (12 - mm)) w2.heap.size p1 n d1 p2 n2 d2 L1 L2)) (fun s5 _ => (intOf s5).toNat)
  case atStart => exact ⟨mm0, _, _, _, _, _, _, _, by omega, rfl, by omega, HR0⟩
  case round =>
    clear HR0 HN
    obtain ⟨mm, p1, d1, p2, n2, d2, L1, L2, hmm, rfl, hn2, HR⟩ := hrel
    by_cases hm0 : mm = 0
    · subst hm0
      have hz : ¬ (0 : Int) < ((0 : Nat) : Int) := by omega
      obtain ⟨o1, o2, o3, o4, o5⟩ := HR.out.cells
      obtain ⟨r1, r2, r3, r4, z1, z2⟩ := HR.out.other HRB.out (by have := HB.out; omega) (.slice p1 n d1) (.slice p2 n2 d2)
      go_wp2_with fail
      refine bodyPost_ret (v := .agg #[.slice p1 n d1, .slice p2 n2 d2]) (by simp [results, Try.results115, go_sem, z1, z2]) rfl ?_
      exact ⟨_, _, _, _, _, _, _, _, rfl, (HR.out.up (M' := m + 60) (by omega)).ret HS0.out HG0.out HB.out (by omega) (by omega) _ _⟩
    · have hz : (0 : Int) < (mm : Int) := by omega
      by_cases hn1 : n ≤ 1
      · have hz2 : ¬ (1 : Int) < (n : Int) := by omega
        obtain ⟨o1, o2, o3, o4, o5⟩ := HR.out.cells
        obtain ⟨r1, r2, r3, r4, z1, z2⟩ := HR.out.other HRB.out (by have := HB.out; omega) (.slice p1 n d1) (.slice p2 n2 d2)
        go_wp2_with fail
        refine bodyPost_ret (v := .agg #[.slice p1 n d1, .slice p2 n2 d2]) (by simp [results, Try.results115, go_sem, z1, z2]) rfl ?_
        exact ⟨_, _, _, _, _, _, _, _, rfl, (HR.out.up (M' := m + 60) (by omega)).ret HS0.out HG0.out HB.out (by omega) (by omega) _ _⟩
      · have hz2 : (1 : Int) < (n : Int) := by omega
        go_wp2_with fail
        refine (pick_small B a len cap _ (by omega) n (by omega) (by omega) _ HR.out.ok).mono ?_
        rintro e w4 ⟨ii, rfl, ⟨hi0, hi1⟩, hok4, hg4⟩
        obtain ⟨i, rfl⟩ := Int.eq_ofNat_of_zero_le hi0
        have HR4 := Lib.hid (HR.out.step HB1.out hg4 hok4)
        clear hok4 hg4 HR
        go_wp2_with fail
        refine (pick_small B a len cap _ (by omega) n (by omega) (by omega) _ HR4.out.ok).mono ?_
        rintro e w5 ⟨kk, rfl, ⟨hk0, hk1⟩, hok5, hg5⟩
        obtain ⟨k, rfl⟩ := Int.eq_ofNat_of_zero_le hk0
        have HR5 := Lib.hid (HR4.out.step HB1.out hg5 hok5)
        clear hok5 hg5 HR4
        have hmw : wrap64 ((mm : Int) - 1) = ((mm - 1 : Nat) : Int) := by unfold wrap64; omega
        by_cases hik : k < i
        · have hgt : (k : Int) < (i : Int) := by omega
          have hne : ((i : Int) != (k : Int)) = true := by rw [bne_iff_ne]; omega
          have hne' : ((k : Int) != (i : Int)) = true := by rw [bne_iff_ne]; omega
          go_wp2_with fail
          refine (one_ok B a len cap _ (by omega) 12 (by omega) (by omega) _ HR5.out.ok).mono ?_
          rintro e w6 ⟨yes, rfl, hok6, hg6⟩
          have HR6 := Lib.hid (HR5.out.step HB1.out hg6 hok6)
          clear hok6 hg6 HR5
          cases yes with
          | true =>
            have HD := Lib.hid (HR6.out.below ((Below.refl _ _).drew))
            have hi00 : (0 : Int) ≤ (i : Int) := by omega
            have hk00 : (0 : Int) ≤ (k : Int) := by omega
            go_wp2_with fail
            obtain ⟨b, off, xi, yi, hpe, hxi, e1, e2⟩ := (holds_own HR6.out.ctx).at i (by omega)
            obtain ⟨b', off', xk, yk, hpe', hxk, e3, e4⟩ := (holds_own HR6.out.ctx).at k (by omega)
            subst hpe
            injection hpe' with hpe'
            injection hpe' with hb1 hb2
            subst hb1 hb2
            clear hxi hxk e2 e4
            obtain ⟨o1, o2, o3, o4, o5⟩ := HR6.out.cells
            refine wp_region_still_tail 14 (by kernel_rfl) (by kernel_rfl) ?_
            simp only [List.take_succ_cons, List.take_zero, List.drop_succ_cons, List.drop_zero]
            repeat still_step
            refine wpStill_nil ?_
            clear e1 e3 o1 o2 o3 o4
            have HO1 := Lib.hid (holds_own HD.out.ctx)
            have HO2 := Lib.hid (holds_own HD.out.rel)
            have hc2 := HD.out.cap2
            go_wp2_with fail
            refine (Link2.l2Link_any xi xk (some ⟨b, off, none⟩) p2 n d1 n2 d2 L1 L2 (by omega) (by omega) hc2 _ HO1.out HO2.out).mono ?_
            rintro e w7 ⟨r2, hr2, g5, g6, d5, d6, rfl, o6, b5⟩
            have hS6 := HD.out.below b5
            obtain ⟨m1, m2, m3, m4, m5⟩ := hS6.cells
            have hN := HD.out.next HB1.out o6 b5
            have HN := Lib.hid (hN.up (M' := m + 2 * 7 + 2 + 3 * (12 - (mm - 1))) (by omega))
            clear hS6 hN b5 o6
            go_wp2_with fail
            exact ⟨⟨mm - 1, _, _, _, _, _, _, _, by omega, by go_num, by omega, HN⟩, by simp [intOf]; omega⟩
          | false =>
            have HD := Lib.hid (HR6.out.below ((Below.refl _ _).drew))
            have hi00 : (0 : Int) ≤ (i : Int) := by omega
            have hk00 : (0 : Int) ≤ (k : Int) := by omega
            go_wp2_with fail
            obtain ⟨b, off, xi, yi, hpe, hxi, e1, e2⟩ := (holds_own HR6.out.ctx).at k (by omega)
            obtain ⟨b', off', xk, yk, hpe', hxk, e3, e4⟩ := (holds_own HR6.out.ctx).at i (by omega)
            subst hpe
            injection hpe' with hpe'
            injection hpe' with hb1 hb2
            subst hb1 hb2
            clear hxi hxk e2 e4
            obtain ⟨o1, o2, o3, o4, o5⟩ := HR6.out.cells
            refine wp_region_still_tail 14 (by kernel_rfl) (by kernel_rfl) ?_
            simp only [List.take_succ_cons, List.take_zero, List.drop_succ_cons, List.drop_zero]
            repeat still_step
            refine wpStill_nil ?_
            clear e1 e3 o1 o2 o3 o4
            have HO1 := Lib.hid (holds_own HD.out.ctx)
            have HO2 := Lib.hid (holds_own HD.out.rel)
            have hc2 := HD.out.cap2
            go_wp2_with fail
            refine (Link2.l2Link_any xi xk (some ⟨b, off, none⟩) p2 n d1 n2 d2 L1 L2 (by omega) (by omega) hc2 _ HO1.out HO2.out).mono ?_
            rintro e w7 ⟨r2, hr2, g5, g6, d5, d6, rfl, o6, b5⟩
            have hS6 := HD.out.below b5
            obtain ⟨m1, m2, m3, m4, m5⟩ := hS6.cells
            have hN := HD.out.next HB1.out o6 b5
            have HN := Lib.hid (hN.up (M' := m + 2 * 7 + 2 + 3 * (12 - (mm - 1))) (by omega))
            clear hS6 hN b5 o6
            go_wp2_with fail
            exact ⟨⟨mm - 1, _, _, _, _, _, _, _, by omega, by go_num, by omega, HN⟩, by simp [intOf]; omega⟩
        · have hgt : ¬ (k : Int) < (i : Int) := by omega
          by_cases hkk : i = k
          · subst hkk
            have hne : ((i : Int) != (i : Int)) = false := by simp
            have HN := Lib.hid (HR5.out.up (M' := m + 2 * 7 + 2 + 3 * (12 - (mm - 1))) (by omega))
            go_wp2_with fail
            exact ⟨⟨mm - 1, _, _, _, _, _, _, _, by omega, by go_num, by omega, HN⟩, by simp [intOf]; omega⟩
          · have hne : ((i : Int) != (k : Int)) = true := by rw [bne_iff_ne]; omega
            have HD := Lib.hid (HR5.out.below ((Below.refl _ _).drew))
            have hi00 : (0 : Int) ≤ (i : Int) := by omega
            have hk00 : (0 : Int) ≤ (k : Int) := by omega
            go_wp2_with fail
            obtain ⟨b, off, xi, yi, hpe, hxi, e1, e2⟩ := (holds_own HR5.out.ctx).at i (by omega)
            obtain ⟨b', off', xk, yk, hpe', hxk, e3, e4⟩ := (holds_own HR5.out.ctx).at k (by omega)
            subst hpe
            injection hpe' with hpe'
            injection hpe' with hb1 hb2
            subst hb1 hb2
            clear hxi hxk e2 e4
            obtain ⟨o1, o2, o3, o4, o5⟩ := HR5.out.cells
            refine wp_region_still_tail 14 (by kernel_rfl) (by kernel_rfl) ?_
            simp only [List.take_succ_cons, List.take_zero, List.drop_succ_cons, List.drop_zero]
            repeat still_step
            refine wpStill_nil ?_
            clear e1 e3 o1 o2 o3 o4
            have HO1 := Lib.hid (holds_own HD.out.ctx)
            have HO2 := Lib.hid (holds_own HD.out.rel)
            have hc2 := HD.out.cap2
            go_wp2_with fail
            refine (Link2.l2Link_any xi xk (some ⟨b, off, none⟩) p2 n d1 n2 d2 L1 L2 (by omega) (by omega) hc2 _ HO1.out HO2.out).mono ?_
            rintro e w7 ⟨r2, hr2, g5, g6, d5, d6, rfl, o6, b5⟩
            have hS6 := HD.out.below b5
            obtain ⟨m1, m2, m3, m4, m5⟩ := hS6.cells
            have hN := HD.out.next HB1.out o6 b5
            have HN := Lib.hid (hN.up (M' := m + 2 * 7 + 2 + 3 * (12 - (mm - 1))) (by omega))
            clear hS6 hN b5 o6
            go_wp2_with fail
            exact ⟨⟨mm - 1, _, _, _, _, _, _, _, by omega, by go_num, by omega, HN⟩, by simp [intOf]; omega⟩
end Go.Proofs.Ythcjembekadijaa.DrwR
