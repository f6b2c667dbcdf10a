/- Draws for the law of suspects: a record with contradictions, a relation. -/
import Derived.Test.YthcjembekadijaaCycleSaidPartaa
import Derived.Test.YthcjembekadijaaCycleSaidPartae
import Derived.Test.YthcjembekadijaaCycleSaidPartab
import Derived.Test.YthcjembekadijaaCycleSaidPartac
namespace Go.Proofs.Ythcjembekadijaa.DrwT
open Go.RowKit Cur Pairs Rec RecEq GoodM Keep Two Drw DrwC DrwR DrwD DrwP DrwK
/-- What stands in a box of two cells, and behind stores into it. -/
theorem box_there {X : World} {k : Nat} {u v : Value} {T : TypeId} (hb : X.heap[k]? = some (.cells #[u, v] T)) (x y : Value) : X.cell? ⟨k, 0, none⟩ = some u ∧ X.cell? ⟨k, 1, none⟩ = some v ∧ X.frozen? ⟨k, 0, none⟩ = false ∧ X.frozen? ⟨k, 1, none⟩ = false ∧ (X.setCell ⟨k, 0, none⟩ x).cell? ⟨k, 0, none⟩ = some x ∧ ((X.setCell ⟨k, 0, none⟩ x).setCell ⟨k, 1, none⟩ y).cell? ⟨k, 1, none⟩ = some y :=
  ⟨by simp [World.cell?, hb], by simp [World.cell?, hb], by simp only [World.frozen?, hb]; rfl, by simp only [World.frozen?, hb]; rfl, by have h1 := (setCell_block (a := x) hb).1; simp [World.cell?, h1], by have h1 := (setCell_block (a := y) (setCell_block (a := x) hb).1).2; simp [World.cell?, h1]⟩
theorem two_boxes {X : World} {k q : Nat} (hne : k ≠ q) {u v x y u' v' x' y' : Value} {T T' : TypeId} (h2 : X.heap[k]? = some (.cells #[u, v] T)) (h3 : X.heap[q]? = some (.cells #[x, y] T')) :
    ((((X.setCell ⟨k, 0, none⟩ u').setCell ⟨k, 1, none⟩ v').setCell ⟨q, 0, none⟩ x').setCell ⟨q, 1, none⟩ y').heap[k]? = some (.cells #[u', v'] T) ∧ ((((X.setCell ⟨k, 0, none⟩ u').setCell ⟨k, 1, none⟩ v').setCell ⟨q, 0, none⟩ x').setCell ⟨q, 1, none⟩ y').heap[q]? = some (.cells #[x', y'] T') := by
  have e1 := (setCell_block (a := v') (setCell_block (a := u') h2).1).2
  have e2 : ((X.setCell ⟨k, 0, none⟩ u').setCell ⟨k, 1, none⟩ v').heap[q]? = some (.cells #[x, y] T') := by
    rw [heap_setCell_other _ ⟨k, 1, none⟩ q _ (Ne.symm hne), heap_setCell_other _ ⟨k, 0, none⟩ q _ (Ne.symm hne)]
    exact h3
  refine ⟨?_, (setCell_block (a := y') (setCell_block (a := x') e2).1).2⟩
  rw [heap_setCell_other _ ⟨q, 1, none⟩ k _ hne, heap_setCell_other _ ⟨q, 0, none⟩ k _ hne]
  exact e1
theorem four_cells {X : World} {k q : Nat} {u v x y : Value} {T T' : TypeId} (h : X.heap[k]? = some (.cells #[u, v] T) ∧ X.heap[q]? = some (.cells #[x, y] T')) : X.cell? ⟨k, 0, none⟩ = some u ∧ X.cell? ⟨k, 1, none⟩ = some v ∧ X.cell? ⟨q, 0, none⟩ = some x ∧ X.cell? ⟨q, 1, none⟩ = some y :=
  ⟨by simp [World.cell?, h.1], by simp [World.cell?, h.1], by simp [World.cell?, h.2], by simp [World.cell?, h.2]⟩
theorem RGot.ret {N1 N2 : Nat} {w W w5 w6 : World} {B : Nat} {a : Option Addr} {len cap M : Nat} {p1 : Option Addr} {n1 d1 : Nat} {p2 : Option Addr} {n2 d2 : Nat} {L1 L2 : List (Int × Int)} (h : RGot N1 N2 w5 w6 B a len cap M p1 n1 d1 p2 n2 d2 L1 L2) (hs : W.heap.size = w.heap.size + 1) (hg : w.grownBy W (some B)) (h5 : W.grownBy w5 (some B)) (hB : B < w.heap.size) (u v : Value) :
    RGot N1 N2 w ((w6.setCell ⟨w.heap.size, 0, none⟩ u).setCell ⟨w.heap.size, 1, none⟩ v) B a len cap M p1 n1 d1 p2 n2 d2 L1 L2 := by
  have hz := h5.size
  have e1 : (Value.slice p1 n1 d1).ownBlock ≠ some w.heap.size := fun e => by have := (h.ctx.lt _ e).1; omega
  have e2 : (Value.slice p2 n2 d2).ownBlock ≠ some w.heap.size := fun e => by have := (h.rel.lt _ e).1; omega
  have s1 := setCell_grown (w := w6) (g := w.heap.size) (o := 0) (u := u)
  have s2 := setCell_grown (w := w6.setCell ⟨w.heap.size, 0, none⟩ u) (g := w.heap.size) (o := 1) (u := v)
  have s3 := gtrans s1 s2
  have hf : ∀ k, some w.heap.size = some k → w.heap.size ≤ k := fun k e => by injection e with e; omega
  exact ⟨ownsRow_base (setCell_far (setCell_far h.ctx e1) e1) (by omega), ownsRow_base (setCell_far (setCell_far h.rel e2) e2) (by omega), ok_fresh h.ok hB s3 hf, fresh (gtrans hg (gtrans h5 h.gr)) s3 hf, h.few1, h.few2⟩
set_option maxRecDepth 100000 in
set_option maxHeartbeats 16000000 in
theorem tangled_any (B : Nat) (a : Option Addr) (len cap m : Nat) (hm : m ≤ 500000) (w : World) (h : Ok w B a len cap m) :
    Calls Try.prog 64 #[.pointer (some ⟨B, 0, none⟩)] w (RRes 20 40 B a len cap (m + 200) w) := by
  have hB := h.lt
  have HB := Lib.hid hB
  have hok := ok_alloc h (.cells #[.slice none 0 0, .slice none 0 0] 27)
  have hg0 : w.grownBy (w.alloc (.cells #[.slice none 0 0, .slice none 0 0] 27)) (some B) := World.grownBy_alloc w _ _
  have hs0 : (w.alloc (.cells #[.slice none 0 0, .slice none 0 0] 27)).heap.size = w.heap.size + 1 := by simp
  have hrb : (w.alloc (.cells #[.slice none 0 0, .slice none 0 0] 27)).heap[w.heap.size]? = some (.cells #[.slice none 0 0, .slice none 0 0] 27) := heap_alloc_new w _
  have HOK := Lib.hid hok
  have HG0 := Lib.hid hg0
  have HS0 := Lib.hid hs0
  have HRB := Lib.hid hrb
  clear h hok hg0 hs0 hrb
  go_enter Try.func64, Try.ntmps64
  go_wp2_with fail
  generalize w.alloc (.cells #[.slice none 0 0, .slice none 0 0] 27) = W at *
  have HB1 : Hid (B < W.heap.size) := by have := HS0.out; have := HB.out; unfold Hid; omega
  refine (pick_small B a len cap m (by omega) 4 (by omega) (by omega) W HOK.out).mono ?_
  rintro e w1 ⟨r, rfl, ⟨hr0, hr1⟩, hok1, hg1⟩
  obtain ⟨k0, rfl⟩ := Int.eq_ofNat_of_zero_le hr0
  have HOK1 := Lib.hid hok1
  have HG1 := Lib.hid hg1
  clear hok1 hg1
  obtain ⟨n, hn⟩ : ∃ n, 2 + k0 = n := ⟨_, rfl⟩
  have hwn : wrap64 (2 + (k0 : Int)) = (n : Int) := by unfold wrap64; omega
  have hwn2 : IntKind.i64.wrap (2 + (k0 : Int)) = (n : Int) := by rw [IntKind.wrap_i64]; omega
  go_wp2_with fail
  refine (some_any B a len cap (m + 1) (by omega) n (by omega) w1 HOK1.out).mono ?_
  rintro e w2 ⟨p, d, L, rfl, hc⟩
  have hs1 := HG1.out.size
  have HN := Lib.hid (RSt.new (ownsRow_base hc.own hs1) (L2 := []) (World.ownsRow_nil w2 W.heap.size _ _) (ok_up hc.ok (show m + 1 + 2 * n ≤ m + 12 by omega)) (gtrans HG1.out hc.gr))
  have hs2 := hc.gr.size
  clear hc hwn hwn2
  obtain ⟨o1, o2, o3, o4, o5⟩ := HN.out.cells
  go_wp2_with fail
  clear o1 o2 o3 o4 o5
  generalize w2.alloc (.cells #[.slice p n d, .slice none 0 0] 27) = V at *
  refine (pick_small B a len cap _ (by omega) 10 (by omega) (by omega) V HN.out.ok).mono ?_
  rintro e w3 ⟨q, rfl, ⟨hq0, hq1⟩, hok3, hg3⟩
  obtain ⟨mm0, rfl⟩ := Int.eq_ofNat_of_zero_le hq0
  have HR0 := Lib.hid ((HN.out.step HB1.out hg3 hok3).up (M' := m + 13 + 2 * (10 - mm0)) (by omega))
  clear hok3 hg3 HN
  go_wp2_with fail
  go_loopw [5] (fun s5 wr => ∃ (mm : Nat) (p1 : Option Addr) (d1 : Nat) (p2 : Option Addr) (n2 d2 : Nat) (L1 L2 : List (Int × Int)), mm ≤ 9 ∧ s5 = .int .i64 mm ∧ n2 + mm ≤ 10 ∧ Hid (RSt W wr B a len cap (m + 13 + 2 * (10 - mm)) w2.heap.size p1 n d1 p2 n2 d2 L1 L2)) (fun s5 _ => (intOf s5).toNat)
  case atStart => exact ⟨mm0, _, _, _, _, _, _, _, by omega, rfl, by omega, HR0⟩
  case round =>
    clear HR0
    obtain ⟨mm, p1, d1, p2, n2, d2, L1, L2, hmm, rfl, hn2, HR⟩ := hrel
    by_cases hm0 : mm = 0
    · subst hm0
      have hz : ¬ (0 : Int) < ((0 : Nat) : Int) := by omega
      go_wp2_with fail
      refine (one_ok B a len cap _ (by omega) 10 (by omega) (by omega) _ HR.out.ok).mono ?_
      rintro e w4 ⟨yes, rfl, hok4, hg4⟩
      have HR4 := Lib.hid (HR.out.step HB1.out hg4 hok4)
      clear hok4 hg4 HR
      cases yes with
      | true =>
        go_wp2_with fail
        refine (DrwN.anyRecord_any B a len cap _ (by omega) w4 HR4.out.ok).mono ?_
        rintro e w5 ⟨q1, k1, c1, q2, k2, c2, K1, K2, rfl, hgot⟩
        have hb := ((gtrans HR4.out.gr hgot.gr).block w.heap.size (by have := HS0.out; omega) (fun e => by injection e with e; have := HB.out; omega)).trans HRB.out
        obtain ⟨r1, r2, r3, r4, z1, z2⟩ := box_there hb (.slice q1 k1 c1) (.slice q2 k2 c2)
        have HGot := Lib.hid hgot
        clear hgot hb
        go_wp2_with fail
        refine bodyPost_ret (v := .agg #[.slice q1 k1 c1, .slice q2 k2 c2]) (by simp [results, Try.results64, go_sem, z1, z2]) rfl ?_
        have hgl := RGot.ret HGot.out HS0.out HG0.out HR4.out.gr HB.out (.slice q1 k1 c1) (.slice q2 k2 c2)
        exact ⟨_, _, _, _, _, _, _, _, rfl, ⟨hgl.ctx, hgl.rel, ok_up hgl.ok (by omega), hgl.gr, hgl.few1, hgl.few2⟩⟩
      | false =>
        obtain ⟨t1, t2, t3, t4, t5⟩ := HR4.out.cells
        obtain ⟨r1, r2, r3, r4, z1, z2⟩ := HR4.out.other HRB.out (by have := HB.out; omega) (.slice p1 n d1) (.slice p2 n2 d2)
        go_wp2_with fail
        refine bodyPost_ret (v := .agg #[.slice p1 n d1, .slice p2 n2 d2]) (by simp [results, Try.results64, go_sem, z1, z2]) rfl ?_
        exact ⟨_, _, _, _, _, _, _, _, rfl, (HR4.out.up (M' := m + 200) (by omega)).ret HS0.out HG0.out HB.out (by omega) (by omega) _ _⟩
    · have hz : (0 : Int) < (mm : Int) := by omega
      go_wp2_with fail
      refine (pick_small B a len cap _ (by omega) n (by omega) (by omega) _ HR.out.ok).mono ?_
      rintro e w4 ⟨ii, rfl, ⟨hi0, hi1⟩, hok4, hg4⟩
      obtain ⟨i, rfl⟩ := Int.eq_ofNat_of_zero_le hi0
      have HR4 := Lib.hid (HR.out.step HB1.out hg4 hok4)
      clear hok4 hg4 HR
      go_wp2_with fail
      refine (pick_small B a len cap _ (by omega) n (by omega) (by omega) _ HR4.out.ok).mono ?_
      rintro e w5 ⟨kk, rfl, ⟨hk0, hk1⟩, hok5, hg5⟩
      obtain ⟨k, rfl⟩ := Int.eq_ofNat_of_zero_le hk0
      have HR5 := Lib.hid (HR4.out.step HB1.out hg5 hok5)
      clear hok5 hg5 HR4
      have hmw : wrap64 ((mm : Int) - 1) = ((mm - 1 : Nat) : Int) := by unfold wrap64; omega
      by_cases hkk : i = k
      · subst hkk
        have hne : ((i : Int) != (i : Int)) = false := by simp
        have HN := Lib.hid (HR5.out.up (M' := m + 13 + 2 * (10 - (mm - 1))) (by omega))
        go_wp2_with fail
        exact ⟨⟨mm - 1, _, _, _, _, _, _, _, by omega, by go_num, by omega, HN⟩, by simp [intOf]; omega⟩
      · have hne : ((i : Int) != (k : Int)) = true := by rw [bne_iff_ne]; omega
        go_upto_region 8 with fail
        have HD := Lib.hid (HR5.out.below ((Below.refl _ _).drew))
        obtain ⟨b, off, xi, yi, hpe, hxi, e1, e2⟩ := (holds_own HR5.out.ctx).at i (by omega)
        obtain ⟨b', off', xk, yk, hpe', hxk, e3, e4⟩ := (holds_own HR5.out.ctx).at k (by omega)
        subst hpe
        injection hpe' with hpe'
        injection hpe' with hb1 hb2
        subst hb1 hb2
        clear hxi hxk e2 e4
        obtain ⟨o1, o2, o3, o4, o5⟩ := HR5.out.cells
        refine wp_region_still_tail 14 (by kernel_rfl) (by kernel_rfl) ?_
        simp only [List.take_succ_cons, List.take_zero, List.drop_succ_cons, List.drop_zero]
        repeat still_step
        refine wpStill_nil ?_
        clear e1 e3 o1 o2 o3 o4
        have HO1 := Lib.hid (holds_own HD.out.ctx)
        have HO2 := Lib.hid (holds_own HD.out.rel)
        have hc2 := HD.out.cap2
        go_wp2_with fail
        refine (Link2.l2Link_any xi xk (some ⟨b, off, none⟩) p2 n d1 n2 d2 _ L2 (by omega) (by omega) hc2 _ HO1.out HO2.out).mono ?_
        rintro e w7 ⟨q2, hr2, g5, g6, d5, d6, rfl, o6, b5⟩
        have hS6 := HD.out.below b5
        obtain ⟨m1, m2, m3, m4, m5⟩ := hS6.cells
        have hN := HD.out.next HB1.out o6 b5
        have HN := Lib.hid (hN.up (M' := m + 13 + 2 * (10 - (mm - 1))) (by omega))
        clear hS6 hN b5 o6 HD
        go_wp2_with fail
        exact ⟨⟨mm - 1, _, _, _, _, _, _, _, by omega, by go_num, by omega, HN⟩, by simp [intOf]; omega⟩
def Drawn3 (w : World) (e : Ending) (w' : World) : Prop :=
  ∃ (p1 : Option Addr) (n1 d1 : Nat) (p2 : Option Addr) (n2 d2 : Nat) (L1 L2 : List (Int × Int)) (x y : Int), e = .returned (.tuple #[.agg #[.slice p1 n1 d1, .slice p2 n2 d2], .agg #[.int .i64 x, .int .i64 y]]) ∧ DRec w w' p1 n1 d1 p2 n2 d2 L1 L2
theorem set_two {w w' : World} {k : Nat} {p1 : Option Addr} {n1 d1 : Nat} {p2 : Option Addr} {n2 d2 : Nat} {L1 L2 : List (Int × Int)} (h : DRec w w' p1 n1 d1 p2 n2 d2 L1 L2) (e1 : (Value.slice p1 n1 d1).ownBlock ≠ some k) (e2 : (Value.slice p2 n2 d2).ownBlock ≠ some k) (hk : w.heap.size ≤ k) (u v : Value) :
    DRec w ((w'.setCell ⟨k, 0, none⟩ u).setCell ⟨k, 1, none⟩ v) p1 n1 d1 p2 n2 d2 L1 L2 := by
  have s1 := setCell_grown (w := w') (g := k) (o := 0) (u := u)
  have s2 := setCell_grown (w := w'.setCell ⟨k, 0, none⟩ u) (g := k) (o := 1) (u := v)
  exact ⟨setCell_far (setCell_far h.ctx e1) e1, setCell_far (setCell_far h.rel e2) e2, h.few1, h.few2, h.cap1, h.cap2, h.bel.grown (gtrans s1 s2) h.bel.size (fun j e => by injection e with e; omega)⟩
theorem RSt.base {w W wr : World} {B : Nat} {a : Option Addr} {len cap M gb : Nat} {p1 : Option Addr} {n1 d1 : Nat} {p2 : Option Addr} {n2 d2 : Nat} {L1 L2 : List (Int × Int)} (h : RSt W wr B a len cap M gb p1 n1 d1 p2 n2 d2 L1 L2) (hb : Below w.heap.size w W) (hB : w.heap.size ≤ B) (h1 : n1 ≤ 20) (h2 : n2 ≤ 40) : DRec w wr p1 n1 d1 p2 n2 d2 L1 L2 :=
  ⟨ownsRow_base h.ctx hb.size, ownsRow_base h.rel hb.size, h1, h2, h.cap1, h.cap2, below_up h.gr hb hB⟩
set_option maxRecDepth 100000 in
set_option maxHeartbeats 16000000 in
theorem drawWould_any (a : Option Addr) (len cap : Nat) (w : World) (h : IsCode w a len) :
    Calls Try.prog 16 #[.slice a len cap] w (Drawn3 w) := by
  have hb0 := below_alloc w (.cells #[.slice none 0 0, .slice none 0 0] 27)
  have hs0 : (w.alloc (.cells #[.slice none 0 0, .slice none 0 0] 27)).heap.size = w.heap.size + 1 := by simp
  have hrb0 : (w.alloc (.cells #[.slice none 0 0, .slice none 0 0] 27)).heap[w.heap.size]? = some (.cells #[.slice none 0 0, .slice none 0 0] 27) := heap_alloc_new w _
  have hc0 := h.below hb0
  generalize hW0 : w.alloc (.cells #[.slice none 0 0, .slice none 0 0] 27) = W0 at *
  have HW0 := Lib.hid hW0
  clear hW0
  have hb1 := below_alloc W0 (.cells #[.int .i64 0, .int .i64 0] 39)
  have hs1 : (W0.alloc (.cells #[.int .i64 0, .int .i64 0] 39)).heap.size = w.heap.size + 2 := by simp [hs0]
  have hlb1 : (W0.alloc (.cells #[.int .i64 0, .int .i64 0] 39)).heap[w.heap.size + 1]? = some (.cells #[.int .i64 0, .int .i64 0] 39) := by
    have h1 := heap_alloc_new W0 (.cells #[.int .i64 0, .int .i64 0] 39)
    rw [hs0] at h1
    exact h1
  have hrb1 := (hb1.block w.heap.size (by omega)).trans hrb0
  have hc1 := hc0.below hb1
  have HB0 := Lib.hid (hb0.trans (hb1.mono hb0.size))
  generalize hW1 : W0.alloc (.cells #[.int .i64 0, .int .i64 0] 39) = W1 at *
  have HW1 := Lib.hid hW1
  clear hW1 hb1 hb0 hc0 hrb0
  have hok := ok_new (cap := cap) hc1
  rw [hs1] at hok
  have hb2 := below_alloc W1 (.cells #[.slice a len cap, .int .i64 0, .int .u64 0] 80)
  have HB1 := Lib.hid (HB0.out.trans (hb2.mono HB0.out.size))
  have HRB := Lib.hid ((hb2.block w.heap.size (by omega)).trans hrb1)
  have HLB := Lib.hid ((hb2.block (w.heap.size + 1) (by omega)).trans hlb1)
  have hs2 : (W1.alloc (.cells #[.slice a len cap, .int .i64 0, .int .u64 0] 80)).heap.size = w.heap.size + 3 := by simp [hs1]
  have HS1 := Lib.hid hs2
  have HOK := Lib.hid hok
  clear hb2 hrb1 hlb1 hok hs2 hc1 h
  go_enter Try.func16, Try.ntmps16
  go_upto_region 2 with fail
  rw [HW0.out, HW1.out]
  generalize W1.alloc (.cells #[.slice a len cap, .int .i64 0, .int .u64 0] 80) = W at *
  clear hs0 hs1 HW0 HW1 HB0
  have HBl : Hid (w.heap.size + 2 < W.heap.size) := by have := HS1.out; unfold Hid; omega
  go_wp2_with fail
  refine (tangled_any (w.heap.size + 2) a len cap 0 (by omega) W HOK.out).mono ?_
  rintro e w1 ⟨p1, n1, d1, p2, n2, d2, L1, L2, rfl, hgot⟩
  have hf1 := hgot.few1
  have hf2 := hgot.few2
  have HN := Lib.hid (RSt.new hgot.ctx hgot.rel hgot.ok hgot.gr)
  clear hgot
  go_upto_region 3 with fail
  generalize w1.alloc (.cells #[.slice p1 n1 d1, .slice p2 n2 d2] 27) = V at *
  have HD := Lib.hid (HN.out.below ((Below.refl _ _).drew))
  obtain ⟨o1, o2, o3, o4, o5⟩ := HD.out.cells
  go_region_law (first
    | (go_simp; go_at_call 65; refine (number_any (w.heap.size + 2) W.heap.size a len cap _ (by omega) HBl.out p1 p2 n1 d1 n2 d2 L1 (by omega) V.drew HD.out.ok HD.out.ctx).mono ?_; rintro e w5 ⟨x, rfl, _, hok5, hg5⟩; have HX5 := Lib.hid (HD.out.step HBl.out hg5 hok5); obtain ⟨c1, c2, c3, c4, c5⟩ := HX5.out.cells; clear hok5 hg5)
    | (go_simp; go_at_call 65; refine (number_any (w.heap.size + 2) W.heap.size a len cap _ (by omega) HBl.out p1 p2 n1 d1 n2 d2 L1 (by omega) w5 HX5.out.ok HX5.out.ctx).mono ?_; rintro e w6 ⟨y, rfl, _, hok6, hg6⟩; have HX6 := Lib.hid (HX5.out.step HBl.out hg6 hok6); obtain ⟨e1, e2, e3, e4, e5⟩ := HX6.out.cells; clear hok6 hg6; have hbr := (HX6.out.gr.block w.heap.size (by have := HBl.out; omega) (fun e => by injection e with e; omega)).trans HRB.out; have hbl := (HX6.out.gr.block (w.heap.size + 1) (by have := HBl.out; omega) (fun e => by injection e with e; omega)).trans HLB.out; obtain ⟨r1, r2, r3, r4, z1, z2⟩ := box_there hbr (.slice p1 n1 d1) (.slice p2 n2 d2); obtain ⟨s1, s2, s3, s4, y1, y2⟩ := box_there hbl (.int .i64 x) (.int .i64 y); have HBR := Lib.hid hbr; have HBL := Lib.hid hbl; clear hbr hbl))
  all_goals have HDR := Lib.hid (RSt.base HX6.out HB1.out (by omega) (by omega) (by omega))
  all_goals have hx1 : (Value.slice p1 n1 d1).ownBlock ≠ some w.heap.size := fun e => by have := (HX6.out.ctx.lt _ e).1; have := HBl.out; omega
  all_goals have hx2 : (Value.slice p2 n2 d2).ownBlock ≠ some w.heap.size := fun e => by have := (HX6.out.rel.lt _ e).1; have := HBl.out; omega
  all_goals have hx3 : (Value.slice p1 n1 d1).ownBlock ≠ some (w.heap.size + 1) := fun e => by have := (HX6.out.ctx.lt _ e).1; have := HBl.out; omega
  all_goals have hx4 : (Value.slice p2 n2 d2).ownBlock ≠ some (w.heap.size + 1) := fun e => by have := (HX6.out.rel.lt _ e).1; have := HBl.out; omega
  all_goals have HXX := Lib.hid (And.intro (And.intro hx1 hx2) (And.intro hx3 hx4))
  all_goals clear hx1 hx2 hx3 hx4
  all_goals have HT1 := Lib.hid (four_cells (two_boxes (u' := .slice p1 n1 d1) (v' := .slice p2 n2 d2) (x' := .int .i64 x) (y' := .int .i64 y) (by omega) HBR.out HBL.out))
  all_goals have HT2 := Lib.hid (four_cells (two_boxes (u' := .int .i64 x) (v' := .int .i64 y) (x' := .slice p1 n1 d1) (y' := .slice p2 n2 d2) (by omega) HBL.out HBR.out))
  all_goals go_wp2_with fail
  all_goals first
    | (refine bodyPost_ret (v := .tuple #[.agg #[.slice p1 n1 d1, .slice p2 n2 d2], .agg #[.int .i64 x, .int .i64 y]]) (by obtain ⟨q1, q2, q3, q4⟩ := HT1.out; simp [results, Try.results16, go_sem, q1, q2, q3, q4]) rfl ?_; exact ⟨_, _, _, _, _, _, _, _, _, _, rfl, set_two (set_two HDR.out HXX.out.1.1 HXX.out.1.2 (by omega) _ _) HXX.out.2.1 HXX.out.2.2 (by omega) _ _⟩)
    | (refine bodyPost_ret (v := .tuple #[.agg #[.slice p1 n1 d1, .slice p2 n2 d2], .agg #[.int .i64 x, .int .i64 y]]) (by obtain ⟨q1, q2, q3, q4⟩ := HT2.out; simp [results, Try.results16, go_sem, q1, q2, q3, q4]) rfl ?_; exact ⟨_, _, _, _, _, _, _, _, _, _, rfl, set_two (set_two HDR.out HXX.out.2.1 HXX.out.2.2 (by omega) _ _) HXX.out.1.1 HXX.out.1.2 (by omega) _ _⟩)
end Go.Proofs.Ythcjembekadijaa.DrwT
/- The program's SuspectContexts. -/
namespace Go.Proofs.Ythcjembekadijaa.SusI
open Go.RowKit Pairs Rec Chain Find2 GoodM Keep GivesI Lows Order Idx That IsLater Consist OrdM RedM RedOf
noncomputable def sus (m : Ps) (x : Int) : Bool := later m x x
noncomputable def susP (l m : Ps) : Option (List Int) := if good l m = true then some (sel (sus m) l) else none
theorem sus_bad {l m : Ps} (h : good l m = false) : susP l m = none := by unfold susP; rw [if_neg (by rw [h]; simp)]
theorem sus_yes {l m : Ps} (h : good l m = true) : susP l m = some (sel (sus m) l) := by unfold susP; rw [if_pos h]
theorem clos_any (x : Int) (bo bx : Nat) (l m : Ps) (W : World) (c1 : W.cell? ⟨bo, 0, none⟩ = some (.func (.func 119) #[] #[.pointer (some ⟨bx, 0, none⟩)])) (h : IsOrd W l m bx) (hx : x ∈ keys l) (hrx : -1000000 ≤ x ∧ x ≤ 1000000) :
    Calls Try.prog 67 #[.int .i64 x, .pointer (some ⟨bo, 0, none⟩)] W fun e w' => e = .returned (.bool (sus m x)) ∧ Below W.heap.size W w' := by
  have HI := Lib.hid h
  have HX := Lib.hid hx
  clear h hx
  go_enter Try.func67, Try.ntmps67
  go_wp2_with fail
  refine (isLater_any bx l m x x W HI.out HX.out (by omega) (by omega)).mono ?_
  rintro e w' ⟨rfl, rfl⟩
  go_wp2_with fail
  go_ret
  exact ⟨rfl, Below.refl _ _⟩
set_option maxRecDepth 100000 in
set_option maxHeartbeats 8000000 in
theorem impl_cap : Caps.Cap 17 fun l m w => GivesI.Res (susP l m).isSome ((susP l m).getD []) w := by
  intro a1 a2 n1 c1 n2 c2 l m w hc1 hc2 hz1 hz2 h1 h2
  have hb := below_alloc w (.cells #[.slice a1 n1 c1, .slice a2 n2 c2] 27)
  have hf := box_first w (.slice a1 n1 c1) (.slice a2 n2 c2) 27
  have hf2 := box_second w (.slice a1 n1 c1) (.slice a2 n2 c2) 27
  have H1 := Lib.hid (h1.below hb)
  have H2 := Lib.hid (h2.below hb)
  have HL1 := Lib.hid h1.1
  have hsz : w.heap.size < (w.alloc (.cells #[.slice a1 n1 c1, .slice a2 n2 c2] 27)).heap.size := by simp
  clear h1 h2
  go_enter Try.func17, Try.ntmps17
  go_wp2_with fail
  generalize w.alloc (.cells #[.slice a1 n1 c1, .slice a2 n2 c2] 27) = W at *
  refine (Avr.impl_any a1 a2 n1 c1 n2 c2 l m W hz1 hz2 H1.out H2.out).mono ?_
  rintro e w1 ⟨rfl, b1⟩
  have r1 := (b1.cell (p := ⟨w.heap.size, 0, none⟩) hsz).trans hf
  have r2 := (b1.cell (p := ⟨w.heap.size, 1, none⟩) hsz).trans hf2
  have hsz1 := Nat.lt_of_lt_of_le hsz b1.size
  have HB1 := Lib.hid (hb.trans (b1.mono hb.size))
  have K1 := Lib.hid (H1.out.below b1)
  have K2 := Lib.hid (H2.out.below b1)
  clear hf hf2 b1 hb
  cases hg : good l m with
  | false =>
    have HE := Lib.hid (sus_bad hg)
    clear hg
    go_wp2_with fail
    go_ret2
    rw [HE.out]
    exact ⟨_, _, _, rfl, ownsRow_base (That.empty_own _) HB1.out.size, by omega, HB1.out.trans ((below_alloc _ _).mono HB1.out.size)⟩
  | true =>
    have HE := Lib.hid (sus_yes hg)
    have HG := Lib.hid hg
    have hn1 : n1 ≤ 10 := by rw [← HL1.out]; exact (Table.good_few hg).1
    clear hg
    go_wp2_with fail
    refine (orderOf_any a1 a2 n1 c1 n2 c2 l m w1 HG.out K1.out K2.out).mono ?_
    rintro e w2 ⟨bx, rfl, ho, b2⟩
    have ha := below_alloc w2 (.cells #[.func (.func 119) #[] #[.pointer (some ⟨bx, 0, none⟩)]] 86)
    have b23 := b2.trans (ha.mono b2.size)
    have q1 := (b23.cell (p := ⟨w.heap.size, 0, none⟩) hsz1).trans r1
    have q2 := (b23.cell (p := ⟨w.heap.size, 1, none⟩) hsz1).trans r2
    have q4 : (w2.alloc (.cells #[.func (.func 119) #[] #[.pointer (some ⟨bx, 0, none⟩)]] 86)).cell? ⟨w2.heap.size, 0, none⟩ = some (.func (.func 119) #[] #[.pointer (some ⟨bx, 0, none⟩)]) := by
      rw [World.cell?_alloc_mark]
      rfl
    have s4 : w2.heap.size < (w2.alloc (.cells #[.func (.func 119) #[] #[.pointer (some ⟨bx, 0, none⟩)]] 86)).heap.size := by simp
    have HO := Lib.hid (ho.below ha)
    have HB3 := Lib.hid (HB1.out.trans (b23.mono HB1.out.size))
    have K13 := Lib.hid (K1.out.below b23)
    have Q4 := Lib.hid q4
    clear ho ha b2 b23 r1 r2
    go_wp2_with fail
    generalize w2.alloc (.cells #[.func (.func 119) #[] #[.pointer (some ⟨bx, 0, none⟩)]] 86) = W3 at *
    refine (that_any 67 #[.pointer (some ⟨w2.heap.size, 0, none⟩)] (sus m) a1 a2 n1 c1 n2 c2 l W3 hn1 K13.out (fun args W => call_enter Try.func67 (by kernel_rfl) rfl args W) (fun x wr hx hwr => ?_)).mono ?_
    · have k1 := key_rng HG.out hx
      exact clos_any x w2.heap.size bx l m wr ((hwr.cell (p := ⟨w2.heap.size, 0, none⟩) s4).trans Q4.out) (HO.out.below hwr) hx (by omega)
    rintro e w4 ⟨p, k, d, rfl, hown, hk, b4⟩
    have HOW := Lib.hid hown
    have HB4 := Lib.hid (HB3.out.trans (b4.mono HB3.out.size))
    clear hown b4
    go_wp2_with fail
    go_ret2
    rw [HE.out]
    exact ⟨_, _, _, rfl, ownsRow_base HOW.out HB3.out.size, hk, HB4.out⟩
theorem impl_any : GivesO.Gives 17 susP := Caps.o impl_cap
end Go.Proofs.Ythcjembekadijaa.SusI
/- Contradiction groups: mathematics. -/
namespace Go.Proofs.Ythcjembekadijaa.GrpM
open Pairs Rec Chain Find2 GoodM That IsLater Consist OrdM RedM RedOf SusI
noncomputable def mtl (m : Ps) (n x : Int) : Bool := later m n x && later m x n
theorem mtl_iff {m : Ps} {n x : Int} : mtl m n x = true ↔ Chain.Reach m n x ∧ Chain.Reach m x n := by unfold mtl; rw [Bool.and_eq_true, later_iff, later_iff]
theorem mtl_comm (m : Ps) (a b : Int) : mtl m a b = mtl m b a := by unfold mtl; rw [Bool.and_comm]
theorem mtl_trans {m : Ps} {a b c : Int} (h : mtl m a b = true) (k : mtl m b c = true) : mtl m a c = true := by
  rw [mtl_iff] at *
  exact ⟨h.1.trans k.1, k.2.trans h.2⟩
theorem mtl_sus {m : Ps} {a b : Int} (h : mtl m a b = true) : sus m a = true := by
  rw [mtl_iff] at h
  exact later_iff.2 (h.1.trans h.2)
theorem sus_mtl {m : Ps} {a : Int} : mtl m a a = sus m a := by unfold mtl sus; rw [Bool.and_self]
noncomputable def grp (l m : Ps) (n : Int) : List Int := sel (mtl m n) l
/-- Does a context stand first in its group? -/
noncomputable def isFst (l m : Ps) (n : Int) : Bool := decide ((grp l m n)[0]? = some n)
noncomputable def grps (l m : Ps) (L : List Int) : List (List Int) := (L.filter (isFst l m)).map (grp l m)
noncomputable def grpP (l m : Ps) : Option (List (List Int)) := if good l m = true then some (grps l m (sel (sus m) l)) else none
theorem grp_bad {l m : Ps} (h : good l m = false) : grpP l m = none := by unfold grpP; rw [if_neg (by rw [h]; simp)]
theorem grp_yes {l m : Ps} (h : good l m = true) : grpP l m = some (grps l m (sel (sus m) l)) := by unfold grpP; rw [if_pos h]
theorem grps_next (l m : Ps) {L : List Int} {k : Nat} {n : Int} (h : L[k]? = some n) : grps l m (L.take (k + 1)) = grps l m (L.take k) ++ (if isFst l m n = true then [grp l m n] else []) := by
  unfold grps
  rw [List.take_add_one, h, List.filter_append, List.map_append]
  cases hq : isFst l m n <;> simp [hq]
theorem mem_sel {q : Int → Bool} {l : Ps} {x : Int} : x ∈ sel q l ↔ x ∈ keys l ∧ q x = true := by
  unfold sel keys
  constructor
  · intro h
    obtain ⟨p, hp, rfl⟩ := List.mem_map.1 h
    obtain ⟨h1, h2⟩ := List.mem_filter.1 hp
    exact ⟨List.mem_map.2 ⟨p, h1, rfl⟩, h2⟩
  · rintro ⟨h1, h2⟩
    obtain ⟨p, hp, rfl⟩ := List.mem_map.1 h1
    exact List.mem_map.2 ⟨p, List.mem_filter.2 ⟨hp, h2⟩, rfl⟩
theorem grp_has {l m : Ps} {n : Int} (hk : n ∈ keys l) (hs : sus m n = true) : n ∈ grp l m n := mem_sel.2 ⟨hk, by rw [sus_mtl]; exact hs⟩
theorem grp_ne {l m : Ps} {n : Int} (hk : n ∈ keys l) (hs : sus m n = true) : 0 < (grp l m n).length := List.length_pos_of_mem (grp_has hk hs)
theorem grp_len (l m : Ps) (n : Int) : (grp l m n).length ≤ l.length := sel_len _ l
/-! ### By places -/
noncomputable def mtlI (l m : Ps) (i k : Nat) : Bool := match l[i]?, l[k]? with | some p, some q => mtl m p.1 q.1 | _, _ => false
theorem mtlI_eq {l m : Ps} {i k : Nat} {p q : Int × Int} (h1 : l[i]? = some p) (h2 : l[k]? = some q) : mtlI l m i k = mtl m p.1 q.1 := by unfold mtlI; rw [h1, h2]
/-- The places that are done with before place i. -/
def Done (l m : Ps) (i k : Nat) : Prop := ∃ j, j < i ∧ j ≤ k ∧ mtlI l m j k = true
theorem done_zero {l m : Ps} {k : Nat} : ¬ Done l m 0 k := fun ⟨_, h, _⟩ => absurd h (Nat.not_lt_zero _)
theorem mtlI_get {l m : Ps} {i k : Nat} (h : mtlI l m i k = true) : ∃ p q, l[i]? = some p ∧ l[k]? = some q ∧ mtl m p.1 q.1 = true := by
  unfold mtlI at h
  split at h
  · exact ⟨_, _, by assumption, by assumption, h⟩
  · cases h
theorem mtlI_trans {l m : Ps} {i j k : Nat} (h : mtlI l m i j = true) (h2 : mtlI l m j k = true) : mtlI l m i k = true := by
  obtain ⟨p, q, e1, e2, e3⟩ := mtlI_get h
  obtain ⟨q', r, e4, e5, e6⟩ := mtlI_get h2
  rw [e2] at e4
  injection e4 with e4
  subst e4
  rw [mtlI_eq e1 e5]
  exact mtl_trans e3 e6
theorem mtlI_comm {l m : Ps} {i k : Nat} (h : mtlI l m i k = true) : mtlI l m k i = true := by
  obtain ⟨p, q, e1, e2, e3⟩ := mtlI_get h
  rw [mtlI_eq e2 e1, mtl_comm]
  exact e3
theorem mtlI_self {l m : Ps} {i : Nat} {p : Int × Int} (h : l[i]? = some p) : mtlI l m i i = sus m p.1 := by rw [mtlI_eq h h, sus_mtl]
theorem done_not {l m : Ps} {i k : Nat} (h : mtlI l m i i = false) : Done l m (i + 1) k ↔ Done l m i k := by
  constructor
  · rintro ⟨j, h1, h2, h3⟩
    by_cases e : j = i
    · subst e
      have := mtlI_trans h3 (mtlI_comm h3)
      rw [h] at this
      cases this
    · exact ⟨j, by omega, h2, h3⟩
  · rintro ⟨j, h1, h2, h3⟩
    exact ⟨j, by omega, h2, h3⟩
theorem done_old {l m : Ps} {i k : Nat} (h : Done l m i i) : Done l m (i + 1) k ↔ Done l m i k := by
  constructor
  · rintro ⟨j, h1, h2, h3⟩
    by_cases e : j = i
    · subst e
      obtain ⟨q, h4, h5, h6⟩ := h
      exact ⟨q, h4, by omega, mtlI_trans h6 h3⟩
    · exact ⟨j, by omega, h2, h3⟩
  · rintro ⟨j, h1, h2, h3⟩
    exact ⟨j, by omega, h2, h3⟩
/-- Within the round of place i, the places before k are gone through. -/
def DoneTo (l m : Ps) (i k t : Nat) : Prop := Done l m i t ∨ (i ≤ t ∧ t < k ∧ mtlI l m i t = true)
theorem doneTo_start {l m : Ps} {i t : Nat} : DoneTo l m i i t ↔ Done l m i t := ⟨fun h => h.elim id (fun h => absurd h.2.1 (by omega)), .inl⟩
theorem doneTo_hit {l m : Ps} {i k t : Nat} (hik : i ≤ k) (h : mtlI l m i k = true) : DoneTo l m i (k + 1) t ↔ DoneTo l m i k t ∨ t = k := by
  unfold DoneTo
  constructor
  · rintro (h1 | ⟨h1, h2, h3⟩)
    · exact .inl (.inl h1)
    · by_cases e : t = k
      · exact .inr e
      · exact .inl (.inr ⟨h1, by omega, h3⟩)
  · rintro ((h1 | ⟨h1, h2, h3⟩) | rfl)
    · exact .inl h1
    · exact .inr ⟨h1, by omega, h3⟩
    · exact .inr ⟨hik, by omega, h⟩
theorem doneTo_miss {l m : Ps} {i k t : Nat} (h : mtlI l m i k = false) : DoneTo l m i (k + 1) t ↔ DoneTo l m i k t := by
  unfold DoneTo
  constructor
  · rintro (h1 | ⟨h1, h2, h3⟩)
    · exact .inl h1
    · by_cases e : t = k
      · subst e
        rw [h] at h3
        cases h3
      · exact .inr ⟨h1, by omega, h3⟩
  · rintro (h1 | ⟨h1, h2, h3⟩)
    · exact .inl h1
    · exact .inr ⟨h1, by omega, h3⟩
theorem doneTo_end {l m : Ps} {i t n : Nat} (hn : l.length = n) : DoneTo l m i n t ↔ Done l m (i + 1) t := by
  unfold DoneTo
  constructor
  · rintro (⟨j, h1, h2, h3⟩ | ⟨h1, h2, h3⟩)
    · exact ⟨j, by omega, h2, h3⟩
    · exact ⟨i, by omega, h1, h3⟩
  · rintro ⟨j, h1, h2, h3⟩
    by_cases e : j = i
    · subst e
      obtain ⟨p, q, e1, e2, _⟩ := mtlI_get h3
      exact .inr ⟨h2, by have := (List.getElem?_eq_some_iff.1 e2).1; omega, h3⟩
    · exact .inl ⟨j, by omega, h2, h3⟩
/-- The numbers of the places from i to k that stand with place i. -/
theorem sel_none {q : Int → Bool} : ∀ {l : Ps}, (∀ p ∈ l, q p.1 = false) → sel q l = []
  | [], _ => rfl
  | p :: l, h => by
    have := sel_none (l := l) (fun x hx => h x (List.mem_cons_of_mem _ hx))
    unfold sel at *
    rw [List.filter_cons, if_neg (by rw [h p (List.mem_cons_self ..)]; simp)]
    exact this
/-- Where place i is not done, no context before it stands with it. -/
theorem before_none {l m : Ps} {i : Nat} {p : Int × Int} (hp : l[i]? = some p) (hd : ¬ Done l m i i) : sel (mtl m p.1) (l.take i) = [] := by
  refine sel_none fun q hq => ?_
  obtain ⟨j, hj, e⟩ := List.getElem_of_mem hq
  have hji : j < i := by rw [List.length_take] at hj; omega
  have hjl : l[j]? = some q := by
    have := List.getElem?_eq_getElem hj
    rw [e, List.getElem?_take_of_lt hji] at this
    exact this
  cases h : mtl m p.1 q.1 with
  | false => rfl
  | true => exact absurd ⟨j, hji, by omega, by rw [mtlI_eq hjl hp, mtl_comm]; exact h⟩ hd
theorem fst_new {l m : Ps} {i : Nat} {p : Int × Int} (hp : l[i]? = some p) (hs : sus m p.1 = true) (hd : ¬ Done l m i i) : isFst l m p.1 = true := by
  unfold isFst grp
  rw [decide_eq_true_eq]
  have e : l = l.take i ++ p :: l.drop (i + 1) := by
    have hi := (List.getElem?_eq_some_iff.1 hp).1
    have h2 : l.drop i = p :: l.drop (i + 1) := by
      rw [List.drop_eq_getElem_cons hi]
      rw [(List.getElem?_eq_some_iff.1 hp).2]
    rw [← h2, List.take_append_drop]
  have e2 : sel (mtl m p.1) l = sel (mtl m p.1) (l.take i) ++ sel (mtl m p.1) (p :: l.drop (i + 1)) := by
    conv => lhs; rw [e]
    unfold sel
    rw [List.filter_append, List.map_append]
  rw [e2, before_none hp hd, List.nil_append]
  unfold sel
  rw [List.filter_cons, if_pos (by rw [sus_mtl]; exact hs)]
  rfl
theorem fst_old {l m : Ps} {i : Nat} {p : Int × Int} (hg : good l m = true) (hp : l[i]? = some p) (hd : Done l m i i) : isFst l m p.1 = false := by
  obtain ⟨j, h1, h2, h3⟩ := hd
  obtain ⟨q, p', e1, e2, e3⟩ := mtlI_get h3
  rw [hp] at e2
  injection e2 with e2
  subst e2
  unfold isFst grp
  rw [decide_eq_false_iff_not]
  intro h
  have hasc := (Idx.good_asc hg).1
  -- q stands before p, and is in the group
  have hq : q.1 ∈ sel (mtl m p.1) (l.take i) := mem_sel.2 ⟨List.mem_map.2 ⟨q, List.mem_of_getElem? (by rw [List.getElem?_take_of_lt h1]; exact e1), rfl⟩, by rw [mtl_comm]; exact e3⟩
  have e : sel (mtl m p.1) l = sel (mtl m p.1) (l.take i) ++ sel (mtl m p.1) (l.drop i) := by
    conv => lhs; rw [← List.take_append_drop i l]
    unfold sel
    rw [List.filter_append, List.map_append]
  rw [e, List.getElem?_append_left (List.length_pos_of_mem hq)] at h
  have hm := List.mem_of_getElem? h
  obtain ⟨r, hr, her⟩ := List.mem_map.1 (mem_sel.1 hm).1
  obtain ⟨t, ht, e4⟩ := List.getElem_of_mem hr
  have hti : t < i := by rw [List.length_take] at ht; omega
  have htl : l[t]? = some r := by
    have := List.getElem?_eq_getElem ht
    rw [e4, List.getElem?_take_of_lt hti] at this
    exact this
  have := hasc.lt (i - t - 1) t r p htl (by rw [show t + (i - t - 1) + 1 = i by omega]; exact hp)
  omega
/-- What place i adds to the groups. -/
noncomputable def grpsI (l m : Ps) (i : Nat) : List (List Int) := grps l m (sel (sus m) (l.take i))
theorem grpsI_zero (l m : Ps) : grpsI l m 0 = [] := rfl
theorem grpsI_end {l m : Ps} {n : Nat} (h : l.length = n) : grpsI l m n = grps l m (sel (sus m) l) := by unfold grpsI; rw [List.take_of_length_le (by omega)]
theorem grps_app (l m : Ps) (L K : List Int) : grps l m (L ++ K) = grps l m L ++ grps l m K := by unfold grps; rw [List.filter_append, List.map_append]
theorem grpsI_miss {l m : Ps} {i : Nat} {p : Int × Int} (hp : l[i]? = some p) (h : sus m p.1 = false) : grpsI l m (i + 1) = grpsI l m i := by
  obtain ⟨x, y⟩ := p
  unfold grpsI
  rw [sel_next (sus m) hp, if_neg (by rw [h]; simp), List.append_nil]
theorem grpsI_old {l m : Ps} {i : Nat} {p : Int × Int} (hg : good l m = true) (hp : l[i]? = some p) (hd : Done l m i i) : grpsI l m (i + 1) = grpsI l m i := by
  have hf := fst_old hg hp hd
  obtain ⟨x, y⟩ := p
  unfold grpsI
  rw [sel_next (sus m) hp, grps_app]
  cases hs : sus m x with
  | false => simp [grps]
  | true =>
    rw [if_pos rfl]
    have : grps l m [x] = [] := by unfold grps; simp [show isFst l m x = false from hf]
    rw [this, List.append_nil]
theorem grpsI_new {l m : Ps} {i : Nat} {p : Int × Int} (hp : l[i]? = some p) (hs : sus m p.1 = true) (hd : ¬ Done l m i i) : grpsI l m (i + 1) = grpsI l m i ++ [grp l m p.1] := by
  have hf := fst_new hp hs hd
  obtain ⟨x, y⟩ := p
  unfold grpsI
  rw [sel_next (sus m) hp, grps_app, if_pos hs]
  congr 1
  unfold grps
  simp [show isFst l m x = true from hf]
/-- The group of place i as it grows. -/
theorem grow_start {l m : Ps} {i : Nat} {p : Int × Int} (hp : l[i]? = some p) (hd : ¬ Done l m i i) : sel (mtl m p.1) (l.take i) = [] := before_none hp hd
theorem grps_few (l m : Ps) (L : List Int) : (grps l m L).length ≤ L.length := by unfold grps; rw [List.length_map]; exact List.length_filter_le _ _
theorem off_le {N : Nat} : ∀ (R : List (List Int)), (∀ r ∈ R, r.length ≤ N) → ∀ j, j ≤ R.length → SS.off R j ≤ j * N
  | R, h, 0, _ => by simp [SS.off]
  | R, h, j + 1, hj => by
    have hr : R[j]? = some (R[j]'(by omega)) := List.getElem?_eq_getElem _
    have ih := off_le R h j (by omega)
    rw [SS.off_next hr, Nat.add_mul]
    have := h _ (List.mem_of_getElem? hr)
    omega
theorem grps_off {l m : Ps} (L : List Int) : SS.off (grps l m L) (grps l m L).length ≤ L.length * l.length := by
  refine Nat.le_trans (off_le (N := l.length) (grps l m L) (fun r hr => ?_) _ (Nat.le_refl _)) (Nat.mul_le_mul_right _ (grps_few l m L))
  unfold grps at hr
  obtain ⟨n, _, rfl⟩ := List.mem_map.1 hr
  exact grp_len l m n
end Go.Proofs.Ythcjembekadijaa.GrpM
