/- == and != of two relations, and slices.Index over relations. -/
import Derived.Test.YthcjembekadijaaOrderSaidPartam
import Derived.Test.YthcjembekadijaaOrderSaidPartag
import Derived.Laws.StructEq
import Derived.Shelf.SlicesE.Kit
import Derived.BigQuiet
import Derived.Test.YthcjembekadijaaOrderSaidPartas
import Derived.Test.YthcjembekadijaaOrderSaidPartau
import Derived.Test.YthcjembekadijaaOrderSaidPartaw
import Derived.Deep.RegionHeld3
import Derived.Lib.QuietBelow
namespace Go.Proofs.Ythcjembekadijaa.Eq2
open Go.RowKit Pairs Rec RecEq Find2 GoodM RelM

theorem guard2 (op : BinOp) (a b : Operand) (x1 x2 y1 y2 : Int) (w : World) : Sem.run Try.prog (eqGuard op 39 a b (.agg #[.int .i64 x1, .int .i64 x2]) (.agg #[.int .i64 y1, .int .i64 y2])) w = .ok () w :=
  run_eqGuard_agg w op 39 a b _ _ (by kernel_rfl)
theorem equal2 (x1 x2 y1 y2 : Int) (w : World) : Sem.run Try.prog (binOp .eql 39 (.agg #[.int .i64 x1, .int .i64 x2]) (.agg #[.int .i64 y1, .int .i64 y2])) w = .ok (.bool (x1 == y1 && x2 == y2)) w := by
  have u3 := Try.underlying3
  have a3 := Try.isAgg3
  have z3 := Try.sizeOf3
  have hS : Try.prog.underlying 39 = some (.struct (Try.prog.fieldsOf 39)) := by kernel_rfl
  have hp : Try.prog.stoodInHeld 39 = false := by kernel_rfl
  rw [run_eql_struct, show (10000 : Nat) = 9999 + 1 from rfl, run_equalIn_agg w 9999 39 _ _ hS hp]
  simp only [Program.fieldsOf, Try.underlying39]
  go_simp
  by_cases h1 : x1 = y1 <;> by_cases h2 : x2 = y2 <;> simp [h1, h2]
theorem differ2 (x1 x2 y1 y2 : Int) (w : World) : Sem.run Try.prog (binOp .neq 39 (.agg #[.int .i64 x1, .int .i64 x2]) (.agg #[.int .i64 y1, .int .i64 y2])) w = .ok (.bool (!(x1 == y1 && x2 == y2))) w := by
  have u3 := Try.underlying3
  have a3 := Try.isAgg3
  have z3 := Try.sizeOf3
  have hS : Try.prog.underlying 39 = some (.struct (Try.prog.fieldsOf 39)) := by kernel_rfl
  have hp : Try.prog.stoodInHeld 39 = false := by kernel_rfl
  rw [run_neq_struct, show (10000 : Nat) = 9999 + 1 from rfl, run_equalIn_agg w 9999 39 _ _ hS hp]
  simp only [Program.fieldsOf, Try.underlying39]
  go_simp
  by_cases h1 : x1 = y1 <;> by_cases h2 : x2 = y2 <;> simp [h1, h2]
def atR (m : List (Int × Int)) (u v : Int) : Option Nat := m.findIdx? (fun p => p.1 == u && p.2 == v)
def indexR (m : List (Int × Int)) (u v : Int) : Int := match atR m u v with | some k => (k : Int) | none => -1
theorem indexR_some {m : List (Int × Int)} {u v : Int} {k : Nat} (h : atR m u v = some k) : indexR m u v = (k : Int) := by unfold indexR; rw [h]
theorem indexR_none {m : List (Int × Int)} {u v : Int} (h : atR m u v = none) : indexR m u v = -1 := by unfold indexR; rw [h]
theorem atR_here {m : List (Int × Int)} {u v : Int} {k : Nat} (h : ∀ p ∈ m.take k, p ≠ (u, v)) (hk : m[k]? = some (u, v)) : atR m u v = some k := by
  unfold atR
  have hl : k < m.length := (List.getElem?_eq_some_iff.1 hk).1
  rw [List.findIdx?_eq_some_iff_getElem]
  refine ⟨hl, ?_, ?_⟩
  · rw [(List.getElem?_eq_some_iff.1 hk).2]
    simp
  · intro j hj
    have := h m[j] (by rw [List.mem_take_iff_getElem]; exact ⟨j, by omega, rfl⟩)
    intro e
    simp at e
    exact this (Prod.ext e.1 e.2)
theorem atR_none {m : List (Int × Int)} {u v : Int} (h : ∀ p ∈ m, p ≠ (u, v)) : atR m u v = none := by
  unfold atR
  rw [List.findIdx?_eq_none_iff]
  intro p hp
  have := h p hp
  cases e : (p.1 == u && p.2 == v) with
  | false => rfl
  | true =>
    simp at e
    exact absurd (Prod.ext e.1 e.2) this
theorem atR_mem {m : List (Int × Int)} {u v : Int} {k : Nat} (h : atR m u v = some k) : m[k]? = some (u, v) := by
  unfold atR at h
  rw [List.findIdx?_eq_some_iff_getElem] at h
  obtain ⟨hl, h1, _⟩ := h
  simp at h1
  rw [List.getElem?_eq_getElem hl]
  congr 1
  exact Prod.ext h1.1 h1.2
theorem atR_no {m : List (Int × Int)} {u v : Int} (h : atR m u v = none) : (u, v) ∉ m := by
  unfold atR at h
  rw [List.findIdx?_eq_none_iff] at h
  intro hm
  have := h _ hm
  simp at this
set_option maxRecDepth 100000 in
set_option maxHeartbeats 2000000 in
theorem index_any (a : Option Addr) (n c : Nat) (m : List (Int × Int)) (u v : Int) (hz : n ≤ 1048576) (w : World) (h : Holds w a n m) :
    Calls Try.prog 94 #[.slice a n c, .agg #[.int .i64 u, .int .i64 v]] w fun e w' => e = .returned (.int .i64 (indexR m u v)) ∧ Below w.heap.size w w' := by
  have hb := below_alloc w (.cells #[.int .i64 u, .int .i64 v] 39)
  have u1 := box_first w (.int .i64 u) (.int .i64 v) 39
  have u2' := box_second w (.int .i64 u) (.int .i64 v) 39
  have hsz : w.heap.size < (w.alloc (.cells #[.int .i64 u, .int .i64 v] 39)).heap.size := by simp
  have HH := Lib.hid (h.below hb)
  clear h
  go_enter Try.func94, Try.ntmps94
  go_wp2_with fail
  generalize w.alloc (.cells #[.int .i64 u, .int .i64 v] 39) = W at *
  go_loopw [8] (fun s8 wr => ∃ k : Nat, k ≤ n ∧ s8 = .int .i64 k ∧ Below W.heap.size W wr ∧ Hid (∀ p ∈ m.take k, p ≠ (u, v))) (fun s8 _ => n - (intOf s8).toNat)
  case atStart => exact ⟨0, Nat.zero_le _, rfl, Below.refl _ _, fun p hp => by simp at hp⟩
  case round =>
    obtain ⟨k, hk, rfl, hbr, HP⟩ := hrel
    by_cases hlt : k < n
    · obtain ⟨b, off, x, y, rfl, hx, e1, e2⟩ := (HH.out.below hbr).at k hlt
      have HX := Lib.hid hx
      have hkn : (k : Int) < (n : Int) := by omega
      have q1 := (hbr.cell (p := ⟨w.heap.size, 0, none⟩) hsz).trans u1
      have q2 := (hbr.cell (p := ⟨w.heap.size, 1, none⟩) hsz).trans u2'
      have hE := equal2
      have hG := guard2
      clear hx
      by_cases hxy : x = u ∧ y = v
      · obtain ⟨rfl, rfl⟩ := hxy
        have HR := Lib.hid (indexR_some (atR_here HP.out HX.out))
        go_wp2_with fail
        go_quiet (fail)
        go_wp2_with fail
        go_ret
        exact ⟨by rw [HR.out]; rfl, hb.trans ((hbr.trans ((Joins.below_draws _ _ _).mono hbr.size)).mono hb.size)⟩
      · have hbo : (u == x && v == y) = false := by
          cases e : (u == x && v == y) with
          | false => rfl
          | true =>
            simp at e
            exact absurd ⟨e.1.symm, e.2.symm⟩ hxy
        have HP2 : Hid (∀ p ∈ m.take (k + 1), p ≠ (u, v)) := by
          intro p hp
          rw [List.take_add_one, HX.out] at hp
          rcases List.mem_append.1 hp with hp | hp
          · exact HP.out p hp
          · simp at hp
            rw [hp]
            intro e
            injection e with e3 e4
            exact hxy ⟨e3, e4⟩
        clear hxy
        go_wp2_with fail
        go_quiet (fail)
        go_wp2_with fail
        exact ⟨⟨k + 1, by omega, by go_num, hbr.trans ((Joins.below_draws _ _ _).mono hbr.size), HP2⟩, by simp [intOf]; omega⟩
    · obtain rfl : k = n := by omega
      have hkn : ¬ (k : Int) < (k : Int) := by omega
      have HR : Hid (indexR m u v = -1) := indexR_none (atR_none (by
        have := HP.out
        rw [List.take_of_length_le (by rw [HH.out.1]; omega)] at this
        exact this))
      go_wp2_with fail
      go_ret
      exact ⟨by rw [HR.out]; rfl, hb.trans (hbr.mono hb.size)⟩
end Go.Proofs.Ythcjembekadijaa.Eq2
/- The model's l2Link: a record with a pair more, at its place. -/
namespace Go.Proofs.Ythcjembekadijaa.Link
open Go.RowKit Pairs Rec RecEq Find2 GoodM RelM Keep Row2 Copy AppH Two Gives PSrc
open OwnS (l2Own_any one_a one_b empty_at own_off)
open AddC (boxes222)
theorem belA {W X : World} (h : Below W.heap.size W X) (o : Obj) : Below W.heap.size W (X.alloc o) := h.alloc h.size o
theorem two_o1 (X : World) (o1 o2 : Obj) : ((X.alloc o1).alloc o2).drew.heap[X.heap.size]? = some o1 := (Below.heap_alloc (X.alloc o1) o2 X.heap.size (by simp)).trans (heap_alloc_new X _)
theorem two_o2 (X : World) (o1 o2 : Obj) : ((X.alloc o1).alloc o2).drew.heap[X.heap.size + 1]? = some o2 := by
  have h := heap_alloc_new (X.alloc o1) o2
  rw [show (X.alloc o1).heap.size = X.heap.size + 1 by simp] at h
  exact h
/-- What is left when the row is put into the box. -/
theorem fin {w10 : World} {B B' gb r g1 g2 n1 d1 d2 k : Nat} {l M : List (Int × Int)} (h2 : w10.ownsRow B 39 2 (.slice (some ⟨g2, 0, none⟩) k d2) k (flat M)) (h1 : w10.ownsRow B 55 2 (.slice (some ⟨g1, 0, none⟩) n1 d1) n1 (flat l))
    (q2 : g2 ≠ gb) (q1 : g1 ≠ gb) (r2 : g2 ≠ r) (r1 : g1 ≠ r) (hne : g1 ≠ g2) (hB : B' ≤ B) (x y z : Value) : Own (((w10.setCell ⟨gb, 1, none⟩ x).setCell ⟨r, 0, none⟩ y).setCell ⟨r, 1, none⟩ z) B' g1 n1 d1 g2 k d2 l M :=
  ⟨ownsRow_base (setCell_far (setCell_far (setCell_far h1 (own_off q1)) (own_off r1)) (own_off r1)) hB, ownsRow_base (setCell_far (setCell_far (setCell_far h2 (own_off q2)) (own_off r2)) (own_off r2)) hB, hne⟩
theorem go_on {m : List (Int × Int)} {zu zv x y : Int} (h : m[plR m (zu, zv)]? ≠ some (zu, zv)) (hx : m[plR m (zu, zv)]? = some (x, y)) : (x == zu && y == zv) = false := by
  cases e : (x == zu && y == zv) with
  | false => rfl
  | true =>
    simp at e
    rw [e.1, e.2] at hx
    exact absurd hx h
set_option maxRecDepth 100000 in
set_option maxHeartbeats 8000000 in
theorem link_new (zu zv : Int) (a1 a2 : Option Addr) (n1 c1 n2 c2 : Nat) (l m : List (Int × Int)) (h1 : n1 ≤ 1000000) (h2 : n2 ≤ 1000000) (hcap : n2 ≤ c2) (w : World) (H1 : Holds w a1 n1 l) (H2 : Holds w a2 n2 m) (hne0 : m[plR m (zu, zv)]? ≠ some (zu, zv)) :
    Calls Try.prog 93 #[.agg #[.slice a1 n1 c1, .slice a2 n2 c2], .agg #[.int .i64 zu, .int .i64 zv]] w fun e w' => ∃ g1 g2 d1 d2 : Nat, e = .returned (.agg #[.slice (some ⟨g1, 0, none⟩) n1 d1, .slice (some ⟨g2, 0, none⟩) (n2 + 1) d2]) ∧ Own w' w.heap.size g1 n1 d1 g2 (n2 + 1) d2 l (ins m (plR m (zu, zv)) (zu, zv)) ∧ Below w.heap.size w w' := by
  obtain ⟨i1, hi1, hy0, hy1, hy2⟩ := info_parts infoRelation
  obtain ⟨hs, x1, x2, x3, x4, y1, y2, fy1, fy2, hb0⟩ := boxes222 w (.slice a1 n1 c1) (.slice a2 n2 c2) (.int .i64 zu) (.int .i64 zv) (.slice none 0 0) (.slice none 0 0) 27 39 27
  have HS := Lib.hid hs
  have HH1 := Lib.hid (H1.below hb0)
  have HH2 := Lib.hid (H2.below hb0)
  obtain ⟨i, hi⟩ : ∃ i, plR m (zu, zv) = i := ⟨_, rfl⟩
  have hil : i ≤ n2 := by rw [← hi, ← H2.1]; exact plR_le m (zu, zv)
  have HIL := Lib.hid hil
  have HLO : Hid (∀ j y, j < i → m[j]? = some y → before y (zu, zv) = true) := fun j y hj hy => plR_lt (hi ▸ hj) hy
  have HHI : Hid (∀ y, m[i]? = some y → before y (zu, zv) = false) := fun y hy => plR_at (m := m) (x := (zu, zv)) (by rw [hi]; exact hy)
  have HNE : Hid (∀ x y, m[i]? = some (x, y) → (x == zu && y == zv) = false) := fun x y hx => go_on hne0 (by rw [hi]; exact hx)
  have HI := Lib.hid hi
  clear H1 H2 hs hi hne0
  go_enter Try.func93, Try.ntmps93
  go_wp2_with fail
  generalize ((w.alloc (.cells #[.slice a1 n1 c1, .slice a2 n2 c2] 27)).alloc (.cells #[.int .i64 zu, .int .i64 zv] 39)).alloc (.cells #[.slice none 0 0, .slice none 0 0] 27) = W at *
  have lw : w.heap.size < W.heap.size := by rw [HS.out]; omega
  have lw1 : w.heap.size + 1 < W.heap.size := by rw [HS.out]; omega
  have lw2 : w.heap.size + 2 < W.heap.size := by rw [HS.out]; omega
  go_loopw [5] (fun s5 wr => ∃ k : Nat, k ≤ i ∧ s5 = .int .i64 k ∧ Below W.heap.size W wr) (fun s5 _ => i - (intOf s5).toNat)
  case atStart => exact ⟨0, Nat.zero_le _, rfl, Below.refl _ _⟩
  case round =>
    obtain ⟨k, hk, rfl, hbr⟩ := hrel
    have p1 := (hbr.cell (p := ⟨w.heap.size, 0, none⟩) lw).trans x1
    have p2 := (hbr.cell (p := ⟨w.heap.size, 1, none⟩) lw).trans x2
    have p3 := (hbr.cell (p := ⟨w.heap.size + 1, 0, none⟩) lw1).trans x3
    have p4 := (hbr.cell (p := ⟨w.heap.size + 1, 1, none⟩) lw1).trans x4
    by_cases hlt : k < i
    · obtain ⟨b, off, x, y, rfl, hx, e1, e2⟩ := (HH2.out.below hbr).at k (by omega)
      have hd := HLO.out k _ hlt hx
      have cB : ∀ d os, Calls Try.prog 121 #[.agg #[.int .i64 x, .int .i64 y], .agg #[.int .i64 zu, .int .i64 zv]] (Sort.grow (redrawn wr d) os) fun e w'' => e = .returned (.bool true) ∧ ∃ p : Regrown, w'' = Sort.grow (redrawn wr p.d) p.os := fun d os => Calls.regrown_of (by rw [← hd]; exact Good2.l2Before_any x y zu zv _)
      have hkn : (k : Int) < (n2 : Int) := by omega
      have hk0 : (0 : Int) ≤ (k : Int) := by omega
      have HBR := Lib.hid hbr
      clear hx hbr hd
      go_wp2_with fail
      have k2 := cell_regrown p2
      have k3 := cell_regrown p3
      have k4 := cell_regrown p4
      have j1 := cell_regrown e1
      have j2 := cell_regrown e2
      clear p1 p2 p3 p4 e1 e2
      refine wp_region_quiet_below (by kernel_rfl) (by kernel_rfl) ?_
      repeat (go_big_quiet_step (first | (go_at_call 121; exact cB _ _)))
      refine wpQuiet_nil ?_
      intro _ hw'
      obtain ⟨⟨dq, osq⟩, hw''⟩ := hw'
      subst hw''
      go_wp2_with fail
      exact ⟨⟨k + 1, by omega, by go_num, HBR.out.trans ((below_regrown wr dq osq).mono HBR.out.size)⟩, by simp [intOf]; omega⟩
    · obtain rfl : k = i := by omega
      have HBR := Lib.hid hbr
      clear hbr hlt hk
      have k1 := cell_regrown p1
      have k2 := cell_regrown p2
      have k3 := cell_regrown p3
      have k4 := cell_regrown p4
      have k2' := cell_regrown p2
      have K2' := Lib.hid k2'
      clear p1 p3 p4 k2'
      by_cases hin : k < n2
      focus (obtain ⟨b, off, x, y, ha, hx, e1, e2⟩ := (HH2.out.below HBR.out).at k hin; rw [ha] at k2; clear ha p2; have hd := HHI.out _ hx; have cB : ∀ d os, Calls Try.prog 121 #[.agg #[.int .i64 x, .int .i64 y], .agg #[.int .i64 zu, .int .i64 zv]] (Sort.grow (redrawn wr d) os) fun e w'' => e = .returned (.bool false) ∧ ∃ p : Regrown, w'' = Sort.grow (redrawn wr p.d) p.os := (fun d os => Calls.regrown_of (by rw [← hd]; exact Good2.l2Before_any x y zu zv _)); have hkn : (k : Int) < (n2 : Int) := (by omega); have hk0 : (0 : Int) ≤ (k : Int) := (by omega); have j1 := cell_regrown e1; have j2 := cell_regrown e2; clear hx hd e1 e2; go_wp2_with fail; (refine wp_region_quiet_below (by kernel_rfl) (by kernel_rfl) ?_); (repeat (go_big_quiet_step (first | (go_at_call 121; exact cB _ _)))); refine wpQuiet_nil ?_; intro _ hw'; obtain ⟨⟨dq, osq⟩, hw''⟩ := hw'; subst hw''; clear hkn hk0 j1 j2 k1 k2 k3 k4 cB)
      rotate_left
      focus (have hkn : ¬ (k : Int) < (n2 : Int) := (by omega); clear p2; go_wp2_with fail; (refine wp_region_quiet_below (by kernel_rfl) (by kernel_rfl) ?_); (repeat (go_big_quiet_step (first | fail))); refine wpQuiet_nil ?_; intro _ hw'; obtain ⟨⟨dq, osq⟩, hw''⟩ := hw'; subst hw''; clear hkn k2 k3 k4)
      rotate_left
      all_goals (have bq := HBR.out.trans ((below_regrown wr dq osq).mono HBR.out.size))
      all_goals generalize Sort.grow (redrawn wr dq) osq = wq at *
      all_goals (have p1 := (bq.cell (p := ⟨w.heap.size, 0, none⟩) lw).trans x1; have p2 := (bq.cell (p := ⟨w.heap.size, 1, none⟩) lw).trans x2; have p3 := (bq.cell (p := ⟨w.heap.size + 1, 0, none⟩) lw1).trans x3; have p4 := (bq.cell (p := ⟨w.heap.size + 1, 1, none⟩) lw1).trans x4)
      all_goals (have HBQ := Lib.hid bq; clear bq)
      all_goals go_wp2_with fail
      all_goals (refine (l2Own_any a1 a2 n1 c1 n2 c2 l m (by omega) (by omega) _ (HH1.out.below HBQ.out) (HH2.out.below HBQ.out)).mono ?_; rintro e w2 ⟨g1, g2, d1, d2, rfl, o2, b2⟩)
      all_goals (have bW := HBQ.out.trans (b2.mono HBQ.out.size))
      all_goals (have hctx := ownsRow_base o2.ctx HBQ.out.size)
      all_goals (have hrel := ownsRow_base o2.rel HBQ.out.size)
      all_goals (have hne := o2.ne; clear o2 b2 p1 p2 p3 p4)
      all_goals (have hba := below_alloc w2 (.cells #[.slice (some ⟨g1, 0, none⟩) n1 d1, .slice (some ⟨g2, 0, none⟩) n2 d2] 27); have bZ := bW.trans (hba.mono bW.size))
      all_goals (have p1 := (bZ.cell (p := ⟨w.heap.size, 0, none⟩) lw).trans x1; have p2 := (bZ.cell (p := ⟨w.heap.size, 1, none⟩) lw).trans x2; have p3 := (bZ.cell (p := ⟨w.heap.size + 1, 0, none⟩) lw1).trans x3; have p4 := (bZ.cell (p := ⟨w.heap.size + 1, 1, none⟩) lw1).trans x4)
      all_goals (have c1' := box_first w2 (.slice (some ⟨g1, 0, none⟩) n1 d1) (.slice (some ⟨g2, 0, none⟩) n2 d2) 27; have c2' := box_second w2 (.slice (some ⟨g1, 0, none⟩) n1 d1) (.slice (some ⟨g2, 0, none⟩) n2 d2) 27)
      all_goals (have hnew := heap_alloc_new w2 (.cells #[.slice (some ⟨g1, 0, none⟩) n1 d1, .slice (some ⟨g2, 0, none⟩) n2 d2] 27); have e1' : (w2.alloc (.cells #[.slice (some ⟨g1, 0, none⟩) n1 d1, .slice (some ⟨g2, 0, none⟩) n2 d2] 27)).frozen? ⟨w2.heap.size, 0, none⟩ = false := (by simp only [World.frozen?, hnew]; rfl); have e2' : (w2.alloc (.cells #[.slice (some ⟨g1, 0, none⟩) n1 d1, .slice (some ⟨g2, 0, none⟩) n2 d2] 27)).frozen? ⟨w2.heap.size, 1, none⟩ = false := (by simp only [World.frozen?, hnew]; rfl))
      all_goals clear hnew
      all_goals go_wp2_with fail
      focus (obtain ⟨b', off', x', y', ha', hx', j1, j2⟩ := (HH2.out.below bZ).at k hin; rw [ha'] at p2; clear ha'; have hbo : (x' == zu && y' == zv) = false := HNE.out _ _ hx'; have hkn : (k : Int) < (n2 : Int) := (by omega); have hk0 : (0 : Int) ≤ (k : Int) := (by omega); have hE := Eq2.equal2; have hG := Eq2.guard2; clear hx'; go_quiet (fail); clear hbo hkn hk0 hE hG j1 j2)
      rotate_left
      focus (have hkn : ¬ (k : Int) < (n2 : Int) := (by omega); go_quiet (fail); clear hkn)
      rotate_left
      all_goals clear p1 p2 p3 p4
      all_goals (have hya := hba.trans (Joins.below_draws w2.heap.size (w2.alloc (.cells #[.slice (some ⟨g1, 0, none⟩) n1 d1, .slice (some ⟨g2, 0, none⟩) n2 d2] 27)) nq); have bY := bW.trans (hya.mono bW.size); have hys : w2.heap.size < ((w2.alloc (.cells #[.slice (some ⟨g1, 0, none⟩) n1 d1, .slice (some ⟨g2, 0, none⟩) n2 d2] 27)).drewN nq).heap.size := (Nat.lt_of_lt_of_le (show w2.heap.size < (w2.alloc (.cells #[.slice (some ⟨g1, 0, none⟩) n1 d1, .slice (some ⟨g2, 0, none⟩) n2 d2] 27)).heap.size by simp) (Joins.below_draws w2.heap.size (w2.alloc (.cells #[.slice (some ⟨g1, 0, none⟩) n1 d1, .slice (some ⟨g2, 0, none⟩) n2 d2] 27)) nq).size))
      all_goals (have p1 := (bY.cell (p := ⟨w.heap.size, 0, none⟩) lw).trans x1; have p2 := (bY.cell (p := ⟨w.heap.size, 1, none⟩) lw).trans x2; have p3 := (bY.cell (p := ⟨w.heap.size + 1, 0, none⟩) lw1).trans x3; have p4 := (bY.cell (p := ⟨w.heap.size + 1, 1, none⟩) lw1).trans x4)
      all_goals (have c1'' : ((w2.alloc (.cells #[.slice (some ⟨g1, 0, none⟩) n1 d1, .slice (some ⟨g2, 0, none⟩) n2 d2] 27)).drewN nq).cell? ⟨w2.heap.size, 0, none⟩ = some (.slice (some ⟨g1, 0, none⟩) n1 d1) := ((Joins.below_draws (w2.alloc (.cells #[.slice (some ⟨g1, 0, none⟩) n1 d1, .slice (some ⟨g2, 0, none⟩) n2 d2] 27)).heap.size (w2.alloc (.cells #[.slice (some ⟨g1, 0, none⟩) n1 d1, .slice (some ⟨g2, 0, none⟩) n2 d2] 27)) nq).cell (p := ⟨w2.heap.size, 0, none⟩) (show w2.heap.size < (w2.alloc (.cells #[.slice (some ⟨g1, 0, none⟩) n1 d1, .slice (some ⟨g2, 0, none⟩) n2 d2] 27)).heap.size by simp)).trans c1'; have c2'' : ((w2.alloc (.cells #[.slice (some ⟨g1, 0, none⟩) n1 d1, .slice (some ⟨g2, 0, none⟩) n2 d2] 27)).drewN nq).cell? ⟨w2.heap.size, 1, none⟩ = some (.slice (some ⟨g2, 0, none⟩) n2 d2) := ((Joins.below_draws (w2.alloc (.cells #[.slice (some ⟨g1, 0, none⟩) n1 d1, .slice (some ⟨g2, 0, none⟩) n2 d2] 27)).heap.size (w2.alloc (.cells #[.slice (some ⟨g1, 0, none⟩) n1 d1, .slice (some ⟨g2, 0, none⟩) n2 d2] 27)) nq).cell (p := ⟨w2.heap.size, 1, none⟩) (show w2.heap.size < (w2.alloc (.cells #[.slice (some ⟨g1, 0, none⟩) n1 d1, .slice (some ⟨g2, 0, none⟩) n2 d2] 27)).heap.size by simp)).trans c2'; have e1'' := fz (Joins.below_draws (w2.alloc (.cells #[.slice (some ⟨g1, 0, none⟩) n1 d1, .slice (some ⟨g2, 0, none⟩) n2 d2] 27)).heap.size (w2.alloc (.cells #[.slice (some ⟨g1, 0, none⟩) n1 d1, .slice (some ⟨g2, 0, none⟩) n2 d2] 27)) nq) ⟨w2.heap.size, 0, none⟩ (show w2.heap.size < (w2.alloc (.cells #[.slice (some ⟨g1, 0, none⟩) n1 d1, .slice (some ⟨g2, 0, none⟩) n2 d2] 27)).heap.size by simp) e1'; have e2'' := fz (Joins.below_draws (w2.alloc (.cells #[.slice (some ⟨g1, 0, none⟩) n1 d1, .slice (some ⟨g2, 0, none⟩) n2 d2] 27)).heap.size (w2.alloc (.cells #[.slice (some ⟨g1, 0, none⟩) n1 d1, .slice (some ⟨g2, 0, none⟩) n2 d2] 27)) nq) ⟨w2.heap.size, 1, none⟩ (show w2.heap.size < (w2.alloc (.cells #[.slice (some ⟨g1, 0, none⟩) n1 d1, .slice (some ⟨g2, 0, none⟩) n2 d2] 27)).heap.size by simp) e2')
      all_goals clear c1' c2' e1' e2'
      all_goals (have c1' := c1''; have c2' := c2''; have e1' := e1''; have e2' := e2''; clear c1'' c2'' e1'' e2'')
      all_goals (have hgz := hys; have HREL := Lib.hid (ownsRow_below hrel hya); have HCTX := Lib.hid (ownsRow_below hctx hya); have HSRC := Lib.hid (Src.of (HH2.out.below bY)); have HBZ := Lib.hid bY; have hW2 : W.heap.size ≤ w2.heap.size := bW.size; have hg1 : g1 < w2.heap.size := (hctx.lt g1 rfl).2; have hg2 : g2 < w2.heap.size := (hrel.lt g2 rfl).2; have hl1 : W.heap.size ≤ g1 := (hctx.lt g1 rfl).1; have hl2 : W.heap.size ≤ g2 := (hrel.lt g2 rfl).1)
      all_goals clear hba hya hys bW bZ bY hctx hrel
      all_goals go_wp2_with fail
      all_goals generalize (w2.alloc (.cells #[.slice (some ⟨g1, 0, none⟩) n1 d1, .slice (some ⟨g2, 0, none⟩) n2 d2] 27)).drewN nq = Z at *
      all_goals generalize w2.heap.size = gb at *
      all_goals (have HK : Hid (∀ X, Below Z.heap.size Z X → X.cell? ⟨w.heap.size, 1, none⟩ = some (.slice a2 n2 c2) ∧ X.cell? ⟨w.heap.size + 1, 0, none⟩ = some (.int .i64 zu) ∧ X.cell? ⟨w.heap.size + 1, 1, none⟩ = some (.int .i64 zv)) := fun X hX => ⟨(hX.cell (p := ⟨w.heap.size, 1, none⟩) (by show w.heap.size < _; omega)).trans p2, (hX.cell (p := ⟨w.heap.size + 1, 0, none⟩) (by show w.heap.size + 1 < _; omega)).trans p3, (hX.cell (p := ⟨w.heap.size + 1, 1, none⟩) (by show w.heap.size + 1 < _; omega)).trans p4⟩)
      all_goals (have HK2 : Hid (∀ X u, Below Z.heap.size Z X → (X.setCell ⟨gb, 1, none⟩ u).cell? ⟨w.heap.size, 1, none⟩ = some (.slice a2 n2 c2) ∧ (X.setCell ⟨gb, 1, none⟩ u).cell? ⟨w.heap.size + 1, 0, none⟩ = some (.int .i64 zu) ∧ (X.setCell ⟨gb, 1, none⟩ u).cell? ⟨w.heap.size + 1, 1, none⟩ = some (.int .i64 zv)) := fun X u hX => ⟨(World.cell?_setCell_other _ _ _ _ (by intro e; injection e with e; omega)).trans (HK.out X hX).1, (World.cell?_setCell_other _ _ _ _ (by intro e; injection e with e; omega)).trans (HK.out X hX).2.1, (World.cell?_setCell_other _ _ _ _ (by intro e; injection e with e; omega)).trans (HK.out X hX).2.2⟩)
      all_goals (have hk0 : (0 : Int) ≤ (k : Int) := by omega)
      all_goals (have hk1 : (k : Int) ≤ (c2 : Int) := by omega)
      all_goals (have hk2 : (k : Int) ≤ (n2 : Int) := by omega)
      all_goals go_region_held3 (fun (X : World) => X.cell? ⟨w.heap.size, 1, none⟩ = some (.slice a2 n2 c2) ∧ X.cell? ⟨w.heap.size + 1, 0, none⟩ = some (.int .i64 zu) ∧ X.cell? ⟨w.heap.size + 1, 1, none⟩ = some (.int .i64 zv)) (first | (refine HK.out _ ?_; (repeat (first | exact B10.out | exact B9.out | exact B8.out | with_reducible exact Below.refl _ _ | with_reducible refine belA ?_ _ | with_reducible refine Below.drew ?_ | fail)); done) | (refine HK2.out _ _ ?_; (repeat (first | exact B10.out | exact B9.out | exact B8.out | with_reducible exact Below.refl _ _ | with_reducible refine belA ?_ _ | with_reducible refine Below.drew ?_ | fail)); done) | fail) ((first | (refine step_append_src (by rfl) (.tmp 40) (.tmp 44) 25 (by rfl) Z.heap.size 39 i1 _ Try.underlying25 hi1 hy0 hy1 hy2 rfl _ 0 0 [] (by rfl) (empty_at (by first | exact one_a _ _ | exact one_b _ _ | exact two_o1 _ _ _ | exact two_o2 _ _ _) (by first | omega | (simp; done) | (simp; omega))) _ k _ (m.take k) (by rfl) ((HSRC.out.take HIL.out).below (by (repeat (first | exact B10.out | exact B9.out | exact B8.out | with_reducible exact Below.refl _ _ | with_reducible refine belA ?_ _ | with_reducible refine Below.drew ?_ | fail)); done)) (by omega) (Below.size (B := Z.heap.size) (by (repeat (first | exact B10.out | exact B9.out | exact B8.out | with_reducible exact Below.refl _ _ | with_reducible refine belA ?_ _ | with_reducible refine Below.drew ?_ | fail)); done)) _ rfl ?_; intro g8 d8 w8 hown8 hgrow8 hat8 hlt8; rw [Nat.zero_add]; have B8 : Hid (Below Z.heap.size Z w8) := Below.grown (by (repeat (first | exact B10.out | exact B9.out | exact B8.out | with_reducible exact Below.refl _ _ | with_reducible refine belA ?_ _ | with_reducible refine Below.drew ?_ | fail)); done) hgrow8 (Below.size (B := Z.heap.size) (by (repeat (first | exact B10.out | exact B9.out | exact B8.out | with_reducible exact Below.refl _ _ | with_reducible refine belA ?_ _ | with_reducible refine Below.drew ?_ | fail)); done)) (fun q e => by injection e with e; first | omega | (simp at e; omega)); (first | (have HP8 : Hid (w8.heap[Z.heap.size]? = some (.cells #[.int .i64 zu, .int .i64 zv] 39)) := (hgrow8.block Z.heap.size (by first | (simp; done) | (simp; omega)) (fun e => by injection e with e; first | omega | (simp at e; omega))).trans (two_o1 Z (.cells #[.int .i64 zu, .int .i64 zv] 39) (.cells #[] 39))) | (have HP8 : Hid (w8.heap[Z.heap.size + 1]? = some (.cells #[.int .i64 zu, .int .i64 zv] 39)) := (hgrow8.block (Z.heap.size + 1) (by first | (simp; done) | (simp; omega)) (fun e => by injection e with e; first | omega | (simp at e; omega))).trans (two_o2 Z (.cells #[] 39) (.cells #[.int .i64 zu, .int .i64 zv] 39))) | skip); rw [Nat.zero_add, List.nil_append] at hown8; have HO8 := Lib.hid hown8; clear hown8 hgrow8 hat8 hlt8; have l8 : Z.heap.size ≤ w8.heap.size := B8.out.size) | (refine step_append_src (by rfl) (.tmp 45) (.tmp 47) 25 (by rfl) Z.heap.size 39 i1 _ Try.underlying25 hi1 hy0 hy1 hy2 rfl g8 k d8 (flat (m.take k)) (by rfl) (by exact HO8.out) (some ⟨Z.heap.size, 0, none⟩) 1 1 [(zu, zv)] (by rfl) (Src.pair (by exact HP8.out)) (by omega) (Below.size (B := Z.heap.size) (by (repeat (first | exact B10.out | exact B9.out | exact B8.out | with_reducible exact Below.refl _ _ | with_reducible refine belA ?_ _ | with_reducible refine Below.drew ?_ | fail)); done)) _ rfl ?_; intro g9 d9 w9 hown9 hgrow9 hat9 hlt9; have B9 : Hid (Below Z.heap.size Z w9) := Below.grown (by (repeat (first | exact B10.out | exact B9.out | exact B8.out | with_reducible exact Below.refl _ _ | with_reducible refine belA ?_ _ | with_reducible refine Below.drew ?_ | fail)); done) hgrow9 (Below.size (B := Z.heap.size) (by (repeat (first | exact B10.out | exact B9.out | exact B8.out | with_reducible exact Below.refl _ _ | with_reducible refine belA ?_ _ | with_reducible refine Below.drew ?_ | fail)); done)) (fun q e => by injection e with e; have hq := (HO8.out.lt g8 rfl).1; omega); have HO9 := Lib.hid hown9; clear hown9 hgrow9 hat9 hlt9; have l9 : Z.heap.size ≤ w9.heap.size := B9.out.size) | (refine step_append_src (by rfl) (.tmp 45) (.tmp 47) 25 (by rfl) Z.heap.size 39 i1 _ Try.underlying25 hi1 hy0 hy1 hy2 rfl g8 k d8 (flat (m.take k)) (by rfl) (by exact HO8.out) (some ⟨Z.heap.size + 1, 0, none⟩) 1 1 [(zu, zv)] (by rfl) (Src.pair (by exact HP8.out)) (by omega) (Below.size (B := Z.heap.size) (by (repeat (first | exact B10.out | exact B9.out | exact B8.out | with_reducible exact Below.refl _ _ | with_reducible refine belA ?_ _ | with_reducible refine Below.drew ?_ | fail)); done)) _ rfl ?_; intro g9 d9 w9 hown9 hgrow9 hat9 hlt9; have B9 : Hid (Below Z.heap.size Z w9) := Below.grown (by (repeat (first | exact B10.out | exact B9.out | exact B8.out | with_reducible exact Below.refl _ _ | with_reducible refine belA ?_ _ | with_reducible refine Below.drew ?_ | fail)); done) hgrow9 (Below.size (B := Z.heap.size) (by (repeat (first | exact B10.out | exact B9.out | exact B8.out | with_reducible exact Below.refl _ _ | with_reducible refine belA ?_ _ | with_reducible refine Below.drew ?_ | fail)); done)) (fun q e => by injection e with e; have hq := (HO8.out.lt g8 rfl).1; omega); have HO9 := Lib.hid hown9; clear hown9 hgrow9 hat9 hlt9; have l9 : Z.heap.size ≤ w9.heap.size := B9.out.size) | (refine step_append_src (by rfl) (.tmp 45) (.tmp 47) 25 (by rfl) Z.heap.size 39 i1 _ Try.underlying25 hi1 hy0 hy1 hy2 rfl g8 k d8 (flat (m.take k)) (by rfl) (by exact HO8.out.alloc _) (some ⟨w8.heap.size, 0, none⟩) 1 1 [(zu, zv)] (by rfl) (Src.pair (by exact heap_alloc_new w8 _)) (by omega) (Below.size (B := Z.heap.size) (by (repeat (first | exact B10.out | exact B9.out | exact B8.out | with_reducible exact Below.refl _ _ | with_reducible refine belA ?_ _ | with_reducible refine Below.drew ?_ | fail)); done)) _ rfl ?_; intro g9 d9 w9 hown9 hgrow9 hat9 hlt9; have B9 : Hid (Below Z.heap.size Z w9) := Below.grown (by (repeat (first | exact B10.out | exact B9.out | exact B8.out | with_reducible exact Below.refl _ _ | with_reducible refine belA ?_ _ | with_reducible refine Below.drew ?_ | fail)); done) hgrow9 (Below.size (B := Z.heap.size) (by (repeat (first | exact B10.out | exact B9.out | exact B8.out | with_reducible exact Below.refl _ _ | with_reducible refine belA ?_ _ | with_reducible refine Below.drew ?_ | fail)); done)) (fun q e => by injection e with e; have hq := (HO8.out.lt g8 rfl).1; omega); have HO9 := Lib.hid hown9; clear hown9 hgrow9 hat9 hlt9; have l9 : Z.heap.size ≤ w9.heap.size := B9.out.size) | (refine step_append_src (by rfl) (.tmp 48) (.tmp 52) 25 (by rfl) Z.heap.size 39 i1 _ Try.underlying25 hi1 hy0 hy1 hy2 rfl g9 (k + 1) d9 (flat (m.take k) ++ flat [(zu, zv)]) (by rfl) (by first | exact HO9.out | exact HO9.out.alloc _) _ (n2 - k) (c2 - k) (m.drop k) (by rfl) ((HSRC.out.cut HIL.out hcap).below (by (repeat (first | exact B10.out | exact B9.out | exact B8.out | with_reducible exact Below.refl _ _ | with_reducible refine belA ?_ _ | with_reducible refine Below.drew ?_ | fail)); done)) (by omega) (Below.size (B := Z.heap.size) (by (repeat (first | exact B10.out | exact B9.out | exact B8.out | with_reducible exact Below.refl _ _ | with_reducible refine belA ?_ _ | with_reducible refine Below.drew ?_ | fail)); done)) _ rfl ?_; intro g10 d10 w10 hown10 hgrow10 hat10 hlt10; have B10 : Hid (Below Z.heap.size Z w10) := Below.grown (by (repeat (first | exact B10.out | exact B9.out | exact B8.out | with_reducible exact Below.refl _ _ | with_reducible refine belA ?_ _ | with_reducible refine Below.drew ?_ | fail)); done) hgrow10 (Below.size (B := Z.heap.size) (by (repeat (first | exact B10.out | exact B9.out | exact B8.out | with_reducible exact Below.refl _ _ | with_reducible refine belA ?_ _ | with_reducible refine Below.drew ?_ | fail)); done)) (fun q e => by injection e with e; have hq := (HO9.out.lt g9 rfl).1; omega); have HO10 := Lib.hid hown10; clear hown10 hgrow10 hat10 hlt10; have l10 : Z.heap.size ≤ w10.heap.size := B10.out.size; have r1 := (B10.out.cell (p := ⟨gb, 0, none⟩) hgz).trans c1'; have r2 := (B10.out.cell (p := ⟨gb, 1, none⟩) hgz).trans c2'; have t1 := fz B10.out ⟨gb, 0, none⟩ hgz e1'; have t2 := fz B10.out ⟨gb, 1, none⟩ hgz e2') | fail))
      all_goals (have hn1 : n2 + 1 = k + 1 + (n2 - k) := by have := HIL.out; omega)
      all_goals (have hO := HO10.out)
      all_goals rw [← hn1] at hO ⊢
      all_goals rw [show flat (m.take k) ++ flat [(zu, zv)] ++ flat (m.drop k) = flat (ins m (plR m (zu, zv)) (zu, zv)) from (by rw [HI.out]; unfold ins; rw [List.append_assoc, ← flat_app, ← flat_app]; rfl)] at hO
      all_goals (have HO := Lib.hid hO; clear hO hn1)
      all_goals (have hgb2 : w.heap.size + 2 < gb := by omega)
      all_goals (have hg10 : Z.heap.size ≤ g10 := (HO.out.lt g10 rfl).1)
      all_goals (have hoth := Lib.hid (ownsRow_below HCTX.out B10.out))
      all_goals (have hBX : Hid (Below w.heap.size w w10) := (hb0.trans (HBZ.out.mono hb0.size)).trans (B10.out.mono (hb0.trans (HBZ.out.mono hb0.size)).size))
      all_goals (have s1 := (World.cell?_setCell_other w10 ⟨gb, 1, none⟩ ⟨w.heap.size + 2, 0, none⟩ (.slice (some ⟨g10, 0, none⟩) (n2 + 1) d10) (by intro e; injection e with e; omega)).trans ((B10.out.cell (p := ⟨w.heap.size + 2, 0, none⟩) (by show w.heap.size + 2 < _; omega)).trans ((HBZ.out.cell (p := ⟨w.heap.size + 2, 0, none⟩) lw2).trans y1)))
      all_goals (have s2 := (World.cell?_setCell_other w10 ⟨gb, 1, none⟩ ⟨w.heap.size + 2, 1, none⟩ (.slice (some ⟨g10, 0, none⟩) (n2 + 1) d10) (by intro e; injection e with e; omega)).trans ((B10.out.cell (p := ⟨w.heap.size + 2, 1, none⟩) (by show w.heap.size + 2 < _; omega)).trans ((HBZ.out.cell (p := ⟨w.heap.size + 2, 1, none⟩) lw2).trans y2)))
      all_goals (have v1 := fz B10.out ⟨w.heap.size + 2, 0, none⟩ (by show w.heap.size + 2 < _; omega) (fz HBZ.out ⟨w.heap.size + 2, 0, none⟩ lw2 fy1))
      all_goals (have v2 := fz B10.out ⟨w.heap.size + 2, 1, none⟩ (by show w.heap.size + 2 < _; omega) (fz HBZ.out ⟨w.heap.size + 2, 1, none⟩ lw2 fy2))
      all_goals clear p1 p2 p3 p4 x1 x2 x3 x4 y1 y2 fy1 fy2 c1' c2' e1' e2' hk0 hk1 hk2
      all_goals go_wp2_with fail
      all_goals (obtain ⟨z1, z2⟩ := set2_cells (u := .slice (some ⟨g1, 0, none⟩) n1 d1) (v := .slice (some ⟨g10, 0, none⟩) (n2 + 1) d10) s1 s2)
      all_goals refine bodyPost_ret (v := .agg #[.slice (some ⟨g1, 0, none⟩) n1 d1, .slice (some ⟨g10, 0, none⟩) (n2 + 1) d10]) (by simp [results, Try.results93, go_sem, z1, z2]) rfl ⟨g1, g10, d1, d10, rfl, ?_, ?_⟩
      all_goals first | exact fin (ownsRow_base (B' := W.heap.size) HO.out (by omega)) hoth.out (by omega) (by omega) (by omega) (by omega) (by omega) (by omega) _ _ _ | exact (((hBX.out.setCell (p := ⟨gb, 1, none⟩) (by show _ ≤ gb; omega) _).setCell (p := ⟨w.heap.size + 2, 0, none⟩) (by show _ ≤ w.heap.size + 2; omega) _).setCell (p := ⟨w.heap.size + 2, 1, none⟩) (by show _ ≤ w.heap.size + 2; omega) _) | fail
end Go.Proofs.Ythcjembekadijaa.Link
