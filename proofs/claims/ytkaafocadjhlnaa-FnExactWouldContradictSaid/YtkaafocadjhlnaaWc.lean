/- FnExactWouldContradict: at every argument WouldContradict answers as its model does, and leaves its arguments as they were. No condition. -/
import Derived.Test.YtkaafocadjhlnaaIsLater
import Derived.Test.YtkaafocadjhlnaaWWouldContradict
import Derived.Test.YtkaafocadjhlnaaFWouldContradict
namespace Go.Proofs.Ytkaafocadjhlnaa.Wc
open Go.RowKit Pairs Rec RecEq Chain Find2 GoodM Lows Order Bit Table Idx IsLater
def okW (l m : List (Int × Int)) (a b : Int) : Bool := has2 l m a b && !(a == b)
noncomputable def wcP (a b : Int) (l m : List (Int × Int)) : Bool × Bool := if okW l m a b = true then (later m b a, true) else (false, false)
theorem wc_no {l m : List (Int × Int)} {a b : Int} (h : okW l m a b = false) : wcP a b l m = (false, false) := by unfold wcP; rw [if_neg (by rw [h]; simp)]
theorem wc_yes {l m : List (Int × Int)} {a b : Int} (h1 : has2 l m a b = true) (h2 : a ≠ b) : wcP a b l m = (later m b a, true) := by unfold wcP okW; rw [if_pos (by rw [h1]; simpa using h2)]
theorem ok_no1 {l m : List (Int × Int)} {a b : Int} (h : has2 l m a b = false) : okW l m a b = false := by unfold okW; rw [h]; rfl
theorem ok_no2 {l m : List (Int × Int)} {a : Int} : okW l m a a = false := by unfold okW; simp
set_option maxRecDepth 100000 in
set_option maxHeartbeats 4000000 in
theorem impl_any (a b : Int) (a1 a2 : Option Addr) (n1 c1 n2 c2 : Nat) (l m : List (Int × Int)) (w : World) (hz1 : n1 ≤ 1048576) (hz2 : n2 ≤ 1048576) (h1 : Holds w a1 n1 l) (h2 : Holds w a2 n2 m) :
    Calls Try.prog 34 #[.agg #[.slice a1 n1 c1, .slice a2 n2 c2], .agg #[.int .i64 a, .int .i64 b]] w fun e w' => e = .returned (.tuple #[.bool (wcP a b l m).1, .bool (wcP a b l m).2]) ∧ Below w.heap.size w w' := by
  obtain ⟨hs, f1, f2, f3, f4, hb⟩ := boxes2 w (.slice a1 n1 c1) (.slice a2 n2 c2) (.int .i64 a) (.int .i64 b) 32 53
  have H1 := Lib.hid (h1.below hb)
  have H2 := Lib.hid (h2.below hb)
  have HSZ := Lib.hid hs
  clear h1 h2 hs
  go_enter Try.func34, Try.ntmps34
  go_wp2_with fail
  generalize (w.alloc (.cells #[.slice a1 n1 c1, .slice a2 n2 c2] 32)).alloc (.cells #[.int .i64 a, .int .i64 b] 53) = W at *
  have hlt : w.heap.size < W.heap.size := by rw [HSZ.out]; omega
  have hlt1 : w.heap.size + 1 < W.heap.size := by rw [HSZ.out]; omega
  have HF : Hid (∀ X, Below W.heap.size W X → X.cell? ⟨w.heap.size, 0, none⟩ = some (.slice a1 n1 c1) ∧ X.cell? ⟨w.heap.size, 1, none⟩ = some (.slice a2 n2 c2) ∧ X.cell? ⟨w.heap.size + 1, 0, none⟩ = some (.int .i64 a) ∧ X.cell? ⟨w.heap.size + 1, 1, none⟩ = some (.int .i64 b)) := fun X hX => ⟨(hX.cell (p := ⟨w.heap.size, 0, none⟩) hlt).trans f1, (hX.cell (p := ⟨w.heap.size, 1, none⟩) hlt).trans f2, (hX.cell (p := ⟨w.heap.size + 1, 0, none⟩) hlt1).trans f3, (hX.cell (p := ⟨w.heap.size + 1, 1, none⟩) hlt1).trans f4⟩
  refine (hasContexts_any a b a1 a2 n1 c1 n2 c2 l m W hz1 hz2 H1.out H2.out).mono ?_
  rintro e w1 ⟨rfl, b1⟩
  have B1 := Lib.hid b1
  obtain ⟨k1, k2, k3, k4⟩ := HF.out w1 b1
  have hb1 := hb.trans (b1.mono hb.size)
  clear f1 f2 f3 f4 b1
  cases hh : has2 l m a b with
  | false =>
    have HE := Lib.hid (wc_no (ok_no1 hh))
    clear hh
    go_wp2_with fail
    go_ret2
    exact ⟨by rw [HE.out]; rfl, hb1⟩
  | true =>
    by_cases hab : a = b
    · subst hab
      have HE := Lib.hid (wc_no (ok_no2 (l := l) (m := m) (a := a)))
      clear hh
      go_wp2_with fail
      go_ret2
      exact ⟨by rw [HE.out]; rfl, hb1⟩
    · have HE := Lib.hid (wc_yes hh hab)
      have habb : (a == b) = false := by rw [beq_eq_false_iff_ne]; exact hab
      obtain ⟨hg, ⟨i, hi⟩, j, hj⟩ := has2_iff.1 hh
      have hra := rng_at hg hi
      have hrb := rng_at hg hj
      have HG := Lib.hid hg
      have HJ := Lib.hid (at_keys hj)
      clear hh hg hi hj
      go_wp2_with fail
      refine (orderOf_any a1 a2 n1 c1 n2 c2 l m w1 HG.out (H1.out.below B1.out) (H2.out.below B1.out)).mono ?_
      rintro e w2 ⟨bx, rfl, ho, b2⟩
      have HO := Lib.hid ho
      have hb2 := hb1.trans (b2.mono hb1.size)
      obtain ⟨k1, k2, k3, k4⟩ := HF.out w2 (B1.out.trans (b2.mono B1.out.size))
      clear ho b2
      go_wp2_with fail
      refine (isLater_any bx l m b a w2 HO.out HJ.out (by omega) (by omega)).mono ?_
      rintro e w3 ⟨rfl, rfl⟩
      go_wp2_with fail
      go_ret2
      exact ⟨by rw [HE.out]; rfl, hb2⟩
set_option maxRecDepth 100000 in
set_option maxHeartbeats 4000000 in
theorem spec_any (a b : Int) (a1 a2 : Option Addr) (n1 c1 n2 c2 : Nat) (l m : List (Int × Int)) (w : World) (hz1 : n1 ≤ 1048576) (_hz2 : n2 ≤ 1048576) (h1 : Holds w a1 n1 l) (h2 : Holds w a2 n2 m) :
    Calls Try.prog 32 #[.agg #[.slice a1 n1 c1, .slice a2 n2 c2], .agg #[.int .i64 a, .int .i64 b]] w fun e w' => e = .returned (.tuple #[.bool (wcP a b l m).1, .bool (wcP a b l m).2]) ∧ Below w.heap.size w w' := by
  obtain ⟨hs, f1, f2, f3, f4, hb⟩ := boxes2 w (.slice a1 n1 c1) (.slice a2 n2 c2) (.int .i64 a) (.int .i64 b) 32 53
  have H1 := Lib.hid (h1.below hb)
  have H2 := Lib.hid (h2.below hb)
  have HL1 := Lib.hid h1.1
  have HSZ := Lib.hid hs
  clear h1 h2 hs
  go_enter Try.func32, Try.ntmps32
  go_wp2_with fail
  generalize (w.alloc (.cells #[.slice a1 n1 c1, .slice a2 n2 c2] 32)).alloc (.cells #[.int .i64 a, .int .i64 b] 53) = W0 at *
  have hsz : w.heap.size < W0.heap.size := by rw [HSZ.out]; omega
  have k1 := cell_regrown f1
  have k2 := cell_regrown f2
  have k3 := cell_regrown f3
  have k4 := cell_regrown f4
  have cU : ∀ d os, Calls Try.prog 80 #[.agg #[.slice a1 n1 c1, .slice a2 n2 c2], .int .i64 a] (Sort.grow (redrawn W0 d) os) fun e w'' => e = .returned (.int .i64 (find l a)) ∧ ∃ p : Regrown, w'' = Sort.grow (redrawn W0 p.d) p.os := fun d os => Calls.regrown_of (l2Find_any a1 _ n1 c1 n2 c2 l a _ (by omega) (H1.out.below (below_regrown W0 d os)))
  have cV : ∀ d os, Calls Try.prog 80 #[.agg #[.slice a1 n1 c1, .slice a2 n2 c2], .int .i64 b] (Sort.grow (redrawn W0 d) os) fun e w'' => e = .returned (.int .i64 (find l b)) ∧ ∃ p : Regrown, w'' = Sort.grow (redrawn W0 p.d) p.os := fun d os => Calls.regrown_of (l2Find_any a1 _ n1 c1 n2 c2 l b _ (by omega) (H1.out.below (below_regrown W0 d os)))
  refine wp_region_quiet_below (by kernel_rfl) (by kernel_rfl) ?_
  repeat (go_big_quiet_step (first | (go_at_call_of 80 a; exact cU _ _) | (go_at_call_of 80 b; exact cV _ _)))
  refine wpQuiet_nil ?_
  intro _ hw'
  obtain ⟨⟨dq, osq⟩, hw''⟩ := hw'
  subst hw''
  have hbq := below_regrown W0 dq osq
  have r1 := (hbq.cell (p := ⟨w.heap.size, 0, none⟩) hsz).trans f1
  have r2 := (hbq.cell (p := ⟨w.heap.size, 1, none⟩) hsz).trans f2
  have hszq := Nat.lt_of_lt_of_le hsz hbq.size
  have K1 := Lib.hid (H1.out.below hbq)
  have K2 := Lib.hid (H2.out.below hbq)
  have HB := Lib.hid (hb.trans (hbq.mono hb.size))
  clear k1 k2 k3 k4 cU cV f1 f2 f3 f4 hbq hb
  generalize Sort.grow (redrawn W0 dq) osq = W5 at *
  go_wp2_with fail
  refine (Good2.l2Good_any a1 a2 n1 c1 n2 c2 l m W5 K1.out K2.out).mono ?_
  rintro e w1 ⟨rfl, b1⟩
  have q1 := (b1.cell (p := ⟨w.heap.size, 0, none⟩) hszq).trans r1
  have q2 := (b1.cell (p := ⟨w.heap.size, 1, none⟩) hszq).trans r2
  have HB1 := Lib.hid (HB.out.trans (b1.mono HB.out.size))
  have K11 := Lib.hid (K1.out.below b1)
  have K12 := Lib.hid (K2.out.below b1)
  have hszq1 := Nat.lt_of_lt_of_le hszq b1.size
  clear r1 r2 b1
  cases hg : good l m with
  | false =>
    have HE := Lib.hid (wc_no (a := a) (b := b) (ok_no1 (has2_no (l := l) (m := m) (a := a) (b := b) (fun h => by rw [hg] at h; exact absurd h.1 (by simp)))))
    clear hg
    go_wp2_with fail
    go_ret2
    exact ⟨by rw [HE.out]; rfl, HB1.out⟩
  | true =>
    have HG := Lib.hid hg
    cases hi : isAt l a with
    | none =>
      have HE := Lib.hid (wc_no (a := a) (b := b) (ok_no1 (has2_no (l := l) (m := m) (a := a) (b := b) (fun h => by obtain ⟨_, ⟨i, h2⟩, _⟩ := h; rw [hi] at h2; cases h2))))
      rw [find_none hi]
      clear hg hi
      go_wp2_with fail
      go_ret2
      exact ⟨by rw [HE.out]; rfl, HB1.out⟩
    | some i =>
      have hi0 : ¬ (i : Int) < 0 := by omega
      rw [find_some hi]
      cases hj : isAt l b with
      | none =>
        have HE := Lib.hid (wc_no (a := a) (b := b) (ok_no1 (has2_no (l := l) (m := m) (a := a) (b := b) (fun h => by obtain ⟨_, _, j, h2⟩ := h; rw [hj] at h2; cases h2))))
        rw [find_none hj]
        clear hg hi hj
        go_wp2_with fail
        go_ret2
        exact ⟨by rw [HE.out]; rfl, HB1.out⟩
      | some j =>
        have hj0 : ¬ (j : Int) < 0 := by omega
        rw [find_some hj]
        by_cases hij : i = j
        · subst hij
          obtain rfl := isAt_inj hi hj
          have HE := Lib.hid (wc_no (ok_no2 (l := l) (m := m) (a := a)))
          clear hg hi hj
          go_wp2_with fail
          go_ret2
          exact ⟨by rw [HE.out]; rfl, HB1.out⟩
        · have hab : a ≠ b := fun e => by subst e; rw [hi] at hj; exact hij (Option.some.inj hj)
          have HE := Lib.hid (wc_yes (has2_iff.2 ⟨hg, ⟨i, hi⟩, j, hj⟩) hab)
          have hijI : ¬ (i : Int) = (j : Int) := by omega
          have hijb : ((i : Int) == (j : Int)) = false := by rw [beq_eq_false_iff_ne]; exact hijI
          have HI := Lib.hid hi
          have HJ := Lib.hid hj
          have hjn : j < n1 := by rw [← HL1.out]; exact isAt_lt hj
          have hin : i < n1 := by rw [← HL1.out]; exact isAt_lt hi
          have hn10 : n1 ≤ 10 := by rw [← HL1.out]; exact (Table.good_few hg).1
          have hjn2 : (j : Int) < (n1 : Int) := by omega
          have hj00 : (0 : Int) ≤ (j : Int) := by omega
          clear hg hi hj hab
          go_wp2_with fail
          refine (later_any a1 a2 n1 c1 n2 c2 l m w1 HG.out K11.out K12.out).mono ?_
          rintro e w2 ⟨g, L, rfl, hge, hT, T, b2⟩
          obtain ⟨bb, off, z, hp, hz, e1⟩ := hT.at j hjn
          obtain ⟨x, hx, rfl⟩ := row_at hz
          injection hp with hp
          injection hp with hp1 hp2
          subst hp1 hp2
          rw [Nat.zero_add] at e1
          have hx10 := bd hn10 (T.bd j x hx)
          have HX : Hid (x.testBit i = later m b a) := tbit HG.out HL1.out T HJ.out HI.out hx
          have HB2 := Lib.hid (HB1.out.trans (b2.mono HB1.out.size))
          clear hT T hz hx b2
          go_wp2_with fail
          refine (l4Bit_any x i hx10 (by omega) w2).mono ?_
          rintro e w3 ⟨rfl, rfl⟩
          go_wp2_with fail
          go_ret2
          exact ⟨by rw [HE.out, HX.out]; rfl, HB2.out⟩
theorem said : Rows.FnExactWouldContradictSaid := FWouldContradict.over (fun y x a1 a2 n1 c1 n2 c2 l1 l2 w h1 h2 h3 h4 => WWouldContradict.walk y x (wcP y x) (impl_any y x) (spec_any y x) a1 a2 n1 c1 n2 c2 l1 l2 w h1 h2 h3 h4)
#print axioms said
end Go.Proofs.Ytkaafocadjhlnaa.Wc
