/- The program's and the model's IsLater. -/
import Derived.Test.YtfjpogohdoojmaaOrder
import Derived.Test.YtfjpogohdoojmaaTable
import Derived.Test.YtfjpogohdoojmaaIdx
namespace Go.Proofs.Ytfjpogohdoojmaa.IsLater
open Go.RowKit Pairs Rec Chain Find2 GoodM Lows Order Bit Table Idx
/-- Is it valid, and are both contexts there? -/
def has2 (l m : List (Int × Int)) (a b : Int) : Bool := good l m && (isAt l a).isSome && (isAt l b).isSome
theorem has2_iff {l m : List (Int × Int)} {a b : Int} : has2 l m a b = true ↔ good l m = true ∧ (∃ i, isAt l a = some i) ∧ ∃ j, isAt l b = some j := by
  unfold has2
  simp [Option.isSome_iff_exists, and_assoc]
theorem has2_no {l m : List (Int × Int)} {a b : Int} (h : ¬ (good l m = true ∧ (∃ i, isAt l a = some i) ∧ ∃ j, isAt l b = some j)) : has2 l m a b = false := by
  cases e : has2 l m a b with
  | false => rfl
  | true => exact absurd (has2_iff.1 e) h
set_option maxRecDepth 100000 in
set_option maxHeartbeats 2000000 in
theorem hasContexts_any (a b : Int) (a1 a2 : Option Addr) (n1 c1 n2 c2 : Nat) (l m : List (Int × Int)) (w : World) (hz1 : n1 ≤ 1048576) (hz2 : n2 ≤ 1048576) (h1 : Holds w a1 n1 l) (h2 : Holds w a2 n2 m) :
    Calls Try.prog 94 #[.agg #[.slice a1 n1 c1, .slice a2 n2 c2], .int .i64 a, .int .i64 b] w fun e w' => e = .returned (.bool (has2 l m a b)) ∧ Below w.heap.size w w' := by
  have hb := below_alloc w (.cells #[.slice a1 n1 c1, .slice a2 n2 c2] 27)
  have hf := box_first w (.slice a1 n1 c1) (.slice a2 n2 c2) 27
  have hf2 := box_second w (.slice a1 n1 c1) (.slice a2 n2 c2) 27
  have H1 := Lib.hid (h1.below hb)
  have H2 := Lib.hid (h2.below hb)
  have hsz : w.heap.size < (w.alloc (.cells #[.slice a1 n1 c1, .slice a2 n2 c2] 27)).heap.size := by simp
  clear h1 h2
  go_enter Try.func94, Try.ntmps94
  go_wp2_with fail
  generalize w.alloc (.cells #[.slice a1 n1 c1, .slice a2 n2 c2] 27) = W at *
  refine (Avr.impl_any a1 a2 n1 c1 n2 c2 l m W hz1 hz2 H1.out H2.out).mono ?_
  rintro e w1 ⟨rfl, b1⟩
  have r1 := (b1.cell (p := ⟨w.heap.size, 0, none⟩) hsz).trans hf
  have r2 := (b1.cell (p := ⟨w.heap.size, 1, none⟩) hsz).trans hf2
  have hsz1 := Nat.lt_of_lt_of_le hsz b1.size
  have hb1 := hb.trans (b1.mono hb.size)
  cases hg : good l m with
  | false =>
    have HE : Hid (has2 l m a b = false) := by unfold Hid has2; rw [hg]; rfl
    clear hg
    go_wp2_with fail
    go_ret
    exact ⟨by rw [HE.out]; rfl, hb1⟩
  | true =>
    have HV := Lib.hid hg
    clear hg
    go_wp2_with fail
    refine (Avr.hasContext_any a1 a2 n1 c1 n2 c2 l a w1 hz1 (H1.out.below b1) (good_asc HV.out).1).mono ?_
    rintro e w2 ⟨rfl, b2⟩
    have q1 := (b2.cell (p := ⟨w.heap.size, 0, none⟩) hsz1).trans r1
    have q2 := (b2.cell (p := ⟨w.heap.size, 1, none⟩) hsz1).trans r2
    have hb2 := hb1.trans (b2.mono hb1.size)
    have H12 := Lib.hid ((H1.out.below b1).below b2)
    cases ha : (isAt l a).isSome with
    | false =>
      have HE : Hid (has2 l m a b = false) := by unfold Hid has2; rw [ha]; simp
      clear ha
      go_wp2_with fail
      go_ret
      exact ⟨by rw [HE.out]; rfl, hb2⟩
    | true =>
      have HE : Hid (has2 l m a b = (isAt l b).isSome) := by unfold Hid has2; rw [ha, HV.out]; rfl
      clear ha
      go_wp2_with fail
      refine (Avr.hasContext_any a1 a2 n1 c1 n2 c2 l b w2 hz1 H12.out (good_asc HV.out).1).mono ?_
      rintro e w3 ⟨rfl, b3⟩
      go_wp2_with fail
      go_ret
      exact ⟨by rw [HE.out]; rfl, hb2.trans (b3.mono hb2.size)⟩
noncomputable def latP (a b : Int) (l m : List (Int × Int)) : Bool × Bool := if has2 l m a b = true then (later m a b, true) else (false, false)
theorem latP_no {l m : List (Int × Int)} {a b : Int} (h : has2 l m a b = false) : latP a b l m = (false, false) := by unfold latP; rw [if_neg (by rw [h]; simp)]
theorem latP_yes {l m : List (Int × Int)} {a b : Int} (h : has2 l m a b = true) : latP a b l m = (later m a b, true) := by unfold latP; rw [if_pos h]
theorem at_keys {l : List (Int × Int)} {a : Int} {i : Nat} (h : isAt l a = some i) : a ∈ keys l := isAt_keys.1 (by rw [h]; rfl)
theorem rng_at {l m : List (Int × Int)} (h : good l m = true) {a : Int} {i : Nat} (hi : isAt l a = some i) : 1 ≤ a ∧ a ≤ 999 := by
  obtain ⟨y, hy⟩ := isAt_num hi
  exact nums h hy
set_option maxRecDepth 100000 in
set_option maxHeartbeats 2000000 in
theorem impl_any (a b : Int) (a1 a2 : Option Addr) (n1 c1 n2 c2 : Nat) (l m : List (Int × Int)) (w : World) (hz1 : n1 ≤ 1048576) (hz2 : n2 ≤ 1048576) (h1 : Holds w a1 n1 l) (h2 : Holds w a2 n2 m) :
    Calls Try.prog 25 #[.agg #[.slice a1 n1 c1, .slice a2 n2 c2], .int .i64 a, .int .i64 b] w fun e w' => e = .returned (.tuple #[.bool (latP a b l m).1, .bool (latP a b l m).2]) ∧ Below w.heap.size w w' := by
  have hb := below_alloc w (.cells #[.slice a1 n1 c1, .slice a2 n2 c2] 27)
  have hf := box_first w (.slice a1 n1 c1) (.slice a2 n2 c2) 27
  have hf2 := box_second w (.slice a1 n1 c1) (.slice a2 n2 c2) 27
  have H1 := Lib.hid (h1.below hb)
  have H2 := Lib.hid (h2.below hb)
  have hsz : w.heap.size < (w.alloc (.cells #[.slice a1 n1 c1, .slice a2 n2 c2] 27)).heap.size := by simp
  clear h1 h2
  go_enter Try.func25, Try.ntmps25
  go_wp2_with fail
  generalize w.alloc (.cells #[.slice a1 n1 c1, .slice a2 n2 c2] 27) = W at *
  refine (hasContexts_any a b a1 a2 n1 c1 n2 c2 l m W hz1 hz2 H1.out H2.out).mono ?_
  rintro e w1 ⟨rfl, b1⟩
  have r1 := (b1.cell (p := ⟨w.heap.size, 0, none⟩) hsz).trans hf
  have r2 := (b1.cell (p := ⟨w.heap.size, 1, none⟩) hsz).trans hf2
  have hb1 := hb.trans (b1.mono hb.size)
  cases hh : has2 l m a b with
  | false =>
    have HE := Lib.hid (latP_no hh)
    clear hh
    go_wp2_with fail
    go_ret2
    exact ⟨by rw [HE.out]; rfl, hb1⟩
  | true =>
    have HE := Lib.hid (latP_yes hh)
    obtain ⟨hg, ⟨i, hi⟩, j, hj⟩ := has2_iff.1 hh
    have hra := rng_at hg hi
    have hrb := rng_at hg hj
    have HG := Lib.hid hg
    have HI := Lib.hid (at_keys hi)
    clear hh hg hi hj
    go_wp2_with fail
    refine (orderOf_any a1 a2 n1 c1 n2 c2 l m w1 HG.out (H1.out.below b1) (H2.out.below b1)).mono ?_
    rintro e w2 ⟨bx, rfl, ho, b2⟩
    have HO := Lib.hid ho
    have hb2 := hb1.trans (b2.mono hb1.size)
    clear ho
    go_wp2_with fail
    refine (isLater_any bx l m a b w2 HO.out HI.out (by omega) (by omega)).mono ?_
    rintro e w3 ⟨rfl, rfl⟩
    go_wp2_with fail
    go_ret2
    exact ⟨by rw [HE.out]; rfl, hb2⟩
/-- A bit of the table. -/
theorem tbit {l m : List (Int × Int)} {n1 : Nat} {L : List Nat} (hg : good l m = true) (hl : l.length = n1) (T : Tbl n1 L (W (Ed l m) n1)) {a b : Int} {i j x : Nat} (hi : isAt l a = some i) (hj : isAt l b = some j) (hx : L[i]? = some x) : x.testBit j = later m a b := by
  have h1 := T.bit i x j hx (by rw [← hl]; exact isAt_lt hj)
  rw [← hl, w_iff (good_ends hg) hi hj, ← later_iff] at h1
  cases e1 : x.testBit j <;> cases e2 : later m a b <;> simp_all
theorem row_at {L : List Nat} {i : Nat} {z : Int} (h : (intsN L)[i]? = some z) : ∃ x : Nat, L[i]? = some x ∧ z = (x : Int) := by
  unfold intsN at h
  rw [List.getElem?_map, Option.map_eq_some_iff] at h
  obtain ⟨x, hx, rfl⟩ := h
  exact ⟨x, hx, rfl⟩
set_option maxRecDepth 100000 in
set_option maxHeartbeats 4000000 in
theorem spec_any (a b : Int) (a1 a2 : Option Addr) (n1 c1 n2 c2 : Nat) (l m : List (Int × Int)) (w : World) (hz1 : n1 ≤ 1048576) (_hz2 : n2 ≤ 1048576) (h1 : Holds w a1 n1 l) (h2 : Holds w a2 n2 m) :
    Calls Try.prog 36 #[.agg #[.slice a1 n1 c1, .slice a2 n2 c2], .int .i64 a, .int .i64 b] w fun e w' => e = .returned (.tuple #[.bool (latP a b l m).1, .bool (latP a b l m).2]) ∧ Below w.heap.size w w' := by
  have hb := below_alloc w (.cells #[.slice a1 n1 c1, .slice a2 n2 c2] 27)
  have hf := box_first w (.slice a1 n1 c1) (.slice a2 n2 c2) 27
  have hf2 := box_second w (.slice a1 n1 c1) (.slice a2 n2 c2) 27
  have H1 := Lib.hid (h1.below hb)
  have H2 := Lib.hid (h2.below hb)
  have HL1 := Lib.hid h1.1
  have hsz : w.heap.size < (w.alloc (.cells #[.slice a1 n1 c1, .slice a2 n2 c2] 27)).heap.size := by simp
  clear h1 h2
  go_enter Try.func36, Try.ntmps36
  go_wp2_with fail
  generalize w.alloc (.cells #[.slice a1 n1 c1, .slice a2 n2 c2] 27) = W0 at *
  have k1 := cell_regrown hf
  have k2 := cell_regrown hf2
  have cU : ∀ d os, Calls Try.prog 102 #[.agg #[.slice a1 n1 c1, .slice a2 n2 c2], .int .i64 a] (Sort.grow (redrawn W0 d) os) fun e w'' => e = .returned (.int .i64 (find l a)) ∧ ∃ p : Regrown, w'' = Sort.grow (redrawn W0 p.d) p.os := fun d os => Calls.regrown_of (l2Find_any a1 _ n1 c1 n2 c2 l a _ (by omega) (H1.out.below (below_regrown W0 d os)))
  have cV : ∀ d os, Calls Try.prog 102 #[.agg #[.slice a1 n1 c1, .slice a2 n2 c2], .int .i64 b] (Sort.grow (redrawn W0 d) os) fun e w'' => e = .returned (.int .i64 (find l b)) ∧ ∃ p : Regrown, w'' = Sort.grow (redrawn W0 p.d) p.os := fun d os => Calls.regrown_of (l2Find_any a1 _ n1 c1 n2 c2 l b _ (by omega) (H1.out.below (below_regrown W0 d os)))
  refine wp_region_quiet_below (by kernel_rfl) (by kernel_rfl) ?_
  repeat (go_big_quiet_step (first | (go_at_call_of 102 a; exact cU _ _) | (go_at_call_of 102 b; exact cV _ _)))
  refine wpQuiet_nil ?_
  intro _ hw'
  obtain ⟨⟨dq, osq⟩, hw''⟩ := hw'
  subst hw''
  have hbq := below_regrown W0 dq osq
  have r1 := (hbq.cell (p := ⟨w.heap.size, 0, none⟩) hsz).trans hf
  have r2 := (hbq.cell (p := ⟨w.heap.size, 1, none⟩) hsz).trans hf2
  have hszq := Nat.lt_of_lt_of_le hsz hbq.size
  have K1 := Lib.hid (H1.out.below hbq)
  have K2 := Lib.hid (H2.out.below hbq)
  have HB := Lib.hid (hb.trans (hbq.mono hb.size))
  clear k1 k2 cU cV hf hf2 hbq hb
  generalize Sort.grow (redrawn W0 dq) osq = W5 at *
  go_wp2_with fail
  refine (Good2.l2Good_any a1 a2 n1 c1 n2 c2 l m W5 K1.out K2.out).mono ?_
  rintro e w1 ⟨rfl, b1⟩
  have q1 := (b1.cell (p := ⟨w.heap.size, 0, none⟩) hszq).trans r1
  have q2 := (b1.cell (p := ⟨w.heap.size, 1, none⟩) hszq).trans r2
  have HB1 := Lib.hid (HB.out.trans (b1.mono HB.out.size))
  have K11 := Lib.hid (K1.out.below b1)
  have K12 := Lib.hid (K2.out.below b1)
  clear r1 r2 b1
  cases hg : good l m with
  | false =>
    have HE := Lib.hid (latP_no (a := a) (b := b) (has2_no (l := l) (m := m) (a := a) (b := b) (fun h => by rw [hg] at h; exact absurd h.1 (by simp))))
    clear hg
    go_wp2_with fail
    go_ret2
    exact ⟨by rw [HE.out]; rfl, HB1.out⟩
  | true =>
    have HG := Lib.hid hg
    cases hi : isAt l a with
    | none =>
      have HE := Lib.hid (latP_no (a := a) (b := b) (has2_no (l := l) (m := m) (a := a) (b := b) (fun h => by obtain ⟨_, ⟨i, h2⟩, _⟩ := h; rw [hi] at h2; cases h2)))
      rw [find_none hi]
      clear hg hi
      go_wp2_with fail
      go_ret2
      exact ⟨by rw [HE.out]; rfl, HB1.out⟩
    | some i =>
      have hi0 : ¬ (i : Int) < 0 := by omega
      rw [find_some hi]
      cases hj : isAt l b with
      | none =>
        have HE := Lib.hid (latP_no (a := a) (b := b) (has2_no (l := l) (m := m) (a := a) (b := b) (fun h => by obtain ⟨_, _, j, h2⟩ := h; rw [hj] at h2; cases h2)))
        rw [find_none hj]
        clear hg hi hj
        go_wp2_with fail
        go_ret2
        exact ⟨by rw [HE.out]; rfl, HB1.out⟩
      | some j =>
        have hj0 : ¬ (j : Int) < 0 := by omega
        have HE := Lib.hid (latP_yes (a := a) (b := b) (has2_iff.2 ⟨hg, ⟨i, hi⟩, j, hj⟩))
        rw [find_some hj]
        have HI := Lib.hid hi
        have HJ := Lib.hid hj
        have hin : i < n1 := by rw [← HL1.out]; exact isAt_lt hi
        have hjn : j < n1 := by rw [← HL1.out]; exact isAt_lt hj
        have hn10 : n1 ≤ 10 := by rw [← HL1.out]; exact (Table.good_few hg).1
        have hin2 : (i : Int) < (n1 : Int) := by omega
        clear hg hi hj
        go_wp2_with fail
        refine (later_any a1 a2 n1 c1 n2 c2 l m w1 HG.out K11.out K12.out).mono ?_
        rintro e w2 ⟨g, L, rfl, hge, hT, T, b2⟩
        have HT := Lib.hid T
        obtain ⟨bb, off, z, hp, hz, e1⟩ := hT.at i hin
        obtain ⟨x, hx, rfl⟩ := row_at hz
        injection hp with hp
        injection hp with hp1 hp2
        subst hp1 hp2
        rw [Nat.zero_add] at e1
        have hx10 := bd hn10 (T.bd i x hx)
        have HX : Hid (x.testBit j = later m a b) := tbit HG.out HL1.out T HI.out HJ.out hx
        have HB2 := Lib.hid (HB1.out.trans (b2.mono HB1.out.size))
        clear hT T hz hx b2
        go_wp2_with fail
        refine (l4Bit_any x j hx10 (by omega) w2).mono ?_
        rintro e w3 ⟨rfl, rfl⟩
        go_wp2_with fail
        go_ret2
        exact ⟨by rw [HE.out, HX.out]; rfl, HB2.out⟩
end Go.Proofs.Ytfjpogohdoojmaa.IsLater
