/- The program's and the model's IsLater. -/
import Derived.Test.YthcjembekadijaaOrderSaidPartaj
import Derived.Test.YthcjembekadijaaOrderSaidPartbb
import Derived.Test.YthcjembekadijaaOrderSaidPartao
import Derived.Test.YthcjembekadijaaOrderSaidPartap
import Derived.Laws.EntriesVeiled
namespace Go.Proofs.Ythcjembekadijaa.IsLater
open Go.RowKit Pairs Rec Chain Find2 GoodM Lows Order Bit Table Idx
/-- Is it valid, and are both contexts there? -/
def has2 (l m : List (Int × Int)) (a b : Int) : Bool := good l m && (isAt l a).isSome && (isAt l b).isSome
theorem has2_iff {l m : List (Int × Int)} {a b : Int} : has2 l m a b = true ↔ good l m = true ∧ (∃ i, isAt l a = some i) ∧ ∃ j, isAt l b = some j := by
  unfold has2
  simp [Option.isSome_iff_exists, and_assoc]
theorem has2_no {l m : List (Int × Int)} {a b : Int} (h : ¬ (good l m = true ∧ (∃ i, isAt l a = some i) ∧ ∃ j, isAt l b = some j)) : has2 l m a b = false := by
  cases e : has2 l m a b with
  | false => rfl
  | true => exact absurd (has2_iff.1 e) h
set_option maxRecDepth 100000 in
set_option maxHeartbeats 2000000 in
theorem hasContexts_any (a b : Int) (a1 a2 : Option Addr) (n1 c1 n2 c2 : Nat) (l m : List (Int × Int)) (w : World) (hz1 : n1 ≤ 1048576) (hz2 : n2 ≤ 1048576) (h1 : Holds w a1 n1 l) (h2 : Holds w a2 n2 m) :
    Calls Try.prog 69 #[.agg #[.slice a1 n1 c1, .slice a2 n2 c2], .int .i64 a, .int .i64 b] w fun e w' => e = .returned (.bool (has2 l m a b)) ∧ Below w.heap.size w w' := by
  have hb := below_alloc w (.cells #[.slice a1 n1 c1, .slice a2 n2 c2] 27)
  have hf := box_first w (.slice a1 n1 c1) (.slice a2 n2 c2) 27
  have hf2 := box_second w (.slice a1 n1 c1) (.slice a2 n2 c2) 27
  have H1 := Lib.hid (h1.below hb)
  have H2 := Lib.hid (h2.below hb)
  have hsz : w.heap.size < (w.alloc (.cells #[.slice a1 n1 c1, .slice a2 n2 c2] 27)).heap.size := by simp
  clear h1 h2
  go_enter Try.func69, Try.ntmps69
  go_wp2_with fail
  generalize w.alloc (.cells #[.slice a1 n1 c1, .slice a2 n2 c2] 27) = W at *
  refine (Avr.impl_any a1 a2 n1 c1 n2 c2 l m W hz1 hz2 H1.out H2.out).mono ?_
  rintro e w1 ⟨rfl, b1⟩
  have r1 := (b1.cell (p := ⟨w.heap.size, 0, none⟩) hsz).trans hf
  have r2 := (b1.cell (p := ⟨w.heap.size, 1, none⟩) hsz).trans hf2
  have hsz1 := Nat.lt_of_lt_of_le hsz b1.size
  have hb1 := hb.trans (b1.mono hb.size)
  cases hg : good l m with
  | false =>
    have HE : Hid (has2 l m a b = false) := by unfold Hid has2; rw [hg]; rfl
    clear hg
    go_wp2_with fail
    go_ret
    exact ⟨by rw [HE.out]; rfl, hb1⟩
  | true =>
    have HV := Lib.hid hg
    clear hg
    go_wp2_with fail
    refine (Avr.hasContext_any a1 a2 n1 c1 n2 c2 l a w1 hz1 (H1.out.below b1) (good_asc HV.out).1).mono ?_
    rintro e w2 ⟨rfl, b2⟩
    have q1 := (b2.cell (p := ⟨w.heap.size, 0, none⟩) hsz1).trans r1
    have q2 := (b2.cell (p := ⟨w.heap.size, 1, none⟩) hsz1).trans r2
    have hb2 := hb1.trans (b2.mono hb1.size)
    have H12 := Lib.hid ((H1.out.below b1).below b2)
    cases ha : (isAt l a).isSome with
    | false =>
      have HE : Hid (has2 l m a b = false) := by unfold Hid has2; rw [ha]; simp
      clear ha
      go_wp2_with fail
      go_ret
      exact ⟨by rw [HE.out]; rfl, hb2⟩
    | true =>
      have HE : Hid (has2 l m a b = (isAt l b).isSome) := by unfold Hid has2; rw [ha, HV.out]; rfl
      clear ha
      go_wp2_with fail
      refine (Avr.hasContext_any a1 a2 n1 c1 n2 c2 l b w2 hz1 H12.out (good_asc HV.out).1).mono ?_
      rintro e w3 ⟨rfl, b3⟩
      go_wp2_with fail
      go_ret
      exact ⟨by rw [HE.out]; rfl, hb2.trans (b3.mono hb2.size)⟩
noncomputable def latP (a b : Int) (l m : List (Int × Int)) : Bool × Bool := if has2 l m a b = true then (later m a b, true) else (false, false)
theorem latP_no {l m : List (Int × Int)} {a b : Int} (h : has2 l m a b = false) : latP a b l m = (false, false) := by unfold latP; rw [if_neg (by rw [h]; simp)]
theorem latP_yes {l m : List (Int × Int)} {a b : Int} (h : has2 l m a b = true) : latP a b l m = (later m a b, true) := by unfold latP; rw [if_pos h]
theorem at_keys {l : List (Int × Int)} {a : Int} {i : Nat} (h : isAt l a = some i) : a ∈ keys l := isAt_keys.1 (by rw [h]; rfl)
theorem rng_at {l m : List (Int × Int)} (h : good l m = true) {a : Int} {i : Nat} (hi : isAt l a = some i) : 1 ≤ a ∧ a ≤ 999 := by
  obtain ⟨y, hy⟩ := isAt_num hi
  exact nums h hy
set_option maxRecDepth 100000 in
set_option maxHeartbeats 2000000 in
theorem impl_any (a b : Int) (a1 a2 : Option Addr) (n1 c1 n2 c2 : Nat) (l m : List (Int × Int)) (w : World) (hz1 : n1 ≤ 1048576) (hz2 : n2 ≤ 1048576) (h1 : Holds w a1 n1 l) (h2 : Holds w a2 n2 m) :
    Calls Try.prog 21 #[.agg #[.slice a1 n1 c1, .slice a2 n2 c2], .int .i64 a, .int .i64 b] w fun e w' => e = .returned (.tuple #[.bool (latP a b l m).1, .bool (latP a b l m).2]) ∧ Below w.heap.size w w' := by
  have hb := below_alloc w (.cells #[.slice a1 n1 c1, .slice a2 n2 c2] 27)
  have hf := box_first w (.slice a1 n1 c1) (.slice a2 n2 c2) 27
  have hf2 := box_second w (.slice a1 n1 c1) (.slice a2 n2 c2) 27
  have H1 := Lib.hid (h1.below hb)
  have H2 := Lib.hid (h2.below hb)
  have hsz : w.heap.size < (w.alloc (.cells #[.slice a1 n1 c1, .slice a2 n2 c2] 27)).heap.size := by simp
  clear h1 h2
  go_enter Try.func21, Try.ntmps21
  go_wp2_with fail
  generalize w.alloc (.cells #[.slice a1 n1 c1, .slice a2 n2 c2] 27) = W at *
  refine (hasContexts_any a b a1 a2 n1 c1 n2 c2 l m W hz1 hz2 H1.out H2.out).mono ?_
  rintro e w1 ⟨rfl, b1⟩
  have r1 := (b1.cell (p := ⟨w.heap.size, 0, none⟩) hsz).trans hf
  have r2 := (b1.cell (p := ⟨w.heap.size, 1, none⟩) hsz).trans hf2
  have hb1 := hb.trans (b1.mono hb.size)
  cases hh : has2 l m a b with
  | false =>
    have HE := Lib.hid (latP_no hh)
    clear hh
    go_wp2_with fail
    go_ret2
    exact ⟨by rw [HE.out]; rfl, hb1⟩
  | true =>
    have HE := Lib.hid (latP_yes hh)
    obtain ⟨hg, ⟨i, hi⟩, j, hj⟩ := has2_iff.1 hh
    have hra := rng_at hg hi
    have hrb := rng_at hg hj
    have HG := Lib.hid hg
    have HI := Lib.hid (at_keys hi)
    clear hh hg hi hj
    go_wp2_with fail
    refine (orderOf_any a1 a2 n1 c1 n2 c2 l m w1 HG.out (H1.out.below b1) (H2.out.below b1)).mono ?_
    rintro e w2 ⟨bx, rfl, ho, b2⟩
    have HO := Lib.hid ho
    have hb2 := hb1.trans (b2.mono hb1.size)
    clear ho
    go_wp2_with fail
    refine (isLater_any bx l m a b w2 HO.out HI.out (by omega) (by omega)).mono ?_
    rintro e w3 ⟨rfl, rfl⟩
    go_wp2_with fail
    go_ret2
    exact ⟨by rw [HE.out]; rfl, hb2⟩
/-- A bit of the table. -/
theorem tbit {l m : List (Int × Int)} {n1 : Nat} {L : List Nat} (hg : good l m = true) (hl : l.length = n1) (T : Tbl n1 L (W (Ed l m) n1)) {a b : Int} {i j x : Nat} (hi : isAt l a = some i) (hj : isAt l b = some j) (hx : L[i]? = some x) : x.testBit j = later m a b := by
  have h1 := T.bit i x j hx (by rw [← hl]; exact isAt_lt hj)
  rw [← hl, w_iff (good_ends hg) hi hj, ← later_iff] at h1
  cases e1 : x.testBit j <;> cases e2 : later m a b <;> simp_all
theorem row_at {L : List Nat} {i : Nat} {z : Int} (h : (intsN L)[i]? = some z) : ∃ x : Nat, L[i]? = some x ∧ z = (x : Int) := by
  unfold intsN at h
  rw [List.getElem?_map, Option.map_eq_some_iff] at h
  obtain ⟨x, hx, rfl⟩ := h
  exact ⟨x, hx, rfl⟩
set_option maxRecDepth 100000 in
set_option maxHeartbeats 4000000 in
theorem spec_any (a b : Int) (a1 a2 : Option Addr) (n1 c1 n2 c2 : Nat) (l m : List (Int × Int)) (w : World) (hz1 : n1 ≤ 1048576) (_hz2 : n2 ≤ 1048576) (h1 : Holds w a1 n1 l) (h2 : Holds w a2 n2 m) :
    Calls Try.prog 24 #[.agg #[.slice a1 n1 c1, .slice a2 n2 c2], .int .i64 a, .int .i64 b] w fun e w' => e = .returned (.tuple #[.bool (latP a b l m).1, .bool (latP a b l m).2]) ∧ Below w.heap.size w w' := by
  have hb := below_alloc w (.cells #[.slice a1 n1 c1, .slice a2 n2 c2] 27)
  have hf := box_first w (.slice a1 n1 c1) (.slice a2 n2 c2) 27
  have hf2 := box_second w (.slice a1 n1 c1) (.slice a2 n2 c2) 27
  have H1 := Lib.hid (h1.below hb)
  have H2 := Lib.hid (h2.below hb)
  have HL1 := Lib.hid h1.1
  have hsz : w.heap.size < (w.alloc (.cells #[.slice a1 n1 c1, .slice a2 n2 c2] 27)).heap.size := by simp
  clear h1 h2
  go_enter Try.func24, Try.ntmps24
  go_wp2_with fail
  generalize w.alloc (.cells #[.slice a1 n1 c1, .slice a2 n2 c2] 27) = W0 at *
  have k1 := cell_regrown hf
  have k2 := cell_regrown hf2
  have cU : ∀ d os, Calls Try.prog 71 #[.agg #[.slice a1 n1 c1, .slice a2 n2 c2], .int .i64 a] (Sort.grow (redrawn W0 d) os) fun e w'' => e = .returned (.int .i64 (find l a)) ∧ ∃ p : Regrown, w'' = Sort.grow (redrawn W0 p.d) p.os := fun d os => Calls.regrown_of (l2Find_any a1 _ n1 c1 n2 c2 l a _ (by omega) (H1.out.below (below_regrown W0 d os)))
  have cV : ∀ d os, Calls Try.prog 71 #[.agg #[.slice a1 n1 c1, .slice a2 n2 c2], .int .i64 b] (Sort.grow (redrawn W0 d) os) fun e w'' => e = .returned (.int .i64 (find l b)) ∧ ∃ p : Regrown, w'' = Sort.grow (redrawn W0 p.d) p.os := fun d os => Calls.regrown_of (l2Find_any a1 _ n1 c1 n2 c2 l b _ (by omega) (H1.out.below (below_regrown W0 d os)))
  refine wp_region_quiet_below (by kernel_rfl) (by kernel_rfl) ?_
  repeat (go_big_quiet_step (first | (go_at_call_of 71 a; exact cU _ _) | (go_at_call_of 71 b; exact cV _ _)))
  refine wpQuiet_nil ?_
  intro _ hw'
  obtain ⟨⟨dq, osq⟩, hw''⟩ := hw'
  subst hw''
  have hbq := below_regrown W0 dq osq
  have r1 := (hbq.cell (p := ⟨w.heap.size, 0, none⟩) hsz).trans hf
  have r2 := (hbq.cell (p := ⟨w.heap.size, 1, none⟩) hsz).trans hf2
  have hszq := Nat.lt_of_lt_of_le hsz hbq.size
  have K1 := Lib.hid (H1.out.below hbq)
  have K2 := Lib.hid (H2.out.below hbq)
  have HB := Lib.hid (hb.trans (hbq.mono hb.size))
  clear k1 k2 cU cV hf hf2 hbq hb
  generalize Sort.grow (redrawn W0 dq) osq = W5 at *
  go_wp2_with fail
  refine (Good2.l2Good_any a1 a2 n1 c1 n2 c2 l m W5 K1.out K2.out).mono ?_
  rintro e w1 ⟨rfl, b1⟩
  have q1 := (b1.cell (p := ⟨w.heap.size, 0, none⟩) hszq).trans r1
  have q2 := (b1.cell (p := ⟨w.heap.size, 1, none⟩) hszq).trans r2
  have HB1 := Lib.hid (HB.out.trans (b1.mono HB.out.size))
  have K11 := Lib.hid (K1.out.below b1)
  have K12 := Lib.hid (K2.out.below b1)
  clear r1 r2 b1
  cases hg : good l m with
  | false =>
    have HE := Lib.hid (latP_no (a := a) (b := b) (has2_no (l := l) (m := m) (a := a) (b := b) (fun h => by rw [hg] at h; exact absurd h.1 (by simp))))
    clear hg
    go_wp2_with fail
    go_ret2
    exact ⟨by rw [HE.out]; rfl, HB1.out⟩
  | true =>
    have HG := Lib.hid hg
    cases hi : isAt l a with
    | none =>
      have HE := Lib.hid (latP_no (a := a) (b := b) (has2_no (l := l) (m := m) (a := a) (b := b) (fun h => by obtain ⟨_, ⟨i, h2⟩, _⟩ := h; rw [hi] at h2; cases h2)))
      rw [find_none hi]
      clear hg hi
      go_wp2_with fail
      go_ret2
      exact ⟨by rw [HE.out]; rfl, HB1.out⟩
    | some i =>
      have hi0 : ¬ (i : Int) < 0 := by omega
      rw [find_some hi]
      cases hj : isAt l b with
      | none =>
        have HE := Lib.hid (latP_no (a := a) (b := b) (has2_no (l := l) (m := m) (a := a) (b := b) (fun h => by obtain ⟨_, _, j, h2⟩ := h; rw [hj] at h2; cases h2)))
        rw [find_none hj]
        clear hg hi hj
        go_wp2_with fail
        go_ret2
        exact ⟨by rw [HE.out]; rfl, HB1.out⟩
      | some j =>
        have hj0 : ¬ (j : Int) < 0 := by omega
        have HE := Lib.hid (latP_yes (a := a) (b := b) (has2_iff.2 ⟨hg, ⟨i, hi⟩, j, hj⟩))
        rw [find_some hj]
        have HI := Lib.hid hi
        have HJ := Lib.hid hj
        have hin : i < n1 := by rw [← HL1.out]; exact isAt_lt hi
        have hjn : j < n1 := by rw [← HL1.out]; exact isAt_lt hj
        have hn10 : n1 ≤ 10 := by rw [← HL1.out]; exact (Table.good_few hg).1
        have hin2 : (i : Int) < (n1 : Int) := by omega
        clear hg hi hj
        go_wp2_with fail
        refine (later_any a1 a2 n1 c1 n2 c2 l m w1 HG.out K11.out K12.out).mono ?_
        rintro e w2 ⟨g, L, rfl, hge, hT, T, b2⟩
        have HT := Lib.hid T
        obtain ⟨bb, off, z, hp, hz, e1⟩ := hT.at i hin
        obtain ⟨x, hx, rfl⟩ := row_at hz
        injection hp with hp
        injection hp with hp1 hp2
        subst hp1 hp2
        rw [Nat.zero_add] at e1
        have hx10 := bd hn10 (T.bd i x hx)
        have HX : Hid (x.testBit j = later m a b) := tbit HG.out HL1.out T HI.out HJ.out hx
        have HB2 := Lib.hid (HB1.out.trans (b2.mono HB1.out.size))
        clear hT T hz hx b2
        go_wp2_with fail
        refine (l4Bit_any x j hx10 (by omega) w2).mono ?_
        rintro e w3 ⟨rfl, rfl⟩
        go_wp2_with fail
        go_ret2
        exact ⟨by rw [HE.out, HX.out]; rfl, HB2.out⟩
end Go.Proofs.Ythcjembekadijaa.IsLater
/- The program's IsConsistent and the model's l4Consistent. -/
namespace Go.Proofs.Ythcjembekadijaa.Consist
open Go.RowKit Pairs Rec Chain Find2 GoodM Keep GivesI Lows Order Bit Table Idx That IsLater
theorem num_at {l m : List (Int × Int)} (hg : good l m = true) {x y : Int} {i : Nat} (hx : l[i]? = some (x, y)) : isAt l x = some i := by
  have hA := (good_asc hg).1
  have hil := (List.getElem?_eq_some_iff.1 hx).1
  have e : (isAt l x).isSome = true := isAt_keys.2 (List.mem_map.2 ⟨(x, y), List.mem_of_getElem? hx, rfl⟩)
  obtain ⟨j, hj⟩ := Option.isSome_iff_exists.1 e
  obtain ⟨y2, hy2⟩ := isAt_num hj
  rcases Nat.lt_trichotomy j i with h | h | h
  · have := hA.lt (i - j - 1) j (x, y2) (x, y) hy2 (by rw [show j + (i - j - 1) + 1 = i by omega]; exact hx)
    simp at this
  · rw [hj, h]
  · have := hA.lt (j - i - 1) i (x, y) (x, y2) hx (by rw [show i + (j - i - 1) + 1 = j by omega]; exact hy2)
    simp at this
theorem tk_any (q : Int × Int → Bool) {l : List (Int × Int)} {k : Nat} {p : Int × Int} (hx : l[k]? = some p) (h : (l.take k).any q = false) : (l.take (k + 1)).any q = q p := by
  rw [List.take_add_one, hx, List.any_append, h]
  simp
theorem any_hit (q : Int × Int → Bool) {l : List (Int × Int)} {k : Nat} {p : Int × Int} (hx : l[k]? = some p) (h : q p = true) : l.any q = true :=
  List.any_eq_true.2 ⟨p, List.mem_of_getElem? hx, h⟩
def IxAns (b : Bool) (w : World) (e : Ending) (w' : World) : Prop := ∃ i : Int, e = .returned (.int .i64 i) ∧ (b = false → i = -1) ∧ (b = true → 0 ≤ i) ∧ Below w.heap.size w w'
set_option maxRecDepth 100000 in
set_option maxHeartbeats 4000000 in
theorem index_any (f : FuncId) (bs : Array Value) (q : Int × Int → Bool) (a1 : Option Addr) (n1 c1 : Nat) (l : List (Int × Int)) (w : World) (hn : n1 ≤ 10) (h1 : Holds w a1 n1 l)
    (hcall : ∀ (args : Array Value) (W : World), (callFunc f args).run Try.prog W = .ok (.enter f args) W)
    (hf : ∀ x y wr, (x, y) ∈ l → Below w.heap.size w wr → Calls Try.prog f (#[.agg #[.int .i64 x, .int .i64 y]] ++ bs) wr fun e w' => e = .returned (.bool (q (x, y))) ∧ Below wr.heap.size wr w') :
    Calls Try.prog 120 #[.slice a1 n1 c1, .func (.func f) #[] bs] w (IxAns (l.any q) w) := by
  have H1 := Lib.hid h1
  have HL1 := Lib.hid h1.1
  have HF := Lib.hid hf
  have HC := Lib.hid hcall
  clear h1 hf hcall
  go_enter Try.func120, Try.ntmps120
  go_wp2_with fail
  go_loopw [8] (fun s8 wr => ∃ k : Nat, k ≤ n1 ∧ s8 = .int .i64 k ∧ Hid ((l.take k).any q = false) ∧ Hid (Below w.heap.size w wr)) (fun s8 _ => n1 - (intOf s8).toNat)
  case atStart => exact ⟨0, Nat.zero_le _, rfl, rfl, Below.refl _ _⟩
  case round =>
    obtain ⟨k, hk, rfl, HP, HR⟩ := hrel
    by_cases hlt : k < n1
    · obtain ⟨b, off, x, y, rfl, hx, e1, e2⟩ := (H1.out.below HR.out).at k hlt
      have HX := Lib.hid hx
      have hkn : (k : Int) < (n1 : Int) := by omega
      have hk0 : (0 : Int) ≤ (k : Int) := by omega
      clear hx
      go_wp2_with fail
      rw [HC.out, Oper.upon_enter]
      refine (HF.out x y _ (List.mem_of_getElem? HX.out) HR.out).mono ?_
      rintro e w8 ⟨rfl, b8⟩
      have HR8 := Lib.hid (HR.out.trans (b8.mono HR.out.size))
      clear b8 e1 e2
      cases hq : q (x, y) with
      | true =>
        have HA := Lib.hid (any_hit q HX.out hq)
        clear hq
        go_wp2_with fail
        go_ret
        exact ⟨_, rfl, fun h => (by rw [HA.out] at h; cases h), fun _ => hk0, HR8.out⟩
      | false =>
        have HP2 : Hid ((l.take (k + 1)).any q = false) := by unfold Hid; rw [tk_any q HX.out HP.out, hq]
        clear hq
        go_wp2_with fail
        exact ⟨⟨k + 1, by omega, by go_num, HP2, HR8⟩, by simp [intOf]; omega⟩
    · obtain rfl : k = n1 := by omega
      have hkn : ¬ (k : Int) < (k : Int) := by omega
      have hp := HP.out
      rw [List.take_of_length_le (by rw [HL1.out]; exact Nat.le_refl _)] at hp
      have HQ := Lib.hid hp
      clear hp
      go_wp2_with fail
      go_ret
      exact ⟨_, rfl, fun _ => rfl, fun h => (by rw [HQ.out] at h; cases h), HR.out⟩
set_option maxRecDepth 100000 in
set_option maxHeartbeats 4000000 in
theorem contains_any (f : FuncId) (bs : Array Value) (q : Int × Int → Bool) (a1 : Option Addr) (n1 c1 : Nat) (l : List (Int × Int)) (w : World) (hn : n1 ≤ 10) (h1 : Holds w a1 n1 l)
    (hcall : ∀ (args : Array Value) (W : World), (callFunc f args).run Try.prog W = .ok (.enter f args) W)
    (hf : ∀ x y wr, (x, y) ∈ l → Below w.heap.size w wr → Calls Try.prog f (#[.agg #[.int .i64 x, .int .i64 y]] ++ bs) wr fun e w' => e = .returned (.bool (q (x, y))) ∧ Below wr.heap.size wr w') :
    Calls Try.prog 59 #[.slice a1 n1 c1, .func (.func f) #[] bs] w fun e w' => e = .returned (.bool (l.any q)) ∧ Below w.heap.size w w' := by
  have HI := Lib.hid (index_any f bs q a1 n1 c1 l w hn h1 hcall hf)
  clear hcall hf h1
  go_enter Try.func59, Try.ntmps59
  go_wp2_with fail
  refine HI.out.mono ?_
  rintro e w1 ⟨i, rfl, hi, hi0, b1⟩
  have HB := Lib.hid b1
  clear b1
  cases ha : l.any q with
  | true =>
    have h0 : (0 : Int) ≤ i := hi0 ha
    have HA := Lib.hid ha
    clear hi hi0 ha
    go_wp2_with fail
    go_ret
    exact ⟨by rw [HA.out]; rfl, HB.out⟩
  | false =>
    obtain rfl : i = -1 := hi ha
    have HA := Lib.hid ha
    clear hi hi0 ha
    go_wp2_with fail
    go_ret
    exact ⟨by rw [HA.out]; rfl, HB.out⟩
noncomputable def consP (l m : List (Int × Int)) : Bool × Bool := if good l m = true then (!(l.any fun p => later m p.1 p.1), true) else (false, false)
theorem cons_no {l m : List (Int × Int)} (h : good l m = false) : consP l m = (false, false) := by unfold consP; rw [if_neg (by rw [h]; simp)]
theorem cons_yes {l m : List (Int × Int)} (h : good l m = true) : consP l m = (!(l.any fun p => later m p.1 p.1), true) := by unfold consP; rw [if_pos h]
theorem clos_any (x y : Int) (bo bx : Nat) (l m : Ps) (W : World) (c1 : W.cell? ⟨bo, 0, none⟩ = some (.func (.func 119) #[] #[.pointer (some ⟨bx, 0, none⟩)])) (hbo : bo < W.heap.size) (h : IsOrd W l m bx) (hx : x ∈ keys l) (hrx : -1000000 ≤ x ∧ x ≤ 1000000) :
    Calls Try.prog 60 #[.agg #[.int .i64 x, .int .i64 y], .pointer (some ⟨bo, 0, none⟩)] W fun e w' => e = .returned (.bool (later m x x)) ∧ Below W.heap.size W w' := by
  have hb := below_alloc W (.cells #[.int .i64 x, .int .i64 y] 55)
  have u1 := box_first W (.int .i64 x) (.int .i64 y) 55
  have d1 := (hb.cell (p := ⟨bo, 0, none⟩) hbo).trans c1
  have HI := Lib.hid (h.below hb)
  have HX := Lib.hid hx
  have HB := Lib.hid hb
  clear h hx hb c1
  go_enter Try.func60, Try.ntmps60
  go_wp2_with fail
  generalize W.alloc (.cells #[.int .i64 x, .int .i64 y] 55) = Z at *
  refine (isLater_any bx l m x x Z HI.out HX.out (by omega) (by omega)).mono ?_
  rintro e w' ⟨rfl, rfl⟩
  go_wp2_with fail
  go_ret
  exact ⟨rfl, HB.out⟩
set_option maxRecDepth 100000 in
set_option maxHeartbeats 4000000 in
theorem impl_any (a1 a2 : Option Addr) (n1 c1 n2 c2 : Nat) (l m : List (Int × Int)) (w : World) (hz1 : n1 ≤ 1048576) (hz2 : n2 ≤ 1048576) (h1 : Holds w a1 n1 l) (h2 : Holds w a2 n2 m) :
    Calls Try.prog 12 #[.agg #[.slice a1 n1 c1, .slice a2 n2 c2]] w fun e w' => e = .returned (.tuple #[.bool (consP l m).1, .bool (consP l m).2]) ∧ Below w.heap.size w w' := by
  have hb := below_alloc w (.cells #[.slice a1 n1 c1, .slice a2 n2 c2] 27)
  have hf := box_first w (.slice a1 n1 c1) (.slice a2 n2 c2) 27
  have hf2 := box_second w (.slice a1 n1 c1) (.slice a2 n2 c2) 27
  have H1 := Lib.hid (h1.below hb)
  have H2 := Lib.hid (h2.below hb)
  have HL1 := Lib.hid h1.1
  have hsz : w.heap.size < (w.alloc (.cells #[.slice a1 n1 c1, .slice a2 n2 c2] 27)).heap.size := by simp
  clear h1 h2
  go_enter Try.func12, Try.ntmps12
  go_wp2_with fail
  generalize w.alloc (.cells #[.slice a1 n1 c1, .slice a2 n2 c2] 27) = W at *
  refine (Avr.impl_any a1 a2 n1 c1 n2 c2 l m W hz1 hz2 H1.out H2.out).mono ?_
  rintro e w1 ⟨rfl, b1⟩
  have r1 := (b1.cell (p := ⟨w.heap.size, 0, none⟩) hsz).trans hf
  have r2 := (b1.cell (p := ⟨w.heap.size, 1, none⟩) hsz).trans hf2
  have hsz1 := Nat.lt_of_lt_of_le hsz b1.size
  have HB1 := Lib.hid (hb.trans (b1.mono hb.size))
  have K1 := Lib.hid (H1.out.below b1)
  have K2 := Lib.hid (H2.out.below b1)
  clear hf hf2 b1 hb
  cases hg : good l m with
  | false =>
    have HE := Lib.hid (cons_no hg)
    clear hg
    go_wp2_with fail
    go_ret2
    exact ⟨by rw [HE.out]; rfl, HB1.out⟩
  | true =>
    have HE := Lib.hid (cons_yes hg)
    have HG := Lib.hid hg
    have hn1 : n1 ≤ 10 := by rw [← HL1.out]; exact (Table.good_few hg).1
    clear hg
    go_wp2_with fail
    refine (orderOf_any a1 a2 n1 c1 n2 c2 l m w1 HG.out K1.out K2.out).mono ?_
    rintro e w2 ⟨bx, rfl, ho, b2⟩
    have ha := below_alloc w2 (.cells #[.func (.func 119) #[] #[.pointer (some ⟨bx, 0, none⟩)]] 86)
    have b23 := b2.trans (ha.mono b2.size)
    have q1 := (b23.cell (p := ⟨w.heap.size, 0, none⟩) hsz1).trans r1
    have q4 : (w2.alloc (.cells #[.func (.func 119) #[] #[.pointer (some ⟨bx, 0, none⟩)]] 86)).cell? ⟨w2.heap.size, 0, none⟩ = some (.func (.func 119) #[] #[.pointer (some ⟨bx, 0, none⟩)]) := by
      rw [World.cell?_alloc_mark]
      rfl
    have s4 : w2.heap.size < (w2.alloc (.cells #[.func (.func 119) #[] #[.pointer (some ⟨bx, 0, none⟩)]] 86)).heap.size := by simp
    have HO := Lib.hid (ho.below ha)
    have HB3 := Lib.hid (HB1.out.trans (b23.mono HB1.out.size))
    have K13 := Lib.hid (K1.out.below b23)
    have Q4 := Lib.hid q4
    clear ho ha b2 b23 r1 r2 q4
    go_wp2_with fail
    generalize w2.alloc (.cells #[.func (.func 119) #[] #[.pointer (some ⟨bx, 0, none⟩)]] 86) = W3 at *
    refine (contains_any 60 #[.pointer (some ⟨w2.heap.size, 0, none⟩)] (fun p => later m p.1 p.1) a1 n1 c1 l W3 hn1 K13.out (fun args W => call_enter Try.func60 (by kernel_rfl) rfl args W) (fun x y wr hx hwr => ?_)).mono ?_
    · have hxk : x ∈ keys l := List.mem_map.2 ⟨(x, y), hx, rfl⟩
      have hxr : 1 ≤ x ∧ x ≤ 999 := by
        obtain ⟨i, hi⟩ := Option.isSome_iff_exists.1 (isAt_keys.2 hxk)
        exact rng_at HG.out hi
      exact clos_any x y w2.heap.size bx l m wr ((hwr.cell (p := ⟨w2.heap.size, 0, none⟩) s4).trans Q4.out) (Nat.lt_of_lt_of_le s4 hwr.size) (HO.out.below hwr) hxk (by omega)
    rintro e w4 ⟨rfl, b4⟩
    have HB4 := Lib.hid (HB3.out.trans (b4.mono HB3.out.size))
    clear b4
    generalize hA : (l.any fun p => later m p.1 p.1) = bb
    have HA := Lib.hid hA
    clear hA
    go_wp2_with fail
    go_ret2
    exact ⟨by rw [HE.out, HA.out]; rfl, HB4.out⟩
end Go.Proofs.Ythcjembekadijaa.Consist
