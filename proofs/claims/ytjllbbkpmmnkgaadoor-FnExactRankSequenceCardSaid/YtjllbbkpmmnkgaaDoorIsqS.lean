/- The model's l8Ready and l8Is: their contracts. -/
import Derived.Test.YtjllbbkpmmnkgaaDoorSqM
import Derived.Test.YtjllbbkpmmnkgaaDoorRedS
import Derived.Test.YtjllbbkpmmnkgaaDoorIsLater
namespace Go.Proofs.YtjllbbkpmmnkgaaDoor.IsqS
open Go.RowKit Pairs Rec Chain Find2 GoodM Keep GivesI Lows Order Bit Table RedS SqM IsLater
set_option linter.unusedVariables false
open Classical in
noncomputable def rdy (T : List Nat) (p i : Nat) : Bool := decide (p.testBit i = false ∧ ∀ k t, T[k]? = some t → t.testBit i = true → p.testBit k = true)
open Classical in
theorem rdy_in {T : List Nat} {p i : Nat} (h : p.testBit i = true) : rdy T p i = false := decide_eq_false (fun q => by rw [h] at q; cases q.1)
open Classical in
theorem rdy_no {T : List Nat} {p i k t : Nat} (ht : T[k]? = some t) (h : t.testBit i = true) (hp : p.testBit k = false) : rdy T p i = false := decide_eq_false (fun q => by have := q.2 k t ht h; rw [hp] at this; cases this)
open Classical in
theorem rdy_yes {T : List Nat} {p i : Nat} (h : p.testBit i = false) (h2 : ∀ k t, T[k]? = some t → t.testBit i = true → p.testBit k = true) : rdy T p i = true := decide_eq_true ⟨h, h2⟩
open Classical in
theorem rdy_get {T : List Nat} {p i : Nat} (h : rdy T p i = true) : p.testBit i = false ∧ ∀ k t, T[k]? = some t → t.testBit i = true → p.testBit k = true := of_decide_eq_true h
def Up (T : List Nat) (p i k : Nat) : Prop := ∀ j t, j < k → T[j]? = some t → t.testBit i = true → p.testBit j = true
theorem Up.next {T : List Nat} {p i k t : Nat} (h : Up T p i k) (ht : T[k]? = some t) (hp : t.testBit i = true → p.testBit k = true) : Up T p i (k + 1) := by
  intro j s hj hs hb
  by_cases e : j = k
  · subst e
    rw [ht] at hs
    injection hs with hs
    subst hs
    exact hp hb
  · exact h j s (by omega) hs hb
set_option maxRecDepth 100000 in
set_option maxHeartbeats 2000000 in
theorem ready_any (a : Option Addr) (n c : Nat) (T : List Nat) (p i : Nat) (w : World) (hn : n ≤ 10) (hp : p < 1024) (hi : i < 10) (hT : HoldsI w a n (intsN T)) (hbd : ∀ (k t : Nat), T[k]? = some t → t < 1024) :
    Calls Tryd.prog 51 #[.slice a n c, .int .i64 (p : Int), .int .i64 (i : Int)] w fun e w' => e = .returned (.bool (rdy T p i)) ∧ w' = w := by
  have HT := Lib.hid hT
  have HBD := Lib.hid hbd
  have HL : Hid (T.length = n) := by have := hT.1; unfold intsN at this; rw [List.length_map] at this; exact this
  clear hT hbd
  go_enter Tryd.func51, Tryd.ntmps51
  go_wp2_with fail
  refine (l4Bit_any p i hp hi w).mono ?_
  rintro e w' ⟨rfl, hw'⟩
  have hw2 := hw'.symm
  subst hw2
  clear hw'
  cases hpi : p.testBit i with
  | true =>
    have HE := Lib.hid (rdy_in (T := T) hpi)
    clear hpi
    go_wp2_with fail
    go_ret
    exact ⟨by rw [HE.out]; rfl, rfl⟩
  | false =>
    have HPI := Lib.hid hpi
    clear hpi
    go_wp2_with fail
    go_loopw [7] (fun s7 wr => ∃ k : Nat, k ≤ n ∧ s7 = .int .i64 k ∧ Hid (Up T p i k) ∧ wr = w) (fun s7 _ => n - (intOf s7).toNat)
    case atStart => exact ⟨0, Nat.zero_le _, rfl, (fun j t h => absurd h (Nat.not_lt_zero _)), rfl⟩
    case round =>
      obtain ⟨k, hk, rfl, HU, hwr⟩ := hrel
      subst hwr
      by_cases hlt : k < n
      · obtain ⟨b, off, z, rfl, hz, e1⟩ := HT.out.at k hlt
        obtain ⟨t, ht, rfl⟩ := row_at hz
        have hin : (k : Int) < (n : Int) := by omega
        have hi00 : (0 : Int) ≤ (k : Int) := by omega
        have ht10 := HBD.out k t ht
        have HTK := Lib.hid ht
        clear hz ht
        cases hb1 : t.testBit i with
        | false =>
          have HUN : Hid (Up T p i (k + 1)) := HU.out.next HTK.out (fun h => by rw [hb1] at h; cases h)
          have HC1 := Lib.hid (l4Bit_any t i ht10 hi)
          rw [hb1] at HC1
          clear hb1
          go_wp2_with (go_at_call 59; refine (HC1.out _).mono ?_; rintro e w' ⟨rfl, hw'⟩; have hw2 := hw'.symm; subst hw2; clear hw')
          exact ⟨⟨k + 1, by omega, by go_num, HUN, trivial⟩, by simp [intOf]; omega⟩
        | true =>
          have HC1 := Lib.hid (l4Bit_any t i ht10 hi)
          have HC2 := Lib.hid (l4Bit_any p k hp (by omega))
          rw [hb1] at HC1
          cases hb2 : p.testBit k with
          | false =>
            have HE := Lib.hid (rdy_no HTK.out hb1 hb2)
            rw [hb2] at HC2
            clear hb1 hb2
            go_wp2_with (first | (go_at_call_of 59 t; refine (HC1.out _).mono ?_; rintro e w' ⟨rfl, hw'⟩; have hw2 := hw'.symm; subst hw2; clear hw') | (go_at_call_of 59 p; refine (HC2.out _).mono ?_; rintro e w' ⟨rfl, hw'⟩; have hw2 := hw'.symm; subst hw2; clear hw'))
            go_ret
            exact ⟨by rw [HE.out]; rfl, rfl⟩
          | true =>
            have HUN : Hid (Up T p i (k + 1)) := HU.out.next HTK.out (fun _ => hb2)
            rw [hb2] at HC2
            clear hb1 hb2
            go_wp2_with (first | (go_at_call_of 59 t; refine (HC1.out _).mono ?_; rintro e w' ⟨rfl, hw'⟩; have hw2 := hw'.symm; subst hw2; clear hw') | (go_at_call_of 59 p; refine (HC2.out _).mono ?_; rintro e w' ⟨rfl, hw'⟩; have hw2 := hw'.symm; subst hw2; clear hw'))
            exact ⟨⟨k + 1, by omega, by go_num, HUN, trivial⟩, by simp [intOf]; omega⟩
      · obtain rfl : k = n := by omega
        have hin : ¬ (k : Int) < (k : Int) := by omega
        have HE : Hid (rdy T p i = true) := rdy_yes HPI.out (fun j t ht => HU.out j t (by rw [← HL.out]; exact (List.getElem?_eq_some_iff.1 ht).1) ht)
        go_wp2_with fail
        go_ret
        exact ⟨by rw [HE.out]; rfl, rfl⟩
theorem reach_up {m : Ps} {y x : Int} (r : Chain.Reach m y x) : ∃ b, (y, b) ∈ m := by
  induction r with
  | one e => exact ⟨_, e⟩
  | more _ _ ih => exact ih
theorem rdy_iff {l m : Ps} (hg : good l m = true) {n : Nat} (hl : l.length = n) {T : List Nat} (TT : Tbl n T (W (Ed l m) n)) {L : List Int} {k p : Nat} (hO : OkUp l m L k) (hR : Rep l p (L.take k)) {x : Int} {i : Nat} (hx : isAt l x = some i) :
    okAt l m (L.take k) x ↔ rdy T p i = true := by
  have hA := (Idx.good_asc hg).1
  obtain ⟨yx, hyx⟩ := isAt_num hx
  constructor
  · rintro ⟨_, h2, h3⟩
    refine rdy_yes ?_ (fun j t ht hb => ?_)
    · cases hb : p.testBit i with
      | false => rfl
      | true => exact absurd ((hR.2 i x yx hyx).1 hb) h2
    · have hjl : j < l.length := by rw [hl, ← TT.len]; exact (List.getElem?_eq_some_iff.1 ht).1
      have hz : l[j]? = some (l[j].1, l[j].2) := List.getElem?_eq_getElem hjl
      have hb2 := tbit hg hl TT (at_num hA hz) hx ht
      rw [hb] at hb2
      exact (hR.2 j _ _ hz).2 ((ready_iff hO x).2 h3 _ (later_iff.1 hb2.symm))
  · intro h
    obtain ⟨h1, h2⟩ := rdy_get h
    refine ⟨isAt_keys.1 (by rw [hx]; rfl), fun hm => ?_, (ready_iff hO x).1 fun y r => ?_⟩
    · have := (hR.2 i x yx hyx).2 hm
      rw [this] at h1
      cases h1
    · obtain ⟨b, hb⟩ := reach_up r
      obtain ⟨⟨j, hj⟩, _⟩ := Table.good_ends hg y b hb
      obtain ⟨z, hz⟩ := isAt_num hj
      have hjn : j < T.length := by rw [TT.len, ← hl]; exact isAt_lt hj
      have ht : T[j]? = some T[j] := List.getElem?_eq_getElem hjn
      have hb2 := tbit hg hl TT hj hx ht
      rw [later_iff.2 r] at hb2
      exact (hR.2 j y z hz).1 (h2 j _ ht hb2)
set_option maxRecDepth 100000 in
set_option maxHeartbeats 4000000 in
theorem l8Is_any (a1 a2 p : Option Addr) (n1 c1 n2 c2 np cp : Nat) (l m : List (Int × Int)) (L : List Int) (w : World) (hz1 : n1 ≤ 1048576) (hz3 : np ≤ 1048576) (h1 : Holds w a1 n1 l) (h2 : Holds w a2 n2 m) (h3 : HoldsI w p np L) (hg : good l m = true) :
    Calls Tryd.prog 38 #[.agg #[.slice a1 n1 c1, .slice a2 n2 c2], .slice p np cp] w fun e w' => e = .returned (.bool (isSq l m L)) ∧ Below w.heap.size w w' := by
  obtain ⟨b, hb0⟩ : ∃ b, w.heap.size = b := ⟨_, rfl⟩
  have hb := below_alloc w (.cells #[.slice a1 n1 c1, .slice a2 n2 c2] 33)
  have hf := box_first w (.slice a1 n1 c1) (.slice a2 n2 c2) 33
  have hf2 := box_second w (.slice a1 n1 c1) (.slice a2 n2 c2) 33
  rw [hb0] at hf hf2
  have hsz : (w.alloc (.cells #[.slice a1 n1 c1, .slice a2 n2 c2] 33)).heap.size = b + 1 := by simp [hb0]
  have H1 := Lib.hid (h1.below hb)
  have H2 := Lib.hid (h2.below hb)
  have H3 := Lib.hid (h3.below hb)
  have HL1 := Lib.hid h1.1
  have HL3 := Lib.hid h3.1
  have HB := Lib.hid hb
  have HG := Lib.hid hg
  have HA := Lib.hid (Idx.good_asc hg).1
  have hn10 : n1 ≤ 10 := by rw [← h1.1]; exact (Table.good_few hg).1
  clear h1 h2 h3 hb hg
  go_enter Tryd.func38, Tryd.ntmps38
  go_wp2_with fail
  generalize w.alloc (.cells #[.slice a1 n1 c1, .slice a2 n2 c2] 33) = W0 at *
  refine (later_any a1 a2 n1 c1 n2 c2 l m W0 HG.out H1.out H2.out).mono ?_
  rintro e W1 ⟨gt, T, rfl, hge, hT, TT, b1⟩
  have r1 := (b1.cell (p := ⟨b, 0, none⟩) (by show b < _; omega)).trans hf
  have r2 := (b1.cell (p := ⟨b, 1, none⟩) (by show b < _; omega)).trans hf2
  have HT := Lib.hid hT
  have HTT := Lib.hid TT
  have HB1 := Lib.hid (HB.out.trans (b1.mono HB.out.size))
  have M1 := Lib.hid (H1.out.below b1)
  have M3 := Lib.hid (H3.out.below b1)
  have hsz1 := b1.size
  clear hf hf2 b1 hT TT hge
  go_wp2_with fail
  go_loopw [6, 7] (fun s6 s7 wr => ∃ k q : Nat, k ≤ np ∧ s7 = .int .i64 k ∧ s6 = .int .i64 (q : Int) ∧ Hid (OkUp l m L k) ∧ Hid (Rep l q (L.take k)) ∧ Hid (Below W1.heap.size W1 wr)) (fun _ s7 _ => np - (intOf s7).toNat)
  case atStart => exact ⟨0, 0, Nat.zero_le _, rfl, rfl, OkUp.zero l m L, rep_zero l, Below.refl _ _⟩
  case round =>
    obtain ⟨k, q, hk, rfl, rfl, HO, HR, HBel⟩ := hrel
    have s1 := (HBel.out.cell (p := ⟨b, 0, none⟩) (by show b < _; omega)).trans r1
    have s2 := (HBel.out.cell (p := ⟨b, 1, none⟩) (by show b < _; omega)).trans r2
    have hwsz := HBel.out.size
    have hq10 : q < 1024 := Nat.lt_of_lt_of_le HR.out.1 (Nat.pow_le_pow_right (n := 2) (j := 10) (by decide) (by rw [HL1.out]; exact hn10))
    by_cases hlt : k < np
    · obtain ⟨bp, off, x, rfl, hx, e1⟩ := (M3.out.below HBel.out).at k hlt
      have hin : (k : Int) < (np : Int) := by omega
      have hi00 : (0 : Int) ≤ (k : Int) := by omega
      have HX := Lib.hid hx
      have Q1 := Lib.hid (M1.out.below HBel.out)
      have k1 := cell_regrown s1
      have k2 := cell_regrown s2
      have k3 := cell_regrown e1
      have cU : ∀ d os, Calls Tryd.prog 50 #[.agg #[.slice a1 n1 c1, .slice a2 n2 c2], .int .i64 x] (Sort.grow (redrawn wr d) os) fun e w'' => e = .returned (.int .i64 (find l x)) ∧ ∃ p : Regrown, w'' = Sort.grow (redrawn wr p.d) p.os := fun d os => Calls.regrown_of (l2Find_any a1 _ n1 c1 n2 c2 l x _ (by omega) (Q1.out.below (below_regrown wr d os)))
      clear hx
      go_upto_region 6 with fail
      refine wp_region_quiet_below (by kernel_rfl) (by kernel_rfl) ?_
      repeat (go_big_quiet_step (first | (go_at_call 50; exact cU _ _)))
      refine wpQuiet_nil ?_
      intro _ hw'
      obtain ⟨⟨dq, osq⟩, hw''⟩ := hw'
      subst hw''
      have hbq := below_regrown wr dq osq
      have HB2 := Lib.hid (HBel.out.trans (hbq.mono HBel.out.size))
      clear k1 k2 k3 cU s1 s2 e1 Q1 hbq
      generalize Sort.grow (redrawn wr dq) osq = W5 at *
      cases hi : isAt l x with
      | none =>
        have HE : Hid (isSq l m L = false) := isSq_bad HX.out (fun h => by
          have := isAt_keys.2 h.1
          rw [hi] at this
          cases this)
        rw [find_none hi]
        clear hi
        go_wp2_with fail
        go_ret
        exact ⟨by rw [HE.out]; rfl, by first | exact HB1.out.trans (HB2.out.mono HB1.out.size) | (rw [← hb0]; exact HB1.out.trans (HB2.out.mono HB1.out.size))⟩
      | some i =>
        have HI := Lib.hid hi
        have hil : i < n1 := by rw [← HL1.out]; exact isAt_lt hi
        rw [find_some hi]
        have hok := rdy_iff HG.out HL1.out HTT.out HO.out HR.out hi
        have HOK := Lib.hid hok
        have HC := Lib.hid (ready_any (some ⟨gt, 0, none⟩) n1 n1 T q i W5 hn10 hq10 (by omega) (HT.out.below HB2.out) (fun k t ht => bd hn10 (HTT.out.bd k t ht)))
        have hi0 : ¬ (i : Int) < 0 := by omega
        clear hi hok
        cases hr : rdy T q i with
        | false =>
          have HE : Hid (isSq l m L = false) := isSq_bad HX.out (fun h => by
            have := HOK.out.1 h
            rw [hr] at this
            cases this)
          rw [hr] at HC
          clear hr HOK
          go_wp2_with (go_at_call 51; refine HC.out.mono ?_; rintro e w' ⟨rfl, hw'⟩; have hw2 := hw'.symm; subst hw2; clear hw')
          go_ret
          exact ⟨by rw [HE.out]; rfl, by first | exact HB1.out.trans (HB2.out.mono HB1.out.size) | (rw [← hb0]; exact HB1.out.trans (HB2.out.mono HB1.out.size))⟩
        | true =>
          have HK := Lib.hid (HOK.out.2 hr)
          rw [hr] at HC
          have HTK : Hid (L.take (k + 1) = L.take k ++ [x]) := by
            unfold Hid
            rw [List.take_add_one, HX.out]
            rfl
          have hsh := shl_or q i hq10 (Table.pow_lt hil hn10)
          clear hr HOK
          go_wp2_with (go_at_call 51; refine HC.out.mono ?_; rintro e w' ⟨rfl, hw'⟩; have hw2 := hw'.symm; subst hw2; clear hw')
          refine ⟨⟨k + 1, q ||| 2 ^ i, by omega, by go_num, rfl, HO.out.next HX.out HK.out, ?_, HB2⟩, by simp [intOf]; omega⟩
          unfold Hid
          rw [HTK.out]
          exact rep_next HA.out HR.out HI.out
    · obtain rfl : k = np := by omega
      have hin : ¬ (k : Int) < (k : Int) := by omega
      have HE : Hid (isSq l m L = decide (k = n1)) := by
        have h1 := HO.out
        rw [← HL3.out] at h1
        unfold Hid
        rw [isSq_end h1, HL3.out, HL1.out]
      have HB2 := Lib.hid (HB1.out.trans (HBel.out.mono HB1.out.size))
      by_cases hqa : k = n1
      · have hqb : ((k : Int) == (n1 : Int)) = true := by simp [hqa]
        have HQ := Lib.hid hqa
        clear hqa
        go_wp2_with fail
        go_ret
        exact ⟨by rw [HE.out, decide_eq_true HQ.out]; rfl, by rw [← hb0]; exact HB2.out⟩
      · have hqb : ((k : Int) == (n1 : Int)) = false := by simp; omega
        have HQ := Lib.hid hqa
        clear hqa
        go_wp2_with fail
        go_ret
        exact ⟨by rw [HE.out, decide_eq_false HQ.out]; rfl, by rw [← hb0]; exact HB2.out⟩
noncomputable def isP (l m : Ps) (L : List Int) : Bool × Bool := if good l m = true ∧ cyc l m = false then (isSq l m L, true) else (false, false)
theorem is_no {l m : Ps} {L : List Int} (h : (good l m && !cyc l m) = false) : isP l m L = (false, false) := by
  unfold isP
  rw [if_neg]
  rintro ⟨h1, h2⟩
  rw [h1, h2] at h
  cases h
theorem is_yes {l m : Ps} {L : List Int} (h1 : good l m = true) (h2 : cyc l m = false) : isP l m L = (isSq l m L, true) := by unfold isP; rw [if_pos ⟨h1, h2⟩]
set_option maxRecDepth 100000 in
set_option maxHeartbeats 2000000 in
theorem spec_any (a1 a2 p : Option Addr) (n1 c1 n2 c2 np cp : Nat) (l m : List (Int × Int)) (L : List Int) (w : World) (hz1 : n1 ≤ 1048576) (hz3 : np ≤ 1048576) (h1 : Holds w a1 n1 l) (h2 : Holds w a2 n2 m) (h3 : HoldsI w p np L) :
    Calls Tryd.prog 12 #[.agg #[.slice a1 n1 c1, .slice a2 n2 c2], .slice p np cp] w fun e w' => e = .returned (.tuple #[.bool (isP l m L).1, .bool (isP l m L).2]) ∧ Below w.heap.size w w' := by
  have hb := below_alloc w (.cells #[.slice a1 n1 c1, .slice a2 n2 c2] 33)
  have hf := box_first w (.slice a1 n1 c1) (.slice a2 n2 c2) 33
  have hf2 := box_second w (.slice a1 n1 c1) (.slice a2 n2 c2) 33
  have hsz : w.heap.size < (w.alloc (.cells #[.slice a1 n1 c1, .slice a2 n2 c2] 33)).heap.size := by simp
  have H1 := Lib.hid (h1.below hb)
  have H2 := Lib.hid (h2.below hb)
  have H3 := Lib.hid (h3.below hb)
  have HB := Lib.hid hb
  clear h1 h2 h3 hb
  go_enter Tryd.func12, Tryd.ntmps12
  go_wp2_with fail
  generalize w.alloc (.cells #[.slice a1 n1 c1, .slice a2 n2 c2] 33) = W at *
  refine (l5Good_any a1 a2 n1 c1 n2 c2 l m W H1.out H2.out).mono ?_
  rintro e w2 ⟨rfl, b2⟩
  have q1 := (b2.cell (p := ⟨w.heap.size, 0, none⟩) hsz).trans hf
  have q2 := (b2.cell (p := ⟨w.heap.size, 1, none⟩) hsz).trans hf2
  have HB2 := Lib.hid (HB.out.trans (b2.mono HB.out.size))
  have M1 := Lib.hid (H1.out.below b2)
  have M2 := Lib.hid (H2.out.below b2)
  have M3 := Lib.hid (H3.out.below b2)
  clear hf hf2 b2
  cases hg : (good l m && !cyc l m) with
  | false =>
    have HE := Lib.hid (is_no (L := L) hg)
    clear hg
    go_wp2_with fail
    go_ret2
    rw [HE.out]
    exact ⟨rfl, HB2.out⟩
  | true =>
    have hgg : good l m = true ∧ cyc l m = false := by
      cases h1 : good l m <;> cases h2 : cyc l m <;> simp [h1, h2] at hg ⊢
    have HG := Lib.hid hgg
    have HE := Lib.hid (is_yes (L := L) hgg.1 hgg.2)
    clear hg hgg
    go_wp2_with fail
    refine (l8Is_any a1 a2 p n1 c1 n2 c2 np cp l m L w2 hz1 hz3 M1.out M2.out M3.out HG.out.1).mono ?_
    rintro e w3 ⟨rfl, b3⟩
    have HB3 := Lib.hid (HB2.out.trans (b3.mono HB2.out.size))
    go_wp2_with fail
    go_ret2
    rw [HE.out]
    exact ⟨rfl, HB3.out⟩
end Go.Proofs.YtjllbbkpmmnkgaaDoor.IsqS
