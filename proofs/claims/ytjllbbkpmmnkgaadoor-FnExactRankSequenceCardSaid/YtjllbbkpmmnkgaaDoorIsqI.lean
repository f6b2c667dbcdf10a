/- isSequence: the program's contract. -/
import Derived.Test.YtjllbbkpmmnkgaaDoorIsqM
namespace Go.Proofs.YtjllbbkpmmnkgaaDoor.IsqI
open Go.RowKit Pairs Rec Chain Find2 GoodM Keep GivesI Lows Order Table RedS BlM Nxt Tz SqM Org IsqM
set_option linter.unusedVariables false
set_option maxRecDepth 100000 in
set_option maxHeartbeats 4000000 in
theorem isSeq_any (a1 a2 p : Option Addr) (n1 c1 n2 c2 np cp : Nat) (l m : List (Int × Int)) (L : List Int) (w : World) (hz1 : n1 ≤ 1048576) (hz3 : np ≤ 1048576) (h1 : Holds w a1 n1 l) (h3 : HoldsI w p np L) (hg : good l m = true) (hT : Tab w) :
    Calls Tryd.prog 42 #[.agg (arr (2 ^ l.length - 1) (ups l m)), .agg #[.slice a1 n1 c1, .slice a2 n2 c2], .slice p np cp] w fun e w' => e = .returned (.bool (isSq l m L)) ∧ Below w.heap.size w w' := by
  obtain ⟨b, hb0⟩ : ∃ b, w.heap.size = b := ⟨_, rfl⟩
  obtain ⟨all, hall⟩ : ∃ all, 2 ^ l.length - 1 = all := ⟨_, rfl⟩
  obtain ⟨U, hU⟩ : ∃ U, ups l m = U := ⟨_, rfl⟩
  rw [hall, hU]
  have HG := Lib.hid hg
  have HA := Lib.hid (Idx.good_asc hg).1
  have hn10 : l.length ≤ 10 := (Table.good_few hg).1
  have hall10 : all < 1024 := by rw [← hall]; exact all_lt hn10
  have HALL := Lib.hid hall
  have HU := Lib.hid hU
  have HUB : Hid (∀ i, i < 10 → U i < 1024) := fun i _ => by rw [← hU]; exact ups_lt l m hn10 i
  have hb := below_alloc w (.cells (arr all U) 64)
  have hb2 := hb.trans ((below_alloc (w.alloc (.cells (arr all U) 64)) (.cells #[.slice a1 n1 c1, .slice a2 n2 c2] 33)).mono hb.size)
  have hf := box_first (w.alloc (.cells (arr all U) 64)) (.slice a1 n1 c1) (.slice a2 n2 c2) 33
  have hf2 := box_second (w.alloc (.cells (arr all U) 64)) (.slice a1 n1 c1) (.slice a2 n2 c2) 33
  rw [World.size_alloc, hb0] at hf hf2
  have hA : ((w.alloc (.cells (arr all U) 64)).alloc (.cells #[.slice a1 n1 c1, .slice a2 n2 c2] 33)).heap[b]? = some (.cells (arr all U) 64 (0, 0)) := by
    rw [← hb0, Below.heap_alloc _ _ _ (by simp)]
    exact World.alloc_heap_new w _
  have hsz : ((w.alloc (.cells (arr all U) 64)).alloc (.cells #[.slice a1 n1 c1, .slice a2 n2 c2] 33)).heap.size = b + 1 + 1 := by simp [hb0]
  have H1 := Lib.hid (h1.below hb2)
  have H3 := Lib.hid (h3.below hb2)
  have HT := Lib.hid (hT.below hb2)
  have HB := Lib.hid hb2
  have HL1 := Lib.hid h1.1
  have HL3 := Lib.hid h3.1
  have HAr := Lib.hid hA
  clear h1 h3 hT hb hb2 hU hall hg hA
  unfold arr at *
  go_enter Tryd.func42, Tryd.ntmps42
  go_wp2_with fail
  generalize (w.alloc (.cells #[.int .u64 (all : Int), .int .u64 (U 0 : Int), .int .u64 (U 1 : Int), .int .u64 (U 2 : Int), .int .u64 (U 3 : Int), .int .u64 (U 4 : Int), .int .u64 (U 5 : Int), .int .u64 (U 6 : Int), .int .u64 (U 7 : Int), .int .u64 (U 8 : Int), .int .u64 (U 9 : Int)] 64)).alloc (.cells #[.slice a1 n1 c1, .slice a2 n2 c2] 33) = W at *
  go_loopw [7, 14] (fun s7 s14 wr => ∃ k q : Nat, k ≤ np ∧ s14 = .int .i64 k ∧ s7 = .int .u64 (q : Int) ∧ Hid (OkUp l m L k) ∧ Hid (Rep l q (L.take k)) ∧ Hid (Below W.heap.size W wr)) (fun _ s14 _ => np - (intOf s14).toNat)
  case atStart => exact ⟨0, 0, Nat.zero_le _, rfl, rfl, OkUp.zero l m L, rep_zero l, Below.refl _ _⟩
  case round =>
    obtain ⟨k, q, hk, rfl, rfl, HO, HR, HBel⟩ := hrel
    have hA := (HBel.out.block b (by omega)).trans HAr.out
    have r1 := (HBel.out.cell (p := ⟨b + 1, 0, none⟩) (by show b + 1 < _; omega)).trans hf
    have r2 := (HBel.out.cell (p := ⟨b + 1, 1, none⟩) (by show b + 1 < _; omega)).trans hf2
    have k0 : wr.cell? ⟨b, 0, none⟩ = some (.int .u64 (all : Int)) := cell_of hA (i := 0) rfl
    have k1 : wr.cell? ⟨b, 1, none⟩ = some (.int .u64 (U 0 : Int)) := cell_of hA (i := 1) rfl
    have k2 : wr.cell? ⟨b, 2, none⟩ = some (.int .u64 (U 1 : Int)) := cell_of hA (i := 2) rfl
    have k3 : wr.cell? ⟨b, 3, none⟩ = some (.int .u64 (U 2 : Int)) := cell_of hA (i := 3) rfl
    have k4 : wr.cell? ⟨b, 4, none⟩ = some (.int .u64 (U 3 : Int)) := cell_of hA (i := 4) rfl
    have k5 : wr.cell? ⟨b, 5, none⟩ = some (.int .u64 (U 4 : Int)) := cell_of hA (i := 5) rfl
    have k6 : wr.cell? ⟨b, 6, none⟩ = some (.int .u64 (U 5 : Int)) := cell_of hA (i := 6) rfl
    have k7 : wr.cell? ⟨b, 7, none⟩ = some (.int .u64 (U 6 : Int)) := cell_of hA (i := 7) rfl
    have k8 : wr.cell? ⟨b, 8, none⟩ = some (.int .u64 (U 7 : Int)) := cell_of hA (i := 8) rfl
    have k9 : wr.cell? ⟨b, 9, none⟩ = some (.int .u64 (U 8 : Int)) := cell_of hA (i := 9) rfl
    have k10 : wr.cell? ⟨b, 10, none⟩ = some (.int .u64 (U 9 : Int)) := cell_of hA (i := 10) rfl
    have hq10 : q < 1024 := p_lt hn10 HR.out.1
    have hwsz := HBel.out.size
    have HA2 := Lib.hid hA
    clear hA
    by_cases hlt : k < np
    · obtain ⟨bp, off, x, rfl, hx, e1⟩ := (H3.out.below HBel.out).at k hlt
      have hin : (k : Int) < (np : Int) := by omega
      have hi00 : (0 : Int) ≤ (k : Int) := by omega
      have HX := Lib.hid hx
      clear hx
      go_upto_region 6 with (go_at_call 52; refine (Avr.placeOfContext_any a1 a2 n1 c1 n2 c2 l x wr hz1 (H1.out.below HBel.out) HA.out).mono ?_; rintro e v1 ⟨rfl, b1⟩)
      have q1 := (b1.cell (p := ⟨b + 1, 0, none⟩) (by show b + 1 < _; omega)).trans r1
      have q2 := (b1.cell (p := ⟨b + 1, 1, none⟩) (by show b + 1 < _; omega)).trans r2
      have hA3 := (b1.block b (by omega)).trans HA2.out
      have HB1 := Lib.hid (HBel.out.trans (b1.mono HBel.out.size))
      have HT1 := Lib.hid (HT.out.below HB1.out)
      have j0 : v1.cell? ⟨b, 0, none⟩ = some (.int .u64 (all : Int)) := cell_of hA3 (i := 0) rfl
      have j1 : v1.cell? ⟨b, 1, none⟩ = some (.int .u64 (U 0 : Int)) := cell_of hA3 (i := 1) rfl
      have j2 : v1.cell? ⟨b, 2, none⟩ = some (.int .u64 (U 1 : Int)) := cell_of hA3 (i := 2) rfl
      have j3 : v1.cell? ⟨b, 3, none⟩ = some (.int .u64 (U 2 : Int)) := cell_of hA3 (i := 3) rfl
      have j4 : v1.cell? ⟨b, 4, none⟩ = some (.int .u64 (U 3 : Int)) := cell_of hA3 (i := 4) rfl
      have j5 : v1.cell? ⟨b, 5, none⟩ = some (.int .u64 (U 4 : Int)) := cell_of hA3 (i := 5) rfl
      have j6 : v1.cell? ⟨b, 6, none⟩ = some (.int .u64 (U 5 : Int)) := cell_of hA3 (i := 6) rfl
      have j7 : v1.cell? ⟨b, 7, none⟩ = some (.int .u64 (U 6 : Int)) := cell_of hA3 (i := 7) rfl
      have j8 : v1.cell? ⟨b, 8, none⟩ = some (.int .u64 (U 7 : Int)) := cell_of hA3 (i := 8) rfl
      have j9 : v1.cell? ⟨b, 9, none⟩ = some (.int .u64 (U 8 : Int)) := cell_of hA3 (i := 9) rfl
      have j10 : v1.cell? ⟨b, 10, none⟩ = some (.int .u64 (U 9 : Int)) := cell_of hA3 (i := 10) rfl
      have hv1 := b1.size
      clear k0 k1 k2 k3 k4 k5 k6 k7 k8 k9 k10 b1 hA3
      cases hi : isAt l x with
      | none =>
        have HE : Hid (isSq l m L = false) := isSq_bad HX.out (fun h => by
          have := isAt_keys.2 h.1
          rw [hi] at this
          cases this)
        have hs : (isAt l x).isSome = false := by rw [hi]; rfl
        clear hi hs
        generalize (pl l x : Nat) = pp
        go_wp2_with fail
        go_ret
        exact ⟨by rw [HE.out]; rfl, HB.out.trans (HB1.out.mono HB.out.size)⟩
      | some i =>
        have hp1 := pl_of HA.out hi
        have HI := Lib.hid hi
        have hil : i < 10 := Nat.lt_of_lt_of_le (isAt_lt hi) hn10
        rw [hp1]
        clear hi hp1
        have hok := okAt_iff HG.out HR.out HI.out
        rw [HU.out, HALL.out] at hok
        have HN := Lib.hid (next_any all q U hall10 hq10 HUB.out v1 HT1.out)
        have hnl := nxt_lt U all q
        have HOK := Lib.hid hok
        have e4 : bits .and .u64 (nxt U all q : Int) (2 ^ i : Int) = ((nxt U all q &&& 2 ^ i : Nat) : Int) := by
          rw [← and_is _ _ hnl (pow_lt hil)]
          simp
        clear hok
        cases hbit : (nxt U all q).testBit i with
        | false =>
          have HE : Hid (isSq l m L = false) := isSq_bad HX.out (fun h => by
            have := HOK.out.1 h
            rw [hbit] at this
            cases this)
          have e5 : (((nxt U all q &&& 2 ^ i : Nat) : Int) == 0) = true := by rw [(and_pow _ _).2 hbit]; rfl
          unfold arr at HN
          generalize nxt U all q = nx at *
          clear hbit HOK
          go_wp2_with (first | (go_at_call 55; refine HN.out.mono ?_; rintro e v2 ⟨rfl, b2⟩; have HB2 := Lib.hid (HB1.out.trans (b2.mono (by omega)))) | (go_at_call 53; refine (set_any i (by omega) _).mono ?_; rintro e w' ⟨rfl, hw'⟩; have hw2 := hw'.symm; subst hw2; clear hw'))
          go_ret
          exact ⟨by rw [HE.out]; rfl, HB.out.trans (HB2.out.mono HB.out.size)⟩
        | true =>
          have hokk := HOK.out.2 hbit
          have e5 : (((nxt U all q &&& 2 ^ i : Nat) : Int) == 0) = false := by
            have : ¬ (nxt U all q &&& 2 ^ i = 0) := fun h => by
              have := (and_pow _ _).1 h
              rw [hbit] at this
              cases this
            simp
            omega
          have HK := Lib.hid hokk
          unfold arr at HN
          generalize nxt U all q = nx at *
          clear hbit HOK hokk
          have e6 : bits .or .u64 (q : Int) (2 ^ i : Int) = ((q ||| 2 ^ i : Nat) : Int) := by
            rw [← or_is _ _ hq10 (pow_lt hil)]
            simp
          have HTK : Hid (L.take (k + 1) = L.take k ++ [x]) := by
            unfold Hid
            rw [List.take_add_one, HX.out]
            rfl
          go_wp2_with (first | (go_at_call 55; refine HN.out.mono ?_; rintro e v2 ⟨rfl, b2⟩; have HB2 := Lib.hid (HB1.out.trans (b2.mono (by omega)))) | (go_at_call 53; refine (set_any i (by omega) _).mono ?_; rintro e w' ⟨rfl, hw'⟩; have hw2 := hw'.symm; subst hw2; clear hw'))
          refine ⟨⟨k + 1, q ||| 2 ^ i, by omega, by go_num, rfl, HO.out.next HX.out HK.out, ?_, HB2⟩, by simp [intOf]; omega⟩
          unfold Hid
          rw [HTK.out]
          exact rep_next HA.out HR.out HI.out
    · obtain rfl : k = np := by omega
      have hin : ¬ (k : Int) < (k : Int) := by omega
      have hfull : (q = all) ↔ L.length = l.length := by
        have h1 := HO.out
        have h2 := HR.out
        rw [List.take_of_length_le (by rw [HL3.out]; exact Nat.le_refl _)] at h2
        rw [← HL3.out] at h1
        have := full_iff HA.out h1 h2
        rw [HALL.out] at this
        exact this
      have HE : Hid (isSq l m L = decide (q = all)) := by
        have h1 := HO.out
        rw [← HL3.out] at h1
        unfold Hid
        rw [isSq_end h1]
        by_cases e : L.length = l.length
        · rw [decide_eq_true e, decide_eq_true (hfull.2 e)]
        · rw [decide_eq_false e, decide_eq_false (fun h => e (hfull.1 h))]
      have HB1 := Lib.hid (HB.out.trans (HBel.out.mono HB.out.size))
      clear hfull
      by_cases hqa : q = all
      · have hqb : ((q : Int) == (all : Int)) = true := by simp [hqa]
        have HQ := Lib.hid hqa
        clear hqa
        go_wp2_with fail
        go_ret
        exact ⟨by rw [HE.out, decide_eq_true HQ.out]; rfl, by rw [← hb0]; exact HB1.out⟩
      · have hqb : ((q : Int) == (all : Int)) = false := by simp; omega
        have HQ := Lib.hid hqa
        clear hqa
        go_wp2_with fail
        go_ret
        exact ⟨by rw [HE.out, decide_eq_false HQ.out]; rfl, by rw [← hb0]; exact HB1.out⟩
end Go.Proofs.YtjllbbkpmmnkgaaDoor.IsqI
