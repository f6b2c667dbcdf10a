/- The program's SequenceDistance. -/
import Derived.Test.YtjllbbkpmmnkgaaDoorIsqP
import Derived.Test.YtjllbbkpmmnkgaaDoorDisM
namespace Go.Proofs.YtjllbbkpmmnkgaaDoor.DisP
open Go.RowKit Pairs Rec Chain Find2 GoodM Keep GivesI Lows Order Table RedS BlM Nxt Tz SqM Org IsqM IsqS DisM
set_option linter.unusedVariables false
def Ans (l m : Ps) (A B : List Int) (w : World) (e : Ending) (w' : World) : Prop := e = .returned (.tuple #[.int .i64 (sdP l m A B).1, .bool (sdP l m A B).2]) ∧ Below w.heap.size w w'
set_option maxRecDepth 100000 in
set_option maxHeartbeats 8000000 in
theorem impl_any (a1 a2 pa pb : Option Addr) (n1 c1 n2 c2 na nb : Nat) (l m : List (Int × Int)) (A B : List Int) (w : World) (hz1 : n1 ≤ 1048576) (hz2 : n2 ≤ 1048576) (hz3 : na ≤ 1048576) (hz4 : nb ≤ 1048576) (h1 : Holds w a1 n1 l) (h2 : Holds w a2 n2 m) (h3 : HoldsI w pa na A) (h4 : HoldsI w pb nb B) (hT : Tab w) :
    Calls Tryd.prog 19 #[.agg #[.slice a1 n1 c1, .slice a2 n2 c2], .slice pa na na, .slice pb nb nb] w (Ans l m A B w) := by
  obtain ⟨b, hb0⟩ : ∃ b, w.heap.size = b := ⟨_, rfl⟩
  have hb := below_alloc w (.cells #[.slice a1 n1 c1, .slice a2 n2 c2] 33)
  have hf := box_first w (.slice a1 n1 c1) (.slice a2 n2 c2) 33
  have hf2 := box_second w (.slice a1 n1 c1) (.slice a2 n2 c2) 33
  rw [hb0] at hf hf2
  have hsz : (w.alloc (.cells #[.slice a1 n1 c1, .slice a2 n2 c2] 33)).heap.size = b + 1 := by simp [hb0]
  have H1 := Lib.hid (h1.below hb)
  have H2 := Lib.hid (h2.below hb)
  have H3 := Lib.hid (h3.below hb)
  have H4 := Lib.hid (h4.below hb)
  have HT := Lib.hid (hT.below hb)
  have HB := Lib.hid hb
  have HL1 := Lib.hid h1.1
  have HL3 := Lib.hid h3.1
  clear h1 h2 h3 h4 hb hT
  go_enter Tryd.func19, Tryd.ntmps19
  go_wp2_with fail
  generalize w.alloc (.cells #[.slice a1 n1 c1, .slice a2 n2 c2] 33) = W0 at *
  refine (ordering_any a1 a2 n1 c1 n2 c2 l m W0 hz1 hz2 H1.out H2.out).mono ?_
  rintro e W1 ⟨rfl, b1⟩
  have r1 := (b1.cell (p := ⟨b, 0, none⟩) (by show b < _; omega)).trans hf
  have r2 := (b1.cell (p := ⟨b, 1, none⟩) (by show b < _; omega)).trans hf2
  have HB1 := Lib.hid (HB.out.trans (b1.mono HB.out.size))
  have M1 := Lib.hid (H1.out.below b1)
  have M3 := Lib.hid (H3.out.below b1)
  have M4 := Lib.hid (H4.out.below b1)
  have HT1 := Lib.hid (HT.out.below b1)
  have hsz1 := b1.size
  clear hf hf2 b1
  by_cases hg : good l m = true ∧ cyc l m = false
  · have hgc : (good l m && !cyc l m) = true := by rw [hg.1, hg.2]; rfl
    rw [if_pos hg, hgc]
    have HG := Lib.hid hg
    have hn10 : l.length ≤ 10 := (Table.good_few hg.1).1
    have hbo := below_alloc W1 (.cells (arr (2 ^ l.length - 1) (ups l m)) 64)
    have HSA : Hid (∀ W, Below (W1.alloc (.cells (arr (2 ^ l.length - 1) (ups l m)) 64)).heap.size (W1.alloc (.cells (arr (2 ^ l.length - 1) (ups l m)) 64)) W → Calls Tryd.prog 42 #[.agg (arr (2 ^ l.length - 1) (ups l m)), .agg #[.slice a1 n1 c1, .slice a2 n2 c2], .slice pa na na] W fun e w' => e = .returned (.bool (isSq l m A)) ∧ Below W.heap.size W w') := fun W hW => IsqI.isSeq_any a1 a2 pa n1 c1 n2 c2 na na l m A W hz1 hz3 ((M1.out.below hbo).below hW) ((M3.out.below hbo).below hW) HG.out.1 ((HT1.out.below hbo).below hW)
    have HSB : Hid (∀ W, Below (W1.alloc (.cells (arr (2 ^ l.length - 1) (ups l m)) 64)).heap.size (W1.alloc (.cells (arr (2 ^ l.length - 1) (ups l m)) 64)) W → Calls Tryd.prog 42 #[.agg (arr (2 ^ l.length - 1) (ups l m)), .agg #[.slice a1 n1 c1, .slice a2 n2 c2], .slice pb nb nb] W fun e w' => e = .returned (.bool (isSq l m B)) ∧ Below W.heap.size W w') := fun W hW => IsqI.isSeq_any a1 a2 pb n1 c1 n2 c2 nb nb l m B W hz1 hz4 ((M1.out.below hbo).below hW) ((M4.out.below hbo).below hW) HG.out.1 ((HT1.out.below hbo).below hW)
    have HBO := Lib.hid (HB1.out.trans (hbo.mono HB1.out.size))
    have N3 := Lib.hid (M3.out.below hbo)
    have N4 := Lib.hid (M4.out.below hbo)
    have s1 := (hbo.cell (p := ⟨b, 0, none⟩) (by show b < _; omega)).trans r1
    have s2 := (hbo.cell (p := ⟨b, 1, none⟩) (by show b < _; omega)).trans r2
    have HIV : Hid (iv A B A.length ≤ A.length * A.length) := iv_le A B A.length
    clear hg hgc hbo
    generalize 2 ^ l.length - 1 = all at *
    generalize ups l m = U at *
    unfold arr at *
    have hA := World.alloc_heap_new W1 (.cells #[.int .u64 (all : Int), .int .u64 (U 0 : Int), .int .u64 (U 1 : Int), .int .u64 (U 2 : Int), .int .u64 (U 3 : Int), .int .u64 (U 4 : Int), .int .u64 (U 5 : Int), .int .u64 (U 6 : Int), .int .u64 (U 7 : Int), .int .u64 (U 8 : Int), .int .u64 (U 9 : Int)] 64)
    have hW2 : W1.heap.size < (W1.alloc (.cells #[.int .u64 (all : Int), .int .u64 (U 0 : Int), .int .u64 (U 1 : Int), .int .u64 (U 2 : Int), .int .u64 (U 3 : Int), .int .u64 (U 4 : Int), .int .u64 (U 5 : Int), .int .u64 (U 6 : Int), .int .u64 (U 7 : Int), .int .u64 (U 8 : Int), .int .u64 (U 9 : Int)] 64)).heap.size := by simp
    have k0 : (W1.alloc (.cells #[.int .u64 (all : Int), .int .u64 (U 0 : Int), .int .u64 (U 1 : Int), .int .u64 (U 2 : Int), .int .u64 (U 3 : Int), .int .u64 (U 4 : Int), .int .u64 (U 5 : Int), .int .u64 (U 6 : Int), .int .u64 (U 7 : Int), .int .u64 (U 8 : Int), .int .u64 (U 9 : Int)] 64)).cell? ⟨W1.heap.size, 0, none⟩ = some (.int .u64 (all : Int)) := cell_of hA (i := 0) rfl
    have k1 : (W1.alloc (.cells #[.int .u64 (all : Int), .int .u64 (U 0 : Int), .int .u64 (U 1 : Int), .int .u64 (U 2 : Int), .int .u64 (U 3 : Int), .int .u64 (U 4 : Int), .int .u64 (U 5 : Int), .int .u64 (U 6 : Int), .int .u64 (U 7 : Int), .int .u64 (U 8 : Int), .int .u64 (U 9 : Int)] 64)).cell? ⟨W1.heap.size, 1, none⟩ = some (.int .u64 (U 0 : Int)) := cell_of hA (i := 1) rfl
    have k2 : (W1.alloc (.cells #[.int .u64 (all : Int), .int .u64 (U 0 : Int), .int .u64 (U 1 : Int), .int .u64 (U 2 : Int), .int .u64 (U 3 : Int), .int .u64 (U 4 : Int), .int .u64 (U 5 : Int), .int .u64 (U 6 : Int), .int .u64 (U 7 : Int), .int .u64 (U 8 : Int), .int .u64 (U 9 : Int)] 64)).cell? ⟨W1.heap.size, 2, none⟩ = some (.int .u64 (U 1 : Int)) := cell_of hA (i := 2) rfl
    have k3 : (W1.alloc (.cells #[.int .u64 (all : Int), .int .u64 (U 0 : Int), .int .u64 (U 1 : Int), .int .u64 (U 2 : Int), .int .u64 (U 3 : Int), .int .u64 (U 4 : Int), .int .u64 (U 5 : Int), .int .u64 (U 6 : Int), .int .u64 (U 7 : Int), .int .u64 (U 8 : Int), .int .u64 (U 9 : Int)] 64)).cell? ⟨W1.heap.size, 3, none⟩ = some (.int .u64 (U 2 : Int)) := cell_of hA (i := 3) rfl
    have k4 : (W1.alloc (.cells #[.int .u64 (all : Int), .int .u64 (U 0 : Int), .int .u64 (U 1 : Int), .int .u64 (U 2 : Int), .int .u64 (U 3 : Int), .int .u64 (U 4 : Int), .int .u64 (U 5 : Int), .int .u64 (U 6 : Int), .int .u64 (U 7 : Int), .int .u64 (U 8 : Int), .int .u64 (U 9 : Int)] 64)).cell? ⟨W1.heap.size, 4, none⟩ = some (.int .u64 (U 3 : Int)) := cell_of hA (i := 4) rfl
    have k5 : (W1.alloc (.cells #[.int .u64 (all : Int), .int .u64 (U 0 : Int), .int .u64 (U 1 : Int), .int .u64 (U 2 : Int), .int .u64 (U 3 : Int), .int .u64 (U 4 : Int), .int .u64 (U 5 : Int), .int .u64 (U 6 : Int), .int .u64 (U 7 : Int), .int .u64 (U 8 : Int), .int .u64 (U 9 : Int)] 64)).cell? ⟨W1.heap.size, 5, none⟩ = some (.int .u64 (U 4 : Int)) := cell_of hA (i := 5) rfl
    have k6 : (W1.alloc (.cells #[.int .u64 (all : Int), .int .u64 (U 0 : Int), .int .u64 (U 1 : Int), .int .u64 (U 2 : Int), .int .u64 (U 3 : Int), .int .u64 (U 4 : Int), .int .u64 (U 5 : Int), .int .u64 (U 6 : Int), .int .u64 (U 7 : Int), .int .u64 (U 8 : Int), .int .u64 (U 9 : Int)] 64)).cell? ⟨W1.heap.size, 6, none⟩ = some (.int .u64 (U 5 : Int)) := cell_of hA (i := 6) rfl
    have k7 : (W1.alloc (.cells #[.int .u64 (all : Int), .int .u64 (U 0 : Int), .int .u64 (U 1 : Int), .int .u64 (U 2 : Int), .int .u64 (U 3 : Int), .int .u64 (U 4 : Int), .int .u64 (U 5 : Int), .int .u64 (U 6 : Int), .int .u64 (U 7 : Int), .int .u64 (U 8 : Int), .int .u64 (U 9 : Int)] 64)).cell? ⟨W1.heap.size, 7, none⟩ = some (.int .u64 (U 6 : Int)) := cell_of hA (i := 7) rfl
    have k8 : (W1.alloc (.cells #[.int .u64 (all : Int), .int .u64 (U 0 : Int), .int .u64 (U 1 : Int), .int .u64 (U 2 : Int), .int .u64 (U 3 : Int), .int .u64 (U 4 : Int), .int .u64 (U 5 : Int), .int .u64 (U 6 : Int), .int .u64 (U 7 : Int), .int .u64 (U 8 : Int), .int .u64 (U 9 : Int)] 64)).cell? ⟨W1.heap.size, 8, none⟩ = some (.int .u64 (U 7 : Int)) := cell_of hA (i := 8) rfl
    have k9 : (W1.alloc (.cells #[.int .u64 (all : Int), .int .u64 (U 0 : Int), .int .u64 (U 1 : Int), .int .u64 (U 2 : Int), .int .u64 (U 3 : Int), .int .u64 (U 4 : Int), .int .u64 (U 5 : Int), .int .u64 (U 6 : Int), .int .u64 (U 7 : Int), .int .u64 (U 8 : Int), .int .u64 (U 9 : Int)] 64)).cell? ⟨W1.heap.size, 9, none⟩ = some (.int .u64 (U 8 : Int)) := cell_of hA (i := 9) rfl
    have k10 : (W1.alloc (.cells #[.int .u64 (all : Int), .int .u64 (U 0 : Int), .int .u64 (U 1 : Int), .int .u64 (U 2 : Int), .int .u64 (U 3 : Int), .int .u64 (U 4 : Int), .int .u64 (U 5 : Int), .int .u64 (U 6 : Int), .int .u64 (U 7 : Int), .int .u64 (U 8 : Int), .int .u64 (U 9 : Int)] 64)).cell? ⟨W1.heap.size, 10, none⟩ = some (.int .u64 (U 9 : Int)) := cell_of hA (i := 10) rfl
    clear hA
    go_upto_region 2 with fail
    generalize W1.alloc (.cells #[.int .u64 (all : Int), .int .u64 (U 0 : Int), .int .u64 (U 1 : Int), .int .u64 (U 2 : Int), .int .u64 (U 3 : Int), .int .u64 (U 4 : Int), .int .u64 (U 5 : Int), .int .u64 (U 6 : Int), .int .u64 (U 7 : Int), .int .u64 (U 8 : Int), .int .u64 (U 9 : Int)] 64) = W2 at *
    cases hqa : isSq l m A with
    | false =>
      have HE := Lib.hid (sd_no (l := l) (m := m) (A := A) (B := B) (fun h => by rw [hqa] at h; cases h.2.2.1))
      rw [hqa] at HSA
      clear hqa
      go_wp2_with (first | (go_at_call_of 42 pa; refine (HSA.out W2 (Below.refl _ _)).mono ?_; rintro e w3 ⟨rfl, b3⟩; have HB3 := Lib.hid b3; have k0' := (b3.cell (p := ⟨W1.heap.size, 0, none⟩) hW2).trans k0;have k1' := (b3.cell (p := ⟨W1.heap.size, 1, none⟩) hW2).trans k1; have k2' := (b3.cell (p := ⟨W1.heap.size, 2, none⟩) hW2).trans k2; have k3' := (b3.cell (p := ⟨W1.heap.size, 3, none⟩) hW2).trans k3; have k4' := (b3.cell (p := ⟨W1.heap.size, 4, none⟩) hW2).trans k4; have k5' := (b3.cell (p := ⟨W1.heap.size, 5, none⟩) hW2).trans k5; have k6' := (b3.cell (p := ⟨W1.heap.size, 6, none⟩) hW2).trans k6; have k7' := (b3.cell (p := ⟨W1.heap.size, 7, none⟩) hW2).trans k7; have k8' := (b3.cell (p := ⟨W1.heap.size, 8, none⟩) hW2).trans k8; have k9' := (b3.cell (p := ⟨W1.heap.size, 9, none⟩) hW2).trans k9; have k10' := (b3.cell (p := ⟨W1.heap.size, 10, none⟩) hW2).trans k10; have s1' := (b3.cell (p := ⟨b, 0, none⟩) (by show b < _; omega)).trans s1; have s2' := (b3.cell (p := ⟨b, 1, none⟩) (by show b < _; omega)).trans s2) | (go_at_call_of 42 pb; refine (HSB.out w3 HB3.out).mono ?_; rintro e w4 ⟨rfl, b4⟩; have HB4 := Lib.hid (HB3.out.trans (b4.mono HB3.out.size))))
      go_ret2
      unfold Ans
      rw [HE.out]
      exact ⟨rfl, HBO.out.trans (HB3.out.mono HBO.out.size)⟩
    | true =>
      rw [hqa] at HSA
      cases hqb : isSq l m B with
      | false =>
        have HE := Lib.hid (sd_no (l := l) (m := m) (A := A) (B := B) (fun h => by rw [hqb] at h; cases h.2.2.2))
        rw [hqb] at HSB
        clear hqa hqb
        go_wp2_with (first | (go_at_call_of 42 pa; refine (HSA.out W2 (Below.refl _ _)).mono ?_; rintro e w3 ⟨rfl, b3⟩; have HB3 := Lib.hid b3; have k0' := (b3.cell (p := ⟨W1.heap.size, 0, none⟩) hW2).trans k0;have k1' := (b3.cell (p := ⟨W1.heap.size, 1, none⟩) hW2).trans k1; have k2' := (b3.cell (p := ⟨W1.heap.size, 2, none⟩) hW2).trans k2; have k3' := (b3.cell (p := ⟨W1.heap.size, 3, none⟩) hW2).trans k3; have k4' := (b3.cell (p := ⟨W1.heap.size, 4, none⟩) hW2).trans k4; have k5' := (b3.cell (p := ⟨W1.heap.size, 5, none⟩) hW2).trans k5; have k6' := (b3.cell (p := ⟨W1.heap.size, 6, none⟩) hW2).trans k6; have k7' := (b3.cell (p := ⟨W1.heap.size, 7, none⟩) hW2).trans k7; have k8' := (b3.cell (p := ⟨W1.heap.size, 8, none⟩) hW2).trans k8; have k9' := (b3.cell (p := ⟨W1.heap.size, 9, none⟩) hW2).trans k9; have k10' := (b3.cell (p := ⟨W1.heap.size, 10, none⟩) hW2).trans k10; have s1' := (b3.cell (p := ⟨b, 0, none⟩) (by show b < _; omega)).trans s1; have s2' := (b3.cell (p := ⟨b, 1, none⟩) (by show b < _; omega)).trans s2) | (go_at_call_of 42 pb; refine (HSB.out w3 HB3.out).mono ?_; rintro e w4 ⟨rfl, b4⟩; have HB4 := Lib.hid (HB3.out.trans (b4.mono HB3.out.size))))
        go_ret2
        unfold Ans
        rw [HE.out]
        exact ⟨rfl, HBO.out.trans (HB4.out.mono HBO.out.size)⟩
      | true =>
        have HE := Lib.hid (sd_yes (l := l) (m := m) (A := A) (B := B) ⟨HG.out.1, HG.out.2, hqa, hqb⟩)
        have hna : na ≤ 10 := by
          have := (isSq_yes hqa).2
          rw [HL3.out] at this
          omega
        rw [hqb] at HSB
        clear hqa hqb
        go_wp2_with (first | (go_at_call_of 42 pa; refine (HSA.out W2 (Below.refl _ _)).mono ?_; rintro e w3 ⟨rfl, b3⟩; have HB3 := Lib.hid b3; have k0' := (b3.cell (p := ⟨W1.heap.size, 0, none⟩) hW2).trans k0;have k1' := (b3.cell (p := ⟨W1.heap.size, 1, none⟩) hW2).trans k1; have k2' := (b3.cell (p := ⟨W1.heap.size, 2, none⟩) hW2).trans k2; have k3' := (b3.cell (p := ⟨W1.heap.size, 3, none⟩) hW2).trans k3; have k4' := (b3.cell (p := ⟨W1.heap.size, 4, none⟩) hW2).trans k4; have k5' := (b3.cell (p := ⟨W1.heap.size, 5, none⟩) hW2).trans k5; have k6' := (b3.cell (p := ⟨W1.heap.size, 6, none⟩) hW2).trans k6; have k7' := (b3.cell (p := ⟨W1.heap.size, 7, none⟩) hW2).trans k7; have k8' := (b3.cell (p := ⟨W1.heap.size, 8, none⟩) hW2).trans k8; have k9' := (b3.cell (p := ⟨W1.heap.size, 9, none⟩) hW2).trans k9; have k10' := (b3.cell (p := ⟨W1.heap.size, 10, none⟩) hW2).trans k10; have s1' := (b3.cell (p := ⟨b, 0, none⟩) (by show b < _; omega)).trans s1; have s2' := (b3.cell (p := ⟨b, 1, none⟩) (by show b < _; omega)).trans s2) | (go_at_call_of 42 pb; refine (HSB.out w3 HB3.out).mono ?_; rintro e w4 ⟨rfl, b4⟩; have HB4 := Lib.hid (HB3.out.trans (b4.mono HB3.out.size))))
        have P3 := Lib.hid (N3.out.below HB4.out)
        have P4 := Lib.hid (N4.out.below HB4.out)
        clear k0 k1 k2 k3 k4 k5 k6 k7 k8 k9 k10 k0' k1' k2' k3' k4' k5' k6' k7' k8' k9' k10' s1 s2 s1' s2' b3 b4 HSA HSB
        go_loopw [10, 38] (fun s10 s38 wr => ∃ i : Nat, i ≤ na ∧ s38 = .int .i64 i ∧ s10 = .int .i64 (iv A B i : Nat) ∧ wr = w4) (fun _ s38 _ => na - (intOf s38).toNat)
        case atStart => exact ⟨0, Nat.zero_le _, rfl, rfl, rfl⟩
        case round =>
          obtain ⟨i, hi, rfl, rfl, hwr⟩ := hrel
          subst hwr
          by_cases hlt : i < na
          · obtain ⟨bp, off, x, rfl, hx, e1⟩ := P3.out.at i hlt
            have hin : (i : Int) < (na : Int) := by omega
            have hi00 : (0 : Int) ≤ (i : Int) := by omega
            have HX := Lib.hid hx
            have HIB : Hid (iv A B i ≤ 100) := by
              have := iv_le A B i
              rw [HL3.out] at this
              exact Nat.le_trans this (Nat.le_trans (Nat.mul_le_mul (Nat.le_trans hi hna) hna) (by decide))
            have hs1 : (i : Int) + 1 ≤ (na : Int) := by omega
            have hs0 : (0 : Int) ≤ (i : Int) + 1 := by omega
            have hs2 : i + 1 ≤ na := hlt
            generalize hv : iv A B i = v at *
            have HV := Lib.hid hv
            clear hx hv
            have HN := Lib.hid (iv_next (B := B) HX.out)
            by_cases hend : i + 1 = na
            · have hd : A.drop (i + 1) = [] := List.drop_eq_nil_of_le (by rw [HL3.out]; omega)
              have HD : Hid (iv A B (i + 1) = v) := by
                have := HN.out
                rw [hd, HV.out] at this
                exact this
              subst hend
              clear hd
              go_wp2_with fail
              go_loopw [10, 48] (fun s10 s48 wq => s48 = .int .i64 0 ∧ s10 = .int .i64 (v : Nat) ∧ wq = wr) (fun _ _ _ => 0)
              case atStart => exact ⟨rfl, rfl, rfl⟩
              case round =>
                obtain ⟨rfl, rfl, hwq⟩ := hrel
                subst hwq
                go_wp2_with fail
                exact ⟨⟨i + 1, by omega, by go_num, by rw [HD.out], trivial⟩, by simp [intOf]⟩
            · have hs3 : (i : Int) + 1 < (na : Int) := by omega
              have hs4 : i + 1 < na := by omega
              obtain ⟨k, hk⟩ : ∃ k, na - (i + 1) = k := ⟨_, rfl⟩
              have HK := Lib.hid hk
              have HLD : Hid ((A.drop (i + 1)).length = k) := by unfold Hid; rw [List.length_drop, HL3.out]; exact hk
              go_wp2_with fail
              go_loopw [10, 48] (fun s10 s48 wq => ∃ j : Nat, j ≤ k ∧ s48 = .int .i64 j ∧ s10 = .int .i64 ((v + cn B x ((A.drop (i + 1)).take j) : Nat) : Int) ∧ wq = wr) (fun _ s48 _ => k - (intOf s48).toNat)
              case atStart => exact ⟨0, Nat.zero_le _, rfl, by simp [cn], rfl⟩
              case round =>
                obtain ⟨j, hj, rfl, rfl, hwq⟩ := hrel
                subst hwq
                by_cases hjk : j < k
                · have hjn : (j : Int) < (k : Int) := by omega
                  have hj00 : (0 : Int) ≤ (j : Int) := by omega
                  obtain ⟨bq, oq, y, he, hy, e2⟩ := P3.out.at (i + 1 + j) (by have := HK.out; omega)
                  injection he with he
                  injection he with he1 he2
                  subst he1 he2
                  rw [← Nat.add_assoc] at e2
                  have hyd : (A.drop (i + 1))[j]? = some y := by rw [List.getElem?_drop]; exact hy
                  have htk : (A.drop (i + 1)).take (j + 1) = (A.drop (i + 1)).take j ++ [y] := by rw [List.take_add_one, hyd]; rfl
                  have hcs := cn_snoc B x y ((A.drop (i + 1)).take j)
                  rw [← htk] at hcs
                  have hcb := cn_le B x ((A.drop (i + 1)).take j)
                  rw [List.length_take] at hcb
                  have HCS := Lib.hid hcs
                  have hvb := HIB.out
                  generalize cn B x ((A.drop (i + 1)).take j) = cc at *
                  have hcc : v + cc ≤ 200 := by omega
                  have HX1 := Lib.hid (index_any pb nb nb B x hz4 wr P4.out)
                  have HY1 := Lib.hid (index_any pb nb nb B y hz4 wr P4.out)
                  have hbx := ix_bd B x
                  have hby := ix_bd B y
                  clear hy hyd htk hcs hcb
                  generalize hix : ix B x = ax at *
                  generalize hiy : ix B y = ay at *
                  have HIX := Lib.hid (And.intro hix hiy)
                  clear hix hiy hbx hby
                  by_cases hlt2 : ay < ax
                  · have HC2 : Hid (cn B x ((A.drop (i + 1)).take (j + 1)) = cc + 1) := by
                      have := HCS.out
                      rw [if_pos hlt2] at this
                      exact this
                    go_wp2_with (first | (go_at_call_of 46 x; refine HX1.out.mono ?_; rintro e w' ⟨rfl, hw'⟩; have hw2 := hw'.symm; subst hw2; clear hw') | (go_at_call_of 46 y; refine HY1.out.mono ?_; rintro e w' ⟨rfl, hw'⟩; have hw2 := hw'.symm; subst hw2; clear hw'))
                    exact ⟨⟨j + 1, by omega, by go_num, by rw [HC2.out]; first | done | rfl | go_num, trivial⟩, by simp [intOf]; omega⟩
                  · have HC2 : Hid (cn B x ((A.drop (i + 1)).take (j + 1)) = cc) := by
                      have := HCS.out
                      rw [if_neg hlt2] at this
                      exact this
                    go_wp2_with (first | (go_at_call_of 46 x; refine HX1.out.mono ?_; rintro e w' ⟨rfl, hw'⟩; have hw2 := hw'.symm; subst hw2; clear hw') | (go_at_call_of 46 y; refine HY1.out.mono ?_; rintro e w' ⟨rfl, hw'⟩; have hw2 := hw'.symm; subst hw2; clear hw'))
                    exact ⟨⟨j + 1, by omega, by go_num, by rw [HC2.out]; first | done | rfl | go_num, trivial⟩, by simp [intOf]; omega⟩
                · obtain rfl : j = k := by omega
                  have hjn : ¬ (j : Int) < (j : Int) := by omega
                  rw [List.take_of_length_le (by rw [HLD.out]; exact Nat.le_refl _)]
                  have HD : Hid (iv A B (i + 1) = v + cn B x (A.drop (i + 1))) := by
                    have := HN.out
                    rw [HV.out] at this
                    exact this
                  generalize v + cn B x (A.drop (i + 1)) = vv at *
                  go_wp2_with fail
                  exact ⟨⟨i + 1, by omega, by go_num, by rw [HD.out], trivial⟩, by simp [intOf]; omega⟩
          · obtain rfl : i = na := by omega
            have hin : ¬ (i : Int) < (i : Int) := by omega
            rw [HL3.out] at HE
            go_wp2_with fail
            go_ret2
            unfold Ans
            rw [HE.out]
            exact ⟨rfl, HBO.out.trans (HB4.out.mono HBO.out.size)⟩
  · have hgc : (good l m && !cyc l m) = false := by
      cases h1 : good l m with
      | false => rfl
      | true =>
        cases h2 : cyc l m with
        | true => rfl
        | false => exact absurd ⟨h1, h2⟩ hg
    rw [if_neg hg, hgc]
    have HE := Lib.hid (sd_no (l := l) (m := m) (A := A) (B := B) (fun h => hg ⟨h.1, h.2.1⟩))
    have hbo := below_alloc W1 (.cells #[.int .u64 0, .int .u64 0, .int .u64 0, .int .u64 0, .int .u64 0, .int .u64 0, .int .u64 0, .int .u64 0, .int .u64 0, .int .u64 0, .int .u64 0] 64)
    have HBO := Lib.hid (HB1.out.trans (hbo.mono HB1.out.size))
    clear hg hgc hbo
    unfold arr
    go_wp2_with fail
    go_ret2
    unfold Ans
    rw [HE.out]
    exact ⟨rfl, HBO.out⟩
end Go.Proofs.YtjllbbkpmmnkgaaDoor.DisP
