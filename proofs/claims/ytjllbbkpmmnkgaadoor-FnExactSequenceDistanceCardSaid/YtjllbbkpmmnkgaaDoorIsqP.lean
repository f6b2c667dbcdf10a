/- The program's IsSequence. -/
import Derived.Test.YtjllbbkpmmnkgaaDoorIsqI
import Derived.Test.YtjllbbkpmmnkgaaDoorIsqS
namespace Go.Proofs.YtjllbbkpmmnkgaaDoor.IsqP
open Go.RowKit Pairs Rec Chain Find2 GoodM Keep GivesI Lows Order Table RedS BlM Nxt Tz SqM Org IsqM IsqS
set_option linter.unusedVariables false
set_option maxRecDepth 100000 in
set_option maxHeartbeats 4000000 in
theorem impl_any (a1 a2 p : Option Addr) (n1 c1 n2 c2 np cp : Nat) (l m : List (Int × Int)) (L : List Int) (w : World) (hz1 : n1 ≤ 1048576) (hz2 : n2 ≤ 1048576) (hz3 : np ≤ 1048576) (h1 : Holds w a1 n1 l) (h2 : Holds w a2 n2 m) (h3 : HoldsI w p np L) (hT : Tab w) :
    Calls Tryd.prog 15 #[.agg #[.slice a1 n1 c1, .slice a2 n2 c2], .slice p np cp] w fun e w' => e = .returned (.tuple #[.bool (isP l m L).1, .bool (isP l m L).2]) ∧ Below w.heap.size w w' := by
  obtain ⟨b, hb0⟩ : ∃ b, w.heap.size = b := ⟨_, rfl⟩
  have hb := below_alloc w (.cells #[.slice a1 n1 c1, .slice a2 n2 c2] 33)
  have hf := box_first w (.slice a1 n1 c1) (.slice a2 n2 c2) 33
  have hf2 := box_second w (.slice a1 n1 c1) (.slice a2 n2 c2) 33
  rw [hb0] at hf hf2
  have hsz : (w.alloc (.cells #[.slice a1 n1 c1, .slice a2 n2 c2] 33)).heap.size = b + 1 := by simp [hb0]
  have H1 := Lib.hid (h1.below hb)
  have H2 := Lib.hid (h2.below hb)
  have H3 := Lib.hid (h3.below hb)
  have HT := Lib.hid (hT.below hb)
  have HB := Lib.hid hb
  clear h1 h2 h3 hb hT
  go_enter Tryd.func15, Tryd.ntmps15
  go_wp2_with fail
  generalize w.alloc (.cells #[.slice a1 n1 c1, .slice a2 n2 c2] 33) = W0 at *
  refine (ordering_any a1 a2 n1 c1 n2 c2 l m W0 hz1 hz2 H1.out H2.out).mono ?_
  rintro e W1 ⟨rfl, b1⟩
  have r1 := (b1.cell (p := ⟨b, 0, none⟩) (by show b < _; omega)).trans hf
  have r2 := (b1.cell (p := ⟨b, 1, none⟩) (by show b < _; omega)).trans hf2
  have HB1 := Lib.hid (HB.out.trans (b1.mono HB.out.size))
  have M1 := Lib.hid (H1.out.below b1)
  have M3 := Lib.hid (H3.out.below b1)
  have HT1 := Lib.hid (HT.out.below b1)
  have hsz1 := b1.size
  clear hf hf2 b1
  by_cases hg : good l m = true ∧ cyc l m = false
  · have hgc : (good l m && !cyc l m) = true := by rw [hg.1, hg.2]; rfl
    rw [if_pos hg, hgc]
    have HG := Lib.hid hg
    have HE := Lib.hid (is_yes (L := L) hg.1 hg.2)
    have hbo := below_alloc W1 (.cells (arr (2 ^ l.length - 1) (ups l m)) 64)
    have HS := Lib.hid (IsqI.isSeq_any a1 a2 p n1 c1 n2 c2 np cp l m L _ hz1 hz3 (M1.out.below hbo) (M3.out.below hbo) hg.1 (HT1.out.below hbo))
    have HBO := Lib.hid (HB1.out.trans (hbo.mono HB1.out.size))
    have s1 := (hbo.cell (p := ⟨b, 0, none⟩) (by show b < _; omega)).trans r1
    have s2 := (hbo.cell (p := ⟨b, 1, none⟩) (by show b < _; omega)).trans r2
    clear hg hgc hbo
    generalize isSq l m L = qq at *
    generalize 2 ^ l.length - 1 = all at *
    generalize ups l m = U at *
    unfold arr at *
    have hA := World.alloc_heap_new W1 (.cells #[.int .u64 (all : Int), .int .u64 (U 0 : Int), .int .u64 (U 1 : Int), .int .u64 (U 2 : Int), .int .u64 (U 3 : Int), .int .u64 (U 4 : Int), .int .u64 (U 5 : Int), .int .u64 (U 6 : Int), .int .u64 (U 7 : Int), .int .u64 (U 8 : Int), .int .u64 (U 9 : Int)] 64)
    have k0 : (W1.alloc (.cells #[.int .u64 (all : Int), .int .u64 (U 0 : Int), .int .u64 (U 1 : Int), .int .u64 (U 2 : Int), .int .u64 (U 3 : Int), .int .u64 (U 4 : Int), .int .u64 (U 5 : Int), .int .u64 (U 6 : Int), .int .u64 (U 7 : Int), .int .u64 (U 8 : Int), .int .u64 (U 9 : Int)] 64)).cell? ⟨W1.heap.size, 0, none⟩ = some (.int .u64 (all : Int)) := cell_of hA (i := 0) rfl
    have k1 : (W1.alloc (.cells #[.int .u64 (all : Int), .int .u64 (U 0 : Int), .int .u64 (U 1 : Int), .int .u64 (U 2 : Int), .int .u64 (U 3 : Int), .int .u64 (U 4 : Int), .int .u64 (U 5 : Int), .int .u64 (U 6 : Int), .int .u64 (U 7 : Int), .int .u64 (U 8 : Int), .int .u64 (U 9 : Int)] 64)).cell? ⟨W1.heap.size, 1, none⟩ = some (.int .u64 (U 0 : Int)) := cell_of hA (i := 1) rfl
    have k2 : (W1.alloc (.cells #[.int .u64 (all : Int), .int .u64 (U 0 : Int), .int .u64 (U 1 : Int), .int .u64 (U 2 : Int), .int .u64 (U 3 : Int), .int .u64 (U 4 : Int), .int .u64 (U 5 : Int), .int .u64 (U 6 : Int), .int .u64 (U 7 : Int), .int .u64 (U 8 : Int), .int .u64 (U 9 : Int)] 64)).cell? ⟨W1.heap.size, 2, none⟩ = some (.int .u64 (U 1 : Int)) := cell_of hA (i := 2) rfl
    have k3 : (W1.alloc (.cells #[.int .u64 (all : Int), .int .u64 (U 0 : Int), .int .u64 (U 1 : Int), .int .u64 (U 2 : Int), .int .u64 (U 3 : Int), .int .u64 (U 4 : Int), .int .u64 (U 5 : Int), .int .u64 (U 6 : Int), .int .u64 (U 7 : Int), .int .u64 (U 8 : Int), .int .u64 (U 9 : Int)] 64)).cell? ⟨W1.heap.size, 3, none⟩ = some (.int .u64 (U 2 : Int)) := cell_of hA (i := 3) rfl
    have k4 : (W1.alloc (.cells #[.int .u64 (all : Int), .int .u64 (U 0 : Int), .int .u64 (U 1 : Int), .int .u64 (U 2 : Int), .int .u64 (U 3 : Int), .int .u64 (U 4 : Int), .int .u64 (U 5 : Int), .int .u64 (U 6 : Int), .int .u64 (U 7 : Int), .int .u64 (U 8 : Int), .int .u64 (U 9 : Int)] 64)).cell? ⟨W1.heap.size, 4, none⟩ = some (.int .u64 (U 3 : Int)) := cell_of hA (i := 4) rfl
    have k5 : (W1.alloc (.cells #[.int .u64 (all : Int), .int .u64 (U 0 : Int), .int .u64 (U 1 : Int), .int .u64 (U 2 : Int), .int .u64 (U 3 : Int), .int .u64 (U 4 : Int), .int .u64 (U 5 : Int), .int .u64 (U 6 : Int), .int .u64 (U 7 : Int), .int .u64 (U 8 : Int), .int .u64 (U 9 : Int)] 64)).cell? ⟨W1.heap.size, 5, none⟩ = some (.int .u64 (U 4 : Int)) := cell_of hA (i := 5) rfl
    have k6 : (W1.alloc (.cells #[.int .u64 (all : Int), .int .u64 (U 0 : Int), .int .u64 (U 1 : Int), .int .u64 (U 2 : Int), .int .u64 (U 3 : Int), .int .u64 (U 4 : Int), .int .u64 (U 5 : Int), .int .u64 (U 6 : Int), .int .u64 (U 7 : Int), .int .u64 (U 8 : Int), .int .u64 (U 9 : Int)] 64)).cell? ⟨W1.heap.size, 6, none⟩ = some (.int .u64 (U 5 : Int)) := cell_of hA (i := 6) rfl
    have k7 : (W1.alloc (.cells #[.int .u64 (all : Int), .int .u64 (U 0 : Int), .int .u64 (U 1 : Int), .int .u64 (U 2 : Int), .int .u64 (U 3 : Int), .int .u64 (U 4 : Int), .int .u64 (U 5 : Int), .int .u64 (U 6 : Int), .int .u64 (U 7 : Int), .int .u64 (U 8 : Int), .int .u64 (U 9 : Int)] 64)).cell? ⟨W1.heap.size, 7, none⟩ = some (.int .u64 (U 6 : Int)) := cell_of hA (i := 7) rfl
    have k8 : (W1.alloc (.cells #[.int .u64 (all : Int), .int .u64 (U 0 : Int), .int .u64 (U 1 : Int), .int .u64 (U 2 : Int), .int .u64 (U 3 : Int), .int .u64 (U 4 : Int), .int .u64 (U 5 : Int), .int .u64 (U 6 : Int), .int .u64 (U 7 : Int), .int .u64 (U 8 : Int), .int .u64 (U 9 : Int)] 64)).cell? ⟨W1.heap.size, 8, none⟩ = some (.int .u64 (U 7 : Int)) := cell_of hA (i := 8) rfl
    have k9 : (W1.alloc (.cells #[.int .u64 (all : Int), .int .u64 (U 0 : Int), .int .u64 (U 1 : Int), .int .u64 (U 2 : Int), .int .u64 (U 3 : Int), .int .u64 (U 4 : Int), .int .u64 (U 5 : Int), .int .u64 (U 6 : Int), .int .u64 (U 7 : Int), .int .u64 (U 8 : Int), .int .u64 (U 9 : Int)] 64)).cell? ⟨W1.heap.size, 9, none⟩ = some (.int .u64 (U 8 : Int)) := cell_of hA (i := 9) rfl
    have k10 : (W1.alloc (.cells #[.int .u64 (all : Int), .int .u64 (U 0 : Int), .int .u64 (U 1 : Int), .int .u64 (U 2 : Int), .int .u64 (U 3 : Int), .int .u64 (U 4 : Int), .int .u64 (U 5 : Int), .int .u64 (U 6 : Int), .int .u64 (U 7 : Int), .int .u64 (U 8 : Int), .int .u64 (U 9 : Int)] 64)).cell? ⟨W1.heap.size, 10, none⟩ = some (.int .u64 (U 9 : Int)) := cell_of hA (i := 10) rfl
    clear hA
    go_upto_region 2 with fail
    generalize W1.alloc (.cells #[.int .u64 (all : Int), .int .u64 (U 0 : Int), .int .u64 (U 1 : Int), .int .u64 (U 2 : Int), .int .u64 (U 3 : Int), .int .u64 (U 4 : Int), .int .u64 (U 5 : Int), .int .u64 (U 6 : Int), .int .u64 (U 7 : Int), .int .u64 (U 8 : Int), .int .u64 (U 9 : Int)] 64) = W2 at *
    go_wp2_with (go_at_call 42; refine HS.out.mono ?_; rintro e w3 ⟨rfl, b3⟩; have HB3 := Lib.hid (HBO.out.trans (b3.mono HBO.out.size)))
    go_ret2
    rw [HE.out]
    exact ⟨rfl, by first | exact HB3.out | (rw [← hb0]; exact HB3.out)⟩
  · have hgc : (good l m && !cyc l m) = false := by
      cases h1 : good l m with
      | false => rfl
      | true =>
        cases h2 : cyc l m with
        | true => rfl
        | false => exact absurd ⟨h1, h2⟩ hg
    rw [if_neg hg, hgc]
    have HE := Lib.hid (is_no (L := L) hgc)
    have hbo := below_alloc W1 (.cells #[.int .u64 0, .int .u64 0, .int .u64 0, .int .u64 0, .int .u64 0, .int .u64 0, .int .u64 0, .int .u64 0, .int .u64 0, .int .u64 0, .int .u64 0] 64)
    have HBO := Lib.hid (HB1.out.trans (hbo.mono HB1.out.size))
    clear hg hgc hbo
    unfold arr
    go_wp2_with fail
    go_ret2
    rw [HE.out]
    exact ⟨rfl, by first | exact HBO.out | (rw [← hb0]; exact HBO.out)⟩
end Go.Proofs.YtjllbbkpmmnkgaaDoor.IsqP
