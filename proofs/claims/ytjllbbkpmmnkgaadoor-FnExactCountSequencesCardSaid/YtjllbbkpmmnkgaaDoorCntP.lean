/- The program's CountSequences. -/
import Derived.Test.YtjllbbkpmmnkgaaDoorCntM
namespace Go.Proofs.YtjllbbkpmmnkgaaDoor.CntP
open Go.RowKit Pairs Rec Chain Find2 GoodM Keep GivesI Lows Order Table RedS BlM Nxt Tz SqM Org IsqM EnM EnI CntM
set_option linter.unusedVariables false
theorem idx71 {C : Array Value} {z : Int} (h : C[0]? = some (.int .i64 z)) : ∀ w, (Instr.index 71 (.agg C) (.int .i64 0)).run Tryd.prog w = .ok (.int .i64 z) w := by
  intro w
  have hs : 0 < C.size := by
    rcases Nat.eq_zero_or_pos C.size with e | e
    · rw [Array.getElem?_eq_none (by omega)] at h; exact absurd h (by simp)
    · exact e
  have hg : C[0]'hs = .int .i64 z := by
    rw [Array.getElem?_eq_getElem hs] at h
    exact Option.some.inj h
  simp [Instr.index, run_underlying Tryd.underlying71, asIntOf, go_sem, hs, hg]
set_option maxRecDepth 100000 in
set_option maxHeartbeats 4000000 in
theorem impl_any (a1 a2 : Option Addr) (n1 c1 n2 c2 : Nat) (l m : List (Int × Int)) (w : World) (hz1 : n1 ≤ 1048576) (hz2 : n2 ≤ 1048576) (h1 : Holds w a1 n1 l) (h2 : Holds w a2 n2 m) (hT : Tab w) :
    Calls Tryd.prog 21 #[.agg #[.slice a1 n1 c1, .slice a2 n2 c2]] w (Ans l m w) := by
  obtain ⟨b, hb0⟩ : ∃ b, w.heap.size = b := ⟨_, rfl⟩
  have hb := below_alloc w (.cells #[.slice a1 n1 c1, .slice a2 n2 c2] 33)
  have hf := box_first w (.slice a1 n1 c1) (.slice a2 n2 c2) 33
  have hf2 := box_second w (.slice a1 n1 c1) (.slice a2 n2 c2) 33
  rw [hb0] at hf hf2
  have hsz : (w.alloc (.cells #[.slice a1 n1 c1, .slice a2 n2 c2] 33)).heap.size = b + 1 := by simp [hb0]
  have H1 := Lib.hid (h1.below hb)
  have H2 := Lib.hid (h2.below hb)
  have HT := Lib.hid (hT.below hb)
  have HB := Lib.hid hb
  clear h1 h2 hb hT
  go_enter Tryd.func21, Tryd.ntmps21
  go_wp2_with fail
  generalize w.alloc (.cells #[.slice a1 n1 c1, .slice a2 n2 c2] 33) = W0 at *
  refine (ordering_any a1 a2 n1 c1 n2 c2 l m W0 hz1 hz2 H1.out H2.out).mono ?_
  rintro e W1 ⟨rfl, b1⟩
  have r1 := (b1.cell (p := ⟨b, 0, none⟩) (by show b < _; omega)).trans hf
  have r2 := (b1.cell (p := ⟨b, 1, none⟩) (by show b < _; omega)).trans hf2
  have HB1 := Lib.hid (HB.out.trans (b1.mono HB.out.size))
  have M1 := Lib.hid (H1.out.below b1)
  have HT1 := Lib.hid (HT.out.below b1)
  have hsz1 := b1.size
  clear hf hf2 b1
  by_cases hg : good l m = true ∧ cyc l m = false
  · have hgc : (good l m && !cyc l m) = true := by rw [hg.1, hg.2]; rfl
    rw [if_pos hg, hgc]
    have HG := Lib.hid hg
    have HE := Lib.hid (cnt_yes hg)
    have hbo := below_alloc W1 (.cells (arr (2 ^ l.length - 1) (ups l m)) 64)
    have hl10 : l.length ≤ 10 := (Table.good_few hg.1).1
    have HS := Lib.hid (endings_any l.length (2 ^ l.length - 1) (ups l m) hl10 rfl (all_lt hl10) (fun i _ => ups_lt l m hl10 i) _ (HT1.out.below hbo))
    have hv0 : cf (rd (ups l m) (2 ^ l.length - 1)) l.length 0 0 = v (rd (ups l m) (2 ^ l.length - 1)) l.length 0 := by
      unfold cf
      rw [if_pos ⟨Nat.le_refl _, Nat.zero_le _⟩]
    obtain ⟨ff, hff⟩ : ∃ ff, cf (rd (ups l m) (2 ^ l.length - 1)) l.length 0 = ff := ⟨_, rfl⟩
    rw [hff] at HS hv0
    generalize v (rd (ups l m) (2 ^ l.length - 1)) l.length 0 = vv at *
    have HBO := Lib.hid (HB1.out.trans (hbo.mono HB1.out.size))
    have s1 := (hbo.cell (p := ⟨b, 0, none⟩) (by show b < _; omega)).trans r1
    have s2 := (hbo.cell (p := ⟨b, 1, none⟩) (by show b < _; omega)).trans r2
    clear hg hgc hbo hff hl10
    generalize 2 ^ l.length - 1 = all at *
    generalize ups l m = U at *
    unfold arr at *
    have hA := World.alloc_heap_new W1 (.cells #[.int .u64 (all : Int), .int .u64 (U 0 : Int), .int .u64 (U 1 : Int), .int .u64 (U 2 : Int), .int .u64 (U 3 : Int), .int .u64 (U 4 : Int), .int .u64 (U 5 : Int), .int .u64 (U 6 : Int), .int .u64 (U 7 : Int), .int .u64 (U 8 : Int), .int .u64 (U 9 : Int)] 64)
    have k0 : (W1.alloc (.cells #[.int .u64 (all : Int), .int .u64 (U 0 : Int), .int .u64 (U 1 : Int), .int .u64 (U 2 : Int), .int .u64 (U 3 : Int), .int .u64 (U 4 : Int), .int .u64 (U 5 : Int), .int .u64 (U 6 : Int), .int .u64 (U 7 : Int), .int .u64 (U 8 : Int), .int .u64 (U 9 : Int)] 64)).cell? ⟨W1.heap.size, 0, none⟩ = some (.int .u64 (all : Int)) := cell_of hA (i := 0) rfl
    have k1 : (W1.alloc (.cells #[.int .u64 (all : Int), .int .u64 (U 0 : Int), .int .u64 (U 1 : Int), .int .u64 (U 2 : Int), .int .u64 (U 3 : Int), .int .u64 (U 4 : Int), .int .u64 (U 5 : Int), .int .u64 (U 6 : Int), .int .u64 (U 7 : Int), .int .u64 (U 8 : Int), .int .u64 (U 9 : Int)] 64)).cell? ⟨W1.heap.size, 1, none⟩ = some (.int .u64 (U 0 : Int)) := cell_of hA (i := 1) rfl
    have k2 : (W1.alloc (.cells #[.int .u64 (all : Int), .int .u64 (U 0 : Int), .int .u64 (U 1 : Int), .int .u64 (U 2 : Int), .int .u64 (U 3 : Int), .int .u64 (U 4 : Int), .int .u64 (U 5 : Int), .int .u64 (U 6 : Int), .int .u64 (U 7 : Int), .int .u64 (U 8 : Int), .int .u64 (U 9 : Int)] 64)).cell? ⟨W1.heap.size, 2, none⟩ = some (.int .u64 (U 1 : Int)) := cell_of hA (i := 2) rfl
    have k3 : (W1.alloc (.cells #[.int .u64 (all : Int), .int .u64 (U 0 : Int), .int .u64 (U 1 : Int), .int .u64 (U 2 : Int), .int .u64 (U 3 : Int), .int .u64 (U 4 : Int), .int .u64 (U 5 : Int), .int .u64 (U 6 : Int), .int .u64 (U 7 : Int), .int .u64 (U 8 : Int), .int .u64 (U 9 : Int)] 64)).cell? ⟨W1.heap.size, 3, none⟩ = some (.int .u64 (U 2 : Int)) := cell_of hA (i := 3) rfl
    have k4 : (W1.alloc (.cells #[.int .u64 (all : Int), .int .u64 (U 0 : Int), .int .u64 (U 1 : Int), .int .u64 (U 2 : Int), .int .u64 (U 3 : Int), .int .u64 (U 4 : Int), .int .u64 (U 5 : Int), .int .u64 (U 6 : Int), .int .u64 (U 7 : Int), .int .u64 (U 8 : Int), .int .u64 (U 9 : Int)] 64)).cell? ⟨W1.heap.size, 4, none⟩ = some (.int .u64 (U 3 : Int)) := cell_of hA (i := 4) rfl
    have k5 : (W1.alloc (.cells #[.int .u64 (all : Int), .int .u64 (U 0 : Int), .int .u64 (U 1 : Int), .int .u64 (U 2 : Int), .int .u64 (U 3 : Int), .int .u64 (U 4 : Int), .int .u64 (U 5 : Int), .int .u64 (U 6 : Int), .int .u64 (U 7 : Int), .int .u64 (U 8 : Int), .int .u64 (U 9 : Int)] 64)).cell? ⟨W1.heap.size, 5, none⟩ = some (.int .u64 (U 4 : Int)) := cell_of hA (i := 5) rfl
    have k6 : (W1.alloc (.cells #[.int .u64 (all : Int), .int .u64 (U 0 : Int), .int .u64 (U 1 : Int), .int .u64 (U 2 : Int), .int .u64 (U 3 : Int), .int .u64 (U 4 : Int), .int .u64 (U 5 : Int), .int .u64 (U 6 : Int), .int .u64 (U 7 : Int), .int .u64 (U 8 : Int), .int .u64 (U 9 : Int)] 64)).cell? ⟨W1.heap.size, 6, none⟩ = some (.int .u64 (U 5 : Int)) := cell_of hA (i := 6) rfl
    have k7 : (W1.alloc (.cells #[.int .u64 (all : Int), .int .u64 (U 0 : Int), .int .u64 (U 1 : Int), .int .u64 (U 2 : Int), .int .u64 (U 3 : Int), .int .u64 (U 4 : Int), .int .u64 (U 5 : Int), .int .u64 (U 6 : Int), .int .u64 (U 7 : Int), .int .u64 (U 8 : Int), .int .u64 (U 9 : Int)] 64)).cell? ⟨W1.heap.size, 7, none⟩ = some (.int .u64 (U 6 : Int)) := cell_of hA (i := 7) rfl
    have k8 : (W1.alloc (.cells #[.int .u64 (all : Int), .int .u64 (U 0 : Int), .int .u64 (U 1 : Int), .int .u64 (U 2 : Int), .int .u64 (U 3 : Int), .int .u64 (U 4 : Int), .int .u64 (U 5 : Int), .int .u64 (U 6 : Int), .int .u64 (U 7 : Int), .int .u64 (U 8 : Int), .int .u64 (U 9 : Int)] 64)).cell? ⟨W1.heap.size, 8, none⟩ = some (.int .u64 (U 7 : Int)) := cell_of hA (i := 8) rfl
    have k9 : (W1.alloc (.cells #[.int .u64 (all : Int), .int .u64 (U 0 : Int), .int .u64 (U 1 : Int), .int .u64 (U 2 : Int), .int .u64 (U 3 : Int), .int .u64 (U 4 : Int), .int .u64 (U 5 : Int), .int .u64 (U 6 : Int), .int .u64 (U 7 : Int), .int .u64 (U 8 : Int), .int .u64 (U 9 : Int)] 64)).cell? ⟨W1.heap.size, 9, none⟩ = some (.int .u64 (U 8 : Int)) := cell_of hA (i := 9) rfl
    have k10 : (W1.alloc (.cells #[.int .u64 (all : Int), .int .u64 (U 0 : Int), .int .u64 (U 1 : Int), .int .u64 (U 2 : Int), .int .u64 (U 3 : Int), .int .u64 (U 4 : Int), .int .u64 (U 5 : Int), .int .u64 (U 6 : Int), .int .u64 (U 7 : Int), .int .u64 (U 8 : Int), .int .u64 (U 9 : Int)] 64)).cell? ⟨W1.heap.size, 10, none⟩ = some (.int .u64 (U 9 : Int)) := cell_of hA (i := 10) rfl
    clear hA
    go_wp2_with fail
    generalize W1.alloc (.cells #[.int .u64 (all : Int), .int .u64 (U 0 : Int), .int .u64 (U 1 : Int), .int .u64 (U 2 : Int), .int .u64 (U 3 : Int), .int .u64 (U 4 : Int), .int .u64 (U 5 : Int), .int .u64 (U 6 : Int), .int .u64 (U 7 : Int), .int .u64 (U 8 : Int), .int .u64 (U 9 : Int)] 64) = W2 at *
    refine HS.out.mono ?_
    rintro e w3 ⟨⟨C, rfl, hC⟩, b3⟩
    have HB3 := Lib.hid (HBO.out.trans (b3.mono HBO.out.size))
    have hC0 := hC.2 0 (by decide)
    rw [hv0] at hC0
    have hix := idx71 hC0
    clear hC hv0 b3 hC0
    go_wp2_with fail
    go_ret2
    unfold Ans
    rw [HE.out]
    exact ⟨rfl, by first | exact HB3.out | (rw [← hb0]; exact HB3.out)⟩
  · have hgc : (good l m && !cyc l m) = false := by
      cases h1 : good l m with
      | false => rfl
      | true =>
        cases h2 : cyc l m with
        | true => rfl
        | false => exact absurd ⟨h1, h2⟩ hg
    rw [if_neg hg, hgc]
    have HE := Lib.hid (cnt_no hg)
    have hbo := below_alloc W1 (.cells #[.int .u64 0, .int .u64 0, .int .u64 0, .int .u64 0, .int .u64 0, .int .u64 0, .int .u64 0, .int .u64 0, .int .u64 0, .int .u64 0, .int .u64 0] 64)
    have HBO := Lib.hid (HB1.out.trans (hbo.mono HB1.out.size))
    clear hg hgc hbo
    unfold arr
    go_wp2_with fail
    go_ret2
    unfold Ans
    rw [HE.out]
    exact ⟨rfl, by first | exact HBO.out | (rw [← hb0]; exact HBO.out)⟩
end Go.Proofs.YtjllbbkpmmnkgaaDoor.CntP
