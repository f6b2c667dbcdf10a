/- The walk of the law FnExactShortestInterval, from contracts of the program's and of the model's ShortestInterval. -/
import Derived.Test.YtfnbjfmegikciaaDi
namespace Go.Proofs.Ytfnbjfmegikciaa.WShortestInterval
open Go.ChangeShapes Go.WideShapes Go.ChangeAt Go.RowKit
open Pairs Rec RecOpen GivesI Di
set_option linter.unusedVariables false
set_option maxRecDepth 100000 in
set_option maxHeartbeats 8000000 in
theorem walk (F : Int → List Int → Int → Int → Int × Int × Bool) (hI : ∀ (y1 y2 : Int) (f : Int) (p : Option Addr) (n : Nat) (M : List Int) (w : World), n ≤ 1048576 → HoldsI w p n M → Calls Try.prog 38 #[.agg #[.int .i64 f, .slice p n n], .int .i64 y1, .int .i64 y2] w fun e w' => e = .returned (.tuple #[.int .i64 ((F f M y1 y2).1), .int .i64 ((F f M y1 y2).2.1), .bool ((F f M y1 y2).2.2)]) ∧ Below w.heap.size w w') (hM : ∀ (y1 y2 : Int) (f : Int) (p : Option Addr) (n : Nat) (M : List Int) (w : World), n ≤ 1048576 → HoldsI w p n M → Calls Try.prog 37 #[.agg #[.int .i64 f, .slice p n n], .int .i64 y1, .int .i64 y2] w fun e w' => e = .returned (.tuple #[.int .i64 ((F f M y1 y2).1), .int .i64 ((F f M y1 y2).2.1), .bool ((F f M y1 y2).2.2)]) ∧ Below w.heap.size w w') (y1 y2 : Int) (f : Int) (p : Option Addr) (n c : Nat) (M : List Int) (w : World) (z1 : n ≤ 9223372036854775807) (H1 : HoldsI w p n M) :
    Calls Try.prog 11 #[.agg #[.int .i64 f, .slice p n c], .int .i64 y1, .int .i64 y2] w fun e w' => e = .returned (.bool true) ∧ Below w.heap.size w w' := by
  have hb0 := below_alloc w (.cells #[.int .i64 f, .slice p n c] 24)
  have f1 := box_first w (.int .i64 f) (.slice p n c) 24
  have f2 := box_second w (.int .i64 f) (.slice p n c) 24
  have hlt : w.heap.size < (w.alloc (.cells #[.int .i64 f, .slice p n c] 24)).heap.size := by simp
  have K := Lib.hid (H1.below hb0)
  have HB := Lib.hid hb0
  clear H1 hb0
  have hI1 := fun (p1 : Option Addr) (w : World) h1 h2 => hI y1 y2 f p1 n M w h1 h2
  have hM1 := fun (p1 : Option Addr) (w : World) h1 h2 => hM y1 y2 f p1 n M w h1 h2
  clear hI hM
  generalize F f M y1 y2 = FF at hI1 hM1
  obtain ⟨r1, r2, r3⟩ := FF
  have HI := Lib.hid hI1
  have HM := Lib.hid hM1
  clear hI1 hM1
  go_enter Try.func11, Try.ntmps11
  go_wp2_with fail
  generalize w.alloc (.cells #[.int .i64 f, .slice p n c] 24) = W at *
  refine (szDist_any f p n c 1048576 (by omega) (by omega) z1 W).mono ?_
  rintro e w1 ⟨rfl, b⟩
  replace f1 := (b.cell (p := ⟨w.heap.size, 0, none⟩) hlt).trans f1
  replace f2 := (b.cell (p := ⟨w.heap.size, 1, none⟩) hlt).trans f2
  replace hlt := Nat.lt_of_lt_of_le hlt b.size
  replace K := Lib.hid (K.out.below b)
  replace HB := Lib.hid (HB.out.trans (b.mono HB.out.size))
  clear b
  by_cases hbig : (1048576 : Int) < (n : Int)
  · rw [if_pos hbig]
    go_wp2_with fail
    go_ret
    exact ⟨rfl, HB.out⟩
  rw [if_neg hbig]
  have hs1 : n ≤ 1048576 := by omega
  have hnn : ¬ (1048576 : Int) - n < 0 := by omega
  go_wp2_with fail
  refine (toDist_any f p n c M hs1 _ K.out).mono ?_
  rintro e w2 ⟨g1, rfl, o, b⟩
  replace f1 := (b.cell (p := ⟨w.heap.size, 0, none⟩) hlt).trans f1
  replace f2 := (b.cell (p := ⟨w.heap.size, 1, none⟩) hlt).trans f2
  replace hlt := Nat.lt_of_lt_of_le hlt b.size
  replace K := Lib.hid (K.out.below b)
  replace HB := Lib.hid (HB.out.trans (b.mono HB.out.size))
  have G1 := Lib.hid (holds_own o)
  clear b o
  go_wp2_with fail
  refine (HM.out _ _ hs1 G1.out).mono ?_
  rintro e w3 ⟨rfl, b⟩
  replace f1 := (b.cell (p := ⟨w.heap.size, 0, none⟩) hlt).trans f1
  replace f2 := (b.cell (p := ⟨w.heap.size, 1, none⟩) hlt).trans f2
  replace hlt := Nat.lt_of_lt_of_le hlt b.size
  replace K := Lib.hid (K.out.below b)
  replace HB := Lib.hid (HB.out.trans (b.mono HB.out.size))
  clear b G1
  go_wp2_with fail
  refine (toDist_any f p n c M hs1 _ K.out).mono ?_
  rintro e w4 ⟨g2, rfl, o, b⟩
  replace f1 := (b.cell (p := ⟨w.heap.size, 0, none⟩) hlt).trans f1
  replace f2 := (b.cell (p := ⟨w.heap.size, 1, none⟩) hlt).trans f2
  replace hlt := Nat.lt_of_lt_of_le hlt b.size
  replace K := Lib.hid (K.out.below b)
  replace HB := Lib.hid (HB.out.trans (b.mono HB.out.size))
  have G2 := Lib.hid (holds_own o)
  clear b o
  have b := below_alloc w4 (.cells #[.int .i64 f, .slice (some ⟨g2, 0, none⟩) n n] 27)
  have x1 := box_first w4 (.int .i64 f) (.slice (some ⟨g2, 0, none⟩) n n) 27
  have x2 := box_second w4 (.int .i64 f) (.slice (some ⟨g2, 0, none⟩) n n) 27
  have hlt2 : w4.heap.size < (w4.alloc (.cells #[.int .i64 f, .slice (some ⟨g2, 0, none⟩) n n] 27)).heap.size := by simp
  replace f1 := (b.cell (p := ⟨w.heap.size, 0, none⟩) hlt).trans f1
  replace f2 := (b.cell (p := ⟨w.heap.size, 1, none⟩) hlt).trans f2
  replace hlt := Nat.lt_of_lt_of_le hlt b.size
  replace K := Lib.hid (K.out.below b)
  replace G2 := Lib.hid (G2.out.below b)
  replace HB := Lib.hid (HB.out.trans (b.mono HB.out.size))
  clear b
  go_wp2_with fail
  generalize w4.alloc (.cells #[.int .i64 f, .slice (some ⟨g2, 0, none⟩) n n] 27) = W5 at *
  refine (HI.out _ _ hs1 G2.out).mono ?_
  rintro e w7 ⟨rfl, b⟩
  replace f1 := (b.cell (p := ⟨w.heap.size, 0, none⟩) hlt).trans f1
  replace f2 := (b.cell (p := ⟨w.heap.size, 1, none⟩) hlt).trans f2
  replace x1 := (b.cell (p := ⟨w4.heap.size, 0, none⟩) hlt2).trans x1
  replace x2 := (b.cell (p := ⟨w4.heap.size, 1, none⟩) hlt2).trans x2
  replace hlt := Nat.lt_of_lt_of_le hlt b.size
  replace hlt2 := Nat.lt_of_lt_of_le hlt2 b.size
  replace K := Lib.hid (K.out.below b)
  replace G2 := Lib.hid (G2.out.below b)
  replace HB := Lib.hid (HB.out.trans (b.mono HB.out.size))
  clear b
  go_wp2_with fail
  have bd : Below w7.heap.size w7 w7.drew := (Below.refl w7.heap.size w7).drew
  have Kd := Lib.hid (K.out.below bd)
  have Gd := Lib.hid (G2.out.below bd)
  have HBd := Lib.hid (HB.out.trans (bd.mono HB.out.size))
  go_region_held3 (fun w' => w'.cell? ⟨w4.heap.size, 0, none⟩ = some (.int .i64 f) ∧ w'.cell? ⟨w4.heap.size, 1, none⟩ = some (.slice (some ⟨g2, 0, none⟩) n n) ∧ w'.cell? ⟨w.heap.size, 0, none⟩ = some (.int .i64 f) ∧ w'.cell? ⟨w.heap.size, 1, none⟩ = some (.slice p n c) ∧ w4.heap.size < w'.heap.size)
    (first | go_keep | (exact ⟨by assumption, by assumption, by assumption, by assumption, by assumption⟩))
    (first
      | (go_at_call 15; refine (toDist_any f p n c M hs1 w7.drew Kd.out).mono ?_; rintro e w8 ⟨g7, rfl, o8, b8⟩; have s1 := (b8.cell (p := ⟨w4.heap.size, 0, none⟩) hlt2).trans x1; have s2 := (b8.cell (p := ⟨w4.heap.size, 1, none⟩) hlt2).trans x2; have s3 := (b8.cell (p := ⟨w.heap.size, 0, none⟩) hlt).trans f1; have s4 := (b8.cell (p := ⟨w.heap.size, 1, none⟩) hlt).trans f2; have s5 := Nat.lt_of_lt_of_le hlt2 b8.size)
      | (go_at_call 17; refine (eqDist_same f (some ⟨g2, 0, none⟩) (some ⟨g7, 0, none⟩) n n n M hs1 w8 (Gd.out.below b8) (holds_own o8)).mono ?_; rintro e w9 ⟨rfl, b9⟩; have t1 := (b9.cell (p := ⟨w4.heap.size, 0, none⟩) s5).trans s1; have t2 := (b9.cell (p := ⟨w4.heap.size, 1, none⟩) s5).trans s2; have t3 := (b9.cell (p := ⟨w.heap.size, 0, none⟩) (Nat.lt_of_lt_of_le hlt b8.size)).trans s3; have t4 := (b9.cell (p := ⟨w.heap.size, 1, none⟩) (Nat.lt_of_lt_of_le hlt b8.size)).trans s4; have t5 := Nat.lt_of_lt_of_le s5 b9.size))
  have HZ := Lib.hid (HBd.out.trans ((b8.trans (b9.mono b8.size)).mono HBd.out.size))
  clear o8 b8 b9 bd s1 s2 s3 s4 s5 f1 f2 x1 x2 t1 t2 t3 t4 t5 Kd Gd
  go_wp2_with fail
  go_ret
  exact ⟨rfl, HZ.out⟩
end Go.Proofs.Ytfnbjfmegikciaa.WShortestInterval
