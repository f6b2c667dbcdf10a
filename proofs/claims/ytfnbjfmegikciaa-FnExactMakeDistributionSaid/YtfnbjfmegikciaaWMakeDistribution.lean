/- The walk of the law FnExactMakeDistribution, from contracts of the program's and of the model's MakeDistribution. -/
import Derived.Test.YtfnbjfmegikciaaDi
namespace Go.Proofs.Ytfnbjfmegikciaa.WMakeDistribution
open Go.ChangeShapes Go.WideShapes Go.ChangeAt Go.RowKit
open Pairs Rec RecOpen Keep GivesI Di
set_option linter.unusedVariables false
set_option maxRecDepth 100000 in
set_option maxHeartbeats 16000000 in
theorem walk (F : Int → List Int → Option (Int × List Int)) (hI : ∀ (y0 : Int) (p : Option Addr) (n : Nat) (M : List Int) (w : World), n ≤ 1048576 → HoldsI w p n M → Calls Try.prog 20 #[.int .i64 y0, .slice p n n] w (ResZ (F y0 M).isSome ((F y0 M).getD (0, [])).1 ((F y0 M).getD (0, [])).2 w)) (hM : ∀ (y0 : Int) (p : Option Addr) (n : Nat) (M : List Int) (w : World), n ≤ 1048576 → HoldsI w p n M → Calls Try.prog 18 #[.int .i64 y0, .slice p n n] w (ResZ (F y0 M).isSome ((F y0 M).getD (0, [])).1 ((F y0 M).getD (0, [])).2 w)) (y0 : Int) (p : Option Addr) (n c : Nat) (M : List Int) (w : World) (z1 : n ≤ 9223372036854775807) (H1 : HoldsI w p n M) :
    Calls Try.prog 4 #[.int .i64 y0, .slice p n c] w fun e w' => e = .returned (.bool true) ∧ Below w.heap.size w w' := by
  have H0 := Lib.hid H1
  have hI1 := fun (p1 : Option Addr) (w : World) h1 h2 => hI y0 p1 n M w h1 h2
  have hM1 := fun (p1 : Option Addr) (w : World) h1 h2 => hM y0 p1 n M w h1 h2
  clear hI hM
  generalize (F y0 M).isSome = ok at hI1 hM1
  generalize ((F y0 M).getD (0, [])).1 = fr at hI1 hM1
  generalize ((F y0 M).getD (0, [])).2 = A at hI1 hM1
  have HI := Lib.hid hI1
  have HM := Lib.hid hM1
  clear hI1 hM1
  have K := Lib.hid H1
  have HB := Lib.hid (Below.refl w.heap.size w)
  clear H1
  go_enter Try.func4, Try.ntmps4
  by_cases hbig : (1048576 : Int) < (n : Int)
  · go_wp2_with fail
    go_ret
    exact ⟨rfl, HB.out⟩
  have hs1 : n ≤ 1048576 := by omega
  go_wp2_with fail
  refine (IntT.toIntS_any p n c M hs1 _ K.out).mono ?_
  rintro e w2 ⟨g1, rfl, o, b⟩
  replace K := Lib.hid (K.out.below b)
  replace HB := Lib.hid (HB.out.trans (b.mono HB.out.size))
  clear b
  have G1 := Lib.hid (holds_own o)
  clear o
  go_wp2_with fail
  refine (HM.out _ _ hs1 G1.out).mono ?_
  rintro e w3 ⟨p1, k1, d1, rfl, o, hk1, b⟩
  replace K := Lib.hid (K.out.below b)
  replace HB := Lib.hid (HB.out.trans (b.mono HB.out.size))
  clear b
  have OW := Lib.hid o
  have ow1 := Lib.hid (fun b hb => (own_bd o b hb).2)
  clear o G1
  have b := below_alloc w3 (.cells #[.int .i64 fr, .slice p1 k1 d1] 27)
  have x1 := box_first w3 (.int .i64 fr) (.slice p1 k1 d1) 27
  have x2 := box_second w3 (.int .i64 fr) (.slice p1 k1 d1) 27
  have xl : w3.heap.size < (w3.alloc (.cells #[.int .i64 fr, .slice p1 k1 d1] 27)).heap.size := by simp
  replace K := Lib.hid (K.out.below b)
  replace OW := Lib.hid (ownsRow_below OW.out b)
  replace HB := Lib.hid (HB.out.trans (b.mono HB.out.size))
  clear b
  go_wp2_with fail
  generalize w3.alloc (.cells #[.int .i64 fr, .slice p1 k1 d1] 27) = W3 at *
  have hz1 := Lib.hid xl
  have hzw := Lib.hid HB.out.size
  refine (IntT.toIntS_any p n c M hs1 _ K.out).mono ?_
  rintro e w4 ⟨g2, rfl, o, b⟩
  replace x1 := (b.cell (p := ⟨w3.heap.size, 0, none⟩) xl).trans x1
  replace x2 := (b.cell (p := ⟨w3.heap.size, 1, none⟩) xl).trans x2
  replace xl := Nat.lt_of_lt_of_le xl b.size
  replace K := Lib.hid (K.out.below b)
  replace OW := Lib.hid (ownsRow_below OW.out b)
  replace HB := Lib.hid (HB.out.trans (b.mono HB.out.size))
  clear b
  have OX := Lib.hid o
  have hg2 := Lib.hid (o.lt g2 rfl)
  clear o
  go_wp2_with fail
  have hz2 := Lib.hid (Nat.le_refl w4.heap.size)
  refine (HI.out _ _ hs1 (holds_own OX.out)).mono ?_
  rintro e w7 ⟨p2, k2, d2, rfl, o, hk2, b⟩
  have hz3 := Lib.hid b.size
  replace x1 := (b.cell (p := ⟨w3.heap.size, 0, none⟩) xl).trans x1
  replace x2 := (b.cell (p := ⟨w3.heap.size, 1, none⟩) xl).trans x2
  replace xl := Nat.lt_of_lt_of_le xl b.size
  replace K := Lib.hid (K.out.below b)
  replace OW := Lib.hid (ownsRow_below OW.out b)
  replace OX := Lib.hid (ownsRow_below OX.out b)
  replace HB := Lib.hid (HB.out.trans (b.mono HB.out.size))
  clear b
  have OG := Lib.hid o
  have og1 := Lib.hid (own_bd o)
  clear o
  have b := below_alloc w7 (.cells #[.int .i64 fr, .slice p2 k2 d2] 27)
  have u1 := box_first w7 (.int .i64 fr) (.slice p2 k2 d2) 27
  have u2 := box_second w7 (.int .i64 fr) (.slice p2 k2 d2) 27
  have ul : w7.heap.size < (w7.alloc (.cells #[.int .i64 fr, .slice p2 k2 d2] 27)).heap.size := by simp
  replace x1 := (b.cell (p := ⟨w3.heap.size, 0, none⟩) xl).trans x1
  replace x2 := (b.cell (p := ⟨w3.heap.size, 1, none⟩) xl).trans x2
  replace xl := Nat.lt_of_lt_of_le xl b.size
  replace K := Lib.hid (K.out.below b)
  replace OW := Lib.hid (ownsRow_below OW.out b)
  replace OX := Lib.hid (ownsRow_below OX.out b)
  replace OG := Lib.hid (ownsRow_below OG.out b)
  replace HB := Lib.hid (HB.out.trans (b.mono HB.out.size))
  clear b
  have hkk : k2 = k1 := by have h1 := OG.out.1; have h2 := OW.out.1; rw [ints_len] at h1 h2; omega
  subst hkk
  go_wp2_with fail
  generalize w7.alloc (.cells #[.int .i64 fr, .slice p2 k2 d2] 27) = W7 at *
  have hz4 := Lib.hid ul
  refine (eqDist_same fr p2 p1 k2 d2 d1 A hk2 _ (holds_own OG.out) (holds_own OW.out)).mono ?_
  rintro e w8 ⟨rfl, b⟩
  replace x1 := (b.cell (p := ⟨w3.heap.size, 0, none⟩) xl).trans x1
  replace x2 := (b.cell (p := ⟨w3.heap.size, 1, none⟩) xl).trans x2
  replace xl := Nat.lt_of_lt_of_le xl b.size
  replace u1 := (b.cell (p := ⟨w7.heap.size, 0, none⟩) ul).trans u1
  replace u2 := (b.cell (p := ⟨w7.heap.size, 1, none⟩) ul).trans u2
  replace ul := Nat.lt_of_lt_of_le ul b.size
  replace K := Lib.hid (K.out.below b)
  replace OW := Lib.hid (ownsRow_below OW.out b)
  replace OX := Lib.hid (ownsRow_below OX.out b)
  replace OG := Lib.hid (ownsRow_below OG.out b)
  replace HB := Lib.hid (HB.out.trans (b.mono HB.out.size))
  clear b
  go_wp2_with fail
  refine (IntT.toIntS_any p n c M hs1 _ K.out).mono ?_
  rintro e w9 ⟨g7, rfl, o, b⟩
  replace x1 := (b.cell (p := ⟨w3.heap.size, 0, none⟩) xl).trans x1
  replace x2 := (b.cell (p := ⟨w3.heap.size, 1, none⟩) xl).trans x2
  replace xl := Nat.lt_of_lt_of_le xl b.size
  replace u1 := (b.cell (p := ⟨w7.heap.size, 0, none⟩) ul).trans u1
  replace u2 := (b.cell (p := ⟨w7.heap.size, 1, none⟩) ul).trans u2
  replace ul := Nat.lt_of_lt_of_le ul b.size
  replace K := Lib.hid (K.out.below b)
  replace OW := Lib.hid (ownsRow_below OW.out b)
  replace OX := Lib.hid (ownsRow_below OX.out b)
  replace OG := Lib.hid (ownsRow_below OG.out b)
  replace HB := Lib.hid (HB.out.trans (b.mono HB.out.size))
  clear b
  have G7 := Lib.hid (holds_own o)
  clear o
  go_wp2_with fail
  refine (eq_same (some ⟨g2, 0, none⟩) (some ⟨g7, 0, none⟩) n n n M hs1 _ (holds_own OX.out) G7.out).mono ?_
  rintro e w10 ⟨rfl, b⟩
  replace x1 := (b.cell (p := ⟨w3.heap.size, 0, none⟩) xl).trans x1
  replace x2 := (b.cell (p := ⟨w3.heap.size, 1, none⟩) xl).trans x2
  replace xl := Nat.lt_of_lt_of_le xl b.size
  replace u1 := (b.cell (p := ⟨w7.heap.size, 0, none⟩) ul).trans u1
  replace u2 := (b.cell (p := ⟨w7.heap.size, 1, none⟩) ul).trans u2
  replace ul := Nat.lt_of_lt_of_le ul b.size
  replace K := Lib.hid (K.out.below b)
  replace OW := Lib.hid (ownsRow_below OW.out b)
  replace OX := Lib.hid (ownsRow_below OX.out b)
  replace OG := Lib.hid (ownsRow_below OG.out b)
  replace HB := Lib.hid (HB.out.trans (b.mono HB.out.size))
  clear b
  go_wp2_with fail
  refine (mark_any w3.heap.size (some ⟨g2, 0, none⟩) n n 1 (ints M) (by omega) (by omega) hs1 _ (ownsRow_base OX.out (Nat.le_of_lt hz1.out))).mono ?_
  rintro e w11 ⟨rfl, -, kk⟩
  have q1 := hz1.out; have q2 := hzw.out; have q3 := hg2.out; have q4 := hz2.out; have q5 := hz3.out; have q6 := hz4.out
  have e2 : ∀ b, (Value.slice (some ⟨g2, 0, none⟩) n n).ownBlock = some b → b = g2 := fun b hb => by simpa [Value.ownBlock, eq_comm] using hb
  replace x1 := kk.cell x1 (by intro hq; have := e2 _ hq; simp only at this; omega)
  replace x2 := kk.cell x2 (by intro hq; have := e2 _ hq; simp only at this; omega)
  replace xl := Nat.lt_of_lt_of_le xl kk.size
  replace u1 := kk.cell u1 (by intro hq; have := e2 _ hq; simp only at this; omega)
  replace u2 := kk.cell u2 (by intro hq; have := e2 _ hq; simp only at this; omega)
  replace ul := Nat.lt_of_lt_of_le ul kk.size
  replace K := Lib.hid (heldKept H0.out K.out kk (fun b hb hq => by have := e2 _ hq; omega))
  replace OW := Lib.hid (kk.owns OW.out (fun b hb hq => by have h1 := e2 _ hq; have h2 := ow1.out b hb; omega))
  replace OG := Lib.hid (kk.owns OG.out (fun b hb hq => by have h1 := e2 _ hq; have h2 := og1.out b hb; omega))
  replace HB := Lib.hid (HB.out.trans (kk.below (B := w.heap.size) (fun b hq => by have := e2 _ hq; omega) HB.out.size))
  clear kk OX e2
  clear q1 q2 q3 q4 q5 q6
  have hnk : ¬ (1 : Int) + n < 0 := by omega
  have hnb : decide ((1 : Int) + n < 0) = false := decide_eq_false hnk
  go_wp2_with fail
  refine (eqDist_same fr p2 p1 k2 d2 d1 A hk2 _ (holds_own OG.out) (holds_own OW.out)).mono ?_
  rintro e w12 ⟨rfl, b⟩
  replace x1 := (b.cell (p := ⟨w3.heap.size, 0, none⟩) xl).trans x1
  replace x2 := (b.cell (p := ⟨w3.heap.size, 1, none⟩) xl).trans x2
  replace xl := Nat.lt_of_lt_of_le xl b.size
  replace u1 := (b.cell (p := ⟨w7.heap.size, 0, none⟩) ul).trans u1
  replace u2 := (b.cell (p := ⟨w7.heap.size, 1, none⟩) ul).trans u2
  replace ul := Nat.lt_of_lt_of_le ul b.size
  replace K := Lib.hid (K.out.below b)
  replace OW := Lib.hid (ownsRow_below OW.out b)
  replace OG := Lib.hid (ownsRow_below OG.out b)
  replace HB := Lib.hid (HB.out.trans (b.mono HB.out.size))
  clear b
  go_wp2_with fail
  refine (markDist_any _ fr p2 k2 d2 1 (ints A) (by omega) (by omega) hk2 _ OG.out).mono ?_
  rintro e w13 ⟨rfl, om, kk⟩
  have q1 := hz1.out; have q2 := hzw.out; have q3 := hg2.out; have q4 := hz2.out; have q5 := hz3.out; have q6 := hz4.out
  replace x1 := kk.cell x1 (by intro hq; have := og1.out _ hq; simp only at this; omega)
  replace x2 := kk.cell x2 (by intro hq; have := og1.out _ hq; simp only at this; omega)
  replace xl := Nat.lt_of_lt_of_le xl kk.size
  replace u1 := kk.cell u1 (by intro hq; have := og1.out _ hq; simp only at this; omega)
  replace u2 := kk.cell u2 (by intro hq; have := og1.out _ hq; simp only at this; omega)
  replace ul := Nat.lt_of_lt_of_le ul kk.size
  replace K := Lib.hid (heldKept H0.out K.out kk (fun b hb hq => by have := og1.out _ hq; omega))
  replace OW := Lib.hid (kk.owns OW.out (fun b hb hq => by have h1 := og1.out _ hq; have h2 := ow1.out b hb; omega))
  replace HB := Lib.hid (HB.out.trans (kk.below (B := w.heap.size) (fun b hq => by have := og1.out _ hq; omega) HB.out.size))
  have MG := Lib.hid (holds_own om)
  clear kk om OG
  clear q1 q2 q3 q4 q5 q6
  have hkn : ¬ (1 : Int) + k2 < 0 := by omega
  have hkb : decide ((1 : Int) + k2 < 0) = false := decide_eq_false hkn
  go_wp2_with fail
  refine (heldDist_any fr p2 k2 d2 1 (by omega) (by omega) hk2 _ MG.out).mono ?_
  rintro e w14 ⟨rfl, b⟩
  replace x1 := (b.cell (p := ⟨w3.heap.size, 0, none⟩) xl).trans x1
  replace x2 := (b.cell (p := ⟨w3.heap.size, 1, none⟩) xl).trans x2
  replace xl := Nat.lt_of_lt_of_le xl b.size
  replace u1 := (b.cell (p := ⟨w7.heap.size, 0, none⟩) ul).trans u1
  replace u2 := (b.cell (p := ⟨w7.heap.size, 1, none⟩) ul).trans u2
  replace ul := Nat.lt_of_lt_of_le ul b.size
  replace K := Lib.hid (K.out.below b)
  replace MG := Lib.hid (MG.out.below b)
  replace OW := Lib.hid (ownsRow_below OW.out b)
  replace HB := Lib.hid (HB.out.trans (b.mono HB.out.size))
  clear b
  go_wp2_with fail
  refine (IntT.toIntS_any p n c M hs1 _ K.out).mono ?_
  rintro e w15 ⟨g5, rfl, o, b⟩
  replace x1 := (b.cell (p := ⟨w3.heap.size, 0, none⟩) xl).trans x1
  replace x2 := (b.cell (p := ⟨w3.heap.size, 1, none⟩) xl).trans x2
  replace xl := Nat.lt_of_lt_of_le xl b.size
  replace u1 := (b.cell (p := ⟨w7.heap.size, 0, none⟩) ul).trans u1
  replace u2 := (b.cell (p := ⟨w7.heap.size, 1, none⟩) ul).trans u2
  replace ul := Nat.lt_of_lt_of_le ul b.size
  replace K := Lib.hid (K.out.below b)
  replace MG := Lib.hid (MG.out.below b)
  replace OW := Lib.hid (ownsRow_below OW.out b)
  replace HB := Lib.hid (HB.out.trans (b.mono HB.out.size))
  clear b
  have G5 := Lib.hid (holds_own o)
  clear o
  go_wp2_with fail
  refine (HI.out _ _ hs1 G5.out).mono ?_
  rintro e w16 ⟨p3, k3, d3, rfl, o, hk3, b⟩
  replace x1 := (b.cell (p := ⟨w3.heap.size, 0, none⟩) xl).trans x1
  replace x2 := (b.cell (p := ⟨w3.heap.size, 1, none⟩) xl).trans x2
  replace xl := Nat.lt_of_lt_of_le xl b.size
  replace u1 := (b.cell (p := ⟨w7.heap.size, 0, none⟩) ul).trans u1
  replace u2 := (b.cell (p := ⟨w7.heap.size, 1, none⟩) ul).trans u2
  replace ul := Nat.lt_of_lt_of_le ul b.size
  replace K := Lib.hid (K.out.below b)
  replace MG := Lib.hid (MG.out.below b)
  replace OW := Lib.hid (ownsRow_below OW.out b)
  replace HB := Lib.hid (HB.out.trans (b.mono HB.out.size))
  clear b
  have OH := Lib.hid o
  clear o G5
  have b := below_alloc w16 (.cells #[.int .i64 fr, .slice p3 k3 d3] 27)
  have h1 := box_first w16 (.int .i64 fr) (.slice p3 k3 d3) 27
  have h2 := box_second w16 (.int .i64 fr) (.slice p3 k3 d3) 27
  have hl : w16.heap.size < (w16.alloc (.cells #[.int .i64 fr, .slice p3 k3 d3] 27)).heap.size := by simp
  replace x1 := (b.cell (p := ⟨w3.heap.size, 0, none⟩) xl).trans x1
  replace x2 := (b.cell (p := ⟨w3.heap.size, 1, none⟩) xl).trans x2
  replace xl := Nat.lt_of_lt_of_le xl b.size
  replace u1 := (b.cell (p := ⟨w7.heap.size, 0, none⟩) ul).trans u1
  replace u2 := (b.cell (p := ⟨w7.heap.size, 1, none⟩) ul).trans u2
  replace ul := Nat.lt_of_lt_of_le ul b.size
  replace K := Lib.hid (K.out.below b)
  replace MG := Lib.hid (MG.out.below b)
  replace OW := Lib.hid (ownsRow_below OW.out b)
  replace OH := Lib.hid (ownsRow_below OH.out b)
  replace HB := Lib.hid (HB.out.trans (b.mono HB.out.size))
  clear b
  have hkk : k3 = k2 := by have h1 := OH.out.1; have h2 := OW.out.1; rw [ints_len] at h1 h2; omega
  subst hkk
  go_wp2_with fail
  generalize w16.alloc (.cells #[.int .i64 fr, .slice p3 k3 d3] 27) = W16 at *
  refine (eqDist_same fr p3 p1 k3 d3 d1 A hk2 _ (holds_own OH.out) (holds_own OW.out)).mono ?_
  rintro e w17 ⟨rfl, b⟩
  replace x1 := (b.cell (p := ⟨w3.heap.size, 0, none⟩) xl).trans x1
  replace x2 := (b.cell (p := ⟨w3.heap.size, 1, none⟩) xl).trans x2
  replace xl := Nat.lt_of_lt_of_le xl b.size
  replace u1 := (b.cell (p := ⟨w7.heap.size, 0, none⟩) ul).trans u1
  replace u2 := (b.cell (p := ⟨w7.heap.size, 1, none⟩) ul).trans u2
  replace ul := Nat.lt_of_lt_of_le ul b.size
  replace h1 := (b.cell (p := ⟨w16.heap.size, 0, none⟩) hl).trans h1
  replace h2 := (b.cell (p := ⟨w16.heap.size, 1, none⟩) hl).trans h2
  replace hl := Nat.lt_of_lt_of_le hl b.size
  replace K := Lib.hid (K.out.below b)
  replace MG := Lib.hid (MG.out.below b)
  replace OW := Lib.hid (ownsRow_below OW.out b)
  replace OH := Lib.hid (ownsRow_below OH.out b)
  replace HB := Lib.hid (HB.out.trans (b.mono HB.out.size))
  clear b
  go_wp2_with fail
  refine (heldDist_any fr p2 k3 d2 1 (by omega) (by omega) hk2 _ MG.out).mono ?_
  rintro e w18 ⟨rfl, b⟩
  replace x1 := (b.cell (p := ⟨w3.heap.size, 0, none⟩) xl).trans x1
  replace x2 := (b.cell (p := ⟨w3.heap.size, 1, none⟩) xl).trans x2
  replace xl := Nat.lt_of_lt_of_le xl b.size
  replace u1 := (b.cell (p := ⟨w7.heap.size, 0, none⟩) ul).trans u1
  replace u2 := (b.cell (p := ⟨w7.heap.size, 1, none⟩) ul).trans u2
  replace ul := Nat.lt_of_lt_of_le ul b.size
  replace h1 := (b.cell (p := ⟨w16.heap.size, 0, none⟩) hl).trans h1
  replace h2 := (b.cell (p := ⟨w16.heap.size, 1, none⟩) hl).trans h2
  replace hl := Nat.lt_of_lt_of_le hl b.size
  replace K := Lib.hid (K.out.below b)
  replace MG := Lib.hid (MG.out.below b)
  replace OW := Lib.hid (ownsRow_below OW.out b)
  replace OH := Lib.hid (ownsRow_below OH.out b)
  replace HB := Lib.hid (HB.out.trans (b.mono HB.out.size))
  clear b
  go_wp2_with fail
  go_ret
  exact ⟨rfl, HB.out⟩
end Go.Proofs.Ytfnbjfmegikciaa.WMakeDistribution
