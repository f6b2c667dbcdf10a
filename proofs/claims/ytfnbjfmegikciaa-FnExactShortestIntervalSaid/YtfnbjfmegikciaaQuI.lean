/- The program's QuantileYear. -/
import Derived.Test.YtfnbjfmegikciaaPoI
import Derived.Test.YtfnbjfmegikciaaFtI
namespace Go.Proofs.Ytfnbjfmegikciaa.QuI
open Go Go.RowKit Pairs Rec Keep GivesI DvM DvG DvI Di ShI Yr AtM WwI PoI FtI
set_option linter.unusedVariables false
def quP (num den f : Int) (M : List Int) : Int × Bool := if okD f M && isF num den then fst1 (fun y => decide (least num den M ≤ sw f M (yrs f y))) (yrs f (f + M.length - 1)) else (0, false)
theorem quP_no {num den f : Int} {M : List Int} (h : okD f M = true → isF num den = true → False) : quP num den f M = (0, false) := by
  unfold quP
  rw [if_neg]
  intro e
  rw [Bool.and_eq_true] at e
  exact h e.1 e.2
theorem quP_yes {num den f : Int} {M : List Int} (h1 : okD f M = true) (h2 : isF num den = true) : quP num den f M = fst1 (fun y => decide (least num den M ≤ sw f M (yrs f y))) (yrs f (f + M.length - 1)) := by
  unfold quP
  rw [h1, h2]
  rfl
theorem yearsOf_b (f t : Int) (w : World) :
    Calls Try.prog 61 #[.agg #[.int .i64 f, .int .i64 t]] w fun e w' => e = .returned (.func (.func 79) #[] #[.pointer (some ⟨w.heap.size, 0, none⟩)]) ∧ Below w.heap.size w w' ∧ w'.cell? ⟨w.heap.size, 0, none⟩ = some (.int .i64 f) ∧ w'.cell? ⟨w.heap.size, 1, none⟩ = some (.int .i64 t) :=
  (yearsOf_any f t w).mono fun e w' ⟨he, hw⟩ => ⟨he, by rw [hw]; exact below_alloc w _, by rw [hw]; exact box_first _ _ _ _, by rw [hw]; exact box_second _ _ _ _⟩
set_option maxRecDepth 100000 in
set_option maxHeartbeats 8000000 in
theorem impl_any (num den f : Int) (p : Option Addr) (n c : Nat) (M : List Int) (w : World) (hn : n ≤ 1048576) (h : HoldsI w p n M) :
    Calls Try.prog 36 #[.agg #[.int .i64 f, .slice p n c], .int .i64 num, .int .i64 den] w fun e w' => e = .returned (.tuple #[.int .i64 (quP num den f M).1, .bool (quP num den f M).2]) ∧ Below w.heap.size w w' := by
  have hb := below_alloc w (.cells #[.int .i64 f, .slice p n c] 27)
  have f1 := box_first w (.int .i64 f) (.slice p n c) 27
  have f2 := box_second w (.int .i64 f) (.slice p n c) 27
  have hlt : w.heap.size < (w.alloc (.cells #[.int .i64 f, .slice p n c] 27)).heap.size := by simp
  have HL := Lib.hid h.1
  have H := Lib.hid (h.below hb)
  have HB := Lib.hid hb
  clear h hb
  obtain ⟨r, hr⟩ : ∃ r, r = quP num den f M := ⟨_, rfl⟩
  rw [← hr]
  have HR := Lib.hid hr
  clear hr
  go_enter Try.func36, Try.ntmps36
  go_wp2_with fail
  generalize w.alloc (.cells #[.int .i64 f, .slice p n c] 27) = W at *
  refine (portionOf_any num den f p n c M W hn H.out).mono ?_
  rintro e w1 ⟨rfl, b⟩
  replace f1 := (b.cell (p := ⟨w.heap.size, 0, none⟩) hlt).trans f1
  replace f2 := (b.cell (p := ⟨w.heap.size, 1, none⟩) hlt).trans f2
  replace hlt := Nat.lt_of_lt_of_le hlt b.size
  replace H := Lib.hid (H.out.below b)
  replace HB := Lib.hid (HB.out.trans (b.mono HB.out.size))
  clear b
  cases hv : (okD f M && isF num den) with
  | false =>
    have hno : okD f M = true → isF num den = true → False := fun e1 e2 => by rw [e1, e2] at hv; cases hv
    have HN := Lib.hid (HR.out.trans (quP_no hno))
    rw [poV_no hno]
    have HB2 := Lib.hid (HB.out.trans ((below_alloc w1 (.cells #[.int .i64 0, .slice none 0 0, .int .i64 0] 67)).mono HB.out.size))
    go_wp2_with fail
    go_ret2
    exact ⟨by rw [HN.out]; rfl, HB2.out⟩
  | true =>
    rw [Bool.and_eq_true] at hv
    obtain ⟨hv1, hv2⟩ := hv
    rw [poV_yes hv1 hv2]
    have O := okD_iff.1 hv1
    have o1 := O.lo
    have o2 := O.hi
    have o3 := O.pos
    rw [HL.out] at o2 o3
    have HM := Lib.hid (show ∀ x ∈ M, 0 ≤ x ∧ x ≤ 1000000 from fun x hx => upTo_mem O.all hx)
    have HN := Lib.hid (HR.out.trans (quP_yes hv1 hv2))
    rw [HL.out] at HN
    have hb := below_alloc w1 (.cells #[.int .i64 f, .slice p n c, .int .i64 (least num den M)] 67)
    obtain ⟨g1, g2, g3⟩ := box3 w1 (.int .i64 f) (.slice p n c) (.int .i64 (least num den M)) 67
    have hlt2 : w1.heap.size < (w1.alloc (.cells #[.int .i64 f, .slice p n c, .int .i64 (least num den M)] 67)).heap.size := by simp
    replace f1 := (hb.cell (p := ⟨w.heap.size, 0, none⟩) hlt).trans f1
    replace f2 := (hb.cell (p := ⟨w.heap.size, 1, none⟩) hlt).trans f2
    replace hlt := Nat.lt_of_lt_of_le hlt hb.size
    replace H := Lib.hid (H.out.below hb)
    replace HB := Lib.hid (HB.out.trans (hb.mono HB.out.size))
    clear hb O hv1 hv2
    generalize hz : least num den M = z at *
    go_wp2_with fail
    generalize w1.alloc (.cells #[.int .i64 f, .slice p n c, .int .i64 z] 67) = W2 at *
    have bd : Below W2.heap.size W2 W2.drew := (Below.refl W2.heap.size W2).drew
    have Hd := Lib.hid (H.out.below bd)
    go_region_held3 (fun w' => w'.cell? ⟨w.heap.size, 0, none⟩ = some (.int .i64 f) ∧ w'.cell? ⟨w.heap.size, 1, none⟩ = some (.slice p n c) ∧ w'.cell? ⟨w1.heap.size, 0, none⟩ = some (.int .i64 f) ∧ w'.cell? ⟨w1.heap.size, 1, none⟩ = some (.slice p n c) ∧ w'.cell? ⟨w1.heap.size, 2, none⟩ = some (.int .i64 z))
      (first | go_keep | (exact ⟨by assumption, by assumption, by assumption, by assumption, by assumption⟩))
      (first
        | (go_at_call 45; refine (years_any f p n c W2.drew (by omega) (by omega) hn).mono ?_; rintro e v1 ⟨rfl, b1⟩; have s1 := (b1.cell (p := ⟨w.heap.size, 0, none⟩) hlt).trans f1; have s2 := (b1.cell (p := ⟨w.heap.size, 1, none⟩) hlt).trans f2; have s3 := (b1.cell (p := ⟨w1.heap.size, 0, none⟩) hlt2).trans g1; have s4 := (b1.cell (p := ⟨w1.heap.size, 1, none⟩) hlt2).trans g2; have s5 := (b1.cell (p := ⟨w1.heap.size, 2, none⟩) hlt2).trans g3)
        | (go_at_call 61; refine (yearsOf_b f (f + n - 1) v1).mono ?_; rintro e v2 ⟨rfl, b2, y1, y2⟩; have l1 := Nat.lt_of_lt_of_le hlt b1.size; have l2 := Nat.lt_of_lt_of_le hlt2 b1.size; have t1 := (b2.cell (p := ⟨w.heap.size, 0, none⟩) l1).trans s1; have t2 := (b2.cell (p := ⟨w.heap.size, 1, none⟩) l1).trans s2; have t3 := (b2.cell (p := ⟨w1.heap.size, 0, none⟩) l2).trans s3; have t4 := (b2.cell (p := ⟨w1.heap.size, 1, none⟩) l2).trans s4; have t5 := (b2.cell (p := ⟨w1.heap.size, 2, none⟩) l2).trans s5)
        | (go_at_call 65; refine (first_any 66 (.agg #[.int .i64 f, .slice p n c, .int .i64 z]) (fun y => decide (z ≤ sw f M (yrs f y))) f (f + n - 1) v1.heap.size v2 (by omega) (by omega) y1 y2 (fun args W => FuncI.call_enter Try.func66 (by kernel_rfl) rfl args W) (fun y wr h1 h2 hbr => reached_meets f p n c M z y wr hn (by omega) (by omega) HM.out (((Hd.out.below b1).below b2).below hbr))).mono ?_; rintro e v3 ⟨rfl, b3⟩; have l3 := Nat.lt_of_lt_of_le l1 b2.size; have l4 := Nat.lt_of_lt_of_le l2 b2.size; have u1 := (b3.cell (p := ⟨w.heap.size, 0, none⟩) l3).trans t1; have u2 := (b3.cell (p := ⟨w.heap.size, 1, none⟩) l3).trans t2; have u3 := (b3.cell (p := ⟨w1.heap.size, 0, none⟩) l4).trans t3; have u4 := (b3.cell (p := ⟨w1.heap.size, 1, none⟩) l4).trans t4; have u5 := (b3.cell (p := ⟨w1.heap.size, 2, none⟩) l4).trans t5))
    all_goals (have HZ := Lib.hid (HB.out.trans ((bd.trans ((b1.trans ((b2.trans (b3.mono b2.size)).mono b1.size)).mono bd.size)).mono HB.out.size)))
    all_goals go_wp2_with fail
    all_goals go_ret2
    all_goals exact ⟨by rw [HN.out]; rfl, HZ.out⟩
end Go.Proofs.Ytfnbjfmegikciaa.QuI
