/- Measurements, the mathematics and the test of one measurement and of a list, in the program and in the model. -/
import Derived.Test.YtlpcgchekhoieaaFuncP
import Derived.Test.YtlpcgchekhoieaaDvG
namespace Go.Proofs.Ytlpcgchekhoieaa.MsM
open Go.RowKit Pairs Rec Keep GivesI
set_option linter.unusedVariables false
def okM (q : Int × Int) : Bool := decide ((0 ≤ q.1 ∧ q.1 ≤ 60000) ∧ 1 ≤ q.2 ∧ q.2 ≤ 1000)
theorem okM_iff {x y : Int} : okM (x, y) = true ↔ (0 ≤ x ∧ x ≤ 60000) ∧ 1 ≤ y ∧ y ≤ 1000 := by unfold okM; exact decide_eq_true_iff
/-- A list of 1..m valid measurements. -/
def msOK (m : Int) (l : List (Int × Int)) : Bool := decide (1 ≤ (l.length : Int) ∧ (l.length : Int) ≤ m) && l.all okM
structure MsOK (m : Int) (l : List (Int × Int)) : Prop where
  pos : 1 ≤ (l.length : Int)
  len : (l.length : Int) ≤ m
  all : ∀ q ∈ l, okM q = true
theorem msOK_iff {m : Int} {l : List (Int × Int)} : msOK m l = true ↔ MsOK m l := by
  unfold msOK
  rw [Bool.and_eq_true, decide_eq_true_iff, List.all_eq_true]
  exact ⟨fun ⟨⟨a, b⟩, c⟩ => ⟨a, b, c⟩, fun ⟨a, b, c⟩ => ⟨⟨a, b⟩, c⟩⟩
theorem msOK_not {m : Int} {l : List (Int × Int)} (h : MsOK m l → False) : msOK m l = false := by
  rw [Bool.eq_false_iff]
  exact fun e => h (msOK_iff.1 e)
theorem any_not (l : List (Int × Int)) : (l.any fun q => !okM q) = !l.all okM := by
  rw [← List.not_all_eq_any_not]
theorem isAge_any (x : Int) (w : World) :
    Calls Try.prog 97 #[.int .i64 x] w fun e w' => e = .returned (.bool (decide (0 ≤ x ∧ x ≤ 60000))) ∧ w' = w := by
  go_enter Try.func97, Try.ntmps97
  by_cases h1 : 0 ≤ x
  · by_cases h2 : x ≤ 60000
    · rw [show decide (0 ≤ x ∧ x ≤ 60000) = true from decide_eq_true ⟨h1, h2⟩]
      go_wp2_with fail
      go_ret
      exact ⟨rfl, rfl⟩
    · rw [show decide (0 ≤ x ∧ x ≤ 60000) = false from decide_eq_false fun h => h2 h.2]
      go_wp2_with fail
      go_ret
      exact ⟨rfl, rfl⟩
  · rw [show decide (0 ≤ x ∧ x ≤ 60000) = false from decide_eq_false fun h => h1 h.1]
    go_wp2_with fail
    go_ret
    exact ⟨rfl, rfl⟩
theorem isMeas_any (x y : Int) (w : World) :
    Calls Try.prog 71 #[.agg #[.int .i64 x, .int .i64 y]] w fun e w' => e = .returned (.bool (okM (x, y))) ∧ Below w.heap.size w w' := by
  have hb := Lib.hid (below_alloc w (.cells #[.int .i64 x, .int .i64 y] 45))
  have f1 := box_first w (.int .i64 x) (.int .i64 y) 45
  have f2 := box_second w (.int .i64 x) (.int .i64 y) 45
  obtain ⟨r, hr⟩ : ∃ r, r = okM (x, y) := ⟨_, rfl⟩
  rw [← hr]
  have HR := Lib.hid hr
  clear hr
  go_enter Try.func71, Try.ntmps71
  go_wp2_with fail
  generalize w.alloc (.cells #[.int .i64 x, .int .i64 y] 45) = W at *
  refine (isAge_any x W).mono ?_
  rintro e w1 ⟨rfl, rfl⟩
  by_cases hx : 0 ≤ x ∧ x ≤ 60000
  · rw [decide_eq_true hx]
    by_cases h1 : 1 ≤ y
    · by_cases h2 : y ≤ 1000
      · have HF := Lib.hid (HR.out.trans (okM_iff.2 ⟨hx, h1, h2⟩))
        go_wp2_with fail
        go_ret
        exact ⟨by rw [HF.out]; rfl, hb.out⟩
      · have HF : Hid (r = false) := by rw [HR.out]; exact Bool.eq_false_iff.2 fun e => h2 (okM_iff.1 e).2.2
        have hd2 : decide (y ≤ 1000) = false := decide_eq_false h2
        go_wp2_with fail
        go_ret
        exact ⟨by rw [HF.out]; rfl, hb.out⟩
    · have HF : Hid (r = false) := by rw [HR.out]; exact Bool.eq_false_iff.2 fun e => h1 (okM_iff.1 e).2.1
      go_wp2_with fail
      go_ret
      exact ⟨by rw [HF.out]; rfl, hb.out⟩
  · have HF : Hid (r = false) := by rw [HR.out]; exact Bool.eq_false_iff.2 fun e => hx (okM_iff.1 e).1
    rw [decide_eq_false hx]
    go_wp2_with fail
    go_ret
    exact ⟨by rw [HF.out]; rfl, hb.out⟩
theorem clo_any (x y : Int) (w : World) :
    Calls Try.prog 103 #[.agg #[.int .i64 x, .int .i64 y]] w fun e w' => e = .returned (.bool (!okM (x, y))) ∧ Below w.heap.size w w' := by
  have hb := Lib.hid (below_alloc w (.cells #[.int .i64 x, .int .i64 y] 45))
  have f1 := box_first w (.int .i64 x) (.int .i64 y) 45
  have f2 := box_second w (.int .i64 x) (.int .i64 y) 45
  have HM := Lib.hid (isMeas_any x y)
  generalize okM (x, y) = r at *
  go_enter Try.func103, Try.ntmps103
  go_wp2_with fail
  generalize w.alloc (.cells #[.int .i64 x, .int .i64 y] 45) = W at *
  refine (HM.out W).mono ?_
  rintro e w1 ⟨rfl, b⟩
  have HB := Lib.hid (hb.out.trans (b.mono hb.out.size))
  clear b
  cases r with
  | true =>
    go_wp2_with fail
    go_ret
    exact ⟨rfl, HB.out⟩
  | false =>
    go_wp2_with fail
    go_ret
    exact ⟨rfl, HB.out⟩
set_option maxRecDepth 100000 in
set_option maxHeartbeats 2000000 in
theorem are_any (m : Int) (a : Option Addr) (n c : Nat) (l : List (Int × Int)) (w : World) (hn : n ≤ 1048576) (h : Holds w a n l) :
    Calls Try.prog 76 #[.slice a n c, .int .i64 m] w fun e w' => e = .returned (.bool (msOK m l)) ∧ Below w.heap.size w w' := by
  have HL := Lib.hid h.1
  have H := Lib.hid h
  obtain ⟨r, hr⟩ : ∃ r, r = msOK m l := ⟨_, rfl⟩
  rw [← hr]
  have HR := Lib.hid hr
  clear hr h
  go_enter Try.func76, Try.ntmps76
  by_cases h1 : (1 : Int) ≤ n
  · by_cases h2 : (n : Int) ≤ m
    · go_wp2_with fail
      refine (FuncP.contains_any 103 #[] (fun q => !okM q) a n c l _ hn H.out (fun args W => FuncP.call_enter Try.func103 (by kernel_rfl) rfl args W) (fun x y wr _ hbr => clo_any x y wr)).mono ?_
      rintro e w1 ⟨rfl, b⟩
      have HB := Lib.hid b
      have HF : Hid (r = !(l.any fun q => !okM q)) := by
        unfold Hid
        rw [HR.out, any_not, Bool.not_not]
        unfold msOK
        rw [HL.out, decide_eq_true (And.intro h1 h2), Bool.true_and]
      clear b
      generalize (l.any fun q => !okM q) = v at *
      cases v with
      | true =>
        go_wp2_with fail
        go_ret
        exact ⟨by rw [HF.out]; rfl, HB.out⟩
      | false =>
        go_wp2_with fail
        go_ret
        exact ⟨by rw [HF.out]; rfl, HB.out⟩
    · have HF := Lib.hid (HR.out.trans (msOK_not (m := m) (l := l) fun o => h2 (by have := o.len; rw [HL.out] at this; exact this)))
      go_wp2_with fail
      go_ret
      exact ⟨by rw [HF.out]; rfl, Below.refl _ _⟩
  · have HF := Lib.hid (HR.out.trans (msOK_not (m := m) (l := l) fun o => h1 (by have := o.pos; rw [HL.out] at this; exact this)))
    go_wp2_with fail
    go_ret
    exact ⟨by rw [HF.out]; rfl, Below.refl _ _⟩
theorem measured_any (x y : Int) (w : World) :
    Calls Try.prog 68 #[.agg #[.int .i64 x, .int .i64 y]] w fun e w' => e = .returned (.bool (okM (x, y))) ∧ Below w.heap.size w w' := by
  have hb := Lib.hid (below_alloc w (.cells #[.int .i64 x, .int .i64 y] 45))
  have f1 := box_first w (.int .i64 x) (.int .i64 y) 45
  have f2 := box_second w (.int .i64 x) (.int .i64 y) 45
  obtain ⟨r, hr⟩ : ∃ r, r = okM (x, y) := ⟨_, rfl⟩
  rw [← hr]
  have HR : Hid (r = (decide (0 ≤ x ∧ x ≤ 60000) && decide (1 ≤ y ∧ y ≤ 1000))) := by
    unfold Hid
    rw [hr]
    unfold okM
    rw [Bool.decide_and]
  clear hr
  go_enter Try.func68, Try.ntmps68
  go_wp2_with fail
  generalize w.alloc (.cells #[.int .i64 x, .int .i64 y] 45) = W at *
  refine (DvG.l1In_any x 0 60000 W).mono ?_
  rintro e w1 ⟨rfl, rfl⟩
  generalize decide (0 ≤ x ∧ x ≤ 60000) = u at *
  cases u with
  | true =>
    go_wp2_with fail
    refine (DvG.l1In_any y 1 1000 _).mono ?_
    rintro e w2 ⟨rfl, rfl⟩
    generalize decide (1 ≤ y ∧ y ≤ 1000) = v at *
    cases v with
    | true =>
      go_wp2_with fail
      go_ret
      exact ⟨by rw [HR.out]; rfl, hb.out⟩
    | false =>
      go_wp2_with fail
      go_ret
      exact ⟨by rw [HR.out]; rfl, hb.out⟩
  | false =>
    go_wp2_with fail
    go_ret
    exact ⟨by rw [HR.out]; rfl, hb.out⟩
set_option maxRecDepth 100000 in
set_option maxHeartbeats 2000000 in
theorem list_any (a : Option Addr) (n c : Nat) (l : List (Int × Int)) (w : World) (hn : n ≤ 1048576) (h : Holds w a n l) :
    Calls Try.prog 75 #[.slice a n c] w fun e w' => e = .returned (.bool (msOK 10 l)) ∧ Below w.heap.size w w' := by
  have HL := Lib.hid h.1
  have H := Lib.hid h
  obtain ⟨r, hr⟩ : ∃ r, r = msOK 10 l := ⟨_, rfl⟩
  rw [← hr]
  have HR := Lib.hid hr
  clear hr h
  go_enter Try.func75, Try.ntmps75
  go_wp2_with fail
  go_loopw [3] (fun s3 wr => ∃ k : Nat, k ≤ n ∧ k ≤ 11 ∧ s3 = .int .i64 k ∧ Hid (∀ q ∈ l.take k, okM q = true) ∧ Hid (Below w.heap.size w wr)) (fun s3 _ => n - (intOf s3).toNat)
  case atStart => exact ⟨0, Nat.zero_le _, by omega, rfl, fun q hq => by simp at hq, Below.refl _ _⟩
  case round =>
    obtain ⟨k, hk, hk11, rfl, HP, HB⟩ := hrel
    by_cases hlt : k < n
    · have hkn : (k : Int) < (n : Int) := by omega
      have hk0 : (0 : Int) ≤ (k : Int) := by omega
      by_cases h10 : k ≤ 10
      · have hk10 : (k : Int) ≤ 10 := by omega
        obtain ⟨b, off, x, y, rfl, hx, e1, e2⟩ := (H.out.below HB.out).at k hlt
        have HX := Lib.hid hx
        clear hx
        go_wp2_with fail
        refine (measured_any x y wr).mono ?_
        rintro e w2 ⟨rfl, b2⟩
        have HB2 := Lib.hid (HB.out.trans (b2.mono HB.out.size))
        clear b2 e1 e2
        cases hq : okM (x, y) with
        | true =>
          have HP2 : Hid (∀ q ∈ l.take (k + 1), okM q = true) := by
            intro q hqm
            rw [List.take_add_one, HX.out] at hqm
            rcases List.mem_append.1 hqm with hv | hv
            · exact HP.out q hv
            · obtain rfl : q = (x, y) := by simpa using hv
              exact hq
          clear hq
          go_wp2_with fail
          exact ⟨⟨k + 1, by omega, by omega, by go_num, HP2, HB2⟩, by simp [intOf]; omega⟩
        | false =>
          have HF := Lib.hid (HR.out.trans (msOK_not (m := 10) (l := l) fun o => by have := o.all _ (List.mem_of_getElem? HX.out); rw [hq] at this; cases this))
          clear hq
          go_wp2_with fail
          go_ret
          exact ⟨by rw [HF.out]; rfl, HB2.out⟩
      · have hk10 : ¬ (k : Int) ≤ 10 := by omega
        have hn10 : ¬ ((1 : Int) ≤ n ∧ (n : Int) ≤ 10) := by omega
        have HF := Lib.hid (HR.out.trans (msOK_not (m := 10) (l := l) fun o => by have := o.len; rw [HL.out] at this; omega))
        go_wp2_with fail
        refine (DvG.l1In_any (n : Int) 1 10 _).mono ?_
        rintro e w2 ⟨rfl, rfl⟩
        rw [decide_eq_false hn10]
        go_wp2_with fail
        go_ret
        exact ⟨by rw [HF.out]; rfl, HB.out⟩
    · obtain rfl : k = n := by omega
      have hkn : ¬ (k : Int) < (k : Int) := by omega
      have HF : Hid (r = decide ((1 : Int) ≤ k ∧ (k : Int) ≤ 10)) := by
        unfold Hid
        rw [HR.out]
        unfold msOK
        rw [HL.out, show l.all okM = true from List.all_eq_true.2 (fun q hq => HP.out q (by rw [List.take_of_length_le (by rw [HL.out]; exact Nat.le_refl _)]; exact hq)), Bool.and_true]
      go_wp2_with fail
      refine (DvG.l1In_any (k : Int) 1 10 _).mono ?_
      rintro e w2 ⟨rfl, rfl⟩
      generalize decide ((1 : Int) ≤ k ∧ (k : Int) ≤ 10) = v at *
      go_wp2_with fail
      go_ret
      exact ⟨by rw [HF.out]; rfl, HB.out⟩
end Go.Proofs.Ytlpcgchekhoieaa.MsM
