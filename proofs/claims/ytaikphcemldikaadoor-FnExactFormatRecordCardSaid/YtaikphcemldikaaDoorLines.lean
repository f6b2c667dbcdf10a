/- The lines of a record's text: contextLine and relationLine, the program's and the model's. -/
import Derived.Test.YtaikphcemldikaaDoorListI
import Derived.Test.YtaikphcemldikaaDoorPairs
import Derived.BigQuiet
import Derived.Lib.QuietBelow
import Derived.Deep.RegionHeld3
import Derived.Deep.DeepCutAuto
namespace Go.Proofs.YtaikphcemldikaaDoor.Lines
open Go.RowKit Num ListS ListI Words Pairs

def ctxB : ByteArray := ⟨#[99, 111, 110, 116, 101, 120, 116, 32]⟩
def spB : ByteArray := ⟨#[32]⟩
def abvB : ByteArray := ⟨#[32, 97, 98, 111, 118, 101, 32]⟩
def lineC (p : Int × Int) : ByteArray := ctxB ++ itB p.1 ++ spB ++ word p.2.toNat
def lineR (p : Int × Int) : ByteArray := itB p.1 ++ abvB ++ itB p.2
theorem word_size (k : Nat) : (word k).size ≤ 9 := by
  unfold word
  split <;> decide
theorem lineC_size {p : Int × Int} (h : inR p.1) : (lineC p).size ≤ 40 := by
  unfold lineC
  have h1 := itB_size h
  have h2 := word_size p.2.toNat
  have e1 : ctxB.size = 8 := rfl
  have e2 : spB.size = 1 := rfl
  rw [ByteArray.size_append, ByteArray.size_append, ByteArray.size_append]
  omega
theorem lineR_size {p : Int × Int} (h : inR p.1) (h2 : inR p.2) : (lineR p).size ≤ 50 := by
  unfold lineR
  have h1 := itB_size h
  have h2 := itB_size h2
  have e1 : abvB.size = 7 := rfl
  rw [ByteArray.size_append, ByteArray.size_append]
  omega
def Vars (w : World) : Prop := Tab w ∧ KTab w
theorem Vars.below {w w' : World} (h : Vars w) (hb : Below w.heap.size w w') : Vars w' := ⟨h.1.below hb, h.2.below hb⟩
def Text (s : ByteArray) (w : World) (e : Ending) (w' : World) : Prop := e = .returned (.string s) ∧ Below w.heap.size w w'
set_option maxRecDepth 100000 in
set_option maxHeartbeats 4000000 in
theorem ctx_impl (x y : Int) (w : World) (hx : inR x) (hy : 1 ≤ y ∧ y ≤ 4) (hv : Vars w) :
    Calls Tryd.prog 39 #[.agg #[.int .i64 x, .int .i64 y]] w (Text (lineC (x, y)) w) := by
  have hb := below_alloc w (.cells #[.int .i64 x, .int .i64 y] 61)
  have u1 := box_first w (.int .i64 x) (.int .i64 y) 61
  have u2 := box_second w (.int .i64 x) (.int .i64 y) 61
  have HVV := Lib.hid (hv.below hb)
  have HIT := Lib.hid (fun W (ht : Tab W) => itoa_any x W hx ht)
  have hsz := itB_size hx
  have hlc : lineC (x, y) = ctxB ++ itB x ++ spB ++ word y.toNat := rfl
  generalize lineC (x, y) = ln at *
  clear hv hx
  generalize itB x = s at *
  have hadd1 := fun W : World => run_string_add_sum (P := Tryd.prog) W ⟨#[99, 111, 110, 116, 101, 120, 116, 32]⟩ s (by show 8 + _ ≤ _; omega)
  have hadd2 := fun W : World => run_string_add_sum (P := Tryd.prog) W (⟨#[99, 111, 110, 116, 101, 120, 116, 32]⟩ ++ s) ⟨#[32]⟩ (by rw [ByteArray.size_append]; show 8 + _ + 1 ≤ _; omega)
  rcases four hy with rfl | rfl | rfl | rfl
  all_goals clear hy
  all_goals have HLC := Lib.hid hlc
  all_goals clear hlc
  all_goals go_enter Tryd.func39, Tryd.ntmps39
  all_goals go_wp2_with fail
  all_goals generalize w.alloc (.cells #[.int .i64 x, .int .i64 _] 61) = Z at *
  · have c := HVV.out.2.cell 1
    have hadd3 := fun W : World => run_string_add_sum (P := Tryd.prog) W (⟨#[99, 111, 110, 116, 101, 120, 116, 32]⟩ ++ s ++ ⟨#[32]⟩) (word 1) (by rw [ByteArray.size_append, ByteArray.size_append]; show 8 + _ + 1 + 7 ≤ _; omega)
    have k1 := cell_regrown u1
    have k2 := cell_regrown u2
    have k3 := cell_regrown (show Z.cell? ⟨0, 1, none⟩ = some (.string (word 1)) from c)
    have cI : ∀ d os, Calls Tryd.prog 70 #[.int .i64 x] (Sort.grow (redrawn Z d) os) fun e w'' => e = .returned (.string s) ∧ ∃ p : Regrown, w'' = Sort.grow (redrawn Z p.d) p.os := fun d os => Calls.regrown_of (HIT.out _ (HVV.out.1.below (below_regrown Z d os)))
    clear c u1 u2
    refine wp_region_quiet_below (by kernel_rfl) (by kernel_rfl) ?_
    repeat (go_big_quiet_step (first | (go_at_call 70; exact cI _ _)))
    refine wpQuiet_nil ?_
    intro _ hw'
    obtain ⟨⟨dq, osq⟩, hw''⟩ := hw'
    subst hw''
    go_wp2_with fail
    go_ret
    exact ⟨by rw [HLC.out]; rfl, hb.trans ((below_regrown Z dq osq).mono hb.size)⟩
  · have c := HVV.out.2.cell 2
    have hadd3 := fun W : World => run_string_add_sum (P := Tryd.prog) W (⟨#[99, 111, 110, 116, 101, 120, 116, 32]⟩ ++ s ++ ⟨#[32]⟩) (word 2) (by rw [ByteArray.size_append, ByteArray.size_append]; show 8 + _ + 1 + 3 ≤ _; omega)
    have k1 := cell_regrown u1
    have k2 := cell_regrown u2
    have k3 := cell_regrown (show Z.cell? ⟨0, 2, none⟩ = some (.string (word 2)) from c)
    have cI : ∀ d os, Calls Tryd.prog 70 #[.int .i64 x] (Sort.grow (redrawn Z d) os) fun e w'' => e = .returned (.string s) ∧ ∃ p : Regrown, w'' = Sort.grow (redrawn Z p.d) p.os := fun d os => Calls.regrown_of (HIT.out _ (HVV.out.1.below (below_regrown Z d os)))
    clear c u1 u2
    refine wp_region_quiet_below (by kernel_rfl) (by kernel_rfl) ?_
    repeat (go_big_quiet_step (first | (go_at_call 70; exact cI _ _)))
    refine wpQuiet_nil ?_
    intro _ hw'
    obtain ⟨⟨dq, osq⟩, hw''⟩ := hw'
    subst hw''
    go_wp2_with fail
    go_ret
    exact ⟨by rw [HLC.out]; rfl, hb.trans ((below_regrown Z dq osq).mono hb.size)⟩
  · have c := HVV.out.2.cell 3
    have hadd3 := fun W : World => run_string_add_sum (P := Tryd.prog) W (⟨#[99, 111, 110, 116, 101, 120, 116, 32]⟩ ++ s ++ ⟨#[32]⟩) (word 3) (by rw [ByteArray.size_append, ByteArray.size_append]; show 8 + _ + 1 + 9 ≤ _; omega)
    have k1 := cell_regrown u1
    have k2 := cell_regrown u2
    have k3 := cell_regrown (show Z.cell? ⟨0, 3, none⟩ = some (.string (word 3)) from c)
    have cI : ∀ d os, Calls Tryd.prog 70 #[.int .i64 x] (Sort.grow (redrawn Z d) os) fun e w'' => e = .returned (.string s) ∧ ∃ p : Regrown, w'' = Sort.grow (redrawn Z p.d) p.os := fun d os => Calls.regrown_of (HIT.out _ (HVV.out.1.below (below_regrown Z d os)))
    clear c u1 u2
    refine wp_region_quiet_below (by kernel_rfl) (by kernel_rfl) ?_
    repeat (go_big_quiet_step (first | (go_at_call 70; exact cI _ _)))
    refine wpQuiet_nil ?_
    intro _ hw'
    obtain ⟨⟨dq, osq⟩, hw''⟩ := hw'
    subst hw''
    go_wp2_with fail
    go_ret
    exact ⟨by rw [HLC.out]; rfl, hb.trans ((below_regrown Z dq osq).mono hb.size)⟩
  · have c := HVV.out.2.cell 4
    have hadd3 := fun W : World => run_string_add_sum (P := Tryd.prog) W (⟨#[99, 111, 110, 116, 101, 120, 116, 32]⟩ ++ s ++ ⟨#[32]⟩) (word 4) (by rw [ByteArray.size_append, ByteArray.size_append]; show 8 + _ + 1 + 7 ≤ _; omega)
    have k1 := cell_regrown u1
    have k2 := cell_regrown u2
    have k3 := cell_regrown (show Z.cell? ⟨0, 4, none⟩ = some (.string (word 4)) from c)
    have cI : ∀ d os, Calls Tryd.prog 70 #[.int .i64 x] (Sort.grow (redrawn Z d) os) fun e w'' => e = .returned (.string s) ∧ ∃ p : Regrown, w'' = Sort.grow (redrawn Z p.d) p.os := fun d os => Calls.regrown_of (HIT.out _ (HVV.out.1.below (below_regrown Z d os)))
    clear c u1 u2
    refine wp_region_quiet_below (by kernel_rfl) (by kernel_rfl) ?_
    repeat (go_big_quiet_step (first | (go_at_call 70; exact cI _ _)))
    refine wpQuiet_nil ?_
    intro _ hw'
    obtain ⟨⟨dq, osq⟩, hw''⟩ := hw'
    subst hw''
    go_wp2_with fail
    go_ret
    exact ⟨by rw [HLC.out]; rfl, hb.trans ((below_regrown Z dq osq).mono hb.size)⟩
set_option maxRecDepth 100000 in
set_option maxHeartbeats 4000000 in
theorem rel_impl (x y : Int) (w : World) (hx : inR x) (hy : inR y) (hv : Tab w) :
    Calls Tryd.prog 41 #[.agg #[.int .i64 x, .int .i64 y]] w (Text (lineR (x, y)) w) := by
  have hb := below_alloc w (.cells #[.int .i64 x, .int .i64 y] 63)
  have u1 := box_first w (.int .i64 x) (.int .i64 y) 63
  have u2 := box_second w (.int .i64 x) (.int .i64 y) 63
  have HVV := Lib.hid (hv.below hb)
  have HIX := Lib.hid (fun W (ht : Tab W) => itoa_any x W hx ht)
  have HIY := Lib.hid (fun W (ht : Tab W) => itoa_any y W hy ht)
  have hsx := itB_size hx
  have hsy := itB_size hy
  have hlc : lineR (x, y) = itB x ++ abvB ++ itB y := rfl
  generalize lineR (x, y) = ln at *
  clear hv hx hy
  generalize itB x = s at *
  generalize itB y = t at *
  have HLC := Lib.hid hlc
  have hadd1 := fun W : World => run_string_add_sum (P := Tryd.prog) W s ⟨#[32, 97, 98, 111, 118, 101, 32]⟩ (by show _ + 7 ≤ _; omega)
  have hadd2 := fun W : World => run_string_add_sum (P := Tryd.prog) W (s ++ ⟨#[32, 97, 98, 111, 118, 101, 32]⟩) t (by rw [ByteArray.size_append]; show _ + 7 + _ ≤ _; omega)
  clear hlc
  go_enter Tryd.func41, Tryd.ntmps41
  go_wp2_with fail
  generalize w.alloc (.cells #[.int .i64 x, .int .i64 y] 63) = Z at *
  have k1 := cell_regrown u1
  have k2 := cell_regrown u2
  have cX : ∀ d os, Calls Tryd.prog 70 #[.int .i64 x] (Sort.grow (redrawn Z d) os) fun e w'' => e = .returned (.string s) ∧ ∃ p : Regrown, w'' = Sort.grow (redrawn Z p.d) p.os := fun d os => Calls.regrown_of (HIX.out _ (HVV.out.below (below_regrown Z d os)))
  have cY : ∀ d os, Calls Tryd.prog 70 #[.int .i64 y] (Sort.grow (redrawn Z d) os) fun e w'' => e = .returned (.string t) ∧ ∃ p : Regrown, w'' = Sort.grow (redrawn Z p.d) p.os := fun d os => Calls.regrown_of (HIY.out _ (HVV.out.below (below_regrown Z d os)))
  clear u1 u2
  refine wp_region_quiet_below (by kernel_rfl) (by kernel_rfl) ?_
  repeat (go_big_quiet_step (first | (go_at_call_of 70 x; exact cX _ _) | (go_at_call_of 70 y; exact cY _ _)))
  refine wpQuiet_nil ?_
  intro _ hw'
  obtain ⟨⟨dq, osq⟩, hw''⟩ := hw'
  subst hw''
  go_wp2_with fail
  go_ret
  exact ⟨by rw [HLC.out]; rfl, hb.trans ((below_regrown Z dq osq).mono hb.size)⟩
set_option maxRecDepth 100000 in
set_option maxHeartbeats 4000000 in
theorem rel_spec (x y : Int) (w : World) (hx : inR x) (hy : inR y) :
    Calls Tryd.prog 35 #[.agg #[.int .i64 x, .int .i64 y]] w (Text (lineR (x, y)) w) := by
  have hb := below_alloc w (.cells #[.int .i64 x, .int .i64 y] 63)
  have u1 := box_first w (.int .i64 x) (.int .i64 y) 63
  have u2 := box_second w (.int .i64 x) (.int .i64 y) 63
  have HIX := Lib.hid (fun W => num_it x W hx)
  have HIY := Lib.hid (fun W => num_it y W hy)
  have hsx := itB_size hx
  have hsy := itB_size hy
  have hlc : lineR (x, y) = itB x ++ abvB ++ itB y := rfl
  generalize lineR (x, y) = ln at *
  clear hx hy
  generalize itB x = s at *
  generalize itB y = t at *
  have HLC := Lib.hid hlc
  have hadd1 := fun W : World => run_string_add_sum (P := Tryd.prog) W s ⟨#[32, 97, 98, 111, 118, 101, 32]⟩ (by show _ + 7 ≤ _; omega)
  have hadd2 := fun W : World => run_string_add_sum (P := Tryd.prog) W (s ++ ⟨#[32, 97, 98, 111, 118, 101, 32]⟩) t (by rw [ByteArray.size_append]; show _ + 7 + _ ≤ _; omega)
  clear hlc
  go_enter Tryd.func35, Tryd.ntmps35
  go_wp2_with fail
  generalize w.alloc (.cells #[.int .i64 x, .int .i64 y] 63) = Z at *
  have k1 := cell_regrown u1
  have k2 := cell_regrown u2
  have cX : ∀ d os, Calls Tryd.prog 65 #[.int .i64 x] (Sort.grow (redrawn Z d) os) fun e w'' => e = .returned (.string s) ∧ ∃ p : Regrown, w'' = Sort.grow (redrawn Z p.d) p.os := fun d os => Calls.regrown_of (HIX.out _)
  have cY : ∀ d os, Calls Tryd.prog 65 #[.int .i64 y] (Sort.grow (redrawn Z d) os) fun e w'' => e = .returned (.string t) ∧ ∃ p : Regrown, w'' = Sort.grow (redrawn Z p.d) p.os := fun d os => Calls.regrown_of (HIY.out _)
  clear u1 u2
  refine wp_region_quiet_below (by kernel_rfl) (by kernel_rfl) ?_
  repeat (go_big_quiet_step (first | (go_at_call_of 65 x; exact cX _ _) | (go_at_call_of 65 y; exact cY _ _)))
  refine wpQuiet_nil ?_
  intro _ hw'
  obtain ⟨⟨dq, osq⟩, hw''⟩ := hw'
  subst hw''
  go_wp2_with fail
  go_ret
  exact ⟨by rw [HLC.out]; rfl, hb.trans ((below_regrown Z dq osq).mono hb.size)⟩
theorem words_k (k : Nat) (hk : k ≤ 4) (W : World) : Calls Tryd.prog 66 #[] W fun e w' => ∃ g : Nat, e = .returned (.slice (some ⟨g, 0, none⟩) 5 5) ∧ w'.cell? ⟨g, k, none⟩ = some (.string (word k)) ∧ g < w'.heap.size ∧ Below W.heap.size W w' := by
  refine (l3Words_any W).mono ?_
  rintro e w' ⟨rfl, rfl⟩
  refine ⟨_, rfl, ?_, by simp, below_alloc W _⟩
  rw [words_cell]
  rcases (show k = 0 ∨ k = 1 ∨ k = 2 ∨ k = 3 ∨ k = 4 by omega) with rfl | rfl | rfl | rfl | rfl <;> rfl
set_option maxRecDepth 100000 in
set_option maxHeartbeats 8000000 in
theorem ctx_spec (x y : Int) (w : World) (hx : inR x) (hy : 1 ≤ y ∧ y ≤ 4) :
    Calls Tryd.prog 34 #[.agg #[.int .i64 x, .int .i64 y]] w (Text (lineC (x, y)) w) := by
  obtain ⟨k, rfl⟩ := Int.eq_ofNat_of_zero_le (show 0 ≤ y by omega)
  have hb := below_alloc w (.cells #[.int .i64 x, .int .i64 (k : Int)] 61)
  have u1 := box_first w (.int .i64 x) (.int .i64 (k : Int)) 61
  have u2 := box_second w (.int .i64 x) (.int .i64 (k : Int)) 61
  have hzs : w.heap.size < (w.alloc (.cells #[.int .i64 x, .int .i64 (k : Int)] 61)).heap.size := by simp
  have HIX := Lib.hid (fun W => num_it x W hx)
  have HW := Lib.hid (fun W => words_k k (by omega) W)
  have hsx := itB_size hx
  have hwz := word_size k
  have hlc : lineC (x, (k : Int)) = ctxB ++ itB x ++ spB ++ word k := rfl
  generalize lineC (x, (k : Int)) = ln at *
  clear hx
  generalize itB x = s at *
  generalize word k = t at *
  have HLC := Lib.hid hlc
  have hadd1 := fun W : World => run_string_add_sum (P := Tryd.prog) W ⟨#[99, 111, 110, 116, 101, 120, 116, 32]⟩ s (by show 8 + _ ≤ _; omega)
  have hadd2 := fun W : World => run_string_add_sum (P := Tryd.prog) W (⟨#[99, 111, 110, 116, 101, 120, 116, 32]⟩ ++ s) ⟨#[32]⟩ (by rw [ByteArray.size_append]; show 8 + _ + 1 ≤ _; omega)
  have hadd3 := fun W : World => run_string_add_sum (P := Tryd.prog) W (⟨#[99, 111, 110, 116, 101, 120, 116, 32]⟩ ++ s ++ ⟨#[32]⟩) t (by rw [ByteArray.size_append, ByteArray.size_append]; show 8 + _ + 1 + _ ≤ _; omega)
  have hk5 : (k : Int) < 5 := by omega
  have hk0 : (0 : Int) ≤ (k : Int) := by omega
  clear hlc
  go_enter Tryd.func34, Tryd.ntmps34
  go_wp2_with fail
  have HB := Lib.hid hb
  generalize w.alloc (.cells #[.int .i64 x, .int .i64 (k : Int)] 61) = Z at *
  have HS : Hid (∀ X, Below Z.heap.size Z X → X.cell? ⟨w.heap.size, 0, none⟩ = some (.int .i64 x) ∧ X.cell? ⟨w.heap.size, 1, none⟩ = some (.int .i64 (k : Int))) := fun X hX => ⟨(hX.cell (p := ⟨w.heap.size, 0, none⟩) hzs).trans u1, (hX.cell (p := ⟨w.heap.size, 1, none⟩) hzs).trans u2⟩
  clear hb
  have zz := HS.out Z.drew (Below.refl Z.heap.size Z).drew
  obtain ⟨z1, z2⟩ := zz
  go_region_with (first
      | (go_at_call 65; refine (HIX.out _).mono ?_; rintro e wN ⟨rfl, hbN⟩; have bN : Below Z.heap.size Z wN := (by first | exact bW.trans (hbN.mono bW.size) | exact (Below.refl Z.heap.size Z).drew.trans hbN); (try (have hwc := (hbN.cell (p := ⟨gw, k, none⟩) hgl).trans hwc)); obtain ⟨n1, n2⟩ := HS.out _ bN)
      | (go_at_call 66; refine (HW.out _).mono ?_; rintro e wW ⟨gw, rfl, hwc, hgl, hbW⟩; have bW : Below Z.heap.size Z wW := (by first | exact bN.trans (hbW.mono bN.size) | exact (Below.refl Z.heap.size Z).drew.trans hbW); obtain ⟨m1, m2⟩ := HS.out _ bW)
      | fail)
  all_goals go_wp2_with fail
  all_goals go_ret
  all_goals refine ⟨by rw [HLC.out]; rfl, ?_⟩
  all_goals first | exact HB.out.trans (bN.mono HB.out.size) | exact HB.out.trans (bW.mono HB.out.size)
end Go.Proofs.YtaikphcemldikaaDoor.Lines
