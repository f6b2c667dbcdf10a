/- The program's contextsThat: the contexts that meet a condition. -/
import Derived.Test.YtjllbbkpmmnkgaaOrder
import Derived.Test.YtjllbbkpmmnkgaaIdx
import Derived.Test.YtjllbbkpmmnkgaaGivesI
namespace Go.Proofs.Ytjllbbkpmmnkgaa.That
open Go.RowKit Pairs Rec Chain Find2 Keep GivesI
theorem call_enter {f : FuncId} {fn : Func} {c : Code} (hf : Try.prog.funcs[f]? = some fn) (hname : (fn.name == "runtime.NumGoroutine") = false) (hb : fn.body = some c) (args : Array Value) (w : World) :
    (callFunc f args).run Try.prog w = .ok (.enter f args) w := by
  have h1 : fn.name ≠ "runtime.NumGoroutine" := by simpa using hname
  simp [callFunc, hf, h1, hb]
theorem belA {W X : World} (h : Below W.heap.size W X) (o : Obj) : Below W.heap.size W (X.alloc o) := h.alloc h.size o
def sel (q : Int → Bool) (l : List (Int × Int)) : List Int := (l.filter (fun p => q p.1)).map (·.1)
theorem sel_next (q : Int → Bool) {l : List (Int × Int)} {k : Nat} {x y : Int} (hx : l[k]? = some (x, y)) : sel q (l.take (k + 1)) = sel q (l.take k) ++ (if q x = true then [x] else []) := by
  unfold sel
  rw [List.take_add_one, hx]
  simp only [Option.toList_some, List.filter_append, List.map_append]
  cases h : q x <;> simp [h]
theorem sel_len (q : Int → Bool) (l : List (Int × Int)) : (sel q l).length ≤ l.length := by unfold sel; rw [List.length_map]; exact List.length_filter_le _ _
theorem ints_append (l1 l2 : List Int) : ints (l1 ++ l2) = ints l1 ++ ints l2 := by unfold ints; rw [List.map_append]
theorem empty_own {T : TypeId} (w : World) : (w.alloc (.cells #[] T)).ownsRow w.heap.size T 1 (.slice (some ⟨w.heap.size, 0, none⟩) 0 0) 0 [] :=
  World.ownsRow_made w #[] 0 (Nat.le_refl _) (by unfold maxLen; omega) (by simp)
theorem infoInt : (Try.prog.info? 3).map (fun i => (i.zero, i.size, i.bytes)) = some (some (.int .i64 0), 1, 8) := by kernel_rfl
/-- A list of its own. -/
def ResL (L : List Int) (w : World) (e : Ending) (w' : World) : Prop :=
  ∃ (p : Option Addr) (k d : Nat), e = .returned (.slice p k d) ∧ w'.ownsRow w.heap.size 3 1 (.slice p k d) k (ints L) ∧ k ≤ 1048576 ∧ Below w.heap.size w w'
def G1 (B : Nat) (w wr : World) (v : Value) (L : List Int) : Prop := wr.ownsRow B 3 1 v L.length (ints L) ∧ Below B w wr
set_option maxRecDepth 100000 in
set_option maxHeartbeats 4000000 in
theorem that_any (f : FuncId) (bs : Array Value) (q : Int → Bool) (a1 a2 : Option Addr) (n1 c1 n2 c2 : Nat) (l : List (Int × Int)) (w : World) (hn : n1 ≤ 10) (h1 : Holds w a1 n1 l)
    (hcall : ∀ (args : Array Value) (W : World), (callFunc f args).run Try.prog W = .ok (.enter f args) W)
    (hf : ∀ x wr, x ∈ keys l → Below w.heap.size w wr → Calls Try.prog f (#[.int .i64 x] ++ bs) wr fun e w' => e = .returned (.bool (q x)) ∧ Below wr.heap.size wr w') :
    Calls Try.prog 33 #[.agg #[.slice a1 n1 c1, .slice a2 n2 c2], .func (.func f) #[] bs] w (ResL (sel q l) w) := by
  obtain ⟨i0, hi, hy0, hy1, hy2⟩ := info_parts infoInt
  have hb := below_alloc w (.cells #[.slice a1 n1 c1, .slice a2 n2 c2] 32)
  have hf1 := box_first w (.slice a1 n1 c1) (.slice a2 n2 c2) 32
  have H1 := Lib.hid (h1.below hb)
  have HL1 := Lib.hid h1.1
  have HF := Lib.hid hf
  have HC := Lib.hid hcall
  have hsz : w.heap.size < (w.alloc (.cells #[.slice a1 n1 c1, .slice a2 n2 c2] 32)).heap.size := by simp
  have hWe : (w.alloc (.cells #[.slice a1 n1 c1, .slice a2 n2 c2] 32)).heap.size = w.heap.size + 1 := by simp
  have HWE := Lib.hid hWe
  clear h1 hf hWe hcall
  go_enter Try.func33, Try.ntmps33
  go_wp2_with fail
  generalize w.alloc (.cells #[.slice a1 n1 c1, .slice a2 n2 c2] 32) = W0 at *
  have he0 := below_alloc W0 (.cells #[] 3)
  have ho0 := empty_own (T := 3) W0
  have hS1 : (W0.alloc (.cells #[] 3)).heap.size = W0.heap.size + 1 := by simp
  have HB := Lib.hid hb
  have HG0 : Hid (G1 W0.heap.size W0 (W0.alloc (.cells #[] 3)) (.slice (some ⟨w.heap.size + 1, 0, none⟩) 0 0) (sel q (l.take 0))) := by
    rw [← HWE.out]
    exact ⟨ho0, he0⟩
  clear hb ho0 he0
  generalize W0.alloc (.cells #[] 3) = W1 at *
  go_loopw [5, 12] (fun s5 s12 wr => ∃ k : Nat, k ≤ n1 ∧ s12 = .int .i64 k ∧ Hid (G1 W0.heap.size W0 wr s5 (sel q (l.take k)))) (fun _ s12 _ => n1 - (intOf s12).toNat)
  case atStart => exact ⟨0, Nat.zero_le _, rfl, HG0⟩
  case round =>
    obtain ⟨k, hk, rfl, HR⟩ := hrel
    clear HG0
    by_cases hlt : k < n1
    · obtain ⟨b, off, x, y, rfl, hx, e1, e2⟩ := (H1.out.below HR.out.2).at k hlt
      have HX := Lib.hid (sel_next q hx)
      have hkn : (k : Int) < (n1 : Int) := by omega
      have hb7 := below_alloc wr (.cells #[.int .i64 x, .int .i64 y] 53)
      have u1 := box_first wr (.int .i64 x) (.int .i64 y) 53
      have u2' := box_second wr (.int .i64 x) (.int .i64 y) 53
      have hz7 : wr.heap.size < (wr.alloc (.cells #[.int .i64 x, .int .i64 y] 53)).heap.size := by simp
      have hBs : W0.heap.size ≤ wr.heap.size := HR.out.2.size
      have hfl := sel_len q (l.take k)
      rw [List.length_take] at hfl
      have HXK : Hid (x ∈ keys l) := List.mem_map.2 ⟨(x, y), List.mem_of_getElem? hx, rfl⟩
      have HB7 := Lib.hid (HB.out.trans ((HR.out.2.trans (hb7.mono hBs)).mono HB.out.size))
      have HW7 := Lib.hid (HR.out.2.trans (hb7.mono hBs))
      have HO7 := Lib.hid (ownsRow_below HR.out.1 hb7)
      clear hx hb7
      go_wp2_with fail
      generalize wr.alloc (.cells #[.int .i64 x, .int .i64 y] 53) = W7 at *
      clear e1 e2
      rw [HC.out, Oper.upon_enter]
      refine (HF.out x W7 HXK.out HB7.out).mono ?_
      rintro e w8 ⟨rfl, b8⟩
      have hown := ownsRow_below HO7.out b8
      have v1 := (b8.cell (p := ⟨wr.heap.size, 0, none⟩) hz7).trans u1
      have HB8 := Lib.hid (HW7.out.trans (b8.mono (Nat.le_trans hBs (Nat.le_of_lt hz7))))
      have hw8 := HB8.out.size
      clear u1 u2' b8
      cases hq : q x with
      | true =>
        have HX2 : Hid (sel q (l.take (k + 1)) = sel q (l.take k) ++ [x]) := by unfold Hid; rw [HX.out, if_pos hq]
        clear HX hq
        go_wp2_with (at_builtin; refine wpList_append_own _ rfl _ _ 40 rfl W0.heap.size 3 i0 (.int .i64 0) 1 8 Try.underlying40 hi hy0 hy1 hy2 rfl (by decide) _ _ _ rfl (hown.alloc _) ⟨w8.heap.size, 0, none⟩ 1 1 [.int .i64 x] rfl rfl (cell_one_new _ _ _) (by simp [Value.oneCell']) (by unfold maxLen; omega) (by omega) (by simp; omega) ?_; intro v' w9 hown' hgrow hnil)
        have hG : G1 W0.heap.size W0 w9 v' (sel q (l.take (k + 1))) := by
          unfold G1
          rw [HX2.out, List.length_append, ints_append]
          exact ⟨hown', (HB8.out.alloc hw8 _).grown hgrow (by simp; omega) (fun j hj => (hown.lt j hj).1)⟩
        have HG := Lib.hid hG
        clear hG hown' hgrow hown hnil
        exact ⟨⟨k + 1, by omega, by go_num, HG⟩, by simp [intOf]; omega⟩
      | false =>
        have HX2 : Hid (sel q (l.take (k + 1)) = sel q (l.take k)) := by unfold Hid; rw [HX.out, if_neg (by rw [hq]; simp), List.append_nil]
        have hG : G1 W0.heap.size W0 w8 u5 (sel q (l.take (k + 1))) := by
          unfold G1
          rw [HX2.out]
          exact ⟨hown, HB8.out⟩
        have HG := Lib.hid hG
        clear hG hown hq HX
        go_wp2_with fail
        exact ⟨⟨k + 1, by omega, by go_num, HG⟩, by simp [intOf]; omega⟩
    · obtain rfl : k = n1 := by omega
      have hkn : ¬ (k : Int) < (k : Int) := by omega
      have hown := HR.out.1
      rw [List.take_of_length_le (by rw [HL1.out]; exact Nat.le_refl _)] at hown
      have hfl := sel_len q l
      rw [HL1.out] at hfl
      have HBD := Lib.hid (HB.out.trans (HR.out.2.mono HB.out.size))
      have HO := Lib.hid hown
      obtain ⟨p, d, rfl⟩ := From.own_form hown
      clear hown
      go_wp2_with fail
      go_ret
      exact ⟨_, _, _, rfl, ownsRow_base HO.out HB.out.size, by omega, HBD.out⟩
end Go.Proofs.Ytjllbbkpmmnkgaa.That
