/- == and != of two relations, and slices.Index over relations. -/
import Derived.Test.YtcbfnhghhbgdkaaExactResolvesRecordSaidPartab
import Derived.Test.YtcbfnhghhbgdkaaExactResolvesRecordSaidPartag
import Derived.Laws.StructEq
import Derived.Shelf.SlicesE.Kit
import Derived.BigQuiet
import Derived.Test.YtcbfnhghhbgdkaaExactResolvesRecordSaidPartaj
import Derived.Test.YtcbfnhghhbgdkaaExactResolvesRecordSaidPartal
import Derived.Test.YtcbfnhghhbgdkaaExactResolvesRecordSaidPartax
import Derived.Test.YtcbfnhghhbgdkaaExactResolvesRecordSaidPartao
import Derived.Test.YtcbfnhghhbgdkaaExactResolvesRecordSaidPartam
import Derived.Maps.AppendAt
namespace Go.Proofs.Ytcbfnhghhbgdkaa.Eq2
open Go.RowKit Pairs Rec RecEq Find2 GoodM RelM

theorem guard2 (op : BinOp) (a b : Operand) (x1 x2 y1 y2 : Int) (w : World) : Sem.run Try.prog (eqGuard op 43 a b (.agg #[.int .i64 x1, .int .i64 x2]) (.agg #[.int .i64 y1, .int .i64 y2])) w = .ok () w :=
  run_eqGuard_agg w op 43 a b _ _ (by kernel_rfl)
theorem equal2 (x1 x2 y1 y2 : Int) (w : World) : Sem.run Try.prog (binOp .eql 43 (.agg #[.int .i64 x1, .int .i64 x2]) (.agg #[.int .i64 y1, .int .i64 y2])) w = .ok (.bool (x1 == y1 && x2 == y2)) w := by
  have u3 := Try.underlying3
  have a3 := Try.isAgg3
  have z3 := Try.sizeOf3
  have hS : Try.prog.underlying 43 = some (.struct (Try.prog.fieldsOf 43)) := by kernel_rfl
  have hp : Try.prog.stoodInHeld 43 = false := by kernel_rfl
  rw [run_eql_struct, show (10000 : Nat) = 9999 + 1 from rfl, run_equalIn_agg w 9999 43 _ _ hS hp]
  simp only [Program.fieldsOf, Try.underlying43]
  go_simp
  by_cases h1 : x1 = y1 <;> by_cases h2 : x2 = y2 <;> simp [h1, h2]
theorem differ2 (x1 x2 y1 y2 : Int) (w : World) : Sem.run Try.prog (binOp .neq 43 (.agg #[.int .i64 x1, .int .i64 x2]) (.agg #[.int .i64 y1, .int .i64 y2])) w = .ok (.bool (!(x1 == y1 && x2 == y2))) w := by
  have u3 := Try.underlying3
  have a3 := Try.isAgg3
  have z3 := Try.sizeOf3
  have hS : Try.prog.underlying 43 = some (.struct (Try.prog.fieldsOf 43)) := by kernel_rfl
  have hp : Try.prog.stoodInHeld 43 = false := by kernel_rfl
  rw [run_neq_struct, show (10000 : Nat) = 9999 + 1 from rfl, run_equalIn_agg w 9999 43 _ _ hS hp]
  simp only [Program.fieldsOf, Try.underlying43]
  go_simp
  by_cases h1 : x1 = y1 <;> by_cases h2 : x2 = y2 <;> simp [h1, h2]
def atR (m : List (Int × Int)) (u v : Int) : Option Nat := m.findIdx? (fun p => p.1 == u && p.2 == v)
def indexR (m : List (Int × Int)) (u v : Int) : Int := match atR m u v with | some k => (k : Int) | none => -1
theorem indexR_some {m : List (Int × Int)} {u v : Int} {k : Nat} (h : atR m u v = some k) : indexR m u v = (k : Int) := by unfold indexR; rw [h]
theorem indexR_none {m : List (Int × Int)} {u v : Int} (h : atR m u v = none) : indexR m u v = -1 := by unfold indexR; rw [h]
theorem atR_here {m : List (Int × Int)} {u v : Int} {k : Nat} (h : ∀ p ∈ m.take k, p ≠ (u, v)) (hk : m[k]? = some (u, v)) : atR m u v = some k := by
  unfold atR
  have hl : k < m.length := (List.getElem?_eq_some_iff.1 hk).1
  rw [List.findIdx?_eq_some_iff_getElem]
  refine ⟨hl, ?_, ?_⟩
  · rw [(List.getElem?_eq_some_iff.1 hk).2]
    simp
  · intro j hj
    have := h m[j] (by rw [List.mem_take_iff_getElem]; exact ⟨j, by omega, rfl⟩)
    intro e
    simp at e
    exact this (Prod.ext e.1 e.2)
theorem atR_none {m : List (Int × Int)} {u v : Int} (h : ∀ p ∈ m, p ≠ (u, v)) : atR m u v = none := by
  unfold atR
  rw [List.findIdx?_eq_none_iff]
  intro p hp
  have := h p hp
  cases e : (p.1 == u && p.2 == v) with
  | false => rfl
  | true =>
    simp at e
    exact absurd (Prod.ext e.1 e.2) this
theorem atR_mem {m : List (Int × Int)} {u v : Int} {k : Nat} (h : atR m u v = some k) : m[k]? = some (u, v) := by
  unfold atR at h
  rw [List.findIdx?_eq_some_iff_getElem] at h
  obtain ⟨hl, h1, _⟩ := h
  simp at h1
  rw [List.getElem?_eq_getElem hl]
  congr 1
  exact Prod.ext h1.1 h1.2
theorem atR_no {m : List (Int × Int)} {u v : Int} (h : atR m u v = none) : (u, v) ∉ m := by
  unfold atR at h
  rw [List.findIdx?_eq_none_iff] at h
  intro hm
  have := h _ hm
  simp at this
set_option maxRecDepth 100000 in
set_option maxHeartbeats 2000000 in
theorem index_any (a : Option Addr) (n c : Nat) (m : List (Int × Int)) (u v : Int) (hz : n ≤ 1048576) (w : World) (h : Holds w a n m) :
    Calls Try.prog 42 #[.slice a n c, .agg #[.int .i64 u, .int .i64 v]] w fun e w' => e = .returned (.int .i64 (indexR m u v)) ∧ Below w.heap.size w w' := by
  have hb := below_alloc w (.cells #[.int .i64 u, .int .i64 v] 43)
  have u1 := box_first w (.int .i64 u) (.int .i64 v) 43
  have u2' := box_second w (.int .i64 u) (.int .i64 v) 43
  have hsz : w.heap.size < (w.alloc (.cells #[.int .i64 u, .int .i64 v] 43)).heap.size := by simp
  have HH := Lib.hid (h.below hb)
  clear h
  go_enter Try.func42, Try.ntmps42
  go_wp2_with fail
  generalize w.alloc (.cells #[.int .i64 u, .int .i64 v] 43) = W at *
  go_loopw [8] (fun s8 wr => ∃ k : Nat, k ≤ n ∧ s8 = .int .i64 k ∧ Below W.heap.size W wr ∧ Hid (∀ p ∈ m.take k, p ≠ (u, v))) (fun s8 _ => n - (intOf s8).toNat)
  case atStart => exact ⟨0, Nat.zero_le _, rfl, Below.refl _ _, fun p hp => by simp at hp⟩
  case round =>
    obtain ⟨k, hk, rfl, hbr, HP⟩ := hrel
    by_cases hlt : k < n
    · obtain ⟨b, off, x, y, rfl, hx, e1, e2⟩ := (HH.out.below hbr).at k hlt
      have HX := Lib.hid hx
      have hkn : (k : Int) < (n : Int) := by omega
      have q1 := (hbr.cell (p := ⟨w.heap.size, 0, none⟩) hsz).trans u1
      have q2 := (hbr.cell (p := ⟨w.heap.size, 1, none⟩) hsz).trans u2'
      have hE := equal2
      have hG := guard2
      clear hx
      by_cases hxy : x = u ∧ y = v
      · obtain ⟨rfl, rfl⟩ := hxy
        have HR := Lib.hid (indexR_some (atR_here HP.out HX.out))
        go_wp2_with fail
        go_quiet (fail)
        go_wp2_with fail
        go_ret
        exact ⟨by rw [HR.out]; rfl, hb.trans ((hbr.trans ((Joins.below_draws _ _ _).mono hbr.size)).mono hb.size)⟩
      · have hbo : (u == x && v == y) = false := by
          cases e : (u == x && v == y) with
          | false => rfl
          | true =>
            simp at e
            exact absurd ⟨e.1.symm, e.2.symm⟩ hxy
        have HP2 : Hid (∀ p ∈ m.take (k + 1), p ≠ (u, v)) := by
          intro p hp
          rw [List.take_add_one, HX.out] at hp
          rcases List.mem_append.1 hp with hp | hp
          · exact HP.out p hp
          · simp at hp
            rw [hp]
            intro e
            injection e with e3 e4
            exact hxy ⟨e3, e4⟩
        clear hxy
        go_wp2_with fail
        go_quiet (fail)
        go_wp2_with fail
        exact ⟨⟨k + 1, by omega, by go_num, hbr.trans ((Joins.below_draws _ _ _).mono hbr.size), HP2⟩, by simp [intOf]; omega⟩
    · obtain rfl : k = n := by omega
      have hkn : ¬ (k : Int) < (k : Int) := by omega
      have HR : Hid (indexR m u v = -1) := indexR_none (atR_none (by
        have := HP.out
        rw [List.take_of_length_le (by rw [HH.out.1]; omega)] at this
        exact this))
      go_wp2_with fail
      go_ret
      exact ⟨by rw [HR.out]; rfl, hb.trans (hbr.mono hb.size)⟩
end Go.Proofs.Ytcbfnhghhbgdkaa.Eq2
/- The program's elementsThat over relations: those that meet a condition. -/
namespace Go.Proofs.Ytcbfnhghhbgdkaa.Elems
open Go.RowKit Pairs Rec Chain Find2 Keep
theorem cell_two_new (w : World) (x y : Value) (t : TypeId) : ∀ j u, [x, y][j]? = some u → (w.alloc (.cells #[x, y] t)).cell? ((⟨w.heap.size, 0, none⟩ : Addr).add j) = some u := by
  intro j u hj
  match j, hj with
  | 0, hj =>
    simp at hj
    subst hj
    exact box_first w x y t
  | 1, hj =>
    simp at hj
    subst hj
    exact box_second w x y t
theorem flat_append (l1 l2 : List (Int × Int)) : flat (l1 ++ l2) = flat l1 ++ flat l2 := by unfold flat; rw [List.flatMap_append]
theorem filt_next (q : Int × Int → Bool) {m : List (Int × Int)} {k : Nat} {x y : Int} (hx : m[k]? = some (x, y)) : (m.take (k + 1)).filter q = (m.take k).filter q ++ (if q (x, y) = true then [(x, y)] else []) := by
  rw [List.take_add_one, hx, List.filter_append]
  cases h : q (x, y) <;> simp [h]
theorem filt_len (q : Int × Int → Bool) (m : List (Int × Int)) (k : Nat) : ((m.take k).filter q).length ≤ k :=
  Nat.le_trans (List.length_filter_le _ _) (by rw [List.length_take]; omega)
theorem own_form {T : TypeId} {B n : Nat} {w : World} {v : Value} {xs : List Value} (h : w.ownsRow B T 2 v n xs) : ∃ p d, v = .slice p n d := by
  rcases h.2 with ⟨hv, hn⟩ | ⟨g, cap, cur, hv, _⟩
  · subst hn
    exact ⟨none, 0, hv⟩
  · exact ⟨_, cap, hv⟩
theorem empty_own {T : TypeId} (w : World) : (w.alloc (.cells #[] T)).ownsRow w.heap.size T 2 (.slice (some ⟨w.heap.size, 0, none⟩) 0 0) 0 [] :=
  World.ownsRow_made w #[] 0 (Nat.le_refl _) (by unfold maxLen; omega) (by simp)
def ResR (L : List (Int × Int)) (w : World) (e : Ending) (w' : World) : Prop :=
  ∃ (p : Option Addr) (k d : Nat), e = .returned (.slice p k d) ∧ w'.ownsRow w.heap.size 43 2 (.slice p k d) k (flat L) ∧ k ≤ 1048576 ∧ Below w.heap.size w w'
def G1 (B : Nat) (w wr : World) (v : Value) (L : List (Int × Int)) : Prop := wr.ownsRow B 43 2 v L.length (flat L) ∧ Below B w wr
set_option maxRecDepth 100000 in
set_option maxHeartbeats 4000000 in
theorem elems_any (f : FuncId) (bs : Array Value) (q : Int × Int → Bool) (a : Option Addr) (n c : Nat) (m : List (Int × Int)) (w : World) (hn : n ≤ 24) (h1 : Holds w a n m)
    (hcall : ∀ (args : Array Value) (W : World), (callFunc f args).run Try.prog W = .ok (.enter f args) W)
    (hf : ∀ x y wr, (x, y) ∈ m → Below w.heap.size w wr → Calls Try.prog f (#[.agg #[.int .i64 x, .int .i64 y]] ++ bs) wr fun e w' => e = .returned (.bool (q (x, y))) ∧ Below wr.heap.size wr w') :
    Calls Try.prog 33 #[.slice a n c, .func (.func f) #[] bs] w (ResR (m.filter q) w) := by
  obtain ⟨i0, hi, hy0, hy1, hy2⟩ := info_parts infoRelation
  have H1 := Lib.hid h1
  have HL1 := Lib.hid h1.1
  have HF := Lib.hid hf
  have HC := Lib.hid hcall
  have he0 := below_alloc w (.cells #[] 43)
  have HE0 := Lib.hid he0
  have HG0 : Hid (G1 w.heap.size w (w.alloc (.cells #[] 43)) (.slice (some ⟨w.heap.size, 0, none⟩) 0 0) ((m.take 0).filter q)) := ⟨empty_own w, he0⟩
  have hs0 : w.heap.size < (w.alloc (.cells #[] 43)).heap.size := by simp
  clear h1 hf hcall he0
  go_enter Try.func33, Try.ntmps33
  go_wp2_with fail
  generalize w.alloc (.cells #[] 43) = W1 at *
  go_loopw [5, 11] (fun s5 s11 wr => ∃ k : Nat, k ≤ n ∧ s11 = .int .i64 k ∧ Hid (G1 w.heap.size w wr s5 ((m.take k).filter q))) (fun _ s11 _ => n - (intOf s11).toNat)
  case atStart => exact ⟨0, Nat.zero_le _, rfl, HG0⟩
  case round =>
    obtain ⟨k, hk, rfl, HR⟩ := hrel
    clear HG0
    by_cases hlt : k < n
    · obtain ⟨b, off, x, y, rfl, hx, e1, e2⟩ := (H1.out.below HR.out.2).at k hlt
      have HX := Lib.hid (filt_next q hx)
      have hkn : (k : Int) < (n : Int) := by omega
      have hb7 := below_alloc wr (.cells #[.int .i64 x, .int .i64 y] 43)
      have u1 := box_first wr (.int .i64 x) (.int .i64 y) 43
      have u2' := box_second wr (.int .i64 x) (.int .i64 y) 43
      have hz7 : wr.heap.size < (wr.alloc (.cells #[.int .i64 x, .int .i64 y] 43)).heap.size := by simp
      have hBs : w.heap.size ≤ wr.heap.size := HR.out.2.size
      have hfl := filt_len q m k
      have HXM : Hid ((x, y) ∈ m) := List.mem_of_getElem? hx
      have HW7 := Lib.hid (HR.out.2.trans (hb7.mono hBs))
      have HO7 := Lib.hid (ownsRow_below HR.out.1 hb7)
      clear hx hb7 HR
      go_wp2_with fail
      generalize wr.alloc (.cells #[.int .i64 x, .int .i64 y] 43) = W7 at *
      clear e1 e2
      rw [HC.out, Oper.upon_enter]
      refine (HF.out x y W7 HXM.out HW7.out).mono ?_
      rintro e w8 ⟨rfl, b8⟩
      have hown := ownsRow_below HO7.out b8
      have v1 := (b8.cell (p := ⟨wr.heap.size, 0, none⟩) hz7).trans u1
      have v2 := (b8.cell (p := ⟨wr.heap.size, 1, none⟩) hz7).trans u2'
      have HB8 := Lib.hid (HW7.out.trans (b8.mono HW7.out.size))
      have hw8 := HB8.out.size
      clear u1 u2' b8
      cases hq : q (x, y) with
      | true =>
        have HX2 : Hid ((m.take (k + 1)).filter q = (m.take k).filter q ++ [(x, y)]) := by unfold Hid; rw [HX.out, if_pos hq]
        clear HX hq
        go_wp2_with (at_builtin; refine wpList_append_own _ rfl _ _ 31 rfl w.heap.size 43 i0 _ 2 16 Try.underlying31 hi hy0 hy1 hy2 rfl (by decide) _ _ _ rfl (hown.alloc _) ⟨w8.heap.size, 0, none⟩ 1 1 [.int .i64 x, .int .i64 y] rfl rfl (cell_two_new _ _ _ _) (by simp [Value.oneCell']) (by unfold maxLen; omega) (by omega) (by simp; omega) ?_; intro v' w9 hown' hgrow hnil)
        have HG : Hid (G1 w.heap.size w w9 v' ((m.take (k + 1)).filter q)) := by
          unfold Hid G1
          rw [HX2.out, List.length_append, flat_append]
          exact ⟨hown', (HB8.out.alloc hw8 _).grown hgrow (by simp; omega) (fun j hj => (hown.lt j hj).1)⟩
        clear hown' hgrow hown hnil
        exact ⟨⟨k + 1, by omega, by go_num, HG⟩, by simp [intOf]; omega⟩
      | false =>
        have HX2 : Hid ((m.take (k + 1)).filter q = (m.take k).filter q) := by unfold Hid; rw [HX.out, if_neg (by rw [hq]; simp), List.append_nil]
        have HG : Hid (G1 w.heap.size w w8 u5 ((m.take (k + 1)).filter q)) := by
          unfold Hid G1
          rw [HX2.out]
          exact ⟨hown, HB8.out⟩
        clear hown hq HX
        go_wp2_with fail
        exact ⟨⟨k + 1, by omega, by go_num, HG⟩, by simp [intOf]; omega⟩
    · obtain rfl : k = n := by omega
      have hkn : ¬ (k : Int) < (k : Int) := by omega
      have hown := HR.out.1
      rw [List.take_of_length_le (by rw [HL1.out]; exact Nat.le_refl _)] at hown
      have hfl : (m.filter q).length ≤ 24 := by
        have := List.length_filter_le q m
        rw [HL1.out] at this
        omega
      have HBD := Lib.hid HR.out.2
      obtain ⟨p, d, rfl⟩ := own_form hown
      have HO := Lib.hid hown
      clear hown
      go_wp2_with fail
      go_ret
      exact ⟨_, _, _, rfl, HO.out, by omega, HBD.out⟩
end Go.Proofs.Ytcbfnhghhbgdkaa.Elems
