/- slices.DeleteFunc, IndexFunc and ContainsFunc over relations, with any closure that answers by a mathematical function. -/
import Derived.Test.YtfjpogohdoojmaaCopy
import Derived.Deep.RegionLaw
namespace Go.Proofs.Ytfjpogohdoojmaa.DelG
open Go.RowKit Pairs Rec Keep Row2 Copy
theorem setCells_row {w : World} {g o : Nat} {vs cur : List Value} {T : TypeId} (hg : w.heap[g]? = some (.cells cur.toArray T)) (h : o + vs.length ≤ cur.length) (h1 : ∀ v ∈ vs, v.oneCell' = true) : w.setCells g o vs = w.setRow g (splice cur o vs).toArray := by
  have a := run_storeCells_at Try.prog g o T vs 0 cur.toArray w hg (by simpa using h) h1
  have c : ∀ j, j < vs.length → (w.cell? ⟨g, o + j, none⟩).isSome = true := fun j hj => by simp [World.cell?, hg]; omega
  have b := run_storeCells_cells (P := Try.prog) g o vs 0 w (by simpa using c) (fun j _ => by simp [World.frozen?, hg]) h1
  rw [a] at b
  injection b with _ b
  simp only [Nat.add_zero] at b
  rw [← b]
  unfold splice
  simp
theorem flat_app (l1 l2 : List (Int × Int)) : flat (l1 ++ l2) = flat l1 ++ flat l2 := by unfold flat; rw [List.flatMap_append]
theorem kept_setCells {S : Nat → Prop} {w w' : World} (h : Kept S w w') {g : Nat} (hg : S g) : ∀ {o : Nat} (vs : List Value), Kept S w (w'.setCells g o vs) := by
  intro o vs
  induction vs generalizing w' o with
  | nil => exact h
  | cons v vs ih => exact ih (h.setCell hg v)
theorem filt_next (q : Int × Int → Bool) {m : List (Int × Int)} {k : Nat} {x y : Int} (hx : m[k]? = some (x, y)) : (m.take (k + 1)).filter q = (m.take k).filter q ++ (if q (x, y) then [(x, y)] else []) := by
  rw [List.take_add_one, hx, List.filter_append]
  cases h : q (x, y) <;> simp [h]
/-- Where the first relation stands that is dropped. -/
def dropAt (Q : Int × Int → Bool) (m : List (Int × Int)) : Option Nat := m.findIdx? (fun p => !Q p)
theorem dropAt_here {Q : Int × Int → Bool} {m : List (Int × Int)} {k : Nat} {x y : Int} (h : ∀ p ∈ m.take k, Q p = true) (hk : m[k]? = some (x, y)) (hn : Q (x, y) = false) : dropAt Q m = some k := by
  unfold dropAt
  have hl : k < m.length := (List.getElem?_eq_some_iff.1 hk).1
  rw [List.findIdx?_eq_some_iff_getElem]
  refine ⟨hl, ?_, ?_⟩
  · rw [(List.getElem?_eq_some_iff.1 hk).2, hn]
    rfl
  · intro j hj
    rw [h m[j] (by rw [List.mem_take_iff_getElem]; exact ⟨j, by omega, rfl⟩)]
    simp
theorem dropAt_none {Q : Int × Int → Bool} {m : List (Int × Int)} (h : ∀ p ∈ m, Q p = true) : dropAt Q m = none := by
  unfold dropAt
  rw [List.findIdx?_eq_none_iff]
  intro p hp
  rw [h p hp]
  rfl
def dropI (Q : Int × Int → Bool) (m : List (Int × Int)) : Int := match dropAt Q m with | some k => (k : Int) | none => -1
theorem dropI_some {Q : Int × Int → Bool} {m : List (Int × Int)} {k : Nat} (h : dropAt Q m = some k) : dropI Q m = (k : Int) := by unfold dropI; rw [h]
theorem dropI_none {Q : Int × Int → Bool} {m : List (Int × Int)} (h : dropAt Q m = none) : dropI Q m = -1 := by unfold dropI; rw [h]
set_option maxRecDepth 100000 in
set_option maxHeartbeats 2000000 in
theorem indexFunc_any (f0 : FuncId) (bs : Array Value) (Q : Int × Int → Bool) (a : Option Addr) (n c : Nat) (m : List (Int × Int)) (hz : n ≤ 1048576) (w : World) (h : Holds w a n m) (hcl0 : ∀ (args : Array Value) (W : World), (callFunc f0 args).run Try.prog W = .ok (.enter f0 args) W) (hf0 : ∀ x y wr, (x, y) ∈ m → Below w.heap.size w wr → Calls Try.prog f0 (#[.agg #[.int .i64 x, .int .i64 y]] ++ bs) wr fun e w' => e = .returned (.bool (!Q (x, y))) ∧ Below wr.heap.size wr w') :
    Calls Try.prog 168 #[.slice a n c, .func (.func f0) #[] bs] w fun e w' =>
      e = .returned (.int .i64 (dropI Q m)) ∧ Below w.heap.size w w' := by
  have HH := Lib.hid h
  have HFX := Lib.hid hf0
  have HC0 := Lib.hid hcl0
  clear h hf0 hcl0
  go_enter Try.func168, Try.ntmps168
  go_wp2_with fail
  go_loopw [8] (fun s8 wr => ∃ k : Nat, k ≤ n ∧ s8 = .int .i64 k ∧ Below w.heap.size w wr ∧ Hid (∀ p ∈ m.take k, Q p = true)) (fun s8 _ => n - (intOf s8).toNat)
  case atStart => exact ⟨0, Nat.zero_le _, rfl, Below.refl _ _, fun p hp => by simp at hp⟩
  case round =>
    obtain ⟨k, hk, rfl, hb, HP⟩ := hrel
    by_cases hlt : k < n
    · obtain ⟨b, off, x, y, rfl, hx, e1, e2⟩ := (HH.out.below hb).at k hlt
      have HX := Lib.hid hx
      have hkn : (k : Int) < (n : Int) := by omega
      have hcall := HFX.out x y wr (List.mem_of_getElem? hx) hb
      clear hx
      cases hq : Q (x, y) with
      | true =>
        rw [hq] at hcall
        have HP2 : Hid (∀ p ∈ m.take (k + 1), Q p = true) := by
          intro p hp
          rw [List.take_add_one, HX.out] at hp
          rcases List.mem_append.1 hp with hp | hp
          · exact HP.out p hp
          · simp at hp
            rw [hp]
            exact hq
        clear hq
        simp only [Bool.not_true] at hcall
        have HCALL := Lib.hid hcall
        clear hcall
        go_wp2_with fail
        rw [HC0.out, Oper.upon_enter]
        refine HCALL.out.mono ?_
        rintro e w' ⟨rfl, hqq⟩
        go_wp2_with fail
        exact ⟨⟨k + 1, by omega, by go_num, hb.trans (hqq.mono hb.size), HP2⟩, by simp [intOf]; omega⟩
      | false =>
        rw [hq] at hcall
        have HR := Lib.hid (dropI_some (dropAt_here HP.out HX.out hq))
        clear hq
        simp only [Bool.not_false] at hcall
        have HCALL := Lib.hid hcall
        clear hcall
        go_wp2_with fail
        rw [HC0.out, Oper.upon_enter]
        refine HCALL.out.mono ?_
        rintro e w' ⟨rfl, hqq⟩
        go_wp2_with fail
        go_ret
        exact ⟨by rw [HR.out]; rfl, hb.trans (hqq.mono hb.size)⟩
    · obtain rfl : k = n := by omega
      have hkn : ¬ (k : Int) < (k : Int) := by omega
      have HR : Hid (dropI Q m = -1) := dropI_none (dropAt_none (by
        have := HP.out
        rw [List.take_of_length_le (by rw [HH.out.1]; omega)] at this
        exact this))
      go_wp2_with fail
      go_ret
      exact ⟨by rw [HR.out]; rfl, hb⟩
theorem zeroRelation : ∀ w, (zeroValue 39).run Try.prog w = .ok (.agg #[.int .i64 0, .int .i64 0]) w := Try.zeroValue39
def zl (k : Nat) : List Value := (Builtin.zeroCells (Value.agg #[.int .i64 0, .int .i64 0]).cells k).toList
theorem zl_len (k : Nat) : (zl k).length = k * 2 := by unfold zl Builtin.zeroCells; simp [Value.cells]
theorem zl_one (k : Nat) : ∀ v ∈ zl k, v.oneCell' = true := by
  intro v hv
  unfold zl Builtin.zeroCells at hv
  rw [Array.toList_map, List.mem_map] at hv
  obtain ⟨i, _, rfl⟩ := hv
  have h : i % (Value.agg #[Value.int .i64 0, Value.int .i64 0]).cells.size = i % 2 := rfl
  rw [h]
  rcases (by omega : i % 2 = 0 ∨ i % 2 = 1) with e | e <;> rw [e] <;> rfl
theorem run_clear2 {P : Program} (w : World) (t e ty : TypeId) (ht : P.underlying t = some (.slice e)) (hv : ∀ w, (zeroValue e).run P w = .ok (.agg #[.int .i64 0, .int .i64 0]) w) (b o c k : Nat) (hk : 0 < k)
    (hc : ∀ j, j < k * 2 → (w.cell? ⟨b, o + j, none⟩).isSome = true) (hf : ∀ j, j < k * 2 → w.frozen? ⟨b, o + j, none⟩ = false) :
    (Builtin.clear_ #[t] ty #[.slice (some ⟨b, o, none⟩) k c]).run P w = .ok (.tuple #[]) (w.setCells b o (zl k)) := by
  have hst := run_storeCells_cells (P := P) b o (zl k) 0 w (by rw [zl_len]; simpa using hc) (by rw [zl_len]; simpa using hf) (zl_one k)
  simp only [Nat.add_zero] at hst
  obtain ⟨q, rfl⟩ : ∃ q, k = q + 1 := ⟨k - 1, by omega⟩
  unfold zl at hst ⊢
  simp [Builtin.clear_, run_underlying ht, hv, hst]
/-- The row under way: what is kept of the first j stands ahead; from j on it is as it was. -/
def Del (w wr : World) (g n : Nat) (Q : Int × Int → Bool) (m : List (Int × Int)) (j f : Nat) : Prop :=
  ∃ ys : List Value, wr.heap[g]? = some (.cells ys.toArray 39) ∧ ys.length = n * 2 ∧ (∀ t, t < f * 2 → ys[t]? = (flat ((m.take j).filter Q))[t]?) ∧ (∀ t, j * 2 ≤ t → ys[t]? = (flat m)[t]?) ∧ Kept (fun b => b = g) w wr
theorem del_cells {w wr : World} {g n j f : Nat} {Q : Int × Int → Bool} {m : List (Int × Int)} (h : Del w wr g n Q m j f) {x y : Int} (hx : m[j]? = some (x, y)) : wr.cell? ⟨g, j * 2, none⟩ = some (.int .i64 x) ∧ wr.cell? ⟨g, j * 2 + 1, none⟩ = some (.int .i64 y) := by
  obtain ⟨ys, h1, _, _, h4, _⟩ := h
  have e := flat_get m j x y hx
  constructor
  · simp only [World.cell?, h1, List.getElem?_toArray]
    rw [h4 _ (Nat.le_refl _), e.1]
    rfl
  · simp only [World.cell?, h1, List.getElem?_toArray]
    rw [h4 _ (by omega), e.2]
    rfl
theorem del_there {w wr : World} {g n j f : Nat} {Q : Int × Int → Bool} {m : List (Int × Int)} (h : Del w wr g n Q m j f) {t : Nat} (ht : t < n * 2) : (∃ v, wr.cell? ⟨g, t, none⟩ = some v) ∧ wr.frozen? ⟨g, t, none⟩ = false := by
  obtain ⟨ys, h1, h2, _⟩ := h
  refine ⟨⟨ys[t], ?_⟩, ?_⟩
  · simp only [World.cell?, h1, List.getElem?_toArray]
    rw [List.getElem?_eq_getElem (by omega)]
    rfl
  · simp only [World.frozen?, h1]
    rfl
theorem del_below {w wr wq : World} {g n j f : Nat} {Q : Int × Int → Bool} {m : List (Int × Int)} (h : Del w wr g n Q m j f) (hb : Below wr.heap.size wr wq) : Del w wq g n Q m j f := by
  obtain ⟨ys, h1, h2, h3, h4, h5⟩ := h
  exact ⟨ys, (hb.block g (Array.getElem?_eq_some_iff.1 h1).1).trans h1, h2, h3, h4, h5.trans (Kept.of hb)⟩
theorem del_skip {w wr : World} {g n j f : Nat} {Q : Int × Int → Bool} {m : List (Int × Int)} (h : Del w wr g n Q m j f) {x y : Int} (hx : m[j]? = some (x, y)) (hn : Q (x, y) = false) : Del w wr g n Q m (j + 1) f := by
  obtain ⟨ys, h1, h2, h3, h4, h5⟩ := h
  refine ⟨ys, h1, h2, ?_, fun t ht => h4 t (by omega), h5⟩
  rw [filt_next Q hx, hn]
  simpa using h3
theorem del_keep {w wr : World} {g n j f : Nat} {Q : Int × Int → Bool} {m : List (Int × Int)} (h : Del w wr g n Q m j f) {x y : Int} (hx : m[j]? = some (x, y)) (hn : Q (x, y) = true) (hf : f = ((m.take j).filter Q).length) (hfj : f < j) (hj : j < n) :
    Del w ((wr.setCell ⟨g, f * 2, none⟩ (.int .i64 x)).setCell ⟨g, f * 2 + 1, none⟩ (.int .i64 y)) g n Q m (j + 1) (f + 1) := by
  obtain ⟨ys, h1, h2, h3, h4, h5⟩ := h
  have s1 := heap_setCell_same wr g (f * 2) ys.toArray _ (.int .i64 x) h1
  have s2 := heap_setCell_same (wr.setCell ⟨g, f * 2, none⟩ (.int .i64 x)) g (f * 2 + 1) _ _ (.int .i64 y) s1
  refine ⟨(ys.set (f * 2) (.int .i64 x)).set (f * 2 + 1) (.int .i64 y), ?_, by simpa using h2, ?_, ?_, (h5.setCell (g := g) rfl _).setCell (g := g) rfl _⟩
  · rw [s2]
    simp
  · intro t ht
    rw [filt_next Q hx, hn, if_pos rfl, flat_app]
    have hl : (flat ((m.take j).filter Q)).length = f * 2 := by rw [flat_len, hf]
    by_cases e1 : t = f * 2 + 1
    · subst e1
      rw [List.getElem?_set_self (by simp; omega), List.getElem?_append_right (by omega), hl, show f * 2 + 1 - f * 2 = 1 by omega]
      rfl
    · rw [List.getElem?_set_ne (by omega)]
      by_cases e2 : t = f * 2
      · subst e2
        rw [List.getElem?_set_self (by omega), List.getElem?_append_right (by omega), hl, Nat.sub_self]
        rfl
      · rw [List.getElem?_set_ne (by omega), List.getElem?_append_left (by omega)]
        exact h3 t (by omega)
  · intro t ht
    rw [List.getElem?_set_ne (by omega), List.getElem?_set_ne (by omega)]
    exact h4 t (by omega)
theorem dropAt_spec {Q : Int × Int → Bool} {m : List (Int × Int)} {k : Nat} (h : dropAt Q m = some k) : k < m.length ∧ (m.take (k + 1)).filter Q = m.take k := by
  unfold dropAt at h
  rw [List.findIdx?_eq_some_iff_getElem] at h
  obtain ⟨hl, h1, h2⟩ := h
  refine ⟨hl, ?_⟩
  have e := filt_next Q (m := m) (k := k) (x := m[k].1) (y := m[k].2) (List.getElem?_eq_getElem hl)
  have h1' : Q (m[k].1, m[k].2) = false := by simpa using h1
  rw [e, h1']
  simp only [Bool.false_eq_true, if_false, List.append_nil]
  rw [List.filter_eq_self]
  intro p hp
  rw [List.mem_take_iff_getElem] at hp
  obtain ⟨j, hj, rfl⟩ := hp
  simpa using h2 j (by omega)
theorem dropAt_no {Q : Int × Int → Bool} {m : List (Int × Int)} (h : dropAt Q m = none) : m.filter Q = m := by
  unfold dropAt at h
  rw [List.findIdx?_eq_none_iff] at h
  rw [List.filter_eq_self]
  intro p hp
  simpa using h p hp
theorem del_start {w wr : World} {g n k : Nat} {Q : Int × Int → Bool} {m : List (Int × Int)} (h : wr.heap[g]? = some (.cells (flat m).toArray 39)) (hl : m.length = n) (hk : dropAt Q m = some k) (hK : Kept (fun b => b = g) w wr) : Del w wr g n Q m (k + 1) k := by
  obtain ⟨h1, h2⟩ := dropAt_spec hk
  refine ⟨flat m, h, by rw [flat_len, hl], fun t ht => ?_, fun _ _ => rfl, hK⟩
  rw [h2]
  conv => lhs; rw [← List.take_append_drop k m, flat_app]
  rw [List.getElem?_append_left (by rw [flat_len, List.length_take]; omega)]
theorem filt_some {Q : Int × Int → Bool} {m : List (Int × Int)} {k j : Nat} (hk : dropAt Q m = some k) (hj : k < j) : ((m.take j).filter Q).length < j := by
  obtain ⟨h1, h2⟩ := dropAt_spec hk
  have e : m.take j = m.take (k + 1) ++ (m.drop (k + 1)).take (j - (k + 1)) := by
    rw [← List.take_add]
    congr 1
    omega
  rw [e, List.filter_append, h2, List.length_append]
  have := List.length_filter_le Q ((m.drop (k + 1)).take (j - (k + 1)))
  rw [List.length_take] at this
  rw [List.length_take]
  omega
set_option maxRecDepth 100000 in
set_option maxHeartbeats 4000000 in
theorem deleteFunc_any (f0 : FuncId) (bs : Array Value) (Q : Int × Int → Bool) (g n : Nat) (m : List (Int × Int)) (hl : m.length = n) (hz : n ≤ 1048576) (w : World) (h : w.heap[g]? = some (.cells (flat m).toArray 39)) (hcl0 : ∀ (args : Array Value) (W : World), (callFunc f0 args).run Try.prog W = .ok (.enter f0 args) W) (hf0 : ∀ x y wr, (x, y) ∈ m → Kept (fun b => b = g) w wr → Calls Try.prog f0 (#[.agg #[.int .i64 x, .int .i64 y]] ++ bs) wr fun e w' => e = .returned (.bool (!Q (x, y))) ∧ Below wr.heap.size wr w') :
    Calls Try.prog 114 #[.slice (some ⟨g, 0, none⟩) n n, .func (.func f0) #[] bs] w fun e w' =>
      e = .returned (.slice (some ⟨g, 0, none⟩) (m.filter Q).length n) ∧ (∃ ys : List Value, w'.heap[g]? = some (.cells ys.toArray 39) ∧ ys.length = n * 2 ∧ ys.take ((m.filter Q).length * 2) = flat (m.filter Q)) ∧ Kept (fun b => b = g) w w' := by
  have hH : Holds w (some ⟨g, 0, none⟩) n m := by
    refine ⟨hl, .inr ⟨g, 0, rfl, (Array.getElem?_eq_some_iff.1 h).1, fun i x hi => ?_⟩⟩
    have e := flat_get m i x.1 x.2 hi
    rw [Nat.zero_add]
    constructor
    · simp only [World.cell?, h, List.getElem?_toArray]
      rw [e.1]
      rfl
    · simp only [World.cell?, h, List.getElem?_toArray]
      rw [e.2]
      rfl
  have HFX := Lib.hid hf0
  have HC0 := Lib.hid hcl0
  have HW := Lib.hid h
  have HI := Lib.hid (indexFunc_any f0 bs Q (some ⟨g, 0, none⟩) n n m hz w hH hcl0 (fun x y wr hm hb => hf0 x y wr hm (Kept.of hb)))
  have HL := Lib.hid hl
  clear h hf0 hcl0 hH
  go_enter Try.func114, Try.ntmps114
  go_wp2_with fail
  refine HI.out.mono ?_
  rintro e w1 ⟨rfl, b1⟩
  have HW1 : Hid (w1.heap[g]? = some (.cells (flat m).toArray 39)) := (b1.block g (Array.getElem?_eq_some_iff.1 HW.out).1).trans HW.out
  have HK1 : Hid (Kept (fun b => b = g) w w1) := Kept.of b1
  cases hd : dropAt Q m with
  | none =>
    have HD := Lib.hid (dropAt_no hd)
    rw [dropI_none hd]
    clear hd
    go_wp2_with fail
    go_ret
    rw [HD.out]
    exact ⟨by rw [HL.out]; rfl, ⟨flat m, HW1.out, by rw [flat_len, HL.out], List.take_of_length_le (by rw [flat_len]; omega)⟩, HK1.out⟩
  | some k =>
    have HD := Lib.hid hd
    have hkn : k < n := by rw [← HL.out]; exact (dropAt_spec hd).1
    have HD0 := Lib.hid (del_start HW1.out HL.out hd HK1.out)
    have hF0 : ((m.take (k + 1)).filter Q).length = k := by rw [(dropAt_spec hd).2, List.length_take, HL.out]; omega
    have HF0 := Lib.hid hF0
    rw [dropI_some hd]
    clear hd hF0
    have hq : ((k : Int) == -1) = false := by rw [beq_eq_false_iff_ne]; omega
    have hkm : ¬ (k : Int) = -1 := by omega
    go_wp2_with fail
    go_loopw [5, 6] (fun s5 s6 wr => ∃ j f : Nat, k < j ∧ j ≤ n ∧ s6 = .int .i64 j ∧ s5 = .int .i64 f ∧ Hid (f = ((m.take j).filter Q).length) ∧ Del w wr g n Q m j f) (fun _ s6 _ => n - (intOf s6).toNat)
    case atStart => exact ⟨k + 1, k, by omega, by omega, by go_num, rfl, HF0.out.symm, HD0.out⟩
    case round =>
      obtain ⟨j, f, hkj, hj, rfl, rfl, HF, hR⟩ := hrel
      have hfj : f < j := by rw [HF.out]; exact filt_some HD.out hkj
      by_cases hlt : j < n
      · obtain ⟨x, hx⟩ : ∃ x, m[j]? = some x := ⟨_, List.getElem?_eq_getElem (by rw [HL.out]; exact hlt)⟩
        obtain ⟨x, y⟩ := x
        obtain ⟨e1, e2⟩ := del_cells hR hx
        have hji : (j : Int) < (n : Int) := by omega
        have hb7 := below_alloc wr (.cells #[.int .i64 x, .int .i64 y] 39)
        have u1 := box_first wr (.int .i64 x) (.int .i64 y) 39
        have u2' := box_second wr (.int .i64 x) (.int .i64 y) 39
        have hsz7 : wr.heap.size < (wr.alloc (.cells #[.int .i64 x, .int .i64 y] 39)).heap.size := by simp
        have HX := Lib.hid hx
        have HR := Lib.hid hR
        have HKR : Hid (Kept (fun b => b = g) w wr) := by obtain ⟨_, _, _, _, _, h5⟩ := hR; exact h5
        clear hx hR
        go_wp2_with fail
        generalize wr.alloc (.cells #[.int .i64 x, .int .i64 y] 39) = W7 at *
        have hcall := HFX.out x y W7 (List.mem_of_getElem? HX.out) (HKR.out.trans (Kept.of hb7))
        rw [HC0.out, Oper.upon_enter]
        cases hn : Q (x, y) with
        | true =>
          rw [hn] at hcall
          simp only [Bool.not_true] at hcall
          refine hcall.mono ?_
          rintro e w8 ⟨rfl, b8⟩
          have b78 := hb7.trans (b8.mono hb7.size)
          have v1 := (b8.cell (p := ⟨wr.heap.size, 0, none⟩) hsz7).trans u1
          have v2 := (b8.cell (p := ⟨wr.heap.size, 1, none⟩) hsz7).trans u2'
          have hR8 := del_below HR.out b78
          obtain ⟨⟨c0, hc0⟩, hf0⟩ := del_there hR8 (t := f * 2) (by omega)
          obtain ⟨⟨c1, hc1⟩, hf1⟩ := del_there hR8 (t := f * 2 + 1) (by omega)
          have HR2 := Lib.hid (del_keep hR8 HX.out hn HF.out hfj hlt)
          have HF2 : Hid (f + 1 = ((m.take (j + 1)).filter Q).length) := by unfold Hid; rw [filt_next Q HX.out, hn, if_pos rfl, List.length_append, ← HF.out]; rfl
          have hfi : (f : Int) < (n : Int) := by omega
          clear hcall hn hR8 e1 e2 u1 u2' b8 hb7 b78
          go_wp2_with fail
          exact ⟨⟨j + 1, f + 1, by omega, by omega, by go_num, by go_num, HF2, HR2.out⟩, by simp [intOf]; omega⟩
        | false =>
          rw [hn] at hcall
          simp only [Bool.not_false] at hcall
          refine hcall.mono ?_
          rintro e w8 ⟨rfl, b8⟩
          have b78 := hb7.trans (b8.mono hb7.size)
          have HR2 := Lib.hid (del_skip (del_below HR.out b78) HX.out hn)
          have HF2 : Hid (f = ((m.take (j + 1)).filter Q).length) := by unfold Hid; rw [filt_next Q HX.out, hn, if_neg (by simp), List.append_nil, ← HF.out]
          clear hcall hn e1 e2 u1 u2' b8 hb7 b78
          go_wp2_with fail
          exact ⟨⟨j + 1, f, by omega, by omega, by go_num, rfl, HF2, HR2.out⟩, by simp [intOf]; omega⟩
      · obtain rfl : j = n := by omega
        have hjn : ¬ (j : Int) < (j : Int) := by omega
        have hff := HF.out
        rw [List.take_of_length_le (by rw [HL.out]; omega)] at hff
        have HFF := Lib.hid hff
        have hfn : ¬ j = f := by omega
        have hfn2 : ¬ f = j := by omega
        have hfi : (f : Int) ≤ (j : Int) := by omega
        have hcl : ∀ c ty, (Builtin.clear_ #[25] ty #[.slice (some ⟨g, f * 2, none⟩) (j - f) c]).run Try.prog wr = .ok (.tuple #[]) (wr.setCells g (f * 2) (zl (j - f))) := fun c ty =>
          run_clear2 wr _ _ ty Try.underlying25 zeroRelation g (f * 2) c (j - f) (by omega) (fun t ht => by obtain ⟨⟨v, hv⟩, _⟩ := del_there hR (t := f * 2 + t) (by omega); rw [hv]; rfl) (fun t ht => (del_there hR (t := f * 2 + t) (by omega)).2)
        have HE : Hid ((∃ ys : List Value, (wr.setCells g (f * 2) (zl (j - f))).heap[g]? = some (.cells ys.toArray 39) ∧ ys.length = j * 2 ∧ ys.take ((m.filter Q).length * 2) = flat (m.filter Q)) ∧ Kept (fun b => b = g) w (wr.setCells g (f * 2) (zl (j - f)))) := by
          obtain ⟨ys, h1, h2, h3, h4, h5⟩ := hR
          refine ⟨⟨splice ys (f * 2) (zl (j - f)), ?_, ?_, ?_⟩, kept_setCells h5 (g := g) rfl _⟩
          · rw [setCells_row h1 (by rw [zl_len]; omega) (zl_one _)]
            exact setRow_heap _ _ _ _ _ _ h1
          · rw [length_splice _ _ _ (by rw [zl_len]; omega), h2]
          · rw [← HFF.out]
            unfold splice
            rw [List.take_append_of_le_length (by rw [List.length_take]; omega), List.take_take, Nat.min_self]
            apply List.ext_getElem?
            intro t
            rw [List.getElem?_take]
            by_cases ht : t < f * 2
            · rw [if_pos ht, h3 t ht, List.take_of_length_le (by rw [HL.out]; omega)]
            · rw [if_neg ht, List.getElem?_eq_none (by rw [flat_len, ← HFF.out]; omega)]
        clear hR hff
        go_wp2_with fail
        go_ret
        exact ⟨by rw [← HFF.out]; rfl, HE.out.1, HE.out.2⟩
set_option maxRecDepth 100000 in
set_option maxHeartbeats 2000000 in
theorem contains_any (f0 : FuncId) (bs : Array Value) (Q : Int × Int → Bool) (a : Option Addr) (n c : Nat) (m : List (Int × Int)) (hz : n ≤ 1048576) (w : World) (h : Holds w a n m) (hcl0 : ∀ (args : Array Value) (W : World), (callFunc f0 args).run Try.prog W = .ok (.enter f0 args) W) (hf0 : ∀ x y wr, (x, y) ∈ m → Below w.heap.size w wr → Calls Try.prog f0 (#[.agg #[.int .i64 x, .int .i64 y]] ++ bs) wr fun e w' => e = .returned (.bool (!Q (x, y))) ∧ Below wr.heap.size wr w') :
    Calls Try.prog 189 #[.slice a n c, .func (.func f0) #[] bs] w fun e w' => e = .returned (.bool (m.any (fun p => !Q p))) ∧ Below w.heap.size w w' := by
  have HI := Lib.hid (indexFunc_any f0 bs Q a n c m hz w h hcl0 hf0)
  clear hcl0 hf0 h
  go_enter Try.func189, Try.ntmps189
  go_wp2_with fail
  refine HI.out.mono ?_
  rintro e w1 ⟨rfl, b1⟩
  have HB := Lib.hid b1
  clear b1
  cases hd : dropAt Q m with
  | none =>
    have HD : Hid (m.any (fun p => !Q p) = false) := by
      unfold Hid
      unfold dropAt at hd
      rw [List.findIdx?_eq_none_iff] at hd
      rw [List.any_eq_false]
      exact fun p hp => by rw [hd p hp]; simp
    rw [dropI_none hd]
    clear hd
    go_wp2_with fail
    go_ret
    exact ⟨by rw [HD.out]; rfl, HB.out⟩
  | some k =>
    have HD : Hid (m.any (fun p => !Q p) = true) := by
      unfold Hid
      unfold dropAt at hd
      obtain ⟨hl, h1, _⟩ := List.findIdx?_eq_some_iff_getElem.1 hd
      exact List.any_eq_true.2 ⟨_, List.getElem_mem hl, h1⟩
    rw [dropI_some hd]
    clear hd
    have h0 : (0 : Int) ≤ (k : Int) := by omega
    go_wp2_with fail
    go_ret
    exact ⟨by rw [HD.out]; rfl, HB.out⟩
end Go.Proofs.Ytfjpogohdoojmaa.DelG
