/- The laws' copies of curves, and that copies are equal. -/
import Derived.Test.YtlpcgchekhoieaaCu
import Derived.StillTailTactics
namespace Go.Proofs.Ytlpcgchekhoieaa.CuT
open Go.RowKit Pairs Rec Keep GivesI Cu
set_option linter.unusedVariables false
theorem szCurvePointS_any (a : Option Addr) (n c : Nat) (z : Int) (hz0 : 0 ≤ z) (hz1 : z ≤ 1048576) (hn : n ≤ 9223372036854775807) (w : World) :
    Calls Try.prog 14 #[.slice a n c, .int .i64 z] w fun e w' => e = .returned (.int .i64 (if z < n then -1 else z - n)) ∧ w = w' := by
  go_enter Try.func14, Try.ntmps14
  by_cases h : z < n
  · rw [if_pos h]
    have hh : z - n < 0 := by omega
    go_wp2
    go_ret
    exact ⟨rfl, rfl⟩
  · rw [if_neg h]
    have hh : ¬ z - n < 0 := by omega
    go_wp2
    go_ret
    exact ⟨rfl, rfl⟩
/-- Three boxes of three cells each. -/
theorem boxes33 (w : World) (u1 v1 x1 u2 v2 x2 u3 v3 x3 : Value) (t1 t2 t3 : TypeId) :
    (((w.alloc (.cells #[u1, v1, x1] t1)).alloc (.cells #[u2, v2, x2] t2)).alloc (.cells #[u3, v3, x3] t3)).heap.size = w.heap.size + 3 ∧
    (((w.alloc (.cells #[u1, v1, x1] t1)).alloc (.cells #[u2, v2, x2] t2)).alloc (.cells #[u3, v3, x3] t3)).heap[w.heap.size + 1]? = some (.cells #[u2, v2, x2] t2) ∧
    (((w.alloc (.cells #[u1, v1, x1] t1)).alloc (.cells #[u2, v2, x2] t2)).alloc (.cells #[u3, v3, x3] t3)).heap[w.heap.size + 2]? = some (.cells #[u3, v3, x3] t3) ∧
    Below w.heap.size w (((w.alloc (.cells #[u1, v1, x1] t1)).alloc (.cells #[u2, v2, x2] t2)).alloc (.cells #[u3, v3, x3] t3)) := by
  have e : ∀ (w : World) (o : Obj), (w.alloc o).heap = w.heap.push o := fun _ _ => rfl
  have i1 : (((w.alloc (.cells #[u1, v1, x1] t1)).alloc (.cells #[u2, v2, x2] t2)).alloc (.cells #[u3, v3, x3] t3)).heap[w.heap.size + 1]? = some (.cells #[u2, v2, x2] t2) := by
    rw [e, e, e, Array.getElem?_push, if_neg (by simp), Array.getElem?_push, if_pos (by simp)]
  have i2 : (((w.alloc (.cells #[u1, v1, x1] t1)).alloc (.cells #[u2, v2, x2] t2)).alloc (.cells #[u3, v3, x3] t3)).heap[w.heap.size + 2]? = some (.cells #[u3, v3, x3] t3) := by
    rw [e, e, e, Array.getElem?_push, if_pos (by simp)]
  exact ⟨by rw [e, e, e]; simp, i1, i2, below_alloc3 _ _ _ _⟩
theorem cells3 {w : World} {b : Nat} {u v x : Value} {t : TypeId} (h : w.heap[b]? = some (.cells #[u, v, x] t)) :
    (w.cell? ⟨b, 0, none⟩ = some u ∧ w.cell? ⟨b, 1, none⟩ = some v ∧ w.cell? ⟨b, 2, none⟩ = some x) ∧ w.frozen? ⟨b, 0, none⟩ = false ∧ w.frozen? ⟨b, 1, none⟩ = false ∧ w.frozen? ⟨b, 2, none⟩ = false := by
  refine ⟨⟨?_, ?_, ?_⟩, ?_, ?_, ?_⟩
  · unfold World.cell?; rw [h]; rfl
  · unfold World.cell?; rw [h]; rfl
  · unfold World.cell?; rw [h]; rfl
  · unfold World.frozen?; rw [h]; rfl
  · unfold World.frozen?; rw [h]; rfl
  · unfold World.frozen?; rw [h]; rfl
theorem toCurvePoint_any (x y z : Int) (w : World) :
    Calls Try.prog 57 #[.agg #[.int .i64 x, .int .i64 y, .int .i64 z]] w fun e w' => e = .returned (.agg #[.int .i64 x, .int .i64 y, .int .i64 z]) ∧ Below w.heap.size w w' := by
  go_enter Try.func57, Try.ntmps57
  go_wp2
  try simp only [Exit.inBlock, Exit.then]
  refine bodyPost_ret (v := .agg #[.int .i64 x, .int .i64 y, .int .i64 z]) (by simp [results, Try.results57, go_sem]) rfl ⟨rfl, below_alloc3 _ _ _ _⟩
theorem infoCurvePoint : (Try.prog.info? 75).map (fun i => (i.zero, i.size, i.bytes)) = some (some (.agg #[.int .i64 0, .int .i64 0, .int .i64 0]), 3, 24) := by kernel_rfl
/-- A row that agrees with L up to k. -/
def UpD (T : TypeId) (B : Nat) (w wr : World) (g n : Nat) (L : List Dt) (k : Nat) : Prop :=
  ∃ ys, wr.ownsRow B T 3 (.slice (some ⟨g, 0, none⟩) n n) n ys ∧ (∀ i, i < k * 3 → ys[i]? = (flatD L)[i]?) ∧ Below B w wr
theorem UpD.bel {T : TypeId} {B : Nat} {w wr : World} {g n : Nat} {L : List Dt} {k : Nat} (h : UpD T B w wr g n L k) : Below B w wr := by
  obtain ⟨_, _, _, h3⟩ := h
  exact h3
theorem UpD.quiet {T : TypeId} {B : Nat} {w wr wq : World} {g n : Nat} {L : List Dt} {k : Nat} (h : UpD T B w wr g n L k) (hB : B ≤ wr.heap.size) (hb : Below wr.heap.size wr wq) : UpD T B w wq g n L k := by
  obtain ⟨ys, h1, h2, h3⟩ := h
  exact ⟨ys, ownsRow_below h1 hb, h2, h3.trans (hb.mono hB)⟩
theorem UpD.step {T : TypeId} {B : Nat} {w wr : World} {g n : Nat} {L : List Dt} {k : Nat} {x y z : Int} (h : UpD T B w wr g n L k) (hB : B ≤ g) (hk : k < n) (hx : L[k]? = some (x, y, z)) :
    UpD T B w (((wr.setCell ⟨g, k * 3, none⟩ (.int .i64 x)).setCell ⟨g, k * 3 + 1, none⟩ (.int .i64 y)).setCell ⟨g, k * 3 + 2, none⟩ (.int .i64 z)) g n L (k + 1) := by
  obtain ⟨ys, h1, h2, h3⟩ := h
  have hlen : ys.length = n * 3 := h1.1
  refine ⟨_, (((h1.stored (k * 3) _).1.stored (k * 3 + 1) _).1.stored (k * 3 + 2) _).1, ?_, ((h3.setCell (p := ⟨g, k * 3, none⟩) hB _).setCell (p := ⟨g, k * 3 + 1, none⟩) hB _).setCell (p := ⟨g, k * 3 + 2, none⟩) hB _⟩
  intro i hi
  have hf := flatD_get L k x y z hx
  by_cases he : i = k * 3 + 2
  · subst he
    rw [List.getElem?_set_self (by simp; omega), hf.2.2]
  · rw [List.getElem?_set_ne (by omega)]
    by_cases he : i = k * 3 + 1
    · subst he
      rw [List.getElem?_set_self (by simp; omega), hf.2.1]
    · rw [List.getElem?_set_ne (by omega)]
      by_cases he2 : i = k * 3
      · subst he2
        rw [List.getElem?_set_self (by omega), hf.1]
      · rw [List.getElem?_set_ne (by omega)]
        exact h2 i (by omega)
theorem UpD.end {T : TypeId} {B : Nat} {w wr : World} {g n : Nat} {L : List Dt} (h : UpD T B w wr g n L n) (hl : L.length = n) :
    wr.ownsRow B T 3 (.slice (some ⟨g, 0, none⟩) n n) n (flatD L) ∧ Below B w wr := by
  obtain ⟨ys, h1, h2, h3⟩ := h
  have hlen : ys.length = n * 3 := h1.1
  have e : ys = flatD L := by
    apply List.ext_getElem?
    intro i
    by_cases hi : i < n * 3
    · exact h2 i hi
    · rw [List.getElem?_eq_none (by omega), List.getElem?_eq_none (by rw [flatD_len]; omega)]
  rw [← e]
  exact ⟨h1, h3⟩
theorem UpD.facts {T : TypeId} {B : Nat} {w wr : World} {g n : Nat} {L : List Dt} {k : Nat} (h : UpD T B w wr g n L k) : ∀ j, j < n * 3 → (∃ v, wr.cell? ⟨g, j, none⟩ = some v) ∧ wr.frozen? ⟨g, j, none⟩ = false := by
  obtain ⟨ys, h1, _, _⟩ := h
  intro j hj
  have hlen : ys.length = n * 3 := h1.1
  refine ⟨⟨ys[j], ?_⟩, h1.frozenAt j⟩
  rw [h1.cellAt j (by omega), List.getElem?_eq_getElem (by omega)]
def ToD (n : Nat) (L : List Dt) (w : World) (e : Ending) (w' : World) : Prop :=
  ∃ g : Nat, e = .returned (.slice (some ⟨g, 0, none⟩) n n) ∧ w'.ownsRow w.heap.size 75 3 (.slice (some ⟨g, 0, none⟩) n n) n (flatD L) ∧ Below w.heap.size w w'
set_option maxRecDepth 100000 in
set_option maxHeartbeats 2000000 in
theorem toCurvePointS_any (a : Option Addr) (n c : Nat) (L : List Dt) (hz : n ≤ 1048576) (w : World) (h : HoldsD w a n L) :
    Calls Try.prog 16 #[.slice a n c] w (ToD n L w) := by
  obtain ⟨i0, hi, hz0, hz1, hz2⟩ := info_parts infoCurvePoint
  obtain ⟨B, hB⟩ : ∃ B, w.heap.size = B := ⟨_, rfl⟩
  have HB := Lib.hid hB
  have HH := Lib.hid h
  unfold ToD
  rw [hB]
  clear hB h
  go_enter Try.func16, Try.ntmps16
  go_wp2_with (at_make; refine wpList_make_full _ rfl _ _ 25 rfl B 75 i0 (.agg #[.int .i64 0, .int .i64 0, .int .i64 0]) 3 Try.underlying25 hi hz0 hz1 .i64 .i64 _ _ n rfl rfl (by omega) (by omega) (by rw [hz2]; omega) (by unfold maxLen; omega) (by rw [HB.out]; omega) ?_; intro w1 hown hgrow)
  have hU : UpD 75 B w w1 B n L 0 := by
    rw [HB.out] at hown
    exact ⟨_, hown, fun i hi => absurd hi (by omega), (Below.refl _ _).grown hgrow (by rw [HB.out]; omega) (fun k hk => by cases hk)⟩
  clear hown hgrow
  rw [HB.out]
  go_loopw [4] (fun i wr => ∃ k : Nat, k ≤ n ∧ i = .int .i64 k ∧ UpD 75 B w wr B n L k) (fun i _ => n - (intOf i).toNat)
  case atStart => exact ⟨0, Nat.zero_le _, rfl, hU⟩
  case round =>
    obtain ⟨k, hk, rfl, hR⟩ := hrel
    clear hU
    by_cases hlt : k < n
    · have hbel := hR.bel
      have hsz := hbel.size
      rw [← HB.out] at hbel
      rw [HB.out] at hsz
      obtain ⟨b, off, x, y, z, rfl, hx, e1, e2, e3⟩ := (HH.out.below hbel).at k hlt
      have HX := Lib.hid hx
      have HR := Lib.hid hR
      clear hx hbel hR
      have hi : (k : Int) < (n : Int) := by omega
      go_wp2_with fail
      refine (toCurvePoint_any x y z _).mono ?_
      rintro e wq ⟨rfl, hq⟩
      have hQ := HR.out.quiet hsz hq
      obtain ⟨⟨v0, hv0⟩, hf0⟩ := hQ.facts (k * 3) (by omega)
      obtain ⟨⟨v1, hv1⟩, hf1⟩ := hQ.facts (k * 3 + 1) (by omega)
      obtain ⟨⟨v2, hv2⟩, hf2⟩ := hQ.facts (k * 3 + 2) (by omega)
      have HR2 := Lib.hid (hQ.step (Nat.le_refl _) hlt HX.out)
      clear hQ hq e1 e2 e3
      go_wp2_with fail
      exact ⟨⟨k + 1, by omega, by go_num, HR2.out⟩, by simp [intOf]; omega⟩
    · obtain rfl : k = n := by omega
      have HE := Lib.hid (hR.end HH.out.1)
      clear hR
      go_wp2
      go_ret
      exact ⟨B, rfl, HE.out.1, HE.out.2⟩
theorem eqCurvePoint_same (x y z : Int) (w : World) :
    Calls Try.prog 62 #[.agg #[.int .i64 x, .int .i64 y, .int .i64 z], .agg #[.int .i64 x, .int .i64 y, .int .i64 z]] w fun e w' => e = .returned (.bool true) ∧ Below w.heap.size w w' := by
  go_enter Try.func62, Try.ntmps62
  go_wp2
  go_ret
  exact ⟨rfl, below_alloc2 _ _ _⟩
set_option maxRecDepth 100000 in
set_option maxHeartbeats 2000000 in
theorem eqCurvePointS_same (a1 a2 : Option Addr) (n c1 c2 : Nat) (L : List Dt) (hz : n ≤ 1048576) (w : World) (h1 : HoldsD w a1 n L) (h2 : HoldsD w a2 n L) :
    Calls Try.prog 18 #[.slice a1 n c1, .slice a2 n c2] w fun e w' => e = .returned (.bool true) ∧ Below w.heap.size w w' := by
  have H1 := Lib.hid h1
  have H2 := Lib.hid h2
  clear h1 h2
  go_enter Try.func18, Try.ntmps18
  go_wp2
  go_loopw [5] (fun i wr => ∃ k : Nat, k ≤ n ∧ i = .int .i64 k ∧ Below w.heap.size w wr) (fun i _ => n - (intOf i).toNat)
  case atStart => exact ⟨0, Nat.zero_le _, rfl, Below.refl _ _⟩
  case round =>
    obtain ⟨k, hk, rfl, hb⟩ := hrel
    by_cases hlt : k < n
    · obtain ⟨b, off, x, y, z, rfl, hx, e1, e2, e3⟩ := (H1.out.below hb).at k hlt
      obtain ⟨b', off', x', y', z', rfl, hx', e1', e2', e3'⟩ := (H2.out.below hb).at k hlt
      obtain ⟨rfl, rfl, rfl⟩ : x' = x ∧ y' = y ∧ z' = z := by
        rw [hx] at hx'
        injection hx' with hx'
        injection hx' with ha hb
        injection hb with hb hc
        exact ⟨ha.symm, hb.symm, hc.symm⟩
      clear hx hx'
      have hi : (k : Int) < (n : Int) := by omega
      go_wp2_with fail
      refine wp_region_still_tail 8 (by kernel_rfl) (by kernel_rfl) ?_
      simp only [List.take_succ_cons, List.take_zero, List.drop_succ_cons, List.drop_zero]
      repeat still_step
      refine wpStill_nil ?_
      go_wp2_with fail
      refine (eqCurvePoint_same x' y' z' _).mono ?_
      rintro e wq ⟨rfl, hq⟩
      have hb' := hb.drew.trans (hq.mono hb.drew.size)
      clear hb e1 e2 e1' e2' e3 e3' hq
      go_wp2_with fail
      exact ⟨⟨k + 1, by omega, by go_num, hb'⟩, by simp [intOf]; omega⟩
    · go_wp2
      go_ret
      exact ⟨rfl, hb⟩
end Go.Proofs.Ytlpcgchekhoieaa.CuT
