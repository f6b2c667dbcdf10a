/- endings: the program's counts. -/
import Derived.Test.YtjllbbkpmmnkgaaDoorNxt
import Derived.Test.YtjllbbkpmmnkgaaDoorEnM
import Derived.Deep.WholeRow
import Derived.Test.YtjllbbkpmmnkgaaDoorEnL
import Derived.Test.YtjllbbkpmmnkgaaDoorEnR
import Derived.Test.YtjllbbkpmmnkgaaDoorEnO
import Derived.Sort.CutIn
namespace Go.Proofs.YtjllbbkpmmnkgaaDoor.EnI
open Go.RowKit Go.Shelf BlM Tz RgF Ind Nxt EnM EnL
attribute [local go_sem] Oper.semAt_some
set_option linter.unusedVariables false
theorem zero71 : ∀ w, (zeroValue 71).run Tryd.prog w = .ok (Value.agg (Array.replicate 1024 (.int .i64 0))) w := fun w => by kernel_rfl
theorem built71 : Tryd.prog.built 71 [] = some (Array.replicate 1024 (.int .i64 0)) := by kernel_rfl
theorem size71 : (Tryd.prog.info? 71).map (·.size) = some 1024 := by kernel_rfl
def rd (U : Nat → Nat) (all p i : Nat) : Bool := (nxt U all p).testBit i
def Inv (w : World) (b n all : Nat) (U : Nat → Nat) (Z : Array Value) (P pl : Nat) (Ds : List Nat) (W : World) : Prop :=
  W.heap[b]? = some (.cells (arr all U) 64 (0, 0)) ∧ W.heap[b + 1]? = some (.cells Z 71 (0, 0)) ∧ (∃ C, W.heap[b + 1 + 1]? = some (.cells C 71 (0, 0)) ∧ IsC C (cf (rd U all) n P)) ∧
  W.heap[pl]? = some (.cells #[.int .u64 (P : Int)] 61 (0, 0)) ∧ Below b w W ∧ (∀ D ∈ Ds, W.heap[D]? = some (.deferred (some []))) ∧ Ds.Nodup ∧ (∀ D ∈ Ds, b ≤ D) ∧ b + 1 + 1 < pl
def mu (a : Act) (W : World) : Nat := match a.tmps.getD 4 undef with | .pointer (some p) => (match W.cell? p with | some (.int _ x) => x.toNat | _ => 0) | _ => 0
theorem mu_is {a : Act} {W : World} {pl P : Nat} {t : TypeId} (ht : a.tmps.getD 4 undef = .pointer (some ⟨pl, 0, none⟩)) (h : W.heap[pl]? = some (.cells #[.int .u64 (P : Int)] t (0, 0))) : mu a W = P := by
  unfold mu
  rw [ht]
  simp only
  rw [cell_of h (i := 0) rfl]
  simp
theorem rd_fine {U : Nat → Nat} {n all : Nat} (h : all = 2 ^ n - 1) (hall : all < 1024) : Fine (rd U all) n := by
  intro p i hp hr
  unfold rd nxt at hr
  have h1 := ((nxl_bit U p _ i).1 hr).1
  rw [mem_bl (an_lt hall), an_bit (by omega) hall, h, Nat.testBit_two_pow_sub_one] at h1
  simpa using h1
theorem nx_lt {U : Nat → Nat} {n all p : Nat} (h : all = 2 ^ n - 1) (hall : all < 1024) (hp : p < 2 ^ n) : nxt U all p < 2 ^ n := by
  apply Nat.lt_pow_two_of_testBit
  intro i hi
  cases hb : (nxt U all p).testBit i with
  | false => rfl
  | true => have := (rd_fine (U := U) h hall p i hp hb).1; omega
theorem bl_nx {U : Nat → Nat} {n all p : Nat} (hn : n ≤ 10) (h : all = 2 ^ n - 1) (hall : all < 1024) (hp : p < 2 ^ n) : bl (nxt U all p) = (List.range n).filter (rd U all p) := bl_range hn (nx_lt h hall hp)
/-- The counts under way while the set p is being summed. -/
def gq (U : Nat → Nat) (n all P p : Nat) (pre : List Nat) (q : Nat) : Int := if q = p then pre.foldl (fun a i => wrap64 (a + v (rd U all) n (p ||| 2 ^ i))) 0 else cf (rd U all) n P q
theorem gq_nil {U : Nat → Nat} {n all P : Nat} (h0 : P ≠ 0) (q : Nat) : gq U n all P (P - 1) [] q = cf (rd U all) n P q := by
  unfold gq
  by_cases e : q = P - 1
  · rw [if_pos e]
    unfold cf
    rw [if_neg (by omega)]
    rfl
  · rw [if_neg e]
theorem gq_snoc (U : Nat → Nat) (n all P p : Nat) (pre : List Nat) (x q : Nat) : gq U n all P p (pre ++ [x]) q = if q = p then wrap64 (gq U n all P p pre p + v (rd U all) n (p ||| 2 ^ x)) else gq U n all P p pre q := by
  unfold gq
  by_cases e : q = p
  · simp [e]
  · simp [e]
theorem gq_all {U : Nat → Nat} {n all P : Nat} (hn : n ≤ 10) (h : all = 2 ^ n - 1) (hall : all < 1024) (h0 : P ≠ 0) (hP : P ≤ all) (q : Nat) : gq U n all P (P - 1) (bl (nxt U all (P - 1))) q = cf (rd U all) n (P - 1) q := by
  have hp : P - 1 < 2 ^ n := by omega
  unfold gq
  by_cases e : q = P - 1
  · rw [if_pos e, bl_nx hn h hall hp, ← v_eq (rd_fine h hall) hp (by omega)]
    unfold cf
    rw [if_pos (by omega), e]
  · rw [if_neg e]
    unfold cf
    by_cases e2 : P ≤ q ∧ q ≤ 2 ^ n - 1
    · rw [if_pos e2, if_pos (by omega)]
    · rw [if_neg e2, if_neg (by omega)]
theorem wrap_is (z : Int) : IntKind.i64.wrap z = wrap64 z := by
  unfold wrap64
  simp [IntKind.wrap, IntKind.signed, IntKind.bits]
  try omega
theorem isC_one {C : Array Value} {f : Nat → Int} (h : IsC C f) : C.all (·.oneCell') = true := by
  rw [Array.all_eq_true_iff_forall_mem]
  intro x hx
  obtain ⟨i, hi, e⟩ := Array.mem_iff_getElem.1 hx
  have h2 := h.2 i (by rw [← h.1]; exact hi)
  rw [Array.getElem?_eq_getElem hi] at h2
  injection h2 with h2
  rw [← e, h2]
  rfl
theorem init_is (U : Nat → Nat) (n all : Nat) (h : all = 2 ^ n - 1) (hall : all < 1024) : IsC ((Array.replicate 1024 (.int .i64 0)).setIfInBounds all (.int .i64 1)) (cf (rd U all) n all) := by
  have h0 : IsC (Array.replicate 1024 (.int .i64 0)) (fun _ => 0) := ⟨by simp, fun q hq => by rw [Array.getElem?_replicate, if_pos hq]⟩
  refine (h0.set all 1).congr fun q _ => ?_
  unfold cf
  by_cases e : q = all
  · subst e
    rw [if_pos rfl, if_pos ⟨Nat.le_refl _, by omega⟩, h, v_full]
  · rw [if_neg e, if_neg (by omega)]
set_option maxRecDepth 100000 in
set_option maxHeartbeats 8000000 in
theorem endings_any (n all : Nat) (U : Nat → Nat) (hn10 : n ≤ 10) (hn : all = 2 ^ n - 1) (hall : all < 1024) (hU : ∀ i, i < 10 → U i < 1024) (w : World) (hT : Tab w) :
    Calls Tryd.prog 49 #[.agg (arr all U)] w fun e w' => (∃ C, e = .returned (.agg C) ∧ IsC C (cf (rd U all) n 0)) ∧ Below w.heap.size w w' := by
  obtain ⟨b, hb⟩ : ∃ b, w.heap.size = b := ⟨_, rfl⟩
  have HN := Lib.hid hU
  have HALL := Lib.hid hn
  have HV := Lib.hid hT
  obtain ⟨Z, hZ⟩ : ∃ Z : Array Value, Array.replicate 1024 (.int .i64 0) = Z := ⟨_, rfl⟩
  have hzv : ∀ w, (zeroValue 71).run Tryd.prog w = .ok (Value.agg Z) w := by rw [← hZ]; exact zero71
  have hbu : ∀ w, (Instr.build 71 #[]).run Tryd.prog w = .ok (.agg Z) w := fun w => run_build w _ #[] Z (by rw [← hZ]; exact built71)
  have hzs : Z.size = 1024 := by rw [← hZ]; simp
  have hz1 : Z.all (·.oneCell') = true := by
    rw [← hZ, Array.all_eq_true_iff_forall_mem]
    intro x hx
    rw [(Array.mem_replicate.1 hx).2]
    rfl
  have HZ := Lib.hid hZ
  have hsn : ∀ (W : World), (storeCells ⟨W.heap.size, 0, none⟩ Z.toList 0).run Tryd.prog (W.alloc (.cells Z 71)) = .ok () (W.alloc (.cells Z 71)) := fun W => run_storeCells_new W _ Z Z (by rw [size71, hzs]) rfl hz1
  have HSN := Lib.hid hsn
  clear hU hT hZ hsn hn
  refine (callsIn_wide (n := 8)).1 ?_
  refine callsIn_of_wp_marks Tryd.func49 rfl trivial ?_ rfl
  unfold arr
  simp only [Tryd.ntmps49, List.size_toArray, List.length_cons, List.length_nil, Nat.reduceAdd, Nat.reduceSub, Array.replicate_succ, Array.replicate_zero, List.push_toArray, List.append_toArray, List.nil_append, List.cons_append]
  gi_wp2
  have hs2 : ((w.alloc (.cells (arr all U) 64)).alloc (.cells Z 71)).heap.size = b + 1 + 1 := by simp [hb]
  have hst := HSN.out ((w.alloc (.cells (arr all U) 64)).alloc (.cells Z 71))
  rw [hs2] at hst
  obtain ⟨W3, hW3⟩ : ∃ W3, (((w.alloc (.cells (arr all U) 64)).alloc (.cells Z 71)).alloc (.cells Z 71)) = W3 := ⟨_, rfl⟩
  rw [hW3] at hst
  have hsz3 : W3.heap.size = b + 1 + 1 + 1 := by rw [← hW3]; simp [hb]
  have hB3 : Below b w W3 := by
    rw [← hW3, ← hb]
    exact (((Below.refl _ w).alloc (Nat.le_refl _) _).alloc (by simp) _).alloc (by simp; omega) _
  have hA3 : W3.heap[b]? = some (.cells (arr all U) 64 (0, 0)) := by
    rw [← hW3, ← hb, Below.heap_alloc _ _ _ (by simp; omega), Below.heap_alloc _ _ _ (by simp)]
    exact World.alloc_heap_new w _
  have hR3 : W3.heap[b + 1]? = some (.cells Z 71 (0, 0)) := by
    rw [← hW3, Below.heap_alloc _ _ _ (by simp [hb])]
    have := World.alloc_heap_new (w.alloc (.cells (arr all U) 64)) (.cells Z 71)
    rw [World.size_alloc, hb] at this
    exact this
  have hC3 : W3.heap[b + 1 + 1]? = some (.cells Z 71 (0, 0)) := by
    rw [← hW3]
    have := World.alloc_heap_new ((w.alloc (.cells (arr all U) 64)).alloc (.cells Z 71)) (.cells Z 71)
    rw [hs2] at this
    exact this
  unfold arr at hW3
  rw [hW3, hst]
  clear hst hs2 hW3
  have c0 : W3.cell? ⟨b, 0, none⟩ = some (.int .u64 (all : Int)) := cell_of hA3 (i := 0) rfl
  have c1 : W3.cell? ⟨b + 1 + 1, all, none⟩ = some (.int .i64 0) := by
    refine cell_of hC3 ?_
    rw [← HZ.out, Array.getElem?_replicate, if_pos hall]
  have f1 : W3.frozen? ⟨b + 1 + 1, all, none⟩ = false := by simp [World.frozen?, hC3]
  have HA3 := Lib.hid hA3
  have HR3 := Lib.hid hR3
  have HC3 := Lib.hid hC3
  have HB3 := Lib.hid hB3
  clear hA3 hR3 hC3 hB3 hsz3
  gi_wp2
  refine wpIn_loop (fun a W => ∃ (P pl : Nat) (Ds : List Nat) (s5 s6 s7 s8 s9 s10 s11 s12 s13 s14 s15 s16 s17 s18 s19 s20 s21 s22 s23 s24 s25 s26 s27 s28 s29 s30 s31 s32 s33 : Value), a = { tmps := #[Value.agg #[Value.int IntKind.u64 (all : Int), Value.int IntKind.u64 (U 0 : Int), Value.int IntKind.u64 (U 1 : Int), Value.int IntKind.u64 (U 2 : Int), Value.int IntKind.u64 (U 3 : Int), Value.int IntKind.u64 (U 4 : Int), Value.int IntKind.u64 (U 5 : Int), Value.int IntKind.u64 (U 6 : Int), Value.int IntKind.u64 (U 7 : Int), Value.int IntKind.u64 (U 8 : Int), Value.int IntKind.u64 (U 9 : Int)], Value.pointer (some { block := b, off := 0 }), Value.pointer (some { block := b + 1, off := 0 }), Value.pointer (some { block := b + 1 + 1, off := 0 }), Value.pointer (some { block := pl, off := 0 }), s5, s6, s7, s8, s9, s10, s11, s12, s13, s14, s15, s16, s17, s18, s19, s20, s21, s22, s23, s24, s25, s26, s27, s28, s29, s30, s31, s32, s33], defers := Ds.map mrk } ∧ P ≤ all ∧ Hid (Inv w b n all U Z P pl Ds W)) mu ⟨all, W3.heap.size, [], _, _, _, _, _, _, _, _, _, _, _, _, _, _, _, _, _, _, _, _, _, _, _, _, _, _, _, _, _, rfl, Nat.le_refl _, ?_⟩ ?_
  · have hlt3 : b + 1 + 1 < W3.heap.size := (Array.getElem?_eq_some_iff.1 HC3.out).1
    have hs1 : (W3.setCell ⟨b + 1 + 1, all, none⟩ (.int .i64 1)).heap.size = W3.heap.size := by simp
    refine ⟨?_, ?_, ⟨Z.setIfInBounds all (.int .i64 1), ?_, by rw [← HZ.out]; exact init_is U n all HALL.out hall⟩, ?_, ?_, by simp, List.nodup_nil, by simp, by omega⟩
    · rw [Below.heap_alloc _ _ _ (by rw [hs1]; omega), Below.heap_setCell _ _ _ _ (by show b ≠ b + 1 + 1; omega)]
      exact HA3.out
    · rw [Below.heap_alloc _ _ _ (by rw [hs1]; omega), Below.heap_setCell _ _ _ _ (by show b + 1 ≠ b + 1 + 1; omega)]
      exact HR3.out
    · rw [Below.heap_alloc _ _ _ (by rw [hs1]; omega)]
      exact heap_setCell_same W3 (b + 1 + 1) all Z _ _ HC3.out
    · have := World.alloc_heap_new (W3.setCell ⟨b + 1 + 1, all, none⟩ (.int .i64 1)) (.cells #[.int .u64 (all : Int)] 61)
      rw [hs1] at this
      exact this
    · exact (HB3.out.setCell (p := ⟨b + 1 + 1, all, none⟩) (by show b ≤ b + 1 + 1; omega) _).alloc (by rw [hs1]; omega) _
  · rintro a W ⟨P, pl, Ds, s5, s6, s7, s8, s9, s10, s11, s12, s13, s14, s15, s16, s17, s18, s19, s20, s21, s22, s23, s24, s25, s26, s27, s28, s29, s30, s31, s32, s33, rfl, hP, HI⟩
    obtain ⟨iA, iR, ⟨C, iC, hC⟩, iP, iB, iD, iN, iL, iG⟩ := HI.out
    have cp : W.cell? ⟨pl, 0, none⟩ = some (.int .u64 (P : Int)) := cell_of iP (i := 0) rfl
    have fp : W.frozen? ⟨pl, 0, none⟩ = false := by simp [World.frozen?, iP]
    have JF := Lib.hid (And.intro iA (And.intro iR (And.intro iC (And.intro hC (And.intro iP (And.intro iB (And.intro iD (And.intro iN iL))))))))
    clear iA iR iC hC iP iB iD iN iL HI
    by_cases h0 : P = 0
    · subst h0
      have hCs : (Tryd.prog.info? 71).map (·.size) = some C.size := by rw [size71, JF.out.2.2.2.1.1]
      have hZC : Z.size = C.size := by rw [hzs, JF.out.2.2.2.1.1]
      have hC1 := isC_one JF.out.2.2.2.1
      have HH := Lib.hid (And.intro hCs (And.intro hZC hC1))
      have hcs : C.size = 1024 := JF.out.2.2.2.1.1
      clear hCs hZC hC1
      gi_wp2
      refine EnO.load_row 71 (.tmp 3) (by rfl) (b + 1 + 1) C 71 _ (by rfl) JF.out.2.2.1 Tryd.underlying71 rfl HH.out.1 ?_
      gi_wp2
      rw [EnO.store_cells W (b + 1) 71 Z C JF.out.2.1 HH.out.2.1 HH.out.2.2]
      gi_wp2
      have hnD : ∀ {k : Nat} {C' : Array Value} {t : TypeId}, W.heap[k]? = some (.cells C' t (0, 0)) → k ∉ Ds := fun h hm => by
        have h1 := JF.out.2.2.2.2.2.2.1 _ hm
        rw [h] at h1
        cases h1
      show LeavesInM Fence.wide 8 Tryd.prog Tryd.f49 _ _ (Ds.map mrk) .returning (W.setRow (b + 1) C)
      refine leaves_all Ds _ JF.out.2.2.2.2.2.2.2.1 (fun D hD => ?_) (fun W' hTn => ?_)
      · rw [setRow_other _ _ _ _ (fun e => hnD JF.out.2.1 (by rw [← e]; exact hD))]
        exact JF.out.2.2.2.2.2.2.1 D hD
      · refine ⟨.agg C, results_cell_row (p := 2) rfl _ W' (b + 1) 71 C (0, 0) _ rfl ((hTn.1 (b + 1) (hnD JF.out.2.1)).trans (setRow_heap W (b + 1) Z C 71 (0, 0) JF.out.2.1)) Tryd.underlying71 rfl HH.out.1, ⟨C, rfl, JF.out.2.2.2.1⟩, ?_⟩
        refine hTn.2 w (below_setRow (by rw [hb]; exact JF.out.2.2.2.2.2.1) (by omega) C) (fun D hD => ?_)
        rw [hb]
        exact JF.out.2.2.2.2.2.2.2.2 D hD
    · have hgt : (0 : Int) < (P : Int) := by omega
      have e1 : IntKind.u64.wrap ((P : Int) - 1) = ((P - 1 : Nat) : Int) := by rw [IntKind.wrap_u64]; omega
      gi_upto_region 6 with fail
      have hs1 : (W.setCell ⟨pl, 0, none⟩ (.int .u64 ((P - 1 : Nat) : Int))).heap.size = W.heap.size := by simp
      obtain ⟨W1, hW1⟩ : ∃ W1, W.setCell ⟨pl, 0, none⟩ (.int .u64 ((P - 1 : Nat) : Int)) = W1 := ⟨_, rfl⟩
      have iA1 : W1.heap[b]? = some (.cells (arr all U) 64 (0, 0)) := by rw [← hW1, Below.heap_setCell _ _ _ _ (by show b ≠ pl; omega)]; exact JF.out.1
      have iR1 : W1.heap[b + 1]? = some (.cells Z 71 (0, 0)) := by rw [← hW1, Below.heap_setCell _ _ _ _ (by show b + 1 ≠ pl; omega)]; exact JF.out.2.1
      have iC1 : W1.heap[b + 1 + 1]? = some (.cells C 71 (0, 0)) := by rw [← hW1, Below.heap_setCell _ _ _ _ (by show b + 1 + 1 ≠ pl; omega)]; exact JF.out.2.2.1
      have iP1 : W1.heap[pl]? = some (.cells #[.int .u64 ((P - 1 : Nat) : Int)] 61 (0, 0)) := by rw [← hW1]; exact Boxed.set (t := 61) _ JF.out.2.2.2.2.1
      have iB1 : Below b w W1 := by rw [← hW1]; exact JF.out.2.2.2.2.2.1.setCell (p := ⟨pl, 0, none⟩) (by show b ≤ pl; omega) _
      have iD1 : ∀ D ∈ Ds, W1.heap[D]? = some (.deferred (some [])) := fun D hD => by
        have h1 := JF.out.2.2.2.2.2.2.1 D hD
        rw [← hW1, Below.heap_setCell _ _ _ _ (by
          show D ≠ pl
          intro e
          subst e
          rw [JF.out.2.2.2.2.1] at h1
          cases h1)]
        exact h1
      have hlt1 : pl < W1.heap.size := (Array.getElem?_eq_some_iff.1 iP1).1
      rw [hW1]
      have k0 : W1.cell? ⟨b, 0, none⟩ = some (.int .u64 (all : Int)) := cell_of iA1 (i := 0) rfl
      have k1 : W1.cell? ⟨b, 1, none⟩ = some (.int .u64 (U 0 : Int)) := cell_of iA1 (i := 1) rfl
      have k2 : W1.cell? ⟨b, 2, none⟩ = some (.int .u64 (U 1 : Int)) := cell_of iA1 (i := 2) rfl
      have k3 : W1.cell? ⟨b, 3, none⟩ = some (.int .u64 (U 2 : Int)) := cell_of iA1 (i := 3) rfl
      have k4 : W1.cell? ⟨b, 4, none⟩ = some (.int .u64 (U 3 : Int)) := cell_of iA1 (i := 4) rfl
      have k5 : W1.cell? ⟨b, 5, none⟩ = some (.int .u64 (U 4 : Int)) := cell_of iA1 (i := 5) rfl
      have k6 : W1.cell? ⟨b, 6, none⟩ = some (.int .u64 (U 5 : Int)) := cell_of iA1 (i := 6) rfl
      have k7 : W1.cell? ⟨b, 7, none⟩ = some (.int .u64 (U 6 : Int)) := cell_of iA1 (i := 7) rfl
      have k8 : W1.cell? ⟨b, 8, none⟩ = some (.int .u64 (U 7 : Int)) := cell_of iA1 (i := 8) rfl
      have k9 : W1.cell? ⟨b, 9, none⟩ = some (.int .u64 (U 8 : Int)) := cell_of iA1 (i := 9) rfl
      have k10 : W1.cell? ⟨b, 10, none⟩ = some (.int .u64 (U 9 : Int)) := cell_of iA1 (i := 10) rfl
      have kp : W1.cell? ⟨pl, 0, none⟩ = some (.int .u64 ((P - 1 : Nat) : Int)) := cell_of iP1 (i := 0) rfl
      have HX := Lib.hid (next_any all (P - 1) U hall (by omega) HN.out W1 (HV.out.below (by rw [hb]; exact iB1)))
      have J1 := Lib.hid (And.intro iA1 (And.intro iR1 (And.intro iC1 (And.intro iP1 (And.intro iB1 iD1)))))
      have hnl : nxt U all (P - 1) < 1024 := nxl_lt U (P - 1) _ (fun i hi => by unfold bl at hi; exact List.mem_range.1 (List.mem_filter.1 hi).1)
      unfold arr at HX
      clear hW1 hs1 iA1 iR1 iC1 iP1 iB1 iD1 cp fp
      gi_wp2_with (first | (refine ⟨trivial, ?_⟩; gi_at_call 55; refine (callsIn_wide.2 HX.out).mono ?_; rintro e w2 ⟨rfl, b2⟩) | (refine ⟨trivial, ?_⟩; gi_at_call 54; refine (callsIn_wide.2 (indices_any (nxt U all (P - 1)) _)).mono ?_; rintro e w' ⟨rfl, rfl⟩))
      have K1 := J1.out
      have hlt2 : pl < w2.heap.size := Nat.lt_of_lt_of_le hlt1 b2.size
      have iA : w2.heap[b]? = some (.cells (arr all U) 64 (0, 0)) := (b2.block b (by omega)).trans K1.1
      have iR : w2.heap[b + 1]? = some (.cells Z 71 (0, 0)) := (b2.block (b + 1) (by omega)).trans K1.2.1
      have iC : w2.heap[b + 1 + 1]? = some (.cells C 71 (0, 0)) := (b2.block (b + 1 + 1) (by omega)).trans K1.2.2.1
      have iP : w2.heap[pl]? = some (.cells #[.int .u64 ((P - 1 : Nat) : Int)] 61 (0, 0)) := (b2.block pl hlt1).trans K1.2.2.2.1
      have iB : Below b w w2 := K1.2.2.2.2.1.trans (b2.mono (by omega))
      have iD : ∀ D ∈ Ds, w2.heap[D]? = some (.deferred (some [])) := fun D hD => (b2.block D (Array.getElem?_eq_some_iff.1 (K1.2.2.2.2.2 D hD)).1).trans (K1.2.2.2.2.2 D hD)
      obtain ⟨nx, hnx⟩ : ∃ nx, nxt U all (P - 1) = nx := ⟨_, rfl⟩
      rw [hnx] at hnl ⊢
      have HNX := Lib.hid hnx
      obtain ⟨W6, hW6⟩ : ∃ W6, w2.alloc (.cells #[.int .u64 (nx : Int)] 61) = W6 := ⟨_, rfl⟩
      have hbs : W6.heap[w2.heap.size]? = some (.cells #[.int .u64 (nx : Int)] 61 (0, 0)) := by rw [← hW6]; exact World.alloc_heap_new w2 _
      have hs6 : W6.heap.size = w2.heap.size + 1 := by rw [← hW6]; simp
      have al : ∀ {k : Nat} {o : Obj}, w2.heap[k]? = some o → W6.heap[k]? = some o := fun h => by rw [← hW6, Below.heap_alloc _ _ _ (Array.getElem?_eq_some_iff.1 h).1]; exact h
      have jB : Below b w W6 := by rw [← hW6]; exact iB.alloc (by omega) _
      have jA := al iA
      have jR := al iR
      have jC := al iC
      have jP := al iP
      have jD : ∀ D ∈ Ds, W6.heap[D]? = some (.deferred (some [])) := fun D hD => al (iD D hD)
      have hDlt : ∀ D ∈ Ds, D < w2.heap.size := fun D hD => (Array.getElem?_eq_some_iff.1 (iD D hD)).1
      have HC0 := Lib.hid JF.out.2.2.2.1
      rw [hW6]
      clear hW6 al iA iR iC iP iB iD K1 b2 hnx k0 k1 k2 k3 k4 k5 k6 k7 k8 k9 k10 kp
      refine range_own rfl (by omega) (gf := 74) (lb := #[.pointer (some ⟨w2.heap.size, 0, none⟩)]) rfl trivial (enters_of Tryd.func74 (by kernel_rfl) rfl)
        (it_any 7 (by omega) w2.heap.size nx hnl) hbs
        (fun pre W => ((W.heap[b]? = some (.cells (arr all U) 64 (0, 0)) ∧ W.heap[b + 1]? = some (.cells Z 71 (0, 0))) ∧ ((∃ C, W.heap[b + 1 + 1]? = some (.cells C 71 (0, 0)) ∧ IsC C (gq U n all P (P - 1) pre)) ∧ W.heap[pl]? = some (.cells #[.int .u64 ((P - 1 : Nat) : Int)] 61 (0, 0)))) ∧ (Below b w W ∧ ∀ D ∈ Ds, W.heap[D]? = some (.deferred (some []))))
        (fun _ _ _ => False)
        (BearsC.and (BearsC.and (BearsC.and (bears_block (fun _ => _) (fun _ => rfl) (by omega)) (bears_block (fun _ => _) (fun _ => rfl) (by omega))) (BearsC.and (bears_ex (fun C => .cells C 71 (0, 0)) (fun _ => rfl) (fun pre C => IsC C (gq U n all P (P - 1) pre)) (by omega)) (bears_block (fun _ => _) (fun _ => rfl) (by omega)))) (BearsC.and (bears_below (by omega) (by omega) (by omega)) (bears_all Ds _ (fun D hD => ⟨by have := hDlt D hD; omega, by have := hDlt D hD; omega⟩))))
        (fun _ _ _ _ _ hs _ _ => hs) (fun s W h => HV.out.below (by rw [hb]; exact h.2.1))
        ⟨⟨⟨jA, jR⟩, ⟨⟨C, jC, HC0.out.congr fun q _ => (gq_nil h0 q).symm⟩, jP⟩⟩, jB, jD⟩
        (fun x => { tmps := #[Value.agg #[Value.int IntKind.u64 (all : Int), Value.int IntKind.u64 (U 0 : Int), Value.int IntKind.u64 (U 1 : Int), Value.int IntKind.u64 (U 2 : Int), Value.int IntKind.u64 (U 3 : Int), Value.int IntKind.u64 (U 4 : Int), Value.int IntKind.u64 (U 5 : Int), Value.int IntKind.u64 (U 6 : Int), Value.int IntKind.u64 (U 7 : Int), Value.int IntKind.u64 (U 8 : Int), Value.int IntKind.u64 (U 9 : Int)], Value.pointer (some { block := b, off := 0 }), Value.pointer (some { block := b + 1, off := 0 }), Value.pointer (some { block := b + 1 + 1, off := 0 }), Value.pointer (some { block := pl, off := 0 }), Value.int .i64 (x : Int), s6, s7, s8, s9, s10, s11, Value.int IntKind.u64 (P : Int), Value.bool true, Value.int IntKind.u64 (P : Int), Value.int IntKind.u64 ((P - 1 : Nat) : Int), Value.agg #[Value.int IntKind.u64 (all : Int), Value.int IntKind.u64 (U 0 : Int), Value.int IntKind.u64 (U 1 : Int), Value.int IntKind.u64 (U 2 : Int), Value.int IntKind.u64 (U 3 : Int), Value.int IntKind.u64 (U 4 : Int), Value.int IntKind.u64 (U 5 : Int), Value.int IntKind.u64 (U 6 : Int), Value.int IntKind.u64 (U 7 : Int), Value.int IntKind.u64 (U 8 : Int), Value.int IntKind.u64 (U 9 : Int)], Value.int IntKind.u64 ((P - 1 : Nat) : Int), Value.int IntKind.u64 (nx : Int), Value.func (Fn.func 74) #[] #[Value.pointer (some { block := w2.heap.size, off := 0 })], Value.int .i64 (x : Int), s21, s22, s23, s24, s25, s26, s27, s28, s29, s30, s31, s32, s33], defers := [] }) ?assign ?body ?done ?stop
      case assign =>
        intro l x W K hK
        gi_wp2
        exact hK
      case stop =>
        rintro D c pre W _ _ h _
        exact h.elim
      case done =>
        rintro D W hD ⟨⟨⟨qA, qR⟩, ⟨⟨C2, qC, hC2⟩, qP⟩⟩, qB, qD⟩ hK
        have cp : W.cell? ⟨pl, 0, none⟩ = some (.int .u64 ((P - 1 : Nat) : Int)) := cell_of qP (i := 0) rfl
        have HQ := Lib.hid (And.intro qA (And.intro qR (And.intro qC (And.intro hC2 (And.intro qP (And.intro qB (And.intro qD hK)))))))
        clear qA qR qC hC2 qP qB qD hK
        gi_wp2
        have hWl : ∀ {k : Nat} {o : Obj}, W.heap[k]? = some o → (W.alloc (.cells #[.int .u64 ((P - 1 : Nat) : Int)] 61)).heap[k]? = some o := fun h => by rw [Below.heap_alloc _ _ _ (Array.getElem?_eq_some_iff.1 h).1]; exact h
        have hcl : b + 1 + 1 < W.heap.size := (Array.getElem?_eq_some_iff.1 HQ.out.2.2.1).1
        refine ⟨⟨P - 1, W.heap.size, D :: Ds, _, _, _, _, _, _, _, _, _, _, _, _, _, _, _, _, _, _, _, _, _, _, _, _, _, _, _, _, _, rfl, by omega, ?_⟩, ?_⟩
        · refine ⟨hWl HQ.out.1, hWl HQ.out.2.1, ⟨C2, hWl HQ.out.2.2.1, HQ.out.2.2.2.1.congr fun q _ => ?_⟩, World.alloc_heap_new W _, HQ.out.2.2.2.2.2.1.alloc (by omega) _, fun E hE => ?_, ?_, fun E hE => ?_, hcl⟩
          · rw [← HNX.out]
            exact gq_all hn10 HALL.out hall h0 hP q
          · rcases List.mem_cons.1 hE with e | e
            · rw [e]; exact hWl HQ.out.2.2.2.2.2.2.2
            · exact hWl (HQ.out.2.2.2.2.2.2.1 E e)
          · refine List.nodup_cons.2 ⟨fun hm => ?_, JF.out.2.2.2.2.2.2.2.1⟩
            have := hDlt D hm
            omega
          · rcases List.mem_cons.1 hE with e | e
            · rw [e]; omega
            · exact JF.out.2.2.2.2.2.2.2.2 E e
        · rw [mu_is rfl (World.alloc_heap_new W _), mu_is rfl JF.out.2.2.2.2.1]
          omega
      case body =>
        rintro l pre x W ⟨⟨⟨qA, qR⟩, ⟨⟨C2, qC, hC2⟩, qP⟩⟩, qB, qD⟩ hpre hWs
        have hxn : x ∈ bl nx := hpre.subset (by simp)
        have hpp : P - 1 < 2 ^ n := by have := HALL.out; omega
        have hrd : rd U all (P - 1) x = true := by
          unfold rd
          rw [HNX.out]
          exact (mem_bl hnl).1 hxn
        obtain ⟨hx1, hx2⟩ := rd_fine HALL.out hall (P - 1) x hpp hrd
        have hq1 := or_gt hx2
        have hq2 := or_lt hpp hx1
        have hx10 : x < 10 := by omega
        have e3 : bits .or .u64 ((P - 1 : Nat) : Int) (2 ^ x : Int) = ((P - 1 ||| 2 ^ x : Nat) : Int) := by
          rw [← or_is _ _ (by omega) (pow_lt hx10)]
          simp
        have hgs := fun q => gq_snoc U n all P (P - 1) pre x q
        have hg2 : gq U n all P (P - 1) pre (P - 1 ||| 2 ^ x) = v (rd U all) n (P - 1 ||| 2 ^ x) := by
          unfold gq
          rw [if_neg (by omega)]
          unfold cf
          rw [if_pos (by omega)]
        have hqa : P - 1 ||| 2 ^ x < 1024 := by have := HALL.out; omega
        obtain ⟨q2, hq2e⟩ : ∃ q2, (P - 1 ||| 2 ^ x) = q2 := ⟨_, rfl⟩
        rw [hq2e] at e3 hg2 hqa hq1 hq2
        have HGS : Hid (∀ q, gq U n all P (P - 1) (pre ++ [x]) q = if q = P - 1 then wrap64 (gq U n all P (P - 1) pre (P - 1) + v (rd U all) n q2) else gq U n all P (P - 1) pre q) := fun q => by rw [hgs q, hq2e]
        have r1 := hC2.2 (P - 1) (by omega)
        have r2 := hC2.2 q2 hqa
        rw [hg2] at r2
        have HC2 := Lib.hid hC2
        generalize hfo : gq U n all P (P - 1) pre (P - 1) = fo at *
        generalize v (rd U all) n q2 = vv at *
        have HFO := Lib.hid hfo
        have c1 : W.cell? ⟨pl, 0, none⟩ = some (.int .u64 ((P - 1 : Nat) : Int)) := cell_of qP (i := 0) rfl
        have c2 : W.cell? ⟨b + 1 + 1, P - 1, none⟩ = some (.int .i64 fo) := cell_of qC r1
        have c3 : W.cell? ⟨b + 1 + 1, q2, none⟩ = some (.int .i64 vv) := cell_of qC r2
        have f2 : W.frozen? ⟨b + 1 + 1, P - 1, none⟩ = false := by simp [World.frozen?, qC]
        have hi1 : ((P - 1 : Nat) : Int) < 1024 := by omega
        have hi2 : (q2 : Int) < 1024 := by omega
        have hmx : Tryd.prog.follows .mixedOrders = true := by kernel_rfl
        have HJ := Lib.hid (And.intro qA (And.intro qR (And.intro qC (And.intro qP (And.intro qB qD)))))
        clear qA qR qC hC2 qP qB qD hpre hxn hrd hx2 hgs hg2 hfo r1 r2
        gi_wp2
        refine EnR.region8 _ _ _ _ _ _ _ _ _ _ _ _ _ _ _ _ _ _ _ _ _ _ _ _ _ _ _ _ _ _ _ (b + 1 + 1) pl (P - 1) x q2 fo vv W (by omega) c1 c2 c3 f2 e3 hi1 hi2 (by omega) (fun a' => ?_)
        refine ⟨((KeepsOthers.setCell _ _ _).trans (KeepsOthers.drew _)).from _, Below.heap_setCell _ _ _ _ (by show w2.heap.size ≠ b + 1 + 1; omega), ⟨⟨(Below.heap_setCell _ _ _ _ (by show b ≠ b + 1 + 1; omega)).trans HJ.out.1, (Below.heap_setCell _ _ _ _ (by show b + 1 ≠ b + 1 + 1; omega)).trans HJ.out.2.1⟩, ⟨⟨_, heap_setCell_same W (b + 1 + 1) (P - 1) C2 _ _ HJ.out.2.2.1, (HC2.out.set (P - 1) _).congr fun q _ => ?_⟩, (Below.heap_setCell _ _ _ _ (by show pl ≠ b + 1 + 1; omega)).trans HJ.out.2.2.2.1⟩⟩, (HJ.out.2.2.2.2.1.setCell (p := ⟨b + 1 + 1, P - 1, none⟩) (by show b ≤ b + 1 + 1; omega) _).drew, fun D hD => ?_⟩
        · rw [HGS.out q, wrap_is]
        · have h1 := HJ.out.2.2.2.2.2 D hD
          exact (Below.heap_setCell _ _ _ _ (by
            show D ≠ b + 1 + 1
            intro e
            subst e
            rw [HJ.out.2.2.1] at h1
            cases h1)).trans h1
end Go.Proofs.YtjllbbkpmmnkgaaDoor.EnI
