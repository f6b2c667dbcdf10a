/- next: which contexts may follow a set of contexts, for an ordering with the sets U of upper contexts. -/
import Derived.Test.YtjllbbkpmmnkgaaDoorInd
import Derived.Sort.QuietIn
namespace Go.Proofs.YtjllbbkpmmnkgaaDoor.Nxt
open Go.RowKit Go.Shelf BlM Tz RgF Ind
attribute [local go_sem] Oper.semAt_some
set_option linter.unusedVariables false
def nxl (U : Nat → Nat) (p : Nat) (xs : List Nat) : Nat := xs.foldl (fun a i => if an (U i) p = 0 then a ||| 2 ^ i else a) 0
theorem nxl_snoc (U : Nat → Nat) (p : Nat) (xs : List Nat) (i : Nat) : nxl U p (xs ++ [i]) = if an (U i) p = 0 then nxl U p xs ||| 2 ^ i else nxl U p xs := by unfold nxl; simp
theorem nxf_lt (U : Nat → Nat) (p : Nat) : ∀ (xs : List Nat) (a : Nat), (∀ i ∈ xs, i < 10) → a < 1024 → xs.foldl (fun a i => if an (U i) p = 0 then a ||| 2 ^ i else a) a < 1024
  | [], a, _, ha => ha
  | x :: xs, a, h, ha => by
    rw [List.foldl_cons]
    refine nxf_lt U p xs _ (fun i hi => h i (List.mem_cons_of_mem _ hi)) ?_
    split
    · exact Nat.or_lt_two_pow (n := 10) ha (pow_lt (h x (by simp)))
    · exact ha
theorem nxl_lt (U : Nat → Nat) (p : Nat) (xs : List Nat) (h : ∀ i ∈ xs, i < 10) : nxl U p xs < 1024 := nxf_lt U p xs 0 h (by decide)
theorem nxf_bit (U : Nat → Nat) (p i : Nat) : ∀ (xs : List Nat) (a : Nat), (xs.foldl (fun a i => if an (U i) p = 0 then a ||| 2 ^ i else a) a).testBit i = true ↔ a.testBit i = true ∨ (i ∈ xs ∧ an (U i) p = 0)
  | [], a => by simp
  | x :: xs, a => by
    rw [List.foldl_cons, nxf_bit U p i xs, List.mem_cons]
    split
    · rename_i h
      rw [Nat.testBit_or, Bool.or_eq_true, Nat.testBit_two_pow, decide_eq_true_iff]
      constructor
      · rintro ((q | q) | q)
        · exact .inl q
        · exact .inr ⟨.inl q.symm, by rw [← q]; exact h⟩
        · exact .inr ⟨.inr q.1, q.2⟩
      · rintro (q | ⟨q | q, e⟩)
        · exact .inl (.inl q)
        · exact .inl (.inr q.symm)
        · exact .inr ⟨q, e⟩
    · rename_i h
      constructor
      · rintro (q | q)
        · exact .inl q
        · exact .inr ⟨.inr q.1, q.2⟩
      · rintro (q | ⟨q | q, e⟩)
        · exact .inl q
        · rw [q] at e; exact absurd e h
        · exact .inr ⟨q, e⟩
theorem nxl_bit (U : Nat → Nat) (p : Nat) (xs : List Nat) (i : Nat) : (nxl U p xs).testBit i = true ↔ i ∈ xs ∧ an (U i) p = 0 := by
  unfold nxl
  rw [nxf_bit]
  simp
/-- The sets U of upper contexts, and all of them, as the program keeps them. -/
def nxt (U : Nat → Nat) (all p : Nat) : Nat := nxl U p (bl (an all p))
def arr (all : Nat) (U : Nat → Nat) : Array Value := #[.int .u64 (all : Int), .int .u64 (U 0 : Int), .int .u64 (U 1 : Int), .int .u64 (U 2 : Int), .int .u64 (U 3 : Int), .int .u64 (U 4 : Int), .int .u64 (U 5 : Int), .int .u64 (U 6 : Int), .int .u64 (U 7 : Int), .int .u64 (U 8 : Int), .int .u64 (U 9 : Int)]
theorem arr_all (all : Nat) (U : Nat → Nat) : (arr all U)[0]? = some (.int .u64 (all : Int)) := rfl
theorem arr_at (all : Nat) (U : Nat → Nat) (i : Nat) (hi : i < 10) : (arr all U)[1 + i]? = some (.int .u64 (U i : Int)) := by
  rcases (show i = 0 ∨ i = 1 ∨ i = 2 ∨ i = 3 ∨ i = 4 ∨ i = 5 ∨ i = 6 ∨ i = 7 ∨ i = 8 ∨ i = 9 by omega) with h | h | h | h | h | h | h | h | h | h <;> subst h <;> rfl
theorem cell_of {w : World} {b : Nat} {A : Array Value} {t : TypeId} (h : w.heap[b]? = some (.cells A t (0, 0))) {i : Nat} {v : Value} (hv : A[i]? = some v) : w.cell? ⟨b, i, none⟩ = some v := by
  simp only [World.cell?, h]
  exact hv
theorem indices_any (s : Nat) (w : World) : Calls Tryd.prog 54 #[.int .u64 (s : Int)] w fun e w' => e = .returned (.func (.func 74) #[] #[.pointer (some ⟨w.heap.size, 0, none⟩)]) ∧ w' = w.alloc (.cells #[.int .u64 (s : Int)] 61) := by
  go_enter Tryd.func54, Tryd.ntmps54
  go_wp2_with fail
  go_ret
  exact ⟨rfl, rfl⟩
set_option maxRecDepth 100000 in
set_option maxHeartbeats 4000000 in
theorem next_any (all p : Nat) (U : Nat → Nat) (hall : all < 1024) (hp : p < 1024) (hU : ∀ i, i < 10 → U i < 1024) (w : World) (hT : Tab w) :
    Calls Tryd.prog 55 #[.agg (arr all U), .int .u64 (p : Int)] w fun e w' => e = .returned (.int .u64 (nxt U all p : Nat)) ∧ Below w.heap.size w w' := by
  obtain ⟨b, hb⟩ : ∃ b, w.heap.size = b := ⟨_, rfl⟩
  have HN := Lib.hid hU
  have HV := Lib.hid hT
  have e1 : bits .andNot .u64 (all : Int) (p : Int) = ((an all p : Nat) : Int) := andNot_is all p hall hp
  clear hU hT
  refine (callsIn_wide (n := 6)).1 ?_
  refine callsIn_of_wp_marks Tryd.func55 rfl trivial ?_ rfl
  unfold arr
  simp only [Tryd.ntmps55, List.size_toArray, List.length_cons, List.length_nil, Nat.reduceAdd, Nat.reduceSub, Array.replicate_succ, Array.replicate_zero, List.push_toArray, List.append_toArray, List.nil_append, List.cons_append]
  gi_wp2_with (refine ⟨trivial, ?_⟩; gi_at_call 54; refine (callsIn_wide.2 (indices_any (an all p) _)).mono ?_; rintro e w' ⟨rfl, rfl⟩)
  obtain ⟨W0, hW0⟩ : ∃ W0, ((((w.alloc (.cells (arr all U) 64)).alloc (.cells #[.int .u64 (p : Int)] 61)).alloc (.cells #[.int .u64 0] 61)).alloc (.cells #[.int .u64 (an all p : Int)] 61)) = W0 := ⟨_, rfl⟩
  have hsz : W0.heap.size = b + 1 + 1 + 1 + 1 := by rw [← hW0, ← hb]; simp
  have hB : Below b w W0 := by
    rw [← hW0, ← hb]
    exact ((((Below.refl _ w).alloc (Nat.le_refl _) _).alloc (by simp) _).alloc (by simp; omega) _).alloc (by simp; omega) _
  have hA : W0.heap[b]? = some (.cells (arr all U) 64 (0, 0)) := by
    rw [← hW0, ← hb, Below.heap_alloc _ _ _ (by simp; omega), Below.heap_alloc _ _ _ (by simp; omega), Below.heap_alloc _ _ _ (by simp)]
    exact World.alloc_heap_new w _
  have hbp : Boxed W0 (b + 1) 61 (.int .u64 (p : Int)) := by
    have := Boxed.new (w.alloc (.cells (arr all U) 64)) 61 (.int .u64 (p : Int))
    rw [World.size_alloc, hb] at this
    rw [← hW0]
    exact (this.alloc _).alloc _
  have hbx : Boxed W0 (b + 1 + 1) 61 (.int .u64 0) := by
    have := Boxed.new ((w.alloc (.cells (arr all U) 64)).alloc (.cells #[.int .u64 (p : Int)] 61)) 61 (.int .u64 0)
    rw [World.size_alloc, World.size_alloc, hb] at this
    rw [← hW0]
    exact this.alloc _
  have hbs : Boxed W0 (b + 1 + 1 + 1) 61 (.int .u64 (an all p : Int)) := by
    have := Boxed.new (((w.alloc (.cells (arr all U) 64)).alloc (.cells #[.int .u64 (p : Int)] 61)).alloc (.cells #[.int .u64 0] 61)) 61 (.int .u64 (an all p : Int))
    rw [World.size_alloc, World.size_alloc, World.size_alloc, hb] at this
    rw [← hW0]
    exact this
  unfold arr at hW0
  rw [hW0]
  clear hW0
  have han : an all p < 1024 := an_lt hall
  refine range_own rfl (by omega) (gf := 74) (lb := #[.pointer (some ⟨b + 1 + 1 + 1, 0, none⟩)]) rfl trivial (enters_of Tryd.func74 (by kernel_rfl) rfl)
    (it_any 5 (by omega) (b + 1 + 1 + 1) (an all p) han) hbs
    (fun pre W => (W.heap[b]? = some (.cells (arr all U) 64 (0, 0)) ∧ (W.heap[b + 1]? = some (.cells #[.int .u64 (p : Int)] 61 (0, 0)) ∧ W.heap[b + 1 + 1]? = some (.cells #[.int .u64 (nxl U p pre : Int)] 61 (0, 0)))) ∧ Below b w W)
    (fun _ _ _ => False)
    (BearsC.and (BearsC.and (bears_block (fun _ => _) (fun _ => rfl) (by omega)) (BearsC.and (bears_block (fun _ => _) (fun _ => rfl) (by omega)) (bears_block (fun pre => .cells #[.int .u64 (nxl U p pre : Int)] 61 (0, 0)) (fun _ => rfl) (by omega)))) (bears_below (by omega) (by omega) (by omega)))
    (fun _ _ _ _ _ hs _ _ => hs) (fun s W h => by have := HV.out.below (w' := W) (by rw [hb]; exact h.2); exact this)
    ⟨⟨hA, hbp, hbx⟩, hB⟩
    (fun x => { tmps := #[Value.agg #[Value.int IntKind.u64 (all : Int), Value.int IntKind.u64 (U 0 : Int), Value.int IntKind.u64 (U 1 : Int), Value.int IntKind.u64 (U 2 : Int), Value.int IntKind.u64 (U 3 : Int), Value.int IntKind.u64 (U 4 : Int), Value.int IntKind.u64 (U 5 : Int), Value.int IntKind.u64 (U 6 : Int), Value.int IntKind.u64 (U 7 : Int), Value.int IntKind.u64 (U 8 : Int), Value.int IntKind.u64 (U 9 : Int)],
          Value.int IntKind.u64 (p : Int), Value.pointer (some { block := b, off := 0 }),
          Value.pointer (some { block := b + 1, off := 0 }), Value.int IntKind.u64 0,
          Value.pointer (some { block := b + 1 + 1, off := 0 }), Value.int .i64 (x : Int), Value.pointer (some { block := b, off := 0 }),
          Value.int IntKind.u64 (all : Int), Value.int IntKind.u64 (p : Int), Value.int IntKind.u64 (an all p : Int),
          Value.func (Fn.func 74) #[] #[Value.pointer (some { block := b + 1 + 1 + 1, off := 0 })], Value.int .i64 (x : Int), undef, undef,
          undef, undef, undef, undef, undef, undef, undef, undef, undef, undef], defers := [] }) ?assign ?body ?done ?stop
  case assign =>
    intro l x W K hK
    gi_wp2
    exact hK
  case body =>
    rintro l pre x W ⟨⟨jA, jp, jx⟩, jB⟩ hpre hWs
    have hx10 : x < 10 := by
      have : x ∈ bl (an all p) := hpre.subset (by simp)
      unfold bl at this
      exact List.mem_range.1 (List.mem_filter.1 this).1
    have hpl : ∀ i ∈ pre, i < 10 := fun i hi => by
      have : i ∈ bl (an all p) := hpre.subset (List.mem_append_left _ hi)
      unfold bl at this
      exact List.mem_range.1 (List.mem_filter.1 this).1
    have c1 := cell_of jA (arr_at all U x hx10)
    have c2 : W.cell? ⟨b + 1, 0, none⟩ = some (.int .u64 (p : Int)) := cell_of jp (i := 0) rfl
    have c3 : W.cell? ⟨b + 1 + 1, 0, none⟩ = some (.int .u64 (nxl U p pre : Int)) := cell_of jx (i := 0) rfl
    have f3 : W.frozen? ⟨b + 1 + 1, 0, none⟩ = false := Boxed.frozen (t := 61) jx
    have e2 : bits .andNot .u64 (U x : Int) (p : Int) = ((an (U x) p : Nat) : Int) := andNot_is (U x) p (HN.out x hx10) hp
    have hlt := nxl_lt U p pre hpl
    have e3 : bits .or .u64 (nxl U p pre : Int) (2 ^ x : Int) = ((nxl U p pre ||| 2 ^ x : Nat) : Int) := by
      rw [← or_is _ _ hlt (pow_lt hx10)]
      simp
    have hxi : (x : Int) < 10 := by omega
    have hmx : Tryd.prog.follows .mixedOrders = true := by kernel_rfl
    have hsn := nxl_snoc U p pre x
    have HSN := Lib.hid hsn
    have HJ := Lib.hid (And.intro jA (And.intro jp (And.intro jx jB)))
    clear hsn jA jp jx jB hpre
    gi_wp2
    by_cases hz : an (U x) p = 0
    · have hz0 : (((an (U x) p : Nat) : Int) == 0) = true := by rw [hz]; rfl
      have HZ := Lib.hid hz
      clear hz
      gi_region_with_o (fail)
      all_goals gi_wp2
      all_goals (gi_region_with_o (refine ⟨trivial, ?_⟩; gi_at_call 53; refine (CallsIn.inRound l (callsIn_wide.2 (set_any x (by omega) _))).mono ?_; rintro e w' ⟨rfl, rfl⟩))
      all_goals gi_wp2
      all_goals (try go_bits)
      all_goals (
        refine ⟨((KeepsOthers.setCell _ _ _).trans ((KeepsOthers.drew _).trans (KeepsOthers.drew _))).from _, Below.heap_setCell _ _ _ _ (by show b + 1 + 1 + 1 ≠ b + 1 + 1; omega), ⟨⟨(Below.heap_setCell _ _ _ _ (by show b ≠ b + 1 + 1; omega)).trans HJ.out.1, (Below.heap_setCell _ _ _ _ (by show b + 1 ≠ b + 1 + 1; omega)).trans HJ.out.2.1, ?_⟩, ((HJ.out.2.2.2.setCell (p := ⟨b + 1 + 1, 0, none⟩) (by show b ≤ b + 1 + 1; omega) _).drew).drew⟩⟩
        rw [HSN.out, if_pos HZ.out, ← e3]
        exact Boxed.set (t := 61) _ HJ.out.2.2.1)
    · have hz0 : (((an (U x) p : Nat) : Int) == 0) = false := by simp; omega
      have HZ := Lib.hid hz
      clear hz
      gi_region_with_o (fail)
      all_goals gi_wp2
      all_goals (
        refine ⟨(KeepsOthers.drew _).from _, rfl, ⟨⟨HJ.out.1, HJ.out.2.1, ?_⟩, HJ.out.2.2.2.drew⟩⟩
        rw [HSN.out, if_neg HZ.out]
        exact HJ.out.2.2.1)
  case done =>
    rintro D W hD ⟨⟨jA, jp, jx⟩, jB⟩ hK
    have c3 : W.cell? ⟨b + 1 + 1, 0, none⟩ = some (.int .u64 (nxl U p (bl (an all p)) : Int)) := cell_of jx (i := 0) rfl
    gi_wp2
    refine ⟨by simp, .inl ⟨_, _, rfl, run_takeDeferred hK, ?_⟩⟩
    exact ⟨_, results_tmp rfl _ _ _, rfl, by rw [hb]; exact jB.trans (belowK_b (w := w) (by omega) W D _ _ (by omega) hK rfl rfl)⟩
  case stop =>
    rintro D c pre W _ _ h _
    exact h.elim
end Go.Proofs.YtjllbbkpmmnkgaaDoor.Nxt
