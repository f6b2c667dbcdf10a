/- The program's portions: portionOf, isWithin, isReachedBy. -/
import Derived.Test.YtfnbjfmegikciaaWwI
import Derived.Test.YtfnbjfmegikciaaQsw
import Derived.Test.YtfnbjfmegikciaaRdM
namespace Go.Proofs.Ytfnbjfmegikciaa.PoI
open Go Go.RowKit Pairs Rec Keep GivesI DvM DvG DvI Di ShI Yr AtM WwI
set_option linter.unusedVariables false
/-- A fraction. -/
def isF (num den : Int) : Bool := decide (0 < num ∧ num ≤ den ∧ den ≤ 1000)
theorem isFraction_any (num den : Int) (w : World) :
    Calls Try.prog 72 #[.int .i64 num, .int .i64 den] w fun e w' => e = .returned (.bool (isF num den)) ∧ w' = w := by
  unfold isF
  go_enter Try.func72, Try.ntmps72
  by_cases h1 : 0 < num
  · by_cases h2 : num ≤ den
    · by_cases h3 : den ≤ 1000
      · rw [decide_eq_true ⟨h1, h2, h3⟩]
        go_wp2_with fail
        go_ret
        exact ⟨rfl, rfl⟩
      · rw [decide_eq_false fun h => h3 h.2.2]
        go_wp2_with fail
        go_ret
        exact ⟨rfl, rfl⟩
    · rw [decide_eq_false fun h => h2 h.2.1]
      go_wp2_with fail
      go_ret
      exact ⟨rfl, rfl⟩
  · rw [decide_eq_false fun h => h1 h.1]
    go_wp2_with fail
    go_ret
    exact ⟨rfl, rfl⟩
/-- What a portion asks for. -/
def least (num den : Int) (M : List Int) : Int := (num * M.sum + den - 1) / den
theorem box3 (w : World) (u v x : Value) (T : TypeId) : (w.alloc (.cells #[u, v, x] T)).cell? ⟨w.heap.size, 0, none⟩ = some u ∧ (w.alloc (.cells #[u, v, x] T)).cell? ⟨w.heap.size, 1, none⟩ = some v ∧ (w.alloc (.cells #[u, v, x] T)).cell? ⟨w.heap.size, 2, none⟩ = some x := by
  refine ⟨?_, ?_, ?_⟩ <;> rw [World.cell?_alloc_mark] <;> rfl
set_option maxRecDepth 100000 in
set_option maxHeartbeats 4000000 in
theorem within_meets (f : Int) (p : Option Addr) (n c : Nat) (M : List Int) (z x t : Int) (w : World) (hn : n ≤ 1048576) (hf : -1000000000 ≤ f ∧ f ≤ 1000000000) (hx : -1000000 ≤ x ∧ x ≤ 1000000) (ht : -1000000 ≤ t ∧ t ≤ 1000000) (hM : ∀ x ∈ M, 0 ≤ x ∧ x ≤ 1000000) (h : HoldsI w p n M) :
    Calls Try.prog 69 #[.agg #[.int .i64 f, .slice p n c, .int .i64 z], .agg #[.int .i64 x, .int .i64 t]] w fun e w' => e = .returned (.bool (decide (z ≤ sw f M (yrs x t)))) ∧ Below w.heap.size w w' := by
  have hb := below_alloc2 w (.cells #[.int .i64 f, .slice p n c, .int .i64 z] 67) (.cells #[.int .i64 x, .int .i64 t] 53)
  have H := Lib.hid (h.below hb)
  have HB := Lib.hid hb
  obtain ⟨f1, f2, f3⟩ := box3 w (.int .i64 f) (.slice p n c) (.int .i64 z) 67
  have b2 := below_alloc (w.alloc (.cells #[.int .i64 f, .slice p n c, .int .i64 z] 67)) (.cells #[.int .i64 x, .int .i64 t] 53)
  have g1 := (b2.cell (p := ⟨w.heap.size, 0, none⟩) (by simp)).trans f1
  have g2 := (b2.cell (p := ⟨w.heap.size, 1, none⟩) (by simp)).trans f2
  have g3 := (b2.cell (p := ⟨w.heap.size, 2, none⟩) (by simp)).trans f3
  have g4 := box_first (w.alloc (.cells #[.int .i64 f, .slice p n c, .int .i64 z] 67)) (.int .i64 x) (.int .i64 t) 53
  have g5 := box_second (w.alloc (.cells #[.int .i64 f, .slice p n c, .int .i64 z] 67)) (.int .i64 x) (.int .i64 t) 53
  rw [show (w.alloc (.cells #[.int .i64 f, .slice p n c, .int .i64 z] 67)).heap.size = w.heap.size + 1 by simp] at g4 g5
  clear h hb f1 f2 f3 b2
  go_enter Try.func69, Try.ntmps69
  go_wp2_with fail
  generalize (w.alloc (.cells #[.int .i64 f, .slice p n c, .int .i64 z] 67)).alloc (.cells #[.int .i64 x, .int .i64 t] 53) = W at *
  have cW : ∀ d os, Calls Try.prog 62 #[.agg #[.int .i64 f, .slice p n c], .agg #[.int .i64 x, .int .i64 t]] (Sort.grow (redrawn W d) os) fun e w'' => e = .returned (.int .i64 (sw f M (yrs x t))) ∧ ∃ p : Regrown, w'' = Sort.grow (redrawn W p.d) p.os := fun d os => Calls.regrown_of (within_any f p n c M x t _ hn (by omega) (by omega) (by omega) hM (H.out.below (below_regrown W d os)))
  obtain ⟨S, hS⟩ : ∃ S, S = sw f M (yrs x t) := ⟨_, rfl⟩
  rw [← hS] at cW
  have HS := Lib.hid hS
  clear hS
  have k1 := cell_regrown g1
  have k2 := cell_regrown g2
  have k3 := cell_regrown g3
  have k4 := cell_regrown g4
  have k5 := cell_regrown g5
  refine wp_region_quiet_below (by kernel_rfl) (by kernel_rfl) ?_
  repeat (go_big_quiet_step ((go_at_call 62; exact cW _ _)))
  refine wpQuiet_nil ?_
  intro _ hw'
  obtain ⟨⟨dq, osq⟩, hw''⟩ := hw'
  subst hw''
  have HBQ := Lib.hid (below_regrown W dq osq)
  clear k1 k2 k3 k4 k5 g1 g2 g3 g4 g5 cW
  generalize Sort.grow (redrawn W dq) osq = W5 at *
  go_wp2_with fail
  go_ret
  exact ⟨by rw [← HS.out]; rfl, HB.out.trans (HBQ.out.mono HB.out.size)⟩
set_option maxRecDepth 100000 in
theorem reached_meets (f : Int) (p : Option Addr) (n c : Nat) (M : List Int) (z y : Int) (w : World) (hn : n ≤ 1048576) (hf : -1000000 ≤ f ∧ f ≤ 1000000) (hy : -1000000 ≤ y ∧ y ≤ 1000000) (hM : ∀ x ∈ M, 0 ≤ x ∧ x ≤ 1000000) (h : HoldsI w p n M) :
    Calls Try.prog 66 #[.agg #[.int .i64 f, .slice p n c, .int .i64 z], .int .i64 y] w fun e w' => e = .returned (.bool (decide (z ≤ sw f M (yrs f y)))) ∧ Below w.heap.size w w' := by
  have hb := below_alloc w (.cells #[.int .i64 f, .slice p n c, .int .i64 z] 67)
  have H := Lib.hid (h.below hb)
  have HB := Lib.hid hb
  obtain ⟨f1, f2, f3⟩ := box3 w (.int .i64 f) (.slice p n c) (.int .i64 z) 67
  clear h hb
  go_enter Try.func66, Try.ntmps66
  go_wp2_with fail
  generalize w.alloc (.cells #[.int .i64 f, .slice p n c, .int .i64 z] 67) = W at *
  refine (within_meets f p n c M z f y W hn (by omega) (by omega) (by omega) hM H.out).mono ?_
  rintro e w1 ⟨rfl, b⟩
  have HB2 := Lib.hid (HB.out.trans (b.mono HB.out.size))
  clear b f1 f2 f3 HB H
  go_wp2_with fail
  go_ret
  exact ⟨rfl, HB2.out⟩
/-- A box of a distribution and a portion's result. -/
theorem boxP (w : World) (u1 v1 u2 v2 x2 : Value) (t1 t2 : TypeId) :
    ((w.alloc (.cells #[u1, v1] t1)).alloc (.cells #[u2, v2, x2] t2)).heap.size = w.heap.size + 2 ∧ ((w.alloc (.cells #[u1, v1] t1)).alloc (.cells #[u2, v2, x2] t2)).heap[w.heap.size]? = some (.cells #[u1, v1] t1) ∧
    ((w.alloc (.cells #[u1, v1] t1)).alloc (.cells #[u2, v2, x2] t2)).heap[w.heap.size + 1]? = some (.cells #[u2, v2, x2] t2) ∧ Below w.heap.size w ((w.alloc (.cells #[u1, v1] t1)).alloc (.cells #[u2, v2, x2] t2)) := by
  have e : ∀ (w : World) (o : Obj), (w.alloc o).heap = w.heap.push o := fun _ _ => rfl
  refine ⟨by rw [e, e]; simp, ?_, ?_, below_alloc2 _ _ _⟩
  · rw [e, e, Array.getElem?_push, if_neg (by simp), Array.getElem?_push, if_pos rfl]
  · rw [e, e, Array.getElem?_push, if_pos (by simp)]
/-- A result of three cells. -/
structure R3 (w : World) (g : Nat) (u v x : Value) : Prop where
  c0 : w.cell? ⟨g, 0, none⟩ = some u
  c1 : w.cell? ⟨g, 1, none⟩ = some v
  c2 : w.cell? ⟨g, 2, none⟩ = some x
  f0 : w.frozen? ⟨g, 0, none⟩ = false
  f1 : w.frozen? ⟨g, 1, none⟩ = false
  f2 : w.frozen? ⟨g, 2, none⟩ = false
  lt : g < w.heap.size
theorem R3.below {w w' : World} {g : Nat} {u v x : Value} (h : R3 w g u v x) (b : Below w.heap.size w w') : R3 w' g u v x :=
  ⟨(b.cell (p := ⟨g, 0, none⟩) h.lt).trans h.c0, (b.cell (p := ⟨g, 1, none⟩) h.lt).trans h.c1, (b.cell (p := ⟨g, 2, none⟩) h.lt).trans h.c2, (b.frozen (p := ⟨g, 0, none⟩) h.lt).trans h.f0, (b.frozen (p := ⟨g, 1, none⟩) h.lt).trans h.f1, (b.frozen (p := ⟨g, 2, none⟩) h.lt).trans h.f2, Nat.lt_of_lt_of_le h.lt b.size⟩
theorem below3 {n₀ : Nat} {w W : World} {b : Nat} {u1 u2 u3 : Value} (h : Below n₀ w W) (hb : n₀ ≤ b) :
    Below n₀ w (((W.setCell ⟨b, 0, none⟩ u1).setCell ⟨b, 1, none⟩ u2).setCell ⟨b, 2, none⟩ u3) :=
  ((h.setCell (p := ⟨b, 0, none⟩) hb _).setCell (p := ⟨b, 1, none⟩) hb _).setCell (p := ⟨b, 2, none⟩) hb _
/-- The portion that a fraction of a distribution makes. -/
def poV (num den f : Int) (p : Option Addr) (n c : Nat) (M : List Int) : Value :=
  if okD f M && isF num den then .tuple #[.agg #[.int .i64 f, .slice p n c, .int .i64 (least num den M)], .bool true] else .tuple #[.agg #[.int .i64 0, .slice none 0 0, .int .i64 0], .bool false]
theorem poV_no {num den f : Int} {p : Option Addr} {n c : Nat} {M : List Int} (h : okD f M = true → isF num den = true → False) : poV num den f p n c M = .tuple #[.agg #[.int .i64 0, .slice none 0 0, .int .i64 0], .bool false] := by
  unfold poV
  rw [if_neg]
  intro e
  rw [Bool.and_eq_true] at e
  exact h e.1 e.2
theorem poV_yes {num den f : Int} {p : Option Addr} {n c : Nat} {M : List Int} (h1 : okD f M = true) (h2 : isF num den = true) : poV num den f p n c M = .tuple #[.agg #[.int .i64 f, .slice p n c, .int .i64 (least num den M)], .bool true] := by
  unfold poV
  rw [h1, h2]
  rfl
theorem sum_bd {m : Int} (hm : 0 ≤ m) : ∀ L : List Int, (∀ x ∈ L, 0 ≤ x ∧ x ≤ m) → 0 ≤ L.sum ∧ L.sum ≤ m * L.length
  | [], _ => by simp
  | y :: L, h => by
    have ih := sum_bd hm L fun x hx => h x (List.mem_cons_of_mem _ hx)
    have hb := h y (by simp)
    rw [List.sum_cons, List.length_cons]
    have : m * ((L.length + 1 : Nat) : Int) = m * L.length + m := by rw [Int.natCast_add, Int.mul_add]; simp
    omega
set_option maxRecDepth 100000 in
set_option maxHeartbeats 8000000 in
theorem portionOf_any (num den f : Int) (p : Option Addr) (n c : Nat) (M : List Int) (w : World) (hn : n ≤ 1048576) (h : HoldsI w p n M) :
    Calls Try.prog 64 #[.agg #[.int .i64 f, .slice p n c], .int .i64 num, .int .i64 den] w fun e w' => e = .returned (poV num den f p n c M) ∧ Below w.heap.size w w' := by
  obtain ⟨hs, k0, k1, hb0⟩ := boxP w (.int .i64 f) (.slice p n c) (.int .i64 0) (.slice none 0 0) (.int .i64 0) 27 67
  have HL := Lib.hid h.1
  have H := Lib.hid (h.below hb0)
  have HB := Lib.hid hb0
  have x1 : ((w.alloc (.cells #[.int .i64 f, .slice p n c] 27)).alloc (.cells #[.int .i64 0, .slice none 0 0, .int .i64 0] 67)).cell? ⟨w.heap.size, 0, none⟩ = some (.int .i64 f) := by unfold World.cell?; rw [k0]; rfl
  have x2 : ((w.alloc (.cells #[.int .i64 f, .slice p n c] 27)).alloc (.cells #[.int .i64 0, .slice none 0 0, .int .i64 0] 67)).cell? ⟨w.heap.size, 1, none⟩ = some (.slice p n c) := by unfold World.cell?; rw [k0]; rfl
  have BX : Hid (R3 ((w.alloc (.cells #[.int .i64 f, .slice p n c] 27)).alloc (.cells #[.int .i64 0, .slice none 0 0, .int .i64 0] 67)) (w.heap.size + 1) (.int .i64 0) (.slice none 0 0) (.int .i64 0)) :=
    ⟨by unfold World.cell?; rw [k1]; rfl, by unfold World.cell?; rw [k1]; rfl, by unfold World.cell?; rw [k1]; rfl, by unfold World.frozen?; rw [k1]; rfl, by unfold World.frozen?; rw [k1]; rfl, by unfold World.frozen?; rw [k1]; rfl, by rw [hs]; omega⟩
  have hlt : w.heap.size < ((w.alloc (.cells #[.int .i64 f, .slice p n c] 27)).alloc (.cells #[.int .i64 0, .slice none 0 0, .int .i64 0] 67)).heap.size := by rw [hs]; omega
  clear h hb0 hs k0 k1
  go_enter Try.func64, Try.ntmps64
  go_wp2_with fail
  generalize (w.alloc (.cells #[.int .i64 f, .slice p n c] 27)).alloc (.cells #[.int .i64 0, .slice none 0 0, .int .i64 0] 67) = W at *
  refine (valid_any f p n c M W hn H.out).mono ?_
  rintro e w1 ⟨rfl, b⟩
  replace x1 := (b.cell (p := ⟨w.heap.size, 0, none⟩) hlt).trans x1
  replace x2 := (b.cell (p := ⟨w.heap.size, 1, none⟩) hlt).trans x2
  replace hlt := Nat.lt_of_lt_of_le hlt b.size
  replace H := Lib.hid (H.out.below b)
  replace BX := Lib.hid (BX.out.below b)
  replace HB := Lib.hid (HB.out.trans (b.mono HB.out.size))
  clear b
  cases hv : okD f M with
  | false =>
    have HN := Lib.hid (poV_no (num := num) (den := den) (f := f) (p := p) (n := n) (c := c) (M := M) fun e _ => by rw [hv] at e; cases e)
    obtain ⟨c0, c1, c2, f0, f1, f2, -⟩ := BX.out
    go_wp2_with fail
    try simp only [Exit.inBlock, Exit.then]
    refine bodyPost_ret (v := .tuple #[.agg #[.int .i64 0, .slice none 0 0, .int .i64 0], .bool false]) (by simp [results, Try.results64, go_sem, c0, c1, c2]) rfl ?_
    rw [HN.out]
    exact ⟨rfl, below3 HB.out (by omega)⟩
  | true =>
    have HV := Lib.hid hv
    have O := okD_iff.1 hv
    clear hv
    go_wp2_with fail
    refine (isFraction_any num den _).mono ?_
    rintro e w2 ⟨rfl, rfl⟩
    cases hf : isF num den with
    | false =>
      have HN := Lib.hid (poV_no (num := num) (den := den) (f := f) (p := p) (n := n) (c := c) (M := M) fun _ e => by rw [hf] at e; cases e)
      obtain ⟨c0, c1, c2, f0, f1, f2, -⟩ := BX.out
      clear O
      go_wp2_with fail
      try simp only [Exit.inBlock, Exit.then]
      refine bodyPost_ret (v := .tuple #[.agg #[.int .i64 0, .slice none 0 0, .int .i64 0], .bool false]) (by simp [results, Try.results64, go_sem, c0, c1, c2]) rfl ?_
      rw [HN.out]
      exact ⟨rfl, below3 HB.out (by omega)⟩
    | true =>
      have HN := Lib.hid (poV_yes (p := p) (n := n) (c := c) HV.out hf)
      have hff : 0 < num ∧ num ≤ den ∧ den ≤ 1000 := of_decide_eq_true hf
      have hsb := sum_bd (m := 1000000) (by omega) M (fun x hx => upTo_mem O.all hx)
      have hl60 := O.len
      have cS : ∀ d os, Calls Try.prog 54 #[.agg #[.int .i64 f, .slice p n c]] (Sort.grow (redrawn w2 d) os) fun e w'' => e = .returned (.int .i64 M.sum) ∧ ∃ p : Regrown, w'' = Sort.grow (redrawn w2 p.d) p.os := fun d os => Calls.regrown_of (sum_any f p n c M _ hn HV.out (H.out.below (below_regrown w2 d os)))
      have HLE := Lib.hid (show least num den M = (num * M.sum + den - 1) / den from rfl)
      obtain ⟨S, hS⟩ : ∃ S, S = M.sum := ⟨_, rfl⟩
      rw [← hS] at cS hsb HLE
      have hS2 : 0 ≤ S ∧ S ≤ 60000000 := by omega
      have hm1 : 0 ≤ num * S := Int.mul_nonneg (by omega) (by omega)
      have hm2 : num * S ≤ 1000 * 60000000 := Int.mul_le_mul (by omega) (by omega) (by omega) (by omega)
      have w1' : IntKind.i64.wrap (num * S) = num * S := by rw [IntKind.wrap_i64]; omega
      have w2' : IntKind.i64.wrap (num * S + den) = num * S + den := by rw [IntKind.wrap_i64]; omega
      have w3' : IntKind.i64.wrap (num * S + den - 1) = num * S + den - 1 := by rw [IntKind.wrap_i64]; omega
      have w4' : ¬ den = 0 := by omega
      have hq := RdM.div_bd (x := num * S + den - 1) (d := den) (by omega) (by omega)
      have w5' : IntKind.i64.wrap ((num * S + den - 1).tdiv den) = (num * S + den - 1) / den := by rw [Int.tdiv_eq_ediv_of_nonneg (by omega), IntKind.wrap_i64]; omega
      have q1 := cell_regrown x1
      have q2 := cell_regrown x2
      clear O hS hf hl60 hsb
      go_wp2_with fail
      refine Qsw.region_at_p 11 (by kernel_rfl) (by kernel_rfl) ?_
      simp only [List.take_succ_cons, List.take_zero, List.drop_succ_cons, List.drop_zero]
      repeat (go_big_quiet_step ((go_at_call 54; exact cS _ _)))
      refine wpQuiet_nil ?_
      intro _ hw'
      obtain ⟨⟨dq, osq⟩, hw''⟩ := hw'
      subst hw''
      have HBQ := Lib.hid (below_regrown w2 dq osq)
      clear q1 q2 x1 x2 cS
      generalize Sort.grow (redrawn w2 dq) osq = W5 at *
      obtain ⟨c0, c1, c2, f0, f1, f2, -⟩ := BX.out.below HBQ.out
      go_wp2_with fail
      try simp only [Exit.inBlock, Exit.then]
      refine bodyPost_ret (v := .tuple #[.agg #[.int .i64 f, .slice p n c, .int .i64 ((num * S + den - 1) / den)], .bool true]) (by simp [results, Try.results64, go_sem, c0, c1, c2]) rfl ?_
      rw [HN.out, HLE.out]
      exact ⟨rfl, below3 (HB.out.trans (HBQ.out.mono HB.out.size)) (by omega)⟩
end Go.Proofs.Ytfnbjfmegikciaa.PoI
