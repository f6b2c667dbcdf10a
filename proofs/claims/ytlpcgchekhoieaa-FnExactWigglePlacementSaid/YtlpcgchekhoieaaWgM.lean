/- WigglePlacement: the mathematics; the gaps and the distances of the samples. -/
import Derived.Test.YtlpcgchekhoieaaClI
namespace Go.Proofs.Ytlpcgchekhoieaa.WgM
open Go Go.RowKit Pairs Rec Keep GivesI Cu CvM PtM Sw ShI RdM Yr
set_option linter.unusedVariables false
def okG (gs : List Int) : Bool := gs.all fun x => decide (0 ≤ x ∧ x ≤ 100)
theorem okG_any (gs : List Int) : okG gs = !(gs.any fun x => decide (x < 0) || decide (100 < x)) := by
  unfold okG
  rw [List.not_any_eq_all_not]
  congr 1
  funext x
  by_cases h1 : x < 0
  · simp [h1]; omega
  · by_cases h2 : 100 < x
    · simp [h1, h2]
    · simp [h1, h2]; omega
theorem okG_mem {gs : List Int} (h : okG gs = true) {x : Int} (hx : x ∈ gs) : 0 ≤ x ∧ x ≤ 100 := by
  unfold okG at h
  rw [List.all_eq_true] at h
  exact of_decide_eq_true (h x hx)
/-- By how much a sample is later than the first one. -/
def dst (gs : List Int) (i : Nat) : Int := (gs.take i).sum
theorem dst_next {gs : List Int} {i : Nat} {x : Int} (h : gs[i]? = some x) : dst gs (i + 1) = dst gs i + x := by
  unfold dst
  rw [List.take_add_one, h, List.sum_append]
  simp
theorem dst_bd {gs : List Int} (h : okG gs = true) : ∀ i, 0 ≤ dst gs i ∧ dst gs i ≤ 100 * (i : Int)
  | 0 => by unfold dst; simp
  | i + 1 => by
    obtain ⟨h1, h2⟩ := dst_bd h i
    cases hx : gs[i]? with
    | none =>
      have : dst gs (i + 1) = dst gs i := by unfold dst; rw [List.take_add_one, hx]; simp
      omega
    | some x =>
      have := okG_mem h (List.mem_of_getElem? hx)
      rw [dst_next hx]
      omega
/-- The product of the weights of the first k samples in a year, if none on the way is too great. -/
def prd (L : List Dt) (ms : List (Int × Int)) (gs : List Int) (y : Int) : Nat → Option Int
  | 0 => some 1
  | k + 1 => match prd L ms gs y k with
    | none => none
    | some p => if 1000000000000 < p * swt L (ms.getD k (0, 0)) (y + dst gs k) then none else some (p * swt L (ms.getD k (0, 0)) (y + dst gs k))
theorem prd_no {L : List Dt} {ms : List (Int × Int)} {gs : List Int} {y p : Int} {k : Nat} (h : prd L ms gs y k = some p) (hg : 1000000000000 < p * swt L (ms.getD k (0, 0)) (y + dst gs k)) : ∀ n, k + 1 ≤ n → prd L ms gs y n = none
  | 0, hn => by omega
  | n + 1, hn => by
    by_cases e : k = n
    · subst e
      unfold prd
      rw [h]
      exact if_pos hg
    · unfold prd
      rw [prd_no h hg n (by omega)]
theorem prd_yes {L : List Dt} {ms : List (Int × Int)} {gs : List Int} {y p : Int} {k : Nat} (h : prd L ms gs y k = some p) (hg : ¬ 1000000000000 < p * swt L (ms.getD k (0, 0)) (y + dst gs k)) : prd L ms gs y (k + 1) = some (p * swt L (ms.getD k (0, 0)) (y + dst gs k)) := by
  show (match prd L ms gs y k with | none => none | some p => if 1000000000000 < p * swt L (ms.getD k (0, 0)) (y + dst gs k) then none else some (p * swt L (ms.getD k (0, 0)) (y + dst gs k))) = _
  rw [h]
  exact if_neg hg
def pwt (L : List Dt) (ms : List (Int × Int)) (gs : List Int) (y : Int) : Int := (prd L ms gs y ms.length).getD 0
/-- No product is too great in a year. -/
def fine (L : List Dt) (ms : List (Int × Int)) (gs : List Int) (y : Int) : Bool := (prd L ms gs y ms.length).isSome
noncomputable def wgP (L : List Dt) (ms : List (Int × Int)) (gs : List Int) : Option (Int × List Int) :=
  if cv L && MsM.msOK 6 ms && (decide ((gs.length : Int) = (ms.length : Int) - 1) && okG gs) && (yrs (pt L 0).1 (pt L (L.length - 1)).1).all (fine L ms gs) then red (pt L 0).1 ((yrs (pt L 0).1 (pt L (L.length - 1)).1).map (pwt L ms gs)) else none
theorem wgP_no {L : List Dt} {ms : List (Int × Int)} {gs : List Int} (h : cv L = true → MsM.msOK 6 ms = true → (gs.length : Int) = (ms.length : Int) - 1 → okG gs = true → (∀ y ∈ yrs (pt L 0).1 (pt L (L.length - 1)).1, fine L ms gs y = true) → False) : wgP L ms gs = none := by
  unfold wgP
  rw [if_neg]
  intro e
  simp only [Bool.and_eq_true, decide_eq_true_eq, List.all_eq_true] at e
  exact h e.1.1.1 e.1.1.2 e.1.2.1 e.1.2.2 e.2
theorem wgP_yes {L : List Dt} {ms : List (Int × Int)} {gs : List Int} (h1 : cv L = true) (h2 : MsM.msOK 6 ms = true) (h3 : (gs.length : Int) = (ms.length : Int) - 1) (h4 : okG gs = true) (h5 : ∀ y ∈ yrs (pt L 0).1 (pt L (L.length - 1)).1, fine L ms gs y = true) :
    wgP L ms gs = red (pt L 0).1 ((yrs (pt L 0).1 (pt L (L.length - 1)).1).map (pwt L ms gs)) := by
  unfold wgP
  rw [if_pos]
  simp only [Bool.and_eq_true, decide_eq_true_eq, List.all_eq_true]
  exact ⟨⟨⟨h1, h2⟩, h3, h4⟩, h5⟩
theorem pw_bd {L : List Dt} {ms : List (Int × Int)} {gs : List Int} (o : OkC L) (hm : ∀ q ∈ ms, MsM.okM q = true) (y : Int) : ∀ (k : Nat) (p : Int), k ≤ ms.length → prd L ms gs y k = some p → 0 ≤ p ∧ p ≤ 1000000000000
  | 0, p, _, h => by
    have : (1 : Int) = p := by injection h
    omega
  | k + 1, p, hk, h => by
    cases hp : prd L ms gs y k with
    | none => unfold prd at h; rw [hp] at h; cases h
    | some r =>
      obtain ⟨b1, b2⟩ := pw_bd o hm y k r (by omega) hp
      have hs : 0 ≤ swt L (ms.getD k (0, 0)) (y + dst gs k) := (swt_bd o (hm _ (by rw [List.getD_eq_getElem?_getD, List.getElem?_eq_getElem (by omega)]; exact List.getElem_mem (by omega))) _).1
      by_cases hg : 1000000000000 < r * swt L (ms.getD k (0, 0)) (y + dst gs k)
      · rw [prd_no hp hg (k + 1) (Nat.le_refl _)] at h; cases h
      · rw [prd_yes hp hg] at h
        injection h with h
        subst h
        exact ⟨Int.mul_nonneg b1 hs, by omega⟩
theorem gap_clo (x : Int) (w : World) :
    Calls Try.prog 106 #[.int .i64 x] w fun e w' => e = .returned (.bool (decide (x < 0) || decide (100 < x))) ∧ Below w.heap.size w w' := by
  go_enter Try.func106, Try.ntmps106
  by_cases h1 : x < 0
  · rw [show (decide (x < 0) || decide (100 < x)) = true by simp [h1]]
    go_wp2_with fail
    go_ret
    exact ⟨rfl, Below.refl _ _⟩
  · by_cases h2 : 100 < x
    · rw [show (decide (x < 0) || decide (100 < x)) = true by simp [h2]]
      go_wp2_with fail
      go_ret
      exact ⟨rfl, Below.refl _ _⟩
    · rw [show (decide (x < 0) || decide (100 < x)) = false by simp [h1, h2]]
      go_wp2_with fail
      go_ret
      exact ⟨rfl, Below.refl _ _⟩
set_option maxRecDepth 100000 in
theorem gaps_any (a : Option Addr) (n c : Nat) (gs : List Int) (w : World) (hn : n ≤ 1048576) (h : HoldsI w a n gs) :
    Calls Try.prog 80 #[.slice a n c] w fun e w' => e = .returned (.bool (okG gs)) ∧ Below w.heap.size w w' := by
  have H := Lib.hid h
  have HE := Lib.hid (okG_any gs)
  clear h
  generalize okG gs = r at *
  go_enter Try.func80, Try.ntmps80
  go_wp2_with fail
  refine (FuncI.contains_any 106 #[] (fun x => decide (x < 0) || decide (100 < x)) a n c gs _ hn H.out (fun args W => FuncI.call_enter Try.func106 (by kernel_rfl) rfl args W) (fun x wr _ hbr => gap_clo x wr)).mono ?_
  rintro e w1 ⟨rfl, b1⟩
  have HB := Lib.hid b1
  clear b1
  generalize (gs.any fun x => decide (x < 0) || decide (100 < x)) = v at *
  cases v with
  | true =>
    go_wp2_with fail
    go_ret
    exact ⟨by rw [HE.out]; rfl, HB.out⟩
  | false =>
    go_wp2_with fail
    go_ret
    exact ⟨by rw [HE.out]; rfl, HB.out⟩
/-- A box of six ints. -/
structure Six (w : World) (g : Nat) (f : Nat → Int) : Prop where
  c : ∀ i, i < 6 → w.cell? ⟨g, i, none⟩ = some (.int .i64 (f i))
  fz : ∀ i, i < 6 → w.frozen? ⟨g, i, none⟩ = false
  lt : g < w.heap.size
theorem Six.below {w w' : World} {g : Nat} {f : Nat → Int} (h : Six w g f) (b : Below w.heap.size w w') : Six w' g f :=
  ⟨fun i hi => (b.cell (p := ⟨g, i, none⟩) h.lt).trans (h.c i hi), fun i hi => (b.frozen (p := ⟨g, i, none⟩) h.lt).trans (h.fz i hi), Nat.lt_of_lt_of_le h.lt b.size⟩
theorem six_new (w : World) (a0 a1 a2 a3 a4 a5 : Int) (T : TypeId) (f : Nat → Int) (h : f 0 = a0 ∧ f 1 = a1 ∧ f 2 = a2 ∧ f 3 = a3 ∧ f 4 = a4 ∧ f 5 = a5) : Six (w.alloc (.cells #[.int .i64 a0, .int .i64 a1, .int .i64 a2, .int .i64 a3, .int .i64 a4, .int .i64 a5] T)) w.heap.size f := by
  obtain ⟨rfl, rfl, rfl, rfl, rfl, rfl⟩ := h
  have e : (w.alloc (.cells #[.int .i64 (f 0), .int .i64 (f 1), .int .i64 (f 2), .int .i64 (f 3), .int .i64 (f 4), .int .i64 (f 5)] T)).heap[w.heap.size]? = some (.cells #[.int .i64 (f 0), .int .i64 (f 1), .int .i64 (f 2), .int .i64 (f 3), .int .i64 (f 4), .int .i64 (f 5)] T) := by
    show (w.heap.push _)[w.heap.size]? = _
    rw [Array.getElem?_push, if_pos rfl]
  refine ⟨fun i hi => ?_, fun i hi => ?_, by simp⟩
  · unfold World.cell?
    rw [e]
    match i, hi with
    | 0, _ => rfl
    | 1, _ => rfl
    | 2, _ => rfl
    | 3, _ => rfl
    | 4, _ => rfl
    | 5, _ => rfl
  · unfold World.frozen?
    rw [e]
    rfl
theorem Six.set {w : World} {g k : Nat} {f : Nat → Int} {v : Int} (h : Six w g f) (hk : k < 6) : Six (w.setCell ⟨g, k, none⟩ (.int .i64 v)) g (fun i => if i = k then v else f i) := by
  refine ⟨fun i hi => ?_, fun i hi => ?_, ?_⟩
  · by_cases e : i = k
    · subst e
      rw [if_pos rfl]
      exact World.cell?_setCell_same (w := w) (a := ⟨g, i, none⟩) (v := .int .i64 v) (h := h.c i hi)
    · rw [if_neg e]
      rw [PtI.cell_set_ne (Ne.symm e)]
      exact h.c i hi
  · rw [World.frozen?_setCell]; exact h.fz i hi
  · have := h.lt; simpa [World.setCell] using this
theorem Six.off {w : World} {g g' k : Nat} {f : Nat → Int} {v : Value} (h : Six w g f) (hne : g ≠ g') : Six (w.setCell ⟨g', k, none⟩ v) g f := by
  have n0 : ∀ j, (⟨g', k, none⟩ : Addr) ≠ ⟨g, j, none⟩ := fun j e => hne (congrArg Addr.block e).symm
  have n1 : ∀ j, (⟨g, j, none⟩ : Addr) ≠ ⟨g', k, none⟩ := fun j e => hne (congrArg Addr.block e)
  refine ⟨fun i hi => ?_, fun i hi => ?_, ?_⟩
  · rw [World.cell?_setCell_other (w := w) (a := ⟨g', k, none⟩) (b := ⟨g, i, none⟩) (v := v) (h := by first | exact n0 _ | exact n1 _)]
    exact h.c i hi
  · rw [World.frozen?_setCell]; exact h.fz i hi
  · have := h.lt; simpa [World.setCell] using this
/-- The distances as they are told. -/
def dAt (gs : List Int) (k : Nat) (i : Nat) : Int := if i ≤ k then dst gs i else 0
theorem dAt_next {gs : List Int} {k : Nat} {x : Int} (h : gs[k]? = some x) : (fun i => if i = k + 1 then dAt gs k k + x else dAt gs k i) = dAt gs (k + 1) := by
  funext i
  unfold dAt
  by_cases e : i = k + 1
  · subst e
    rw [if_pos rfl, if_pos (Nat.le_refl _), if_pos (Nat.le_refl _), dst_next h]
  · rw [if_neg e]
    by_cases h2 : i ≤ k
    · rw [if_pos h2, if_pos (by omega)]
    · rw [if_neg h2, if_neg (by omega)]
theorem dAt_zero (gs : List Int) : dAt gs 0 = fun _ => 0 := by
  funext i
  unfold dAt
  split
  · rename_i h
    obtain rfl : i = 0 := by omega
    unfold dst
    simp
  · rfl
end Go.Proofs.Ytlpcgchekhoieaa.WgM
