/- The model's l8Counts: its contract. -/
import Derived.Test.YtjllbbkpmmnkgaaDoorIsqS
import Derived.Test.YtjllbbkpmmnkgaaDoorEnM
import Derived.Test.YtjllbbkpmmnkgaaDoorIntT
import Derived.Laws.Bits64
namespace Go.Proofs.YtjllbbkpmmnkgaaDoor.CntS
open Go.RowKit Pairs Rec Chain Find2 GoodM Keep GivesI Lows Order Bit Table RedS SqM IsLater IsqS EnM
set_option linter.unusedVariables false
def IsN (N : Nat) (C : Array Value) (f : Nat → Int) : Prop := C.size = N ∧ ∀ q, q < N → C[q]? = some (.int .i64 (f q))
theorem IsN.set {N : Nat} {C : Array Value} {f : Nat → Int} (h : IsN N C f) (q : Nat) (z : Int) : IsN N (C.setIfInBounds q (.int .i64 z)) (fun j => if j = q then z else f j) := by
  refine ⟨by rw [Array.size_setIfInBounds]; exact h.1, fun j hj => ?_⟩
  rw [Array.getElem?_setIfInBounds]
  by_cases e : q = j
  · subst e
    rw [if_pos rfl, if_pos (by rw [h.1]; exact hj)]
    show _ = some (Value.int .i64 (if q = q then z else f q))
    rw [if_pos rfl]
  · have e3 : ¬ j = q := fun e2 => e e2.symm
    rw [if_neg e]
    show _ = some (Value.int .i64 (if j = q then z else f j))
    rw [if_neg e3]
    exact h.2 j hj
theorem IsN.congr {N : Nat} {C : Array Value} {f g : Nat → Int} (h : IsN N C f) (e : ∀ q, q < N → f q = g q) : IsN N C g := ⟨h.1, fun q hq => by rw [← e q hq]; exact h.2 q hq⟩
/-- The counts under way while the set p is being summed, up to context i. -/
def gm (r : Nat → Nat → Bool) (n P p i q : Nat) : Int := if q = p then ((List.range i).filter (r p)).foldl (fun a i => wrap64 (a + v r n (p ||| 2 ^ i))) 0 else cf r n P q
theorem gm_zero {r : Nat → Nat → Bool} {n P : Nat} (h0 : 0 < P) (q : Nat) : gm r n P (P - 1) 0 q = cf r n P q := by
  unfold gm
  by_cases e : q = P - 1
  · rw [if_pos e]
    unfold cf
    rw [if_neg (by omega)]
    rfl
  · rw [if_neg e]
theorem gm_no {r : Nat → Nat → Bool} {n P p i : Nat} (h : r p i = false) (q : Nat) : gm r n P p (i + 1) q = gm r n P p i q := by
  unfold gm
  rw [List.range_succ, List.filter_append]
  simp [h]
theorem gm_yes {r : Nat → Nat → Bool} {n P p i : Nat} (h : r p i = true) (q : Nat) : gm r n P p (i + 1) q = if q = p then wrap64 (gm r n P p i p + v r n (p ||| 2 ^ i)) else gm r n P p i q := by
  unfold gm
  rw [List.range_succ, List.filter_append]
  by_cases e : q = p
  · simp [h, e]
  · simp [e]
theorem gm_all {r : Nat → Nat → Bool} {n P : Nat} (hF : Fine r n) (h0 : 0 < P) (hP : P ≤ 2 ^ n - 1) (q : Nat) : gm r n P (P - 1) n q = cf r n (P - 1) q := by
  unfold gm
  by_cases e : q = P - 1
  · rw [if_pos e, ← v_eq hF (by omega) (by omega)]
    unfold cf
    rw [if_pos (by omega), e]
  · rw [if_neg e]
    unfold cf
    by_cases e2 : P ≤ q ∧ q ≤ 2 ^ n - 1
    · rw [if_pos e2, if_pos (by omega)]
    · rw [if_neg e2, if_neg (by omega)]
theorem init_n (r : Nat → Nat → Bool) (n N : Nat) (h : N = 2 ^ n) : IsN N ((Array.replicate N (.int .i64 0)).setIfInBounds (N - 1) (.int .i64 1)) (cf r n (N - 1)) := by
  have h0 : IsN N (Array.replicate N (.int .i64 0)) (fun _ => 0) := ⟨by simp, fun q hq => by rw [Array.getElem?_replicate, if_pos hq]⟩
  have hp := Nat.two_pow_pos n
  refine (h0.set (N - 1) 1).congr fun q hq => ?_
  unfold cf
  by_cases e : q = N - 1
  · subst e
    rw [if_pos rfl, if_pos (by omega), h, v_full]
  · rw [if_neg e, if_neg (by omega)]
/-- The model's ready, of the contexts that there are. -/
noncomputable def rm (T : List Nat) (n p i : Nat) : Bool := decide (i < n) && rdy T p i
theorem rm_fine (T : List Nat) (n : Nat) : Fine (rm T n) n := by
  intro p i hp hr
  unfold rm at hr
  rw [Bool.and_eq_true, decide_eq_true_iff] at hr
  exact ⟨hr.1, (rdy_get hr.2).1⟩
theorem zer_rep (N : Nat) : (madeCells #[.int .i64 0] (N * 1)) = Array.replicate N (.int .i64 0) := by
  apply Array.ext_getElem?
  intro i
  have h1 : (madeCells #[.int .i64 0] (N * 1)).toList = cellsN (List.replicate N 0) := zer_is N
  rw [← Array.getElem?_toList, h1]
  unfold cellsN
  rw [List.getElem?_map, Array.getElem?_replicate]
  by_cases hi : i < N
  · rw [if_pos hi, List.getElem?_replicate, if_pos hi]; rfl
  · rw [if_neg hi, List.getElem?_replicate, if_neg hi]; rfl
theorem wrap_is (z : Int) : IntKind.i64.wrap z = wrap64 z := by
  unfold wrap64
  simp [IntKind.wrap, IntKind.signed, IntKind.bits]
  try omega
def Ans (T : List Nat) (n : Nat) (w : World) (e : Ending) (w' : World) : Prop :=
  ∃ g C, e = .returned (.slice (some ⟨g, 0, none⟩) (2 ^ n) (2 ^ n)) ∧ w.heap.size ≤ g ∧ w'.heap[g]? = some (.cells C 3 (0, 0)) ∧ IsN (2 ^ n) C (cf (rm T n) n 0) ∧ Below w.heap.size w w'
set_option maxRecDepth 100000 in
set_option maxHeartbeats 8000000 in
theorem counts_any (a : Option Addr) (n c : Nat) (T : List Nat) (w : World) (hn : n ≤ 10) (hT : HoldsI w a n (intsN T)) (hbd : ∀ (k t : Nat), T[k]? = some t → t < 1024) :
    Calls Tryd.prog 47 #[.slice a n c] w (Ans T n w) := by
  obtain ⟨N, hN⟩ : ∃ N, 2 ^ n = N := ⟨_, rfl⟩
  have hNp : 0 < N := by rw [← hN]; exact Nat.two_pow_pos n
  have hN10 : N ≤ 1024 := by rw [← hN]; exact Nat.pow_le_pow_right (n := 2) (j := 10) (by decide) hn
  have hsh : wrap64 ((2 : Int) ^ n) = (N : Int) := by
    have h3 : ((2 ^ n : Nat) : Int) = (2 : Int) ^ n := by simp
    rw [← h3, hN]
    unfold wrap64
    omega
  have hmk := fun W => run_make1 W N (by omega)
  have HT := Lib.hid hT
  have HBD := Lib.hid hbd
  have HN := Lib.hid hN
  clear hT hbd hN
  unfold Ans
  rw [HN.out]
  obtain ⟨M, hM⟩ : ∃ M, N - 1 = M := ⟨_, rfl⟩
  have hNM : (N : Int) - 1 = (M : Int) := by omega
  have hMN : (M : Int) < (N : Int) := by omega
  have hM0 : (0 : Int) ≤ (M : Int) := by omega
  have hM1 : (M : Int) + 1 = (N : Int) := by omega
  have hMlt : M < N := by omega
  have HM := Lib.hid hM
  go_enter Tryd.func47, Tryd.ntmps47
  go_upto_region 4 with fail
  clear hsh
  obtain ⟨g, hg⟩ : ∃ g, w.heap.size = g := ⟨_, rfl⟩
  have hZ : (cellsN (List.replicate N 0)).toArray = Array.replicate N (.int .i64 0) := by
    apply Array.ext_getElem?
    intro i
    unfold cellsN
    rw [List.getElem?_toArray, List.getElem?_map, Array.getElem?_replicate]
    by_cases hi : i < N
    · rw [if_pos hi, List.getElem?_replicate, if_pos hi]; rfl
    · rw [if_neg hi, List.getElem?_replicate, if_neg hi]; rfl
  have hH0 := heap_alloc_new w (.cells (cellsN (List.replicate N 0)).toArray 3)
  have hB0 := below_alloc w (.cells (cellsN (List.replicate N 0)).toArray 3)
  rw [hg] at hH0
  generalize w.alloc (.cells (cellsN (List.replicate N 0)).toArray 3) = W0 at *
  rw [hZ] at hH0
  have c0 : W0.cell? ⟨g, M, none⟩ = some (.int .i64 0) := by
    simp only [World.cell?, hH0]
    rw [Array.getElem?_replicate]
    exact if_pos hMlt
  have f0 : W0.frozen? ⟨g, M, none⟩ = false := by simp [World.frozen?, hH0]
  have HH0 := Lib.hid hH0
  have HB0 := Lib.hid hB0
  clear hM hZ hH0 hB0 hmk
  rw [hg]
  go_wp2_with fail
  have hI : Hid (∃ C, (W0.setCell ⟨g, M, none⟩ (.int .i64 1)).heap[g]? = some (.cells C 3 (0, 0)) ∧ IsN N C (cf (rm T n) n M)) := ⟨_, heap_setCell_same W0 g M _ _ _ HH0.out, by rw [← HM.out]; exact init_n (rm T n) n N HN.out.symm⟩
  have hIB : Hid (Below w.heap.size w (W0.setCell ⟨g, M, none⟩ (.int .i64 1))) := HB0.out.setCell (p := ⟨g, M, none⟩) (by rw [hg]; exact Nat.le_refl _) _
  generalize W0.setCell ⟨g, M, none⟩ (.int .i64 1) = W1 at *
  clear c0 f0
  go_loopw [6] (fun s6 wr => ∃ P : Nat, P ≤ M ∧ s6 = .int .i64 ((P : Int) - 1) ∧ Hid (∃ C, wr.heap[g]? = some (.cells C 3 (0, 0)) ∧ IsN N C (cf (rm T n) n P)) ∧ Hid (Below w.heap.size w wr)) (fun s6 _ => (match s6 with | .int _ z => (z + 1).toNat | _ => 0))
  case atStart => exact ⟨M, Nat.le_refl _, rfl, hI, hIB⟩
  case round =>
    obtain ⟨P, hP, rfl, HC, HWB⟩ := hrel
    clear hI hIB
    cases P with
    | zero =>
      obtain ⟨C, hC, hCI⟩ := HC.out
      have HQ := Lib.hid (And.intro hC hCI)
      clear hC hCI
      go_wp2_with fail
      go_ret
      exact ⟨g, C, rfl, by rw [hg]; exact Nat.le_refl _, HQ.out.1, HQ.out.2, HWB.out⟩
    | succ p =>
      have hp1 : ((p + 1 : Nat) : Int) - 1 = (p : Int) := by omega
      rw [hp1]
      have hp0 : (0 : Int) ≤ (p : Int) := by omega
      have hpN : (p : Int) < (N : Int) := by omega
      clear hp1
      go_wp2_with fail
      go_loopw [7] (fun s7 wr => ∃ i : Nat, i ≤ n ∧ s7 = .int .i64 i ∧ Hid (∃ C, wr.heap[g]? = some (.cells C 3 (0, 0)) ∧ IsN N C (gm (rm T n) n (p + 1) p i)) ∧ Hid (Below w.heap.size w wr)) (fun s7 _ => n - (intOf s7).toNat)
      case atStart =>
        obtain ⟨C, hC, hCI⟩ := HC.out
        exact ⟨0, Nat.zero_le _, rfl, ⟨C, hC, hCI.congr fun q _ => (gm_zero (P := p + 1) (by omega) q).symm⟩, HWB⟩
      case round =>
        obtain ⟨i, hi, rfl, HC2, HWB2⟩ := hrel
        by_cases hlt : i < n
        · have hin : (i : Int) < (n : Int) := by omega
          have hi00 : (0 : Int) ≤ (i : Int) := by omega
          obtain ⟨C, hC, hCI⟩ := HC2.out
          have HR := Lib.hid (ready_any a n c T p i wr hn (by omega) (by omega) (HT.out.below HWB2.out) HBD.out)
          cases hr : rdy T p i with
          | false =>
            have hrm : rm T n p i = false := by unfold rm; rw [hr]; simp
            have HC3 : Hid (∃ C, wr.heap[g]? = some (.cells C 3 (0, 0)) ∧ IsN N C (gm (rm T n) n (p + 1) p (i + 1))) := ⟨C, hC, hCI.congr fun q _ => (gm_no hrm q).symm⟩
            rw [hr] at HR
            clear hr hrm hC hCI
            go_wp2_with (go_at_call 51; refine HR.out.mono ?_; rintro e w' ⟨rfl, hw'⟩; have hw2 := hw'.symm; subst hw2; clear hw')
            exact ⟨⟨i + 1, by omega, by go_num, HC3, HWB2⟩, by simp [intOf]; omega⟩
          | true =>
            have hrm : rm T n p i = true := by unfold rm; rw [hr]; simp [hlt]
            have hbit := (rdy_get hr).1
            have hq1 := or_gt hbit
            have hq2 := or_lt (n := n) (p := p) (by rw [HN.out]; omega) hlt
            have hsh2 := shl_or p i (by omega) (Table.pow_lt hlt hn)
            have hsh3 : bits .or .i64 (p : Int) (IntKind.i64.wrap (2 ^ i)) = ((p ||| 2 ^ i : Nat) : Int) := by
              rw [wrap_is]
              exact hsh2
            have hsh4 : bits .or .i64 (p : Int) (IntKind.i64.wrap (2 ^ min (IntKind.u64.wrap (i : Int)).toNat 64)) = ((p ||| 2 ^ i : Nat) : Int) := by
              have e : min (IntKind.u64.wrap (i : Int)).toNat 64 = i := by rw [IntKind.wrap_u64]; omega
              rw [e]
              exact hsh3
            have hgy := fun q => gm_yes (n := n) (P := p + 1) hrm q
            have hg2 : gm (rm T n) n (p + 1) p i (p ||| 2 ^ i) = v (rm T n) n (p ||| 2 ^ i) := by
              unfold gm
              rw [if_neg (by omega)]
              unfold cf
              rw [if_pos (by omega)]
            obtain ⟨q2, hq2e⟩ : ∃ q2, (p ||| 2 ^ i) = q2 := ⟨_, rfl⟩
            rw [hq2e] at hsh2 hsh3 hsh4 hg2 hq1 hq2
            rw [HN.out] at hq2
            have HGY : Hid (∀ q, gm (rm T n) n (p + 1) p (i + 1) q = if q = p then wrap64 (gm (rm T n) n (p + 1) p i p + v (rm T n) n q2) else gm (rm T n) n (p + 1) p i q) := fun q => by rw [hgy q, hq2e]
            have r1 := hCI.2 p (by omega)
            have r2 := hCI.2 q2 hq2
            rw [hg2] at r2
            have HCI := Lib.hid hCI
            generalize hfo : gm (rm T n) n (p + 1) p i p = fo at *
            generalize v (rm T n) n q2 = vv at *
            have c1 : wr.cell? ⟨g, p, none⟩ = some (.int .i64 fo) := by simp only [World.cell?, hC]; exact r1
            have c2 : wr.cell? ⟨g, q2, none⟩ = some (.int .i64 vv) := by simp only [World.cell?, hC]; exact r2
            have f1 : wr.frozen? ⟨g, p, none⟩ = false := by simp [World.frozen?, hC]
            have hqN : (q2 : Int) < (N : Int) := by omega
            have hq00 : (0 : Int) ≤ (q2 : Int) := by omega
            have HH := Lib.hid hC
            have hmx : Tryd.prog.follows .mixedOrders = true := by kernel_rfl
            rw [hr] at HR
            clear hr hrm hbit hgy hg2 r1 r2 hC hCI hfo
            go_wp2_with (go_at_call 51; refine HR.out.mono ?_; rintro e w' ⟨rfl, hw'⟩; have hw2 := hw'.symm; subst hw2; clear hw')
            go_upto_region 12 with fail
            go_region_with (fail)
            all_goals go_wp2_with fail
            all_goals (
              refine ⟨⟨i + 1, by omega, by go_num, ⟨_, heap_setCell_same wr g p C _ _ HH.out, (HCI.out.set p _).congr fun q _ => ?_⟩, (HWB2.out.setCell (p := ⟨g, p, none⟩) (by rw [hg]; exact Nat.le_refl _) _).drew⟩, by simp [intOf]; omega⟩
              rw [HGY.out q])
        · obtain rfl : i = n := by omega
          have hin : ¬ (i : Int) < (i : Int) := by omega
          obtain ⟨C, hC, hCI⟩ := HC2.out
          have HC3 : Hid (∃ C, wr.heap[g]? = some (.cells C 3 (0, 0)) ∧ IsN N C (cf (rm T i) i p)) := ⟨C, hC, hCI.congr fun q _ => gm_all (P := p + 1) (rm_fine T i) (by omega) (by rw [HN.out]; have := HM.out; omega) q⟩
          clear hC hCI
          go_wp2_with fail
          exact ⟨⟨p, by omega, by go_num, HC3, HWB2⟩, by simp⟩
end Go.Proofs.YtjllbbkpmmnkgaaDoor.CntS
