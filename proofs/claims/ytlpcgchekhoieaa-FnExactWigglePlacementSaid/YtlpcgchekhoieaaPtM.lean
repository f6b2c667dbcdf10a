/- A curve's point in a year: the mathematics; rounded quotients in the program and in the model. -/
import Derived.Test.YtlpcgchekhoieaaCvM
namespace Go.Proofs.Ytlpcgchekhoieaa.PtM
open Go Go.RowKit Pairs Rec Keep GivesI Cu CvM
set_option linter.unusedVariables false
/-- n/d for positive d, rounded to the nearest integer, halves away from zero. -/
def rq (n d : Int) : Int := if n < 0 then -((2 * (-n) + d) / (2 * d)) else (2 * n + d) / (2 * d)
theorem rq_pos {n d : Int} (h : 0 ≤ n) : rq n d = (2 * n + d) / (2 * d) := by unfold rq; rw [if_neg (by omega)]
theorem rq_neg {n d : Int} (h : n < 0) : rq n d = -(rq (-n) d) := by
  rw [rq_pos (n := -n) (by omega)]
  unfold rq
  rw [if_pos h]
theorem pos_bd {n d : Int} (h : 0 ≤ n) (hn : n ≤ 3000000) (hd : 1 ≤ d) : 0 ≤ (2 * n + d) / (2 * d) ∧ (2 * n + d) / (2 * d) ≤ 3000001 := by
  refine ⟨Int.ediv_nonneg (by omega) (by omega), Int.ediv_le_of_le_mul (by omega) ?_⟩
  have h1 : 3000000 * 1 ≤ 3000000 * d := Int.mul_le_mul_of_nonneg_left hd (by omega)
  have h2 : 3000001 * (2 * d) = 6000000 * d + 2 * d := by omega
  omega
theorem rq_bd {n d : Int} (h1 : -3000000 ≤ n) (h2 : n ≤ 3000000) (hd : 1 ≤ d) : -3000001 ≤ rq n d ∧ rq n d ≤ 3000001 := by
  by_cases h : n < 0
  · rw [rq_neg h, rq_pos (by omega)]
    have := pos_bd (n := -n) (d := d) (by omega) (by omega) hd
    omega
  · rw [rq_pos (by omega)]
    have := pos_bd (n := n) (d := d) (by omega) (by omega) hd
    omega
theorem mul_bd {a b : Int} (h1 : -60000 ≤ a) (h2 : a ≤ 60000) (h3 : 0 ≤ b) (h4 : b ≤ 50) : -3000000 ≤ a * b ∧ a * b ≤ 3000000 := by
  have e1 := Int.mul_le_mul_of_nonneg_right h2 h3
  have e2 := Int.mul_le_mul_of_nonneg_right h1 h3
  omega
def ptB (p q : Dt) (y : Int) : Dt := (y, p.2.1 + rq ((q.2.1 - p.2.1) * (y - p.1)) (q.1 - p.1), p.2.2 + rq ((q.2.2 - p.2.2) * (y - p.1)) (q.1 - p.1))
/-- The point in a year: between the first two points that the year lies between. -/
def ptP : List Dt → Int → Option Dt
  | p :: q :: L, y => if p.1 ≤ y ∧ y ≤ q.1 then some (ptB p q y) else ptP (q :: L) y
  | [_], _ => none
  | [], _ => none
def hit (L : List Dt) (y : Int) (i : Nat) : Prop := (pt L i).1 ≤ y ∧ y ≤ (pt L (i + 1)).1
theorem pt_cons (p : Dt) (L : List Dt) (i : Nat) : pt (p :: L) (i + 1) = pt L i := rfl
theorem hit_cons {p : Dt} {L : List Dt} {y : Int} {i : Nat} : hit (p :: L) y (i + 1) ↔ hit L y i := Iff.rfl
theorem ptP_hit {y : Int} : ∀ (i : Nat) (L : List Dt), i + 1 < L.length → (∀ j, j < i → ¬ hit L y j) → hit L y i → ptP L y = some (ptB (pt L i) (pt L (i + 1)) y)
  | _, [], hl, _, _ => absurd hl (by simp)
  | _, [_], hl, _, _ => absurd hl (by simp)
  | 0, p :: q :: L, _, _, hh => if_pos hh
  | i + 1, p :: q :: L, hl, hn, hh => by
    have h0 : ¬ (p.1 ≤ y ∧ y ≤ q.1) := hn 0 (by omega)
    show (if p.1 ≤ y ∧ y ≤ q.1 then some (ptB p q y) else ptP (q :: L) y) = _
    rw [if_neg h0, ptP_hit i (q :: L) (by simp at hl ⊢; omega) (fun j hj => hn (j + 1) (by omega)) hh]
    rfl
theorem ptP_none {y : Int} : ∀ (L : List Dt), (∀ j, j + 1 < L.length → ¬ hit L y j) → ptP L y = none
  | [], _ => rfl
  | [_], _ => rfl
  | p :: q :: L, hn => by
    have h0 : ¬ (p.1 ≤ y ∧ y ≤ q.1) := hn 0 (by simp)
    show (if p.1 ≤ y ∧ y ≤ q.1 then some (ptB p q y) else ptP (q :: L) y) = _
    rw [if_neg h0]
    exact ptP_none (q :: L) fun j hj => hn (j + 1) (by simp at hj ⊢; omega)
theorem mono {L : List Dt} (o : OkC L) {i : Nat} : ∀ {k : Nat}, i + k < L.length → (pt L i).1 ≤ (pt L (i + k)).1
  | 0, _ => Int.le_refl _
  | k + 1, h => by
    have h1 := mono o (i := i) (k := k) (by omega)
    have h2 := (o.st (i + k) (by omega)).1
    rw [show i + (k + 1) = i + k + 1 by omega]
    omega
theorem le_pt {L : List Dt} (o : OkC L) {i j : Nat} (h : i ≤ j) (hj : j < L.length) : (pt L i).1 ≤ (pt L j).1 := by
  obtain ⟨k, rfl⟩ : ∃ k, j = i + k := ⟨j - i, by omega⟩
  exact mono o hj
/-- A year of the curve. -/
def inC (L : List Dt) (y : Int) : Bool := decide ((pt L 0).1 ≤ y ∧ y ≤ (pt L (L.length - 1)).1)
theorem ptP_out {L : List Dt} (o : OkC L) {y : Int} (h : inC L y = false) : ptP L y = none := by
  refine ptP_none L fun j hj hh => ?_
  have h1 := le_pt o (Nat.zero_le j) (by omega)
  have h2 := le_pt o (i := j + 1) (j := L.length - 1) (by omega) (by have := o.lo; omega)
  have h3 := of_decide_eq_false h
  exact h3 ⟨Int.le_trans h1 hh.1, Int.le_trans hh.2 h2⟩
theorem ptP_at {L : List Dt} {y : Int} {i : Nat} (hi : i + 1 < L.length) (h0 : (pt L 0).1 ≤ y) (hp : ∀ j, 1 ≤ j → j < i + 1 → (pt L j).1 < y) (hy : y ≤ (pt L (i + 1)).1) : ptP L y = some (ptB (pt L i) (pt L (i + 1)) y) := by
  refine ptP_hit i L hi (fun j hj hh => ?_) ⟨?_, hy⟩
  · have := hp (j + 1) (by omega) (by omega)
    have := hh.2
    omega
  · by_cases e : i = 0
    · subst e; exact h0
    · exact Int.le_of_lt (hp i (by omega) (by omega))
theorem OkC.gap {L : List Dt} (o : OkC L) {i : Nat} (h : i + 1 < L.length) : 1 ≤ (pt L (i + 1)).1 - (pt L i).1 ∧ (pt L (i + 1)).1 - (pt L i).1 ≤ 50 := o.st i h
def ptR (L : List Dt) (y : Int) : Dt × Bool := match ptP L y with | some q => (q, true) | none => ((0, 0, 0), false)
theorem ptR_some {L : List Dt} {y : Int} {q : Dt} (h : ptP L y = some q) : ptR L y = (q, true) := by unfold ptR; rw [h]
theorem ptR_none {L : List Dt} {y : Int} (h : ptP L y = none) : ptR L y = ((0, 0, 0), false) := by unfold ptR; rw [h]
set_option maxRecDepth 100000 in
theorem pos_any (n d : Int) (h0 : 0 ≤ n) (hn : n ≤ 3000000) (hd : 1 ≤ d) (hd2 : d ≤ 50) (w : World) :
    Calls Try.prog 112 #[.int .i64 n, .int .i64 d] w fun e w' => e = .returned (.int .i64 (rq n d)) ∧ w' = w := by
  rw [rq_pos h0]
  obtain ⟨b1, b2⟩ := pos_bd h0 hn hd
  have h1 : ¬ n < 0 := by omega
  have q1 : wrap64 (2 * n) = 2 * n := by unfold wrap64; omega
  have q2 : wrap64 (2 * n + d) = 2 * n + d := by unfold wrap64; omega
  have q3 : wrap64 (2 * d) = 2 * d := by unfold wrap64; omega
  have q0 : ¬ 2 * d = 0 := by omega
  have q4 : wrap64 ((2 * n + d) / (2 * d)) = (2 * n + d) / (2 * d) := by unfold wrap64; omega
  go_enter Try.func112, Try.ntmps112
  go_wp2_with fail
  go_ret
  exact ⟨rfl, rfl⟩
set_option maxRecDepth 100000 in
theorem rq_any (n d : Int) (h0 : -3000000 ≤ n) (hn : n ≤ 3000000) (hd : 1 ≤ d) (hd2 : d ≤ 50) (w : World) :
    Calls Try.prog 112 #[.int .i64 n, .int .i64 d] w fun e w' => e = .returned (.int .i64 (rq n d)) ∧ w' = w := by
  by_cases h : n < 0
  · rw [rq_neg h]
    have hb := rq_bd (n := -n) (d := d) (by omega) (by omega) hd
    have HP := Lib.hid (pos_any (-n) d (by omega) (by omega) hd hd2 w)
    have q1 : wrap64 (-n) = -n := by unfold wrap64; omega
    generalize rq (-n) d = t at *
    have q2 : wrap64 (-t) = -t := by unfold wrap64; omega
    go_enter Try.func112, Try.ntmps112
    go_wp2_with fail
    refine HP.out.mono ?_
    rintro e w1 ⟨rfl, rfl⟩
    go_wp2_with fail
    go_ret
    exact ⟨by rw [← q2]; rfl, rfl⟩
  · exact pos_any n d (by omega) hn hd hd2 w
set_option maxRecDepth 100000 in
theorem round_any (n d : Int) (h0 : -3000000 ≤ n) (hn : n ≤ 3000000) (hd : 1 ≤ d) (hd2 : d ≤ 50) (w : World) :
    Calls Try.prog 99 #[.int .i64 n, .int .i64 d] w fun e w' => e = .returned (.int .i64 (rq n d)) ∧ w' = w := by
  by_cases h : n < 0
  · rw [rq_neg h, rq_pos (by omega)]
    obtain ⟨b1, b2⟩ := pos_bd (n := -n) (d := d) (by omega) (by omega) hd
    rw [show 2 * (-n) + d = -2 * n + d by omega] at b1 b2 ⊢
    have hm0 : 0 ≤ -2 * n + d := by omega
    have q1 : wrap64 (-2 * n) = -2 * n := by unfold wrap64; omega
    have q2 : wrap64 (-2 * n + d) = -2 * n + d := by unfold wrap64; omega
    have q3 : wrap64 (2 * d) = 2 * d := by unfold wrap64; omega
    have q0 : ¬ 2 * d = 0 := by omega
    have q4 : wrap64 ((-2 * n + d) / (2 * d)) = (-2 * n + d) / (2 * d) := by unfold wrap64; omega
    have q5 : wrap64 (-((-2 * n + d) / (2 * d))) = -((-2 * n + d) / (2 * d)) := by unfold wrap64; omega
    go_enter Try.func99, Try.ntmps99
    go_wp2_with fail
    go_ret
    exact ⟨by rw [← q5]; rfl, rfl⟩
  · rw [rq_pos (by omega)]
    obtain ⟨b1, b2⟩ := pos_bd (n := n) (d := d) (by omega) hn hd
    have q1 : wrap64 (2 * n) = 2 * n := by unfold wrap64; omega
    have q2 : wrap64 (2 * n + d) = 2 * n + d := by unfold wrap64; omega
    have q3 : wrap64 (2 * d) = 2 * d := by unfold wrap64; omega
    have q0 : ¬ 2 * d = 0 := by omega
    have q4 : wrap64 ((2 * n + d) / (2 * d)) = (2 * n + d) / (2 * d) := by unfold wrap64; omega
    go_enter Try.func99, Try.ntmps99
    go_wp2_with fail
    go_ret
    exact ⟨rfl, rfl⟩
end Go.Proofs.Ytlpcgchekhoieaa.PtM
