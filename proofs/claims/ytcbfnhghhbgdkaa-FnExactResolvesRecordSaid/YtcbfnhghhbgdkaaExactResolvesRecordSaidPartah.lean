/- A record that comes in as an argument: its two slices, and the pairs that they hold. -/
import Derived.Test.YtcbfnhghhbgdkaaExactResolvesRecordSaidPartaa
import Derived.Deep.SlicePairs
import Derived.ChangeArms
import Derived.Test.YtcbfnhghhbgdkaaExactResolvesRecordSaidPartag
import Derived.OpenShut
import Derived.Deep.RegionHeld3
import Derived.Deep.RegionWith
import Derived.ChangeOld
namespace Go.Proofs.Ytcbfnhghhbgdkaa.RecOpen
open Go.ChangeShapes Go.WideShapes Go.RowKit Go.Deep Pairs

theorem add_eq (b off i : Nat) : (⟨b, off, none⟩ : Addr).add i = ⟨b, off + i, none⟩ := by
  unfold Addr.add
  by_cases h : i = 0
  · subst h; simp
  · simp [h]
theorem add_block (x : Addr) (i : Nat) : (x.add i).block = x.block := by
  unfold Addr.add
  split <;> rfl
theorem cell_lt {w : World} {a : Addr} {v : Value} (h : w.cell? a = some v) : a.block < w.heap.size := by
  cases hb : w.heap[a.block]? with
  | none => simp [World.cell?, hb] at h
  | some o => exact (Array.getElem?_eq_some_iff.1 hb).1

section
variable {H : Type} {enc : TypeId × Value → H} {w : World} {base : Nat} {spare : Nat → Bool} {held : Bool}
/-- A slice of pairs of ints, as a cell. -/
theorem open_pairs {t e : TypeId} {f0 f1 : Field} {fuel : Nat} {v : Value} {x : DataW H × List MemPlace} (ht : Try.prog.underlying t = some (.slice e)) (he : Try.prog.underlying e = some (.struct #[f0, f1]))
    (ce : Try.prog.cellsOf e = 2) (o0 : f0.offset = 0) (o1 : f1.offset = 1) (c0 : Try.prog.cellsOf f0.type = 1) (c1 : Try.prog.cellsOf f1.type = 1) (t0 : Try.prog.underlying f0.type = some (.int .i64)) (t1 : Try.prog.underlying f1.type = some (.int .i64))
    (h : DataW.trod enc Try.prog w base spare held fuel t [v] = some x) : ∃ (a : Option Addr) (n c : Nat) (l : List (Int × Int)), v = .slice a n c ∧ n ≤ 9223372036854775807 ∧ Holds w a n l := by
  rcases open_slice_pairs ht he ce o0 o1 c0 c1 h with ⟨hcs, _⟩ | ⟨a, len, cap, m, k, V0, V1, D0, D1, P0, P1, hcs, _, hl, hm, hmm, _, hi⟩
  · obtain rfl : v = .slice none 0 0 := by simpa using hcs
    exact ⟨none, 0, 0, [], rfl, by omega, rfl, .inl rfl⟩
  · obtain rfl : v = .slice (some a) len cap := by simpa using hcs
    unfold maxLen at hm
    have hlm : len ≤ m := by rw [hmm]; split <;> omega
    have hval : ∀ i, i < m → ∃ p : Int × Int, w.cell? (a.add (i * 2)) = some (.int .i64 p.1) ∧ w.cell? (a.add (i * 2 + 1)) = some (.int .i64 p.2) := by
      intro i him
      obtain ⟨h0, h1, h2, h3⟩ := hi i him
      obtain ⟨p, hp, _⟩ := DataW.trod_int t0 h2
      obtain ⟨q, hq, _⟩ := DataW.trod_int t1 h3
      simp only [List.cons.injEq, and_true] at hp hq
      exact ⟨(p, q), by rw [h0, hp], by rw [h1, hq]⟩
    have hall : ∀ n, n ≤ m → ∃ l : List (Int × Int), l.length = n ∧ ∀ i p, l[i]? = some p → w.cell? (a.add (i * 2)) = some (.int .i64 p.1) ∧ w.cell? (a.add (i * 2 + 1)) = some (.int .i64 p.2) := by
      intro n
      induction n with
      | zero => exact fun _ => ⟨[], rfl, fun i p hp => by simp at hp⟩
      | succ n ih =>
        intro hn
        obtain ⟨l, hl, hp⟩ := ih (by omega)
        obtain ⟨p, h1, h2⟩ := hval n (by omega)
        refine ⟨l ++ [p], by simp [hl], fun i q hq => ?_⟩
        by_cases hin : i < n
        · rw [List.getElem?_append_left (by omega)] at hq
          exact hp i q hq
        · have hle : i < (l ++ [p]).length := (List.getElem?_eq_some_iff.1 hq).1
          have hi' : i = n := by simp [hl] at hle; omega
          subst hi'
          rw [List.getElem?_append_right (by omega), hl, Nat.sub_self] at hq
          obtain rfl : p = q := by simpa using hq
          exact ⟨h1, h2⟩
    obtain ⟨l, hll, hp⟩ := hall len hlm
    refine ⟨some a, len, cap, l, rfl, by omega, hll, ?_⟩
    by_cases h0 : len = 0
    · exact .inl h0
    · right
      obtain ⟨b, off, spot⟩ := a
      have hc := (hp 0 (l[0]'(by omega)) (List.getElem?_eq_getElem (by omega))).1
      have hspot : spot = none := by simpa [Addr.add] using World.cell?_spot hc
      subst hspot
      refine ⟨b, off, rfl, ?_, fun i p hi => ?_⟩
      · have := cell_lt hc
        rw [add_block] at this
        exact this
      · have e := hp i p hi
        rw [add_eq, add_eq] at e
        exact e
end
end Go.Proofs.Ytcbfnhghhbgdkaa.RecOpen
/- What the walks of the laws over a record share. -/
namespace Go.Proofs.Ytcbfnhghhbgdkaa.LawKit
open Go.ChangeShapes Go.WideShapes Go.ChangeAt Go.RowKit
open Pairs Rec RecEq RecOpen
set_option linter.unusedVariables false
/-- Two boxes of two cells each. -/
def S (w' : World) (g : Nat) (u v : Value) (h : Nat) (x y : Value) : Prop := w'.cell? ⟨g, 0, none⟩ = some u ∧ w'.cell? ⟨g, 1, none⟩ = some v ∧ g < w'.heap.size ∧ w'.cell? ⟨h, 0, none⟩ = some x ∧ w'.cell? ⟨h, 1, none⟩ = some y ∧ h < w'.heap.size
theorem S.below {w w' : World} {g h : Nat} {u v x y : Value} (k : S w g u v h x y) (hb : Below w.heap.size w w') : S w' g u v h x y :=
  ⟨(hb.cell (p := ⟨g, 0, none⟩) k.2.2.1).trans k.1, (hb.cell (p := ⟨g, 1, none⟩) k.2.2.1).trans k.2.1, Nat.lt_of_lt_of_le k.2.2.1 hb.size, (hb.cell (p := ⟨h, 0, none⟩) k.2.2.2.2.2).trans k.2.2.2.1, (hb.cell (p := ⟨h, 1, none⟩) k.2.2.2.2.2).trans k.2.2.2.2.1, Nat.lt_of_lt_of_le k.2.2.2.2.2 hb.size⟩
theorem toRecord_keeps (a1 a2 : Option Addr) (n1 c1 n2 c2 : Nat) (l1 l2 : List (Int × Int)) (h1 : n1 ≤ 1048576) (h2 : n2 ≤ 1048576) (g h : Nat) (u v x y : Value) (w : World) (H1 : Holds w a1 n1 l1) (H2 : Holds w a2 n2 l2) (hs : S w g u v h x y) :
    Calls Try.prog 7 #[.agg #[.slice a1 n1 c1, .slice a2 n2 c2]] w fun e w' => ∃ g1 g2 : Nat, e = .returned (.agg #[.slice (some ⟨g1, 0, none⟩) n1 n1, .slice (some ⟨g2, 0, none⟩) n2 n2]) ∧ Own w' w.heap.size g1 n1 n1 g2 n2 n2 l1 l2 ∧ Below w.heap.size w w' ∧ w'.cell? ⟨g, 0, none⟩ = some u ∧ w'.cell? ⟨g, 1, none⟩ = some v ∧ g < w'.heap.size ∧ w'.cell? ⟨h, 0, none⟩ = some x ∧ w'.cell? ⟨h, 1, none⟩ = some y ∧ h < w'.heap.size :=
  (toRecord_any a1 a2 n1 c1 n2 c2 l1 l2 h1 h2 w H1 H2).mono fun _ _ ⟨g1, g2, he, ho, hb⟩ => ⟨g1, g2, he, ho, hb, hs.below hb⟩
theorem eqRecord_keeps (a1 a2 b1 b2 : Option Addr) (n1 n2 c1 c2 d1 d2 : Nat) (l1 l2 : List (Int × Int)) (h1 : n1 ≤ 1048576) (h2 : n2 ≤ 1048576) (g h : Nat) (u v x y : Value) (w : World) (A1 : Holds w a1 n1 l1) (A2 : Holds w a2 n2 l2) (B1 : Holds w b1 n1 l1) (B2 : Holds w b2 n2 l2) (hs : S w g u v h x y) :
    Calls Try.prog 10 #[.agg #[.slice a1 n1 c1, .slice a2 n2 c2], .agg #[.slice b1 n1 d1, .slice b2 n2 d2]] w fun e w' => e = .returned (.bool true) ∧ Below w.heap.size w w' ∧ w'.cell? ⟨g, 0, none⟩ = some u ∧ w'.cell? ⟨g, 1, none⟩ = some v ∧ g < w'.heap.size ∧ w'.cell? ⟨h, 0, none⟩ = some x ∧ w'.cell? ⟨h, 1, none⟩ = some y ∧ h < w'.heap.size :=
  (eqRecord_same a1 a2 b1 b2 n1 n2 c1 c2 d1 d2 l1 l2 h1 h2 w A1 A2 B1 B2).mono fun _ _ ⟨he, hb⟩ => ⟨he, hb, hs.below hb⟩

theorem own : ownKnob Try.prog.godebug = none := by kernel_rfl
theorem laidOut : laidOutB Try.prog = true := by kernel_rfl

theorem ownHolds {w : World} {B g1 n1 c1 g2 n2 c2 : Nat} {l1 l2 : List (Int × Int)} (h : Own w B g1 n1 c1 g2 n2 c2 l1 l2) : Holds w (some ⟨g1, 0, none⟩) n1 l1 ∧ Holds w (some ⟨g2, 0, none⟩) n2 l2 := ⟨holds_of h.ctx, holds_of h.rel⟩
def Answers (f : FuncId) (F : List (Int × Int) → List (Int × Int) → Bool) : Prop :=
  ∀ (a1 a2 : Option Addr) (n1 c1 n2 c2 : Nat) (l m : List (Int × Int)) (w : World), n1 ≤ 1048576 → n2 ≤ 1048576 → Holds w a1 n1 l → Holds w a2 n2 m →
    Calls Try.prog f #[.agg #[.slice a1 n1 c1, .slice a2 n2 c2]] w fun e w' => e = .returned (.bool (F l m)) ∧ Below w.heap.size w w'
def AnswersI (f : FuncId) (F : List (Int × Int) → List (Int × Int) → Int → Int × Bool) : Prop :=
  ∀ (a1 a2 : Option Addr) (n1 c1 n2 c2 : Nat) (l m : List (Int × Int)) (z : Int) (w : World), n1 ≤ 1048576 → n2 ≤ 1048576 → Holds w a1 n1 l → Holds w a2 n2 m →
    Calls Try.prog f #[.agg #[.slice a1 n1 c1, .slice a2 n2 c2], .int .i64 z] w fun e w' => e = .returned (.tuple #[.int .i64 (F l m z).1, .bool (F l m z).2]) ∧ Below w.heap.size w w'
end Go.Proofs.Ytcbfnhghhbgdkaa.LawKit
