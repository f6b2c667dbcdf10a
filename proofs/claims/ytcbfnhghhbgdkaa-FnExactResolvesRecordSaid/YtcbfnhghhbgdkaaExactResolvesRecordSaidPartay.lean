/- Rows of rows of ints: what holds them, what owns them; eqIntSS, markIntSS, heldIntSS. -/
import Derived.Test.YtcbfnhghhbgdkaaExactResolvesRecordSaidPartai
import Derived.Deep.RegionHeld3
namespace Go.Proofs.Ytcbfnhghhbgdkaa.SS
open Go.RowKit Pairs Rec Keep GivesI
/-- How many ints the first j rows hold. -/
def off (R : List (List Int)) : Nat → Nat
  | 0 => 0
  | j + 1 => off R j + (R[j]?.getD []).length
theorem off_next {R : List (List Int)} {j : Nat} {r : List Int} (h : R[j]? = some r) : off R (j + 1) = off R j + r.length := by
  show off R j + (R[j]?.getD []).length = _
  rw [h]
  rfl
theorem off_mono (R : List (List Int)) : ∀ {i j : Nat}, i ≤ j → off R i ≤ off R j
  | i, 0, h => by rw [Nat.le_zero.1 h]; exact Nat.le_refl _
  | i, j + 1, h => by
    rcases Nat.lt_or_ge j i with h1 | h1
    · rw [show i = j + 1 by omega]
      exact Nat.le_refl _
    · exact Nat.le_trans (off_mono R h1) (Nat.le_add_right _ _)
def HoldsSS (w : World) (p : Option Addr) (n : Nat) (R : List (List Int)) : Prop :=
  R.length = n ∧ ∀ i r, R[i]? = some r → ∃ b o pi di, p = some ⟨b, o, none⟩ ∧ w.cell? ⟨b, o + i, none⟩ = some (.slice pi r.length di) ∧ HoldsI w pi r.length r
theorem HoldsSS.below {w w' : World} {p : Option Addr} {n : Nat} {R : List (List Int)} (h : HoldsSS w p n R) (hb : Below w.heap.size w w') : HoldsSS w' p n R := by
  refine ⟨h.1, fun i r hr => ?_⟩
  obtain ⟨b, o, pi, di, hp, hc, hh⟩ := h.2 i r hr
  exact ⟨b, o, pi, di, hp, (hb.cell (World.block_lt_of_cell? w _ hc)).trans hc, hh.below hb⟩
theorem HoldsSS.at {w : World} {p : Option Addr} {n : Nat} {R : List (List Int)} (h : HoldsSS w p n R) (i : Nat) (hi : i < n) : ∃ b o pi di r, p = some ⟨b, o, none⟩ ∧ R[i]? = some r ∧ w.cell? ⟨b, o + i, none⟩ = some (.slice pi r.length di) ∧ HoldsI w pi r.length r := by
  have hr : R[i]? = some (R[i]'(by rw [h.1]; exact hi)) := List.getElem?_eq_getElem _
  obtain ⟨b, o, pi, di, hp, hc, hh⟩ := h.2 i _ hr
  exact ⟨b, o, pi, di, _, hp, hr, hc, hh⟩
/-- A row of its own, whose elements are rows of their own, each in a block by itself. -/
structure OwnSS (w : World) (B : Nat) (p : Option Addr) (n d : Nat) (R : List (List Int)) (vs : List Value) : Prop where
  out : w.ownsRow B 41 1 (.slice p n d) n vs
  len : R.length = n
  row : ∀ (i : Nat) r, R[i]? = some r → ∃ pi di, vs[i]? = some (.slice pi r.length di) ∧ w.ownsRow B 3 1 (.slice pi r.length di) r.length (ints r)
  far : ∀ (i : Nat) v b, vs[i]? = some v → v.ownBlock = some b → (Value.slice p n d).ownBlock ≠ some b
  apart : ∀ (i j : Nat) u v b, vs[i]? = some u → vs[j]? = some v → u.ownBlock = some b → v.ownBlock = some b → i = j
def Inner (vs : List Value) (b : Nat) : Prop := ∃ (i : Nat) (v : Value), vs[i]? = some v ∧ v.ownBlock = some b
theorem OwnSS.vlen {w : World} {B : Nat} {p : Option Addr} {n d : Nat} {R : List (List Int)} {vs : List Value} (h : OwnSS w B p n d R vs) : vs.length = n := by have := h.out.1; omega
theorem OwnSS.inner {w : World} {B : Nat} {p : Option Addr} {n d : Nat} {R : List (List Int)} {vs : List Value} (h : OwnSS w B p n d R vs) {b : Nat} (hb : Inner vs b) : B ≤ b ∧ b < w.heap.size := by
  obtain ⟨i, v, hv, hb⟩ := hb
  have hi : i < R.length := by rw [h.len, ← h.vlen]; exact (List.getElem?_eq_some_iff.1 hv).1
  obtain ⟨pi, di, h1, h2⟩ := h.row i _ (List.getElem?_eq_getElem hi)
  rw [hv] at h1
  injection h1 with h1
  subst h1
  exact h2.lt b hb
theorem OwnSS.holds {w : World} {B : Nat} {p : Option Addr} {n d : Nat} {R : List (List Int)} {vs : List Value} (h : OwnSS w B p n d R vs) : HoldsSS w p n R := by
  refine ⟨h.len, fun i r hr => ?_⟩
  obtain ⟨pi, di, h1, h2⟩ := h.row i r hr
  have hin : i < n := by rw [← h.len]; exact (List.getElem?_eq_some_iff.1 hr).1
  rcases h.out.2 with ⟨_, h0⟩ | ⟨g, cap, cur, hv, hrest⟩
  · omega
  · injection hv with hv _ hcap
    subst hv
    subst hcap
    refine ⟨g, 0, pi, di, rfl, ?_, GivesI.holds_own h2⟩
    have hc := h.out.cellAt i (by omega)
    rw [Nat.zero_add, hc]
    exact h1
theorem OwnSS.below {w w' : World} {B : Nat} {p : Option Addr} {n d : Nat} {R : List (List Int)} {vs : List Value} (h : OwnSS w B p n d R vs) (hb : Below w.heap.size w w') : OwnSS w' B p n d R vs :=
  ⟨ownsRow_below h.out hb, h.len, fun i r hr => by obtain ⟨pi, di, h1, h2⟩ := h.row i r hr; exact ⟨pi, di, h1, ownsRow_below h2 hb⟩, h.far, h.apart⟩
theorem OwnSS.base {w : World} {B B' : Nat} {p : Option Addr} {n d : Nat} {R : List (List Int)} {vs : List Value} (h : OwnSS w B p n d R vs) (hB : B' ≤ B) : OwnSS w B' p n d R vs :=
  ⟨ownsRow_base h.out hB, h.len, fun i r hr => by obtain ⟨pi, di, h1, h2⟩ := h.row i r hr; exact ⟨pi, di, h1, ownsRow_base h2 hB⟩, h.far, h.apart⟩
theorem OwnSS.lt {w : World} {B : Nat} {p : Option Addr} {n d : Nat} {R : List (List Int)} {vs : List Value} (h : OwnSS w B p n d R vs) : ∀ b, ((Value.slice p n d).ownBlock = some b ∨ Inner vs b) → B ≤ b ∧ b < w.heap.size := by
  intro b hb
  rcases hb with hb | hb
  · exact h.out.lt b hb
  · exact h.inner hb
theorem OwnSS.kept {S : Nat → Prop} {w w' : World} {B : Nat} {p : Option Addr} {n d : Nat} {R : List (List Int)} {vs : List Value} (h : OwnSS w B p n d R vs) (k : Kept S w w') (hS : ∀ b, ((Value.slice p n d).ownBlock = some b ∨ Inner vs b) → ¬ S b) : OwnSS w' B p n d R vs :=
  ⟨k.owns h.out (fun b hb => hS b (.inl hb)), h.len, fun i r hr => by obtain ⟨pi, di, h1, h2⟩ := h.row i r hr; exact ⟨pi, di, h1, k.owns h2 (fun b hb => hS b (.inr ⟨i, _, h1, hb⟩))⟩, h.far, h.apart⟩
/-- A row is written anew. -/
theorem OwnSS.setRow {w w' : World} {B : Nat} {p : Option Addr} {n d : Nat} {R : List (List Int)} {vs : List Value} (h : OwnSS w B p n d R vs) {i : Nat} {r r' : List Int} (hr : R[i]? = some r) (hl : r'.length = r.length) {pi : Option Addr} {di : Nat} (hv : vs[i]? = some (.slice pi r.length di))
    (ho : w'.ownsRow B 3 1 (.slice pi r.length di) r.length (ints r')) (k : Kept (fun b => (Value.slice pi r.length di).ownBlock = some b) w w') : OwnSS w' B p n d (R.set i r') vs := by
  have hi : i < R.length := (List.getElem?_eq_some_iff.1 hr).1
  refine ⟨k.owns h.out (fun b hb hs => h.far i _ b hv hs hb), by simpa using h.len, fun j s hs => ?_, h.far, h.apart⟩
  by_cases e : i = j
  · subst e
    rw [List.getElem?_set_self hi] at hs
    injection hs with hs
    subst hs
    rw [hl]
    exact ⟨pi, di, hv, ho⟩
  · rw [List.getElem?_set_ne e] at hs
    obtain ⟨pj, dj, h1, h2⟩ := h.row j s hs
    exact ⟨pj, dj, h1, k.owns h2 (fun b hb hb2 => e (h.apart i j _ _ b hv h1 hb2 hb))⟩
theorem OwnSS.nil (w : World) (B : Nat) : OwnSS w B none 0 0 [] [] :=
  ⟨World.ownsRow_nil _ _ _ _, rfl, fun i r hr => by simp at hr, fun i v b hv => by simp at hv, fun i j u v b hu => by simp at hu⟩
def marksSS (k : Int) (R : List (List Int)) : List (List Int) := (List.range R.length).map fun (j : Nat) => marksI (k + (off R j : Int)) (R[j]?.getD []).length
theorem marksSS_at {k : Int} {R : List (List Int)} {j : Nat} {r : List Int} (h : R[j]? = some r) : (marksSS k R)[j]? = some (marksI (k + (off R j : Int)) r.length) := by
  unfold marksSS
  rw [List.getElem?_map, List.getElem?_range (List.getElem?_eq_some_iff.1 h).1]
  show some (marksI _ (R[j]?.getD []).length) = _
  rw [h]
  rfl
theorem marksSS_len (k : Int) (R : List (List Int)) : (marksSS k R).length = R.length := by unfold marksSS; simp
/-- The rows under way: the first i are marked. -/
def UptoSS (B : Nat) (w wr : World) (p : Option Addr) (n d : Nat) (k : Int) (R : List (List Int)) (vs : List Value) (i : Nat) : Prop :=
  ∃ Q, OwnSS wr B p n d Q vs ∧ (∀ j, j < i → Q[j]? = (marksSS k R)[j]?) ∧ (∀ j, i ≤ j → Q[j]? = R[j]?) ∧ Kept (Inner vs) w wr
theorem uptoSS_next {B : Nat} {w wr w' : World} {p : Option Addr} {n d : Nat} {k : Int} {R : List (List Int)} {vs : List Value} {i : Nat} {r : List Int} (hr : R[i]? = some r) {pi : Option Addr} {di : Nat} (hv : vs[i]? = some (.slice pi r.length di))
    (h : UptoSS B w wr p n d k R vs i) (ho : w'.ownsRow B 3 1 (.slice pi r.length di) r.length (ints (marksI (k + (off R i : Int)) r.length))) (hk : Kept (fun b => (Value.slice pi r.length di).ownBlock = some b) wr w') : UptoSS B w w' p n d k R vs (i + 1) := by
  obtain ⟨Q, h1, h2, h3, h4⟩ := h
  have hq : Q[i]? = some r := by rw [h3 i (Nat.le_refl _)]; exact hr
  refine ⟨Q.set i (marksI (k + (off R i : Int)) r.length), h1.setRow hq (marksI_len _ _) hv ho hk, fun j hj => ?_, fun j hj => ?_, h4.trans (hk.mono (fun b hb => ⟨i, _, hv, hb⟩))⟩
  · by_cases e : i = j
    · subst e
      rw [List.getElem?_set_self (List.getElem?_eq_some_iff.1 hq).1, marksSS_at hr]
    · rw [List.getElem?_set_ne e]
      exact h2 j (by omega)
  · rw [List.getElem?_set_ne (by omega)]
    exact h3 j (by omega)
theorem uptoSS_end {B : Nat} {w wr : World} {p : Option Addr} {n d : Nat} {k : Int} {R : List (List Int)} {vs : List Value} (h : UptoSS B w wr p n d k R vs n) (hl : R.length = n) : OwnSS wr B p n d (marksSS k R) vs ∧ Kept (Inner vs) w wr := by
  obtain ⟨Q, h1, h2, h3, h4⟩ := h
  have e : Q = marksSS k R := by
    apply List.ext_getElem?
    intro j
    by_cases hj : j < n
    · exact h2 j hj
    · rw [List.getElem?_eq_none (by rw [h1.len]; omega), List.getElem?_eq_none (by rw [marksSS_len, hl]; omega)]
  rw [← e]
  exact ⟨h1, h4⟩
/-- An answer: rows of rows of its own and a bool. -/
def Res (ok : Bool) (R : List (List Int)) (w : World) (e : Ending) (w' : World) : Prop :=
  ∃ (p : Option Addr) (k d : Nat) (vs : List Value), e = .returned (.tuple #[.slice p k d, .bool ok]) ∧ OwnSS w' w.heap.size p k d R vs ∧ k ≤ 1048576 ∧ off R k ≤ 1000000 ∧ Below w.heap.size w w'
def Gives (f : FuncId) (F : List (Int × Int) → List (Int × Int) → Option (List (List Int))) : Prop :=
  ∀ (a1 a2 : Option Addr) (n1 n2 : Nat) (l m : List (Int × Int)) (w : World), n1 ≤ 1048576 → n2 ≤ 1048576 → Holds w a1 n1 l → Holds w a2 n2 m →
    Calls Try.prog f #[.agg #[.slice a1 n1 n1, .slice a2 n2 n2]] w (Res (F l m).isSome ((F l m).getD []) w)
end Go.Proofs.Ytcbfnhghhbgdkaa.SS
/- What a function that makes a list of ints and two bools of a record (and of two numbers) is said to do. -/
namespace Go.Proofs.Ytcbfnhghhbgdkaa.GivesC
open Go.RowKit Pairs Rec Keep GivesI
def Res (R : Bool × Bool × List Int) (w : World) (e : Ending) (w' : World) : Prop :=
  ∃ (p : Option Addr) (k d : Nat), e = .returned (.tuple #[.slice p k d, .bool R.1, .bool R.2.1]) ∧ w'.ownsRow w.heap.size 3 1 (.slice p k d) k (ints R.2.2) ∧ k ≤ 1048576 ∧ Below w.heap.size w w'
def Gives (f : FuncId) (F : List (Int × Int) → List (Int × Int) → Bool × Bool × List Int) : Prop :=
  ∀ (a1 a2 : Option Addr) (n1 n2 : Nat) (l m : List (Int × Int)) (w : World), n1 ≤ 1048576 → n2 ≤ 1048576 → Holds w a1 n1 l → Holds w a2 n2 m →
    Calls Try.prog f #[.agg #[.slice a1 n1 n1, .slice a2 n2 n2]] w (Res (F l m) w)
def Gives2 (f : FuncId) (x y : Value) (F : List (Int × Int) → List (Int × Int) → Bool × Bool × List Int) : Prop :=
  ∀ (a1 a2 : Option Addr) (n1 n2 : Nat) (l m : List (Int × Int)) (w : World), n1 ≤ 1048576 → n2 ≤ 1048576 → Holds w a1 n1 l → Holds w a2 n2 m →
    Calls Try.prog f #[.agg #[.slice a1 n1 n1, .slice a2 n2 n2], x, y] w (Res (F l m) w)
end Go.Proofs.Ytcbfnhghhbgdkaa.GivesC
