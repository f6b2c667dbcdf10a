/- Slices of pairs of ints in the world: what is held from an address on. -/
import Derived.Test.YtfbgekhkbbhggaaRows
import Derived.WalkKit
import Derived.ProofKit
import Derived.Lib.Hide
import Derived.Lib.SmallJoins
import Derived.Below
namespace Go.Proofs.Ytfbgekhkbbhggaa.Pairs
open Go.RowKit

/-- From ⟨b, off⟩ on the world holds the pairs l, two cells each. -/
def Cells (w : World) (b off : Nat) (l : List (Int × Int)) : Prop :=
  ∀ i x, l[i]? = some x → w.cell? ⟨b, off + i * 2, none⟩ = some (.int .i64 x.1) ∧ w.cell? ⟨b, off + i * 2 + 1, none⟩ = some (.int .i64 x.2)
theorem Cells.below {w w' : World} {b off : Nat} {l : List (Int × Int)} {B : Nat} (h : Cells w b off l) (hb : Below B w w') (hB : b < B) : Cells w' b off l :=
  fun i x hi => ⟨(hb.cell (p := ⟨b, off + i * 2, none⟩) hB).trans (h i x hi).1, (hb.cell (p := ⟨b, off + i * 2 + 1, none⟩) hB).trans (h i x hi).2⟩
/-- A slice holds l: it is empty, or its cells are there. -/
def Holds (w : World) (a : Option Addr) (n : Nat) (l : List (Int × Int)) : Prop :=
  l.length = n ∧ (n = 0 ∨ ∃ b off, a = some ⟨b, off, none⟩ ∧ b < w.heap.size ∧ Cells w b off l)
theorem Holds.below {w w' : World} {a : Option Addr} {n : Nat} {l : List (Int × Int)} (h : Holds w a n l) (hb : Below w.heap.size w w') : Holds w' a n l := by
  obtain ⟨h1, h2⟩ := h
  refine ⟨h1, ?_⟩
  rcases h2 with h2 | ⟨b, off, ha, hbw, hc⟩
  · exact .inl h2
  · exact .inr ⟨b, off, ha, Nat.lt_of_lt_of_le hbw hb.size, hc.below hb hbw⟩
/-- What a reader at k is told. -/
theorem Holds.at {w : World} {a : Option Addr} {n : Nat} {l : List (Int × Int)} (h : Holds w a n l) (k : Nat) (hk : k < n) :
    ∃ b off x y, a = some ⟨b, off, none⟩ ∧ l[k]? = some (x, y) ∧ w.cell? ⟨b, off + k * 2, none⟩ = some (.int .i64 x) ∧ w.cell? ⟨b, off + k * 2 + 1, none⟩ = some (.int .i64 y) := by
  obtain ⟨h1, h2⟩ := h
  rcases h2 with h2 | ⟨b, off, ha, hbw, hc⟩
  · omega
  · have hl : k < l.length := by omega
    have e := hc k l[k] (List.getElem?_eq_getElem hl)
    exact ⟨b, off, l[k].1, l[k].2, ha, List.getElem?_eq_getElem hl, e.1, e.2⟩
/-- A record that a function keeps in a box of its own. -/
theorem box_first (w : World) (u v : Value) (t : TypeId) : (w.alloc (.cells #[u, v] t)).cell? ⟨w.heap.size, 0, none⟩ = some u := by
  rw [World.cell?_alloc_mark]
  rfl
theorem box_second (w : World) (u v : Value) (t : TypeId) : (w.alloc (.cells #[u, v] t)).cell? ⟨w.heap.size, 1, none⟩ = some v := by
  rw [World.cell?_alloc_mark]
  rfl
theorem below_alloc (w : World) (o : Obj) : Below w.heap.size w (w.alloc o) := (Below.refl _ _).alloc (Nat.le_refl _) o
theorem below_alloc3 (w : World) (o1 o2 o3 : Obj) : Below w.heap.size w (((w.alloc o1).alloc o2).alloc o3) :=
  (((Below.refl _ _).alloc (Nat.le_refl _) o1).alloc (by simp) o2).alloc (by simp; omega) o3

/-- The cells of a row of pairs. -/
def flat (l : List (Int × Int)) : List Value := l.flatMap fun p => [.int .i64 p.1, .int .i64 p.2]
theorem flat_cons (p : Int × Int) (l : List (Int × Int)) : flat (p :: l) = .int .i64 p.1 :: .int .i64 p.2 :: flat l := rfl
theorem flat_len : ∀ l : List (Int × Int), (flat l).length = l.length * 2
  | [] => rfl
  | p :: l => by rw [flat_cons, List.length_cons, List.length_cons, flat_len l, List.length_cons]; omega
theorem flat_get : ∀ (l : List (Int × Int)) (k : Nat) (x y : Int), l[k]? = some (x, y) → (flat l)[k * 2]? = some (.int .i64 x) ∧ (flat l)[k * 2 + 1]? = some (.int .i64 y)
  | [], k, x, y, h => by simp at h
  | p :: l, 0, x, y, h => by
    obtain rfl : p = (x, y) := by simpa using h
    rw [flat_cons]
    exact ⟨rfl, rfl⟩
  | p :: l, k + 1, x, y, h => by
    have h' : l[k]? = some (x, y) := by simpa using h
    have e := flat_get l k x y h'
    rw [flat_cons, show (k + 1) * 2 = k * 2 + 1 + 1 by omega]
    exact e
theorem ownsRow_below {B : Nat} {e : TypeId} {k : Nat} {v : Value} {n : Nat} {xs : List Value} {w w' : World} (h : w.ownsRow B e k v n xs) (hb : Below w.heap.size w w') : w'.ownsRow B e k v n xs := by
  obtain ⟨h1, h2⟩ := h
  refine ⟨h1, ?_⟩
  rcases h2 with h2 | ⟨g, cap, cur, hv, hg, hh, r⟩
  · exact .inl h2
  · exact .inr ⟨g, cap, cur, hv, hg, (hb.block g (Array.getElem?_eq_some_iff.1 hh).1).trans hh, r⟩
/-- A row that agrees with l up to k. -/
def Upto (T : TypeId) (B : Nat) (w wr : World) (g n : Nat) (l : List (Int × Int)) (k : Nat) : Prop :=
  ∃ ys, wr.ownsRow B T 2 (.slice (some ⟨g, 0, none⟩) n n) n ys ∧ (∀ i, i < k * 2 → ys[i]? = (flat l)[i]?) ∧ Below B w wr
theorem Upto.bel {T : TypeId} {B : Nat} {w wr : World} {g n : Nat} {l : List (Int × Int)} {k : Nat} (h : Upto T B w wr g n l k) : Below B w wr := by
  obtain ⟨_, _, _, h3⟩ := h
  exact h3
theorem Upto.size {T : TypeId} {B : Nat} {w wr : World} {g n : Nat} {l : List (Int × Int)} {k : Nat} (h : Upto T B w wr g n l k) : w.heap.size ≤ wr.heap.size := h.bel.size
theorem upto_quiet {T : TypeId} {B : Nat} {w wr wq : World} {g n : Nat} {l : List (Int × Int)} {k : Nat} (h : Upto T B w wr g n l k) (hB : B ≤ wr.heap.size) (hb : Below wr.heap.size wr wq) : Upto T B w wq g n l k := by
  obtain ⟨ys, h1, h2, h3⟩ := h
  exact ⟨ys, ownsRow_below h1 hb, h2, h3.trans (hb.mono hB)⟩
theorem upto_step {T : TypeId} {B : Nat} {w wr : World} {g n : Nat} {l : List (Int × Int)} {k : Nat} {x y : Int} (h : Upto T B w wr g n l k) (hB : B ≤ g) (hk : k < n) (hx : l[k]? = some (x, y)) :
    Upto T B w ((wr.setCell ⟨g, k * 2, none⟩ (.int .i64 x)).setCell ⟨g, k * 2 + 1, none⟩ (.int .i64 y)) g n l (k + 1) := by
  obtain ⟨ys, h1, h2, h3⟩ := h
  have hlen : ys.length = n * 2 := h1.1
  refine ⟨_, ((h1.stored (k * 2) _).1.stored (k * 2 + 1) _).1, ?_, (h3.setCell (p := ⟨g, k * 2, none⟩) hB _).setCell (p := ⟨g, k * 2 + 1, none⟩) hB _⟩
  intro i hi
  have hf := flat_get l k x y hx
  by_cases he : i = k * 2 + 1
  · subst he
    rw [List.getElem?_set_self (by simp; omega), hf.2]
  · rw [List.getElem?_set_ne (by omega)]
    by_cases he2 : i = k * 2
    · subst he2
      rw [List.getElem?_set_self (by omega), hf.1]
    · rw [List.getElem?_set_ne (by omega)]
      exact h2 i (by omega)
theorem upto_end {T : TypeId} {B : Nat} {w wr : World} {g n : Nat} {l : List (Int × Int)} (h : Upto T B w wr g n l n) (hl : l.length = n) :
    wr.ownsRow B T 2 (.slice (some ⟨g, 0, none⟩) n n) n (flat l) ∧ Below B w wr := by
  obtain ⟨ys, h1, h2, h3⟩ := h
  have hlen : ys.length = n * 2 := h1.1
  have e : ys = flat l := by
    apply List.ext_getElem?
    intro i
    by_cases hi : i < n * 2
    · exact h2 i hi
    · rw [List.getElem?_eq_none (by omega), List.getElem?_eq_none (by rw [flat_len]; omega)]
  rw [← e]
  exact ⟨h1, h3⟩
theorem upto_facts {T : TypeId} {B : Nat} {w wr : World} {g n : Nat} {l : List (Int × Int)} {k : Nat} (h : Upto T B w wr g n l k) : ∀ j, j < n * 2 → (∃ v, wr.cell? ⟨g, j, none⟩ = some v) ∧ wr.frozen? ⟨g, j, none⟩ = false := by
  obtain ⟨ys, h1, _, _⟩ := h
  intro j hj
  have hlen : ys.length = n * 2 := h1.1
  refine ⟨⟨ys[j], ?_⟩, h1.frozenAt j⟩
  rw [h1.cellAt j (by omega), List.getElem?_eq_getElem (by omega)]
theorem holds_of {T : TypeId} {w : World} {B g n c : Nat} {l : List (Int × Int)} (h : w.ownsRow B T 2 (.slice (some ⟨g, 0, none⟩) n c) n (flat l)) : Holds w (some ⟨g, 0, none⟩) n l := by
  have hl : l.length = n := by have := h.1; rw [flat_len] at this; omega
  refine ⟨hl, .inr ⟨g, 0, rfl, (h.lt g rfl).2, fun i x hi => ?_⟩⟩
  have hil : i < l.length := (List.getElem?_eq_some_iff.1 hi).1
  have e := flat_get l i x.1 x.2 hi
  rw [Nat.zero_add, h.cellAt (i * 2) (by omega), h.cellAt (i * 2 + 1) (by omega)]
  exact e
end Go.Proofs.Ytfbgekhkbbhggaa.Pairs
