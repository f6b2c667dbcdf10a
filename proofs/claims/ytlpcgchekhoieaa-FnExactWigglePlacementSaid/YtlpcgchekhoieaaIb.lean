/- Lists of ints in the world, for seats without records: what is held, copies, marks; how such a list comes in. -/
import Derived.Test.YtlpcgchekhoieaaRows
import Derived.WalkKit
import Derived.ProofKit
import Derived.Lib.Hide
import Derived.Lib.SmallJoins
import Derived.Below
import Derived.Deep.QuietTactic
import Derived.BigQuiet
import Derived.StillTailTactics
import Derived.Deep.Heap
import Derived.Laws.OwnMore
import Derived.Deep.SlicePairs
import Derived.ChangeArms
import Derived.OpenShut
import Derived.Deep.RegionHeld3
import Derived.Deep.RegionWith
import Derived.ChangeOld
import Derived.ChangeSlices
namespace Go.Proofs.Ytlpcgchekhoieaa.Pairs
open Go.RowKit

/-- From ⟨b, off⟩ on the world holds the pairs l, two cells each. -/
def Cells (w : World) (b off : Nat) (l : List (Int × Int)) : Prop :=
  ∀ i x, l[i]? = some x → w.cell? ⟨b, off + i * 2, none⟩ = some (.int .i64 x.1) ∧ w.cell? ⟨b, off + i * 2 + 1, none⟩ = some (.int .i64 x.2)
theorem Cells.below {w w' : World} {b off : Nat} {l : List (Int × Int)} {B : Nat} (h : Cells w b off l) (hb : Below B w w') (hB : b < B) : Cells w' b off l :=
  fun i x hi => ⟨(hb.cell (p := ⟨b, off + i * 2, none⟩) hB).trans (h i x hi).1, (hb.cell (p := ⟨b, off + i * 2 + 1, none⟩) hB).trans (h i x hi).2⟩
/-- A slice holds l: it is empty, or its cells are there. -/
def Holds (w : World) (a : Option Addr) (n : Nat) (l : List (Int × Int)) : Prop :=
  l.length = n ∧ (n = 0 ∨ ∃ b off, a = some ⟨b, off, none⟩ ∧ b < w.heap.size ∧ Cells w b off l)
theorem Holds.below {w w' : World} {a : Option Addr} {n : Nat} {l : List (Int × Int)} (h : Holds w a n l) (hb : Below w.heap.size w w') : Holds w' a n l := by
  obtain ⟨h1, h2⟩ := h
  refine ⟨h1, ?_⟩
  rcases h2 with h2 | ⟨b, off, ha, hbw, hc⟩
  · exact .inl h2
  · exact .inr ⟨b, off, ha, Nat.lt_of_lt_of_le hbw hb.size, hc.below hb hbw⟩
/-- What a reader at k is told. -/
theorem Holds.at {w : World} {a : Option Addr} {n : Nat} {l : List (Int × Int)} (h : Holds w a n l) (k : Nat) (hk : k < n) :
    ∃ b off x y, a = some ⟨b, off, none⟩ ∧ l[k]? = some (x, y) ∧ w.cell? ⟨b, off + k * 2, none⟩ = some (.int .i64 x) ∧ w.cell? ⟨b, off + k * 2 + 1, none⟩ = some (.int .i64 y) := by
  obtain ⟨h1, h2⟩ := h
  rcases h2 with h2 | ⟨b, off, ha, hbw, hc⟩
  · omega
  · have hl : k < l.length := by omega
    have e := hc k l[k] (List.getElem?_eq_getElem hl)
    exact ⟨b, off, l[k].1, l[k].2, ha, List.getElem?_eq_getElem hl, e.1, e.2⟩
/-- A record that a function keeps in a box of its own. -/
theorem box_first (w : World) (u v : Value) (t : TypeId) : (w.alloc (.cells #[u, v] t)).cell? ⟨w.heap.size, 0, none⟩ = some u := by
  rw [World.cell?_alloc_mark]
  rfl
theorem box_second (w : World) (u v : Value) (t : TypeId) : (w.alloc (.cells #[u, v] t)).cell? ⟨w.heap.size, 1, none⟩ = some v := by
  rw [World.cell?_alloc_mark]
  rfl
theorem below_alloc (w : World) (o : Obj) : Below w.heap.size w (w.alloc o) := (Below.refl _ _).alloc (Nat.le_refl _) o
theorem below_alloc3 (w : World) (o1 o2 o3 : Obj) : Below w.heap.size w (((w.alloc o1).alloc o2).alloc o3) :=
  (((Below.refl _ _).alloc (Nat.le_refl _) o1).alloc (by simp) o2).alloc (by simp; omega) o3

/-- The cells of a row of pairs. -/
def flat (l : List (Int × Int)) : List Value := l.flatMap fun p => [.int .i64 p.1, .int .i64 p.2]
theorem flat_cons (p : Int × Int) (l : List (Int × Int)) : flat (p :: l) = .int .i64 p.1 :: .int .i64 p.2 :: flat l := rfl
theorem flat_len : ∀ l : List (Int × Int), (flat l).length = l.length * 2
  | [] => rfl
  | p :: l => by rw [flat_cons, List.length_cons, List.length_cons, flat_len l, List.length_cons]; omega
theorem flat_get : ∀ (l : List (Int × Int)) (k : Nat) (x y : Int), l[k]? = some (x, y) → (flat l)[k * 2]? = some (.int .i64 x) ∧ (flat l)[k * 2 + 1]? = some (.int .i64 y)
  | [], k, x, y, h => by simp at h
  | p :: l, 0, x, y, h => by
    obtain rfl : p = (x, y) := by simpa using h
    rw [flat_cons]
    exact ⟨rfl, rfl⟩
  | p :: l, k + 1, x, y, h => by
    have h' : l[k]? = some (x, y) := by simpa using h
    have e := flat_get l k x y h'
    rw [flat_cons, show (k + 1) * 2 = k * 2 + 1 + 1 by omega]
    exact e
theorem ownsRow_below {B : Nat} {e : TypeId} {k : Nat} {v : Value} {n : Nat} {xs : List Value} {w w' : World} (h : w.ownsRow B e k v n xs) (hb : Below w.heap.size w w') : w'.ownsRow B e k v n xs := by
  obtain ⟨h1, h2⟩ := h
  refine ⟨h1, ?_⟩
  rcases h2 with h2 | ⟨g, cap, cur, hv, hg, hh, r⟩
  · exact .inl h2
  · exact .inr ⟨g, cap, cur, hv, hg, (hb.block g (Array.getElem?_eq_some_iff.1 hh).1).trans hh, r⟩
/-- A row that agrees with l up to k. -/
def Upto (T : TypeId) (B : Nat) (w wr : World) (g n : Nat) (l : List (Int × Int)) (k : Nat) : Prop :=
  ∃ ys, wr.ownsRow B T 2 (.slice (some ⟨g, 0, none⟩) n n) n ys ∧ (∀ i, i < k * 2 → ys[i]? = (flat l)[i]?) ∧ Below B w wr
theorem Upto.bel {T : TypeId} {B : Nat} {w wr : World} {g n : Nat} {l : List (Int × Int)} {k : Nat} (h : Upto T B w wr g n l k) : Below B w wr := by
  obtain ⟨_, _, _, h3⟩ := h
  exact h3
theorem Upto.size {T : TypeId} {B : Nat} {w wr : World} {g n : Nat} {l : List (Int × Int)} {k : Nat} (h : Upto T B w wr g n l k) : w.heap.size ≤ wr.heap.size := h.bel.size
theorem upto_quiet {T : TypeId} {B : Nat} {w wr wq : World} {g n : Nat} {l : List (Int × Int)} {k : Nat} (h : Upto T B w wr g n l k) (hB : B ≤ wr.heap.size) (hb : Below wr.heap.size wr wq) : Upto T B w wq g n l k := by
  obtain ⟨ys, h1, h2, h3⟩ := h
  exact ⟨ys, ownsRow_below h1 hb, h2, h3.trans (hb.mono hB)⟩
theorem upto_step {T : TypeId} {B : Nat} {w wr : World} {g n : Nat} {l : List (Int × Int)} {k : Nat} {x y : Int} (h : Upto T B w wr g n l k) (hB : B ≤ g) (hk : k < n) (hx : l[k]? = some (x, y)) :
    Upto T B w ((wr.setCell ⟨g, k * 2, none⟩ (.int .i64 x)).setCell ⟨g, k * 2 + 1, none⟩ (.int .i64 y)) g n l (k + 1) := by
  obtain ⟨ys, h1, h2, h3⟩ := h
  have hlen : ys.length = n * 2 := h1.1
  refine ⟨_, ((h1.stored (k * 2) _).1.stored (k * 2 + 1) _).1, ?_, (h3.setCell (p := ⟨g, k * 2, none⟩) hB _).setCell (p := ⟨g, k * 2 + 1, none⟩) hB _⟩
  intro i hi
  have hf := flat_get l k x y hx
  by_cases he : i = k * 2 + 1
  · subst he
    rw [List.getElem?_set_self (by simp; omega), hf.2]
  · rw [List.getElem?_set_ne (by omega)]
    by_cases he2 : i = k * 2
    · subst he2
      rw [List.getElem?_set_self (by omega), hf.1]
    · rw [List.getElem?_set_ne (by omega)]
      exact h2 i (by omega)
theorem upto_end {T : TypeId} {B : Nat} {w wr : World} {g n : Nat} {l : List (Int × Int)} (h : Upto T B w wr g n l n) (hl : l.length = n) :
    wr.ownsRow B T 2 (.slice (some ⟨g, 0, none⟩) n n) n (flat l) ∧ Below B w wr := by
  obtain ⟨ys, h1, h2, h3⟩ := h
  have hlen : ys.length = n * 2 := h1.1
  have e : ys = flat l := by
    apply List.ext_getElem?
    intro i
    by_cases hi : i < n * 2
    · exact h2 i hi
    · rw [List.getElem?_eq_none (by omega), List.getElem?_eq_none (by rw [flat_len]; omega)]
  rw [← e]
  exact ⟨h1, h3⟩
theorem upto_facts {T : TypeId} {B : Nat} {w wr : World} {g n : Nat} {l : List (Int × Int)} {k : Nat} (h : Upto T B w wr g n l k) : ∀ j, j < n * 2 → (∃ v, wr.cell? ⟨g, j, none⟩ = some v) ∧ wr.frozen? ⟨g, j, none⟩ = false := by
  obtain ⟨ys, h1, _, _⟩ := h
  intro j hj
  have hlen : ys.length = n * 2 := h1.1
  refine ⟨⟨ys[j], ?_⟩, h1.frozenAt j⟩
  rw [h1.cellAt j (by omega), List.getElem?_eq_getElem (by omega)]
theorem holds_of {T : TypeId} {w : World} {B g n c : Nat} {l : List (Int × Int)} (h : w.ownsRow B T 2 (.slice (some ⟨g, 0, none⟩) n c) n (flat l)) : Holds w (some ⟨g, 0, none⟩) n l := by
  have hl : l.length = n := by have := h.1; rw [flat_len] at this; omega
  refine ⟨hl, .inr ⟨g, 0, rfl, (h.lt g rfl).2, fun i x hi => ?_⟩⟩
  have hil : i < l.length := (List.getElem?_eq_some_iff.1 hi).1
  have e := flat_get l i x.1 x.2 hi
  rw [Nat.zero_add, h.cellAt (i * 2) (by omega), h.cellAt (i * 2 + 1) (by omega)]
  exact e
end Go.Proofs.Ytlpcgchekhoieaa.Pairs

namespace Go.Proofs.Ytlpcgchekhoieaa.Rec
open Go.RowKit Pairs

theorem info_parts {t : TypeId} {z : Option Value} {a b : Nat} (h : (Try.prog.info? t).map (fun i => (i.zero, i.size, i.bytes)) = some (z, a, b)) : ∃ i0, Try.prog.info? t = some i0 ∧ i0.zero = z ∧ i0.size = a ∧ i0.bytes = b := by
  cases hi : Try.prog.info? t with
  | none => rw [hi] at h; cases h
  | some i0 =>
    rw [hi] at h
    simp only [Option.map_some, Option.some.injEq, Prod.mk.injEq] at h
    exact ⟨i0, rfl, h.1, h.2.1, h.2.2⟩
theorem below_alloc2 (w : World) (o1 o2 : Obj) : Below w.heap.size w ((w.alloc o1).alloc o2) := ((Below.refl _ _).alloc (Nat.le_refl _) o1).alloc (by simp) o2
theorem boxes3 (w : World) (u1 v1 u2 v2 u3 v3 : Value) (t1 t2 t3 : TypeId) :
    (((w.alloc (.cells #[u1, v1] t1)).alloc (.cells #[u2, v2] t2)).alloc (.cells #[u3, v3] t3)).heap.size = w.heap.size + 3 ∧
    (((w.alloc (.cells #[u1, v1] t1)).alloc (.cells #[u2, v2] t2)).alloc (.cells #[u3, v3] t3)).cell? ⟨w.heap.size, 0, none⟩ = some u1 ∧
    (((w.alloc (.cells #[u1, v1] t1)).alloc (.cells #[u2, v2] t2)).alloc (.cells #[u3, v3] t3)).cell? ⟨w.heap.size, 1, none⟩ = some v1 ∧
    (((w.alloc (.cells #[u1, v1] t1)).alloc (.cells #[u2, v2] t2)).alloc (.cells #[u3, v3] t3)).cell? ⟨w.heap.size + 1, 0, none⟩ = some u2 ∧
    (((w.alloc (.cells #[u1, v1] t1)).alloc (.cells #[u2, v2] t2)).alloc (.cells #[u3, v3] t3)).cell? ⟨w.heap.size + 1, 1, none⟩ = some v2 ∧
    (((w.alloc (.cells #[u1, v1] t1)).alloc (.cells #[u2, v2] t2)).alloc (.cells #[u3, v3] t3)).cell? ⟨w.heap.size + 2, 0, none⟩ = some u3 ∧
    (((w.alloc (.cells #[u1, v1] t1)).alloc (.cells #[u2, v2] t2)).alloc (.cells #[u3, v3] t3)).cell? ⟨w.heap.size + 2, 1, none⟩ = some v3 ∧
    (((w.alloc (.cells #[u1, v1] t1)).alloc (.cells #[u2, v2] t2)).alloc (.cells #[u3, v3] t3)).frozen? ⟨w.heap.size + 1, 0, none⟩ = false ∧
    (((w.alloc (.cells #[u1, v1] t1)).alloc (.cells #[u2, v2] t2)).alloc (.cells #[u3, v3] t3)).frozen? ⟨w.heap.size + 1, 1, none⟩ = false ∧
    (((w.alloc (.cells #[u1, v1] t1)).alloc (.cells #[u2, v2] t2)).alloc (.cells #[u3, v3] t3)).frozen? ⟨w.heap.size + 2, 0, none⟩ = false ∧
    (((w.alloc (.cells #[u1, v1] t1)).alloc (.cells #[u2, v2] t2)).alloc (.cells #[u3, v3] t3)).frozen? ⟨w.heap.size + 2, 1, none⟩ = false ∧
    Below w.heap.size w (((w.alloc (.cells #[u1, v1] t1)).alloc (.cells #[u2, v2] t2)).alloc (.cells #[u3, v3] t3)) := by
  have e : ∀ (w : World) (o : Obj), (w.alloc o).heap = w.heap.push o := fun _ _ => rfl
  have i0 : (((w.alloc (.cells #[u1, v1] t1)).alloc (.cells #[u2, v2] t2)).alloc (.cells #[u3, v3] t3)).heap[w.heap.size]? = some (.cells #[u1, v1] t1) := by
    rw [e, e, e, Array.getElem?_push, if_neg (by simp; omega), Array.getElem?_push, if_neg (by simp), Array.getElem?_push, if_pos rfl]
  have i1 : (((w.alloc (.cells #[u1, v1] t1)).alloc (.cells #[u2, v2] t2)).alloc (.cells #[u3, v3] t3)).heap[w.heap.size + 1]? = some (.cells #[u2, v2] t2) := by
    rw [e, e, e, Array.getElem?_push, if_neg (by simp), Array.getElem?_push, if_pos (by simp)]
  have i2 : (((w.alloc (.cells #[u1, v1] t1)).alloc (.cells #[u2, v2] t2)).alloc (.cells #[u3, v3] t3)).heap[w.heap.size + 2]? = some (.cells #[u3, v3] t3) := by
    rw [e, e, e, Array.getElem?_push, if_pos (by simp)]
  refine ⟨by rw [e, e, e]; simp, ?_, ?_, ?_, ?_, ?_, ?_, ?_, ?_, ?_, ?_, below_alloc3 _ _ _ _⟩
  · unfold World.cell?; rw [i0]; rfl
  · unfold World.cell?; rw [i0]; rfl
  · unfold World.cell?; rw [i1]; rfl
  · unfold World.cell?; rw [i1]; rfl
  · unfold World.cell?; rw [i2]; rfl
  · unfold World.cell?; rw [i2]; rfl
  · unfold World.frozen?; rw [i1]; rfl
  · unfold World.frozen?; rw [i1]; rfl
  · unfold World.frozen?; rw [i2]; rfl
  · unfold World.frozen?; rw [i2]; rfl
end Go.Proofs.Ytlpcgchekhoieaa.Rec

namespace Go.Proofs.Ytlpcgchekhoieaa.Keep
open Go.RowKit Pairs Rec

/-- All blocks but those of S are as they were. -/
structure Kept (S : Nat → Prop) (w w' : World) : Prop where
  os : w'.os = w.os
  tape : w'.tape = w.tape
  output : w'.output = w.output
  size : w.heap.size ≤ w'.heap.size
  block : ∀ k, k < w.heap.size → ¬ S k → w'.heap[k]? = w.heap[k]?
theorem Kept.refl (S : Nat → Prop) (w : World) : Kept S w w := ⟨rfl, rfl, rfl, Nat.le_refl _, fun _ _ _ => rfl⟩
theorem Kept.trans {S : Nat → Prop} {w w' w'' : World} (h : Kept S w w') (h' : Kept S w' w'') : Kept S w w'' :=
  ⟨h'.os.trans h.os, h'.tape.trans h.tape, h'.output.trans h.output, Nat.le_trans h.size h'.size, fun k hk hs => (h'.block k (Nat.lt_of_lt_of_le hk h.size) hs).trans (h.block k hk hs)⟩
theorem Kept.of {S : Nat → Prop} {w w' : World} (h : Below w.heap.size w w') : Kept S w w' := ⟨h.os, h.tape, h.output, h.size, fun k hk _ => h.block k hk⟩
theorem Kept.mono {S T : Nat → Prop} {w w' : World} (h : Kept S w w') (hs : ∀ k, S k → T k) : Kept T w w' := ⟨h.os, h.tape, h.output, h.size, fun k hk ht => h.block k hk fun s => ht (hs k s)⟩
theorem Kept.below {S : Nat → Prop} {w w' : World} {B : Nat} (h : Kept S w w') (hS : ∀ k, S k → B ≤ k) (hB : B ≤ w.heap.size) : Below B w w' :=
  ⟨h.os, h.tape, h.output, h.size, fun k hk => h.block k (by omega) fun s => by have := hS k s; omega⟩
theorem Kept.cell {S : Nat → Prop} {w w' : World} (h : Kept S w w') {p : Addr} {v : Value} (hp : w.cell? p = some v) (hs : ¬ S p.block) : w'.cell? p = some v :=
  (World.cell?_of_block (h.block p.block (World.block_lt_of_cell? w p hp) hs)).trans hp
theorem Kept.holds {S : Nat → Prop} {w w' : World} (k : Kept S w w') {a : Option Addr} {n : Nat} {l : List (Int × Int)} (h : Holds w a n l) (hs : ∀ b off, a = some ⟨b, off, none⟩ → ¬ S b) : Holds w' a n l := by
  obtain ⟨h1, h2⟩ := h
  refine ⟨h1, ?_⟩
  rcases h2 with h2 | ⟨b, off, ha, hbw, hc⟩
  · exact .inl h2
  · exact .inr ⟨b, off, ha, Nat.lt_of_lt_of_le hbw k.size, fun i x hi => ⟨k.cell (hc i x hi).1 (hs b off ha), k.cell (hc i x hi).2 (hs b off ha)⟩⟩
theorem Kept.owns {S : Nat → Prop} {w w' : World} (k : Kept S w w') {B : Nat} {e : TypeId} {s : Nat} {v : Value} {n : Nat} {xs : List Value} (h : w.ownsRow B e s v n xs) (hs : ∀ b, v.ownBlock = some b → ¬ S b) : w'.ownsRow B e s v n xs := by
  obtain ⟨h1, h2⟩ := h
  refine ⟨h1, ?_⟩
  rcases h2 with h2 | ⟨g, cap, cur, hv, hg, hh, r⟩
  · exact .inl h2
  · exact .inr ⟨g, cap, cur, hv, hg, (k.block g (Array.getElem?_eq_some_iff.1 hh).1 (hs g (by rw [hv]; rfl))).trans hh, r⟩
theorem ownsRow_base {w : World} {B B' : Nat} {e : TypeId} {s : Nat} {v : Value} {n : Nat} {xs : List Value} (h : w.ownsRow B e s v n xs) (hB : B' ≤ B) : w.ownsRow B' e s v n xs := by
  obtain ⟨h1, h2⟩ := h
  refine ⟨h1, ?_⟩
  rcases h2 with h2 | ⟨g, cap, cur, hv, hg, r⟩
  · exact .inl h2
  · exact .inr ⟨g, cap, cur, hv, by omega, r⟩
/-- A row of pairs that a call has made, perhaps none. -/
theorem holds_own {T : TypeId} {w : World} {B n c : Nat} {p : Option Addr} {l : List (Int × Int)} (h : w.ownsRow B T 2 (.slice p n c) n (flat l)) : Holds w p n l := by
  rcases h.2 with ⟨hv, hn⟩ | ⟨g, cap, cur, hv, hr⟩
  · have hl := h.1
    rw [flat_len] at hl
    exact ⟨by omega, .inl hn⟩
  · injection hv with h1 h2 h3
    subst h1 h3
    exact holds_of h
theorem Kept.setCell {S : Nat → Prop} {w w' : World} (h : Kept S w w') {g j : Nat} (hg : S g) (u : Value) : Kept S w (w'.setCell ⟨g, j, none⟩ u) :=
  h.trans ⟨rfl, rfl, rfl, by rw [Go.Deep.nblk_setCell]; exact Nat.le_refl _, fun k _ hs => Go.Deep.blk_setCell_other w' _ u k (fun e => hs (e ▸ hg))⟩
/-- A row of pairs that agrees with l up to k. -/
def UptoP (T : TypeId) (B : Nat) (w wr : World) (p : Option Addr) (n c : Nat) (l : List (Int × Int)) (k : Nat) : Prop :=
  ∃ ys, wr.ownsRow B T 2 (.slice p n c) n ys ∧ (∀ i, i < k * 2 → ys[i]? = (flat l)[i]?) ∧ Kept (fun b => (Value.slice p n c).ownBlock = some b) w wr
theorem UptoP.some {T : TypeId} {B : Nat} {w wr : World} {p : Option Addr} {n c : Nat} {l : List (Int × Int)} {k : Nat} (h : UptoP T B w wr p n c l k) (hn : 0 < n) : ∃ g, p = .some ⟨g, 0, none⟩ := by
  obtain ⟨ys, h1, _⟩ := h
  rcases h1.2 with ⟨_, h0⟩ | ⟨g, cap, cur, hv, _⟩
  · omega
  · injection hv with hv
    exact ⟨g, hv⟩
theorem uptoP_step {T : TypeId} {B : Nat} {w wr : World} {g n c : Nat} {l : List (Int × Int)} {k : Nat} {x y : Int} (h : UptoP T B w wr (some ⟨g, 0, none⟩) n c l k) (hk : k < n) (hx : l[k]? = some (x, y)) :
    UptoP T B w ((wr.setCell ⟨g, k * 2, none⟩ (.int .i64 x)).setCell ⟨g, k * 2 + 1, none⟩ (.int .i64 y)) (some ⟨g, 0, none⟩) n c l (k + 1) := by
  obtain ⟨ys, h1, h2, h3⟩ := h
  have hlen : ys.length = n * 2 := h1.1
  refine ⟨_, ((h1.stored (k * 2) _).1.stored (k * 2 + 1) _).1, ?_, (h3.setCell (g := g) rfl _).setCell (g := g) rfl _⟩
  intro i hi
  have hf := flat_get l k x y hx
  by_cases he : i = k * 2 + 1
  · subst he
    rw [List.getElem?_set_self (by simp; omega), hf.2]
  · rw [List.getElem?_set_ne (by omega)]
    by_cases he2 : i = k * 2
    · subst he2
      rw [List.getElem?_set_self (by omega), hf.1]
    · rw [List.getElem?_set_ne (by omega)]
      exact h2 i (by omega)
theorem uptoP_end {T : TypeId} {B : Nat} {w wr : World} {p : Option Addr} {n c : Nat} {l : List (Int × Int)} (h : UptoP T B w wr p n c l n) (hl : l.length = n) :
    wr.ownsRow B T 2 (.slice p n c) n (flat l) ∧ Kept (fun b => (Value.slice p n c).ownBlock = some b) w wr := by
  obtain ⟨ys, h1, h2, h3⟩ := h
  have hlen : ys.length = n * 2 := h1.1
  have e : ys = flat l := by
    apply List.ext_getElem?
    intro i
    by_cases hi : i < n * 2
    · exact h2 i hi
    · rw [List.getElem?_eq_none (by omega), List.getElem?_eq_none (by rw [flat_len]; omega)]
  rw [← e]
  exact ⟨h1, h3⟩
theorem uptoP_facts {T : TypeId} {B : Nat} {w wr : World} {g n c : Nat} {l : List (Int × Int)} {k : Nat} (h : UptoP T B w wr (some ⟨g, 0, none⟩) n c l k) : ∀ j, j < n * 2 → (∃ v, wr.cell? ⟨g, j, none⟩ = some v) ∧ wr.frozen? ⟨g, j, none⟩ = false := by
  obtain ⟨ys, h1, _, _⟩ := h
  intro j hj
  have hlen : ys.length = n * 2 := h1.1
  refine ⟨⟨ys[j], ?_⟩, h1.frozenAt j⟩
  rw [h1.cellAt j (by omega), List.getElem?_eq_getElem (by omega)]
/-- The numbers that a marked row holds. -/
def marks (k : Int) (n : Nat) : List (Int × Int) := (List.range n).map fun (i : Nat) => (k + 2 * (i : Int), k + 2 * (i : Int) + 1)
theorem marks_len (k : Int) (n : Nat) : (marks k n).length = n := by unfold marks; simp
theorem marks_at {k : Int} {n i : Nat} (h : i < n) : (marks k n)[i]? = some (k + 2 * i, k + 2 * i + 1) := by
  unfold marks
  rw [List.getElem?_map, List.getElem?_range h]
  rfl
end Go.Proofs.Ytlpcgchekhoieaa.Keep

namespace Go.Proofs.Ytlpcgchekhoieaa.RecOpen
open Go.ChangeShapes Go.WideShapes Go.RowKit Go.Deep Pairs

theorem add_eq (b off i : Nat) : (⟨b, off, none⟩ : Addr).add i = ⟨b, off + i, none⟩ := by
  unfold Addr.add
  by_cases h : i = 0
  · subst h; simp
  · simp [h]
theorem add_block (x : Addr) (i : Nat) : (x.add i).block = x.block := by
  unfold Addr.add
  split <;> rfl
theorem cell_lt {w : World} {a : Addr} {v : Value} (h : w.cell? a = some v) : a.block < w.heap.size := by
  cases hb : w.heap[a.block]? with
  | none => simp [World.cell?, hb] at h
  | some o => exact (Array.getElem?_eq_some_iff.1 hb).1

section
variable {H : Type} {enc : TypeId × Value → H} {w : World} {base : Nat} {spare : Nat → Bool} {held : Bool}
end
end Go.Proofs.Ytlpcgchekhoieaa.RecOpen

namespace Go.Proofs.Ytlpcgchekhoieaa.LawKit
open Go.ChangeShapes Go.WideShapes Go.ChangeAt Go.RowKit
open Pairs Rec RecOpen
set_option linter.unusedVariables false
theorem own : ownKnob Try.prog.godebug = none := by kernel_rfl
theorem laidOut : laidOutB Try.prog = true := by kernel_rfl

end Go.Proofs.Ytlpcgchekhoieaa.LawKit

namespace Go.Proofs.Ytlpcgchekhoieaa.GivesI
open Go.RowKit Pairs Rec Keep
def ints (L : List Int) : List Value := L.map (Value.int .i64)
theorem ints_len (L : List Int) : (ints L).length = L.length := by unfold ints; simp
theorem ints_at {L : List Int} {i : Nat} {x : Int} (h : L[i]? = some x) : (ints L)[i]? = some (.int .i64 x) := by unfold ints; rw [List.getElem?_map, h]; rfl
def HoldsI (w : World) (p : Option Addr) (n : Nat) (L : List Int) : Prop :=
  L.length = n ∧ (n = 0 ∨ ∃ b off, p = some ⟨b, off, none⟩ ∧ b < w.heap.size ∧ ∀ (i : Nat) (x : Int), L[i]? = some x → w.cell? ⟨b, off + i, none⟩ = some (.int .i64 x))
theorem HoldsI.below {w w' : World} {p : Option Addr} {n : Nat} {L : List Int} (h : HoldsI w p n L) (hb : Below w.heap.size w w') : HoldsI w' p n L := by
  obtain ⟨h1, h2⟩ := h
  refine ⟨h1, ?_⟩
  rcases h2 with h2 | ⟨b, off, ha, hbw, hc⟩
  · exact .inl h2
  · exact .inr ⟨b, off, ha, Nat.lt_of_lt_of_le hbw hb.size, fun i x hi => (hb.cell (p := ⟨b, off + i, none⟩) hbw).trans (hc i x hi)⟩
theorem HoldsI.at {w : World} {p : Option Addr} {n : Nat} {L : List Int} (h : HoldsI w p n L) (k : Nat) (hk : k < n) : ∃ b off x, p = some ⟨b, off, none⟩ ∧ L[k]? = some x ∧ w.cell? ⟨b, off + k, none⟩ = some (.int .i64 x) := by
  obtain ⟨h1, h2⟩ := h
  rcases h2 with h2 | ⟨b, off, ha, hbw, hc⟩
  · omega
  · have hl : k < L.length := by omega
    exact ⟨b, off, L[k], ha, List.getElem?_eq_getElem hl, hc k _ (List.getElem?_eq_getElem hl)⟩
theorem holds_own {w : World} {B n c : Nat} {p : Option Addr} {L : List Int} (h : w.ownsRow B 3 1 (.slice p n c) n (ints L)) : HoldsI w p n L := by
  have hl : L.length = n := by have := h.1; rw [ints_len] at this; omega
  rcases h.2 with ⟨hv, hn⟩ | ⟨g, cap, cur, hv, hr⟩
  · exact ⟨hl, .inl hn⟩
  · injection hv with h1 h2 h3
    subst h1 h3
    refine ⟨hl, .inr ⟨g, 0, rfl, (h.lt g rfl).2, fun i x hi => ?_⟩⟩
    have hil : i < L.length := (List.getElem?_eq_some_iff.1 hi).1
    rw [Nat.zero_add, h.cellAt i (by omega)]
    exact ints_at hi
set_option maxRecDepth 100000 in
set_option maxHeartbeats 1000000 in
theorem eq_same (a1 a2 : Option Addr) (n c1 c2 : Nat) (L : List Int) (hz : n ≤ 1048576) (w : World) (h1 : HoldsI w a1 n L) (h2 : HoldsI w a2 n L) :
    Calls Try.prog 23 #[.slice a1 n c1, .slice a2 n c2] w fun e w' => e = .returned (.bool true) ∧ Below w.heap.size w w' := by
  have H1 := Lib.hid h1
  have H2 := Lib.hid h2
  clear h1 h2
  go_enter Try.func23, Try.ntmps23
  go_wp2
  go_loopw [5] (fun i wr => ∃ k : Nat, k ≤ n ∧ i = .int .i64 k ∧ Below w.heap.size w wr) (fun i _ => n - (intOf i).toNat)
  case atStart => exact ⟨0, Nat.zero_le _, rfl, Below.refl _ _⟩
  case round =>
    obtain ⟨k, hk, rfl, hb⟩ := hrel
    by_cases hlt : k < n
    · obtain ⟨b, off, x, rfl, hx, e1⟩ := (H1.out.below hb).at k hlt
      obtain ⟨b', off', x', rfl, hx', e1'⟩ := (H2.out.below hb).at k hlt
      obtain rfl : x' = x := by
        rw [hx] at hx'
        injection hx' with hx'
        exact hx'.symm
      clear hx hx'
      have hi : (k : Int) < (n : Int) := by omega
      go_wp2_with fail
      go_quiet (fail)
      go_wp2_with fail
      exact ⟨⟨k + 1, by omega, by go_num, hb.trans ((Joins.below_draws _ _ _).mono hb.size)⟩, by simp [intOf]; omega⟩
    · go_wp2
      go_ret
      exact ⟨rfl, hb⟩
/-- The numbers that a marked list holds. -/
def marksI (k : Int) (n : Nat) : List Int := (List.range n).map fun (i : Nat) => k + (i : Int)
theorem marksI_len (k : Int) (n : Nat) : (marksI k n).length = n := by unfold marksI; simp
theorem marksI_at {k : Int} {n i : Nat} (h : i < n) : (marksI k n)[i]? = some (k + (i : Int)) := by
  unfold marksI
  rw [List.getElem?_map, List.getElem?_range h]
  rfl
def UptoI (B : Nat) (w wr : World) (p : Option Addr) (n c : Nat) (L : List Int) (k : Nat) : Prop :=
  ∃ ys, wr.ownsRow B 3 1 (.slice p n c) n ys ∧ (∀ i, i < k → ys[i]? = (ints L)[i]?) ∧ Kept (fun b => (Value.slice p n c).ownBlock = some b) w wr
theorem UptoI.some {B : Nat} {w wr : World} {p : Option Addr} {n c : Nat} {L : List Int} {k : Nat} (h : UptoI B w wr p n c L k) (hn : 0 < n) : ∃ g, p = .some ⟨g, 0, none⟩ := by
  obtain ⟨ys, h1, _⟩ := h
  rcases h1.2 with ⟨_, h0⟩ | ⟨g, cap, cur, hv, _⟩
  · omega
  · injection hv with hv
    exact ⟨g, hv⟩
theorem uptoI_step {B : Nat} {w wr : World} {g n c : Nat} {L : List Int} {k : Nat} {x : Int} (h : UptoI B w wr (some ⟨g, 0, none⟩) n c L k) (hk : k < n) (hx : L[k]? = some x) :
    UptoI B w (wr.setCell ⟨g, k, none⟩ (.int .i64 x)) (some ⟨g, 0, none⟩) n c L (k + 1) := by
  obtain ⟨ys, h1, h2, h3⟩ := h
  have hlen : ys.length = n * 1 := h1.1
  refine ⟨_, (h1.stored k _).1, ?_, h3.setCell (g := g) rfl _⟩
  intro i hi
  by_cases he : i = k
  · subst he
    rw [List.getElem?_set_self (by omega), ints_at hx]
  · rw [List.getElem?_set_ne (by omega)]
    exact h2 i (by omega)
theorem uptoI_end {B : Nat} {w wr : World} {p : Option Addr} {n c : Nat} {L : List Int} (h : UptoI B w wr p n c L n) (hl : L.length = n) :
    wr.ownsRow B 3 1 (.slice p n c) n (ints L) ∧ Kept (fun b => (Value.slice p n c).ownBlock = some b) w wr := by
  obtain ⟨ys, h1, h2, h3⟩ := h
  have hlen : ys.length = n * 1 := h1.1
  have e : ys = ints L := by
    apply List.ext_getElem?
    intro i
    by_cases hi : i < n
    · exact h2 i hi
    · rw [List.getElem?_eq_none (by omega), List.getElem?_eq_none (by rw [ints_len]; omega)]
  rw [← e]
  exact ⟨h1, h3⟩
theorem uptoI_facts {B : Nat} {w wr : World} {g n c : Nat} {L : List Int} {k : Nat} (h : UptoI B w wr (some ⟨g, 0, none⟩) n c L k) : ∀ j, j < n → (∃ v, wr.cell? ⟨g, j, none⟩ = some v) ∧ wr.frozen? ⟨g, j, none⟩ = false := by
  obtain ⟨ys, h1, _, _⟩ := h
  intro j hj
  have hlen : ys.length = n * 1 := h1.1
  refine ⟨⟨ys[j], ?_⟩, h1.frozenAt j⟩
  rw [h1.cellAt j (by omega), List.getElem?_eq_getElem (by omega)]
set_option maxRecDepth 100000 in
set_option maxHeartbeats 1000000 in
theorem mark_any (B : Nat) (p : Option Addr) (n c : Nat) (k : Int) (ys : List Value) (hk0 : 0 ≤ k) (hk1 : k ≤ 10000000) (hz : n ≤ 1048576) (w : World) (h : w.ownsRow B 3 1 (.slice p n c) n ys) :
    Calls Try.prog 25 #[.slice p n c, .int .i64 k] w fun e w' => e = .returned (.int .i64 (k + n)) ∧ w'.ownsRow B 3 1 (.slice p n c) n (ints (marksI k n)) ∧ Kept (fun b => (Value.slice p n c).ownBlock = some b) w w' := by
  have hU : UptoI B w w p n c (marksI k n) 0 := ⟨ys, h, fun i hi => absurd hi (by omega), Kept.refl _ _⟩
  clear h
  go_enter Try.func25, Try.ntmps25
  go_wp2_with fail
  go_loopw [1, 5] (fun s1 s5 wr => ∃ j : Nat, j ≤ n ∧ s5 = .int .i64 j ∧ s1 = .int .i64 (k + j) ∧ UptoI B w wr p n c (marksI k n) j) (fun _ s5 _ => n - (intOf s5).toNat)
  case atStart => exact ⟨0, Nat.zero_le _, rfl, by simp, hU⟩
  case round =>
    obtain ⟨j, hj, rfl, rfl, hR⟩ := hrel
    clear hU
    by_cases hlt : j < n
    · obtain ⟨g, rfl⟩ := hR.some (by omega)
      have hi : (j : Int) < (n : Int) := by omega
      obtain ⟨⟨v0, hv0⟩, hf0⟩ := uptoI_facts hR j hlt
      have HR := Lib.hid (uptoI_step hR hlt (marksI_at hlt))
      clear hR
      go_wp2_with fail
      exact ⟨⟨j + 1, by omega, by go_num, by go_num, HR.out⟩, by simp [intOf]; omega⟩
    · obtain rfl : j = n := by omega
      have hE := uptoI_end hR (marksI_len k j)
      have HE := Lib.hid hE
      clear hE hR
      go_wp2_with fail
      go_ret
      exact ⟨rfl, HE.out⟩
set_option maxRecDepth 100000 in
set_option maxHeartbeats 1000000 in
theorem held_any (p : Option Addr) (n c : Nat) (k : Int) (hk0 : 0 ≤ k) (hk1 : k ≤ 10000000) (hz : n ≤ 1048576) (w : World) (h : HoldsI w p n (marksI k n)) :
    Calls Try.prog 26 #[.slice p n c, .int .i64 k] w fun e w' => e = .returned (.int .i64 (k + n)) ∧ w' = w := by
  have HH := Lib.hid h
  clear h
  go_enter Try.func26, Try.ntmps26
  go_wp2_with fail
  go_loop [1, 5] (fun s1 s5 => ∃ j : Nat, j ≤ n ∧ s5 = .int .i64 j ∧ s1 = .int .i64 (k + j)) (fun _ s5 => n - (intOf s5).toNat)
  case atStart => exact ⟨0, Nat.zero_le _, rfl, by simp⟩
  case round =>
    obtain ⟨j, hj, rfl, rfl⟩ := hrel
    by_cases hlt : j < n
    · obtain ⟨b, off, x, rfl, hx, e1⟩ := HH.out.at j hlt
      rw [marksI_at hlt] at hx
      injection hx with hx
      subst hx
      have hi : (j : Int) < (n : Int) := by omega
      go_wp2_with fail
      go_round
      case rel => exact ⟨j + 1, by omega, by go_num, by go_num⟩
      case measure => simp [intOf]; omega
    · obtain rfl : j = n := by omega
      go_wp2_with fail
      go_ret
      exact ⟨rfl, rfl⟩
end Go.Proofs.Ytlpcgchekhoieaa.GivesI

namespace Go.Proofs.Ytlpcgchekhoieaa.IntT
open Go.RowKit Pairs Rec GivesI
theorem infoI : (Try.prog.info? 3).map (fun i => (i.zero, i.size, i.bytes)) = some (some (.int .i64 0), 1, 8) := by kernel_rfl
/-- A list of ints under way. -/
def UpI (B : Nat) (w wr : World) (g n : Nat) (M : List Int) (k : Nat) : Prop :=
  ∃ ys, wr.ownsRow B 3 1 (.slice (some ⟨g, 0, none⟩) n n) n ys ∧ (∀ i, i < k → ys[i]? = (ints M)[i]?) ∧ Below B w wr
theorem UpI.bel {B : Nat} {w wr : World} {g n : Nat} {M : List Int} {k : Nat} (h : UpI B w wr g n M k) : Below B w wr := by
  obtain ⟨_, _, _, h3⟩ := h
  exact h3
theorem UpI.step {B : Nat} {w wr : World} {g n : Nat} {M : List Int} {k : Nat} {x : Int} (h : UpI B w wr g n M k) (hB : B ≤ g) (hk : k < n) (hx : M[k]? = some x) :
    UpI B w (wr.setCell ⟨g, k, none⟩ (.int .i64 x)) g n M (k + 1) := by
  obtain ⟨ys, h1, h2, h3⟩ := h
  have hlen : ys.length = n * 1 := h1.1
  refine ⟨_, (h1.stored k _).1, ?_, h3.setCell (p := ⟨g, k, none⟩) hB _⟩
  intro i hi
  by_cases he : i = k
  · subst he
    rw [List.getElem?_set_self (by omega), GivesI.ints_at hx]
  · rw [List.getElem?_set_ne (by omega)]
    exact h2 i (by omega)
theorem UpI.end {B : Nat} {w wr : World} {g n : Nat} {M : List Int} (h : UpI B w wr g n M n) (hl : M.length = n) :
    wr.ownsRow B 3 1 (.slice (some ⟨g, 0, none⟩) n n) n (ints M) ∧ Below B w wr := by
  obtain ⟨ys, h1, h2, h3⟩ := h
  have hlen : ys.length = n * 1 := h1.1
  have e : ys = ints M := by
    apply List.ext_getElem?
    intro i
    by_cases hi : i < n
    · exact h2 i hi
    · rw [List.getElem?_eq_none (by omega), List.getElem?_eq_none (by rw [ints_len]; omega)]
  rw [← e]
  exact ⟨h1, h3⟩
theorem UpI.facts {B : Nat} {w wr : World} {g n : Nat} {M : List Int} {k : Nat} (h : UpI B w wr g n M k) : ∀ j, j < n → (∃ v, wr.cell? ⟨g, j, none⟩ = some v) ∧ wr.frozen? ⟨g, j, none⟩ = false := by
  obtain ⟨ys, h1, _, _⟩ := h
  intro j hj
  have hlen : ys.length = n * 1 := h1.1
  refine ⟨⟨ys[j], ?_⟩, h1.frozenAt j⟩
  rw [h1.cellAt j (by omega), List.getElem?_eq_getElem (by omega)]
set_option maxRecDepth 100000 in
set_option maxHeartbeats 1000000 in
theorem toIntS_any (a : Option Addr) (n c : Nat) (M : List Int) (hz : n ≤ 1048576) (w : World) (h : HoldsI w a n M) :
    Calls Try.prog 47 #[.slice a n c] w fun e w' => ∃ g : Nat, e = .returned (.slice (some ⟨g, 0, none⟩) n n) ∧ w'.ownsRow w.heap.size 3 1 (.slice (some ⟨g, 0, none⟩) n n) n (ints M) ∧ Below w.heap.size w w' := by
  obtain ⟨i0, hi, hz0, hz1, hz2⟩ := info_parts infoI
  obtain ⟨B, hB⟩ : ∃ B, w.heap.size = B := ⟨_, rfl⟩
  have HB := Lib.hid hB
  have HH := Lib.hid h
  rw [hB]
  clear hB h
  go_enter Try.func47, Try.ntmps47
  go_wp2_with (at_make; refine wpList_make_full _ rfl _ _ 32 rfl B 3 i0 (.int .i64 0) 1 Try.underlying32 hi hz0 hz1 .i64 .i64 _ _ n rfl rfl (by omega) (by omega) (by rw [hz2]; omega) (by unfold maxLen; omega) (by rw [HB.out]; omega) ?_; intro w1 hown hgrow)
  have hU : UpI B w w1 B n M 0 := by
    rw [HB.out] at hown
    exact ⟨_, hown, fun i hi => absurd hi (by omega), (Below.refl _ _).grown hgrow (by rw [HB.out]; omega) (fun k hk => by cases hk)⟩
  clear hown hgrow
  rw [HB.out]
  go_loopw [4] (fun i wr => ∃ k : Nat, k ≤ n ∧ i = .int .i64 k ∧ UpI B w wr B n M k) (fun i _ => n - (intOf i).toNat)
  case atStart => exact ⟨0, Nat.zero_le _, rfl, hU⟩
  case round =>
    obtain ⟨k, hk, rfl, hR⟩ := hrel
    clear hU
    by_cases hlt : k < n
    · have hbel := hR.bel
      rw [← HB.out] at hbel
      obtain ⟨b, off, x, rfl, hx, e1⟩ := (HH.out.below hbel).at k hlt
      have hi : (k : Int) < (n : Int) := by omega
      obtain ⟨⟨v0, hv0⟩, hf0⟩ := hR.facts k hlt
      have HR2 := Lib.hid (hR.step (Nat.le_refl _) hlt hx)
      clear hx hbel hR
      go_wp2_with fail
      exact ⟨⟨k + 1, by omega, by go_num, HR2.out⟩, by simp [intOf]; omega⟩
    · obtain rfl : k = n := by omega
      have HE := Lib.hid (hR.end HH.out.1)
      clear hR
      go_wp2_with fail
      go_ret
      exact ⟨_, rfl, HE.out.1, HE.out.2⟩
end Go.Proofs.Ytlpcgchekhoieaa.IntT

namespace Go.Proofs.Ytlpcgchekhoieaa.Da
open Go.ChangeShapes Go.WideShapes Go.RowKit Go.Deep Pairs Rec Keep GivesI RecOpen
section
variable {H : Type} {enc : TypeId × Value → H} {w : World} {base : Nat} {spare : Nat → Bool} {held : Bool}
theorem open_intS {t e : TypeId} {fuel : Nat} {v : Value} {x : DataW H × List MemPlace} (ht : Try.prog.underlying t = some (.slice e)) (he : Try.prog.underlying e = some (.int .i64)) (ce : Try.prog.cellsOf e = 1)
    (h : DataW.trod enc Try.prog w base spare held fuel t [v] = some x) : ∃ (p : Option Addr) (j c : Nat) (M : List Int), v = .slice p j c ∧ j ≤ 9223372036854775807 ∧ HoldsI w p j M := by
  rcases open_ints ht he ce h with ⟨hcs, _⟩ | ⟨a, len, cap, zs, hcs, _, hl, hm, hz, _, hc, _⟩
  · obtain rfl : v = .slice none 0 0 := by simpa using hcs
    exact ⟨none, 0, 0, [], rfl, by omega, rfl, .inl rfl⟩
  · obtain rfl : v = .slice (some a) len cap := by simpa using hcs
    unfold maxLen at hm
    have hlm : len ≤ zs.length := by rw [hz]; split <;> omega
    refine ⟨some a, len, cap, zs.take len, rfl, by omega, by rw [List.length_take]; omega, ?_⟩
    by_cases h0 : len = 0
    · exact .inl h0
    · right
      obtain ⟨b, off, spot⟩ := a
      have c0 := hc 0 (by omega)
      have hspot : spot = none := by simpa [Addr.add] using World.cell?_spot c0
      subst hspot
      refine ⟨b, off, rfl, ?_, fun i x hi => ?_⟩
      · have := cell_lt c0
        rw [add_block] at this
        exact this
      · have hil : i < len := by have := (List.getElem?_eq_some_iff.1 hi).1; rw [List.length_take] at this; omega
        have e := hc i (by omega)
        rw [add_eq] at e
        rw [List.getElem?_take_of_lt hil] at hi
        rw [e, List.getD_eq_getElem?_getD, hi]
        rfl
end
end Go.Proofs.Ytlpcgchekhoieaa.Da
