/- Worlds that agree but for some blocks, and records that a call has made. -/
import Derived.Test.YtfbgekhkbbhggaaRec
import Derived.Deep.Heap
import Derived.Laws.OwnMore
namespace Go.Proofs.Ytfbgekhkbbhggaa.Keep
open Go.RowKit Pairs Rec

/-- All blocks but those of S are as they were. -/
structure Kept (S : Nat → Prop) (w w' : World) : Prop where
  os : w'.os = w.os
  tape : w'.tape = w.tape
  output : w'.output = w.output
  size : w.heap.size ≤ w'.heap.size
  block : ∀ k, k < w.heap.size → ¬ S k → w'.heap[k]? = w.heap[k]?
theorem Kept.refl (S : Nat → Prop) (w : World) : Kept S w w := ⟨rfl, rfl, rfl, Nat.le_refl _, fun _ _ _ => rfl⟩
theorem Kept.trans {S : Nat → Prop} {w w' w'' : World} (h : Kept S w w') (h' : Kept S w' w'') : Kept S w w'' :=
  ⟨h'.os.trans h.os, h'.tape.trans h.tape, h'.output.trans h.output, Nat.le_trans h.size h'.size, fun k hk hs => (h'.block k (Nat.lt_of_lt_of_le hk h.size) hs).trans (h.block k hk hs)⟩
theorem Kept.of {S : Nat → Prop} {w w' : World} (h : Below w.heap.size w w') : Kept S w w' := ⟨h.os, h.tape, h.output, h.size, fun k hk _ => h.block k hk⟩
theorem Kept.mono {S T : Nat → Prop} {w w' : World} (h : Kept S w w') (hs : ∀ k, S k → T k) : Kept T w w' := ⟨h.os, h.tape, h.output, h.size, fun k hk ht => h.block k hk fun s => ht (hs k s)⟩
theorem Kept.below {S : Nat → Prop} {w w' : World} {B : Nat} (h : Kept S w w') (hS : ∀ k, S k → B ≤ k) (hB : B ≤ w.heap.size) : Below B w w' :=
  ⟨h.os, h.tape, h.output, h.size, fun k hk => h.block k (by omega) fun s => by have := hS k s; omega⟩
theorem Kept.cell {S : Nat → Prop} {w w' : World} (h : Kept S w w') {p : Addr} {v : Value} (hp : w.cell? p = some v) (hs : ¬ S p.block) : w'.cell? p = some v :=
  (World.cell?_of_block (h.block p.block (World.block_lt_of_cell? w p hp) hs)).trans hp
theorem Kept.holds {S : Nat → Prop} {w w' : World} (k : Kept S w w') {a : Option Addr} {n : Nat} {l : List (Int × Int)} (h : Holds w a n l) (hs : ∀ b off, a = some ⟨b, off, none⟩ → ¬ S b) : Holds w' a n l := by
  obtain ⟨h1, h2⟩ := h
  refine ⟨h1, ?_⟩
  rcases h2 with h2 | ⟨b, off, ha, hbw, hc⟩
  · exact .inl h2
  · exact .inr ⟨b, off, ha, Nat.lt_of_lt_of_le hbw k.size, fun i x hi => ⟨k.cell (hc i x hi).1 (hs b off ha), k.cell (hc i x hi).2 (hs b off ha)⟩⟩
theorem Kept.owns {S : Nat → Prop} {w w' : World} (k : Kept S w w') {B : Nat} {e : TypeId} {s : Nat} {v : Value} {n : Nat} {xs : List Value} (h : w.ownsRow B e s v n xs) (hs : ∀ b, v.ownBlock = some b → ¬ S b) : w'.ownsRow B e s v n xs := by
  obtain ⟨h1, h2⟩ := h
  refine ⟨h1, ?_⟩
  rcases h2 with h2 | ⟨g, cap, cur, hv, hg, hh, r⟩
  · exact .inl h2
  · exact .inr ⟨g, cap, cur, hv, hg, (k.block g (Array.getElem?_eq_some_iff.1 hh).1 (hs g (by rw [hv]; rfl))).trans hh, r⟩
theorem ownsRow_base {w : World} {B B' : Nat} {e : TypeId} {s : Nat} {v : Value} {n : Nat} {xs : List Value} (h : w.ownsRow B e s v n xs) (hB : B' ≤ B) : w.ownsRow B' e s v n xs := by
  obtain ⟨h1, h2⟩ := h
  refine ⟨h1, ?_⟩
  rcases h2 with h2 | ⟨g, cap, cur, hv, hg, r⟩
  · exact .inl h2
  · exact .inr ⟨g, cap, cur, hv, by omega, r⟩
/-- A row of pairs that a call has made, perhaps none. -/
theorem holds_own {T : TypeId} {w : World} {B n c : Nat} {p : Option Addr} {l : List (Int × Int)} (h : w.ownsRow B T 2 (.slice p n c) n (flat l)) : Holds w p n l := by
  rcases h.2 with ⟨hv, hn⟩ | ⟨g, cap, cur, hv, hr⟩
  · have hl := h.1
    rw [flat_len] at hl
    exact ⟨by omega, .inl hn⟩
  · injection hv with h1 h2 h3
    subst h1 h3
    exact holds_of h
/-- A record that a call has made: rows of its own, not the same one. -/
structure Got (w : World) (B : Nat) (p1 : Option Addr) (k1 d1 : Nat) (p2 : Option Addr) (k2 d2 : Nat) (l m : List (Int × Int)) : Prop where
  ctx : w.ownsRow B 123 2 (.slice p1 k1 d1) k1 (flat l)
  rel : w.ownsRow B 125 2 (.slice p2 k2 d2) k2 (flat m)
  ne : ∀ g, (Value.slice p1 k1 d1).ownBlock = some g → (Value.slice p2 k2 d2).ownBlock ≠ some g
theorem Got.holds {w : World} {B : Nat} {p1 p2 : Option Addr} {k1 d1 k2 d2 : Nat} {l m : List (Int × Int)} (h : Got w B p1 k1 d1 p2 k2 d2 l m) : Holds w p1 k1 l ∧ Holds w p2 k2 m := ⟨holds_own h.ctx, holds_own h.rel⟩
theorem Got.nil (w : World) (B : Nat) : Got w B none 0 0 none 0 0 [] [] := ⟨World.ownsRow_nil _ _ _ _, World.ownsRow_nil _ _ _ _, fun g h => by cases h⟩
theorem Got.below {w w' : World} {B : Nat} {p1 p2 : Option Addr} {k1 d1 k2 d2 : Nat} {l m : List (Int × Int)} (h : Got w B p1 k1 d1 p2 k2 d2 l m) (hb : Below w.heap.size w w') : Got w' B p1 k1 d1 p2 k2 d2 l m :=
  ⟨ownsRow_below h.ctx hb, ownsRow_below h.rel hb, h.ne⟩
theorem Got.base {w : World} {B B' : Nat} {p1 p2 : Option Addr} {k1 d1 k2 d2 : Nat} {l m : List (Int × Int)} (h : Got w B p1 k1 d1 p2 k2 d2 l m) (hB : B' ≤ B) : Got w B' p1 k1 d1 p2 k2 d2 l m :=
  ⟨ownsRow_base h.ctx hB, ownsRow_base h.rel hB, h.ne⟩
theorem Got.kept {S : Nat → Prop} {w w' : World} {B : Nat} {p1 p2 : Option Addr} {k1 d1 k2 d2 : Nat} {l m : List (Int × Int)} (h : Got w B p1 k1 d1 p2 k2 d2 l m) (k : Kept S w w') (h1 : ∀ b, (Value.slice p1 k1 d1).ownBlock = some b → ¬ S b) (h2 : ∀ b, (Value.slice p2 k2 d2).ownBlock = some b → ¬ S b) : Got w' B p1 k1 d1 p2 k2 d2 l m :=
  ⟨k.owns h.ctx h1, k.owns h.rel h2, h.ne⟩
theorem Kept.setCell {S : Nat → Prop} {w w' : World} (h : Kept S w w') {g j : Nat} (hg : S g) (u : Value) : Kept S w (w'.setCell ⟨g, j, none⟩ u) :=
  h.trans ⟨rfl, rfl, rfl, by rw [Go.Deep.nblk_setCell]; exact Nat.le_refl _, fun k _ hs => Go.Deep.blk_setCell_other w' _ u k (fun e => hs (e ▸ hg))⟩
theorem got_of_own {w : World} {B g1 n1 c1 g2 n2 c2 : Nat} {l m : List (Int × Int)} (h : Own w B g1 n1 c1 g2 n2 c2 l m) : Got w B (some ⟨g1, 0, none⟩) n1 c1 (some ⟨g2, 0, none⟩) n2 c2 l m :=
  ⟨h.ctx, h.rel, fun g e => by
    have e1 : g1 = g := by simpa [Value.ownBlock] using e
    subst e1
    simp [Value.ownBlock]
    exact fun e2 => h.ne e2.symm⟩
/-- A row of pairs that agrees with l up to k. -/
def UptoP (T : TypeId) (B : Nat) (w wr : World) (p : Option Addr) (n c : Nat) (l : List (Int × Int)) (k : Nat) : Prop :=
  ∃ ys, wr.ownsRow B T 2 (.slice p n c) n ys ∧ (∀ i, i < k * 2 → ys[i]? = (flat l)[i]?) ∧ Kept (fun b => (Value.slice p n c).ownBlock = some b) w wr
theorem UptoP.some {T : TypeId} {B : Nat} {w wr : World} {p : Option Addr} {n c : Nat} {l : List (Int × Int)} {k : Nat} (h : UptoP T B w wr p n c l k) (hn : 0 < n) : ∃ g, p = .some ⟨g, 0, none⟩ := by
  obtain ⟨ys, h1, _⟩ := h
  rcases h1.2 with ⟨_, h0⟩ | ⟨g, cap, cur, hv, _⟩
  · omega
  · injection hv with hv
    exact ⟨g, hv⟩
theorem uptoP_step {T : TypeId} {B : Nat} {w wr : World} {g n c : Nat} {l : List (Int × Int)} {k : Nat} {x y : Int} (h : UptoP T B w wr (some ⟨g, 0, none⟩) n c l k) (hk : k < n) (hx : l[k]? = some (x, y)) :
    UptoP T B w ((wr.setCell ⟨g, k * 2, none⟩ (.int .i64 x)).setCell ⟨g, k * 2 + 1, none⟩ (.int .i64 y)) (some ⟨g, 0, none⟩) n c l (k + 1) := by
  obtain ⟨ys, h1, h2, h3⟩ := h
  have hlen : ys.length = n * 2 := h1.1
  refine ⟨_, ((h1.stored (k * 2) _).1.stored (k * 2 + 1) _).1, ?_, (h3.setCell (g := g) rfl _).setCell (g := g) rfl _⟩
  intro i hi
  have hf := flat_get l k x y hx
  by_cases he : i = k * 2 + 1
  · subst he
    rw [List.getElem?_set_self (by simp; omega), hf.2]
  · rw [List.getElem?_set_ne (by omega)]
    by_cases he2 : i = k * 2
    · subst he2
      rw [List.getElem?_set_self (by omega), hf.1]
    · rw [List.getElem?_set_ne (by omega)]
      exact h2 i (by omega)
theorem uptoP_end {T : TypeId} {B : Nat} {w wr : World} {p : Option Addr} {n c : Nat} {l : List (Int × Int)} (h : UptoP T B w wr p n c l n) (hl : l.length = n) :
    wr.ownsRow B T 2 (.slice p n c) n (flat l) ∧ Kept (fun b => (Value.slice p n c).ownBlock = some b) w wr := by
  obtain ⟨ys, h1, h2, h3⟩ := h
  have hlen : ys.length = n * 2 := h1.1
  have e : ys = flat l := by
    apply List.ext_getElem?
    intro i
    by_cases hi : i < n * 2
    · exact h2 i hi
    · rw [List.getElem?_eq_none (by omega), List.getElem?_eq_none (by rw [flat_len]; omega)]
  rw [← e]
  exact ⟨h1, h3⟩
theorem uptoP_facts {T : TypeId} {B : Nat} {w wr : World} {g n c : Nat} {l : List (Int × Int)} {k : Nat} (h : UptoP T B w wr (some ⟨g, 0, none⟩) n c l k) : ∀ j, j < n * 2 → (∃ v, wr.cell? ⟨g, j, none⟩ = some v) ∧ wr.frozen? ⟨g, j, none⟩ = false := by
  obtain ⟨ys, h1, _, _⟩ := h
  intro j hj
  have hlen : ys.length = n * 2 := h1.1
  refine ⟨⟨ys[j], ?_⟩, h1.frozenAt j⟩
  rw [h1.cellAt j (by omega), List.getElem?_eq_getElem (by omega)]
/-- The numbers that a marked row holds. -/
def marks (k : Int) (n : Nat) : List (Int × Int) := (List.range n).map fun (i : Nat) => (k + 2 * (i : Int), k + 2 * (i : Int) + 1)
theorem marks_len (k : Int) (n : Nat) : (marks k n).length = n := by unfold marks; simp
theorem marks_at {k : Int} {n i : Nat} (h : i < n) : (marks k n)[i]? = some (k + 2 * i, k + 2 * i + 1) := by
  unfold marks
  rw [List.getElem?_map, List.getElem?_range h]
  rfl
end Go.Proofs.Ytfbgekhkbbhggaa.Keep
