/- Two rows of ints and the box of one of them under way: the order of contexts and what is left. -/
import Derived.Test.YtbdplgcdnpcnfaaExactOrderPhasesSaidPartbc
import Derived.Test.YtbdplgcdnpcnfaaExactOrderPhasesSaidPartaq
import Derived.Test.YtbdplgcdnpcnfaaExactOrderPhasesSaidPartad
namespace Go.Proofs.Ytbdplgcdnpcnfaa.CtxRd
open Go.RowKit Pairs Rec Chain Find2 GoodM Keep GivesI Lows Order Idx That
theorem own_same {w w' : World} {B : Nat} {e : TypeId} {s n : Nat} {v : Value} {xs : List Value} (h : w.ownsRow B e s v n xs) (hb : ∀ b, v.ownBlock = some b → w'.heap[b]? = w.heap[b]?) : w'.ownsRow B e s v n xs := by
  obtain ⟨hl, h0 | ⟨g, cap, cur, hv, hB, hg, hr⟩⟩ := h
  · exact ⟨hl, .inl h0⟩
  · subst hv
    exact ⟨hl, .inr ⟨g, cap, cur, rfl, hB, (hb g rfl).trans hg, hr⟩⟩
structure Rd (S : Nat) (W wr : World) (bl : Nat) (v vl : Value) (O L : List Int) : Prop where
  ord : wr.ownsRow S 3 1 v O.length (ints O)
  lf : wr.ownsRow S 3 1 vl L.length (ints L)
  box : wr.heap[bl]? = some (.cells #[vl] 43)
  ne1 : ∀ b, v.ownBlock = some b → vl.ownBlock ≠ some b
  ne2 : v.ownBlock ≠ some bl
  ne3 : vl.ownBlock ≠ some bl
  ge : S ≤ bl
  bel : Below S W wr
  sz : S ≤ wr.heap.size
theorem Rd.blt {S : Nat} {W wr : World} {bl : Nat} {v vl : Value} {O L : List Int} (h : Rd S W wr bl v vl O L) : bl < wr.heap.size := (Array.getElem?_eq_some_iff.1 h.box).1
theorem Rd.below {S : Nat} {W wr w' : World} {bl : Nat} {v vl : Value} {O L : List Int} (h : Rd S W wr bl v vl O L) (hb : Below wr.heap.size wr w') : Rd S W w' bl v vl O L :=
  ⟨ownsRow_below h.ord hb, ownsRow_below h.lf hb, (hb.block bl h.blt).trans h.box, h.ne1, h.ne2, h.ne3, h.ge, h.bel.trans (hb.mono h.sz), Nat.le_trans h.sz hb.size⟩
theorem Rd.cell {S : Nat} {W wr : World} {bl : Nat} {v vl : Value} {O L : List Int} (h : Rd S W wr bl v vl O L) : wr.cell? ⟨bl, 0, none⟩ = some vl := by
  simp only [World.cell?, h.box]
  rfl
theorem Rd.frozen {S : Nat} {W wr : World} {bl : Nat} {v vl : Value} {O L : List Int} (h : Rd S W wr bl v vl O L) : wr.frozen? ⟨bl, 0, none⟩ = false := by
  simp only [World.frozen?, h.box]
  rfl
theorem Rd.app {S : Nat} {W wr X w9 : World} {bl g9 cap9 H : Nat} {v vl : Value} {O L : List Int} {x : Int} (h : Rd S W wr bl v vl O L) (hX : Below wr.heap.size wr X)
    (hown' : w9.ownsRow S 3 1 (.slice (some ⟨g9, 0, none⟩) (O.length + 1) cap9) (O.length + 1) (ints O ++ [.int .i64 x])) (hgrow : X.grownBy w9 v.ownBlock) (hat : v.ownBlock = some g9 ∨ g9 = H) (hH : wr.heap.size ≤ H) :
    Rd S W w9 bl (.slice (some ⟨g9, 0, none⟩) (O.length + 1) cap9) vl (O ++ [x]) L := by
  have hs := hX.size
  have hs9 := hgrow.size
  have hbl := h.blt
  have h' := h.below hX
  have hlt := fun b hb => (h.lf.lt b hb).2
  refine ⟨?_, own_same h'.lf (fun b hb => hgrow.block b (by have := hlt b hb; omega) (fun e => h.ne1 b e.symm hb)), (hgrow.block bl (by omega) (fun e => h.ne2 e.symm)).trans h'.box, fun b hb hl => ?_, fun e => ?_, h.ne3, h.ge, ?_, by have := h.sz; omega⟩
  · rw [List.length_append, ints_append]
    exact hown'
  · have hb' : g9 = b := Option.some.inj hb
    rcases hat with e | e
    · exact h.ne1 b (by rw [e, hb']) hl
    · have := hlt b hl
      omega
  · have e' : g9 = bl := Option.some.inj e
    rcases hat with e2 | e2
    · exact h.ne2 (by rw [e2, e'])
    · omega
  · exact (h.bel.trans (hX.mono h.sz)).grown hgrow h'.sz (fun j hj => (h.ord.lt j hj).1)
theorem Rd.del {S : Nat} {W wr w' : World} {bl g n c n' c' : Nat} {v : Value} {O L L' : List Int} (h : Rd S W wr bl v (.slice (some ⟨g, 0, none⟩) n c) O L)
    (hown : w'.ownsRow S 3 1 (.slice (some ⟨g, 0, none⟩) n' c') L'.length (ints L')) (hk : Kept (fun b => b = g) wr w') :
    Rd S W (w'.setCell ⟨bl, 0, none⟩ (.slice (some ⟨g, 0, none⟩) n' c')) bl v (.slice (some ⟨g, 0, none⟩) n' c') O L' := by
  have hgb : g ≠ bl := fun e => h.ne3 (by rw [e]; rfl)
  have hbox : w'.heap[bl]? = some (.cells #[.slice (some ⟨g, 0, none⟩) n c] 43) := (hk.block bl h.blt (fun e => hgb e.symm)).trans h.box
  have hk2 : Kept (fun b => b = g ∨ b = bl) wr (w'.setCell ⟨bl, 0, none⟩ (.slice (some ⟨g, 0, none⟩) n' c')) := (hk.mono (fun _ h => .inl h)).setCell (g := bl) (.inr rfl) _
  refine ⟨own_same h.ord (fun b hb => hk2.block b (h.ord.lt b hb).2 ?_), own_same hown (fun b hb => ?_), ?_, ?_, h.ne2, ?_, h.ge, h.bel.trans (hk2.below (fun b hb => ?_) h.sz), Nat.le_trans h.sz hk2.size⟩
  · rintro (e | e)
    · exact h.ne1 b hb (by rw [e]; rfl)
    · exact h.ne2 (by rw [hb, e])
  · have e : g = b := Option.some.inj hb
    exact Go.Deep.blk_setCell_other _ _ _ _ (by show b ≠ bl; omega)
  · rw [heap_setCell_same w' bl 0 _ _ (.slice (some ⟨g, 0, none⟩) n' c') hbox]
    rfl
  · intro b hb e
    exact h.ne1 b hb e
  · intro e
    have e' : g = bl := Option.some.inj e
    exact hgb e'
  · rcases hb with e | e
    · rw [e]
      exact (h.lf.lt g rfl).1
    · rw [e]
      exact h.ge
end Go.Proofs.Ytbdplgcdnpcnfaa.CtxRd
/- What a function that makes a list of ints and a bool of a record alone is said to do. -/
namespace Go.Proofs.Ytbdplgcdnpcnfaa.GivesO
open Go.RowKit Pairs Rec Keep GivesI
def Gives (f : FuncId) (F : List (Int × Int) → List (Int × Int) → Option (List Int)) : Prop :=
  ∀ (a1 a2 : Option Addr) (n1 n2 : Nat) (l m : List (Int × Int)) (w : World), n1 ≤ 1048576 → n2 ≤ 1048576 → Holds w a1 n1 l → Holds w a2 n2 m →
    Calls Try.prog f #[.agg #[.slice a1 n1 n1, .slice a2 n2 n2]] w (Res (F l m).isSome ((F l m).getD []) w)
end Go.Proofs.Ytbdplgcdnpcnfaa.GivesO
