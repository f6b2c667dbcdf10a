/- Rows of rows under way in a box, beside a map of depths in another one. -/
import Derived.Test.YtlgfaabobpnflaaDepI
import Derived.Test.YtlgfaabobpnflaaSS
namespace Go.Proofs.Ytlgfaabobpnflaa.RowsW
open Go.RowKit Go.Maps Pairs Rec Keep GivesI NumMap DepI SS
theorem far_set {w : World} {g o : Nat} {u : Value} {B e s : Nat} {v : Value} {n : Nat} {xs : List Value} (h : w.ownsRow B e s v n xs) (hne : v.ownBlock ≠ some g) : (w.setCell ⟨g, o, none⟩ u).ownsRow B e s v n xs :=
  (Kept.setCell (S := fun b => b = g) (Kept.refl _ w) (g := g) rfl u).owns h (fun _ hb hs => hne (hs ▸ hb))
theorem kept_row {X w1 : World} {B e s : Nat} {v : Value} {n : Nat} {xs : List Value} {row : Option Nat} (h : X.ownsRow B e s v n xs) (hg : X.grownBy w1 row) (hne : ∀ b, v.ownBlock = some b → row ≠ some b) : w1.ownsRow B e s v n xs := by
  refine World.ownsRow.kept (w := X) h hg ?_
  cases hv : v.ownBlock with
  | none => exact .inl rfl
  | some b => exact .inr (fun e => hne b hv e.symm)
structure RW (W wr : World) (B bx bd g N : Nat) (f : Int → Int) (p : Option Addr) (d : Nat) (R : List (List Int)) (vs : List Value) : Prop where
  box : wr.heap[bx]? = some (.cells #[.slice p R.length d] 49)
  own : OwnSS wr B p R.length d R vs
  bo : (Value.slice p R.length d).ownBlock ≠ some bx
  bi : ¬ Inner vs bx
  dn : (Value.slice p R.length d).ownBlock ≠ some bd
  db : bd ≠ bx
  dc : wr.cell? ⟨bd, 0, none⟩ = some (.map (some g))
  nm : NumAt wr g N f
  gn : (Value.slice p R.length d).ownBlock ≠ some g
  gb : g ≠ bx
  bel : Below B W wr
  le : B ≤ bx
theorem RW.cells {W wr : World} {B bx bd g N : Nat} {f : Int → Int} {p : Option Addr} {d : Nat} {R : List (List Int)} {vs : List Value} (h : RW W wr B bx bd g N f p d R vs) : wr.cell? ⟨bx, 0, none⟩ = some (.slice p R.length d) ∧ wr.frozen? ⟨bx, 0, none⟩ = false ∧ bx < wr.heap.size := by
  have hb := h.box
  exact ⟨by simp [World.cell?, hb], by simp only [World.frozen?, hb]; rfl, (Array.getElem?_eq_some_iff.1 hb).1⟩
theorem RW.Ble {W wr : World} {B bx bd g N : Nat} {f : Int → Int} {p : Option Addr} {d : Nat} {R : List (List Int)} {vs : List Value} (h : RW W wr B bx bd g N f p d R vs) : B ≤ wr.heap.size := by have := h.cells.2.2; have := h.le; omega
theorem RW.below {W wr w' : World} {B bx bd g N : Nat} {f : Int → Int} {p : Option Addr} {d : Nat} {R : List (List Int)} {vs : List Value} (h : RW W wr B bx bd g N f p d R vs) (hb : Below wr.heap.size wr w') : RW W w' B bx bd g N f p d R vs :=
  ⟨(hb.block bx h.cells.2.2).trans h.box, h.own.below hb, h.bo, h.bi, h.dn, h.db, (hb.cell (World.block_lt_of_cell? wr _ h.dc)).trans h.dc, h.nm.below hb, h.gn, h.gb, h.bel.trans (hb.mono h.Ble), h.le⟩
theorem RW.after {W wr X w1 : World} {B bx bd g N : Nat} {f : Int → Int} {p : Option Addr} {d : Nat} {R : List (List Int)} {vs : List Value} (h : RW W wr B bx bd g N f p d R vs) (hX : Below wr.heap.size wr X) (hgrow : X.grownBy w1 (Value.slice p R.length d).ownBlock) :
    w1.heap[bx]? = some (.cells #[.slice p R.length d] 49) :=
  (hgrow.block bx (Nat.lt_of_lt_of_le h.cells.2.2 hX.size) (Ne.symm h.bo)).trans ((hX.block bx h.cells.2.2).trans h.box)
/-- A row more. -/
theorem RW.app {W wr X w1 : World} {B bx bd g N : Nat} {f : Int → Int} {p : Option Addr} {d : Nat} {R : List (List Int)} {vs : List Value} (h : RW W wr B bx bd g N f p d R vs) (hX : Below wr.heap.size wr X) {pr : Option Addr} {dr : Nat} {r : List Int}
    (hr : X.ownsRow wr.heap.size 3 1 (.slice pr r.length dr) r.length (ints r)) {g9 cap : Nat} (hown : w1.ownsRow B 27 1 (.slice (some ⟨g9, 0, none⟩) (R.length + 1) cap) (R.length + 1) (vs ++ [.slice pr r.length dr]))
    (hgrow : X.grownBy w1 (Value.slice p R.length d).ownBlock) (hat : (Value.slice p R.length d).ownBlock = some g9 ∨ X.heap.size ≤ g9) :
    RW W (w1.setCell ⟨bx, 0, none⟩ (.slice (some ⟨g9, 0, none⟩) (R.length + 1) cap)) B bx bd g N f (some ⟨g9, 0, none⟩) cap (R ++ [r]) (vs ++ [.slice pr r.length dr]) := by
  have hbx := h.cells.2.2
  have hXs := hX.size
  have hb1 := h.after hX hgrow
  have hg9 : ∀ b, (Value.slice (some ⟨g9, 0, none⟩) (R.length + 1) cap).ownBlock = some b → b = g9 := fun b hb => by simpa [Value.ownBlock] using hb.symm
  have hinl : ∀ b, Inner vs b → b < wr.heap.size := fun b hb => (h.own.inner hb).2
  have hrb : ∀ b, (Value.slice pr r.length dr).ownBlock = some b → wr.heap.size ≤ b ∧ b < X.heap.size := fun b hb => hr.lt b hb
  have hout : ∀ b, (Value.slice p R.length d).ownBlock = some b → b < wr.heap.size := fun b hb => (h.own.out.lt b hb).2
  have hnx : g9 ≠ bx := by
    rcases hat with hat | hat
    · intro e
      exact h.bo (e ▸ hat)
    · omega
  have hnd : g9 ≠ bd := by
    have hbd := World.block_lt_of_cell? wr _ h.dc
    rcases hat with hat | hat
    · intro e
      exact h.dn (e ▸ hat)
    · have : bd < wr.heap.size := hbd
      omega
  have hng : g9 ≠ g := by
    have hgl := h.nm.lt
    rcases hat with hat | hat
    · intro e
      exact h.gn (e ▸ hat)
    · omega
  have hlen : (R ++ [r]).length = R.length + 1 := by simp
  have hvl := h.own.vlen
  have get : ∀ (i : Nat) (v : Value), (vs ++ [Value.slice pr r.length dr])[i]? = some v → (i < R.length ∧ vs[i]? = some v) ∨ (i = R.length ∧ v = .slice pr r.length dr) := fun i v hv => by
    rcases Nat.lt_or_ge i R.length with hi | hi
    · rw [List.getElem?_append_left (by omega)] at hv
      exact .inl ⟨hi, hv⟩
    · rw [List.getElem?_append_right (by omega), hvl] at hv
      have hi2 : i < R.length + 1 := by
        rcases Nat.lt_or_ge (i - R.length) 1 with h1 | h1
        · omega
        · rw [List.getElem?_eq_none (by simpa using h1)] at hv
          cases hv
      have e : i = R.length := by omega
      subst e
      rw [Nat.sub_self] at hv
      injection hv with hv
      exact .inr ⟨rfl, hv.symm⟩
  refine ⟨?_, ⟨?_, ?_, fun i s hs => ?_, fun i v b hv hb => ?_, fun i j u v b hu hv hbu hbv => ?_⟩, ?_, ?_, ?_, h.db, ?_, ?_, ?_, h.gb, ?_, h.le⟩
  · rw [hlen]
    have := heap_setCell_same w1 bx 0 _ _ (.slice (some ⟨g9, 0, none⟩) (R.length + 1) cap) hb1
    simpa using this
  · rw [hlen]
    exact far_set hown (fun e => hnx (hg9 _ e).symm)
  · rfl
  · rcases Nat.lt_or_ge i R.length with hi | hi
    · rw [List.getElem?_append_left hi] at hs
      obtain ⟨pi, di, h1, h2⟩ := h.own.row i s hs
      refine ⟨pi, di, by rw [List.getElem?_append_left (by omega)]; exact h1, far_set (kept_row (ownsRow_below h2 hX) hgrow (fun b hb => h.own.far i _ b h1 hb)) (fun e => h.bi ⟨i, _, h1, e⟩)⟩
    · have hi2 : i = R.length := by
        have := (List.getElem?_eq_some_iff.1 hs).1
        rw [hlen] at this
        omega
      subst hi2
      rw [List.getElem?_append_right (Nat.le_refl _), Nat.sub_self] at hs
      injection hs with hs
      subst hs
      refine ⟨pr, dr, by rw [List.getElem?_append_right (by omega), hvl, Nat.sub_self]; rfl, far_set (kept_row (ownsRow_base hr h.Ble) hgrow (fun b hb e => by have h1 := (hrb b hb).1; have h2 := hout b e; omega)) (fun e => by have := (hrb _ e).1; omega)⟩
  · intro e
    have e2 := hg9 b (by rw [← hlen]; exact e)
    subst e2
    rcases get i v hv with ⟨_, hv⟩ | ⟨_, hv⟩
    · rcases hat with hat | hat
      · exact h.own.far i v _ hv hb hat
      · have := hinl _ ⟨i, v, hv, hb⟩
        omega
    · subst hv
      have h1 := hrb _ hb
      rcases hat with hat | hat
      · have := hout _ hat
        omega
      · omega
  · rcases get i u hu with ⟨h1, hu⟩ | ⟨h1, hu⟩ <;> rcases get j v hv with ⟨h2, hv⟩ | ⟨h2, hv⟩
    · exact h.own.apart i j u v b hu hv hbu hbv
    · subst hv
      have e1 := hinl b ⟨i, u, hu, hbu⟩
      have e2 := (hrb b hbv).1
      omega
    · subst hu
      have e1 := hinl b ⟨j, v, hv, hbv⟩
      have e2 := (hrb b hbu).1
      omega
    · omega
  · intro e
    exact hnx (hg9 _ (by rw [← hlen]; exact e)).symm
  · rintro ⟨i, v, hv, hb⟩
    rcases get i v hv with ⟨_, hv⟩ | ⟨_, hv⟩
    · exact h.bi ⟨i, v, hv, hb⟩
    · subst hv
      have := (hrb _ hb).1
      omega
  · intro e
    exact hnd (hg9 _ (by rw [← hlen]; exact e)).symm
  · rw [World.cell?_setCell_other _ _ _ _ (by intro e; injection e with e; exact h.db e.symm)]
    have hbd : bd < wr.heap.size := World.block_lt_of_cell? wr _ h.dc
    have hk : w1.heap[bd]? = wr.heap[bd]? := (hgrow.block bd (Nat.lt_of_lt_of_le hbd hXs) (fun e => h.dn e.symm)).trans (hX.block bd hbd)
    have hc := h.dc
    simp only [World.cell?] at hc ⊢
    rw [hk]
    exact hc
  · have h1 := (h.nm.below hX).kept hgrow (fun e => h.gn e.symm)
    refine h1.kept (w' := w1.setCell ⟨bx, 0, none⟩ _) (row := some bx) ?_ (fun e => h.gb (by injection e))
    have hk := Kept.setCell (S := fun b => b = bx) (Kept.refl _ w1) (g := bx) (j := 0) rfl (Value.slice (some ⟨g9, 0, none⟩) (R.length + 1) cap)
    exact ⟨hk.os, hk.tape, hk.output, hk.size, fun k hk1 hne => hk.block k hk1 (fun e => hne (by rw [e]))⟩
  · intro e
    exact hng (hg9 _ (by rw [← hlen]; exact e)).symm
  · refine Below.setCell (p := ⟨bx, 0, none⟩) ?_ h.le _
    exact (h.bel.trans (hX.mono h.Ble)).grown hgrow (by have := h.Ble; omega) (fun k hk => (h.own.out.lt k hk).1)
end Go.Proofs.Ytlgfaabobpnflaa.RowsW
