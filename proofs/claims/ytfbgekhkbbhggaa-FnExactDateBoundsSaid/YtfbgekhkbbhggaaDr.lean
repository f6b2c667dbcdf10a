/- Dated records in the world: how one comes in as an argument; the laws' sizes and copies of them, and that copies are equal. -/
import Derived.Test.YtfbgekhkbbhggaaZhT
import Derived.Test.YtfbgekhkbbhggaaZhL
namespace Go.Proofs.Ytfbgekhkbbhggaa.Dr
open Go.ChangeShapes Go.WideShapes Go.RowKit Go.Deep Pairs Rec RecEq Keep GivesI RecOpen Zh
set_option linter.unusedVariables false
section
variable {H : Type} {enc : TypeId × Value → H} {w : World} {base : Nat} {spare : Nat → Bool} {held : Bool}
set_option maxRecDepth 100000 in
theorem open_dr {r : Reach} {b0 : Nat} {t : TypeId} {f0 f1 g0 g1 : Field} {v : Value} {d : DataW H} {p : List MemPlace} (hs : Try.prog.underlying t = some (.struct #[f0, f1])) (hC : Try.prog.cellsOf t = 3)
    (hr : Try.prog.underlying f0.type = some (.struct #[g0, g1])) (o0 : f0.offset = 0) (o1 : f1.offset = 2) (c0 : Try.prog.cellsOf f0.type = 2) (c1 : Try.prog.cellsOf f1.type = 1)
    (p0 : g0.offset = 0) (p1 : g1.offset = 1) (d0 : Try.prog.cellsOf g0.type = 1) (d1 : Try.prog.cellsOf g1.type = 1)
    (hv : Value.okWide Try.prog w r b0 t v) (h : DataW.Trod enc Try.prog w base spare held t v d p) :
    ∃ (v0 v1 v2 : Value) (y0 y1 y2 : DataW H × List MemPlace) (n0 n1 n2 : Nat), v = .agg #[v0, v1, v2] ∧
      DataW.trod enc Try.prog w base spare held n0 g0.type [v0] = some y0 ∧ DataW.trod enc Try.prog w base spare held n1 g1.type [v1] = some y1 ∧ DataW.trod enc Try.prog w base spare held n2 f1.type [v2] = some y2 := by
  obtain ⟨cs, rfl, hsz⟩ := okWide_struct hs hv
  obtain ⟨a0, a1, a2, rfl⟩ := Joins.array3 (hsz.trans hC)
  obtain ⟨fuel, hf⟩ := h
  obtain ⟨y0, y1, n, hx, _, h0, h1⟩ := trod_struct2 hs hf
  rw [o0, c0] at h0
  rw [o1, c1] at h1
  obtain ⟨z0, z1, n', hx', _, k0, k1⟩ := trod_struct2 hr h0
  rw [p0, d0] at k0
  rw [p1, d1] at k1
  exact ⟨a0, a1, a2, z0, z1, y1, n', n', n, rfl, by simpa [Value.cells] using k0, by simpa [Value.cells] using k1, by simpa [Value.cells] using h1⟩
end
theorem cells3 {w : World} {b : Nat} {u v x : Value} {t : TypeId} (h : w.heap[b]? = some (.cells #[u, v, x] t)) :
    (w.cell? ⟨b, 0, none⟩ = some u ∧ w.cell? ⟨b, 1, none⟩ = some v ∧ w.cell? ⟨b, 2, none⟩ = some x) ∧ w.frozen? ⟨b, 0, none⟩ = false ∧ w.frozen? ⟨b, 1, none⟩ = false ∧ w.frozen? ⟨b, 2, none⟩ = false := by
  refine ⟨⟨?_, ?_, ?_⟩, ?_, ?_, ?_⟩
  · unfold World.cell?; rw [h]; rfl
  · unfold World.cell?; rw [h]; rfl
  · unfold World.cell?; rw [h]; rfl
  · unfold World.frozen?; rw [h]; rfl
  · unfold World.frozen?; rw [h]; rfl
  · unfold World.frozen?; rw [h]; rfl
theorem new_at (w : World) (o : Obj) : (w.alloc o).heap[w.heap.size]? = some o := by
  show (w.heap.push _)[w.heap.size]? = _
  rw [Array.getElem?_push, if_pos rfl]
/-- One box of three cells. -/
theorem box3 (w : World) (u v x : Value) (t : TypeId) : (w.alloc (.cells #[u, v, x] t)).cell? ⟨w.heap.size, 0, none⟩ = some u ∧ (w.alloc (.cells #[u, v, x] t)).cell? ⟨w.heap.size, 1, none⟩ = some v ∧ (w.alloc (.cells #[u, v, x] t)).cell? ⟨w.heap.size, 2, none⟩ = some x :=
  (cells3 (new_at w _)).1
/-- Two boxes of three cells. -/
theorem boxes32 (w : World) (u1 v1 x1 u2 v2 x2 : Value) (t1 t2 : TypeId) :
    ((w.alloc (.cells #[u1, v1, x1] t1)).alloc (.cells #[u2, v2, x2] t2)).heap.size = w.heap.size + 2 ∧
    ((w.alloc (.cells #[u1, v1, x1] t1)).alloc (.cells #[u2, v2, x2] t2)).heap[w.heap.size]? = some (.cells #[u1, v1, x1] t1) ∧
    ((w.alloc (.cells #[u1, v1, x1] t1)).alloc (.cells #[u2, v2, x2] t2)).heap[w.heap.size + 1]? = some (.cells #[u2, v2, x2] t2) := by
  have e : ∀ (w : World) (o : Obj), (w.alloc o).heap = w.heap.push o := fun _ _ => rfl
  refine ⟨by rw [e, e]; simp, ?_, ?_⟩
  · rw [e, e, Array.getElem?_push, if_neg (by simp), Array.getElem?_push, if_pos rfl]
  · rw [e, e, Array.getElem?_push, if_pos (by simp)]
theorem boxes33 (w : World) (u1 v1 x1 u2 v2 x2 u3 v3 x3 : Value) (t1 t2 t3 : TypeId) :
    (((w.alloc (.cells #[u1, v1, x1] t1)).alloc (.cells #[u2, v2, x2] t2)).alloc (.cells #[u3, v3, x3] t3)).heap.size = w.heap.size + 3 ∧
    (((w.alloc (.cells #[u1, v1, x1] t1)).alloc (.cells #[u2, v2, x2] t2)).alloc (.cells #[u3, v3, x3] t3)).heap[w.heap.size]? = some (.cells #[u1, v1, x1] t1) ∧
    (((w.alloc (.cells #[u1, v1, x1] t1)).alloc (.cells #[u2, v2, x2] t2)).alloc (.cells #[u3, v3, x3] t3)).heap[w.heap.size + 1]? = some (.cells #[u2, v2, x2] t2) ∧
    (((w.alloc (.cells #[u1, v1, x1] t1)).alloc (.cells #[u2, v2, x2] t2)).alloc (.cells #[u3, v3, x3] t3)).heap[w.heap.size + 2]? = some (.cells #[u3, v3, x3] t3) ∧
    Below w.heap.size w (((w.alloc (.cells #[u1, v1, x1] t1)).alloc (.cells #[u2, v2, x2] t2)).alloc (.cells #[u3, v3, x3] t3)) := by
  have e : ∀ (w : World) (o : Obj), (w.alloc o).heap = w.heap.push o := fun _ _ => rfl
  refine ⟨by rw [e, e, e]; simp, ?_, ?_, ?_, below_alloc3 _ _ _ _⟩
  · rw [e, e, e, Array.getElem?_push, if_neg (by simp; omega), Array.getElem?_push, if_neg (by simp), Array.getElem?_push, if_pos rfl]
  · rw [e, e, e, Array.getElem?_push, if_neg (by simp), Array.getElem?_push, if_pos (by simp)]
  · rw [e, e, e, Array.getElem?_push, if_pos (by simp)]
/-- What lies of a dated record. -/
structure Arg (w : World) (a1 : Option Addr) (n1 : Nat) (a2 : Option Addr) (n2 : Nat) (a3 : Option Addr) (n3 : Nat) (l m : List (Int × Int)) (Z : List Pt) : Prop where
  s1 : n1 ≤ 1048576
  s2 : n2 ≤ 1048576
  s3 : n3 ≤ 1048576
  h1 : Holds w a1 n1 l
  h2 : Holds w a2 n2 m
  h3 : HoldsZ w a3 n3 Z
  sm : Sm Z 1048576
theorem Arg.below {w w' : World} {a1 : Option Addr} {n1 : Nat} {a2 : Option Addr} {n2 : Nat} {a3 : Option Addr} {n3 : Nat} {l m : List (Int × Int)} {Z : List Pt} (h : Arg w a1 n1 a2 n2 a3 n3 l m Z) (hb : Below w.heap.size w w') : Arg w' a1 n1 a2 n2 a3 n3 l m Z :=
  ⟨h.s1, h.s2, h.s3, h.h1.below hb, h.h2.below hb, h.h3.below hb, h.sm⟩
/-- What the laws' size says. -/
def SzR (n1 n2 n3 : Nat) (Z : List Pt) (w : World) (e : Ending) (w' : World) : Prop := ∃ r : Int, e = .returned (.int .i64 r) ∧ (r < 0 ∨ (0 ≤ r ∧ r ≤ 1048576 ∧ n1 ≤ 1048576 ∧ n2 ≤ 1048576 ∧ n3 ≤ 1048576 ∧ Sm Z 1048576 ∧ ZhL.tot Z ≤ 1048576)) ∧ Below w.heap.size w w'
set_option maxRecDepth 100000 in
set_option maxHeartbeats 2000000 in
theorem szDR_any (a1 a2 a3 : Option Addr) (n1 c1 n2 c2 n3 c3 : Nat) (Z : List Pt) (z1 : n1 ≤ 9223372036854775807) (z2 : n2 ≤ 9223372036854775807) (z3 : n3 ≤ 9223372036854775807) (w : World) (h3 : HoldsZ w a3 n3 Z) (hS : Sm Z 9223372036854775807) :
    Calls Try.prog 14 #[.agg #[.slice a1 n1 c1, .slice a2 n2 c2, .slice a3 n3 c3], .int .i64 1048576] w (SzR n1 n2 n3 Z w) := by
  have hb := below_alloc w (.cells #[.slice a1 n1 c1, .slice a2 n2 c2, .slice a3 n3 c3] 28)
  obtain ⟨f1, f2, f3⟩ := box3 w (.slice a1 n1 c1) (.slice a2 n2 c2) (.slice a3 n3 c3) 28
  have hlt : w.heap.size < (w.alloc (.cells #[.slice a1 n1 c1, .slice a2 n2 c2, .slice a3 n3 c3] 28)).heap.size := by simp
  have H3 := Lib.hid (h3.below hb)
  have HS := Lib.hid hS
  clear h3 hS
  go_enter Try.func14, Try.ntmps14
  go_wp2_with fail
  generalize w.alloc (.cells #[.slice a1 n1 c1, .slice a2 n2 c2, .slice a3 n3 c3] 28) = W at *
  refine (szRecord_any a1 a2 n1 c1 n2 c2 z1 z2 W).mono ?_
  rintro e w1 ⟨rfl, b1⟩
  have g3 := (b1.cell (p := ⟨w.heap.size, 2, none⟩) hlt).trans f3
  have H3' := Lib.hid (H3.out.below b1)
  have HB := Lib.hid (hb.trans (b1.mono hb.size))
  clear f1 f2 f3 hb b1 H3
  by_cases hbig : (1048576 : Int) < (n1 : Int) + n2
  · have hl : left n1 n2 = -1 := by unfold left; rw [if_pos hbig]
    rw [hl]
    go_wp2_with fail
    go_ret
    exact ⟨_, rfl, .inl (by omega), HB.out⟩
  · have hl : left n1 n2 = 1048576 - n1 - n2 := by unfold left; rw [if_neg hbig]
    rw [hl]
    clear hl
    have hnn : ¬ (1048576 : Int) - n1 - n2 < 0 := by omega
    go_wp2_with fail
    refine (ZhL.szS_any a3 n3 c3 Z (1048576 - n1 - n2) (by omega) (by omega) z3 w1 H3'.out HS.out).mono ?_
    rintro e w2 ⟨r, rfl, hr, b2⟩
    have HB2 := Lib.hid (HB.out.trans (b2.mono HB.out.size))
    clear b2
    rcases hr with hr | ⟨hr0, hr1, hnp, hSm, hT⟩
    · go_wp2_with fail
      go_ret
      exact ⟨_, rfl, .inl (by omega), HB2.out⟩
    · have HQ := Lib.hid (And.intro hSm hT)
      have hrn : ¬ r < 0 := by omega
      clear hSm hT
      go_wp2_with fail
      go_ret
      exact ⟨_, rfl, .inr ⟨hr0, hr1, by omega, by omega, hnp, HQ.out.1, HQ.out.2⟩, HB2.out⟩
/-- A dated record of its own, as the laws copy it. -/
structure OwnR (w : World) (B g1 n1 g2 n2 g3 n3 : Nat) (l m : List (Int × Int)) (Z : List Pt) : Prop where
  rcd : Own w B g1 n1 n1 g2 n2 n2 l m
  dat : ZhT.OwnP B w g3 n3 Z n3
def ToR (n1 n2 n3 : Nat) (l m : List (Int × Int)) (Z : List Pt) (w : World) (e : Ending) (w' : World) : Prop :=
  ∃ g1 g2 g3 : Nat, e = .returned (.agg #[.slice (some ⟨g1, 0, none⟩) n1 n1, .slice (some ⟨g2, 0, none⟩) n2 n2, .slice (some ⟨g3, 0, none⟩) n3 n3]) ∧ OwnR w' w.heap.size g1 n1 g2 n2 g3 n3 l m Z ∧ Below w.heap.size w w'
theorem ownP_base {B B' : Nat} {w : World} {g n : Nat} {L : List Pt} {k : Nat} (h : ZhT.OwnP B w g n L k) (hB : B' ≤ B) : ZhT.OwnP B' w g n L k := by
  obtain ⟨ys, h1, h2⟩ := h
  refine ⟨ys, ownsRow_base h1 hB, fun i x hi hx => ?_⟩
  obtain ⟨e1, gi, e2, e3, e4⟩ := h2 i x hi hx
  exact ⟨e1, gi, e2, e3, ownsRow_base e4 hB⟩
theorem ownP_set {B : Nat} {w : World} {g n : Nat} {L : List Pt} {k : Nat} (h : ZhT.OwnP B w g n L k) {a : Addr} (ha : a.block < B) (u : Value) : ZhT.OwnP B (w.setCell a u) g n L k := by
  obtain ⟨ys, h1, h2⟩ := h
  refine ⟨ys, ownsRow_setCell_below h1 ha u, fun i x hi hx => ?_⟩
  obtain ⟨e1, gi, e2, e3, e4⟩ := h2 i x hi hx
  exact ⟨e1, gi, e2, e3, ownsRow_setCell_below e4 ha u⟩
theorem own_set {w : World} {B g1 n1 c1 g2 n2 c2 : Nat} {l m : List (Int × Int)} (h : Own w B g1 n1 c1 g2 n2 c2 l m) {a : Addr} (ha : a.block < B) (u : Value) : Own (w.setCell a u) B g1 n1 c1 g2 n2 c2 l m :=
  ⟨ownsRow_setCell_below h.ctx ha u, ownsRow_setCell_below h.rel ha u, h.ne⟩
theorem own_below {w w' : World} {B g1 n1 c1 g2 n2 c2 : Nat} {l m : List (Int × Int)} (h : Own w B g1 n1 c1 g2 n2 c2 l m) (hb : Below w.heap.size w w') : Own w' B g1 n1 c1 g2 n2 c2 l m :=
  ⟨ownsRow_below h.ctx hb, ownsRow_below h.rel hb, h.ne⟩
theorem OwnR.set {w : World} {B g1 n1 g2 n2 g3 n3 : Nat} {l m : List (Int × Int)} {Z : List Pt} (h : OwnR w B g1 n1 g2 n2 g3 n3 l m Z) {a : Addr} (ha : a.block < B) (u : Value) : OwnR (w.setCell a u) B g1 n1 g2 n2 g3 n3 l m Z :=
  ⟨own_set h.rcd ha u, ownP_set h.dat ha u⟩
theorem OwnR.base {w : World} {B B' g1 n1 g2 n2 g3 n3 : Nat} {l m : List (Int × Int)} {Z : List Pt} (h : OwnR w B g1 n1 g2 n2 g3 n3 l m Z) (hB : B' ≤ B) : OwnR w B' g1 n1 g2 n2 g3 n3 l m Z :=
  ⟨⟨ownsRow_base h.rcd.ctx hB, ownsRow_base h.rcd.rel hB, h.rcd.ne⟩, ownP_base h.dat hB⟩
theorem OwnR.below {w w' : World} {B g1 n1 g2 n2 g3 n3 : Nat} {l m : List (Int × Int)} {Z : List Pt} (h : OwnR w B g1 n1 g2 n2 g3 n3 l m Z) (hb : Below w.heap.size w w') : OwnR w' B g1 n1 g2 n2 g3 n3 l m Z :=
  ⟨own_below h.rcd hb, h.dat.below hb⟩
theorem OwnR.arg {w : World} {B g1 n1 g2 n2 g3 n3 : Nat} {l m : List (Int × Int)} {Z : List Pt} (h : OwnR w B g1 n1 g2 n2 g3 n3 l m Z) (hZ : Z.length = n3) (z1 : n1 ≤ 1048576) (z2 : n2 ≤ 1048576) (z3 : n3 ≤ 1048576) (hs : Sm Z 1048576) :
    Arg w (some ⟨g1, 0, none⟩) n1 (some ⟨g2, 0, none⟩) n2 (some ⟨g3, 0, none⟩) n3 l m Z :=
  ⟨z1, z2, z3, (LawKit.ownHolds h.rcd).1, (LawKit.ownHolds h.rcd).2, h.dat.holds hZ, hs⟩
set_option maxRecDepth 100000 in
set_option maxHeartbeats 4000000 in
theorem toDR_any (a1 a2 a3 : Option Addr) (n1 c1 n2 c2 n3 c3 : Nat) (l m : List (Int × Int)) (Z : List Pt) (w : World) (h : Arg w a1 n1 a2 n2 a3 n3 l m Z) :
    Calls Try.prog 16 #[.agg #[.slice a1 n1 c1, .slice a2 n2 c2, .slice a3 n3 c3]] w (ToR n1 n2 n3 l m Z w) := by
  obtain ⟨hs, i0, i1, i2, hb⟩ := boxes33 w (.slice a1 n1 c1) (.slice a2 n2 c2) (.slice a3 n3 c3) (.slice none 0 0) (.slice none 0 0) (.slice none 0 0) (.slice none 0 0) (.slice none 0 0) (.slice none 0 0) 28 37 37
  have HA := Lib.hid (h.below hb)
  have HS := Lib.hid hs
  have HB := Lib.hid hb
  have HI := Lib.hid (And.intro i0 (And.intro i1 i2))
  obtain ⟨⟨p0, p1, p2⟩, _, _, _⟩ := cells3 i0
  have H0 := Lib.hid h
  clear h hs hb i0 i1 i2
  go_enter Try.func16, Try.ntmps16
  go_wp2_with fail
  generalize ((w.alloc (.cells #[.slice a1 n1 c1, .slice a2 n2 c2, .slice a3 n3 c3] 28)).alloc (.cells #[.slice none 0 0, .slice none 0 0, .slice none 0 0] 37)).alloc (.cells #[.slice none 0 0, .slice none 0 0, .slice none 0 0] 37) = W at *
  refine (toRecord_any a1 a2 n1 c1 n2 c2 l m HA.out.s1 HA.out.s2 W HA.out.h1 HA.out.h2).mono ?_
  rintro e w1 ⟨g1, g2, rfl, o1, b1⟩
  have hsz : W.heap.size = w.heap.size + 3 := HS.out
  have hs1 := b1.size
  have r2 := (b1.cell (p := ⟨w.heap.size, 2, none⟩) (by show w.heap.size < _; omega)).trans p2
  obtain ⟨⟨q0, q1, q2⟩, s0, s1, s2⟩ := cells3 ((b1.block (w.heap.size + 1) (by omega)).trans HI.out.2.1)
  have e2 := (b1.block (w.heap.size + 2) (by omega)).trans HI.out.2.2
  obtain ⟨⟨t0, t1, t2⟩, u0, u1, u2⟩ := cells3 e2
  have O1 := Lib.hid o1
  have HB1 := Lib.hid (HB.out.trans (b1.mono HB.out.size))
  have E1 := Lib.hid (And.intro ((b1.block (w.heap.size + 1) (by omega)).trans HI.out.2.1) (And.intro hsz hs1))
  have HA1 := Lib.hid (HA.out.h3.below b1)
  clear p0 p1 p2 o1 b1 e2 hsz hs1
  go_wp2_with fail
  have V0 : ((w1.setCell ⟨w.heap.size + 1 + 1, 0, none⟩ (.slice (some ⟨g1, 0, none⟩) n1 n1)).setCell ⟨w.heap.size + 1 + 1, 1, none⟩ (.slice (some ⟨g2, 0, none⟩) n2 n2)).cell? ⟨w.heap.size + 1 + 1, 0, none⟩ = some (.slice (some ⟨g1, 0, none⟩) n1 n1) :=
    (World.cell?_setCell_other _ _ _ _ (by intro e; have := congrArg Addr.off e; simp at this)).trans (World.cell?_setCell_same _ _ _ t0)
  have V1 : ((w1.setCell ⟨w.heap.size + 1 + 1, 0, none⟩ (.slice (some ⟨g1, 0, none⟩) n1 n1)).setCell ⟨w.heap.size + 1 + 1, 1, none⟩ (.slice (some ⟨g2, 0, none⟩) n2 n2)).cell? ⟨w.heap.size + 1 + 1, 1, none⟩ = some (.slice (some ⟨g2, 0, none⟩) n2 n2) :=
    World.cell?_setCell_same _ _ _ ((World.cell?_setCell_other _ _ _ _ (by intro e; have := congrArg Addr.off e; simp at this)).trans t1)
  have V2 : ((w1.setCell ⟨w.heap.size + 1 + 1, 0, none⟩ (.slice (some ⟨g1, 0, none⟩) n1 n1)).setCell ⟨w.heap.size + 1 + 1, 1, none⟩ (.slice (some ⟨g2, 0, none⟩) n2 n2)).cell? ⟨w.heap.size + 1 + 1, 2, none⟩ = some (.slice none 0 0) :=
    (World.cell?_setCell_other _ _ _ _ (by intro e; have := congrArg Addr.off e; simp at this)).trans ((World.cell?_setCell_other _ _ _ _ (by intro e; have := congrArg Addr.off e; simp at this)).trans t2)
  have V3 : ((w1.setCell ⟨w.heap.size + 1 + 1, 0, none⟩ (.slice (some ⟨g1, 0, none⟩) n1 n1)).setCell ⟨w.heap.size + 1 + 1, 1, none⟩ (.slice (some ⟨g2, 0, none⟩) n2 n2)).frozen? ⟨w.heap.size + 1 + 1, 2, none⟩ = false := by
    rw [World.frozen?_setCell, World.frozen?_setCell]; exact u2
  have V4 : ((w1.setCell ⟨w.heap.size + 1 + 1, 0, none⟩ (.slice (some ⟨g1, 0, none⟩) n1 n1)).setCell ⟨w.heap.size + 1 + 1, 1, none⟩ (.slice (some ⟨g2, 0, none⟩) n2 n2)).heap[w.heap.size + 1]? = some (.cells #[.slice none 0 0, .slice none 0 0, .slice none 0 0] 37) := by
    rw [Below.heap_setCell _ _ _ _ (by show w.heap.size + 1 ≠ w.heap.size + 1 + 1; omega), Below.heap_setCell _ _ _ _ (by show w.heap.size + 1 ≠ w.heap.size + 1 + 1; omega)]
    exact E1.out.1
  have V5 : w1.heap.size = ((w1.setCell ⟨w.heap.size + 1 + 1, 0, none⟩ (.slice (some ⟨g1, 0, none⟩) n1 n1)).setCell ⟨w.heap.size + 1 + 1, 1, none⟩ (.slice (some ⟨g2, 0, none⟩) n2 n2)).heap.size := by simp [World.setCell]
  have V6 := (HB1.out.setCell (p := ⟨w.heap.size + 1 + 1, 0, none⟩) (by show w.heap.size ≤ w.heap.size + 1 + 1; omega) (.slice (some ⟨g1, 0, none⟩) n1 n1)).setCell (p := ⟨w.heap.size + 1 + 1, 1, none⟩) (by show w.heap.size ≤ w.heap.size + 1 + 1; omega) (.slice (some ⟨g2, 0, none⟩) n2 n2)
  have V7 : Own ((w1.setCell ⟨w.heap.size + 1 + 1, 0, none⟩ (.slice (some ⟨g1, 0, none⟩) n1 n1)).setCell ⟨w.heap.size + 1 + 1, 1, none⟩ (.slice (some ⟨g2, 0, none⟩) n2 n2)) W.heap.size g1 n1 n1 g2 n2 n2 l m := by
    have hlt : w.heap.size + 1 + 1 < W.heap.size := by have := E1.out.2.1; omega
    exact own_set (own_set O1.out (a := ⟨w.heap.size + 1 + 1, 0, none⟩) hlt _) (a := ⟨w.heap.size + 1 + 1, 1, none⟩) hlt _
  generalize (w1.setCell ⟨w.heap.size + 1 + 1, 0, none⟩ (.slice (some ⟨g1, 0, none⟩) n1 n1)).setCell ⟨w.heap.size + 1 + 1, 1, none⟩ (.slice (some ⟨g2, 0, none⟩) n2 n2) = W2 at *
  refine (ZhT.toS_any a3 n3 c3 Z H0.out.s3 W2 (H0.out.h3.below V6) H0.out.sm).mono ?_
  rintro e w2 ⟨g3, rfl, o2, b2⟩
  have hx1 := E1.out.2.1
  have hx2 := E1.out.2.2
  have hx3 : w.heap.size + 1 + 1 < W2.heap.size := by omega
  have k0 := (b2.cell (p := ⟨w.heap.size + 1 + 1, 0, none⟩) hx3).trans V0
  have k1 := (b2.cell (p := ⟨w.heap.size + 1 + 1, 1, none⟩) hx3).trans V1
  have k2 := (b2.cell (p := ⟨w.heap.size + 1 + 1, 2, none⟩) hx3).trans V2
  have k3 := (b2.frozen (p := ⟨w.heap.size + 1 + 1, 2, none⟩) hx3).trans V3
  obtain ⟨⟨j0, j1, j2⟩, i0, i1, i2⟩ := cells3 ((b2.block (w.heap.size + 1) (by omega)).trans V4)
  have O2 := Lib.hid (show OwnR w2 W.heap.size g1 n1 g2 n2 g3 n3 l m Z from ⟨own_below V7 b2, ownP_base o2 (by omega)⟩)
  have HB2 := Lib.hid (V6.trans (b2.mono (by omega)))
  have HE := Lib.hid hx1
  clear V0 V1 V2 V3 V4 V5 V6 V7 o2 b2 hx1 hx2 hx3 t0 t1 t2 u0 u1 u2 q0 q1 q2 s0 s1 s2 r2 O1 HB1 E1
  go_wp2_with fail
  have B3 := (((HB2.out.setCell (p := ⟨w.heap.size + 1 + 1, 2, none⟩) (by show w.heap.size ≤ w.heap.size + 1 + 1; omega) (.slice (some ⟨g3, 0, none⟩) n3 n3)).setCell (p := ⟨w.heap.size + 1, 0, none⟩) (by show w.heap.size ≤ w.heap.size + 1; omega) (.slice (some ⟨g1, 0, none⟩) n1 n1)).setCell (p := ⟨w.heap.size + 1, 1, none⟩) (by show w.heap.size ≤ w.heap.size + 1; omega) (.slice (some ⟨g2, 0, none⟩) n2 n2)).setCell (p := ⟨w.heap.size + 1, 2, none⟩) (by show w.heap.size ≤ w.heap.size + 1; omega) (.slice (some ⟨g3, 0, none⟩) n3 n3)
  have l1 : w.heap.size + 1 < W.heap.size := by have := HE.out; omega
  have l2 : w.heap.size + 1 + 1 < W.heap.size := by have := HE.out; omega
  have O3 := (((O2.out.set (a := ⟨w.heap.size + 1 + 1, 2, none⟩) l2 (.slice (some ⟨g3, 0, none⟩) n3 n3)).set (a := ⟨w.heap.size + 1, 0, none⟩) l1 (.slice (some ⟨g1, 0, none⟩) n1 n1)).set (a := ⟨w.heap.size + 1, 1, none⟩) l1 (.slice (some ⟨g2, 0, none⟩) n2 n2)).set (a := ⟨w.heap.size + 1, 2, none⟩) l1 (.slice (some ⟨g3, 0, none⟩) n3 n3)
  try simp only [Exit.inBlock, Exit.then]
  refine bodyPost_ret (v := .agg #[.slice (some ⟨g1, 0, none⟩) n1 n1, .slice (some ⟨g2, 0, none⟩) n2 n2, .slice (some ⟨g3, 0, none⟩) n3 n3]) (by simp [results, Try.results16, go_sem, j0, j1, j2]) rfl ⟨g1, g2, g3, rfl, O3.base (by have := HE.out; omega), B3⟩
set_option maxRecDepth 100000 in
set_option maxHeartbeats 4000000 in
theorem eqDR_same (a1 a2 a3 b1 b2 b3 : Option Addr) (n1 c1 n2 c2 n3 c3 d1 d2 d3 : Nat) (l m : List (Int × Int)) (Z : List Pt) (w : World) (h : Arg w a1 n1 a2 n2 a3 n3 l m Z) (k : Arg w b1 n1 b2 n2 b3 n3 l m Z) :
    Calls Try.prog 18 #[.agg #[.slice a1 n1 c1, .slice a2 n2 c2, .slice a3 n3 c3], .agg #[.slice b1 n1 d1, .slice b2 n2 d2, .slice b3 n3 d3]] w fun e w' => e = .returned (.bool true) ∧ Below w.heap.size w w' := by
  obtain ⟨hs, i0, i1⟩ := boxes32 w (.slice a1 n1 c1) (.slice a2 n2 c2) (.slice a3 n3 c3) (.slice b1 n1 d1) (.slice b2 n2 d2) (.slice b3 n3 d3) 37 37
  have hb := below_alloc2 w (.cells #[.slice a1 n1 c1, .slice a2 n2 c2, .slice a3 n3 c3] 37) (.cells #[.slice b1 n1 d1, .slice b2 n2 d2, .slice b3 n3 d3] 37)
  have HA := Lib.hid (h.below hb)
  have HK := Lib.hid (k.below hb)
  have HB := Lib.hid hb
  have HS := Lib.hid hs
  have HI := Lib.hid (And.intro i0 i1)
  obtain ⟨⟨p0, p1, p2⟩, _, _, _⟩ := cells3 i0
  obtain ⟨⟨q0, q1, q2⟩, _, _, _⟩ := cells3 i1
  clear h k hb hs i0 i1
  go_enter Try.func18, Try.ntmps18
  go_wp2_with fail
  generalize (w.alloc (.cells #[.slice a1 n1 c1, .slice a2 n2 c2, .slice a3 n3 c3] 37)).alloc (.cells #[.slice b1 n1 d1, .slice b2 n2 d2, .slice b3 n3 d3] 37) = W at *
  refine (eqRecord_same a1 a2 b1 b2 n1 n2 c1 c2 d1 d2 l m HA.out.s1 HA.out.s2 W HA.out.h1 HA.out.h2 HK.out.h1 HK.out.h2).mono ?_
  rintro e w1 ⟨rfl, b1⟩
  have hsz : W.heap.size = w.heap.size + 2 := HS.out
  have r2 := (b1.cell (p := ⟨w.heap.size, 2, none⟩) (by show w.heap.size < _; omega)).trans p2
  have s2 := (b1.cell (p := ⟨w.heap.size + 1, 2, none⟩) (by show w.heap.size + 1 < _; omega)).trans q2
  have HA3 := Lib.hid (HA.out.h3.below b1)
  have HK3 := Lib.hid (HK.out.h3.below b1)
  have HB1 := Lib.hid (HB.out.trans (b1.mono HB.out.size))
  clear p0 p1 p2 q0 q1 q2 b1 hsz
  go_wp2_with fail
  refine (ZhT.eqS_same a3 b3 n3 c3 d3 Z HA.out.s3 w1 HA3.out HK3.out HA.out.sm).mono ?_
  rintro e w2 ⟨rfl, b2⟩
  have HB2 := Lib.hid (HB1.out.trans (b2.mono HB1.out.size))
  clear b2
  go_wp2_with fail
  go_ret
  exact ⟨rfl, HB2.out⟩
end Go.Proofs.Ytfbgekhkbbhggaa.Dr
