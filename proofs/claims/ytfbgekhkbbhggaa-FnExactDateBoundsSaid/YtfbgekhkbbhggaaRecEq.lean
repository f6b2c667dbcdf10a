/- The law file's eqRecord: two records that hold the same are equal. -/
import Derived.Test.YtfbgekhkbbhggaaRec
namespace Go.Proofs.Ytfbgekhkbbhggaa.RecEq
open Go.RowKit Pairs Rec

theorem boxes2 (w : World) (u1 v1 u2 v2 : Value) (t1 t2 : TypeId) :
    ((w.alloc (.cells #[u1, v1] t1)).alloc (.cells #[u2, v2] t2)).heap.size = w.heap.size + 2 ∧
    ((w.alloc (.cells #[u1, v1] t1)).alloc (.cells #[u2, v2] t2)).cell? ⟨w.heap.size, 0, none⟩ = some u1 ∧
    ((w.alloc (.cells #[u1, v1] t1)).alloc (.cells #[u2, v2] t2)).cell? ⟨w.heap.size, 1, none⟩ = some v1 ∧
    ((w.alloc (.cells #[u1, v1] t1)).alloc (.cells #[u2, v2] t2)).cell? ⟨w.heap.size + 1, 0, none⟩ = some u2 ∧
    ((w.alloc (.cells #[u1, v1] t1)).alloc (.cells #[u2, v2] t2)).cell? ⟨w.heap.size + 1, 1, none⟩ = some v2 ∧
    Below w.heap.size w ((w.alloc (.cells #[u1, v1] t1)).alloc (.cells #[u2, v2] t2)) := by
  have e : ∀ (w : World) (o : Obj), (w.alloc o).heap = w.heap.push o := fun _ _ => rfl
  have i0 : ((w.alloc (.cells #[u1, v1] t1)).alloc (.cells #[u2, v2] t2)).heap[w.heap.size]? = some (.cells #[u1, v1] t1) := by
    rw [e, e, Array.getElem?_push, if_neg (by simp), Array.getElem?_push, if_pos rfl]
  have i1 : ((w.alloc (.cells #[u1, v1] t1)).alloc (.cells #[u2, v2] t2)).heap[w.heap.size + 1]? = some (.cells #[u2, v2] t2) := by
    rw [e, e, Array.getElem?_push, if_pos (by simp)]
  refine ⟨by rw [e, e]; simp, ?_, ?_, ?_, ?_, below_alloc2 _ _ _⟩
  · unfold World.cell?; rw [i0]; rfl
  · unfold World.cell?; rw [i0]; rfl
  · unfold World.cell?; rw [i1]; rfl
  · unfold World.cell?; rw [i1]; rfl

set_option maxHeartbeats 1000000 in
theorem eqRecord_same (a1 a2 b1 b2 : Option Addr) (n1 n2 c1 c2 d1 d2 : Nat) (l1 l2 : List (Int × Int)) (h1 : n1 ≤ 1048576) (h2 : n2 ≤ 1048576) (w : World) (A1 : Holds w a1 n1 l1) (A2 : Holds w a2 n2 l2) (B1 : Holds w b1 n1 l1) (B2 : Holds w b2 n2 l2) :
    Calls Try.prog 58 #[.agg #[.slice a1 n1 c1, .slice a2 n2 c2], .agg #[.slice b1 n1 d1, .slice b2 n2 d2]] w fun e w' => e = .returned (.bool true) ∧ Below w.heap.size w w' := by
  obtain ⟨hs, x1, x2, y1, y2, hb0⟩ := boxes2 w (.slice a1 n1 c1) (.slice a2 n2 c2) (.slice b1 n1 d1) (.slice b2 n2 d2) 34 34
  have HA1 := Lib.hid (A1.below hb0)
  have HA2 := Lib.hid (A2.below hb0)
  have HB1 := Lib.hid (B1.below hb0)
  have HB2 := Lib.hid (B2.below hb0)
  have HS := Lib.hid hs
  clear A1 A2 B1 B2 hs
  go_enter Try.func58, Try.ntmps58
  go_wp2_with fail
  generalize (w.alloc (.cells #[.slice a1 n1 c1, .slice a2 n2 c2] 34)).alloc (.cells #[.slice b1 n1 d1, .slice b2 n2 d2] 34) = W at *
  refine (eqContextS_same a1 b1 n1 c1 d1 l1 h1 W HA1.out HB1.out).mono ?_
  rintro e w2 ⟨rfl, bb⟩
  have hs := HS.out
  have k2 := (bb.cell (p := ⟨w.heap.size, 1, none⟩) (by show w.heap.size < _; omega)).trans x2
  have k4 := (bb.cell (p := ⟨w.heap.size + 1, 1, none⟩) (by show w.heap.size + 1 < _; omega)).trans y2
  have HA3 := Lib.hid (HA2.out.below bb)
  have HB3 := Lib.hid (HB2.out.below bb)
  have b3 := hb0.trans (bb.mono hb0.size)
  clear x1 x2 y1 y2 bb hb0 hs
  go_wp2_with fail
  refine (eqRelationS_same a2 b2 n2 c2 d2 l2 h2 w2 HA3.out HB3.out).mono ?_
  rintro e w3 ⟨rfl, b4⟩
  have b5 := b3.trans (b4.mono b3.size)
  clear b3 b4 k2 k4
  go_wp2_with fail
  go_ret
  exact ⟨rfl, b5⟩
end Go.Proofs.Ytfbgekhkbbhggaa.RecEq
