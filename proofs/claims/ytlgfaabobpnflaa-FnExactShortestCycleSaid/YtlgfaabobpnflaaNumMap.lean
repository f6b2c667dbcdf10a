/- Maps from numbers to numbers; a number that is missing counts 0. -/
import Derived.Test.YtlgfaabobpnflaaOrder
import Derived.Test.YtlgfaabobpnflaaDepM
namespace Go.Proofs.Ytlgfaabobpnflaa.NumMap
open Go.RowKit Go.Maps Pairs Chain Find2 GoodM Lows Queue From MapStep Order DepM
def iR : Value → Option (Dat × List MemPlace)
  | .int .i64 b => some (.lit (.int .i64 b), [])
  | _ => none
theorem iR_inv {v : Value} {b : Int} {ps : List MemPlace} (h : iR v = some (.lit (.int .i64 b), ps)) : v = .int .i64 b := by
  unfold iR at h
  split at h
  · injection h with h
    injection h with h _
    injection h with h
    injection h with _ h
    rw [h]
  · cases h
def NumAt (w : World) (g n : Nat) (f : Int → Int) : Prop := ∃ D : Dat, w.ownsMap Try.prog 3 iR g n D ∧ ∀ z, D.atKey (.int .i64 z) (.lit (.int .i64 0)) = .lit (.int .i64 (f z))
theorem isMap_of {w : World} {g n : Nat} {D : Dat} (h : w.ownsMap Try.prog 3 iR g n D) : IsMap D := by
  obtain ⟨_, _, _, _, _, hD⟩ := h
  exact ⟨_, hD⟩
theorem NumAt.kept {w w' : World} {g n : Nat} {f : Int → Int} {row : Option Nat} (h : NumAt w g n f) (hg : w.grownBy w' row) (hne : some g ≠ row) : NumAt w' g n f := by
  obtain ⟨D, ho, hS⟩ := h
  exact ⟨D, ho.kept hg hne, hS⟩
theorem NumAt.below {w w' : World} {g n : Nat} {f : Int → Int} (h : NumAt w g n f) (hb : Below w.heap.size w w') : NumAt w' g n f := h.kept (grown_none hb) (by simp)
theorem NumAt.lt {w : World} {g n : Nat} {f : Int → Int} (h : NumAt w g n f) : g < w.heap.size := by
  obtain ⟨D, ho, _⟩ := h
  exact ho.lt
theorem num_new (w : World) : NumAt (w.alloc (.map #[] 0)) w.heap.size 0 (fun _ => 0) := ⟨_, World.ownsMap_made w Try.prog 3 iR, fun _ => rfl⟩
theorem num_update {w : World} {g n : Nat} {f : Int → Int} (h : NumAt w g n f) (hn : n < 1048576) {x : Int} (hx : -1000000 ≤ x ∧ x ≤ 1000000) (v : Int) :
    ∃ w2, (Instr.mapUpdate 96 (.map (some g)) (.int .i64 x) (.int .i64 v)).run Try.prog w = .ok () w2 ∧ NumAt w2 g (n + 1) (upd f x v) ∧ w.grownBy w2 (some g) := by
  obtain ⟨D, ho, hS⟩ := h
  obtain ⟨w2, hrun, hown, hgrow⟩ := World.ownsMap.update ho law Try.underlying96 (by unfold maxLen; omega) (val := .int .i64 v) (keyI hx) rfl
  refine ⟨w2, hrun, ⟨_, hown, fun z => ?_⟩, hgrow⟩
  unfold upd
  by_cases e : x = z
  · subst e
    rw [atKey_put_same (isMap_of ho) (show WideAt.IsKeyLit (.int .i64 x) from trivial) _ _, if_pos rfl]
  · rw [atKey_put_other (by intro h2; injection h2 with _ h2; exact e h2.symm), hS, if_neg e]
theorem num_look {w : World} {g n : Nat} {f : Int → Int} (h : NumAt w g n f) {x : Int} (hx : -1000000 ≤ x ∧ x ≤ 1000000) : (Instr.lookup 96 (.map (some g)) (.int .i64 x) false).run Try.prog w = .ok (.int .i64 (f x)) w := by
  obtain ⟨D, ho, hS⟩ := h
  obtain ⟨v, ps, hrun, hv⟩ := ho.lookup law Try.underlying96 (zeroI w) (zd := .lit (.int .i64 0)) (zp := []) rfl (keyI hx)
  rw [hS] at hv
  rw [iR_inv hv] at hrun
  exact hrun
end Go.Proofs.Ytlgfaabobpnflaa.NumMap
