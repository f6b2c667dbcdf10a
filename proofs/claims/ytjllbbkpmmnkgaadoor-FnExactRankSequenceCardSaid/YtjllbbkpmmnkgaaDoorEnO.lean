/- A whole row out of a block and into a block, by value, inside a fence. -/
import Derived.Test.YtjllbbkpmmnkgaaDoorRgF
import Derived.Deep.WholeRow
import Derived.Laws.CopyOwn
namespace Go.Proofs.YtjllbbkpmmnkgaaDoor.EnO
open Go.RowKit
set_option linter.unusedVariables false
theorem load_row {n : Nat} {P : Program} {o : Oper} {a : Act} {w : World} {K : Act → World → Prop} {Q : Exit → Act → World → Prop} (ty : TypeId) (x : Operand) (ho : o.op = .load ty x)
    (g : Nat) (C : Array Value) (t : TypeId) (d : TypeDesc) (hx : a.eval x = .pointer (some ⟨g, 0, none⟩)) (hg : w.heap[g]? = some (.cells C t (0, 0)))
    (hu : P.underlying ty = some d) (hd : (match d with | .struct _ | .array _ _ => true | _ => false) = true) (hi : (P.info? ty).map (·.size) = some C.size)
    (h : K (a.put o.dst (.agg C)) w) : Oper.wpIn Fence.wide n P o a w K Q := by
  refine ⟨fun f hf => trivial, ?_⟩
  have e : (o.semAt Fence.wide.round a.eval).run P w = .ok (.value (.agg C)) w := by
    show (o.semAt none a.eval).run P w = _
    unfold Oper.semAt execOp
    simp only [ho, hx, Instr.loadAt, Instr.sureAddr, Sem.run_bind, Sem.run_pure, Result.andThen_ok, run_loadVar_row w g t ty C (0, 0) d hg hu hd hi]
  rw [e]
  exact h
theorem store_row {n : Nat} {P : Program} {o : Oper} {a : Act} {w : World} {K : Act → World → Prop} {Q : Exit → Act → World → Prop} (ty : TypeId) (x y : Operand) (ho : o.op = .store ty x y)
    (g : Nat) (C old : Array Value) (t : TypeId) (hx : a.eval x = .pointer (some ⟨g, 0, none⟩)) (hy : a.eval y = .agg C) (hg : w.heap[g]? = some (.cells old t (0, 0)))
    (hi : (P.info? ty).map (·.size) = some C.size) (hs : old.size = C.size) (h1 : C.all (·.oneCell') = true)
    (h : K (a.put o.dst undef) (w.setRow g C)) : Oper.wpIn Fence.wide n P o a w K Q := by
  refine ⟨fun f hf => trivial, ?_⟩
  have e : (o.semAt Fence.wide.round a.eval).run P w = .ok .skip (w.setRow g C) := by
    show (o.semAt none a.eval).run P w = _
    unfold Oper.semAt execOp
    simp only [ho, hx, hy, Instr.storeAt, Instr.sureAddr, Sem.run_bind, Sem.run_pure, Result.andThen_ok, run_storeVar_row w g t ty old C hg hi hs h1]
  rw [e]
  exact h
theorem store_cells {P : Program} (w : World) (g : Nat) (t : TypeId) (old C : Array Value) (hg : w.heap[g]? = some (.cells old t (0, 0))) (hs : old.size = C.size) (h1 : C.all (·.oneCell') = true) :
    (storeCells ⟨g, 0, none⟩ C.toList 0).run P w = .ok () (w.setRow g C) := by
  have := run_storeCells_from (P := P) g t C.toList 0 old w hg (by simp; omega) (fun v hv => (Array.all_eq_true_iff_forall_mem.1 h1) v (by simpa using hv))
  simpa using this
end Go.Proofs.YtjllbbkpmmnkgaaDoor.EnO
