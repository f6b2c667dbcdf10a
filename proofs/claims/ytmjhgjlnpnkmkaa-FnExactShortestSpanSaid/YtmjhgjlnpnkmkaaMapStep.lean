/- A look-up and a store in a map, at a step of a region that draws its order: by an equation on the operation's run. No program in this text. -/
import Derived.Test.YtmjhgjlnpnkmkaaRows
import Derived.WalkKit
import Derived.ProofKit
import Derived.Lib.Hide
import Derived.Carry
import Derived.OwnWalk
import Derived.RegionTactic
import Derived.Maps.OwnRows
namespace Go.Proofs.Ytmjhgjlnpnkmkaa.MapStep
theorem step_lookup {P : Program} {w : World} {ops : Array Oper} {o : Oper} {a : Act} {K : Act → World → Prop} {Q : Exit → Act → World → Prop} {E : Prop} (hgd : o.guard = none) (m x : Operand) (t : TypeId) (c : Bool)
    (hop : o.op = Op.lookup t m x c) (mv xv : Value) (hm : a.eval m = mv) (hx : a.eval x = xv) (v : Value) (hrun : (Instr.lookup t mv xv c).run P w = .ok v w) (h : K (a.put o.dst v) w) :
    if Region.wanted o (yielded ops a.tmps) = true then Oper.wp P o a w K Q else E := by
  have hw : Region.wanted o (yielded ops a.tmps) = true := by simp [Region.wanted, hgd]
  rw [if_pos hw]
  unfold Oper.wp execOp
  simp only [hop, hm, hx, hrun, Sem.run_bind, Sem.run_pure, Result.andThen_ok]
  exact h
theorem step_update {P : Program} {w : World} {ops : Array Oper} {o : Oper} {a : Act} {K : Act → World → Prop} {Q : Exit → Act → World → Prop} {E : Prop} (hgd : o.guard = none) (m x v : Operand) (t : TypeId)
    (hop : o.op = Op.mapUpdate t m x v) (mv xv vv : Value) (hm : a.eval m = mv) (hx : a.eval x = xv) (hv : a.eval v = vv) (w2 : World) (hrun : (Instr.mapUpdate t mv xv vv).run P w = .ok () w2) (h : K (a.put o.dst undef) w2) :
    if Region.wanted o (yielded ops a.tmps) = true then Oper.wp P o a w K Q else E := by
  have hw : Region.wanted o (yielded ops a.tmps) = true := by simp [Region.wanted, hgd]
  rw [if_pos hw]
  unfold Oper.wp execOp
  simp only [hop, hm, hx, hv, hrun, Sem.run_bind, Sem.run_pure, Result.andThen_ok]
  exact h
/-- What is left of an operation that the walk has run to its library call. -/
theorem upon_ok {P : Program} {o : Oper} {a : Act} {K : Act → World → Prop} {Q : Exit → Act → World → Prop} {α : Type} {r : Result α} {f : α → World → Result Next} {x : α} {w' : World} (hr : r = .ok x w') (h : Oper.upon P o a K Q (f x w')) : Oper.upon P o a K Q (r.andThen f) := by
  rw [hr]
  exact h
theorem upon_lookup {H : Type} {P : Program} {w : World} {o : Oper} {a : Act} {K : Act → World → Prop} {Q : Exit → Act → World → Prop} {t : TypeId}
    (k EE e : TypeId) (q : IntKind) (KK : Maps.Keyed P k) (ht : P.underlying t = some (.map k EE)) (hz : (zeroValue EE).run P w = .ok (.slice none 0 0) w) (base : Nat) {b : Nat} (n : Nat) (D : DataW H)
    (hown : w.ownsGroups P k base e q b n D) (hn : n < maxLen) {key : Value} (kl : Lit) (hkey : keyOf P k key = some kl)
    (h : ∀ v zs, D.atKey kl .nil = rowDatum q v zs → w.ownsInts base e q v zs → zs.length ≤ n → w.groupBack P t k base e q b n D key kl v → K (a.put o.dst v) w) :
    Oper.upon P o a K Q ((Sem.run P (Instr.lookup t (.map (some b)) key false) w).andThen fun a w' => Result.ok (Next.value a) w') := by
  obtain ⟨v, zs, hrun, hat, hoi, hzl, hback⟩ := hown.at KK ht hz hn hkey
  refine upon_ok hrun ?_
  rw [Oper.upon_value]
  exact h v zs hat hoi hzl hback
end Go.Proofs.Ytmjhgjlnpnkmkaa.MapStep
