/- The program's contextsThat: the contexts that meet a condition. -/
import Derived.Test.YtmjhgjlnpnkmkaaOrder
import Derived.Test.YtmjhgjlnpnkmkaaIdx
import Derived.Test.YtmjhgjlnpnkmkaaGivesI
namespace Go.Proofs.Ytmjhgjlnpnkmkaa.That
open Go.RowKit Pairs Rec Chain Find2 Keep GivesI
theorem call_enter {f : FuncId} {fn : Func} {c : Code} (hf : Try.prog.funcs[f]? = some fn) (hname : (fn.name == "runtime.NumGoroutine") = false) (hb : fn.body = some c) (args : Array Value) (w : World) :
    (callFunc f args).run Try.prog w = .ok (.enter f args) w := by
  have h1 : fn.name ≠ "runtime.NumGoroutine" := by simpa using hname
  simp [callFunc, hf, h1, hb]
theorem belA {W X : World} (h : Below W.heap.size W X) (o : Obj) : Below W.heap.size W (X.alloc o) := h.alloc h.size o
def sel (q : Int → Bool) (l : List (Int × Int)) : List Int := (l.filter (fun p => q p.1)).map (·.1)
theorem sel_next (q : Int → Bool) {l : List (Int × Int)} {k : Nat} {x y : Int} (hx : l[k]? = some (x, y)) : sel q (l.take (k + 1)) = sel q (l.take k) ++ (if q x = true then [x] else []) := by
  unfold sel
  rw [List.take_add_one, hx]
  simp only [Option.toList_some, List.filter_append, List.map_append]
  cases h : q x <;> simp [h]
theorem sel_len (q : Int → Bool) (l : List (Int × Int)) : (sel q l).length ≤ l.length := by unfold sel; rw [List.length_map]; exact List.length_filter_le _ _
theorem ints_append (l1 l2 : List Int) : ints (l1 ++ l2) = ints l1 ++ ints l2 := by unfold ints; rw [List.map_append]
theorem empty_own {T : TypeId} (w : World) : (w.alloc (.cells #[] T)).ownsRow w.heap.size T 1 (.slice (some ⟨w.heap.size, 0, none⟩) 0 0) 0 [] :=
  World.ownsRow_made w #[] 0 (Nat.le_refl _) (by unfold maxLen; omega) (by simp)
theorem infoInt : (Try.prog.info? 3).map (fun i => (i.zero, i.size, i.bytes)) = some (some (.int .i64 0), 1, 8) := by kernel_rfl
/-- A list of its own. -/
def ResL (L : List Int) (w : World) (e : Ending) (w' : World) : Prop :=
  ∃ (p : Option Addr) (k d : Nat), e = .returned (.slice p k d) ∧ w'.ownsRow w.heap.size 3 1 (.slice p k d) k (ints L) ∧ k ≤ 1048576 ∧ Below w.heap.size w w'
def G1 (B : Nat) (w wr : World) (v : Value) (L : List Int) : Prop := wr.ownsRow B 3 1 v L.length (ints L) ∧ Below B w wr
end Go.Proofs.Ytmjhgjlnpnkmkaa.That
