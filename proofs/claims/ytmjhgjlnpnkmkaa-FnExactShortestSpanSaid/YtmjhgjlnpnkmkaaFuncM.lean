/- The first index at which a predicate holds; calls of closures. -/
import Derived.Test.YtmjhgjlnpnkmkaaOrder
import Derived.Test.YtmjhgjlnpnkmkaaGivesI
namespace Go.Proofs.Ytmjhgjlnpnkmkaa.FuncI
open Go.RowKit Pairs Rec Keep GivesI
theorem call_enter {f : FuncId} {fn : Func} {c : Code} (hf : Try.prog.funcs[f]? = some fn) (hname : (fn.name == "runtime.NumGoroutine") = false) (hb : fn.body = some c) (args : Array Value) (w : World) :
    (callFunc f args).run Try.prog w = .ok (.enter f args) w := by
  have h1 : fn.name ≠ "runtime.NumGoroutine" := by simpa using hname
  simp [callFunc, hf, h1, hb]
/-- The first index at which q holds, or -1. -/
def ix (q : Int → Bool) (L : List Int) : Int := match L.findIdx? q with | some i => (i : Int) | none => -1
theorem ix_hit {q : Int → Bool} {L : List Int} {k : Nat} {x : Int} (hp : ∀ j y, j < k → L[j]? = some y → q y = false) (hx : L[k]? = some x) (hq : q x = true) : ix q L = (k : Int) := by
  have e : L.findIdx? q = some k := by
    rw [List.findIdx?_eq_some_iff_getElem]
    obtain ⟨hk, hxe⟩ := List.getElem?_eq_some_iff.1 hx
    refine ⟨hk, by rw [hxe]; exact hq, fun j hj => ?_⟩
    rw [hp j _ hj (List.getElem?_eq_getElem (by omega))]
    simp
  unfold ix
  rw [e]
theorem ix_none {q : Int → Bool} {L : List Int} (hp : ∀ j y, j < L.length → L[j]? = some y → q y = false) : ix q L = -1 ∧ L.any q = false := by
  have h : ∀ x ∈ L, q x = false := fun x hx => by
    obtain ⟨j, hj, e⟩ := List.getElem_of_mem hx
    exact hp j x hj (by rw [List.getElem?_eq_getElem hj, e])
  constructor
  · unfold ix
    rw [List.findIdx?_eq_none_iff.2 (fun x hx => by simp [h x hx])]
  · rw [List.any_eq_false]
    exact fun x hx => by simp [h x hx]
theorem ix_any {q : Int → Bool} {L : List Int} : (0 ≤ ix q L) ↔ L.any q = true := by
  unfold ix
  cases h : L.findIdx? q with
  | some i =>
    obtain ⟨hk, hq, _⟩ := List.findIdx?_eq_some_iff_getElem.1 h
    exact ⟨fun _ => List.any_eq_true.2 ⟨_, List.getElem_mem hk, hq⟩, fun _ => by show (0 : Int) ≤ (i : Int); omega⟩
  | none =>
    rw [List.findIdx?_eq_none_iff] at h
    constructor
    · intro h0
      exact absurd h0 (by decide)
    · intro h1
      obtain ⟨x, hx, hq⟩ := List.any_eq_true.1 h1
      rw [h x hx] at hq
      cases hq
end Go.Proofs.Ytmjhgjlnpnkmkaa.FuncI
