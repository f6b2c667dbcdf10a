/- The program's IsConsistent and the model's l4Consistent. -/
import Derived.Test.YtcbfnhghhbgdkaaExactResolvesRecordSaidPartam
import Derived.Test.YtcbfnhghhbgdkaaExactResolvesRecordSaidPartan
import Derived.Laws.EntriesVeiled
import Derived.Test.YtcbfnhghhbgdkaaExactResolvesRecordSaidPartaj
import Derived.Test.YtcbfnhghhbgdkaaExactResolvesRecordSaidPartai
namespace Go.Proofs.Ytcbfnhghhbgdkaa.Consist
open Go.RowKit Pairs Rec Chain Find2 GoodM Keep GivesI Lows Order Bit Table Idx That IsLater
theorem num_at {l m : List (Int × Int)} (hg : good l m = true) {x y : Int} {i : Nat} (hx : l[i]? = some (x, y)) : isAt l x = some i := by
  have hA := (good_asc hg).1
  have hil := (List.getElem?_eq_some_iff.1 hx).1
  have e : (isAt l x).isSome = true := isAt_keys.2 (List.mem_map.2 ⟨(x, y), List.mem_of_getElem? hx, rfl⟩)
  obtain ⟨j, hj⟩ := Option.isSome_iff_exists.1 e
  obtain ⟨y2, hy2⟩ := isAt_num hj
  rcases Nat.lt_trichotomy j i with h | h | h
  · have := hA.lt (i - j - 1) j (x, y2) (x, y) hy2 (by rw [show j + (i - j - 1) + 1 = i by omega]; exact hx)
    simp at this
  · rw [hj, h]
  · have := hA.lt (j - i - 1) i (x, y) (x, y2) hx (by rw [show i + (j - i - 1) + 1 = j by omega]; exact hy2)
    simp at this
theorem tk_any (q : Int × Int → Bool) {l : List (Int × Int)} {k : Nat} {p : Int × Int} (hx : l[k]? = some p) (h : (l.take k).any q = false) : (l.take (k + 1)).any q = q p := by
  rw [List.take_add_one, hx, List.any_append, h]
  simp
theorem any_hit (q : Int × Int → Bool) {l : List (Int × Int)} {k : Nat} {p : Int × Int} (hx : l[k]? = some p) (h : q p = true) : l.any q = true :=
  List.any_eq_true.2 ⟨p, List.mem_of_getElem? hx, h⟩
def IxAns (b : Bool) (w : World) (e : Ending) (w' : World) : Prop := ∃ i : Int, e = .returned (.int .i64 i) ∧ (b = false → i = -1) ∧ (b = true → 0 ≤ i) ∧ Below w.heap.size w w'
noncomputable def consP (l m : List (Int × Int)) : Bool × Bool := if good l m = true then (!(l.any fun p => later m p.1 p.1), true) else (false, false)
theorem cons_no {l m : List (Int × Int)} (h : good l m = false) : consP l m = (false, false) := by unfold consP; rw [if_neg (by rw [h]; simp)]
theorem cons_yes {l m : List (Int × Int)} (h : good l m = true) : consP l m = (!(l.any fun p => later m p.1 p.1), true) := by unfold consP; rw [if_pos h]
end Go.Proofs.Ytcbfnhghhbgdkaa.Consist
/- The first index at which a predicate holds; calls of closures. -/
namespace Go.Proofs.Ytcbfnhghhbgdkaa.FuncI
open Go.RowKit Pairs Rec Keep GivesI
theorem call_enter {f : FuncId} {fn : Func} {c : Code} (hf : Try.prog.funcs[f]? = some fn) (hname : (fn.name == "runtime.NumGoroutine") = false) (hb : fn.body = some c) (args : Array Value) (w : World) :
    (callFunc f args).run Try.prog w = .ok (.enter f args) w := by
  have h1 : fn.name ≠ "runtime.NumGoroutine" := by simpa using hname
  simp [callFunc, hf, h1, hb]
/-- The first index at which q holds, or -1. -/
def ix (q : Int → Bool) (L : List Int) : Int := match L.findIdx? q with | some i => (i : Int) | none => -1
theorem ix_hit {q : Int → Bool} {L : List Int} {k : Nat} {x : Int} (hp : ∀ j y, j < k → L[j]? = some y → q y = false) (hx : L[k]? = some x) (hq : q x = true) : ix q L = (k : Int) := by
  have e : L.findIdx? q = some k := by
    rw [List.findIdx?_eq_some_iff_getElem]
    obtain ⟨hk, hxe⟩ := List.getElem?_eq_some_iff.1 hx
    refine ⟨hk, by rw [hxe]; exact hq, fun j hj => ?_⟩
    rw [hp j _ hj (List.getElem?_eq_getElem (by omega))]
    simp
  unfold ix
  rw [e]
theorem ix_none {q : Int → Bool} {L : List Int} (hp : ∀ j y, j < L.length → L[j]? = some y → q y = false) : ix q L = -1 ∧ L.any q = false := by
  have h : ∀ x ∈ L, q x = false := fun x hx => by
    obtain ⟨j, hj, e⟩ := List.getElem_of_mem hx
    exact hp j x hj (by rw [List.getElem?_eq_getElem hj, e])
  constructor
  · unfold ix
    rw [List.findIdx?_eq_none_iff.2 (fun x hx => by simp [h x hx])]
  · rw [List.any_eq_false]
    exact fun x hx => by simp [h x hx]
theorem ix_any {q : Int → Bool} {L : List Int} : (0 ≤ ix q L) ↔ L.any q = true := by
  unfold ix
  cases h : L.findIdx? q with
  | some i =>
    obtain ⟨hk, hq, _⟩ := List.findIdx?_eq_some_iff_getElem.1 h
    exact ⟨fun _ => List.any_eq_true.2 ⟨_, List.getElem_mem hk, hq⟩, fun _ => by show (0 : Int) ≤ (i : Int); omega⟩
  | none =>
    rw [List.findIdx?_eq_none_iff] at h
    constructor
    · intro h0
      exact absurd h0 (by decide)
    · intro h1
      obtain ⟨x, hx, hq⟩ := List.any_eq_true.1 h1
      rw [h x hx] at hq
      cases hq
end Go.Proofs.Ytcbfnhghhbgdkaa.FuncI
