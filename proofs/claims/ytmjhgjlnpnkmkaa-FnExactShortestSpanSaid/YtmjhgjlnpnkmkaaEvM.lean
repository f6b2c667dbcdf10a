/- Evidence in plain words: which dated contexts are valid for the contexts of a record. -/
import Derived.Test.YtmjhgjlnpnkmkaaDa
import Derived.Test.YtmjhgjlnpnkmkaaRedS
namespace Go.Proofs.Ytmjhgjlnpnkmkaa.EvM
open Go.RowKit Pairs Find2 GoodM Da RedS
def yr (y : Int) : Bool := decide (-20000 ≤ y) && decide (y ≤ 2100)
def ivl (f t : Int) : Bool := yr f && yr t && decide (f ≤ t)
def dtd (l : List (Int × Int)) (x : Dt) : Bool := (isAt l x.1).isSome && ivl x.2.1 x.2.2
/-- The number ahead of the i-th is less. -/
def asD (L : List Dt) (i : Nat) : Bool := match L[i - 1]?, L[i]? with | some p, some q => i == 0 || decide (p.1 < q.1) | _, _ => true
def okE (l : List (Int × Int)) (L : List Dt) (i : Nat) : Bool := match L[i]? with | some x => dtd l x && asD L i | none => true
def evi (l : List (Int × Int)) (L : List Dt) : Bool := (List.range L.length).all (okE l L)
def PastE (l : List (Int × Int)) (L : List Dt) (k : Nat) : Prop := ∀ j, j < k → okE l L j = true
theorem PastE.next {l : List (Int × Int)} {L : List Dt} {k : Nat} (h : PastE l L k) (hk : okE l L k = true) : PastE l L (k + 1) := by
  intro j hj
  by_cases e : j = k
  · subst e; exact hk
  · exact h j (by omega)
theorem evi_bad {l : List (Int × Int)} {L : List Dt} {k : Nat} (hk : k < L.length) (h : okE l L k = false) : evi l L = false := by
  unfold evi
  rw [List.all_eq_false]
  exact ⟨k, List.mem_range.2 hk, by rw [h]; simp⟩
theorem evi_good {l : List (Int × Int)} {L : List Dt} (h : PastE l L L.length) : evi l L = true :=
  List.all_eq_true.2 (fun j hj => h j (List.mem_range.1 hj))
theorem okE_at {l : List (Int × Int)} {L : List Dt} {k : Nat} {x y z : Int} (hx : L[k]? = some (x, y, z)) : okE l L k = (((isAt l x).isSome && ivl y z) && asD L k) := by
  unfold okE
  rw [hx]
  rfl
theorem asD_zero {L : List Dt} : asD L 0 = true := by
  unfold asD
  cases L[0 - 1]? <;> cases L[0]? <;> rfl
theorem asD_at {L : List Dt} {k : Nat} {x y z x' y' z' : Int} (hx : L[k]? = some (x, y, z)) (hk : 0 < k) (hp : L[k - 1]? = some (x', y', z')) : asD L k = decide (x' < x) := by
  unfold asD
  rw [hx, hp]
  have : (k == 0) = false := by simp; omega
  simp only [this, Bool.false_or]
noncomputable def evP (l m : List (Int × Int)) (L : List Dt) : Bool := (good l m && !cyc l m) && evi l L
theorem ivl_f {f t : Int} (h : yr f = false) : ivl f t = false := by unfold ivl; rw [h]; rfl
theorem ivl_t {f t : Int} (h : yr t = false) : ivl f t = false := by unfold ivl; rw [h]; cases yr f <;> rfl
theorem ivl_ft {f t : Int} (h : yr f = true) (h2 : yr t = true) : ivl f t = decide (f ≤ t) := by unfold ivl; rw [h, h2]; rfl
end Go.Proofs.Ytmjhgjlnpnkmkaa.EvM
