/- Distributions, the mathematics: greatest common divisors of lists, what is valid. -/
import Derived.Test.YtfbgekhkbbhggaaIbr
namespace Go.Proofs.Ytfbgekhkbbhggaa.DvM
def G (a b : Int) : Int := ((Nat.gcd a.toNat b.toNat : Nat) : Int)
theorem G_nonneg (a b : Int) : 0 ≤ G a b := Int.natCast_nonneg _
theorem G_zero {a : Int} (h : 0 ≤ a) : G a 0 = a := by
  unfold G
  rw [show (0 : Int).toNat = 0 from rfl, Nat.gcd_zero_right]
  omega
theorem G_step {a b : Int} (ha : 0 ≤ a) (hb : 0 < b) : G b (a % b) = G a b := by
  obtain ⟨m, rfl⟩ := Int.eq_ofNat_of_zero_le ha
  obtain ⟨n, rfl⟩ := Int.eq_ofNat_of_zero_le (Int.le_of_lt hb)
  rw [← Int.natCast_emod]
  unfold G
  simp only [Int.toNat_natCast]
  rw [Nat.gcd_comm n (m % n), ← Nat.gcd_rec, Nat.gcd_comm]
theorem mod_bd {a b : Int} (hb : 0 < b) : 0 ≤ a % b ∧ a % b < b := ⟨Int.emod_nonneg _ (by omega), Int.emod_lt_of_pos _ hb⟩
/-- The greatest common divisor of a list. -/
def dv (L : List Int) : Int := L.foldl G 0
theorem dv_app (L : List Int) (x : Int) : dv (L ++ [x]) = G (dv L) x := by unfold dv; rw [List.foldl_append]; rfl
theorem dv_take {L : List Int} {k : Nat} {x : Int} (h : L[k]? = some x) : dv (L.take (k + 1)) = G (dv (L.take k)) x := by
  rw [List.take_add_one, h]
  exact dv_app _ _
theorem fold_nonneg : ∀ (L : List Int) (a : Int), 0 ≤ a → 0 ≤ L.foldl G a
  | [], _, h => h
  | x :: L, a, _ => fold_nonneg L _ (G_nonneg a x)
theorem dv_nonneg (L : List Int) : 0 ≤ dv L := fold_nonneg L 0 (Int.le_refl 0)
/-- All weights are within 0..m. -/
def upTo (m : Int) (L : List Int) : Bool := L.all fun x => decide (0 ≤ x ∧ x ≤ m)
def isY (y : Int) : Bool := decide (-20000 ≤ y ∧ y ≤ 2100)
/-- What is a valid distribution. -/
def okD (f : Int) (L : List Int) : Bool :=
  decide (0 < L.length ∧ L.length ≤ 60) && upTo 1000000 L && decide (0 < L.getD 0 0 ∧ 0 < L.getD (L.length - 1) 0) && decide (-20000 ≤ f ∧ f + L.length - 1 ≤ 2100) && decide (dv L = 1)
theorem upTo_mem {m : Int} {L : List Int} (h : upTo m L = true) {x : Int} (hx : x ∈ L) : 0 ≤ x ∧ x ≤ m := by
  unfold upTo at h
  rw [List.all_eq_true] at h
  exact of_decide_eq_true (h x hx)
theorem upTo_any (m : Int) (L : List Int) : upTo m L = !(L.any fun x => decide (x < 0) || decide (m < x)) := by
  unfold upTo
  rw [List.not_any_eq_all_not]
  congr 1
  funext x
  by_cases h1 : x < 0
  · simp [h1]; omega
  · by_cases h2 : m < x
    · simp [h1, h2]
    · simp [h1, h2]; omega
structure OkD (f : Int) (L : List Int) : Prop where
  pos : 0 < L.length
  len : L.length ≤ 60
  all : upTo 1000000 L = true
  fst : 0 < L.getD 0 0
  lst : 0 < L.getD (L.length - 1) 0
  lo : -20000 ≤ f
  hi : f + L.length - 1 ≤ 2100
  one : dv L = 1
theorem okD_iff {f : Int} {L : List Int} : okD f L = true ↔ OkD f L := by
  unfold okD
  simp only [Bool.and_eq_true, decide_eq_true_eq]
  exact ⟨fun ⟨⟨⟨⟨⟨a, b⟩, c⟩, d, e⟩, g, h⟩, i⟩ => ⟨a, b, c, d, e, g, h, i⟩, fun ⟨a, b, c, d, e, g, h, i⟩ => ⟨⟨⟨⟨⟨a, b⟩, c⟩, d, e⟩, g, h⟩, i⟩⟩
theorem okD_not {f : Int} {L : List Int} (h : OkD f L → False) : okD f L = false := by
  rw [Bool.eq_false_iff]
  exact fun e => h (okD_iff.1 e)
theorem getD_of {L : List Int} {i : Nat} {x : Int} (h : L[i]? = some x) : L.getD i 0 = x := by rw [List.getD_eq_getElem?_getD, h]; rfl
end Go.Proofs.Ytfbgekhkbbhggaa.DvM
