/- Plain facts on decimal numerals: the numeral of a number of at most six digits is read back as that number, by the library's strconv.Atoi as the shelf tells it and digit by digit. No program in this text. -/
import Derived.Lib.ItoaLen
import Derived.Lib.AtoiAll
import Derived.Lib.Atoi
namespace Go.Proofs.YtaikphcemldikaaDoor.Dec

theorem decFrom_snoc (c : UInt8) : ∀ (l : List UInt8) (acc : Nat), Lib.decFrom acc (l ++ [c]) = (Lib.decFrom acc l).bind fun n => (Lib.digitVal c).map fun d => n * 10 + d
  | [], acc => by cases h : Lib.digitVal c <;> simp [Lib.decFrom, h]
  | b :: r, acc => by
    cases h : Lib.digitVal b with
    | none => simp [Lib.decFrom, h]
    | some d => simp only [List.cons_append, Lib.decFrom, h]; exact decFrom_snoc c r _

theorem digitVal_digit (d : Nat) (h : d < 10) : Lib.digitVal (UInt8.ofNat (48 + d)) = some d := by
  have : ∀ d : Fin 10, Lib.digitVal (UInt8.ofNat (48 + d)) = some d.val := by decide
  exact this ⟨d, h⟩

theorem decFrom_digits (u : Nat) : Lib.decFrom 0 (Lib.decDigits u) = some u := by
  induction u using Nat.strongRecOn with
  | ind u ih =>
    by_cases h : u < 10
    · rw [Lib.decDigits_one h]
      simp only [Lib.decFrom, digitVal_digit u h]
      simp
    · rw [Lib.decDigits, dif_neg h, decFrom_snoc, ih (u / 10) (by omega), digitVal_digit _ (by omega)]
      simp
      omega

theorem decFrom_ge : ∀ (l : List UInt8) (acc u : Nat), Lib.decFrom acc l = some u → acc ≤ u
  | [], acc, u, h => by simp [Lib.decFrom] at h; omega
  | b :: r, acc, u, h => by
    simp only [Lib.decFrom] at h
    cases hb : Lib.digitVal b with
    | none => rw [hb] at h; cases h
    | some d => rw [hb] at h; have := decFrom_ge r _ u h; omega

theorem parse_of_dec : ∀ (l : List UInt8) (acc u : Nat), Lib.decFrom acc l = some u → u < 1000000000000000000 → Lib.parseUint10 acc l = .ok u
  | [], acc, u, h, _ => by simp [Lib.decFrom] at h; simp [Lib.parseUint10, h]
  | b :: r, acc, u, h, hu => by
    simp only [Lib.decFrom] at h
    cases hb : Lib.digitVal b with
    | none => rw [hb] at h; cases h
    | some d =>
      rw [hb] at h
      have hg := decFrom_ge r _ u h
      obtain ⟨h1, h2, h3⟩ := Lib.digitVal_eq hb
      subst h3
      rw [Lib.parseUint10, if_pos ⟨h1, h2⟩, if_neg (by omega), if_neg (by omega)]
      exact parse_of_dec r _ u h hu

theorem digits_ne (u : Nat) : Lib.decDigits u ≠ [] := by
  have := Lib.decDigits_length u
  have h1 := Lib.nDigits_pos u
  intro e
  rw [e] at this
  simp at this
  omega

theorem digits_head (u : Nat) (c : UInt8) (r : List UInt8) (h : Lib.decDigits u = c :: r) : 48 ≤ c.toNat ∧ c.toNat ≤ 57 := by
  have hd := decFrom_digits u
  obtain ⟨d, hd⟩ := Lib.digit_of_decFrom _ 0 u hd 0 c (by rw [h]; rfl)
  obtain ⟨h1, h2, _⟩ := Lib.digitVal_eq hd
  exact ⟨h1, h2⟩

theorem nDigits_six (u : Nat) (h : u ≤ 999999) : Lib.nDigits u ≤ 6 := by
  have key : ∀ k u, u < 10 ^ (k + 1) → Lib.nDigits u ≤ k + 1 := by
    intro k
    induction k with
    | zero => intro u hu; rw [Lib.nDigits_small (by simpa using hu)]; omega
    | succ k ih =>
      intro u hu
      by_cases h10 : u < 10
      · rw [Lib.nDigits_small h10]; omega
      · rw [Lib.nDigits_big h10]
        have := ih (u / 10) (by rw [Nat.pow_succ] at hu; omega)
        omega
  exact key 5 u (by show u < 1000000; omega)

theorem atoi_itoa (n : Int) (h0 : -999999 ≤ n) (h1 : n ≤ 999999) : Lib.atoiAll (Lib.itoa n) = .ok n := by
  by_cases h : n < 0
  · unfold Lib.itoa
    rw [if_pos h]
    have hp : Lib.parseMag (Lib.decDigits n.natAbs) = .ok n.natAbs := by
      unfold Lib.parseMag
      rw [if_neg (digits_ne _)]
      exact parse_of_dec _ 0 _ (decFrom_digits _) (by omega)
    simp only [Lib.atoiAll]
    rw [if_pos (by decide), hp]
    simp only
    rw [if_neg (by intro hh; exact hh.1 (by decide)), if_neg (by omega), if_pos (by decide)]
    congr 1
    omega
  · unfold Lib.itoa
    rw [if_neg h]
    have hp : Lib.parseMag (Lib.decDigits n.toNat) = .ok n.toNat := by
      unfold Lib.parseMag
      rw [if_neg (digits_ne _)]
      exact parse_of_dec _ 0 _ (decFrom_digits _) (by omega)
    cases hd : Lib.decDigits n.toNat with
    | nil => exact absurd hd (digits_ne _)
    | cons c r =>
      have hc := digits_head _ c r hd
      rw [hd] at hp
      simp only [Lib.atoiAll]
      rw [if_neg (by omega), hp]
      simp only
      rw [if_neg (by omega), if_neg (by omega), if_neg (by omega)]
      congr 1
      omega

def itoaB (n : Int) : ByteArray := ⟨(Lib.itoa n).toArray⟩
theorem itoaB_list (n : Int) : (itoaB n).data.toList = Lib.itoa n := by simp [itoaB]

/-- What ParseInt returns: the number whose numeral the string is, if it has at most six digits. -/
def pv (s : ByteArray) : Option Int :=
  match Lib.atoiAll s.data.toList with
  | .ok v => if (-999999 ≤ v ∧ v ≤ 999999) ∧ itoaB v = s then some v else none
  | _ => none

theorem pv_iff (s : ByteArray) (n : Int) : pv s = some n ↔ (-999999 ≤ n ∧ n ≤ 999999) ∧ itoaB n = s := by
  constructor
  · intro h
    unfold pv at h
    split at h
    · split at h
      · rename_i hh
        obtain rfl := Option.some.inj h
        exact hh
      · cases h
    · cases h
  · rintro ⟨⟨h0, h1⟩, rfl⟩
    unfold pv
    rw [itoaB_list, atoi_itoa n h0 h1]
    simp [h0, h1]

/-- The string without its sign. -/
def tl (s : ByteArray) : List UInt8 := if 1 < s.size ∧ s.data.toList[0]? = some 45 then s.data.toList.drop 1 else s.data.toList
def sg (s : ByteArray) (m : Nat) : Int := if 1 < s.size ∧ s.data.toList[0]? = some 45 then -(m : Int) else m

/-- If the string is a numeral, what stands behind the sign are its digits. -/
theorem tl_of (s : ByteArray) (n : Int) (h : pv s = some n) : ∃ u : Nat, u ≤ 999999 ∧ tl s = Lib.decDigits u ∧ sg s u = n := by
  obtain ⟨⟨h0, h1⟩, rfl⟩ := (pv_iff s n).1 h
  have hl := itoaB_list n
  have hz : (itoaB n).size = (Lib.itoa n).length := by simp [itoaB, ByteArray.size]
  unfold tl sg
  rw [hl, hz]
  unfold Lib.itoa
  by_cases hn : n < 0
  · refine ⟨n.natAbs, by omega, ?_⟩
    have h2 : 1 < (45 :: Lib.decDigits n.natAbs).length := by
      have := Lib.decDigits_length n.natAbs
      have := Lib.nDigits_pos n.natAbs
      simp; omega
    rw [if_pos hn, if_pos ⟨h2, rfl⟩, if_pos ⟨h2, rfl⟩]
    exact ⟨rfl, by omega⟩
  · refine ⟨n.toNat, by omega, ?_⟩
    rw [if_neg hn]
    have h3 : ¬ (1 < (Lib.decDigits n.toNat).length ∧ (Lib.decDigits n.toNat)[0]? = some 45) := by
      rintro ⟨_, hh⟩
      cases hd : Lib.decDigits n.toNat with
      | nil => rw [hd] at hh; cases hh
      | cons c r =>
        rw [hd] at hh
        have hc := digits_head _ c r hd
        obtain rfl : c = 45 := by simpa using hh
        have : (45 : UInt8).toNat = 45 := rfl
        omega
    rw [if_neg h3, if_neg h3]
    exact ⟨rfl, by omega⟩

theorem pv_none_of_size (s : ByteArray) (h : (tl s).length < 1 ∨ 6 < (tl s).length) : pv s = none := by
  cases hp : pv s with
  | none => rfl
  | some n =>
    obtain ⟨u, hu, ht, _⟩ := tl_of s n hp
    have h1 := Lib.decDigits_length u
    have h2 := Lib.nDigits_pos u
    have h3 := nDigits_six u hu
    rw [ht] at h
    omega
theorem pv_none_of_byte (s : ByteArray) (k : Nat) (c : UInt8) (hk : (tl s)[k]? = some c) (h : Lib.digitVal c = none) : pv s = none := by
  cases hp : pv s with
  | none => rfl
  | some n =>
    obtain ⟨u, _, ht, _⟩ := tl_of s n hp
    obtain ⟨d, hd⟩ := Lib.digit_of_decFrom _ 0 u (decFrom_digits u) k c (by rw [← ht]; exact hk)
    rw [hd] at h
    cases h
theorem pv_end (s : ByteArray) (m : Nat) (hm : Lib.decFrom 0 (tl s) = some m) (h6 : (tl s).length ≤ 6) : pv s = if itoaB (sg s m) = s then some (sg s m) else none := by
  have hb : m < 1000000 := by
    have h1 := Lib.decFrom_lt _ 0 m hm
    have h2 := Nat.pow_le_pow_right (n := 10) (by decide) h6
    have e : (10 : Nat) ^ 6 = 1000000 := by decide
    omega
  have hr : -999999 ≤ sg s m ∧ sg s m ≤ 999999 := by unfold sg; split <;> omega
  split
  · rename_i h
    exact (pv_iff s _).2 ⟨hr, h⟩
  · rename_i h
    cases hp : pv s with
    | none => rfl
    | some n =>
      obtain ⟨u, _, ht, hs⟩ := tl_of s n hp
      rw [ht, decFrom_digits u] at hm
      obtain rfl := Option.some.inj hm
      rw [hs] at h
      exact absurd ((pv_iff s n).1 hp).2 h
end Go.Proofs.YtaikphcemldikaaDoor.Dec
