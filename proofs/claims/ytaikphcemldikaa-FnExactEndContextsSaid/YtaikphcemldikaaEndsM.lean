/- Ends of a record and the rows of the table. -/
import Derived.Test.YtaikphcemldikaaEnds
import Derived.Test.YtaikphcemldikaaIsLater
namespace Go.Proofs.Ytaikphcemldikaa.Ends2
open Go.RowKit Go.Maps Pairs Rec Chain Find2 GoodM Keep GivesI Lows Order Idx Table Bit IsLater
theorem reach_lo {m : Ps} {a b : Int} (h : Chain.Reach m a b) : loB m b = true := by
  cases h with
  | one e => exact List.any_eq_true.2 ⟨(a, b), e, by simp⟩
  | more _ e => exact List.any_eq_true.2 ⟨_, e, by simp⟩
theorem reach_up {m : Ps} {a b : Int} (h : Chain.Reach m a b) : upB m a = true := by
  induction h with
  | one e => exact List.any_eq_true.2 ⟨_, e, by simp⟩
  | more _ _ ih => exact ih
theorem num_at {l m : List (Int × Int)} (hg : good l m = true) {x y : Int} {i : Nat} (hx : l[i]? = some (x, y)) : isAt l x = some i := by
  have hA := (good_asc hg).1
  have hil := (List.getElem?_eq_some_iff.1 hx).1
  have e : (isAt l x).isSome = true := isAt_keys.2 (List.mem_map.2 ⟨(x, y), List.mem_of_getElem? hx, rfl⟩)
  obtain ⟨j, hj⟩ := Option.isSome_iff_exists.1 e
  obtain ⟨y2, hy2⟩ := isAt_num hj
  rcases Nat.lt_trichotomy j i with h | h | h
  · have := hA.lt (i - j - 1) j (x, y2) (x, y) hy2 (by rw [show j + (i - j - 1) + 1 = i by omega]; exact hx)
    simp at this
  · rw [hj, h]
  · have := hA.lt (j - i - 1) i (x, y) (x, y2) hx (by rw [show i + (j - i - 1) + 1 = j by omega]; exact hy2)
    simp at this
def orN (L : List Nat) (k : Nat) : Nat := (L.take k).foldl (· ||| ·) 0
theorem or_next {L : List Nat} {k x : Nat} (hx : L[k]? = some x) : orN L (k + 1) = orN L k ||| x := by
  unfold orN
  rw [List.take_add_one, hx, List.foldl_append]
  rfl
theorem or_bit (L : List Nat) (j : Nat) : ∀ A : Nat, (L.foldl (· ||| ·) A).testBit j = (A.testBit j || L.any (fun x => x.testBit j)) := by
  induction L with
  | nil => intro A; simp
  | cons x r ih =>
    intro A
    rw [List.foldl_cons, ih, Nat.testBit_or, List.any_cons, Bool.or_assoc]
theorem or_lt {n : Nat} {L : List Nat} (h : ∀ (i x : Nat), L[i]? = some x → x < 2 ^ n) : ∀ k, k ≤ L.length → orN L k < 2 ^ n
  | 0, _ => Nat.two_pow_pos n
  | k + 1, hk => by
    have hx := List.getElem?_eq_getElem (show k < L.length by omega)
    rw [or_next hx]
    exact Nat.or_lt_two_pow (or_lt h k (by omega)) (h k _ hx)
theorem or_all {l m : List (Int × Int)} {n1 : Nat} {L : List Nat} (hg : good l m = true) (hl : l.length = n1) (T : Tbl n1 L (W (Ed l m) n1)) {b : Int} {j : Nat} (hj : isAt l b = some j) : (orN L n1).testBit j = loB m b := by
  unfold orN
  rw [List.take_of_length_le (by rw [T.len]; exact Nat.le_refl _), or_bit]
  simp only [Nat.zero_testBit, Bool.false_or]
  cases h : loB m b with
  | true =>
    obtain ⟨⟨a, b'⟩, hm, e⟩ := List.any_eq_true.1 h
    obtain rfl : b' = b := by simpa using e
    obtain ⟨i, hi⟩ := (good_ends hg a b' hm).1
    have hil : i < L.length := by rw [T.len, ← hl]; exact isAt_lt hi
    refine List.any_eq_true.2 ⟨L[i], List.getElem_mem hil, ?_⟩
    rw [tbit hg hl T hi hj (List.getElem?_eq_getElem hil)]
    exact later_iff.2 (.one hm)
  | false =>
    cases h2 : L.any (fun x => x.testBit j) with
    | false => rfl
    | true =>
      obtain ⟨x, hx, e⟩ := List.any_eq_true.1 h2
      obtain ⟨i, hi, rfl⟩ := List.getElem_of_mem hx
      have hil : i < l.length := by rw [hl, ← T.len]; exact hi
      have hp := num_at hg (x := l[i].1) (y := l[i].2) (List.getElem?_eq_getElem hil)
      rw [tbit hg hl T hp hj (List.getElem?_eq_getElem hi)] at e
      rw [reach_lo (later_iff.1 e)] at h
      cases h
theorem row_none {l m : List (Int × Int)} {n1 : Nat} {L : List Nat} (hg : good l m = true) (hl : l.length = n1) (T : Tbl n1 L (W (Ed l m) n1)) {a : Int} {i x : Nat} (hi : isAt l a = some i) (hx : L[i]? = some x) : (x = 0 ↔ upB m a = false) := by
  constructor
  · rintro rfl
    cases h : upB m a with
    | false => rfl
    | true =>
      obtain ⟨⟨a', b⟩, hm, e⟩ := List.any_eq_true.1 h
      obtain rfl : a' = a := by simpa using e
      obtain ⟨j, hj⟩ := (good_ends hg a' b hm).2
      have := tbit hg hl T hi hj hx
      rw [later_iff.2 (.one hm)] at this
      simp at this
  · intro h
    refine Nat.eq_of_testBit_eq fun j => ?_
    rw [Nat.zero_testBit]
    by_cases hj : j < n1
    · have hjl : j < l.length := by omega
      have hp := num_at hg (x := l[j].1) (y := l[j].2) (List.getElem?_eq_getElem hjl)
      rw [tbit hg hl T hi hp hx]
      cases h2 : later m a l[j].1 with
      | false => rfl
      | true =>
        rw [reach_up (later_iff.1 h2)] at h
        cases h
    · exact Nat.testBit_lt_two_pow (Nat.lt_of_lt_of_le (T.bd i x hx) (Nat.pow_le_pow_right (by decide) (by omega)))
/-- Two lists under way, apart from each other and from the table. -/
def Two (B : Nat) (W wr : World) (gt n : Nat) (T : List Nat) (v1 : Value) (L1 : List Int) (v2 : Value) (L2 : List Int) : Prop :=
  ∃ g1 k1 d1 g2 k2 d2, v1 = .slice (some ⟨g1, 0, none⟩) k1 d1 ∧ L1.length = k1 ∧ v2 = .slice (some ⟨g2, 0, none⟩) k2 d2 ∧ L2.length = k2 ∧ g1 ≠ g2 ∧ gt ≠ g1 ∧ gt ≠ g2 ∧ wr.ownsRow B 3 1 v1 k1 (ints L1) ∧ wr.ownsRow B 3 1 v2 k2 (ints L2) ∧ HoldsI wr (some ⟨gt, 0, none⟩) n (intsN T) ∧ gt < wr.heap.size ∧ Below B W wr
theorem Two.swap {B : Nat} {W wr : World} {gt n : Nat} {T : List Nat} {v1 v2 : Value} {L1 L2 : List Int} (h : Two B W wr gt n T v1 L1 v2 L2) : Two B W wr gt n T v2 L2 v1 L1 := by
  obtain ⟨g1, k1, d1, g2, k2, d2, h1, h2, h3, h4, h5, h6, h7, h8, h9, h10⟩ := h
  exact ⟨g2, k2, d2, g1, k1, d1, h3, h4, h1, h2, Ne.symm h5, h7, h6, h9, h8, h10⟩
theorem holdsI_grown {w w' : World} {g r n : Nat} {L : List Int} (h : HoldsI w (some ⟨g, 0, none⟩) n L) (hlt : g < w.heap.size) (hg : w.grownBy w' (some r)) (hne : g ≠ r) : HoldsI w' (some ⟨g, 0, none⟩) n L := by
  refine ⟨h.1, ?_⟩
  rcases h.2 with h0 | ⟨b, off, hp, hb, hc⟩
  · exact .inl h0
  · injection hp with hp
    injection hp with h1 h2
    subst h1 h2
    exact .inr ⟨g, 0, rfl, Nat.lt_of_lt_of_le hlt hg.size, fun i x hi => (World.cell?_of_block (w := w) (w' := w') (a := ⟨g, 0 + i, none⟩) (hg.block g hlt (fun e => hne (Option.some.inj e)))).trans (hc i x hi)⟩
theorem Two.app {B : Nat} {W wr w9 : World} {gt n g1 k1 d1 g9 cap9 : Nat} {T : List Nat} {v2 : Value} {L1 L2 : List Int} {x : Int} (h : Two B W wr gt n T (.slice (some ⟨g1, 0, none⟩) k1 d1) L1 v2 L2) (hB : B ≤ wr.heap.size)
    (hown' : w9.ownsRow B 3 1 (.slice (some ⟨g9, 0, none⟩) (k1 + 1) cap9) (k1 + 1) (ints L1 ++ [.int .i64 x])) (hgrow : (wr.alloc (.cells #[.int .i64 x] 3)).grownBy w9 (some g1)) (hat : some g1 = some g9 ∨ g9 = (wr.alloc (.cells #[.int .i64 x] 3)).heap.size) :
    Two B W w9 gt n T (.slice (some ⟨g9, 0, none⟩) (k1 + 1) cap9) (L1 ++ [x]) v2 L2 := by
  obtain ⟨g1', k1', d1', g2, k2, d2, h1, h2, h3, h4, h5, h6, h7, h8, h9, h10, h11, h12⟩ := h
  injection h1 with e1 e2 e3
  injection e1 with e1
  injection e1 with e1
  subst e1 e2 e3 h3
  have hw0 := below_alloc wr (.cells #[.int .i64 x] 3)
  have hg2 := (h9.lt g2 rfl).2
  have hz : (wr.alloc (.cells #[.int .i64 x] 3)).heap.size = wr.heap.size + 1 := by simp
  have hs9 := hgrow.size
  refine ⟨g9, _, cap9, g2, k2, d2, rfl, by rw [List.length_append, h2]; rfl, rfl, h4, ?_, ?_, h7, ?_, (h9.alloc _).kept hgrow (.inr (by show some g2 ≠ some g1; intro e; injection e with e; omega)), holdsI_grown (h10.below hw0) (by omega) hgrow h6, by omega, (h12.alloc hB _).grown hgrow (by omega) (fun j hj => (h8.lt j hj).1)⟩
  · rcases hat with h | h
    · have := Option.some.inj h
      omega
    · omega
  · rcases hat with h | h
    · have := Option.some.inj h
      omega
    · omega
  · rw [That.ints_append]
    exact hown'
end Go.Proofs.Ytaikphcemldikaa.Ends2
