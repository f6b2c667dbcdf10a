/- Contracts of the law file's helpers on slices of strings: equality, size, copy. -/
import Derived.Test.YtkoickdndjfnhaaSplit
import Derived.Deep.QuietTactic
import Derived.BigQuiet
import Derived.Lib.SmallJoins
namespace Go.Proofs.Ytkoickdndjfnhaa.Strs
open Go.RowKit Split

/-- From ⟨b, off⟩ on the world holds the strings l. -/
def Cells (w : World) (b off : Nat) (l : List ByteArray) : Prop := ∀ i x, l[i]? = some x → w.cell? ⟨b, off + i, none⟩ = some (.string x)
theorem Cells.below {w w' : World} {b off : Nat} {l : List ByteArray} {B : Nat} (h : Cells w b off l) (hb : Below B w w') (hB : b < B) : Cells w' b off l :=
  fun i x hi => (hb.cell (p := ⟨b, off + i, none⟩) hB).trans (h i x hi)
theorem Cells.at {w : World} {b off : Nat} {l : List ByteArray} (h : Cells w b off l) (k : Nat) (hk : k < l.length) : w.cell? ⟨b, off + k, none⟩ = some (.string l[k]) :=
  h k _ (List.getElem?_eq_getElem hk)

set_option maxHeartbeats 1000000 in
theorem eqS_same (b1 o1 c1 b2 o2 c2 : Nat) (l : List ByteArray) (n : Nat) (hn : l.length = n) (hz : n ≤ 1048577) (w : World) (h1 : Cells w b1 o1 l) (h2 : Cells w b2 o2 l) :
    Calls Try.prog 18 #[.slice (some ⟨b1, o1, none⟩) n c1, .slice (some ⟨b2, o2, none⟩) n c2] w fun e w' => e = .returned (.bool true) ∧ Below w.heap.size w w' := by
  have HN := Lib.hid hn
  clear hn
  go_enter Try.func18, Try.ntmps18
  go_wp2
  go_loopw [5] (fun i wr => ∃ k m : Nat, k ≤ n ∧ i = .int .i64 k ∧ wr = w.drewN m) (fun i _ => n - (intOf i).toNat)
  case atStart => exact ⟨0, 0, Nat.zero_le _, rfl, rfl⟩
  case round =>
    obtain ⟨k, m, hk, rfl, rfl⟩ := hrel
    by_cases hlt : k < n
    · obtain ⟨x, hx⟩ : ∃ x, l[k]? = some x := ⟨_, List.getElem?_eq_getElem (by rw [HN.out]; exact hlt)⟩
      have c1 := h1 k x hx
      have c2 := h2 k x hx
      have HX := Lib.hid hx
      clear hx
      have hi : (k : Int) < (n : Int) := by omega
      go_wp2
      go_quiet (fail)
      go_wp2
      go_roundw
      case rel => exact ⟨k + 1, m + nq, by omega, by go_num, rfl⟩
      case measure => simp [intOf]; omega
    · go_wp2
      go_ret
      exact ⟨rfl, Joins.below_draws _ _ _⟩
theorem eqS_none (a1 a2 : Option Addr) (c1 c2 : Nat) (w : World) :
    Calls Try.prog 18 #[.slice a1 0 c1, .slice a2 0 c2] w fun e w' => e = .returned (.bool true) ∧ Below w.heap.size w w' := by
  go_enter Try.func18, Try.ntmps18
  go_wp2
  refine wp_loop_rounds 1 ?_
  rw [rounds_succ]
  go_wp2
  go_ret
  exact ⟨rfl, Below.refl _ _⟩

def tot (l : List ByteArray) : Nat := (l.map ByteArray.size).sum
theorem tot_append (a b : List ByteArray) : tot (a ++ b) = tot a + tot b := by simp [tot]
theorem tot_take (l : List ByteArray) (k : Nat) (hk : k < l.length) : tot (l.take (k + 1)) = tot (l.take k) + l[k].size := by
  rw [List.take_succ_eq_append_getElem hk, tot_append]
  simp [tot]
theorem tot_mono (l : List ByteArray) (k : Nat) : tot (l.take k) ≤ tot l := by
  have h := tot_append (l.take k) (l.drop k)
  rw [List.take_append_drop] at h
  omega
def SzOut (l : List ByteArray) (left : Int) (w : World) (e : Ending) (w' : World) : Prop := ∃ r : Int, e = .returned (.int .i64 r) ∧ w = w' ∧ ((r < 0 ∧ left < l.length + tot l) ∨ (0 ≤ r ∧ l.length + tot l ≤ left))

set_option maxHeartbeats 1000000 in
theorem szS_any (b o c : Nat) (l : List ByteArray) (n : Nat) (hn : l.length = n) (hz : n ≤ 9223372036854775807) (hsz : ∀ x ∈ l, x.size ≤ 9223372036854775807) (w : World) (h : Cells w b o l) :
    Calls Try.prog 21 #[.slice (some ⟨b, o, none⟩) n c, .int .i64 1048576] w (SzOut l 1048576 w) := by
  have HN := Lib.hid hn
  have HZ := Lib.hid hsz
  clear hn hsz
  by_cases hbig : 1048576 < n
  · have hb' : (1048576 : Int) - (n : Int) < 0 := by omega
    go_enter Try.func21, Try.ntmps21
    go_wp2
    go_ret
    exact ⟨-1, rfl, rfl, .inl ⟨by omega, by rw [HN.out]; omega⟩⟩
  · have hb' : ¬ (1048576 : Int) - (n : Int) < 0 := by omega
    go_enter Try.func21, Try.ntmps21
    go_wp2
    go_loop [1, 5] (fun left i => ∃ (k : Nat) (r : Int), k ≤ n ∧ i = .int .i64 k ∧ left = .int .i64 r ∧ 0 ≤ r ∧ r ≤ 1048576 ∧ Hid (r = 1048576 - (n : Int) - (tot (l.take k) : Int))) (fun _ i => n - (intOf i).toNat)
    case atStart => exact ⟨0, _, Nat.zero_le _, rfl, rfl, by omega, by omega, by simp [Hid, tot]⟩
    case round =>
      obtain ⟨k, r, hk, rfl, rfl, hr0, hr1, HR⟩ := hrel
      by_cases hlt : k < n
      · have hkl : k < l.length := by rw [HN.out]; exact hlt
        have hc := h.at k hkl
        have ht := tot_take l k hkl
        have hxz := HZ.out _ (List.getElem_mem hkl)
        have hmono := tot_mono l (k + 1)
        have HT := Lib.hid ht
        have HM := Lib.hid hmono
        clear ht hmono
        generalize l[k] = x at *
        have hi : (k : Int) < (n : Int) := by omega
        by_cases hneg : r - (x.size : Int) < 0
        · go_wp2
          go_ret
          refine ⟨-1, rfl, rfl, .inl ⟨by omega, ?_⟩⟩
          have h1 := HR.out
          have h2 := HT.out
          have h3 := HM.out
          rw [HN.out]
          omega
        · go_wp2
          go_round
          case rel => exact ⟨k + 1, r - x.size, by omega, by go_num, by go_num, by omega, by omega, by have h1 := HR.out; have h2 := HT.out; show _ = _; omega⟩
          case measure => simp [intOf]; omega
      · go_wp2
        go_ret
        refine ⟨r, rfl, rfl, .inr ⟨hr0, ?_⟩⟩
        have h1 := HR.out
        rw [List.take_of_length_le (by rw [HN.out]; omega)] at h1
        rw [HN.out]
        omega

theorem strs_get (l : List ByteArray) (k : Nat) (hk : k < l.length) : (strs l)[k]? = some (.string l[k]) := by simp [strs, hk]
/-- A row that agrees with l up to k. -/
def Upto (B : Nat) (w wr : World) (g n : Nat) (l : List ByteArray) (k : Nat) : Prop :=
  ∃ ys, wr.ownsRow B 9 1 (.slice (some ⟨g, 0, none⟩) n n) n ys ∧ (∀ i, i < k → ys[i]? = (strs l)[i]?) ∧ Below B w wr
theorem upto_step {B : Nat} {w wr : World} {g n : Nat} {l : List ByteArray} {k : Nat} (h : Upto B w wr g n l k) (hB : B ≤ g) (hk : k < n) (hl : l.length = n) :
    Upto B w (wr.setCell ⟨g, k, none⟩ (.string (l[k]'(by omega)))) g n l (k + 1) := by
  obtain ⟨ys, h1, h2, h3⟩ := h
  refine ⟨_, (h1.stored k _).1, ?_, h3.setCell (p := ⟨g, k, none⟩) hB _⟩
  intro i hi
  have hlen : ys.length = n := by have := h1.1; omega
  by_cases he : i = k
  · subst he
    rw [strs_get l i (by omega), List.getElem?_set_self (by omega)]
  · rw [List.getElem?_set_ne (by omega)]
    exact h2 i (by omega)
theorem upto_end {B : Nat} {w wr : World} {g n : Nat} {l : List ByteArray} (h : Upto B w wr g n l n) (hl : l.length = n) :
    wr.ownsRow B 9 1 (.slice (some ⟨g, 0, none⟩) n n) n (strs l) ∧ Below B w wr := by
  obtain ⟨ys, h1, h2, h3⟩ := h
  have hlen : ys.length = n := by have := h1.1; omega
  have e : ys = strs l := by
    apply List.ext_getElem?
    intro i
    by_cases hi : i < n
    · exact h2 i hi
    · rw [List.getElem?_eq_none (by omega), List.getElem?_eq_none (by rw [strs_len]; omega)]
  rw [← e]
  exact ⟨h1, h3⟩
theorem upto_facts {B : Nat} {w wr : World} {g n : Nat} {l : List ByteArray} {k : Nat} (h : Upto B w wr g n l k) : ∀ j, j < n → (∃ v, wr.cell? ⟨g, j, none⟩ = some v) ∧ wr.frozen? ⟨g, j, none⟩ = false := by
  obtain ⟨ys, h1, _, _⟩ := h
  intro j hj
  have hlen : ys.length = n := by have := h1.1; omega
  refine ⟨⟨ys[j], ?_⟩, h1.frozenAt j⟩
  rw [h1.cellAt j (by omega), List.getElem?_eq_getElem (by omega)]

/-- What toStringS leaves: a new slice with the same strings. -/
def Copied (B : Nat) (w : World) (l : List ByteArray) (e : Ending) (w' : World) : Prop :=
  ∃ g : Nat, e = .returned (.slice (some ⟨g, 0, none⟩) l.length l.length) ∧ w'.ownsRow B 9 1 (.slice (some ⟨g, 0, none⟩) l.length l.length) l.length (strs l) ∧ Below B w w'

set_option maxHeartbeats 1000000 in
theorem toS_any (b o c : Nat) (l : List ByteArray) (n : Nat) (hn : l.length = n) (hz : n ≤ 1048577) (w : World) (hbw : b < w.heap.size) (h : Cells w b o l) :
    Calls Try.prog 22 #[.slice (some ⟨b, o, none⟩) n c] w (Copied w.heap.size w l) := by
  obtain ⟨i0, hi, hz0, hz1, hz2⟩ := info_parts infoS
  obtain ⟨B, hB⟩ : ∃ B, w.heap.size = B := ⟨_, rfl⟩
  have HN := Lib.hid hn
  have HB := Lib.hid hB
  rw [hB]
  clear hn hB
  go_enter Try.func22, Try.ntmps22
  go_wp2_with (at_make; refine wpList_make_full _ rfl _ _ 26 rfl B 9 i0 (.string ⟨#[]⟩) 1 Try.underlying26 hi hz0 hz1 .i64 .i64 _ _ n rfl rfl (by omega) (by omega) (by rw [hz2]; omega) (by unfold maxLen; omega) (by rw [HB.out]; omega) ?_; intro w1 hown hgrow)
  have hU : Upto B w w1 B n l 0 := by
    rw [HB.out] at hown
    exact ⟨_, hown, fun i hi => absurd hi (by omega), (Below.refl _ _).grown hgrow (by rw [HB.out]; omega) (fun k hk => by cases hk)⟩
  clear hown hgrow
  rw [HB.out]
  go_loopw [4] (fun i wr => ∃ k : Nat, k ≤ n ∧ i = .int .i64 k ∧ Upto B w wr B n l k) (fun i _ => n - (intOf i).toNat)
  case atStart => exact ⟨0, Nat.zero_le _, rfl, hU⟩
  case round =>
    obtain ⟨k, hk, rfl, hR⟩ := hrel
    clear hU
    by_cases hlt : k < n
    · have hkl : k < l.length := by rw [HN.out]; exact hlt
      have hbel : Below B w wr := by obtain ⟨_, _, _, h3⟩ := hR; exact h3
      have hc := (h.below hbel (by rw [← HB.out]; exact hbw)).at k hkl
      obtain ⟨⟨v0, hv0⟩, hf0⟩ := upto_facts hR k hlt
      have hR' := upto_step hR (Nat.le_refl _) hlt HN.out
      have hR2 := Lib.hid hR'
      clear hR' hR hbel
      generalize l[k] = x at *
      have hi : (k : Int) < (n : Int) := by omega
      go_wp2
      go_roundw
      case rel => exact ⟨k + 1, by omega, by go_num, hR2.out⟩
      case measure => simp [intOf]; omega
    · obtain rfl : k = n := by omega
      have hE := upto_end hR HN.out
      go_wp2
      go_ret
      refine ⟨B, ?_, ?_, hE.2⟩
      · rw [HN.out]; rfl
      · rw [HN.out]; exact hE.1
set_option maxHeartbeats 1000000 in
theorem toS_none (a : Option Addr) (c : Nat) (w : World) :
    Calls Try.prog 22 #[.slice a 0 c] w (Copied w.heap.size w []) := by
  obtain ⟨i0, hi, hz0, hz1, hz2⟩ := info_parts infoS
  obtain ⟨B, hB⟩ : ∃ B, w.heap.size = B := ⟨_, rfl⟩
  have HB := Lib.hid hB
  rw [hB]
  clear hB
  go_enter Try.func22, Try.ntmps22
  go_wp2_with (at_make; refine wpList_make_full _ rfl _ _ 26 rfl B 9 i0 (.string ⟨#[]⟩) 1 Try.underlying26 hi hz0 hz1 .i64 .i64 _ _ 0 rfl rfl (by omega) (by omega) (by omega) (by unfold maxLen; omega) (by rw [HB.out]; omega) ?_; intro w1 hown hgrow)
  have hE : w1.ownsRow B 9 1 (.slice (some ⟨B, 0, none⟩) 0 0) 0 [] ∧ Below B w w1 := by
    rw [HB.out] at hown
    refine ⟨?_, (Below.refl _ _).grown hgrow (by rw [HB.out]; omega) (fun k hk => by cases hk)⟩
    have e : (madeCells (Value.string ⟨#[]⟩).cells (0 * 1)).toList = [] := List.length_eq_zero_iff.1 (by have := hown.1; simpa using this)
    rw [e] at hown
    exact hown
  have HE := Lib.hid hE
  clear hown hgrow hE
  refine wp_loop_rounds 1 ?_
  rw [rounds_succ]
  go_wp2
  go_ret
  exact ⟨B, by rw [← HB.out]; rfl, HE.out.1, HE.out.2⟩
end Go.Proofs.Ytkoickdndjfnhaa.Strs
