/- Lists of ints: what a function that makes one of a record is said to do; the laws' eqIntS, markIntS, heldIntS. -/
import Derived.Test.YtfbgekhkbbhggaaMark2
import Derived.Test.YtfbgekhkbbhggaaLawKit
import Derived.BigQuiet
namespace Go.Proofs.Ytfbgekhkbbhggaa.GivesI
open Go.RowKit Pairs Rec Keep
def ints (L : List Int) : List Value := L.map (Value.int .i64)
theorem ints_len (L : List Int) : (ints L).length = L.length := by unfold ints; simp
theorem ints_at {L : List Int} {i : Nat} {x : Int} (h : L[i]? = some x) : (ints L)[i]? = some (.int .i64 x) := by unfold ints; rw [List.getElem?_map, h]; rfl
def HoldsI (w : World) (p : Option Addr) (n : Nat) (L : List Int) : Prop :=
  L.length = n ∧ (n = 0 ∨ ∃ b off, p = some ⟨b, off, none⟩ ∧ b < w.heap.size ∧ ∀ (i : Nat) (x : Int), L[i]? = some x → w.cell? ⟨b, off + i, none⟩ = some (.int .i64 x))
theorem HoldsI.below {w w' : World} {p : Option Addr} {n : Nat} {L : List Int} (h : HoldsI w p n L) (hb : Below w.heap.size w w') : HoldsI w' p n L := by
  obtain ⟨h1, h2⟩ := h
  refine ⟨h1, ?_⟩
  rcases h2 with h2 | ⟨b, off, ha, hbw, hc⟩
  · exact .inl h2
  · exact .inr ⟨b, off, ha, Nat.lt_of_lt_of_le hbw hb.size, fun i x hi => (hb.cell (p := ⟨b, off + i, none⟩) hbw).trans (hc i x hi)⟩
theorem HoldsI.at {w : World} {p : Option Addr} {n : Nat} {L : List Int} (h : HoldsI w p n L) (k : Nat) (hk : k < n) : ∃ b off x, p = some ⟨b, off, none⟩ ∧ L[k]? = some x ∧ w.cell? ⟨b, off + k, none⟩ = some (.int .i64 x) := by
  obtain ⟨h1, h2⟩ := h
  rcases h2 with h2 | ⟨b, off, ha, hbw, hc⟩
  · omega
  · have hl : k < L.length := by omega
    exact ⟨b, off, L[k], ha, List.getElem?_eq_getElem hl, hc k _ (List.getElem?_eq_getElem hl)⟩
theorem holds_own {w : World} {B n c : Nat} {p : Option Addr} {L : List Int} (h : w.ownsRow B 3 1 (.slice p n c) n (ints L)) : HoldsI w p n L := by
  have hl : L.length = n := by have := h.1; rw [ints_len] at this; omega
  rcases h.2 with ⟨hv, hn⟩ | ⟨g, cap, cur, hv, hr⟩
  · exact ⟨hl, .inl hn⟩
  · injection hv with h1 h2 h3
    subst h1 h3
    refine ⟨hl, .inr ⟨g, 0, rfl, (h.lt g rfl).2, fun i x hi => ?_⟩⟩
    have hil : i < L.length := (List.getElem?_eq_some_iff.1 hi).1
    rw [Nat.zero_add, h.cellAt i (by omega)]
    exact ints_at hi
def Res (ok : Bool) (L : List Int) (w : World) (e : Ending) (w' : World) : Prop :=
  ∃ (p : Option Addr) (k d : Nat), e = .returned (.tuple #[.slice p k d, .bool ok]) ∧ w'.ownsRow w.heap.size 3 1 (.slice p k d) k (ints L) ∧ k ≤ 1048576 ∧ Below w.heap.size w w'
def Gives (f : FuncId) (x : Value) (F : List (Int × Int) → List (Int × Int) → Option (List Int)) : Prop :=
  ∀ (a1 a2 : Option Addr) (n1 c1 n2 c2 : Nat) (l m : List (Int × Int)) (w : World), n1 ≤ 1048576 → n2 ≤ 1048576 → Holds w a1 n1 l → Holds w a2 n2 m →
    Calls Try.prog f #[.agg #[.slice a1 n1 c1, .slice a2 n2 c2], x] w (Res (F l m).isSome ((F l m).getD []) w)
set_option maxRecDepth 100000 in
set_option maxHeartbeats 1000000 in
theorem eq_same (a1 a2 : Option Addr) (n c1 c2 : Nat) (L : List Int) (hz : n ≤ 1048576) (w : World) (h1 : HoldsI w a1 n L) (h2 : HoldsI w a2 n L) :
    Calls Try.prog 22 #[.slice a1 n c1, .slice a2 n c2] w fun e w' => e = .returned (.bool true) ∧ Below w.heap.size w w' := by
  have H1 := Lib.hid h1
  have H2 := Lib.hid h2
  clear h1 h2
  go_enter Try.func22, Try.ntmps22
  go_wp2
  go_loopw [5] (fun i wr => ∃ k : Nat, k ≤ n ∧ i = .int .i64 k ∧ Below w.heap.size w wr) (fun i _ => n - (intOf i).toNat)
  case atStart => exact ⟨0, Nat.zero_le _, rfl, Below.refl _ _⟩
  case round =>
    obtain ⟨k, hk, rfl, hb⟩ := hrel
    by_cases hlt : k < n
    · obtain ⟨b, off, x, rfl, hx, e1⟩ := (H1.out.below hb).at k hlt
      obtain ⟨b', off', x', rfl, hx', e1'⟩ := (H2.out.below hb).at k hlt
      obtain rfl : x' = x := by
        rw [hx] at hx'
        injection hx' with hx'
        exact hx'.symm
      clear hx hx'
      have hi : (k : Int) < (n : Int) := by omega
      go_wp2_with fail
      go_quiet (fail)
      go_wp2_with fail
      exact ⟨⟨k + 1, by omega, by go_num, hb.trans ((Joins.below_draws _ _ _).mono hb.size)⟩, by simp [intOf]; omega⟩
    · go_wp2
      go_ret
      exact ⟨rfl, hb⟩
/-- The numbers that a marked list holds. -/
def marksI (k : Int) (n : Nat) : List Int := (List.range n).map fun (i : Nat) => k + (i : Int)
theorem marksI_len (k : Int) (n : Nat) : (marksI k n).length = n := by unfold marksI; simp
theorem marksI_at {k : Int} {n i : Nat} (h : i < n) : (marksI k n)[i]? = some (k + (i : Int)) := by
  unfold marksI
  rw [List.getElem?_map, List.getElem?_range h]
  rfl
def UptoI (B : Nat) (w wr : World) (p : Option Addr) (n c : Nat) (L : List Int) (k : Nat) : Prop :=
  ∃ ys, wr.ownsRow B 3 1 (.slice p n c) n ys ∧ (∀ i, i < k → ys[i]? = (ints L)[i]?) ∧ Kept (fun b => (Value.slice p n c).ownBlock = some b) w wr
theorem UptoI.some {B : Nat} {w wr : World} {p : Option Addr} {n c : Nat} {L : List Int} {k : Nat} (h : UptoI B w wr p n c L k) (hn : 0 < n) : ∃ g, p = .some ⟨g, 0, none⟩ := by
  obtain ⟨ys, h1, _⟩ := h
  rcases h1.2 with ⟨_, h0⟩ | ⟨g, cap, cur, hv, _⟩
  · omega
  · injection hv with hv
    exact ⟨g, hv⟩
theorem uptoI_step {B : Nat} {w wr : World} {g n c : Nat} {L : List Int} {k : Nat} {x : Int} (h : UptoI B w wr (some ⟨g, 0, none⟩) n c L k) (hk : k < n) (hx : L[k]? = some x) :
    UptoI B w (wr.setCell ⟨g, k, none⟩ (.int .i64 x)) (some ⟨g, 0, none⟩) n c L (k + 1) := by
  obtain ⟨ys, h1, h2, h3⟩ := h
  have hlen : ys.length = n * 1 := h1.1
  refine ⟨_, (h1.stored k _).1, ?_, h3.setCell (g := g) rfl _⟩
  intro i hi
  by_cases he : i = k
  · subst he
    rw [List.getElem?_set_self (by omega), ints_at hx]
  · rw [List.getElem?_set_ne (by omega)]
    exact h2 i (by omega)
theorem uptoI_end {B : Nat} {w wr : World} {p : Option Addr} {n c : Nat} {L : List Int} (h : UptoI B w wr p n c L n) (hl : L.length = n) :
    wr.ownsRow B 3 1 (.slice p n c) n (ints L) ∧ Kept (fun b => (Value.slice p n c).ownBlock = some b) w wr := by
  obtain ⟨ys, h1, h2, h3⟩ := h
  have hlen : ys.length = n * 1 := h1.1
  have e : ys = ints L := by
    apply List.ext_getElem?
    intro i
    by_cases hi : i < n
    · exact h2 i hi
    · rw [List.getElem?_eq_none (by omega), List.getElem?_eq_none (by rw [ints_len]; omega)]
  rw [← e]
  exact ⟨h1, h3⟩
theorem uptoI_facts {B : Nat} {w wr : World} {g n c : Nat} {L : List Int} {k : Nat} (h : UptoI B w wr (some ⟨g, 0, none⟩) n c L k) : ∀ j, j < n → (∃ v, wr.cell? ⟨g, j, none⟩ = some v) ∧ wr.frozen? ⟨g, j, none⟩ = false := by
  obtain ⟨ys, h1, _, _⟩ := h
  intro j hj
  have hlen : ys.length = n * 1 := h1.1
  refine ⟨⟨ys[j], ?_⟩, h1.frozenAt j⟩
  rw [h1.cellAt j (by omega), List.getElem?_eq_getElem (by omega)]
set_option maxRecDepth 100000 in
set_option maxHeartbeats 1000000 in
theorem mark_any (B : Nat) (p : Option Addr) (n c : Nat) (k : Int) (ys : List Value) (hk0 : 0 ≤ k) (hk1 : k ≤ 10000000) (hz : n ≤ 1048576) (w : World) (h : w.ownsRow B 3 1 (.slice p n c) n ys) :
    Calls Try.prog 33 #[.slice p n c, .int .i64 k] w fun e w' => e = .returned (.int .i64 (k + n)) ∧ w'.ownsRow B 3 1 (.slice p n c) n (ints (marksI k n)) ∧ Kept (fun b => (Value.slice p n c).ownBlock = some b) w w' := by
  have hU : UptoI B w w p n c (marksI k n) 0 := ⟨ys, h, fun i hi => absurd hi (by omega), Kept.refl _ _⟩
  clear h
  go_enter Try.func33, Try.ntmps33
  go_wp2_with fail
  go_loopw [1, 5] (fun s1 s5 wr => ∃ j : Nat, j ≤ n ∧ s5 = .int .i64 j ∧ s1 = .int .i64 (k + j) ∧ UptoI B w wr p n c (marksI k n) j) (fun _ s5 _ => n - (intOf s5).toNat)
  case atStart => exact ⟨0, Nat.zero_le _, rfl, by simp, hU⟩
  case round =>
    obtain ⟨j, hj, rfl, rfl, hR⟩ := hrel
    clear hU
    by_cases hlt : j < n
    · obtain ⟨g, rfl⟩ := hR.some (by omega)
      have hi : (j : Int) < (n : Int) := by omega
      obtain ⟨⟨v0, hv0⟩, hf0⟩ := uptoI_facts hR j hlt
      have HR := Lib.hid (uptoI_step hR hlt (marksI_at hlt))
      clear hR
      go_wp2_with fail
      exact ⟨⟨j + 1, by omega, by go_num, by go_num, HR.out⟩, by simp [intOf]; omega⟩
    · obtain rfl : j = n := by omega
      have hE := uptoI_end hR (marksI_len k j)
      have HE := Lib.hid hE
      clear hE hR
      go_wp2_with fail
      go_ret
      exact ⟨rfl, HE.out⟩
set_option maxRecDepth 100000 in
set_option maxHeartbeats 1000000 in
theorem held_any (p : Option Addr) (n c : Nat) (k : Int) (hk0 : 0 ≤ k) (hk1 : k ≤ 10000000) (hz : n ≤ 1048576) (w : World) (h : HoldsI w p n (marksI k n)) :
    Calls Try.prog 34 #[.slice p n c, .int .i64 k] w fun e w' => e = .returned (.int .i64 (k + n)) ∧ w' = w := by
  have HH := Lib.hid h
  clear h
  go_enter Try.func34, Try.ntmps34
  go_wp2_with fail
  go_loop [1, 5] (fun s1 s5 => ∃ j : Nat, j ≤ n ∧ s5 = .int .i64 j ∧ s1 = .int .i64 (k + j)) (fun _ s5 => n - (intOf s5).toNat)
  case atStart => exact ⟨0, Nat.zero_le _, rfl, by simp⟩
  case round =>
    obtain ⟨j, hj, rfl, rfl⟩ := hrel
    by_cases hlt : j < n
    · obtain ⟨b, off, x, rfl, hx, e1⟩ := HH.out.at j hlt
      rw [marksI_at hlt] at hx
      injection hx with hx
      subst hx
      have hi : (j : Int) < (n : Int) := by omega
      go_wp2_with fail
      go_round
      case rel => exact ⟨j + 1, by omega, by go_num, by go_num⟩
      case measure => simp [intOf]; omega
    · obtain rfl : j = n := by omega
      go_wp2_with fail
      go_ret
      exact ⟨rfl, rfl⟩
end Go.Proofs.Ytfbgekhkbbhggaa.GivesI
