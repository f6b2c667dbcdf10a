/- The laws' marks on curves, and what is held of them. -/
import Derived.Test.YtlpcgchekhoieaaCuT
namespace Go.Proofs.Ytlpcgchekhoieaa.CuM
open Go.RowKit Pairs Rec Keep GivesI Cu CuT
set_option linter.unusedVariables false
def UpK (B : Nat) (w wr : World) (p : Option Addr) (n c : Nat) (L : List Dt) (k : Nat) : Prop :=
  ∃ ys, wr.ownsRow B 75 3 (.slice p n c) n ys ∧ (∀ i, i < k * 3 → ys[i]? = (flatD L)[i]?) ∧ Kept (fun b => (Value.slice p n c).ownBlock = some b) w wr
theorem UpK.ptr {B : Nat} {w wr : World} {p : Option Addr} {n c : Nat} {L : List Dt} {k : Nat} (h : UpK B w wr p n c L k) (hn : 0 < n) : ∃ g, p = .some ⟨g, 0, none⟩ := by
  obtain ⟨ys, h1, _⟩ := h
  rcases h1.2 with ⟨_, h0⟩ | ⟨g, cap, cur, hv, _⟩
  · omega
  · injection hv with hv
    exact ⟨g, hv⟩
theorem UpK.step {B : Nat} {w wr : World} {g n c : Nat} {L : List Dt} {k : Nat} {x y z : Int} (h : UpK B w wr (some ⟨g, 0, none⟩) n c L k) (hk : k < n) (hx : L[k]? = some (x, y, z)) :
    UpK B w (((wr.setCell ⟨g, k * 3, none⟩ (.int .i64 x)).setCell ⟨g, k * 3 + 1, none⟩ (.int .i64 y)).setCell ⟨g, k * 3 + 2, none⟩ (.int .i64 z)) (some ⟨g, 0, none⟩) n c L (k + 1) := by
  obtain ⟨ys, h1, h2, h3⟩ := h
  have hlen : ys.length = n * 3 := h1.1
  refine ⟨_, (((h1.stored (k * 3) _).1.stored (k * 3 + 1) _).1.stored (k * 3 + 2) _).1, ?_, ((h3.setCell (g := g) rfl _).setCell (g := g) rfl _).setCell (g := g) rfl _⟩
  intro i hi
  have hf := flatD_get L k x y z hx
  by_cases he : i = k * 3 + 2
  · subst he
    rw [List.getElem?_set_self (by simp; omega), hf.2.2]
  · rw [List.getElem?_set_ne (by omega)]
    by_cases he : i = k * 3 + 1
    · subst he
      rw [List.getElem?_set_self (by simp; omega), hf.2.1]
    · rw [List.getElem?_set_ne (by omega)]
      by_cases he2 : i = k * 3
      · subst he2
        rw [List.getElem?_set_self (by omega), hf.1]
      · rw [List.getElem?_set_ne (by omega)]
        exact h2 i (by omega)
theorem UpK.end {B : Nat} {w wr : World} {p : Option Addr} {n c : Nat} {L : List Dt} (h : UpK B w wr p n c L n) (hl : L.length = n) :
    wr.ownsRow B 75 3 (.slice p n c) n (flatD L) ∧ Kept (fun b => (Value.slice p n c).ownBlock = some b) w wr := by
  obtain ⟨ys, h1, h2, h3⟩ := h
  have hlen : ys.length = n * 3 := h1.1
  have e : ys = flatD L := by
    apply List.ext_getElem?
    intro i
    by_cases hi : i < n * 3
    · exact h2 i hi
    · rw [List.getElem?_eq_none (by omega), List.getElem?_eq_none (by rw [flatD_len]; omega)]
  rw [← e]
  exact ⟨h1, h3⟩
theorem UpK.facts {B : Nat} {w wr : World} {g n c : Nat} {L : List Dt} {k : Nat} (h : UpK B w wr (some ⟨g, 0, none⟩) n c L k) : ∀ j, j < n * 3 → (∃ v, wr.cell? ⟨g, j, none⟩ = some v) ∧ wr.frozen? ⟨g, j, none⟩ = false := by
  obtain ⟨ys, h1, _, _⟩ := h
  intro j hj
  have hlen : ys.length = n * 3 := h1.1
  refine ⟨⟨ys[j], ?_⟩, h1.frozenAt j⟩
  rw [h1.cellAt j (by omega), List.getElem?_eq_getElem (by omega)]
/-- The numbers that a marked row holds. -/
def marksD (k : Int) (n : Nat) : List Dt := (List.range n).map fun (i : Nat) => (k + 3 * (i : Int), k + 3 * (i : Int) + 1, k + 3 * (i : Int) + 1 + 1)
theorem marksD_len (k : Int) (n : Nat) : (marksD k n).length = n := by unfold marksD; simp
theorem marksD_at {k : Int} {n i : Nat} (h : i < n) : (marksD k n)[i]? = some (k + 3 * i, k + 3 * i + 1, k + 3 * i + 1 + 1) := by
  unfold marksD
  rw [List.getElem?_map, List.getElem?_range h]
  rfl
set_option maxRecDepth 100000 in
set_option maxHeartbeats 2000000 in
theorem markD_any (B : Nat) (p : Option Addr) (n c : Nat) (k : Int) (ys : List Value) (hk0 : 0 ≤ k) (hk1 : k ≤ 10000000) (hz : n ≤ 1048576) (w : World) (h : w.ownsRow B 75 3 (.slice p n c) n ys) :
    Calls Try.prog 24 #[.slice p n c, .int .i64 k] w fun e w' => e = .returned (.int .i64 (k + 3 * n)) ∧ w'.ownsRow B 75 3 (.slice p n c) n (flatD (marksD k n)) ∧ Kept (fun b => (Value.slice p n c).ownBlock = some b) w w' := by
  have hU : UpK B w w p n c (marksD k n) 0 := ⟨ys, h, fun i hi => absurd hi (by omega), Kept.refl _ _⟩
  clear h
  go_enter Try.func24, Try.ntmps24
  go_wp2_with fail
  go_loopw [1, 5] (fun s1 s5 wr => ∃ j : Nat, j ≤ n ∧ s5 = .int .i64 j ∧ s1 = .int .i64 (k + 3 * j) ∧ UpK B w wr p n c (marksD k n) j) (fun _ s5 _ => n - (intOf s5).toNat)
  case atStart => exact ⟨0, Nat.zero_le _, rfl, by simp, hU⟩
  case round =>
    obtain ⟨j, hj, rfl, rfl, hR⟩ := hrel
    clear hU
    by_cases hlt : j < n
    · obtain ⟨g, rfl⟩ := hR.ptr (by omega)
      have hi : (j : Int) < (n : Int) := by omega
      obtain ⟨⟨v0, hv0⟩, hf0⟩ := hR.facts (j * 3) (by omega)
      obtain ⟨⟨v1, hv1⟩, hf1⟩ := hR.facts (j * 3 + 1) (by omega)
      obtain ⟨⟨v2, hv2⟩, hf2⟩ := hR.facts (j * 3 + 2) (by omega)
      have HR := Lib.hid (hR.step hlt (marksD_at hlt))
      clear hR
      go_wp2_with fail
      exact ⟨⟨j + 1, by omega, by go_num, by go_num, HR.out⟩, by simp [intOf]; omega⟩
    · obtain rfl : j = n := by omega
      have HE := Lib.hid (hR.end (marksD_len k j))
      clear hR
      go_wp2_with fail
      go_ret
      exact ⟨rfl, HE.out⟩
set_option maxRecDepth 100000 in
set_option maxHeartbeats 2000000 in
theorem heldD_any (p : Option Addr) (n c : Nat) (k : Int) (hk0 : 0 ≤ k) (hk1 : k ≤ 10000000) (hz : n ≤ 1048576) (w : World) (h : HoldsD w p n (marksD k n)) :
    Calls Try.prog 45 #[.slice p n c, .int .i64 k] w fun e w' => e = .returned (.int .i64 (k + 3 * n)) ∧ w' = w := by
  have HH := Lib.hid h
  clear h
  go_enter Try.func45, Try.ntmps45
  go_wp2_with fail
  go_loop [1, 5] (fun s1 s5 => ∃ j : Nat, j ≤ n ∧ s5 = .int .i64 j ∧ s1 = .int .i64 (k + 3 * j)) (fun _ s5 => n - (intOf s5).toNat)
  case atStart => exact ⟨0, Nat.zero_le _, rfl, by simp⟩
  case round =>
    obtain ⟨j, hj, rfl, rfl⟩ := hrel
    by_cases hlt : j < n
    · obtain ⟨b, off, x, y, z, rfl, hx, e1, e2, e3⟩ := HH.out.at j hlt
      rw [marksD_at hlt] at hx
      injection hx with hx
      injection hx with hx hy
      injection hy with hy hz
      subst hx hy hz
      have hi : (j : Int) < (n : Int) := by omega
      go_wp2_with fail
      go_round
      case rel => exact ⟨j + 1, by omega, by go_num, by go_num⟩
      case measure => simp [intOf]; omega
    · obtain rfl : j = n := by omega
      go_wp2_with fail
      go_ret
      exact ⟨rfl, rfl⟩
end Go.Proofs.Ytlpcgchekhoieaa.CuM
