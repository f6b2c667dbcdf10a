/- The laws' marks on rows of dated contexts and of intervals, and what is held of them. -/
import Derived.Test.YtmjhgjlnpnkmkaaDaT
import Derived.Test.YtmjhgjlnpnkmkaaMark2
namespace Go.Proofs.Ytmjhgjlnpnkmkaa.DaM
open Go.RowKit Pairs Rec RecEq Keep GivesI Da DaT
set_option linter.unusedVariables false
def UpK (B : Nat) (w wr : World) (p : Option Addr) (n c : Nat) (L : List Dt) (k : Nat) : Prop :=
  ∃ ys, wr.ownsRow B 66 3 (.slice p n c) n ys ∧ (∀ i, i < k * 3 → ys[i]? = (flatD L)[i]?) ∧ Kept (fun b => (Value.slice p n c).ownBlock = some b) w wr
theorem UpK.ptr {B : Nat} {w wr : World} {p : Option Addr} {n c : Nat} {L : List Dt} {k : Nat} (h : UpK B w wr p n c L k) (hn : 0 < n) : ∃ g, p = .some ⟨g, 0, none⟩ := by
  obtain ⟨ys, h1, _⟩ := h
  rcases h1.2 with ⟨_, h0⟩ | ⟨g, cap, cur, hv, _⟩
  · omega
  · injection hv with hv
    exact ⟨g, hv⟩
theorem UpK.step {B : Nat} {w wr : World} {g n c : Nat} {L : List Dt} {k : Nat} {x y z : Int} (h : UpK B w wr (some ⟨g, 0, none⟩) n c L k) (hk : k < n) (hx : L[k]? = some (x, y, z)) :
    UpK B w (((wr.setCell ⟨g, k * 3, none⟩ (.int .i64 x)).setCell ⟨g, k * 3 + 1, none⟩ (.int .i64 y)).setCell ⟨g, k * 3 + 2, none⟩ (.int .i64 z)) (some ⟨g, 0, none⟩) n c L (k + 1) := by
  obtain ⟨ys, h1, h2, h3⟩ := h
  have hlen : ys.length = n * 3 := h1.1
  refine ⟨_, (((h1.stored (k * 3) _).1.stored (k * 3 + 1) _).1.stored (k * 3 + 2) _).1, ?_, ((h3.setCell (g := g) rfl _).setCell (g := g) rfl _).setCell (g := g) rfl _⟩
  intro i hi
  have hf := flatD_get L k x y z hx
  by_cases he : i = k * 3 + 2
  · subst he
    rw [List.getElem?_set_self (by simp; omega), hf.2.2]
  · rw [List.getElem?_set_ne (by omega)]
    by_cases he : i = k * 3 + 1
    · subst he
      rw [List.getElem?_set_self (by simp; omega), hf.2.1]
    · rw [List.getElem?_set_ne (by omega)]
      by_cases he2 : i = k * 3
      · subst he2
        rw [List.getElem?_set_self (by omega), hf.1]
      · rw [List.getElem?_set_ne (by omega)]
        exact h2 i (by omega)
theorem UpK.end {B : Nat} {w wr : World} {p : Option Addr} {n c : Nat} {L : List Dt} (h : UpK B w wr p n c L n) (hl : L.length = n) :
    wr.ownsRow B 66 3 (.slice p n c) n (flatD L) ∧ Kept (fun b => (Value.slice p n c).ownBlock = some b) w wr := by
  obtain ⟨ys, h1, h2, h3⟩ := h
  have hlen : ys.length = n * 3 := h1.1
  have e : ys = flatD L := by
    apply List.ext_getElem?
    intro i
    by_cases hi : i < n * 3
    · exact h2 i hi
    · rw [List.getElem?_eq_none (by omega), List.getElem?_eq_none (by rw [flatD_len]; omega)]
  rw [← e]
  exact ⟨h1, h3⟩
theorem UpK.facts {B : Nat} {w wr : World} {g n c : Nat} {L : List Dt} {k : Nat} (h : UpK B w wr (some ⟨g, 0, none⟩) n c L k) : ∀ j, j < n * 3 → (∃ v, wr.cell? ⟨g, j, none⟩ = some v) ∧ wr.frozen? ⟨g, j, none⟩ = false := by
  obtain ⟨ys, h1, _, _⟩ := h
  intro j hj
  have hlen : ys.length = n * 3 := h1.1
  refine ⟨⟨ys[j], ?_⟩, h1.frozenAt j⟩
  rw [h1.cellAt j (by omega), List.getElem?_eq_getElem (by omega)]
/-- The numbers that a marked row holds. -/
def marksD (k : Int) (n : Nat) : List Dt := (List.range n).map fun (i : Nat) => (k + 3 * (i : Int), k + 3 * (i : Int) + 1, k + 3 * (i : Int) + 1 + 1)
theorem marksD_len (k : Int) (n : Nat) : (marksD k n).length = n := by unfold marksD; simp
theorem marksD_at {k : Int} {n i : Nat} (h : i < n) : (marksD k n)[i]? = some (k + 3 * i, k + 3 * i + 1, k + 3 * i + 1 + 1) := by
  unfold marksD
  rw [List.getElem?_map, List.getElem?_range h]
  rfl
set_option maxRecDepth 100000 in
set_option maxHeartbeats 2000000 in
theorem markD_any (B : Nat) (p : Option Addr) (n c : Nat) (k : Int) (ys : List Value) (hk0 : 0 ≤ k) (hk1 : k ≤ 10000000) (hz : n ≤ 1048576) (w : World) (h : w.ownsRow B 66 3 (.slice p n c) n ys) :
    Calls Try.prog 30 #[.slice p n c, .int .i64 k] w fun e w' => e = .returned (.int .i64 (k + 3 * n)) ∧ w'.ownsRow B 66 3 (.slice p n c) n (flatD (marksD k n)) ∧ Kept (fun b => (Value.slice p n c).ownBlock = some b) w w' := by
  have hU : UpK B w w p n c (marksD k n) 0 := ⟨ys, h, fun i hi => absurd hi (by omega), Kept.refl _ _⟩
  clear h
  go_enter Try.func30, Try.ntmps30
  go_wp2_with fail
  go_loopw [1, 5] (fun s1 s5 wr => ∃ j : Nat, j ≤ n ∧ s5 = .int .i64 j ∧ s1 = .int .i64 (k + 3 * j) ∧ UpK B w wr p n c (marksD k n) j) (fun _ s5 _ => n - (intOf s5).toNat)
  case atStart => exact ⟨0, Nat.zero_le _, rfl, by simp, hU⟩
  case round =>
    obtain ⟨j, hj, rfl, rfl, hR⟩ := hrel
    clear hU
    by_cases hlt : j < n
    · obtain ⟨g, rfl⟩ := hR.ptr (by omega)
      have hi : (j : Int) < (n : Int) := by omega
      obtain ⟨⟨v0, hv0⟩, hf0⟩ := hR.facts (j * 3) (by omega)
      obtain ⟨⟨v1, hv1⟩, hf1⟩ := hR.facts (j * 3 + 1) (by omega)
      obtain ⟨⟨v2, hv2⟩, hf2⟩ := hR.facts (j * 3 + 2) (by omega)
      have HR := Lib.hid (hR.step hlt (marksD_at hlt))
      clear hR
      go_wp2_with fail
      exact ⟨⟨j + 1, by omega, by go_num, by go_num, HR.out⟩, by simp [intOf]; omega⟩
    · obtain rfl : j = n := by omega
      have HE := Lib.hid (hR.end (marksD_len k j))
      clear hR
      go_wp2_with fail
      go_ret
      exact ⟨rfl, HE.out⟩
set_option maxRecDepth 100000 in
set_option maxHeartbeats 2000000 in
theorem heldD_any (p : Option Addr) (n c : Nat) (k : Int) (hk0 : 0 ≤ k) (hk1 : k ≤ 10000000) (hz : n ≤ 1048576) (w : World) (h : HoldsD w p n (marksD k n)) :
    Calls Try.prog 42 #[.slice p n c, .int .i64 k] w fun e w' => e = .returned (.int .i64 (k + 3 * n)) ∧ w' = w := by
  have HH := Lib.hid h
  clear h
  go_enter Try.func42, Try.ntmps42
  go_wp2_with fail
  go_loop [1, 5] (fun s1 s5 => ∃ j : Nat, j ≤ n ∧ s5 = .int .i64 j ∧ s1 = .int .i64 (k + 3 * j)) (fun _ s5 => n - (intOf s5).toNat)
  case atStart => exact ⟨0, Nat.zero_le _, rfl, by simp⟩
  case round =>
    obtain ⟨j, hj, rfl, rfl⟩ := hrel
    by_cases hlt : j < n
    · obtain ⟨b, off, x, y, z, rfl, hx, e1, e2, e3⟩ := HH.out.at j hlt
      rw [marksD_at hlt] at hx
      injection hx with hx
      injection hx with hx hy
      injection hy with hy hz
      subst hx hy hz
      have hi : (j : Int) < (n : Int) := by omega
      go_wp2_with fail
      go_round
      case rel => exact ⟨j + 1, by omega, by go_num, by go_num⟩
      case measure => simp [intOf]; omega
    · obtain rfl : j = n := by omega
      go_wp2_with fail
      go_ret
      exact ⟨rfl, rfl⟩
set_option maxRecDepth 100000 in
set_option maxHeartbeats 2000000 in
theorem eqV_same (a1 a2 : Option Addr) (n c1 c2 : Nat) (l : List (Int × Int)) (hz : n ≤ 1048576) (w : World) (h1 : Holds w a1 n l) (h2 : Holds w a2 n l) :
    Calls Try.prog 28 #[.slice a1 n c1, .slice a2 n c2] w fun e w' => e = .returned (.bool true) ∧ Below w.heap.size w w' := by
  have H1 := Lib.hid h1
  have H2 := Lib.hid h2
  clear h1 h2
  go_enter Try.func28, Try.ntmps28
  go_wp2
  go_loopw [5] (fun i wr => ∃ k : Nat, k ≤ n ∧ i = .int .i64 k ∧ Below w.heap.size w wr) (fun i _ => n - (intOf i).toNat)
  case atStart => exact ⟨0, Nat.zero_le _, rfl, Below.refl _ _⟩
  case round =>
    obtain ⟨k, hk, rfl, hb⟩ := hrel
    by_cases hlt : k < n
    · obtain ⟨b, off, x, y, rfl, hx, e1, e2⟩ := (H1.out.below hb).at k hlt
      obtain ⟨b', off', x', y', rfl, hx', e1', e2'⟩ := (H2.out.below hb).at k hlt
      obtain ⟨rfl, rfl⟩ : x' = x ∧ y' = y := by
        rw [hx] at hx'
        injection hx' with hx'
        injection hx' with ha hb
        exact ⟨ha.symm, hb.symm⟩
      clear hx hx'
      have hi : (k : Int) < (n : Int) := by omega
      go_wp2_with fail
      refine wp_region_still_tail 8 (by kernel_rfl) (by kernel_rfl) ?_
      simp only [List.take_succ_cons, List.take_zero, List.drop_succ_cons, List.drop_zero]
      repeat still_step
      refine wpStill_nil ?_
      go_wp2_with fail
      refine (eqInterval_same x' y' _).mono ?_
      rintro e wq ⟨rfl, hq⟩
      have hb' := hb.drew.trans (hq.mono hb.drew.size)
      clear hb e1 e2 e1' e2' hq
      go_wp2_with fail
      exact ⟨⟨k + 1, by omega, by go_num, hb'⟩, by simp [intOf]; omega⟩
    · go_wp2
      go_ret
      exact ⟨rfl, hb⟩
set_option maxRecDepth 100000 in
set_option maxHeartbeats 1000000 in
theorem markV_any (B : Nat) (p : Option Addr) (n c : Nat) (k : Int) (ys : List Value) (hk0 : 0 ≤ k) (hk1 : k ≤ 10000000) (hz : n ≤ 1048576) (w : World) (h : w.ownsRow B 64 2 (.slice p n c) n ys) :
    Calls Try.prog 31 #[.slice p n c, .int .i64 k] w fun e w' => e = .returned (.int .i64 (k + 2 * n)) ∧ w'.ownsRow B 64 2 (.slice p n c) n (flat (marks k n)) ∧ Kept (fun b => (Value.slice p n c).ownBlock = some b) w w' := by
  have hU : UptoP 64 B w w p n c (marks k n) 0 := ⟨ys, h, fun i hi => absurd hi (by omega), Kept.refl _ _⟩
  clear h
  go_enter Try.func31, Try.ntmps31
  go_wp2_with fail
  go_loopw [1, 5] (fun s1 s5 wr => ∃ j : Nat, j ≤ n ∧ s5 = .int .i64 j ∧ s1 = .int .i64 (k + 2 * j) ∧ UptoP 64 B w wr p n c (marks k n) j) (fun _ s5 _ => n - (intOf s5).toNat)
  case atStart => exact ⟨0, Nat.zero_le _, rfl, by simp, hU⟩
  case round =>
    obtain ⟨j, hj, rfl, rfl, hR⟩ := hrel
    clear hU
    by_cases hlt : j < n
    · obtain ⟨g, rfl⟩ := hR.some (by omega)
      have hi : (j : Int) < (n : Int) := by omega
      obtain ⟨⟨v0, hv0⟩, hf0⟩ := uptoP_facts hR (j * 2) (by omega)
      obtain ⟨⟨v1, hv1⟩, hf1⟩ := uptoP_facts hR (j * 2 + 1) (by omega)
      have HR := Lib.hid (uptoP_step hR hlt (marks_at hlt))
      clear hR
      go_wp2_with fail
      exact ⟨⟨j + 1, by omega, by go_num, by go_num, HR.out⟩, by simp [intOf]; omega⟩
    · obtain rfl : j = n := by omega
      have hE := uptoP_end hR (marks_len k j)
      have HE := Lib.hid hE
      clear hE hR
      go_wp2_with fail
      go_ret
      exact ⟨rfl, HE.out⟩
set_option maxRecDepth 100000 in
set_option maxHeartbeats 1000000 in
theorem heldV_any (p : Option Addr) (n c : Nat) (k : Int) (hk0 : 0 ≤ k) (hk1 : k ≤ 10000000) (hz : n ≤ 1048576) (w : World) (h : Holds w p n (marks k n)) :
    Calls Try.prog 32 #[.slice p n c, .int .i64 k] w fun e w' => e = .returned (.int .i64 (k + 2 * n)) ∧ w' = w := by
  have HH := Lib.hid h
  clear h
  go_enter Try.func32, Try.ntmps32
  go_wp2_with fail
  go_loop [1, 5] (fun s1 s5 => ∃ j : Nat, j ≤ n ∧ s5 = .int .i64 j ∧ s1 = .int .i64 (k + 2 * j)) (fun _ s5 => n - (intOf s5).toNat)
  case atStart => exact ⟨0, Nat.zero_le _, rfl, by simp⟩
  case round =>
    obtain ⟨j, hj, rfl, rfl⟩ := hrel
    by_cases hlt : j < n
    · obtain ⟨b, off, x, y, rfl, hx, e1, e2⟩ := HH.out.at j hlt
      rw [marks_at hlt] at hx
      injection hx with hx
      injection hx with hx hy
      subst hx hy
      have hi : (j : Int) < (n : Int) := by omega
      go_wp2_with fail
      go_round
      case rel => exact ⟨j + 1, by omega, by go_num, by go_num⟩
      case measure => simp [intOf]; omega
    · obtain rfl : j = n := by omega
      go_wp2_with fail
      go_ret
      exact ⟨rfl, rfl⟩
end Go.Proofs.Ytmjhgjlnpnkmkaa.DaM
