/- The laws' toIntS: a copy of a list of ints that is memory of its own. -/
import Derived.Test.YtfbgekhkbbhggaaGivesI
import Derived.StillTailTactics
namespace Go.Proofs.Ytfbgekhkbbhggaa.IntT
open Go.RowKit Pairs Rec GivesI
theorem infoI : (Try.prog.info? 3).map (fun i => (i.zero, i.size, i.bytes)) = some (some (.int .i64 0), 1, 8) := by kernel_rfl
/-- A list of ints under way. -/
def UpI (B : Nat) (w wr : World) (g n : Nat) (M : List Int) (k : Nat) : Prop :=
  ∃ ys, wr.ownsRow B 3 1 (.slice (some ⟨g, 0, none⟩) n n) n ys ∧ (∀ i, i < k → ys[i]? = (ints M)[i]?) ∧ Below B w wr
theorem UpI.bel {B : Nat} {w wr : World} {g n : Nat} {M : List Int} {k : Nat} (h : UpI B w wr g n M k) : Below B w wr := by
  obtain ⟨_, _, _, h3⟩ := h
  exact h3
theorem UpI.step {B : Nat} {w wr : World} {g n : Nat} {M : List Int} {k : Nat} {x : Int} (h : UpI B w wr g n M k) (hB : B ≤ g) (hk : k < n) (hx : M[k]? = some x) :
    UpI B w (wr.setCell ⟨g, k, none⟩ (.int .i64 x)) g n M (k + 1) := by
  obtain ⟨ys, h1, h2, h3⟩ := h
  have hlen : ys.length = n * 1 := h1.1
  refine ⟨_, (h1.stored k _).1, ?_, h3.setCell (p := ⟨g, k, none⟩) hB _⟩
  intro i hi
  by_cases he : i = k
  · subst he
    rw [List.getElem?_set_self (by omega), GivesI.ints_at hx]
  · rw [List.getElem?_set_ne (by omega)]
    exact h2 i (by omega)
theorem UpI.end {B : Nat} {w wr : World} {g n : Nat} {M : List Int} (h : UpI B w wr g n M n) (hl : M.length = n) :
    wr.ownsRow B 3 1 (.slice (some ⟨g, 0, none⟩) n n) n (ints M) ∧ Below B w wr := by
  obtain ⟨ys, h1, h2, h3⟩ := h
  have hlen : ys.length = n * 1 := h1.1
  have e : ys = ints M := by
    apply List.ext_getElem?
    intro i
    by_cases hi : i < n
    · exact h2 i hi
    · rw [List.getElem?_eq_none (by omega), List.getElem?_eq_none (by rw [ints_len]; omega)]
  rw [← e]
  exact ⟨h1, h3⟩
theorem UpI.facts {B : Nat} {w wr : World} {g n : Nat} {M : List Int} {k : Nat} (h : UpI B w wr g n M k) : ∀ j, j < n → (∃ v, wr.cell? ⟨g, j, none⟩ = some v) ∧ wr.frozen? ⟨g, j, none⟩ = false := by
  obtain ⟨ys, h1, _, _⟩ := h
  intro j hj
  have hlen : ys.length = n * 1 := h1.1
  refine ⟨⟨ys[j], ?_⟩, h1.frozenAt j⟩
  rw [h1.cellAt j (by omega), List.getElem?_eq_getElem (by omega)]
set_option maxRecDepth 100000 in
set_option maxHeartbeats 1000000 in
theorem toIntS_any (a : Option Addr) (n c : Nat) (M : List Int) (hz : n ≤ 1048576) (w : World) (h : HoldsI w a n M) :
    Calls Try.prog 20 #[.slice a n c] w fun e w' => ∃ g : Nat, e = .returned (.slice (some ⟨g, 0, none⟩) n n) ∧ w'.ownsRow w.heap.size 3 1 (.slice (some ⟨g, 0, none⟩) n n) n (ints M) ∧ Below w.heap.size w w' := by
  obtain ⟨i0, hi, hz0, hz1, hz2⟩ := info_parts infoI
  obtain ⟨B, hB⟩ : ∃ B, w.heap.size = B := ⟨_, rfl⟩
  have HB := Lib.hid hB
  have HH := Lib.hid h
  rw [hB]
  clear hB h
  go_enter Try.func20, Try.ntmps20
  go_wp2_with (at_make; refine wpList_make_full _ rfl _ _ 41 rfl B 3 i0 (.int .i64 0) 1 Try.underlying41 hi hz0 hz1 .i64 .i64 _ _ n rfl rfl (by omega) (by omega) (by rw [hz2]; omega) (by unfold maxLen; omega) (by rw [HB.out]; omega) ?_; intro w1 hown hgrow)
  have hU : UpI B w w1 B n M 0 := by
    rw [HB.out] at hown
    exact ⟨_, hown, fun i hi => absurd hi (by omega), (Below.refl _ _).grown hgrow (by rw [HB.out]; omega) (fun k hk => by cases hk)⟩
  clear hown hgrow
  rw [HB.out]
  go_loopw [4] (fun i wr => ∃ k : Nat, k ≤ n ∧ i = .int .i64 k ∧ UpI B w wr B n M k) (fun i _ => n - (intOf i).toNat)
  case atStart => exact ⟨0, Nat.zero_le _, rfl, hU⟩
  case round =>
    obtain ⟨k, hk, rfl, hR⟩ := hrel
    clear hU
    by_cases hlt : k < n
    · have hbel := hR.bel
      rw [← HB.out] at hbel
      obtain ⟨b, off, x, rfl, hx, e1⟩ := (HH.out.below hbel).at k hlt
      have hi : (k : Int) < (n : Int) := by omega
      obtain ⟨⟨v0, hv0⟩, hf0⟩ := hR.facts k hlt
      have HR2 := Lib.hid (hR.step (Nat.le_refl _) hlt hx)
      clear hx hbel hR
      go_wp2_with fail
      exact ⟨⟨k + 1, by omega, by go_num, HR2.out⟩, by simp [intOf]; omega⟩
    · obtain rfl : k = n := by omega
      have HE := Lib.hid (hR.end HH.out.1)
      clear hR
      go_wp2_with fail
      go_ret
      exact ⟨_, rfl, HE.out.1, HE.out.2⟩
end Go.Proofs.Ytfbgekhkbbhggaa.IntT
