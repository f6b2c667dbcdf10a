/- The law file's heldStringS: it finds the marks. -/
import Derived.Test.YtaikphcemldikaaDoorMark
import Derived.Deep.RegionHeld3
namespace Go.Proofs.YtaikphcemldikaaDoor.Held
open Go.RowKit Split Strs Mrk

theorem text_keeps (k : Nat) (g i : Nat) (v : Value) (h2 : k ≤ 900000) (w : World) (hg : g < w.heap.size) (hc : w.cell? ⟨g, i, none⟩ = some v) :
    Calls Tryd.prog 46 #[.int .i64 (1 + (k : Int))] w fun e w' => e = .returned (.string (mt (1 + k))) ∧ Below w.heap.size w w' ∧ w'.cell? ⟨g, i, none⟩ = some v ∧ g < w'.heap.size := by
  have h := markText_any (1 + k) (by omega) (by omega) w
  rw [show (((1 + k : Nat)) : Int) = 1 + (k : Int) by omega] at h
  exact h.mono fun _ _ ⟨he, hb⟩ => ⟨he, hb, (hb.cell (p := ⟨g, i, none⟩) hg).trans hc, Nat.lt_of_lt_of_le hg hb.size⟩

set_option maxHeartbeats 2000000 in
theorem heldS_any (g n cap : Nat) (hn : n ≤ 900000) (w : World) (h : Marks w g n) :
    Calls Tryd.prog 20 #[.slice (some ⟨g, 0, none⟩) n cap, .int .i64 1] w fun e w' => e = .returned (.int .i64 ((n : Int) + 1)) ∧ Below w.heap.size w w' := by
  go_enter Tryd.func20, Tryd.ntmps20
  go_wp2_with fail
  go_loopw [1, 5] (fun m i wr => ∃ k : Nat, k ≤ n ∧ i = .int .i64 k ∧ m = .int .i64 (1 + (k : Int)) ∧ Below w.heap.size w wr) (fun _ i _ => n - (intOf i).toNat)
  case atStart => exact ⟨0, Nat.zero_le _, rfl, rfl, Below.refl _ _⟩
  case round =>
    obtain ⟨k, hk, rfl, rfl, hbel⟩ := hrel
    by_cases hlt : k < n
    · have hi : (k : Int) < (n : Int) := by omega
      have hi0 : (0 : Int) ≤ (k : Int) := Int.natCast_nonneg _
      have hM := h.below hbel
      have hc := hM.2 k hlt
      have hg := hM.1
      clear hM
      go_wp2_with fail
      go_region_held3 (fun w' => w'.cell? ⟨g, k, none⟩ = some (.string (mt (1 + k))) ∧ g < w'.heap.size)
        (first | go_keep | (exact ⟨by assumption, by assumption⟩))
        (first | (go_at_call 46; refine (text_keeps k g k (.string (mt (1 + k))) (by omega) _ ?_ ?_).mono ?_; (first | assumption | (simp; omega)); (first | assumption | (simp [*])); rintro e w2 ⟨rfl, hb2, hc2, hg2⟩))
      have hz := hbel.size
      go_wp2
      go_roundw
      case rel => exact ⟨k + 1, by omega, by go_num, by go_num, hbel.drew.trans (hb2.mono hz)⟩
      case measure => simp [intOf]; omega
    · obtain rfl : k = n := by omega
      go_wp2_with fail
      go_ret
      exact ⟨by simp; omega, hbel⟩
end Go.Proofs.YtaikphcemldikaaDoor.Held
