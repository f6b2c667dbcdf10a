/- Contracts of the law file's helpers on slices of strings: equality, size, copy. -/
import Derived.Test.YtaikphcemldikaaDoorSplit
import Derived.Deep.QuietTactic
import Derived.BigQuiet
import Derived.Lib.SmallJoins
namespace Go.Proofs.YtaikphcemldikaaDoor.Strs
open Go.RowKit Split

/-- From ⟨b, off⟩ on the world holds the strings l. -/
def Cells (w : World) (b off : Nat) (l : List ByteArray) : Prop := ∀ i x, l[i]? = some x → w.cell? ⟨b, off + i, none⟩ = some (.string x)
theorem Cells.below {w w' : World} {b off : Nat} {l : List ByteArray} {B : Nat} (h : Cells w b off l) (hb : Below B w w') (hB : b < B) : Cells w' b off l :=
  fun i x hi => (hb.cell (p := ⟨b, off + i, none⟩) hB).trans (h i x hi)
theorem Cells.at {w : World} {b off : Nat} {l : List ByteArray} (h : Cells w b off l) (k : Nat) (hk : k < l.length) : w.cell? ⟨b, off + k, none⟩ = some (.string l[k]) :=
  h k _ (List.getElem?_eq_getElem hk)

set_option maxHeartbeats 1000000 in
theorem eqS_same (b1 o1 c1 b2 o2 c2 : Nat) (l : List ByteArray) (n : Nat) (hn : l.length = n) (hz : n ≤ 1048577) (w : World) (h1 : Cells w b1 o1 l) (h2 : Cells w b2 o2 l) :
    Calls Tryd.prog 16 #[.slice (some ⟨b1, o1, none⟩) n c1, .slice (some ⟨b2, o2, none⟩) n c2] w fun e w' => e = .returned (.bool true) ∧ Below w.heap.size w w' := by
  have HN := Lib.hid hn
  clear hn
  go_enter Tryd.func16, Tryd.ntmps16
  go_wp2
  go_loopw [5] (fun i wr => ∃ k m : Nat, k ≤ n ∧ i = .int .i64 k ∧ wr = w.drewN m) (fun i _ => n - (intOf i).toNat)
  case atStart => exact ⟨0, 0, Nat.zero_le _, rfl, rfl⟩
  case round =>
    obtain ⟨k, m, hk, rfl, rfl⟩ := hrel
    by_cases hlt : k < n
    · obtain ⟨x, hx⟩ : ∃ x, l[k]? = some x := ⟨_, List.getElem?_eq_getElem (by rw [HN.out]; exact hlt)⟩
      have c1 := h1 k x hx
      have c2 := h2 k x hx
      have HX := Lib.hid hx
      clear hx
      have hi : (k : Int) < (n : Int) := by omega
      go_wp2
      go_quiet (fail)
      go_wp2
      go_roundw
      case rel => exact ⟨k + 1, m + nq, by omega, by go_num, rfl⟩
      case measure => simp [intOf]; omega
    · go_wp2
      go_ret
      exact ⟨rfl, Joins.below_draws _ _ _⟩
theorem eqS_none (a1 a2 : Option Addr) (c1 c2 : Nat) (w : World) :
    Calls Tryd.prog 16 #[.slice a1 0 c1, .slice a2 0 c2] w fun e w' => e = .returned (.bool true) ∧ Below w.heap.size w w' := by
  go_enter Tryd.func16, Tryd.ntmps16
  go_wp2
  refine wp_loop_rounds 1 ?_
  rw [rounds_succ]
  go_wp2
  go_ret
  exact ⟨rfl, Below.refl _ _⟩

end Go.Proofs.YtaikphcemldikaaDoor.Strs
