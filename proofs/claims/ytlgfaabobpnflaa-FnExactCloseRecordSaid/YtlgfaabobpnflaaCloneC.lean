/- slices.Clone over contexts. -/
import Derived.Test.YtlgfaabobpnflaaAppH
import Derived.Test.YtlgfaabobpnflaaRowTake
import Derived.Lib.SliceRun
namespace Go.Proofs.Ytlgfaabobpnflaa.CloneC
open Go.RowKit Pairs Rec RecEq Keep Row2 Copy
def CloAns (l : List (Int × Int)) (n : Nat) (w : World) (e : Ending) (w' : World) : Prop := ∃ (p : Option Addr) (d : Nat), e = .returned (.slice p n d) ∧ w'.ownsRow w.heap.size 69 2 (.slice p n d) n (flat l) ∧ Below w.heap.size w w'
theorem empty_own {T : TypeId} (w : World) : (w.alloc (.cells #[] T)).ownsRow w.heap.size T 2 (.slice (some ⟨w.heap.size, 0, none⟩) 0 0) 0 [] :=
  World.ownsRow_made w #[] 0 (Nat.le_refl _) (by unfold maxLen; omega) (by simp)
theorem own_here {g k : Nat} (h : some g = some k) : g ≤ k := Nat.le_of_eq (by simpa using h)
set_option maxRecDepth 100000 in
set_option maxHeartbeats 2000000 in
theorem clone_any (a : Option Addr) (n c : Nat) (l : List (Int × Int)) (hz : n ≤ 1048576) (w : World) (h : Holds w a n l) :
    Calls Try.prog 88 #[.slice a n c] w (CloAns l n w) := by
  obtain ⟨i1, hi1, hy0, hy1, hy2⟩ := info_parts infoContext
  have q22 : ∀ (w : World) (a : Option Addr) (n c n' c' : Nat), (binOp .eql 30 (.slice a n c) (.slice none n' c')).run Try.prog w = .ok (.bool a.isNone) w := fun w a n c n' c' => Lib.run_eql_slice_nil w _ _ a n c n' c' Try.underlying30
  cases a with
  | none =>
    rcases h.2 with h0 | ⟨b, off, hp, _⟩
    · subst h0
      have hl0 : l = [] := List.eq_nil_of_length_eq_zero h.1
      subst hl0
      clear h
      go_enter Try.func88, Try.ntmps88
      go_wp2_with fail
      go_ret
      exact ⟨none, 0, rfl, World.ownsRow_nil _ _ _ _, Below.refl _ _⟩
    · cases hp
  | some ad =>
    have HH := Lib.hid (h.below (below_alloc w (.cells #[] 69)))
    have hem := empty_own (T := 69) w
    clear h
    go_enter Try.func88, Try.ntmps88
    go_wp2_with (at_builtin; refine AppH.wpList_append_holds rfl _ _ 30 rfl w.heap.size 69 i1 (.agg #[.int .i64 0, .int .i64 0]) Try.underlying30 hi1 hy0 hy1 hy2 rfl w.heap.size 0 0 [] rfl hem (some ad) n c l rfl HH.out (by omega) (by simp) (w.heap.size + 1) (by simp) ?_; intro g cap w3 hown' hgrow hat hltg)
    go_ret
    exact ⟨_, _, rfl, by simpa using hown', (below_alloc w _).grown hgrow (by simp) (fun k hk => own_here hk)⟩
end Go.Proofs.Ytlgfaabobpnflaa.CloneC
