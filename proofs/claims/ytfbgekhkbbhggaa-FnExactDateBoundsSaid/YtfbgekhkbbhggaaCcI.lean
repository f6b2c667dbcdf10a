/- slices.Grow from nothing and slices.Concat of two lists of ints. -/
import Derived.Test.YtfbgekhkbbhggaaAppI
import Derived.Lib.AppendZeros
import Derived.BigQuiet
namespace Go.Proofs.Ytfbgekhkbbhggaa.CcI
open Go.RowKit Pairs Rec Keep GivesI AppI
set_option linter.unusedVariables false
theorem new_obj (w : World) (o : Obj) : (w.alloc o).drew.heap[w.heap.size]? = some o := by
  show (w.heap.push _)[w.heap.size]? = _
  rw [Array.getElem?_push, if_pos rfl]
def GrAns (w : World) (e : Ending) (w' : World) : Prop := ∃ (g cap : Nat), e = .returned (.slice (some ⟨g, 0, none⟩) 0 cap) ∧ w'.ownsRow w.heap.size 3 1 (.slice (some ⟨g, 0, none⟩) 0 cap) 0 [] ∧ Below w.heap.size w w'
set_option maxRecDepth 100000 in
set_option maxHeartbeats 4000000 in
theorem grow_any (n : Nat) (h1 : 1 ≤ n) (h2 : n ≤ 1048576) (w : World) :
    Calls Try.prog 136 #[.slice none 0 0, .int .i64 n] w (GrAns w) := by
  obtain ⟨i1, hi1, hy0, hy1, hy2⟩ := info_parts IntT.infoI
  have hrun := Lib.run_append_nil_zeros (P := Try.prog) w 41 3 41 3 i1 (.int .i64 0) .i64 .i64 Try.underlying41 Try.underlying3 hi1 hy0 n (by omega) (by omega) (by omega) (by rw [hy2]; omega)
  have hn0 : ¬ (n : Int) < 0 := by omega
  have hn1 : (0 : Int) < (n : Int) := by omega
  go_enter Try.func136, Try.ntmps136
  go_wp2_with (at_builtin; refine Lib.wpList_append_run _ rfl _ _ _ _ rfl _ _ rfl rfl _ _ hrun ?_)
  go_ret
  refine ⟨w.heap.size, grownCap w n 0 3, rfl, ⟨rfl, .inr ⟨w.heap.size, grownCap w n 0 3, _, rfl, Nat.le_refl _, new_obj w _, Nat.zero_le _, grownCap_le_maxLen w n 0 _ (by unfold maxLen; omega), ?_, rfl⟩⟩, (below_alloc w _).drew⟩
  have hg := grownCap_ge w n 0 3
  simp [Builtin.zeroCells]
  omega
/-- The pieces up to the j-th. -/
def lenTo (k1 k2 : Nat) (j : Nat) : Nat := if j = 0 then 0 else if j = 1 then k1 else k1 + k2
def preTo (A B : List Int) (j : Nat) : List Int := if j = 0 then [] else if j = 1 then A else A ++ B
set_option maxRecDepth 100000 in
set_option maxHeartbeats 4000000 in
theorem concat_any (g0 d0 : Nat) (p1 : Option Addr) (k1 d1 : Nat) (A : List Int) (p2 : Option Addr) (k2 d2 : Nat) (B : List Int) (w : World) (x0 : w.cell? ⟨g0, 0, none⟩ = some (.slice p1 k1 d1)) (x1 : w.cell? ⟨g0, 1, none⟩ = some (.slice p2 k2 d2)) (h1 : HoldsI w p1 k1 A) (h2 : HoldsI w p2 k2 B) (hk1 : k1 ≤ 1000) (hk2 : k2 ≤ 1000) (hp : 1 ≤ k2) :
    Calls Try.prog 131 #[.slice (some ⟨g0, 0, none⟩) 2 d0] w (CloAns (A ++ B) (k1 + k2) w) := by
  obtain ⟨i1, hi1, hy0, hy1, hy2⟩ := info_parts IntT.infoI
  have H1 := Lib.hid h1
  have H2 := Lib.hid h2
  have g0l := World.block_lt_of_cell? w _ x0
  clear h1 h2
  go_enter Try.func131, Try.ntmps131
  go_wp2_with fail
  go_loopw [3, 11] (fun s3 s11 wr => ∃ j : Nat, j ≤ 2 ∧ s11 = .int .i64 j ∧ s3 = .int .i64 (lenTo k1 k2 j : Nat) ∧ wr = w) (fun _ s11 _ => 2 - (intOf s11).toNat)
  case atStart => exact ⟨0, by omega, rfl, rfl, rfl⟩
  case round =>
    obtain ⟨j, hj, rfl, rfl, rfl⟩ := hrel
    match j, hj with
    | 0, _ =>
      have e0 : lenTo k1 k2 0 = 0 := rfl
      have e1 : lenTo k1 k2 1 = k1 := rfl
      have q1 : ¬ (k1 : Int) < 0 := by omega
      rw [e0]
      go_wp2_with fail
      exact ⟨⟨1, by omega, by go_num, by rw [e1], trivial⟩, by simp [intOf]⟩
    | 1, _ =>
      have e1 : lenTo k1 k2 1 = k1 := rfl
      have e2 : lenTo k1 k2 2 = k1 + k2 := rfl
      have q1 : ¬ (k1 : Int) + (k2 : Int) < 0 := by omega
      rw [e1]
      go_wp2_with fail
      exact ⟨⟨2, by omega, by go_num, by rw [e2]; go_num, trivial⟩, by simp [intOf]⟩
    | 2, _ =>
      have e2 : lenTo k1 k2 2 = k1 + k2 := rfl
      rw [e2]
      go_wp2_with fail
      refine (grow_any (k1 + k2) (by omega) (by omega) wr).mono ?_
      rintro e w1 ⟨g, cap, rfl, o1, b1⟩
      have O1 := Lib.hid o1
      have B1 := Lib.hid b1
      have y0 := (b1.cell (p := ⟨g0, 0, none⟩) g0l).trans x0
      have y1 := (b1.cell (p := ⟨g0, 1, none⟩) g0l).trans x1
      clear o1 b1
      go_wp2_with fail
      go_loopw [6, 27] (fun s6 s27 wq => ∃ (j g cap : Nat), j ≤ 2 ∧ s27 = .int .i64 j ∧ s6 = .slice (some ⟨g, 0, none⟩) (lenTo k1 k2 j) cap ∧ Hid (wq.ownsRow wr.heap.size 3 1 (.slice (some ⟨g, 0, none⟩) (lenTo k1 k2 j) cap) (lenTo k1 k2 j) (ints (preTo A B j))) ∧ Hid (Below wr.heap.size wr wq)) (fun _ s27 _ => 2 - (intOf s27).toNat)
      case atStart => exact ⟨0, g, cap, by omega, rfl, rfl, O1.out, B1.out⟩
      case round =>
        obtain ⟨j, g, cap, hj, rfl, rfl, HO, HB⟩ := hrel
        clear y0 y1 O1 B1
        have y0 := (HB.out.cell (p := ⟨g0, 0, none⟩) g0l).trans x0
        have y1 := (HB.out.cell (p := ⟨g0, 1, none⟩) g0l).trans x1
        match j, hj with
        | 0, _ =>
          have e0 : lenTo k1 k2 0 = 0 := rfl
          have e1 : lenTo k1 k2 1 = 0 + k1 := by show k1 = _; omega
          have HO' := HO.out
          rw [e0, show ints (preTo A B 0) = [] from rfl] at HO'
          have hsz := HB.out.size
          rw [e0]
          go_wp2_with (at_builtin; refine wpList_app rfl _ _ 41 rfl _ 3 i1 (.int .i64 0) Try.underlying41 hi1 hy0 hy1 hy2 rfl g 0 cap [] rfl HO' p1 k1 d1 A rfl (H1.out.below HB.out) (by omega) hsz _ rfl ?_; intro g' cap' w3 hown hgrow hat hltg)
          refine ⟨⟨1, g', cap', by omega, by go_num, by first | (rw [e1]; done) | (rw [e1]; simp; done) | simp [lenTo], ?_, ?_⟩, by simp [intOf]⟩
          · unfold Hid; rw [e1]; simpa [preTo] using hown
          · exact HB.out.grown hgrow hsz (fun k hk => by injection hk with hk; have := (HO'.lt g rfl).1; omega)
        | 1, _ =>
          have e1 : lenTo k1 k2 1 = k1 := rfl
          have e2 : lenTo k1 k2 2 = k1 + k2 := rfl
          have HO' := HO.out
          rw [e1, show ints (preTo A B 1) = ints A from rfl] at HO'
          have hsz := HB.out.size
          rw [e1]
          go_wp2_with (at_builtin; refine wpList_app rfl _ _ 41 rfl _ 3 i1 (.int .i64 0) Try.underlying41 hi1 hy0 hy1 hy2 rfl g k1 cap (ints A) rfl HO' p2 k2 d2 B rfl (H2.out.below HB.out) (by omega) hsz _ rfl ?_; intro g' cap' w3 hown hgrow hat hltg)
          refine ⟨⟨2, g', cap', by omega, by go_num, by first | (rw [e2]; done) | (rw [e2]; simp; done) | simp [lenTo], ?_, ?_⟩, by simp [intOf]⟩
          · unfold Hid
            rw [e2]
            have : ints (preTo A B 2) = ints A ++ ints B := by show ints (A ++ B) = _; unfold ints; rw [List.map_append]
            rw [this]
            exact hown
          · exact HB.out.grown hgrow hsz (fun k hk => by injection hk with hk; have := (HO'.lt g rfl).1; omega)
        | 2, _ =>
          have e2 : lenTo k1 k2 2 = k1 + k2 := rfl
          have HO' := HO.out
          rw [e2] at HO'
          rw [e2]
          have HF := Lib.hid (And.intro HO' HB.out)
          clear HO'
          go_wp2_with fail
          go_ret
          exact ⟨_, _, rfl, HF.out.1, HF.out.2⟩
end Go.Proofs.Ytfbgekhkbbhggaa.CcI
