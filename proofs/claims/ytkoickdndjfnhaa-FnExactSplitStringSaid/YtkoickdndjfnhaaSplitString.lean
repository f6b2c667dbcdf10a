/- For every two strings: the law FnExactSplitString returns true: the program's SplitString answers as the model's, and what it returns is its own memory. No condition. -/
import Derived.Test.YtkoickdndjfnhaaSplitBoth
import Derived.ChangeOld
import Derived.Below
import Derived.Test.YtkoickdndjfnhaaRows
import Derived.WalkKit
import Derived.ProofKit
import Derived.OpenShut
import Derived.ShutString
namespace Go.Proofs.Ytkoickdndjfnhaa.fnExactSplitString
open Go.ChangeShapes Go.WideShapes Go.ChangeAt Go.RowKit
open Go.ChangeMaps (open_string shut_string)
set_option linter.unusedVariables false
      -- a walk need not use every 'w<i>' (that an integer argument fits its kind)

theorem own : ownKnob Try.prog.godebug = none := by kernel_rfl

theorem sep_head (sep : ByteArray) : ∃ c : UInt8, sep.size = 1 → sep.data.toList[0]? = some c := by
  by_cases hs : sep.size = 1
  · have h0 : 0 < sep.data.toList.length := by simpa using (by omega : 0 < sep.size)
    exact ⟨sep.data.toList[0], fun _ => List.getElem?_eq_getElem h0⟩
  · exact ⟨0, fun h => absurd h hs⟩
theorem sl_len (s sep : ByteArray) (c : UInt8) : (SplitBoth.sl s sep c).length ≤ 4001 := by
  unfold SplitBoth.sl
  by_cases h : SplitBoth.ok s sep = true
  · rw [if_pos h]
    have h1 := ImplSplit.parts_le s c
    unfold SplitBoth.ok at h
    rw [Bool.and_eq_true] at h
    have := of_decide_eq_true h.1
    omega
  · rw [if_neg h]
    simp
theorem cells_of {w : World} {B g n cap : Nat} {l : List ByteArray} (h : w.ownsRow B 9 1 (.slice (some ⟨g, 0, none⟩) n cap) n (Split.strs l)) (hn : l.length = n) : Strs.Cells w g 0 l := by
  intro i x hi
  have hl : i < l.length := (List.getElem?_eq_some_iff.1 hi).1
  rw [Nat.zero_add, h.cellAt i (by omega)]
  unfold Split.strs
  rw [List.getElem?_map, hi]
  rfl
theorem cells_grown {w w' : World} {g r : Nat} {l : List ByteArray} (h : Strs.Cells w g 0 l) (hg : w.grownBy w' (some r)) (hlt : g < w.heap.size) (hne : g ≠ r) : Strs.Cells w' g 0 l := by
  intro i x hi
  have e := World.cell?_of_block (w := w) (w' := w') (a := ⟨g, 0 + i, none⟩) (hg.block g hlt (fun e => hne (Option.some.inj e)))
  exact e.trans (h i x hi)

set_option maxHeartbeats 1000000 in
theorem walk (a0 : ByteArray) (a1 : ByteArray) (w0 : a0.size ≤ maxLen) (w1 : a1.size ≤ maxLen) (w : World) :
    Calls Try.prog 4 #[.string a0, .string a1] w fun e w' => e = .returned (.bool true) ∧ Below w.heap.size w w' := by
  unfold maxLen at w0 w1
  by_cases hs : a0.size ≤ 1048576
  · by_cases hz : a1.size ≤ 1048576
    · obtain ⟨c, hsc⟩ := sep_head a1
      have hn := sl_len a0 a1 c
      have HC := Lib.hid hsc
      clear hsc
      go_enter Try.func4, Try.ntmps4
      go_wp2_with fail
      refine (SplitBoth.spec_any a0 a1 c _ hs HC.out).mono ?_
      rintro e wa ⟨g1, cap1, rfl, own1, b1⟩
      go_wp2_with fail
      refine (SplitBoth.impl_any a0 a1 c _ hs HC.out).mono ?_
      rintro e wb ⟨g2, cap2, rfl, own2, b2⟩
      obtain ⟨n, hnn⟩ : ∃ n, (SplitBoth.sl a0 a1 c).length = n := ⟨_, rfl⟩
      rw [hnn] at own1 own2 hn ⊢
      have c1 := (cells_of own1 hnn).below b2 (own1.lt g1 rfl).2
      have c2 := cells_of own2 hnn
      have l1 := (own1.lt g1 rfl)
      have l2 := (own2.lt g2 rfl)
      have bab := b1.trans (b2.mono b1.size)
      have HN := Lib.hid hnn
      clear own1 b1 b2 hnn
      go_wp2_with fail
      refine (Strs.eqS_same g2 0 cap2 g1 0 cap1 _ n HN.out (by omega) _ c2 c1).mono ?_
      rintro e wc ⟨rfl, b3⟩
      have own2c := own2.kept (Mrk.grownBy_of_below b3) (.inr (by simp [Value.ownBlock]))
      have c1c := c1.below b3 (by have := bab.size; omega)
      have bac := bab.trans (b3.mono bab.size)
      have hz3 := b3.size
      clear own2 c1 c2 b3 bab
      go_wp2_with fail
      refine (Mrk.markS_any _ g2 n cap2 _ (by omega) _ own2c).mono ?_
      rintro e wd ⟨rfl, hmk⟩
      have hmarks := Mrk.marks_of hmk
      have hgr : wc.grownBy wd (some g2) := by obtain ⟨_, _, _, h3⟩ := hmk; exact h3
      have c1d := cells_grown c1c hgr (by omega) (by omega)
      have bad : Below w.heap.size w wd := bac.grown hgr bac.size (fun k hk => by cases hk; omega)
      have hzd := hgr.size
      clear hmk hgr own2c c1c bac
      go_wp2_with fail
      refine (Held.heldS_any g2 n cap2 (by omega) _ hmarks).mono ?_
      rintro e we ⟨rfl, b5⟩
      have c1e := c1d.below b5 (by omega)
      have me := hmarks.below b5
      have bae := bad.trans (b5.mono bad.size)
      have hze := b5.size
      clear c1d hmarks bad b5
      have hq1 : ¬ ((n : Int) + 1 < 0) := by omega
      go_wp2_with fail
      refine (SplitBoth.impl_any a0 a1 c _ hs HC.out).mono ?_
      rintro e wf ⟨g3, cap3, rfl, own3, b6⟩
      rw [HN.out] at own3 ⊢
      have c3 := cells_of own3 HN.out
      have c1f := c1e.below b6 (by omega)
      have mf := me.below b6
      have baf := bae.trans (b6.mono bae.size)
      have hzf := b6.size
      clear c1e me own3 bae b6
      go_wp2_with fail
      refine (Strs.eqS_same g3 0 cap3 g1 0 cap1 _ n HN.out (by omega) _ c3 c1f).mono ?_
      rintro e wg ⟨rfl, b7⟩
      have mg := mf.below b7
      have bag := baf.trans (b7.mono baf.size)
      clear mf c3 c1f baf b7
      go_wp2_with fail
      refine (Held.heldS_any g2 n cap2 (by omega) _ mg).mono ?_
      rintro e wh ⟨rfl, b8⟩
      go_wp2_with fail
      go_ret
      exact ⟨rfl, bag.trans (b8.mono bag.size)⟩
    · go_enter Try.func4, Try.ntmps4
      go_wp2_with fail
      go_ret
      exact ⟨rfl, Below.refl _ _⟩
  · go_enter Try.func4, Try.ntmps4
    go_wp2_with fail
    go_ret
    exact ⟨rfl, Below.refl _ _⟩

/-! ### THE ROW's STEP: WRITTEN OUT: LEAVE IT -/
set_option maxRecDepth 100000 in
theorem lifted (os : Os) (started : os.Started) (H : Type) (enc : TypeId × Value → H) :
    ReturnsInHanded {} Try.checked os 4 .any (Rows.fnExactSplitStringSpec.pre6 enc Try.prog Try.f4 Rows.fnExactSplitStringRow.domain false) (Rows.fnExactSplitStringSpec.post enc Try.prog Try.f4 false true false false) := by
  refine returnsInHanded_of_change (C := Try.checked) own started (by kernel_rfl) Try.func4
    (ChangeSpec.witness6 (enc := enc) (C := Try.checked) false ⟨#[], #[.string ByteArray.empty, .string ByteArray.empty], []⟩ 8 (by kernel_rfl) (by kernel_rfl) (by kernel_rfl) (by kernel_rfl)) ?_
  intro W base args ds gs before hval0 hW hcnd _
  have hval : ∀ (j : Nat) t v, Try.f4.params[j]? = some t → args[j]? = some v → Value.okWide Try.prog W .any base t v := hval0
  have hW' := hW
  obtain ⟨p, q, hA0, hV, rfl, hfz, hnd⟩ := hW
  have hA : DataW.TrodAll enc Try.prog W 0 (fun _ => true) true Try.f4.params.toList args.toList ds p := hA0
  rw [Try.params4] at hA hval
  obtain ⟨v0, vs0, d0, ds0, p0, q0, hargs, rfl, rfl, h0, r0⟩ := trodAll_cons hA
  obtain ⟨v1, vs1, d1, ds1, p1, q1, rfl, rfl, rfl, h1, r1⟩ := trodAll_cons r0
  obtain ⟨rfl, rfl, rfl⟩ := trodAll_nil r1
  obtain rfl : args = #[v0, v1] := by cases args; simp_all
  obtain ⟨rfl, rfl⟩ := trodVars_none hV
  obtain ⟨a0, rfl, rfl, rfl, w0⟩ := open_string Try.underlying9 (hval 0 9 v0 rfl rfl) h0
  obtain ⟨a1, rfl, rfl, rfl, w1⟩ := open_string Try.underlying9 (hval 1 9 v1 rfl rfl) h1
  clear hA0 hval0
  simp only [List.append_nil] at hW'
  refine (walk a0 a1 w0 w1 W).mono fun e W' ⟨he, bel⟩ => ?_
  subst he
  exact ⟨_, rfl, _, _, _, [], _, [], hW', trodAll_mk1 (shut_bool Try.underlying4 _), (trodAll_cons_mk (shut_string Try.underlying9 w0) (trodAll_cons_mk (shut_string Try.underlying9 w1) trodAll_mk0)), rfl, bel.frame _, fun h => by cases h⟩

theorem over : Rows.fnExactSplitStringRow.holds Try.pinned (OpenSpec.ofChange Rows.fnExactSplitStringSpec) :=
  OpenClaim.holds_of_wide 4 Try.f4 rfl rfl rfl rfl rfl rfl rfl ⟨rfl, rfl, rfl, rfl, rfl⟩ rfl rfl rfl rfl rfl (by kernel_rfl) Try.func4 (by kernel_rfl)
    (of_decide_eq_true (by kernel_rfl)) (by unfold Func.isWrapper; first | (rw [if_pos (by decide +kernel)]; kernel_rfl) | (rw [if_neg (by decide +kernel)]; exact ⟨rfl, rfl⟩))
    (fun os started H enc _ => lifted os started H enc)

theorem proved : Rows.FnExactSplitStringSaid :=
  over
#print axioms proved
end Go.Proofs.Ytkoickdndjfnhaa.fnExactSplitString
