/- For every code: the law FnSplitJoin returns true: SplitString and JoinStrings are inverse at what is drawn, JoinStrings and LessString answer as the model's, and LessString is a strict order. No condition. -/
import Derived.Test.YtkoickdndjfnhaaSplitBoth
import Derived.Test.YtkoickdndjfnhaaImplJoin
import Derived.Test.YtkoickdndjfnhaaDraw
import Derived.Test.YtkoickdndjfnhaaRound
import Derived.Test.YtkoickdndjfnhaaRows
import Derived.WalkKit
import Derived.ProofKit
import Derived.OpenShut
import Derived.ShutString
import Derived.ChangeOld
import Derived.Below
namespace Go.Proofs.Ytkoickdndjfnhaa.fnSplitJoin
open Go.ChangeShapes Go.WideShapes Go.ChangeAt Go.RowKit
open Go.ChangeMaps (open_string shut_string)
set_option linter.unusedVariables false

theorem own : ownKnob Try.prog.godebug = none := by kernel_rfl
theorem laidOut : laidOutB Try.prog = true := by kernel_rfl

/-- WHAT THE WALK IS TOLD OF A SLICE OF INTEGERS THAT CAME IN: it is nil; or it leads to a row of 'cap' cells, the numbers 'zs' (the first 'len' are its elements, the rest its spare room), each fitting its kind. -/
def IsRow (k : IntKind) (w : World) (a : Option Addr) (len cap : Nat) (zs : List Int) : Prop :=
  (a = none ∧ len = 0 ∧ cap = 0 ∧ zs = []) ∨
  ∃ x, a = some x ∧ len ≤ cap ∧ cap ≤ maxLen ∧ zs.length = cap ∧ (∀ i, i < zs.length → w.cell? (x.add i) = some (.int k (zs.getD i 0))) ∧ ∀ n ∈ zs, (Lit.int k n).wf = true

theorem vBig_any (a : Option Addr) (len cap : Nat) (w : World) :
    Calls Try.prog 8 #[.slice a len cap] w fun e w' => e = .returned (.bool (decide (65536 < (len : Int)))) ∧ w = w' := by
  go_enter Try.func8, Try.ntmps8
  go_wp2
  all_goals go_ret
  all_goals exact ⟨rfl, rfl⟩
theorem add_eq (b off i : Nat) : (⟨b, off, none⟩ : Addr).add i = ⟨b, off + i, none⟩ := by
  unfold Addr.add
  by_cases h : i = 0
  · subst h; simp
  · simp [h]
theorem cell_lt {w : World} {a : Addr} {v : Value} (h : w.cell? a = some v) : a.block < w.heap.size := by
  cases hb : w.heap[a.block]? with
  | none => simp [World.cell?, hb] at h
  | some o => exact (Array.getElem?_eq_some_iff.1 hb).1
theorem code_of {w : World} {a : Option Addr} {len cap : Nat} {zs : List Int} (h : IsRow .u8 w a len cap zs) (hl : len ≤ 65536) : Draw.IsCode w a len := by
  refine ⟨?_, hl⟩
  rcases h with ⟨rfl, rfl, rfl, rfl⟩ | ⟨x, rfl, hlc, hm, hz, hcell, hwz⟩
  · intro i hi
    omega
  · intro i hi
    obtain ⟨b, off, spot⟩ := x
    have hc0 := hcell 0 (by omega)
    have hspot : spot = none := by simpa [Addr.add] using World.cell?_spot hc0
    subst hspot
    have hc := hcell i (by omega)
    rw [add_eq] at hc
    have hmem : zs.getD i 0 ∈ zs := by
      rw [List.getD_eq_getElem?_getD, List.getElem?_eq_getElem (by omega)]
      exact List.getElem_mem _
    have hw := hwz _ hmem
    have hb : 0 ≤ zs.getD i 0 ∧ zs.getD i 0 ≤ 255 := by
      simpa [Lit.wf, IntKind.min, IntKind.max, IntKind.signed, IntKind.bits] using hw
    exact ⟨b, off, _, rfl, cell_lt hc, hc, hb.1, hb.2⟩
theorem row_len {k : IntKind} {w : World} {a : Option Addr} {len cap : Nat} {zs : List Int} (h : IsRow k w a len cap zs) : len ≤ 9223372036854775807 ∧ True := by
  unfold IsRow maxLen at h
  rcases h with ⟨rfl, rfl, rfl, rfl⟩ | ⟨x, rfl, hlc, hm, _⟩
  · exact ⟨by omega, trivial⟩
  · exact ⟨by omega, trivial⟩
theorem sep_small : ∀ x ∈ Draw.sepList, x.size ≤ 2 := by decide
theorem sep_head (sep : ByteArray) : ∃ c : UInt8, sep.size = 1 → sep.data.toList[0]? = some c := by
  by_cases hs : sep.size = 1
  · have h0 : 0 < sep.data.toList.length := by simpa using (by omega : 0 < sep.size)
    exact ⟨sep.data.toList[0], fun _ => List.getElem?_eq_getElem h0⟩
  · exact ⟨0, fun h => absurd h hs⟩
theorem cells_of {w : World} {B g n cap : Nat} {l : List ByteArray} (h : w.ownsRow B 9 1 (.slice (some ⟨g, 0, none⟩) n cap) n (Split.strs l)) (hn : l.length = n) : Strs.Cells w g 0 l := by
  intro i x hi
  have hl : i < l.length := (List.getElem?_eq_some_iff.1 hi).1
  rw [Nat.zero_add, h.cellAt i (by omega)]
  unfold Split.strs
  rw [List.getElem?_map, hi]
  rfl
theorem cap_of {w : World} {B g n cap : Nat} {xs : List Value} (h : w.ownsRow B 9 1 (.slice (some ⟨g, 0, none⟩) n cap) n xs) : n ≤ cap := by
  rcases h.2 with ⟨h', _⟩ | ⟨g', cap', cur, h', _, _, hnc, _⟩
  · simp at h'
  · simp only [Value.slice.injEq, Option.some.injEq, Addr.mk.injEq, and_true, true_and] at h'
    omega
theorem implK (g n cap : Nat) (l : List ByteArray) (hn : l.length = n) (ht : n + Strs.tot l ≤ 1048576) (hcap : n ≤ cap) (sep : ByteArray) (c : UInt8) (hsc : sep.size = 1 → sep.data.toList[0]? = some c) (w : World) (hg : g < w.heap.size) (h : Strs.Cells w g 0 l) :
    Calls Try.prog 12 #[.slice (some ⟨g, 0, none⟩) n cap, .string sep] w (SpecJoin.Out l sep c w) := by
  by_cases h0 : n = 0
  · subst h0
    obtain rfl : l = [] := List.length_eq_zero_iff.1 hn
    exact ImplJoin.impl_none _ cap sep c w
  · by_cases hs : sep.size = 1
    · exact ImplJoin.impl_any g 0 cap l n hn (by omega) hcap ht sep c w hs (hsc hs) hg h
    · exact ImplJoin.impl_bad _ n cap (by omega) l sep c w hs
theorem specK (g n cap : Nat) (l : List ByteArray) (hn : l.length = n) (ht : n + Strs.tot l ≤ 1048576) (sep : ByteArray) (hz : sep.size ≤ 1048576) (c : UInt8) (hsc : sep.size = 1 → sep.data.toList[0]? = some c) (w : World) (hg : g < w.heap.size) (h : Strs.Cells w g 0 l) :
    Calls Try.prog 13 #[.slice (some ⟨g, 0, none⟩) n cap, .string sep] w (SpecJoin.Out l sep c w) := by
  by_cases hs : sep.size = 1
  · by_cases h0 : n = 0
    · subst h0
      obtain rfl : l = [] := List.length_eq_zero_iff.1 hn
      exact SpecJoin.spec_none _ cap sep c w hs
    · exact SpecJoin.spec_any g 0 cap l n hn (by omega) ht sep c w hs (hsc hs) hg h
  · exact SpecJoin.spec_bad _ n cap l sep c w hz hs
theorem bytesLess_asym : ∀ x y : List UInt8, (Op.bytesLess x y && Op.bytesLess y x) = false
  | [], [] => rfl
  | [], _ :: _ => by simp [Op.bytesLess]
  | _ :: _, [] => by simp [Op.bytesLess]
  | a :: x, b :: y => by
    have ih := bytesLess_asym x y
    simp only [Op.bytesLess]
    by_cases hab : a < b
    · have h1 : ¬ b < a := fun h => by have := UInt8.lt_iff_toNat_lt.1 hab; have := UInt8.lt_iff_toNat_lt.1 h; omega
      have h2 : (b == a) = false := by rw [beq_eq_false_iff_ne]; rintro rfl; exact h1 hab
      simp [h1, h2]
    · by_cases hba : b < a
      · have h2 : (a == b) = false := by rw [beq_eq_false_iff_ne]; rintro rfl; exact hab hba
        simp [hab, h2]
      · by_cases he : a = b
        · subst he
          simp [hab]
          simpa using ih
        · have h2 : (a == b) = false := by rw [beq_eq_false_iff_ne]; exact he
          simp [hab, h2]
theorem less_asym (p q : ByteArray) : (Op.bytesLess p.toList q.toList && Op.bytesLess q.toList p.toList) = false := bytesLess_asym _ _
theorem less_impl (p q : ByteArray) (w : World) : Calls Try.prog 15 #[.string p, .string q] w fun e w' => e = .returned (.bool (Op.bytesLess p.toList q.toList)) ∧ w = w' := by
  go_enter Try.func15, Try.ntmps15
  go_wp2
  go_ret
  exact ⟨rfl, rfl⟩
theorem less_spec (p q : ByteArray) (w : World) : Calls Try.prog 16 #[.string p, .string q] w fun e w' => e = .returned (.bool (Op.bytesLess p.toList q.toList)) ∧ w = w' := by
  go_enter Try.func16, Try.ntmps16
  go_wp2
  go_ret
  exact ⟨rfl, rfl⟩
theorem parts_tot (s : ByteArray) (c : UInt8) (sep : ByteArray) (hs : sep.size = 1) (hc : sep.data.toList[0]? = some c) : (Split.parts s c).length + Strs.tot (Split.parts s c) ≤ s.size + 1 := by
  have e := Round.parts_join s c sep (Round.sep_list hs hc)
  have h := Jn.jn_size sep (Split.parts s c) hs _ (Nat.le_refl _)
  rw [e, List.take_length] at h
  have : 1 ≤ (Split.parts s c).length := by unfold Split.parts; simp
  omega

set_option maxRecDepth 100000 in
set_option maxHeartbeats 2000000 in
theorem walk (a0 : Option Addr) (len0 cap0 : Nat) (z0 : List Int) (w : World) (w0 : IsRow .u8 w a0 len0 cap0 z0) :
    Calls Try.prog 3 #[.slice a0 len0 cap0] w fun e w' => e = .returned (.bool true) ∧ Below w.heap.size w w' := by
  have hbig := vBig_any a0 len0 cap0 w
  by_cases hs : len0 ≤ 65536
  · have hcode := code_of w0 hs
    obtain ⟨hl63, -⟩ := row_len w0
    clear w0
    rw [show decide (65536 < (len0 : Int)) = false by simp; omega] at hbig
    have HBIG := Lib.hid hbig
    clear hbig
    go_enter Try.func3, Try.ntmps3
    go_wp2_with fail
    refine HBIG.out.mono ?_
    rintro e w' ⟨rfl, rfl⟩
    go_wp2_with fail
    refine (Draw.drawSplit a0 len0 cap0 _ hcode).mono ?_
    rintro e wa ⟨s, sep, rfl, hsm, hsepm, ba⟩
    have hs10 := Draw.any1_small s hsm
    have hsep := sep_small sep hsepm
    have codea := hcode.below ba
    obtain ⟨c, hsc⟩ := sep_head sep
    have HSC := Lib.hid hsc
    clear hsc hcode hsm hsepm
    go_wp2_with fail
    refine (SplitBoth.impl_any s sep c _ (by omega) HSC.out).mono ?_
    rintro e wb ⟨g1, cap1, rfl, own1, bb⟩
    have bab := ba.trans (bb.mono ba.size)
    have codeb := codea.below bb
    have c1 := cells_of own1 rfl
    have l1 := own1.lt g1 rfl
    have k1 := cap_of own1
    clear own1 ba bb codea
    go_wp2_with fail
    refine (Draw.drawJoin a0 len0 cap0 _ codeb).mono ?_
    rintro e wc ⟨l, g2, cap2, y, rfl, hsm2, hy, own2, bc⟩
    have bac := bab.trans (bc.mono bab.size)
    have codec := codeb.below bc
    have c1c := c1.below bc l1.2
    have c2 := cells_of own2 rfl
    have l2 := own2.lt g2 rfl
    have k2 := cap_of own2
    have htot := Draw.small_tot l hsm2.2
    have hl5 := hsm2.1
    have hzc := bc.size
    obtain ⟨d, hsd⟩ := sep_head y
    have HSD := Lib.hid hsd
    clear own2 bab bc codeb c1 hsm2 hsd
    go_wp2_with fail
    refine (implK g2 l.length cap2 l rfl (by omega) k2 y d HSD.out _ l2.2 c2).mono ?_
    rintro e wd ⟨rfl, bd⟩
    have bad := bac.trans (bd.mono bac.size)
    have coded := codec.below bd
    have c1d := c1c.below bd (by omega)
    have c2d := c2.below bd (by omega)
    have hzd := bd.size
    clear bac bd codec c1c c2
    go_wp2_with fail
    refine (specK g2 l.length cap2 l rfl (by omega) y (by omega) d HSD.out _ (by omega) c2d).mono ?_
    rintro e we ⟨rfl, be⟩
    have bae := bad.trans (be.mono bad.size)
    have codee := coded.below be
    have c1e := c1d.below be (by omega)
    have hze := be.size
    clear bad be coded c1d c2d
    generalize Jn.jv l y d = jj at *
    go_wp2_with fail
    refine (Draw.drawLess a0 len0 cap0 _ codee).mono ?_
    rintro e wf ⟨p, q, rfl, hp, hq, bf⟩
    have baf := bae.trans (bf.mono bae.size)
    have c1f := c1e.below bf (by omega)
    have hzf := bf.size
    clear bae bf codee c1e hp hq
    have hasy := less_asym p q
    have HASY := Lib.hid hasy
    clear hasy
    by_cases hsp : sep.size = 1
    · have hsok : SplitBoth.ok s sep = true := by unfold SplitBoth.ok; rw [decide_eq_true (show s.size ≤ 4000 by omega), decide_eq_true hsp]; rfl
      have hsl : SplitBoth.sl s sep c = Split.parts s c := by unfold SplitBoth.sl; rw [hsok]; rfl
      have hbk := Round.back s sep c hsp (HSC.out hsp) (by omega)
      have hpl := ImplSplit.parts_le s c
      have hpt := parts_tot s c sep hsp (HSC.out hsp)
      have hb1 : ((sep.size : Int) != 1) = false := by rw [hsp]; rfl
      rw [hsl] at c1f k1 ⊢
      rw [hsok]
      have hj := implK g1 (Split.parts s c).length cap1 (Split.parts s c) rfl (by omega) k1 sep c HSC.out wf (by omega) c1f
      unfold SpecJoin.Out at hj
      rw [hbk] at hj
      have HJ := Lib.hid hj
      clear hj hbk hsl hsok hsp hpt
      generalize Split.parts s c = pp at *
      cases hpq : Op.bytesLess p.toList q.toList with
      | true =>
        have hqp : Op.bytesLess q.toList p.toList = false := by
          cases hqp : Op.bytesLess q.toList p.toList with
          | false => rfl
          | true => have := HASY.out; rw [hpq, hqp] at this; cases this
        go_wp2_with (first | (go_at_call 15; refine (less_impl _ _ _).mono ?_; rintro e w' ⟨rfl, rfl⟩) | (go_at_call 16; refine (less_spec _ _ _).mono ?_; rintro e w' ⟨rfl, rfl⟩))
        refine HJ.out.mono ?_
        rintro e wg ⟨rfl, bg⟩
        go_wp2_with fail
        go_ret
        exact ⟨rfl, baf.trans (bg.mono baf.size)⟩
      | false =>
        go_wp2_with (first | (go_at_call 15; refine (less_impl _ _ _).mono ?_; rintro e w' ⟨rfl, rfl⟩) | (go_at_call 16; refine (less_spec _ _ _).mono ?_; rintro e w' ⟨rfl, rfl⟩))
        refine HJ.out.mono ?_
        rintro e wg ⟨rfl, bg⟩
        go_wp2_with fail
        go_ret
        exact ⟨rfl, baf.trans (bg.mono baf.size)⟩
    · have hsok : SplitBoth.ok s sep = false := by unfold SplitBoth.ok; rw [decide_eq_false hsp, Bool.and_false]
      have hsl : SplitBoth.sl s sep c = [] := by unfold SplitBoth.sl; rw [hsok]; rfl
      have hb1 : ((sep.size : Int) != 1) = true := by rw [bne_iff_ne]; omega
      rw [hsl, hsok]
      clear hsl hsok hsp c1f k1
      cases hpq : Op.bytesLess p.toList q.toList with
      | true =>
        have hqp : Op.bytesLess q.toList p.toList = false := by
          cases hqp : Op.bytesLess q.toList p.toList with
          | false => rfl
          | true => have := HASY.out; rw [hpq, hqp] at this; cases this
        go_wp2_with (first | (go_at_call 15; refine (less_impl _ _ _).mono ?_; rintro e w' ⟨rfl, rfl⟩) | (go_at_call 16; refine (less_spec _ _ _).mono ?_; rintro e w' ⟨rfl, rfl⟩))
        go_ret
        exact ⟨rfl, baf⟩
      | false =>
        go_wp2_with (first | (go_at_call 15; refine (less_impl _ _ _).mono ?_; rintro e w' ⟨rfl, rfl⟩) | (go_at_call 16; refine (less_spec _ _ _).mono ?_; rintro e w' ⟨rfl, rfl⟩))
        go_ret
        exact ⟨rfl, baf⟩
  · rw [show decide (65536 < (len0 : Int)) = true by simp; omega] at hbig
    have HBIG := Lib.hid hbig
    clear hbig
    go_enter Try.func3, Try.ntmps3
    go_wp2_with fail
    refine HBIG.out.mono ?_
    rintro e w' ⟨rfl, rfl⟩
    go_wp2_with fail
    go_ret
    exact ⟨rfl, Below.refl _ _⟩

/-! ### THE ROW's STEP: WRITTEN OUT: LEAVE IT -/
set_option maxRecDepth 100000 in
theorem lifted (os : Os) (started : os.Started) (H : Type) (enc : TypeId × Value → H) :
    ReturnsInHanded {} Try.checked os 3 .any (Rows.fnSplitJoinSpec.pre6 enc Try.prog Try.f3 Rows.fnSplitJoinRow.domain false) (Rows.fnSplitJoinSpec.post enc Try.prog Try.f3 false true false false) := by
  refine returnsInHanded_of_change (C := Try.checked) own started (by kernel_rfl) Try.func3
    (ChangeSpec.witness6 (enc := enc) (C := Try.checked) false ⟨#[], #[.slice none 0 0], []⟩ 8 (by kernel_rfl) (by kernel_rfl) (by kernel_rfl) (by kernel_rfl)) ?_
  intro W base args ds gs before hval0 hW hcnd _
  have hval : ∀ (j : Nat) t v, Try.f3.params[j]? = some t → args[j]? = some v → Value.okWide Try.prog W .any base t v := hval0
  have hW' := hW
  obtain ⟨p, q, hA0, hV, rfl, hfz, hnd⟩ := hW
  have hA : DataW.TrodAll enc Try.prog W 0 (fun _ => true) true Try.f3.params.toList args.toList ds p := hA0
  rw [Try.params3] at hA hval
  obtain ⟨v0, vs0, d0, ds0, p0, q0, hargs, rfl, rfl, h0, r0⟩ := trodAll_cons hA
  obtain ⟨rfl, rfl, rfl⟩ := trodAll_nil r0
  obtain rfl : args = #[v0] := by cases args; simp_all
  obtain ⟨rfl, rfl⟩ := trodVars_none hV
  obtain ⟨a0, len0, cap0, rfl⟩ := okWide_slice Try.underlying22 (hval 0 22 v0 rfl rfl)
  have k0 := h0
  have lt0 : ∀ x ∈ p0, x.block < W.heap.size := by obtain ⟨m, hm⟩ := k0; exact DataW.trod_lt m _ _ _ hm
  obtain ⟨z0, w0⟩ : ∃ zs, IsRow .u8 W a0 len0 cap0 zs := by
    obtain ⟨fuel, hf⟩ := h0
    rcases open_ints Try.underlying22 Try.underlying5 (by kernel_rfl) hf with ⟨hcs, _⟩ | ⟨x, l, c, zs, hcs, _, hl, hm, hz, _, hcell, hwz⟩
    · simp [Value.cells] at hcs
      obtain ⟨rfl, rfl, rfl⟩ := hcs
      exact ⟨[], .inl ⟨rfl, rfl, rfl, rfl⟩⟩
    · simp [Value.cells] at hcs
      obtain ⟨rfl, rfl, rfl⟩ := hcs
      exact ⟨zs, .inr ⟨_, rfl, hl, hm, by simpa using hz, hcell, hwz⟩⟩
  clear hA0 hval0
  refine (walk a0 len0 cap0 z0 W w0).mono fun e W' ⟨he, bel⟩ => ?_
  subst he
  exact ⟨_, rfl, _, _, _, [], _, [], hW', trodAll_mk1 (shut_bool Try.underlying4 _), (trodAll_cons_mk (Below.trod laidOut (by kernel_rfl) (of_decide_eq_true (by kernel_rfl)) k0 bel lt0) trodAll_mk0), rfl, bel.frame _, fun h => by cases h⟩

theorem over : Rows.fnSplitJoinRow.holds Try.pinned (OpenSpec.ofChange Rows.fnSplitJoinSpec) :=
  OpenClaim.holds_of_wide 3 Try.f3 rfl rfl rfl rfl rfl rfl rfl ⟨rfl, rfl, rfl, rfl, rfl⟩ rfl rfl rfl rfl rfl (by kernel_rfl) Try.func3 (by kernel_rfl)
    (of_decide_eq_true (by kernel_rfl)) (by unfold Func.isWrapper; first | (rw [if_pos (by decide +kernel)]; kernel_rfl) | (rw [if_neg (by decide +kernel)]; exact ⟨rfl, rfl⟩))
    (fun os started H enc _ => lifted os started H enc)

theorem proved : Rows.FnSplitJoinSaid := over
#print axioms proved
end Go.Proofs.Ytkoickdndjfnhaa.fnSplitJoin
