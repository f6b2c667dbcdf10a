/- For every slice of strings and every string: the law FnExactJoinStrings returns true: the program's JoinStrings answers as the model's and leaves its argument. No condition. -/
import Derived.Test.YtkoickdndjfnhaaImplJoin
import Derived.SliceStrings
import Derived.OpenShut
import Derived.ShutString
import Derived.ChangeOld
namespace Go.Proofs.Ytkoickdndjfnhaa.fnExactJoinStrings
open Go.ChangeShapes Go.WideShapes Go.ChangeAt Go.RowKit
open Go.ChangeMaps (open_string shut_string)
open Split (strs_len)
open Strs Jn SpecJoin ImplJoin
set_option linter.unusedVariables false

theorem own : ownKnob Try.prog.godebug = none := by kernel_rfl
theorem laidOut : laidOutB Try.prog = true := by kernel_rfl

/-- What the walk is told of the slice of strings that came in. -/
def IsStrs (w : World) (a : Option Addr) (len : Nat) (l : List ByteArray) : Prop :=
  l.length = len ∧ (l = [] ∨ ∃ b off, a = some ⟨b, off, none⟩ ∧ b < w.heap.size ∧ len ≤ 9223372036854775807 ∧ (∀ x ∈ l, x.size ≤ 9223372036854775807) ∧ Cells w b off l)
theorem IsStrs.below {w w' : World} {a : Option Addr} {len : Nat} {l : List ByteArray} (h : IsStrs w a len l) (hb : Below w.heap.size w w') : IsStrs w' a len l := by
  obtain ⟨h1, h2⟩ := h
  refine ⟨h1, ?_⟩
  rcases h2 with h2 | ⟨b, off, ha, hbw, hl, hx, hc⟩
  · exact .inl h2
  · exact .inr ⟨b, off, ha, Nat.lt_of_lt_of_le hbw hb.size, hl, hx, hc.below hb hbw⟩

theorem szS_all (a : Option Addr) (len cap : Nat) (l : List ByteArray) (w : World) (h : IsStrs w a len l) :
    Calls Try.prog 21 #[.slice a len cap, .int .i64 1048576] w (SzOut l 1048576 w) := by
  obtain ⟨h1, h2⟩ := h
  rcases h2 with rfl | ⟨b, off, rfl, hbw, hl, hx, hc⟩
  · obtain rfl : len = 0 := by simpa using h1.symm
    go_enter Try.func21, Try.ntmps21
    go_wp2
    refine wp_loop_rounds 1 ?_
    rw [rounds_succ]
    go_wp2
    go_ret
    exact ⟨1048576, rfl, rfl, .inr ⟨by omega, by simp [tot]⟩⟩
  · exact szS_any b off cap l len h1 hl hx w hc
theorem toS_all (a : Option Addr) (len cap : Nat) (l : List ByteArray) (w : World) (h : IsStrs w a len l) (hz : len ≤ 1048576) :
    Calls Try.prog 22 #[.slice a len cap] w (Copied w.heap.size w l) := by
  obtain ⟨h1, h2⟩ := h
  rcases h2 with rfl | ⟨b, off, rfl, hbw, hl, hx, hc⟩
  · obtain rfl : len = 0 := by simpa using h1.symm
    exact toS_none a cap w
  · exact toS_any b off cap l len h1 (by omega) w hbw hc
/-- A new slice that holds l. -/
structure Holds (w : World) (B g : Nat) (l : List ByteArray) : Prop where
  cells : Cells w g 0 l
  low : B ≤ g
  high : g < w.heap.size
theorem Holds.below {w w' : World} {B g : Nat} {l : List ByteArray} (h : Holds w B g l) (hb : Below w.heap.size w w') : Holds w' B g l :=
  ⟨h.cells.below hb h.high, h.low, Nat.lt_of_lt_of_le h.high hb.size⟩
theorem holds_of {w : World} {B g n : Nat} {l : List ByteArray} (h : w.ownsRow B 9 1 (.slice (some ⟨g, 0, none⟩) n n) n (Split.strs l)) (hn : l.length = n) : Holds w B g l := by
  obtain ⟨h1, h2⟩ := h.lt g rfl
  refine ⟨fun i x hi => ?_, h1, h2⟩
  have hl : i < l.length := (List.getElem?_eq_some_iff.1 hi).1
  rw [Nat.zero_add, h.cellAt i (by omega)]
  unfold Split.strs
  rw [List.getElem?_map, hi]
  rfl
theorem specJ (g n : Nat) (l : List ByteArray) (hn : l.length = n) (ht : n + tot l ≤ 1048576) (sep : ByteArray) (hz : sep.size ≤ 1048576) (c : UInt8) (hsc : sep.size = 1 → sep.data.toList[0]? = some c) (w : World) (B : Nat) (h : Holds w B g l) :
    Calls Try.prog 13 #[.slice (some ⟨g, 0, none⟩) n n, .string sep] w (Out l sep c w) := by
  by_cases hs : sep.size = 1
  · by_cases h0 : n = 0
    · subst h0
      obtain rfl : l = [] := List.length_eq_zero_iff.1 hn
      exact spec_none _ 0 sep c w hs
    · exact spec_any g 0 n l n hn (by omega) ht sep c w hs (hsc hs) h.high h.cells
  · exact spec_bad _ n n l sep c w hz hs
theorem implJ (g n : Nat) (l : List ByteArray) (hn : l.length = n) (ht : n + tot l ≤ 1048576) (sep : ByteArray) (c : UInt8) (hsc : sep.size = 1 → sep.data.toList[0]? = some c) (w : World) (B : Nat) (h : Holds w B g l) :
    Calls Try.prog 12 #[.slice (some ⟨g, 0, none⟩) n n, .string sep] w (Out l sep c w) := by
  by_cases h0 : n = 0
  · subst h0
    obtain rfl : l = [] := List.length_eq_zero_iff.1 hn
    exact impl_none _ 0 sep c w
  · by_cases hs : sep.size = 1
    · exact impl_any g 0 n l n hn (by omega) (Nat.le_refl _) ht sep c w hs (hsc hs) h.high h.cells
    · exact impl_bad _ n n (by omega) l sep c w hs
theorem eqJ (g1 g2 n : Nat) (l : List ByteArray) (hn : l.length = n) (hz : n ≤ 1048576) (w : World) (B1 B2 : Nat) (h1 : Holds w B1 g1 l) (h2 : Holds w B2 g2 l) :
    Calls Try.prog 18 #[.slice (some ⟨g1, 0, none⟩) n n, .slice (some ⟨g2, 0, none⟩) n n] w fun e w' => e = .returned (.bool true) ∧ Below w.heap.size w w' := by
  exact eqS_same g1 0 n g2 0 n l n hn (by omega) w h1.cells h2.cells
theorem sep_head (sep : ByteArray) : ∃ c : UInt8, sep.size = 1 → sep.data.toList[0]? = some c := by
  by_cases hs : sep.size = 1
  · have h0 : 0 < sep.data.toList.length := by simpa using (by omega : 0 < sep.size)
    exact ⟨sep.data.toList[0], fun _ => List.getElem?_eq_getElem h0⟩
  · exact ⟨0, fun h => absurd h hs⟩

set_option maxHeartbeats 1000000 in
theorem walk (a0 : Option Addr) (len0 cap0 : Nat) (z0 : List ByteArray) (a1 : ByteArray) (w : World) (w0 : IsStrs w a0 len0 z0) (w1 : a1.size ≤ maxLen) :
    Calls Try.prog 5 #[.slice a0 len0 cap0, .string a1] w fun e w' => e = .returned (.bool true) ∧ Below w.heap.size w w' := by
  unfold maxLen at w1
  by_cases hs : a1.size ≤ 1048576
  · obtain ⟨c, hc⟩ := sep_head a1
    have hz := szS_all a0 len0 cap0 z0 w w0
    have HZ := Lib.hid hz
    have HC := Lib.hid hc
    clear hz hc
    go_enter Try.func5, Try.ntmps5
    go_wp2_with fail
    refine HZ.out.mono ?_
    rintro e w' ⟨r, rfl, rfl, hr⟩
    have hn := w0.1
    rcases hr with ⟨hr, -⟩ | ⟨hr, ht⟩
    · clear hn
      go_wp2_with fail
      go_ret
      exact ⟨rfl, Below.refl _ _⟩
    · have ht' : len0 + tot z0 ≤ 1048576 := by omega
      have HN := Lib.hid hn
      clear hn ht
      have hnr : ¬ r < 0 := by omega
      go_wp2_with fail
      refine (toS_all a0 len0 cap0 z0 _ w0 (by omega)).mono ?_
      rintro e w2 ⟨g1, rfl, hown1, b1⟩
      have hH1 := holds_of hown1 rfl
      clear hown1
      rw [HN.out]
      go_wp2_with fail
      refine (specJ g1 len0 z0 HN.out ht' a1 hs c HC.out _ _ hH1).mono ?_
      rintro e w3 ⟨rfl, b2⟩
      have b12 := b1.trans (b2.mono b1.size)
      have w03 := w0.below b12
      clear hH1 b1 b2
      go_wp2_with fail
      refine (toS_all a0 len0 cap0 z0 _ w03 (by omega)).mono ?_
      rintro e w4 ⟨g2, rfl, hown2, b3⟩
      have hH2 := holds_of hown2 rfl
      clear hown2
      have b13 := b12.trans (b3.mono b12.size)
      have w04 := w03.below b3
      clear w03 b12 b3
      rw [HN.out]
      go_wp2_with fail
      refine (implJ g2 len0 z0 HN.out ht' a1 c HC.out _ _ hH2).mono ?_
      rintro e w5 ⟨rfl, b4⟩
      have b14 := b13.trans (b4.mono b13.size)
      have w05 := w04.below b4
      have hH2' := hH2.below b4
      clear w04 b13 b4 hH2
      go_wp2_with fail
      refine (toS_all a0 len0 cap0 z0 _ w05 (by omega)).mono ?_
      rintro e w6 ⟨g3, rfl, hown3, b5⟩
      have hH3 := holds_of hown3 rfl
      have b15 := b14.trans (b5.mono b14.size)
      have hH2'' := hH2'.below b5
      clear hown3 w05 b14 b5 hH2'
      rw [HN.out]
      go_wp2_with fail
      refine (eqJ g2 g3 len0 z0 HN.out (by omega) _ _ _ hH2'' hH3).mono ?_
      rintro e w7 ⟨rfl, b6⟩
      go_wp2_with fail
      go_ret
      exact ⟨rfl, b15.trans (b6.mono b15.size)⟩
  · go_enter Try.func5, Try.ntmps5
    go_wp2_with fail
    go_ret
    exact ⟨rfl, Below.refl _ _⟩

theorem add_eq (b off i : Nat) : (⟨b, off, none⟩ : Addr).add i = ⟨b, off + i, none⟩ := by
  unfold Addr.add
  by_cases h : i = 0
  · subst h; simp
  · simp [h]
theorem add_block (x : Addr) (i : Nat) : (x.add i).block = x.block := by
  unfold Addr.add
  split <;> rfl
theorem cell_lt {w : World} {a : Addr} {v : Value} (h : w.cell? a = some v) : a.block < w.heap.size := by
  cases hb : w.heap[a.block]? with
  | none => simp [World.cell?, hb] at h
  | some o => exact (Array.getElem?_eq_some_iff.1 hb).1
theorem isStrs_of {w : World} {x : Addr} {len : Nat} {ss : List ByteArray} (hl : len ≤ ss.length) (hlt : ∀ i, i < ss.length → x.block < w.heap.size) (hm : len ≤ maxLen)
    (hcell : ∀ i, i < ss.length → w.cell? (x.add i) = some (.string (ss.getD i ByteArray.empty))) (hws : ∀ s ∈ ss, s.size ≤ maxLen) : IsStrs w (some x) len (ss.take len) := by
  unfold maxLen at hm hws
  refine ⟨by rw [List.length_take]; omega, ?_⟩
  by_cases h0 : len = 0
  · left
    rw [h0]
    rfl
  · right
    obtain ⟨b, off, spot⟩ := x
    have hc := hcell 0 (by omega)
    have hspot : spot = none := by simpa [Addr.add] using World.cell?_spot hc
    subst hspot
    refine ⟨b, off, rfl, hlt 0 (by omega), by omega, fun y hy => ?_, fun i y hi => ?_⟩
    · have := hws y (List.mem_of_mem_take hy)
      omega
    · have h1 : i < (ss.take len).length := (List.getElem?_eq_some_iff.1 hi).1
      rw [List.length_take] at h1
      have h2 := hcell i (by omega)
      rw [List.getElem?_take_of_lt (by omega)] at hi
      rw [List.getD_eq_getElem?_getD, hi] at h2
      rw [add_eq] at h2
      simpa using h2

set_option maxRecDepth 100000 in
theorem lifted (os : Os) (started : os.Started) (H : Type) (enc : TypeId × Value → H) :
    ReturnsInHanded {} Try.checked os 5 .any (Rows.fnExactJoinStringsSpec.pre6 enc Try.prog Try.f5 Rows.fnExactJoinStringsRow.domain false) (Rows.fnExactJoinStringsSpec.post enc Try.prog Try.f5 false true false false) := by
  refine returnsInHanded_of_change (C := Try.checked) own started (by kernel_rfl) Try.func5
    (ChangeSpec.witness6 (enc := enc) (C := Try.checked) false ⟨#[], #[.slice none 0 0, .string ByteArray.empty], []⟩ 8 (by kernel_rfl) (by kernel_rfl) (by kernel_rfl) (by kernel_rfl)) ?_
  intro W base args ds gs before hval0 hW hcnd _
  have hval : ∀ (j : Nat) t v, Try.f5.params[j]? = some t → args[j]? = some v → Value.okWide Try.prog W .any base t v := hval0
  have hW' := hW
  obtain ⟨p, q, hA0, hV, rfl, hfz, hnd⟩ := hW
  have hA : DataW.TrodAll enc Try.prog W 0 (fun _ => true) true Try.f5.params.toList args.toList ds p := hA0
  rw [Try.params5] at hA hval
  obtain ⟨v0, vs0, d0, ds0, p0, q0, hargs, rfl, rfl, h0, r0⟩ := trodAll_cons hA
  obtain ⟨v1, vs1, d1, ds1, p1, q1, rfl, rfl, rfl, h1, r1⟩ := trodAll_cons r0
  obtain ⟨rfl, rfl, rfl⟩ := trodAll_nil r1
  obtain rfl : args = #[v0, v1] := by cases args; simp_all
  obtain ⟨rfl, rfl⟩ := trodVars_none hV
  obtain ⟨a0, len0, cap0, rfl⟩ := okWide_slice Try.underlying26 (hval 0 26 v0 rfl rfl)
  have k0 := h0
  have lt0 : ∀ x ∈ p0, x.block < W.heap.size := by obtain ⟨m, hm⟩ := k0; exact DataW.trod_lt m _ _ _ hm
  obtain ⟨z0, w0⟩ : ∃ zs, IsStrs W a0 len0 zs := by
    obtain ⟨fuel, hf⟩ := h0
    rcases open_strings Try.underlying26 Try.underlying9 (by kernel_rfl) hf with ⟨hcs, _⟩ | ⟨x, l, c, ss, hcs, _, hl, hm, hz, hx, hcell, hws⟩
    · simp [Value.cells] at hcs
      obtain ⟨rfl, rfl, rfl⟩ := hcs
      exact ⟨[], rfl, .inl rfl⟩
    · simp [Value.cells] at hcs
      obtain ⟨rfl, rfl, rfl⟩ := hcs
      have hzz : ss.length = cap0 := by simpa using hz
      refine ⟨_, isStrs_of (by omega) (fun i hi => ?_) (by omega) hcell hws⟩
      have hc := hcell i hi
      have hb := cell_lt hc
      rw [add_block] at hb
      exact hb
  obtain ⟨a1, rfl, rfl, rfl, w1⟩ := open_string Try.underlying9 (hval 1 9 v1 rfl rfl) h1
  clear hA0 hval0
  refine (walk a0 len0 cap0 z0 a1 W w0 w1).mono fun e W' ⟨he, bel⟩ => ?_
  subst he
  exact ⟨_, rfl, _, _, _, [], _, [], hW', trodAll_mk1 (shut_bool Try.underlying4 _), (trodAll_cons_mk (Below.trod laidOut (by kernel_rfl) (of_decide_eq_true (by kernel_rfl)) k0 bel lt0) (trodAll_cons_mk (shut_string Try.underlying9 w1) trodAll_mk0)), rfl, bel.frame _, fun h => by cases h⟩

theorem over : Rows.fnExactJoinStringsRow.holds Try.pinned (OpenSpec.ofChange Rows.fnExactJoinStringsSpec) :=
  OpenClaim.holds_of_wide 5 Try.f5 rfl rfl rfl rfl rfl rfl rfl ⟨rfl, rfl, rfl, rfl, rfl⟩ rfl rfl rfl rfl rfl (by kernel_rfl) Try.func5 (by kernel_rfl)
    (of_decide_eq_true (by kernel_rfl)) (by unfold Func.isWrapper; first | (rw [if_pos (by decide +kernel)]; kernel_rfl) | (rw [if_neg (by decide +kernel)]; exact ⟨rfl, rfl⟩))
    (fun os started H enc _ => lifted os started H enc)

theorem proved : Rows.FnExactJoinStringsSaid := over
#print axioms proved
end Go.Proofs.Ytkoickdndjfnhaa.fnExactJoinStrings
