/- The program's SplitString: for every string of at most 1048576 bytes and every separator it returns what 'Split.parts' says in a new slice, and leaves the rest of memory. -/
import Derived.Test.YtkoickdndjfnhaaImplSplit
import Derived.WalkSpells
namespace Go.Proofs.Ytkoickdndjfnhaa.SplitCall
open Go.RowKit Go.Shelf Split ImplSplit
attribute [local go_sem] Oper.semAt_some

set_option maxHeartbeats 1000000 in
theorem partsOf_in (F : Fence) (n : Nat) (hF : F.fn 27) (hro : F.round = none) (s : ByteArray) (b : UInt8) (w : World) :
    CallsIn F n Try.prog 27 #[.string s, .int .u8 b.toNat] w fun e w' => e = .returned (.func (.func 36) #[] #[.pointer (some ⟨w.heap.size, 0, none⟩), .pointer (some ⟨w.heap.size + 1, 0, none⟩)]) ∧ w' = (w.alloc (.cells #[.string s] 9)).alloc (.cells #[.int .u8 b.toNat] 5) := by
  refine callsIn_of_wp Try.func27 rfl hF ?_ hro
  simp only [Try.ntmps27, List.size_toArray, List.length_cons, List.length_nil, Nat.reduceAdd, Nat.reduceSub, Array.replicate_succ, Array.replicate_zero, List.push_toArray, List.append_toArray, List.nil_append, List.cons_append]
  gi_wp2
  go_ret
  exact ⟨rfl, rfl⟩

theorem parts_stops (F : Fence) (n : Nat) (hF : F.fn 36) (hro : F.round = none) (hn : 1 ≤ n) (Bs Bc : Nat) (s : ByteArray) (b : UInt8) (hs : s.size ≤ 1048576) (w : World)
    (hBs : Boxed w Bs 9 (.string s)) (hBc : Boxed w Bc 5 (.int .u8 b.toNat)) :
    SeqStopsK F n Try.prog 36 #[.pointer (some ⟨Bs, 0, none⟩), .pointer (some ⟨Bc, 0, none⟩)] (fun x : ByteArray => #[Value.string x]) (Kp Bs Bc) (fun ys => ys = parts s b) (fun pre => pre <+: parts s b) (parts s b).length w := fun l J Jx W hW hJ _ hY h0 =>
  partsOf1_in F n hF hro hn l Bs Bc s b hs J Jx hY W hJ ((hW.block Bs hBs.lt).trans hBs) ((hW.block Bc hBc.lt).trans hBc) h0

theorem kp_append {W w1 : World} {Bs Bc Bx : Nat} {v : Value} {tmp : Obj} (hs : Bs < W.heap.size) (hc : Bc < W.heap.size) (h1 : v.ownBlock ≠ some Bs) (h2 : v.ownBlock ≠ some Bc) (hg : (W.alloc tmp).grownBy w1 v.ownBlock) (hx1 : Bs ≠ Bx) (hx2 : Bc ≠ Bx) (u : Value) :
    Kp Bs Bc W (w1.setCell ⟨Bx, 0, none⟩ u) := by
  constructor
  · rw [Below.heap_setCell _ _ _ Bs hx1, hg.block Bs (by simp; omega) (fun e => h1 e.symm), Below.heap_alloc _ _ _ hs]
  · rw [Below.heap_setCell _ _ _ Bc hx2, hg.block Bc (by simp; omega) (fun e => h2 e.symm), Below.heap_alloc _ _ _ hc]
set_option maxRecDepth 100000 in
set_option maxHeartbeats 2000000 in
theorem split_in (F : Fence) (n : Nat) (h1F : F.fn 10) (h2F : F.fn 27) (h3F : F.fn 36) (hro : F.round = none) (hn : 3 ≤ n) (s sep : ByteArray) (b : UInt8) (hs : s.size ≤ 4000) (hp : sep.size = 1) (hb : sep.data.toList[0]? = some b) (w : World) :
    CallsIn F n Try.prog 10 #[.string s, .string sep] w fun e W' => ∃ v, e = .returned (.tuple #[v, .bool true]) ∧ W'.ownsRow w.heap.size 9 1 v (parts s b).length (strs (parts s b)) ∧ Below w.heap.size w W' := by
  have h1 : 1 ≤ n := by omega
  have hbb : ((sep.size : Int) != 1) = false := by rw [hp]; rfl
  have hs0 : 0 < sep.size := by omega
  have hc0 : sep[0] = b := by
    have h0 : 0 < sep.data.toList.length := by simpa using hs0
    rw [List.getElem?_eq_getElem h0] at hb
    exact Option.some.inj hb
  have HC := Lib.hid hc0
  clear hp hb hc0
  obtain ⟨i0, hi, hz0, hz1, hz2⟩ := info_parts infoS
  refine callsIn_of_wp_marks Try.func10 rfl h1F ?_ hro
  simp only [Try.ntmps10, List.size_toArray, List.length_cons, List.length_nil, Nat.reduceAdd, Nat.reduceSub, Array.replicate_succ, Array.replicate_zero, List.push_toArray, List.append_toArray, List.nil_append, List.cons_append]
  gi_wp2_with (gi_at_call 27; refine (partsOf_in F (n - 1) h2F hro s sep[0] _).mono ?_; rintro e w' ⟨rfl, rfl⟩)
  obtain ⟨W0, hW0⟩ : ∃ W0, (((w.alloc (.cells #[] 9)).alloc (.cells #[Value.slice (some ⟨w.heap.size, 0, none⟩) 0 0] 26)).alloc (.cells #[Value.string s] 9)).alloc (.cells #[Value.int IntKind.u8 sep[0].toNat] 5) = W0 := ⟨_, rfl⟩
  have hsz : W0.heap.size = w.heap.size + 1 + 1 + 1 + 1 := by rw [← hW0]; simp
  have hB0 : Below w.heap.size w W0 := by
    rw [← hW0]
    exact ((((Below.refl _ w).alloc (Nat.le_refl _) _).alloc (by simp) _).alloc (by simp; omega) _).alloc (by simp; omega) _
  have bx : Boxed W0 (w.heap.size + 1) 26 (.slice (some ⟨w.heap.size, 0, none⟩) 0 0) := by
    rw [← hW0]
    have := Boxed.new (w.alloc (.cells #[] 9)) 26 (.slice (some ⟨w.heap.size, 0, none⟩) 0 0)
    rw [World.size_alloc] at this
    exact (this.alloc _).alloc _
  have bs : Boxed W0 (w.heap.size + 1 + 1) 9 (.string s) := by
    rw [← hW0]
    have := Boxed.new ((w.alloc (.cells #[] 9)).alloc (.cells #[Value.slice (some ⟨w.heap.size, 0, none⟩) 0 0] 26)) 9 (.string s)
    rw [World.size_alloc, World.size_alloc] at this
    exact this.alloc _
  have bc : Boxed W0 (w.heap.size + 1 + 1 + 1) 5 (.int .u8 b.toNat) := by
    rw [← hW0, ← HC.out]
    have := Boxed.new (((w.alloc (.cells #[] 9)).alloc (.cells #[Value.slice (some ⟨w.heap.size, 0, none⟩) 0 0] 26)).alloc (.cells #[Value.string s] 9)) 5 (.int .u8 sep[0].toNat)
    rw [World.size_alloc, World.size_alloc, World.size_alloc] at this
    exact this
  have own0 : W0.ownsRow w.heap.size 9 1 (.slice (some ⟨w.heap.size, 0, none⟩) 0 0) 0 [] := by
    rw [← hW0]
    exact (((World.ownsRow_made w #[] 0 (Nat.le_refl _) (by unfold maxLen; omega) rfl).alloc _).alloc _).alloc _
  rw [hW0]
  clear hW0
  refine wpIn_rangeFunc_ownG hro h1 (gf := 36) (lb := #[.pointer (some ⟨w.heap.size + 1 + 1, 0, none⟩), .pointer (some ⟨w.heap.size + 1 + 1 + 1, 0, none⟩)]) rfl h3F (enters_of Try.func36 (by kernel_rfl) rfl)
    (parts_stops F (n - 1) h3F hro (by omega) (w.heap.size + 1 + 1) (w.heap.size + 1 + 1 + 1) s b (by omega) W0 bs bc) kp_t
    (fun W l o o' hl _ _ _ => ⟨World.putObj_heap_other (by omega), World.putObj_heap_other (by omega)⟩) (Below.refl _ _) (fun _ => rfl)
    (fun pre W => (∃ v, Boxed W (w.heap.size + 1) 26 v ∧ W.ownsRow w.heap.size 9 1 v pre.length (strs pre) ∧ (v.ownBlock ≠ some (w.heap.size + 1 + 1) ∧ v.ownBlock ≠ some (w.heap.size + 1 + 1 + 1))) ∧ Below w.heap.size W0 W)
    (fun _ _ _ => False)
    (OwnFrom.and (Own.from (holdsRow_own w.heap.size (w.heap.size + 1) 26 9 1 (fun pre => pre.length) (fun pre => strs pre) (fun _ v => v.ownBlock ≠ some (w.heap.size + 1 + 1) ∧ v.ownBlock ≠ some (w.heap.size + 1 + 1 + 1))) _) (ownFrom_below (by omega) (by omega)))
    (fun _ _ _ _ _ hs _ _ => hs)
    ⟨⟨_, bx, own0, by simp [Value.ownBlock]; omega⟩, Below.refl _ _⟩
    (fun x => { tmps := #[Value.string s, Value.string sep, undef, undef, Value.slice none 0 0, Value.bool false,
          Value.pointer (some { block := w.heap.size + 1, off := 0 }), .string x, Value.string s,
          Value.int IntKind.i64 s.size, Value.bool (decide (4000 < (s.size : Int))), Value.bool (decide (4000 < (s.size : Int))),
          Value.string sep, Value.int IntKind.i64 sep.size, Value.bool false, Value.bool (decide (4000 < (s.size : Int))),
          undef, Value.slice (some { block := w.heap.size, off := 0 }) 0 0, Value.string s, Value.string sep,
          Value.int IntKind.u8 sep[0].toNat,
          Value.func (Fn.func 36) #[]
            #[Value.pointer (some { block := w.heap.size + 1 + 1, off := 0 }),
              Value.pointer (some { block := w.heap.size + 1 + 1 + 1, off := 0 })],
          .string x, undef, undef, undef, undef, undef], defers := [] }) ?assign ?body ?done ?stop
  case assign =>
    intro l x W K hK
    gi_wp2
    exact hK
  case body =>
    rintro l pre x W ⟨⟨v, hv, hrow, hne1, hne2⟩, hB⟩ hlt
    have hc := hv.cell
    have hps := parts_le s b
    have hWs := hB.size
    have HNE := Lib.hid (And.intro hne1 hne2)
    clear hne1 hne2
    gi_wp2_with (gi_at_builtin; refine wpListIn_append_own_at _ rfl _ _ 26 rfl w.heap.size 9 i0 (.string ⟨#[]⟩) 1 16 Try.underlying26 hi hz0 hz1 hz2 rfl (by decide) _ _ _ rfl (hrow.alloc _) ⟨W.heap.size, 0, none⟩ 1 1 [.string x] rfl rfl (cell_one_new _ _ _) (by simp [Value.oneCell']) (by unfold maxLen; omega) (by omega) (by simp; omega) ?_; intro v' w1 hown' hgrow _ hat; obtain ⟨g', cap', rfl⟩ := ownsRow_succ hown'; obtain ⟨hv1, hv2, hr2, hk2, hb2⟩ := hv.appended (by decide) hrow (by omega) (by omega) hown' hgrow; have hkp := kp_append (Bs := w.heap.size + 1 + 1) (Bc := w.heap.size + 1 + 1 + 1) (Bx := w.heap.size + 1) (by omega) (by omega) HNE.out.1 HNE.out.2 hgrow (by omega) (by omega) (.slice (some ⟨g', 0, none⟩) (pre.length + 1) cap'); have HAT := Lib.hid hat; clear hat; have hc1 := hv1.cell; have hf1 := hv1.frozen)
    refine ⟨hk2.from _, hkp, ⟨_, hv2, by rw [← strs_snoc]; simpa using hr2, ?_⟩, hB.trans hb2⟩
    rcases HAT.out with h | h
    · rw [h]; exact HNE.out
    · rw [h]
      simp
      omega
  case done =>
    rintro D ys W hD rfl ⟨⟨v, hv, hrow, _⟩, hB⟩ hK
    have hc := hv.cell
    gi_wp2
    refine ⟨by simp, .inl ⟨_, _, rfl, run_takeDeferred hK, ?_⟩⟩
    exact ⟨_, results_tmp2 rfl _ _ _, v, rfl, ownsRow_putObj hrow _ hK rfl, hB0.trans (hB.trans (belowK_b (w := w) (Nat.le_refl _) W D _ _ (by omega) hK rfl rfl))⟩
  case stop =>
    rintro D c pre W _ _ h _
    exact h.elim
end Go.Proofs.Ytkoickdndjfnhaa.SplitCall
