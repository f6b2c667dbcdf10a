/- FnExactEarlierContexts: at every argument EarlierContexts answers as its model does, leaves its arguments as they were, and its answer is memory of its own. No condition. -/
import Derived.Test.YtjllbbkpmmnkgaaIdxI
import Derived.Test.YtjllbbkpmmnkgaaThat
import Derived.Test.YtjllbbkpmmnkgaaIsLater
import Derived.Deep.AppendLies
import Derived.Laws.EntriesVeiled
namespace Go.Proofs.Ytjllbbkpmmnkgaa.EarlierCtxI
open Go.RowKit Pairs Rec Chain Find2 GoodM Keep GivesI Lows Order Bit Table Idx That IsLater
noncomputable def ctxs (z : Int) (l m : List (Int × Int)) : Option (List Int) := if good l m = true ∧ (isAt l z).isSome = true then some (sel (fun x => later m z x) l) else none
theorem ctxs_none {z : Int} {l m : List (Int × Int)} (h : ¬ (good l m = true ∧ (isAt l z).isSome = true)) : ctxs z l m = none := by unfold ctxs; rw [if_neg h]
theorem ctxs_some {z : Int} {l m : List (Int × Int)} (h1 : good l m = true) (h2 : (isAt l z).isSome = true) : ctxs z l m = some (sel (fun x => later m z x) l) := by unfold ctxs; rw [if_pos ⟨h1, h2⟩]
theorem clos_any (x z : Int) (bo bz bx : Nat) (l m : Ps) (W : World) (c1 : W.cell? ⟨bo, 0, none⟩ = some (.func (.func 44) #[] #[.pointer (some ⟨bx, 0, none⟩)])) (c2 : W.cell? ⟨bz, 0, none⟩ = some (.int .i64 z)) (h : IsOrd W l m bx) (hx : x ∈ keys l) (hz : z ∈ keys l) (hrx : -1000000 ≤ x ∧ x ≤ 1000000) (hrz : -1000000 ≤ z ∧ z ≤ 1000000) :
    Calls Try.prog 35 #[.int .i64 x, .pointer (some ⟨bo, 0, none⟩), .pointer (some ⟨bz, 0, none⟩)] W fun e w' => e = .returned (.bool (later m z x)) ∧ Below W.heap.size W w' := by
  have HI := Lib.hid h
  have HX := Lib.hid (And.intro hx hz)
  clear h hx hz
  go_enter Try.func35, Try.ntmps35
  go_wp2_with fail
  refine (isLater_any bx l m z x W HI.out HX.out.2 (by omega) (by omega)).mono ?_
  rintro e w' ⟨rfl, rfl⟩
  go_wp2_with fail
  go_ret
  exact ⟨rfl, Below.refl _ _⟩
set_option maxRecDepth 100000 in
set_option maxHeartbeats 4000000 in
theorem impl_any (z : Int) : GivesI.Gives 20 (.int .i64 z) (ctxs z) := by
  intro a1 a2 n1 c1 n2 c2 l m w hz1 hz2 h1 h2
  have hb := below_alloc w (.cells #[.slice a1 n1 c1, .slice a2 n2 c2] 32)
  have hb2 := hb.trans ((That.belA (Below.refl _ _) (.cells #[.int .i64 z] 3)).mono hb.size)
  have hf0 := box_first w (.slice a1 n1 c1) (.slice a2 n2 c2) 32
  have hf20 := box_second w (.slice a1 n1 c1) (.slice a2 n2 c2) 32
  have hsz0 : w.heap.size < (w.alloc (.cells #[.slice a1 n1 c1, .slice a2 n2 c2] 32)).heap.size := by simp
  have hsz : w.heap.size + 1 < ((w.alloc (.cells #[.slice a1 n1 c1, .slice a2 n2 c2] 32)).alloc (.cells #[.int .i64 z] 3)).heap.size := by simp
  have hf := (((That.belA (Below.refl _ _) (.cells #[.int .i64 z] 3)) : Below _ (w.alloc (.cells #[.slice a1 n1 c1, .slice a2 n2 c2] 32)) _).cell (p := ⟨w.heap.size, 0, none⟩) hsz0).trans hf0
  have hf2 := (((That.belA (Below.refl _ _) (.cells #[.int .i64 z] 3)) : Below _ (w.alloc (.cells #[.slice a1 n1 c1, .slice a2 n2 c2] 32)) _).cell (p := ⟨w.heap.size, 1, none⟩) hsz0).trans hf20
  have hf3 : ((w.alloc (.cells #[.slice a1 n1 c1, .slice a2 n2 c2] 32)).alloc (.cells #[.int .i64 z] 3)).cell? ⟨w.heap.size + 1, 0, none⟩ = some (.int .i64 z) := by
    have e : (w.alloc (.cells #[.slice a1 n1 c1, .slice a2 n2 c2] 32)).heap.size = w.heap.size + 1 := by simp
    rw [← e, World.cell?_alloc_mark]
    rfl
  have H1 := Lib.hid (h1.below hb2)
  have H2 := Lib.hid (h2.below hb2)
  have HL1 := Lib.hid h1.1
  have HB := Lib.hid hb2
  clear h1 h2 hb hb2 hf0 hf20 hsz0
  go_enter Try.func20, Try.ntmps20
  go_wp2_with fail
  generalize (w.alloc (.cells #[.slice a1 n1 c1, .slice a2 n2 c2] 32)).alloc (.cells #[.int .i64 z] 3) = W at *
  refine (impl_Index a1 a2 n1 c1 n2 c2 l m z W hz1 hz2 H1.out H2.out).mono ?_
  rintro e w1 ⟨rfl, b1⟩
  have r1 := (b1.cell (p := ⟨w.heap.size, 0, none⟩) (by show w.heap.size < _; omega)).trans hf
  have r2 := (b1.cell (p := ⟨w.heap.size, 1, none⟩) (by show w.heap.size < _; omega)).trans hf2
  have r3 := (b1.cell (p := ⟨w.heap.size + 1, 0, none⟩) hsz).trans hf3
  have hsz1 := Nat.lt_of_lt_of_le hsz b1.size
  have HB1 := Lib.hid (HB.out.trans (b1.mono HB.out.size))
  have K1 := Lib.hid (H1.out.below b1)
  have K2 := Lib.hid (H2.out.below b1)
  clear hf hf2 hf3 b1
  by_cases hg : good l m = true ∧ (isAt l z).isSome = true
  · have hi1 : idx l m z = (find l z, true) := by unfold idx; rw [if_pos hg]
    rw [hi1]
    have HE := Lib.hid (ctxs_some hg.1 hg.2)
    have HG := Lib.hid hg.1
    have HZK : Hid (z ∈ keys l) := isAt_keys.1 hg.2
    have hzr : 1 ≤ z ∧ z ≤ 999 := by
      obtain ⟨i, hi⟩ := Option.isSome_iff_exists.1 hg.2
      exact rng_at hg.1 hi
    have hn1 : n1 ≤ 10 := by rw [← HL1.out]; exact (Table.good_few hg.1).1
    clear hg hi1
    go_wp2_with fail
    refine (orderOf_any a1 a2 n1 c1 n2 c2 l m w1 HG.out K1.out K2.out).mono ?_
    rintro e w2 ⟨bx, rfl, ho, b2⟩
    have ha := below_alloc w2 (.cells #[.func (.func 44) #[] #[.pointer (some ⟨bx, 0, none⟩)]] 42)
    have b23 := b2.trans (ha.mono b2.size)
    have q1 := (b23.cell (p := ⟨w.heap.size, 0, none⟩) (by show w.heap.size < _; omega)).trans r1
    have q2 := (b23.cell (p := ⟨w.heap.size, 1, none⟩) (by show w.heap.size < _; omega)).trans r2
    have q3 := (b23.cell (p := ⟨w.heap.size + 1, 0, none⟩) hsz1).trans r3
    have q4 : (w2.alloc (.cells #[.func (.func 44) #[] #[.pointer (some ⟨bx, 0, none⟩)]] 42)).cell? ⟨w2.heap.size, 0, none⟩ = some (.func (.func 44) #[] #[.pointer (some ⟨bx, 0, none⟩)]) := by
      rw [World.cell?_alloc_mark]
      rfl
    have s4 : w2.heap.size < (w2.alloc (.cells #[.func (.func 44) #[] #[.pointer (some ⟨bx, 0, none⟩)]] 42)).heap.size := by simp
    have s3 := Nat.lt_of_lt_of_le hsz1 b23.size
    have HO := Lib.hid (ho.below ha)
    have HB3 := Lib.hid (HB1.out.trans (b23.mono HB1.out.size))
    have K13 := Lib.hid (K1.out.below b23)
    have Q3 := Lib.hid q3
    have Q4 := Lib.hid q4
    clear ho ha b2 b23 r1 r2 r3
    go_wp2_with fail
    generalize w2.alloc (.cells #[.func (.func 44) #[] #[.pointer (some ⟨bx, 0, none⟩)]] 42) = W3 at *
    refine (that_any 35 #[.pointer (some ⟨w2.heap.size, 0, none⟩), .pointer (some ⟨w.heap.size + 1, 0, none⟩)] (fun x => later m z x) a1 a2 n1 c1 n2 c2 l W3 hn1 K13.out (fun args W => call_enter Try.func35 (by kernel_rfl) rfl args W) (fun x wr hx hwr => ?_)).mono ?_
    · have hxr : 1 ≤ x ∧ x ≤ 999 := by
        obtain ⟨i, hi⟩ := Option.isSome_iff_exists.1 (isAt_keys.2 hx)
        exact rng_at HG.out hi
      exact clos_any x z w2.heap.size (w.heap.size + 1) bx l m wr ((hwr.cell (p := ⟨w2.heap.size, 0, none⟩) s4).trans Q4.out) ((hwr.cell (p := ⟨w.heap.size + 1, 0, none⟩) s3).trans Q3.out) (HO.out.below hwr) hx HZK.out (by omega) (by omega)
    rintro e w4 ⟨p, k, d, rfl, hown, hk, b4⟩
    have HOW := Lib.hid hown
    have HB4 := Lib.hid (HB3.out.trans (b4.mono HB3.out.size))
    clear hown b4
    go_wp2_with fail
    go_ret2
    rw [HE.out]
    exact ⟨_, _, _, rfl, ownsRow_base HOW.out HB3.out.size, hk, HB4.out⟩
  · have hi1 : idx l m z = (0, false) := by unfold idx; rw [if_neg hg]
    rw [hi1]
    have HE := Lib.hid (ctxs_none hg)
    clear hg hi1
    go_wp2_with fail
    go_ret2
    rw [HE.out]
    exact ⟨_, _, _, rfl, ownsRow_base (empty_own _) HB1.out.size, by omega, HB1.out.trans ((below_alloc _ _).mono HB1.out.size)⟩
/-- The list under way, apart from the table. -/
def Stt (B : Nat) (W wr : World) (gt n : Nat) (T : List Nat) (v : Value) (L : List Int) : Prop :=
  ∃ go k d, v = .slice (some ⟨go, 0, none⟩) k d ∧ L.length = k ∧ gt ≠ go ∧ wr.ownsRow B 3 1 v k (ints L) ∧ HoldsI wr (some ⟨gt, 0, none⟩) n (intsN T) ∧ gt < wr.heap.size ∧ Below B W wr
theorem holdsI_grown {w w' : World} {g r n : Nat} {L : List Int} (h : HoldsI w (some ⟨g, 0, none⟩) n L) (hlt : g < w.heap.size) (hg : w.grownBy w' (some r)) (hne : g ≠ r) : HoldsI w' (some ⟨g, 0, none⟩) n L := by
  refine ⟨h.1, ?_⟩
  rcases h.2 with h0 | ⟨b, off, hp, hb, hc⟩
  · exact .inl h0
  · injection hp with hp
    injection hp with h1 h2
    subst h1 h2
    exact .inr ⟨g, 0, rfl, Nat.lt_of_lt_of_le hlt hg.size, fun i x hi => (World.cell?_of_block (w := w) (w' := w') (a := ⟨g, 0 + i, none⟩) (hg.block g hlt (fun e => hne (Option.some.inj e)))).trans (hc i x hi)⟩
theorem num_at {l m : List (Int × Int)} (hg : good l m = true) {x y : Int} {i : Nat} (hx : l[i]? = some (x, y)) : isAt l x = some i := by
  have hA := (good_asc hg).1
  have hil := (List.getElem?_eq_some_iff.1 hx).1
  have e : (isAt l x).isSome = true := isAt_keys.2 (List.mem_map.2 ⟨(x, y), List.mem_of_getElem? hx, rfl⟩)
  obtain ⟨j, hj⟩ := Option.isSome_iff_exists.1 e
  obtain ⟨y2, hy2⟩ := isAt_num hj
  rcases Nat.lt_trichotomy j i with h | h | h
  · have := hA.lt (i - j - 1) j (x, y2) (x, y) hy2 (by rw [show j + (i - j - 1) + 1 = i by omega]; exact hx)
    simp at this
  · rw [hj, h]
  · have := hA.lt (j - i - 1) i (x, y) (x, y2) hx (by rw [show i + (j - i - 1) + 1 = j by omega]; exact hy2)
    simp at this
end Go.Proofs.Ytjllbbkpmmnkgaa.EarlierCtxI
