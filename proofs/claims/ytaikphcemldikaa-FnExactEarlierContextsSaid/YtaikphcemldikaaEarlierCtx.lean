/- FnExactEarlierContexts: at every argument EarlierContexts answers as its model does, leaves its arguments as they were, and its answer is memory of its own. No condition. -/
import Derived.Test.YtaikphcemldikaaThat
import Derived.Test.YtaikphcemldikaaIsLater
import Derived.Test.YtaikphcemldikaaWEarlierContexts
import Derived.Test.YtaikphcemldikaaFEarlierContexts
import Derived.Deep.AppendLies
import Derived.Laws.EntriesVeiled
namespace Go.Proofs.Ytaikphcemldikaa.EarlierCtx
open Go.RowKit Pairs Rec Chain Find2 GoodM Keep GivesI Lows Order Bit Table Idx That IsLater
noncomputable def ctxs (z : Int) (l m : List (Int × Int)) : Option (List Int) := if good l m = true ∧ (isAt l z).isSome = true then some (sel (fun x => later m z x) l) else none
theorem ctxs_none {z : Int} {l m : List (Int × Int)} (h : ¬ (good l m = true ∧ (isAt l z).isSome = true)) : ctxs z l m = none := by unfold ctxs; rw [if_neg h]
theorem ctxs_some {z : Int} {l m : List (Int × Int)} (h1 : good l m = true) (h2 : (isAt l z).isSome = true) : ctxs z l m = some (sel (fun x => later m z x) l) := by unfold ctxs; rw [if_pos ⟨h1, h2⟩]
theorem clos_any (x z : Int) (bo bz bx : Nat) (l m : Ps) (W : World) (c1 : W.cell? ⟨bo, 0, none⟩ = some (.func (.func 126) #[] #[.pointer (some ⟨bx, 0, none⟩)])) (c2 : W.cell? ⟨bz, 0, none⟩ = some (.int .i64 z)) (h : IsOrd W l m bx) (hx : x ∈ keys l) (hz : z ∈ keys l) (hrx : -1000000 ≤ x ∧ x ≤ 1000000) (hrz : -1000000 ≤ z ∧ z ≤ 1000000) :
    Calls Try.prog 99 #[.int .i64 x, .pointer (some ⟨bo, 0, none⟩), .pointer (some ⟨bz, 0, none⟩)] W fun e w' => e = .returned (.bool (later m z x)) ∧ Below W.heap.size W w' := by
  have HI := Lib.hid h
  have HX := Lib.hid (And.intro hx hz)
  clear h hx hz
  go_enter Try.func99, Try.ntmps99
  go_wp2_with fail
  refine (isLater_any bx l m z x W HI.out HX.out.2 (by omega) (by omega)).mono ?_
  rintro e w' ⟨rfl, rfl⟩
  go_wp2_with fail
  go_ret
  exact ⟨rfl, Below.refl _ _⟩
set_option maxRecDepth 100000 in
set_option maxHeartbeats 4000000 in
theorem impl_any (z : Int) : GivesI.Gives 47 (.int .i64 z) (ctxs z) := by
  intro a1 a2 n1 c1 n2 c2 l m w hz1 hz2 h1 h2
  have hb := below_alloc w (.cells #[.slice a1 n1 c1, .slice a2 n2 c2] 27)
  have hb2 := hb.trans ((That.belA (Below.refl _ _) (.cells #[.int .i64 z] 3)).mono hb.size)
  have hf0 := box_first w (.slice a1 n1 c1) (.slice a2 n2 c2) 27
  have hf20 := box_second w (.slice a1 n1 c1) (.slice a2 n2 c2) 27
  have hsz0 : w.heap.size < (w.alloc (.cells #[.slice a1 n1 c1, .slice a2 n2 c2] 27)).heap.size := by simp
  have hsz : w.heap.size + 1 < ((w.alloc (.cells #[.slice a1 n1 c1, .slice a2 n2 c2] 27)).alloc (.cells #[.int .i64 z] 3)).heap.size := by simp
  have hf := (((That.belA (Below.refl _ _) (.cells #[.int .i64 z] 3)) : Below _ (w.alloc (.cells #[.slice a1 n1 c1, .slice a2 n2 c2] 27)) _).cell (p := ⟨w.heap.size, 0, none⟩) hsz0).trans hf0
  have hf2 := (((That.belA (Below.refl _ _) (.cells #[.int .i64 z] 3)) : Below _ (w.alloc (.cells #[.slice a1 n1 c1, .slice a2 n2 c2] 27)) _).cell (p := ⟨w.heap.size, 1, none⟩) hsz0).trans hf20
  have hf3 : ((w.alloc (.cells #[.slice a1 n1 c1, .slice a2 n2 c2] 27)).alloc (.cells #[.int .i64 z] 3)).cell? ⟨w.heap.size + 1, 0, none⟩ = some (.int .i64 z) := by
    have e : (w.alloc (.cells #[.slice a1 n1 c1, .slice a2 n2 c2] 27)).heap.size = w.heap.size + 1 := by simp
    rw [← e, World.cell?_alloc_mark]
    rfl
  have H1 := Lib.hid (h1.below hb2)
  have H2 := Lib.hid (h2.below hb2)
  have HL1 := Lib.hid h1.1
  have HB := Lib.hid hb2
  clear h1 h2 hb hb2 hf0 hf20 hsz0
  go_enter Try.func47, Try.ntmps47
  go_wp2_with fail
  generalize (w.alloc (.cells #[.slice a1 n1 c1, .slice a2 n2 c2] 27)).alloc (.cells #[.int .i64 z] 3) = W at *
  refine (impl_Index a1 a2 n1 c1 n2 c2 l m z W hz1 hz2 H1.out H2.out).mono ?_
  rintro e w1 ⟨rfl, b1⟩
  have r1 := (b1.cell (p := ⟨w.heap.size, 0, none⟩) (by show w.heap.size < _; omega)).trans hf
  have r2 := (b1.cell (p := ⟨w.heap.size, 1, none⟩) (by show w.heap.size < _; omega)).trans hf2
  have r3 := (b1.cell (p := ⟨w.heap.size + 1, 0, none⟩) hsz).trans hf3
  have hsz1 := Nat.lt_of_lt_of_le hsz b1.size
  have HB1 := Lib.hid (HB.out.trans (b1.mono HB.out.size))
  have K1 := Lib.hid (H1.out.below b1)
  have K2 := Lib.hid (H2.out.below b1)
  clear hf hf2 hf3 b1
  by_cases hg : good l m = true ∧ (isAt l z).isSome = true
  · have hi1 : idx l m z = (find l z, true) := by unfold idx; rw [if_pos hg]
    rw [hi1]
    have HE := Lib.hid (ctxs_some hg.1 hg.2)
    have HG := Lib.hid hg.1
    have HZK : Hid (z ∈ keys l) := isAt_keys.1 hg.2
    have hzr : 1 ≤ z ∧ z ≤ 999 := by
      obtain ⟨i, hi⟩ := Option.isSome_iff_exists.1 hg.2
      exact rng_at hg.1 hi
    have hn1 : n1 ≤ 10 := by rw [← HL1.out]; exact (Table.good_few hg.1).1
    clear hg hi1
    go_wp2_with fail
    refine (orderOf_any a1 a2 n1 c1 n2 c2 l m w1 HG.out K1.out K2.out).mono ?_
    rintro e w2 ⟨bx, rfl, ho, b2⟩
    have ha := below_alloc w2 (.cells #[.func (.func 126) #[] #[.pointer (some ⟨bx, 0, none⟩)]] 104)
    have b23 := b2.trans (ha.mono b2.size)
    have q1 := (b23.cell (p := ⟨w.heap.size, 0, none⟩) (by show w.heap.size < _; omega)).trans r1
    have q2 := (b23.cell (p := ⟨w.heap.size, 1, none⟩) (by show w.heap.size < _; omega)).trans r2
    have q3 := (b23.cell (p := ⟨w.heap.size + 1, 0, none⟩) hsz1).trans r3
    have q4 : (w2.alloc (.cells #[.func (.func 126) #[] #[.pointer (some ⟨bx, 0, none⟩)]] 104)).cell? ⟨w2.heap.size, 0, none⟩ = some (.func (.func 126) #[] #[.pointer (some ⟨bx, 0, none⟩)]) := by
      rw [World.cell?_alloc_mark]
      rfl
    have s4 : w2.heap.size < (w2.alloc (.cells #[.func (.func 126) #[] #[.pointer (some ⟨bx, 0, none⟩)]] 104)).heap.size := by simp
    have s3 := Nat.lt_of_lt_of_le hsz1 b23.size
    have HO := Lib.hid (ho.below ha)
    have HB3 := Lib.hid (HB1.out.trans (b23.mono HB1.out.size))
    have K13 := Lib.hid (K1.out.below b23)
    have Q3 := Lib.hid q3
    have Q4 := Lib.hid q4
    clear ho ha b2 b23 r1 r2 r3
    go_wp2_with fail
    generalize w2.alloc (.cells #[.func (.func 126) #[] #[.pointer (some ⟨bx, 0, none⟩)]] 104) = W3 at *
    refine (that_any 99 #[.pointer (some ⟨w2.heap.size, 0, none⟩), .pointer (some ⟨w.heap.size + 1, 0, none⟩)] (fun x => later m z x) a1 a2 n1 c1 n2 c2 l W3 hn1 K13.out (fun args W => call_enter Try.func99 (by kernel_rfl) rfl args W) (fun x wr hx hwr => ?_)).mono ?_
    · have hxr : 1 ≤ x ∧ x ≤ 999 := by
        obtain ⟨i, hi⟩ := Option.isSome_iff_exists.1 (isAt_keys.2 hx)
        exact rng_at HG.out hi
      exact clos_any x z w2.heap.size (w.heap.size + 1) bx l m wr ((hwr.cell (p := ⟨w2.heap.size, 0, none⟩) s4).trans Q4.out) ((hwr.cell (p := ⟨w.heap.size + 1, 0, none⟩) s3).trans Q3.out) (HO.out.below hwr) hx HZK.out (by omega) (by omega)
    rintro e w4 ⟨p, k, d, rfl, hown, hk, b4⟩
    have HOW := Lib.hid hown
    have HB4 := Lib.hid (HB3.out.trans (b4.mono HB3.out.size))
    clear hown b4
    go_wp2_with fail
    go_ret2
    rw [HE.out]
    exact ⟨_, _, _, rfl, ownsRow_base HOW.out HB3.out.size, hk, HB4.out⟩
  · have hi1 : idx l m z = (0, false) := by unfold idx; rw [if_neg hg]
    rw [hi1]
    have HE := Lib.hid (ctxs_none hg)
    clear hg hi1
    go_wp2_with fail
    go_ret2
    rw [HE.out]
    exact ⟨_, _, _, rfl, ownsRow_base (empty_own _) HB1.out.size, by omega, HB1.out.trans ((below_alloc _ _).mono HB1.out.size)⟩
/-- The list under way, apart from the table. -/
def Stt (B : Nat) (W wr : World) (gt n : Nat) (T : List Nat) (v : Value) (L : List Int) : Prop :=
  ∃ go k d, v = .slice (some ⟨go, 0, none⟩) k d ∧ L.length = k ∧ gt ≠ go ∧ wr.ownsRow B 3 1 v k (ints L) ∧ HoldsI wr (some ⟨gt, 0, none⟩) n (intsN T) ∧ gt < wr.heap.size ∧ Below B W wr
theorem holdsI_grown {w w' : World} {g r n : Nat} {L : List Int} (h : HoldsI w (some ⟨g, 0, none⟩) n L) (hlt : g < w.heap.size) (hg : w.grownBy w' (some r)) (hne : g ≠ r) : HoldsI w' (some ⟨g, 0, none⟩) n L := by
  refine ⟨h.1, ?_⟩
  rcases h.2 with h0 | ⟨b, off, hp, hb, hc⟩
  · exact .inl h0
  · injection hp with hp
    injection hp with h1 h2
    subst h1 h2
    exact .inr ⟨g, 0, rfl, Nat.lt_of_lt_of_le hlt hg.size, fun i x hi => (World.cell?_of_block (w := w) (w' := w') (a := ⟨g, 0 + i, none⟩) (hg.block g hlt (fun e => hne (Option.some.inj e)))).trans (hc i x hi)⟩
theorem num_at {l m : List (Int × Int)} (hg : good l m = true) {x y : Int} {i : Nat} (hx : l[i]? = some (x, y)) : isAt l x = some i := by
  have hA := (good_asc hg).1
  have hil := (List.getElem?_eq_some_iff.1 hx).1
  have e : (isAt l x).isSome = true := isAt_keys.2 (List.mem_map.2 ⟨(x, y), List.mem_of_getElem? hx, rfl⟩)
  obtain ⟨j, hj⟩ := Option.isSome_iff_exists.1 e
  obtain ⟨y2, hy2⟩ := isAt_num hj
  rcases Nat.lt_trichotomy j i with h | h | h
  · have := hA.lt (i - j - 1) j (x, y2) (x, y) hy2 (by rw [show j + (i - j - 1) + 1 = i by omega]; exact hx)
    simp at this
  · rw [hj, h]
  · have := hA.lt (j - i - 1) i (x, y) (x, y2) hx (by rw [show i + (j - i - 1) + 1 = j by omega]; exact hy2)
    simp at this
set_option maxRecDepth 100000 in
set_option maxHeartbeats 4000000 in
theorem spec_any (z : Int) : GivesI.Gives 46 (.int .i64 z) (ctxs z) := by
  intro a1 a2 n1 c1 n2 c2 l m w hz1 hz2 h1 h2
  obtain ⟨i0, hi, hy0, hy1, hy2⟩ := Rec.info_parts That.infoInt
  have hb := below_alloc w (.cells #[.slice a1 n1 c1, .slice a2 n2 c2] 27)
  have hf := box_first w (.slice a1 n1 c1) (.slice a2 n2 c2) 27
  have hf2 := box_second w (.slice a1 n1 c1) (.slice a2 n2 c2) 27
  have H1 := Lib.hid (h1.below hb)
  have H2 := Lib.hid (h2.below hb)
  have HL1 := Lib.hid h1.1
  have hsz : w.heap.size < (w.alloc (.cells #[.slice a1 n1 c1, .slice a2 n2 c2] 27)).heap.size := by simp
  have hWe : (w.alloc (.cells #[.slice a1 n1 c1, .slice a2 n2 c2] 27)).heap.size = w.heap.size + 1 := by simp
  have HWE := Lib.hid hWe
  have HB := Lib.hid hb
  clear h1 h2 hWe hb
  go_enter Try.func46, Try.ntmps46
  go_wp2_with fail
  generalize w.alloc (.cells #[.slice a1 n1 c1, .slice a2 n2 c2] 27) = W0 at *
  have he0 := below_alloc W0 (.cells #[] 3)
  have ho0 := empty_own (T := 3) W0
  have hS1 : (W0.alloc (.cells #[] 3)).heap.size = w.heap.size + 2 := by simp [HWE.out]
  rw [HWE.out] at ho0
  have g1 := (he0.cell (p := ⟨w.heap.size, 0, none⟩) hsz).trans hf
  have g2 := (he0.cell (p := ⟨w.heap.size, 1, none⟩) hsz).trans hf2
  have HO0 := Lib.hid ho0
  have HE0 := Lib.hid he0
  have HBE := Lib.hid (HB.out.trans (he0.mono HB.out.size))
  have K1 := Lib.hid (H1.out.below he0)
  have K2 := Lib.hid (H2.out.below he0)
  clear ho0 he0 hf hf2
  generalize W0.alloc (.cells #[] 3) = E at *
  refine (l2Find_any a1 a2 n1 c1 n2 c2 l z E (by omega) K1.out).mono ?_
  rintro e w1 ⟨rfl, b1⟩
  have r1 := (b1.cell (p := ⟨w.heap.size, 0, none⟩) (by show w.heap.size < _; omega)).trans g1
  have r2 := (b1.cell (p := ⟨w.heap.size, 1, none⟩) (by show w.heap.size < _; omega)).trans g2
  have hs1 := b1.size
  have B1 := Lib.hid b1
  clear g1 g2 b1
  go_wp2_with fail
  refine (Good2.l2Good_any a1 a2 n1 c1 n2 c2 l m w1 (K1.out.below B1.out) (K2.out.below B1.out)).mono ?_
  rintro e w2 ⟨rfl, b2⟩
  have q1 := (b2.cell (p := ⟨w.heap.size, 0, none⟩) (by show w.heap.size < _; omega)).trans r1
  have q2 := (b2.cell (p := ⟨w.heap.size, 1, none⟩) (by show w.heap.size < _; omega)).trans r2
  have hs2 := b2.size
  have B2 := Lib.hid (B1.out.trans (b2.mono B1.out.size))
  have HO2 := Lib.hid (ownsRow_below HO0.out B2.out)
  clear r1 r2 b2
  cases hg : good l m with
  | false =>
    have HE := Lib.hid (ctxs_none (z := z) (l := l) (m := m) (by rw [hg]; simp))
    clear hg
    go_wp2_with fail
    go_ret2
    rw [HE.out]
    exact ⟨_, _, _, rfl, ownsRow_base HO2.out (by omega), by omega, HBE.out.trans (B2.out.mono HBE.out.size)⟩
  | true =>
    have HG := Lib.hid hg
    cases hz : isAt l z with
    | none =>
      have HE := Lib.hid (ctxs_none (z := z) (l := l) (m := m) (by rw [hz]; simp))
      rw [find_none hz]
      clear hg hz
      go_wp2_with fail
      go_ret2
      rw [HE.out]
      exact ⟨_, _, _, rfl, ownsRow_base HO2.out (by omega), by omega, HBE.out.trans (B2.out.mono HBE.out.size)⟩
    | some kz =>
      have HE := Lib.hid (ctxs_some (z := z) hg (by rw [hz]; rfl))
      have HZ := Lib.hid hz
      have hkz0 : ¬ (kz : Int) < 0 := by omega
      have hkzn : kz < n1 := by rw [← HL1.out]; exact isAt_lt hz
      have hkz2 : (kz : Int) < (n1 : Int) := by omega
      have hkz3 : (0 : Int) ≤ (kz : Int) := by omega
      have hn10 : n1 ≤ 10 := by rw [← HL1.out]; exact (Table.good_few hg).1
      rw [find_some hz]
      clear hg hz
      go_wp2_with fail
      refine (later_any a1 a2 n1 c1 n2 c2 l m w2 HG.out (K1.out.below B2.out) (K2.out.below B2.out)).mono ?_
      rintro e w3 ⟨gt, T, rfl, hge, hT, TT, b3⟩
      have HTT := Lib.hid TT
      have HgT : w2.heap.size ≤ gt := hge
      have HS0 : Hid (Stt W0.heap.size W0 w3 gt n1 T (.slice (some ⟨w.heap.size + 1, 0, none⟩) 0 0) (sel (fun x => later m z x) (l.take 0))) := by
        refine ⟨w.heap.size + 1, 0, 0, rfl, rfl, by omega, ?_, hT, ?_, HE0.out.trans ((B2.out.trans (b3.mono B2.out.size)).mono HE0.out.size)⟩
        · rw [HWE.out]
          exact ownsRow_below HO2.out b3
        · rcases hT.2 with h0 | ⟨bb, off, hp, hbb, _⟩
          · omega
          · injection hp with hp
            injection hp with h1 h2
            rw [h1]
            exact hbb
      have HM3 : Hid (∀ wr, Below W0.heap.size W0 wr → Holds wr a1 n1 l ∧ wr.cell? ⟨w.heap.size, 0, none⟩ = some (.slice a1 n1 c1)) := fun wr hwr => ⟨H1.out.below hwr, (hwr.cell (p := ⟨w.heap.size, 0, none⟩) hsz).trans (by
        have e1 := (HE0.out.cell (p := ⟨w.heap.size, 0, none⟩) hsz)
        have e2 := (B2.out.cell (p := ⟨w.heap.size, 0, none⟩) (by show w.heap.size < _; omega))
        rw [← e1, ← e2]
        exact q1)⟩
      clear hT TT b3 q1 q2 hge
      go_wp2_with fail
      go_loopw [6, 9] (fun s6 s9 wr => ∃ i : Nat, i ≤ n1 ∧ s9 = .int .i64 i ∧ Hid (Stt W0.heap.size W0 wr gt n1 T s6 (sel (fun x => later m z x) (l.take i)))) (fun _ s9 _ => n1 - (intOf s9).toNat)
      case atStart => exact ⟨0, Nat.zero_le _, rfl, HS0⟩
      case round =>
        clear HS0
        obtain ⟨i, hile, rfl, HS⟩ := hrel
        obtain ⟨go, k, d, rfl, hlk, hne, hown, hT, hgt, hbel⟩ := HS.out
        by_cases hlt : i < n1
        · have hin : (i : Int) < (n1 : Int) := by omega
          have hi00 : (0 : Int) ≤ (i : Int) := by omega
          obtain ⟨hH, u1⟩ := HM3.out wr hbel
          obtain ⟨b, off, x, y, rfl, hx, e1, e2⟩ := hH.at i hlt
          have hxi := num_at HG.out hx
          have HX := Lib.hid (sel_next (fun x => later m z x) hx)
          obtain ⟨bb, oo, zz, hp, hzz, e3⟩ := hT.at kz (by omega)
          obtain ⟨t, ht, rfl⟩ := row_at hzz
          injection hp with hp
          injection hp with hp1 hp2
          subst hp1 hp2
          rw [Nat.zero_add] at e3
          have ht10 := bd hn10 (HTT.out.bd kz t ht)
          have hbit : t.testBit i = later m z x := tbit HG.out HL1.out HTT.out HZ.out hxi ht
          have hl4 := l4Bit_any t i ht10 (by omega)
          rw [hbit] at hl4
          have HL4 := Lib.hid hl4
          have hkk : k ≤ 10 := by
            have := sel_len (fun x => later m z x) (l.take i)
            rw [hlk, List.length_take] at this
            omega
          have HSP := Lib.hid (And.intro hlk (And.intro hne (And.intro hT (And.intro hgt hbel))))
          have hbs := hbel.size
          clear hx hxi hzz ht hbit hl4 hH hT
          go_wp2_with fail
          refine (HL4.out wr).mono ?_
          rintro e w' ⟨rfl, hw'⟩
          have hw2 := hw'.symm
          subst hw2
          clear hw'
          cases hq : later m z x with
          | true =>
            have HX2 : Hid (sel (fun x => later m z x) (l.take (i + 1)) = sel (fun x => later m z x) (l.take i) ++ [x]) := by unfold Hid; rw [HX.out, if_pos hq]
            clear HX hq HL4
            go_wp2_with (at_builtin; refine wpList_append_lies _ rfl _ _ 55 rfl W0.heap.size 3 i0 (.int .i64 0) 1 8 Try.underlying55 hi hy0 hy1 hy2 rfl (by decide) _ _ _ rfl (hown.alloc _) ⟨wr.heap.size, 0, none⟩ 1 1 [.int .i64 x] rfl rfl (cell_one_new _ _ _) (by simp [Value.oneCell']) (by decide) (by unfold maxLen; omega) (by omega) (by simp; omega) _ rfl ?_; intro g9 cap9 w9 hown' hgrow hat hlt9)
            have hw0 := below_alloc wr (.cells #[.int .i64 x] 3)
            have hS2 : Stt W0.heap.size W0 w9 gt n1 T (.slice (some ⟨g9, 0, none⟩) (k + 1) cap9) (sel (fun x => later m z x) (l.take (i + 1))) := by
              obtain ⟨q1, q2, q3, q4, q5⟩ := HSP.out
              refine ⟨g9, k + 1, cap9, rfl, ?_, ?_, ?_, holdsI_grown (q3.below hw0) (by simp; omega) hgrow q2, Nat.lt_of_lt_of_le q4 (by have := hgrow.size; simp at this; omega), (q5.alloc q5.size _).grown hgrow (by simp; omega) (fun j hj => (hown.lt j hj).1)⟩
              · rw [HX2.out, List.length_append, q1]
                rfl
              · intro e
                rcases hat with h | h
                · have h2 : go = g9 := Option.some.inj h
                  omega
                · simp at h
                  omega
              · rw [HX2.out, ints_append]
                exact hown'
            have HS2 := Lib.hid hS2
            clear hS2 hown' hgrow hat hlt9 hown hw0
            exact ⟨⟨i + 1, by omega, by go_num, HS2⟩, by simp [intOf]; omega⟩
          | false =>
            have HX2 : Hid (sel (fun x => later m z x) (l.take (i + 1)) = sel (fun x => later m z x) (l.take i)) := by unfold Hid; rw [HX.out, if_neg (by rw [hq]; simp), List.append_nil]
            have HOW := Lib.hid hown
            clear HX hq HL4 hown
            go_wp2_with fail
            refine ⟨⟨i + 1, by omega, by go_num, ?_⟩, by simp [intOf]; omega⟩
            obtain ⟨q1, q2, q3, q4, q5⟩ := HSP.out
            unfold Hid
            rw [HX2.out]
            exact ⟨go, k, d, rfl, q1, q2, HOW.out, q3, q4, q5⟩
        · obtain rfl : i = n1 := by omega
          have hin : ¬ (i : Int) < (i : Int) := by omega
          rw [List.take_of_length_le (by rw [HL1.out]; exact Nat.le_refl _)] at hown hlk
          have hkk : k ≤ 10 := by
            have := sel_len (fun x => later m z x) l
            rw [hlk, HL1.out] at this
            omega
          have HOW := Lib.hid hown
          have HBL := Lib.hid (HB.out.trans (hbel.mono HB.out.size))
          clear hown hT hbel HS
          go_wp2_with fail
          go_ret2
          rw [HE.out]
          exact ⟨_, _, _, rfl, ownsRow_base HOW.out HB.out.size, by omega, HBL.out⟩
theorem said : Rows.FnExactEarlierContextsSaid := FEarlierContexts.over (fun z a1 a2 n1 c1 n2 c2 l1 l2 w h1 h2 h3 h4 => WEarlierContexts.walk z (ctxs z) (impl_any z) (spec_any z) a1 a2 n1 c1 n2 c2 l1 l2 w h1 h2 h3 h4)
#print axioms said
end Go.Proofs.Ytaikphcemldikaa.EarlierCtx
