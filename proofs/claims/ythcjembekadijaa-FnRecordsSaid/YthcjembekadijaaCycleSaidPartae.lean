/- What keeps a relation; the range of a number. -/
import Derived.Test.YthcjembekadijaaOrderSaidPartar
import Derived.Test.YthcjembekadijaaOrderSaidPartbf
import Derived.Test.YthcjembekadijaaOrderSaidPartbc
import Derived.Test.YthcjembekadijaaCycleSaidPartad
import Derived.Test.YthcjembekadijaaCycleSaidPartac
namespace Go.Proofs.Ythcjembekadijaa.RedOf
open Go.RowKit Pairs Rec Chain Find2 GoodM Keep GivesI Lows Order Idx That IsLater Consist OrdM RedM
noncomputable def keptBy (m : Ps) (p y : Int × Int) : Bool := !(y.1 == p.1 && later m y.2 p.2)
theorem any_kept (m : Ps) (p : Int × Int) : m.any (fun y => !keptBy m p y) = red m p := by
  unfold keptBy red
  simp
theorem key_rng {l m : Ps} (hg : good l m = true) {x : Int} (hk : x ∈ keys l) : 1 ≤ x ∧ x ≤ 999 := by
  obtain ⟨i, hi⟩ := Option.isSome_iff_exists.1 (isAt_keys.2 hk)
  exact rng_at hg hi
end Go.Proofs.Ythcjembekadijaa.RedOf
/- The program's ContradictoryRelations. -/
namespace Go.Proofs.Ythcjembekadijaa.ConI
open Go.RowKit Pairs Rec Chain Find2 GoodM Keep GivesI Lows Order Idx That IsLater Consist OrdM RedM RedOf ConM
theorem clos_any (x1 x2 : Int) (bo bx : Nat) (l m : Ps) (W : World) (c1 : W.cell? ⟨bo, 0, none⟩ = some (.func (.func 119) #[] #[.pointer (some ⟨bx, 0, none⟩)])) (h : IsOrd W l m bx) (hx : x2 ∈ keys l) (hrx : -1000000 ≤ x1 ∧ x1 ≤ 1000000) (hrn : -1000000 ≤ x2 ∧ x2 ≤ 1000000) :
    Calls Try.prog 62 #[.agg #[.int .i64 x1, .int .i64 x2], .pointer (some ⟨bo, 0, none⟩)] W fun e w' => e = .returned (.bool (con m (x1, x2))) ∧ Below W.heap.size W w' := by
  have hb := below_alloc W (.cells #[.int .i64 x1, .int .i64 x2] 39)
  have u1 := box_first W (.int .i64 x1) (.int .i64 x2) 39
  have u2 := box_second W (.int .i64 x1) (.int .i64 x2) 39
  have e3 := (hb.cell (p := ⟨bo, 0, none⟩) (World.block_lt_of_cell? W _ c1)).trans c1
  have HI := Lib.hid (h.below hb)
  have HX := Lib.hid hx
  have HB := Lib.hid hb
  clear h hx c1 hb
  go_enter Try.func62, Try.ntmps62
  go_wp2_with fail
  refine (isLater_any bx l m x2 x1 _ HI.out HX.out (by omega) (by omega)).mono ?_
  rintro e w' ⟨rfl, rfl⟩
  go_wp2_with fail
  go_ret
  exact ⟨rfl, HB.out⟩
theorem empty_rel {B : Nat} (w : World) (hB : B ≤ w.heap.size) : (w.alloc (.cells #[] 39)).ownsRow B 39 2 (.slice (some ⟨w.heap.size, 0, none⟩) 0 0) 0 (flat []) := ownsRow_base (Elems.empty_own w) hB
set_option maxRecDepth 100000 in
set_option maxHeartbeats 8000000 in
theorem impl_cap : Caps.Cap 13 fun l m w => GivesS.Res (conP l m).isSome ((conP l m).getD []) w := by
  intro a1 a2 n1 c1 n2 c2 l m w hc1 hc2 hz1 hz2 h1 h2
  have hb := below_alloc w (.cells #[.slice a1 n1 c1, .slice a2 n2 c2] 27)
  have hf := box_first w (.slice a1 n1 c1) (.slice a2 n2 c2) 27
  have hf2 := box_second w (.slice a1 n1 c1) (.slice a2 n2 c2) 27
  have H1 := Lib.hid (h1.below hb)
  have H2 := Lib.hid (h2.below hb)
  have HL2 := Lib.hid h2.1
  have hsz : w.heap.size < (w.alloc (.cells #[.slice a1 n1 c1, .slice a2 n2 c2] 27)).heap.size := by simp
  clear h1 h2
  go_enter Try.func13, Try.ntmps13
  go_wp2_with fail
  generalize w.alloc (.cells #[.slice a1 n1 c1, .slice a2 n2 c2] 27) = W at *
  refine (Avr.impl_any a1 a2 n1 c1 n2 c2 l m W hz1 hz2 H1.out H2.out).mono ?_
  rintro e w1 ⟨rfl, b1⟩
  have r1 := (b1.cell (p := ⟨w.heap.size, 0, none⟩) hsz).trans hf
  have r2 := (b1.cell (p := ⟨w.heap.size, 1, none⟩) hsz).trans hf2
  have hsz1 := Nat.lt_of_lt_of_le hsz b1.size
  have HB1 := Lib.hid (hb.trans (b1.mono hb.size))
  have K1 := Lib.hid (H1.out.below b1)
  have K2 := Lib.hid (H2.out.below b1)
  clear hf hf2 b1 hb
  cases hg : good l m with
  | false =>
    have HE := Lib.hid (con_bad hg)
    clear hg
    go_wp2_with fail
    go_ret2
    rw [HE.out]
    exact ⟨_, _, _, rfl, empty_rel w1 HB1.out.size, by omega, HB1.out.trans ((below_alloc _ _).mono HB1.out.size)⟩
  | true =>
    have HE := Lib.hid (con_yes hg)
    have HG := Lib.hid hg
    have hn2 : n2 ≤ 24 := by rw [← HL2.out]; exact (Table.good_few hg).2
    clear hg
    go_wp2_with fail
    refine (orderOf_any a1 a2 n1 c1 n2 c2 l m w1 HG.out K1.out K2.out).mono ?_
    rintro e w2 ⟨bx, rfl, ho, b2⟩
    have ha := below_alloc w2 (.cells #[.func (.func 119) #[] #[.pointer (some ⟨bx, 0, none⟩)]] 86)
    have b23 := b2.trans (ha.mono b2.size)
    have q1 := (b23.cell (p := ⟨w.heap.size, 0, none⟩) hsz1).trans r1
    have q2 := (b23.cell (p := ⟨w.heap.size, 1, none⟩) hsz1).trans r2
    have q4 : (w2.alloc (.cells #[.func (.func 119) #[] #[.pointer (some ⟨bx, 0, none⟩)]] 86)).cell? ⟨w2.heap.size, 0, none⟩ = some (.func (.func 119) #[] #[.pointer (some ⟨bx, 0, none⟩)]) := by
      rw [World.cell?_alloc_mark]
      rfl
    have s4 : w2.heap.size < (w2.alloc (.cells #[.func (.func 119) #[] #[.pointer (some ⟨bx, 0, none⟩)]] 86)).heap.size := by simp
    have HO := Lib.hid (ho.below ha)
    have HB3 := Lib.hid (HB1.out.trans (b23.mono HB1.out.size))
    have K23 := Lib.hid (K2.out.below b23)
    have Q4 := Lib.hid q4
    clear ho ha b2 b23 r1 r2
    go_wp2_with fail
    generalize w2.alloc (.cells #[.func (.func 119) #[] #[.pointer (some ⟨bx, 0, none⟩)]] 86) = W3 at *
    refine (Elems.elems_any 62 #[.pointer (some ⟨w2.heap.size, 0, none⟩)] (con m) a2 n2 c2 m W3 hn2 K23.out (fun args W => call_enter Try.func62 (by kernel_rfl) rfl args W) (fun x y wr hx hwr => ?_)).mono ?_
    · have hk := ends_key HG.out hx
      have k1 := key_rng HG.out hk.1
      have k2 := key_rng HG.out hk.2
      exact clos_any x y w2.heap.size bx l m wr ((hwr.cell (p := ⟨w2.heap.size, 0, none⟩) s4).trans Q4.out) (HO.out.below hwr) hk.2 (by omega) (by omega)
    rintro e w4 ⟨p, k, d, rfl, hown, hk, b4⟩
    have HOW := Lib.hid hown
    have HB4 := Lib.hid (HB3.out.trans (b4.mono HB3.out.size))
    clear hown b4
    go_wp2_with fail
    go_ret2
    rw [HE.out]
    exact ⟨_, _, _, rfl, ownsRow_base HOW.out HB3.out.size, hk, HB4.out⟩
theorem impl_any : GivesRL.Gives 13 conP := Caps.rl impl_cap
end Go.Proofs.Ythcjembekadijaa.ConI
