/- The program's SuspectContexts. -/
import Derived.Test.YtfjpogohdoojmaaRedOf
import Derived.Test.YtfjpogohdoojmaaGivesO
import Derived.Test.YtfjpogohdoojmaaCaps
namespace Go.Proofs.Ytfjpogohdoojmaa.SusI
open Go.RowKit Pairs Rec Chain Find2 GoodM Keep GivesI Lows Order Idx That IsLater Consist OrdM RedM RedOf
noncomputable def sus (m : Ps) (x : Int) : Bool := later m x x
noncomputable def susP (l m : Ps) : Option (List Int) := if good l m = true then some (sel (sus m) l) else none
theorem sus_bad {l m : Ps} (h : good l m = false) : susP l m = none := by unfold susP; rw [if_neg (by rw [h]; simp)]
theorem sus_yes {l m : Ps} (h : good l m = true) : susP l m = some (sel (sus m) l) := by unfold susP; rw [if_pos h]
theorem clos_any (x : Int) (bo bx : Nat) (l m : Ps) (W : World) (c1 : W.cell? ⟨bo, 0, none⟩ = some (.func (.func 158) #[] #[.pointer (some ⟨bx, 0, none⟩)])) (h : IsOrd W l m bx) (hx : x ∈ keys l) (hrx : -1000000 ≤ x ∧ x ≤ 1000000) :
    Calls Try.prog 92 #[.int .i64 x, .pointer (some ⟨bo, 0, none⟩)] W fun e w' => e = .returned (.bool (sus m x)) ∧ Below W.heap.size W w' := by
  have HI := Lib.hid h
  have HX := Lib.hid hx
  clear h hx
  go_enter Try.func92, Try.ntmps92
  go_wp2_with fail
  refine (isLater_any bx l m x x W HI.out HX.out (by omega) (by omega)).mono ?_
  rintro e w' ⟨rfl, rfl⟩
  go_wp2_with fail
  go_ret
  exact ⟨rfl, Below.refl _ _⟩
set_option maxRecDepth 100000 in
set_option maxHeartbeats 8000000 in
theorem impl_cap : Caps.Cap 21 fun l m w => GivesI.Res (susP l m).isSome ((susP l m).getD []) w := by
  intro a1 a2 n1 c1 n2 c2 l m w hc1 hc2 hz1 hz2 h1 h2
  have hb := below_alloc w (.cells #[.slice a1 n1 c1, .slice a2 n2 c2] 27)
  have hf := box_first w (.slice a1 n1 c1) (.slice a2 n2 c2) 27
  have hf2 := box_second w (.slice a1 n1 c1) (.slice a2 n2 c2) 27
  have H1 := Lib.hid (h1.below hb)
  have H2 := Lib.hid (h2.below hb)
  have HL1 := Lib.hid h1.1
  have hsz : w.heap.size < (w.alloc (.cells #[.slice a1 n1 c1, .slice a2 n2 c2] 27)).heap.size := by simp
  clear h1 h2
  go_enter Try.func21, Try.ntmps21
  go_wp2_with fail
  generalize w.alloc (.cells #[.slice a1 n1 c1, .slice a2 n2 c2] 27) = W at *
  refine (Avr.impl_any a1 a2 n1 c1 n2 c2 l m W hz1 hz2 H1.out H2.out).mono ?_
  rintro e w1 ⟨rfl, b1⟩
  have r1 := (b1.cell (p := ⟨w.heap.size, 0, none⟩) hsz).trans hf
  have r2 := (b1.cell (p := ⟨w.heap.size, 1, none⟩) hsz).trans hf2
  have hsz1 := Nat.lt_of_lt_of_le hsz b1.size
  have HB1 := Lib.hid (hb.trans (b1.mono hb.size))
  have K1 := Lib.hid (H1.out.below b1)
  have K2 := Lib.hid (H2.out.below b1)
  clear hf hf2 b1 hb
  cases hg : good l m with
  | false =>
    have HE := Lib.hid (sus_bad hg)
    clear hg
    go_wp2_with fail
    go_ret2
    rw [HE.out]
    exact ⟨_, _, _, rfl, ownsRow_base (That.empty_own _) HB1.out.size, by omega, HB1.out.trans ((below_alloc _ _).mono HB1.out.size)⟩
  | true =>
    have HE := Lib.hid (sus_yes hg)
    have HG := Lib.hid hg
    have hn1 : n1 ≤ 10 := by rw [← HL1.out]; exact (Table.good_few hg).1
    clear hg
    go_wp2_with fail
    refine (orderOf_any a1 a2 n1 c1 n2 c2 l m w1 HG.out K1.out K2.out).mono ?_
    rintro e w2 ⟨bx, rfl, ho, b2⟩
    have ha := below_alloc w2 (.cells #[.func (.func 158) #[] #[.pointer (some ⟨bx, 0, none⟩)]] 95)
    have b23 := b2.trans (ha.mono b2.size)
    have q1 := (b23.cell (p := ⟨w.heap.size, 0, none⟩) hsz1).trans r1
    have q2 := (b23.cell (p := ⟨w.heap.size, 1, none⟩) hsz1).trans r2
    have q4 : (w2.alloc (.cells #[.func (.func 158) #[] #[.pointer (some ⟨bx, 0, none⟩)]] 95)).cell? ⟨w2.heap.size, 0, none⟩ = some (.func (.func 158) #[] #[.pointer (some ⟨bx, 0, none⟩)]) := by
      rw [World.cell?_alloc_mark]
      rfl
    have s4 : w2.heap.size < (w2.alloc (.cells #[.func (.func 158) #[] #[.pointer (some ⟨bx, 0, none⟩)]] 95)).heap.size := by simp
    have HO := Lib.hid (ho.below ha)
    have HB3 := Lib.hid (HB1.out.trans (b23.mono HB1.out.size))
    have K13 := Lib.hid (K1.out.below b23)
    have Q4 := Lib.hid q4
    clear ho ha b2 b23 r1 r2
    go_wp2_with fail
    generalize w2.alloc (.cells #[.func (.func 158) #[] #[.pointer (some ⟨bx, 0, none⟩)]] 95) = W3 at *
    refine (that_any 92 #[.pointer (some ⟨w2.heap.size, 0, none⟩)] (sus m) a1 a2 n1 c1 n2 c2 l W3 hn1 K13.out (fun args W => call_enter Try.func92 (by kernel_rfl) rfl args W) (fun x wr hx hwr => ?_)).mono ?_
    · have k1 := key_rng HG.out hx
      exact clos_any x w2.heap.size bx l m wr ((hwr.cell (p := ⟨w2.heap.size, 0, none⟩) s4).trans Q4.out) (HO.out.below hwr) hx (by omega)
    rintro e w4 ⟨p, k, d, rfl, hown, hk, b4⟩
    have HOW := Lib.hid hown
    have HB4 := Lib.hid (HB3.out.trans (b4.mono HB3.out.size))
    clear hown b4
    go_wp2_with fail
    go_ret2
    rw [HE.out]
    exact ⟨_, _, _, rfl, ownsRow_base HOW.out HB3.out.size, hk, HB4.out⟩
theorem impl_any : GivesO.Gives 21 susP := Caps.o impl_cap
end Go.Proofs.Ytfjpogohdoojmaa.SusI
