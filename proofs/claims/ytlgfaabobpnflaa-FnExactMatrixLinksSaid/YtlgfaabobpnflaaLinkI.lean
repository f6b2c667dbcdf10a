/- The program's MatrixLinks. -/
import Derived.Test.YtlgfaabobpnflaaDepI
import Derived.Test.YtlgfaabobpnflaaElems
import Derived.Test.YtlgfaabobpnflaaLinkM
namespace Go.Proofs.Ytlgfaabobpnflaa.LinkI
open Go.RowKit Go.Maps Pairs Rec Chain Find2 GoodM Keep GivesI Lows Queue From MapStep Order Idx IsLater OrdM DepM NumMap DepI LinkM RedM
theorem key_rng {l m : Ps} (hg : good l m = true) {x : Int} (hk : x ∈ keys l) : 1 ≤ x ∧ x ≤ 999 := by
  obtain ⟨i, hi⟩ := Option.isSome_iff_exists.1 (isAt_keys.2 hk)
  exact rng_at hg hi
theorem clos_any (x y : Int) (bd g n : Nat) (f : Int → Int) (W : World) (hc : W.cell? ⟨bd, 0, none⟩ = some (.map (some g))) (h : NumAt W g n f) (hx : 1 ≤ x ∧ x ≤ 999) (hy : 1 ≤ y ∧ y ≤ 999) (hf : 0 ≤ f x ∧ f x ≤ 240) :
    Calls Try.prog 97 #[.agg #[.int .i64 x, .int .i64 y], .pointer (some ⟨bd, 0, none⟩)] W fun e w' => e = .returned (.bool (f y == f x + 1)) ∧ Below W.heap.size W w' := by
  have hb := below_alloc W (.cells #[.int .i64 x, .int .i64 y] 89)
  have u1 := box_first W (.int .i64 x) (.int .i64 y) 89
  have u2 := box_second W (.int .i64 x) (.int .i64 y) 89
  have e3 := (hb.cell (p := ⟨bd, 0, none⟩) (World.block_lt_of_cell? W _ hc)).trans hc
  have hn := h.below hb
  have k1 := num_look hn (x := x) (by omega)
  have k2 := num_look hn (x := y) (by omega)
  have HB := Lib.hid hb
  have hw64 : wrap64 (f x + 1) = f x + 1 := by unfold wrap64; omega
  clear h hc hb hn
  go_enter Try.func97, Try.ntmps97
  go_wp2_with fail
  go_ret
  exact ⟨rfl, HB.out⟩
set_option maxRecDepth 100000 in
set_option maxHeartbeats 8000000 in
theorem impl_any : GivesRL.Gives 42 linkP := by
  intro a1 a2 n1 n2 l m w hz1 hz2 h1 h2
  have hb := below_alloc w (.cells #[.slice a1 n1 n1, .slice a2 n2 n2] 33)
  have hf := box_first w (.slice a1 n1 n1) (.slice a2 n2 n2) 33
  have hf2 := box_second w (.slice a1 n1 n1) (.slice a2 n2 n2) 33
  have H1 := Lib.hid (h1.below hb)
  have H2 := Lib.hid (h2.below hb)
  have HL2 := Lib.hid h2.1
  have HB := Lib.hid hb
  clear h1 h2 hb
  go_enter Try.func42, Try.ntmps42
  go_wp2_with fail
  generalize w.alloc (.cells #[.slice a1 n1 n1, .slice a2 n2 n2] 33) = W at *
  refine (depthsOf_any a1 a2 n1 n2 l m W hz1 hz2 H1.out H2.out).mono ?_
  rintro e w1 ⟨g, n, rfl, hnum, hgl, b1⟩
  have ha := below_alloc w1 (.cells #[.map (some g)] 96)
  have b2 := b1.trans (ha.mono b1.size)
  have q1 := (b2.cell (World.block_lt_of_cell? W _ hf)).trans hf
  have q2 := (b2.cell (World.block_lt_of_cell? W _ hf2)).trans hf2
  have q3 : (w1.alloc (.cells #[.map (some g)] 96)).cell? ⟨w1.heap.size, 0, none⟩ = some (.map (some g)) := by rw [World.cell?_alloc_mark]; rfl
  have HB2 := Lib.hid (HB.out.trans (b2.mono HB.out.size))
  have HN : Hid (ok5 l m = true → NumAt (w1.alloc (.cells #[.map (some g)] 96)) g n (depth l m)) := fun h => (hnum h).below ha
  have K2 := Lib.hid (H2.out.below b2)
  clear hf hf2 b1 b2 ha hnum
  cases hok : ok5 l m with
  | false =>
    have HE : Hid (linkP l m = none) := by
      unfold Hid
      cases hg : good l m with
      | false => exact link_bad hg
      | true =>
        unfold ok5 at hok
        rw [hg] at hok
        exact link_cyc hg (by simpa using hok)
    have hem := Elems.empty_own (T := 89) (w1.alloc (.cells #[.map (some g)] 96))
    have hsz1 : (w1.alloc (.cells #[.map (some g)] 96)).heap.size = w1.heap.size + 1 := by simp
    have hem2 : ((w1.alloc (.cells #[.map (some g)] 96)).alloc (.cells #[] 89)).ownsRow w.heap.size 89 2 (.slice (some ⟨w1.heap.size + 1, 0, none⟩) 0 0) 0 [] := by
      have h := ownsRow_base hem HB2.out.size
      rw [hsz1] at h
      exact h
    have HEM := Lib.hid hem2
    clear hok hem hem2 hsz1
    go_wp2_with fail
    go_ret2
    rw [HE.out]
    exact ⟨_, _, _, rfl, HEM.out, by omega, HB2.out.trans ((below_alloc _ _).mono HB2.out.size)⟩
  | true =>
    have hgd : good l m = true ∧ (l.any fun p => later m p.1 p.1) = false := by unfold ok5 at hok; simpa using hok
    have HE := Lib.hid (link_yes hgd.1 hgd.2)
    have HG := Lib.hid hgd.1
    have hn2 : n2 ≤ 24 := by rw [← HL2.out]; exact (Table.good_few hgd.1).2
    have HNM := Lib.hid (HN.out hok)
    clear hok hgd
    go_wp2_with fail
    generalize w1.alloc (.cells #[.map (some g)] 96) = V at *
    refine (Elems.elems_any 97 #[.pointer (some ⟨w1.heap.size, 0, none⟩)] (link l m) a2 n2 n2 m V hn2 K2.out (fun args W => FuncI.call_enter Try.func97 (by kernel_rfl) rfl args W) (fun x y wr hm hwr => ?_)).mono ?_
    · have hx := ends_key HG.out hm
      exact clos_any x y w1.heap.size g n (depth l m) wr ((hwr.cell (World.block_lt_of_cell? V _ q3)).trans q3) (HNM.out.below hwr) (key_rng HG.out hx.1) (key_rng HG.out hx.2) (DepS.depth_le HG.out x)
    rintro e w4 ⟨p4, k4, d4, rfl, hown4, hk4, b4⟩
    have HOW4 := Lib.hid hown4
    have HB4 := Lib.hid (HB2.out.trans (b4.mono HB2.out.size))
    have hsb := HB2.out.size
    clear hown4 b4 q1 q2 q3
    go_wp2_with fail
    go_ret2
    rw [HE.out]
    exact ⟨_, _, _, rfl, ownsRow_base HOW4.out hsb, hk4, HB4.out⟩
end Go.Proofs.Ytlgfaabobpnflaa.LinkI
