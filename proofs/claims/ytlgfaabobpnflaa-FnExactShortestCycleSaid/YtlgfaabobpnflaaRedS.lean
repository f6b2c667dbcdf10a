/- The model's l5Good and l5Redundant. -/
import Derived.Test.YtlgfaabobpnflaaRedM
import Derived.Test.YtlgfaabobpnflaaConsistA
namespace Go.Proofs.Ytlgfaabobpnflaa.RedS
open Go.RowKit Pairs Rec RecEq Chain Find2 GoodM Keep GivesI Lows Order Bit Table Idx That IsLater Consist OrdM RedM
noncomputable def cyc (l m : Ps) : Bool := l.any fun p => later m p.1 p.1
set_option maxRecDepth 100000 in
set_option maxHeartbeats 4000000 in
theorem l5Good_any (a1 a2 : Option Addr) (n1 c1 n2 c2 : Nat) (l m : List (Int × Int)) (w : World) (h1 : Holds w a1 n1 l) (h2 : Holds w a2 n2 m) :
    Calls Try.prog 77 #[.agg #[.slice a1 n1 c1, .slice a2 n2 c2]] w fun e w' => e = .returned (.bool (good l m && !cyc l m)) ∧ Below w.heap.size w w' := by
  have hb := below_alloc w (.cells #[.slice a1 n1 c1, .slice a2 n2 c2] 33)
  have hf := box_first w (.slice a1 n1 c1) (.slice a2 n2 c2) 33
  have hf2 := box_second w (.slice a1 n1 c1) (.slice a2 n2 c2) 33
  have hsz : w.heap.size < (w.alloc (.cells #[.slice a1 n1 c1, .slice a2 n2 c2] 33)).heap.size := by simp
  have H1 := Lib.hid (h1.below hb)
  have H2 := Lib.hid (h2.below hb)
  clear h1 h2
  go_enter Try.func77, Try.ntmps77
  go_wp2_with fail
  generalize w.alloc (.cells #[.slice a1 n1 c1, .slice a2 n2 c2] 33) = W at *
  refine (Good2.l2Good_any a1 a2 n1 c1 n2 c2 l m W H1.out H2.out).mono ?_
  rintro e w1 ⟨rfl, b1⟩
  have r1 := (b1.cell (p := ⟨w.heap.size, 0, none⟩) hsz).trans hf
  have r2 := (b1.cell (p := ⟨w.heap.size, 1, none⟩) hsz).trans hf2
  have HB1 := Lib.hid (hb.trans (b1.mono hb.size))
  cases hg : good l m with
  | false =>
    have HG := Lib.hid hg
    clear hg
    go_wp2_with fail
    go_ret
    exact ⟨by rw [HG.out, Bool.false_and]; rfl, HB1.out⟩
  | true =>
    have HG := Lib.hid hg
    clear hg
    go_wp2_with fail
    refine (l4Consistent_any a1 a2 n1 c1 n2 c2 l m w1 HG.out (H1.out.below b1) (H2.out.below b1)).mono ?_
    rintro e w2 ⟨rfl, b2⟩
    have HB2 := Lib.hid (HB1.out.trans (b2.mono HB1.out.size))
    have hA : (l.any fun p => later m p.1 p.1) = cyc l m := rfl
    rw [hA]
    clear hA b1 b2 hb
    generalize hbb : cyc l m = bb
    have HBB := Lib.hid hbb
    clear hbb
    go_wp2_with fail
    go_ret
    exact ⟨by rw [HG.out, HBB.out, Bool.true_and]; rfl, HB2.out⟩
set_option maxRecDepth 100000 in
set_option maxHeartbeats 8000000 in
theorem l5Redundant_any (x y : Int) (a1 a2 : Option Addr) (n1 c1 n2 c2 : Nat) (l m : List (Int × Int)) (w : World) (hgood : good l m = true) (hc : cyc l m = false) (hxy : (x, y) ∈ m) (h1 : Holds w a1 n1 l) (h2 : Holds w a2 n2 m) :
    Calls Try.prog 78 #[.agg #[.slice a1 n1 c1, .slice a2 n2 c2], .agg #[.int .i64 x, .int .i64 y]] w fun e w' => e = .returned (.bool (red m (x, y))) ∧ Below w.heap.size w w' := by
  obtain ⟨hs, x1, x2, y1, y2, hb0⟩ := boxes2 w (.slice a1 n1 c1) (.slice a2 n2 c2) (.int .i64 x) (.int .i64 y) 33 89
  have HS := Lib.hid hs
  have H1 := Lib.hid (h1.below hb0)
  have H2 := Lib.hid (h2.below hb0)
  have HL1 := Lib.hid h1.1
  have HL2 := Lib.hid h2.1
  have HG := Lib.hid hgood
  have hn10 : n1 ≤ 10 := by rw [← HL1.out]; exact (Table.good_few hgood).1
  have hn24 : n2 ≤ 24 := by rw [← HL2.out]; exact (Table.good_few hgood).2
  obtain ⟨jb, hjb⟩ := (good_ends hgood x y hxy).2
  have HJ := Lib.hid hjb
  have HEn := Lib.hid (good_ends hgood)
  have hjn : jb < n1 := by rw [← HL1.out]; exact isAt_lt hjb
  have HALT := Lib.hid (red_alt hgood hc (x, y))
  have HB0 := Lib.hid hb0
  clear h1 h2 hgood hc hxy hs hb0 hjb
  go_enter Try.func78, Try.ntmps78
  go_wp2_with fail
  generalize ((w.alloc (.cells #[.slice a1 n1 c1, .slice a2 n2 c2] 33)).alloc (.cells #[.int .i64 x, .int .i64 y] 89)) = W at *
  have lw : w.heap.size < W.heap.size := by rw [HS.out]; omega
  have lw1 : w.heap.size + 1 < W.heap.size := by rw [HS.out]; omega
  refine (later_any a1 a2 n1 c1 n2 c2 l m W HG.out H1.out H2.out).mono ?_
  rintro e w3 ⟨gt, T, rfl, hge, hT, TT, b3⟩
  have HTT := Lib.hid TT
  have HLT : Hid (T.length = n1) := TT.len
  have q1 := (b3.cell (p := ⟨w.heap.size, 0, none⟩) lw).trans x1
  have q2 := (b3.cell (p := ⟨w.heap.size, 1, none⟩) lw).trans x2
  have q3 := (b3.cell (p := ⟨w.heap.size + 1, 0, none⟩) lw1).trans y1
  have q4 := (b3.cell (p := ⟨w.heap.size + 1, 1, none⟩) lw1).trans y2
  have K1 := Lib.hid (H1.out.below b3)
  have K2 := Lib.hid (H2.out.below b3)
  have HT3 := Lib.hid hT
  have HB3 := Lib.hid (HB0.out.trans (b3.mono HB0.out.size))
  have hs3 := b3.size
  clear hT TT b3 x1 x2 y1 y2
  go_wp2_with fail
  refine (l2Find_any a1 a2 n1 c1 n2 c2 l y w3 (by omega) K1.out).mono ?_
  rintro e w4 ⟨rfl, b4⟩
  rw [find_some HJ.out]
  have p1 := (b4.cell (p := ⟨w.heap.size, 0, none⟩) (by show w.heap.size < _; omega)).trans q1
  have p2 := (b4.cell (p := ⟨w.heap.size, 1, none⟩) (by show w.heap.size < _; omega)).trans q2
  have p3 := (b4.cell (p := ⟨w.heap.size + 1, 0, none⟩) (by show w.heap.size + 1 < _; omega)).trans q3
  have p4 := (b4.cell (p := ⟨w.heap.size + 1, 1, none⟩) (by show w.heap.size + 1 < _; omega)).trans q4
  have P := Lib.hid (And.intro p1 (And.intro p2 (And.intro p3 p4)))
  have M1 := Lib.hid (K1.out.below b4)
  have M2 := Lib.hid (K2.out.below b4)
  have HT4 := Lib.hid (HT3.out.below b4)
  have HB4 := Lib.hid (HB3.out.trans (b4.mono HB3.out.size))
  have hs4 := b4.size
  clear q1 q2 q3 q4 b4 K1 K2 HT3
  go_wp2_with fail
  clear p1 p2 p3 p4
  go_loopw [7] (fun s5 wr => ∃ k : Nat, k ≤ n2 ∧ s5 = .int .i64 k ∧ Hid ((m.take k).any (fun z => z.1 == x && !(z.2 == y) && later m z.2 y) = false) ∧ Hid (Below w4.heap.size w4 wr)) (fun s5 _ => n2 - (intOf s5).toNat)
  case atStart => exact ⟨0, Nat.zero_le _, rfl, rfl, Below.refl _ _⟩
  case round =>
    obtain ⟨k, hk, rfl, HP, HR⟩ := hrel
    have p1 := (HR.out.cell (p := ⟨w.heap.size, 0, none⟩) (by show w.heap.size < _; omega)).trans P.out.1
    have p2 := (HR.out.cell (p := ⟨w.heap.size, 1, none⟩) (by show w.heap.size < _; omega)).trans P.out.2.1
    by_cases hlt : k < n2
    · have hkn : (k : Int) < (n2 : Int) := by omega
      have hk0 : (0 : Int) ≤ (k : Int) := by omega
      obtain ⟨b, off, u, v, rfl, hx, e1, e2⟩ := (M2.out.below HR.out).at k hlt
      have HX := Lib.hid hx
      obtain ⟨iv, hiv⟩ := (HEn.out u v (List.mem_of_getElem? hx)).2
      have HIV := Lib.hid hiv
      have hivn : iv < n1 := by rw [← HL1.out]; exact isAt_lt hiv
      have ht := List.getElem?_eq_getElem (show iv < T.length by rw [HLT.out]; exact hivn)
      generalize T[iv]'_ = t at *
      have HTI := Lib.hid ht
      have ht10 := bd hn10 (HTT.out.bd iv t ht)
      have HBT : Hid (t.testBit jb = later m v y) := tbit HG.out HL1.out HTT.out hiv HJ.out ht
      have hbz := below_alloc wr (.cells #[.int .i64 u, .int .i64 v] 89)
      have u1 := box_first wr (.int .i64 u) (.int .i64 v) 89
      have u2' := box_second wr (.int .i64 u) (.int .i64 v) 89
      have HRZ := Lib.hid (HR.out.trans (hbz.mono HR.out.size))
      have z1 := (HRZ.out.cell (p := ⟨w.heap.size, 0, none⟩) (by show w.heap.size < _; omega)).trans P.out.1
      have z2 := (HRZ.out.cell (p := ⟨w.heap.size, 1, none⟩) (by show w.heap.size < _; omega)).trans P.out.2.1
      have z3 := (HRZ.out.cell (p := ⟨w.heap.size + 1, 0, none⟩) (by show w.heap.size + 1 < _; omega)).trans P.out.2.2.1
      have z4 := (HRZ.out.cell (p := ⟨w.heap.size + 1, 1, none⟩) (by show w.heap.size + 1 < _; omega)).trans P.out.2.2.2
      have hzs : wr.heap.size < (wr.alloc (.cells #[.int .i64 u, .int .i64 v] 89)).heap.size := by simp
      have N1 := Lib.hid (M1.out.below HRZ.out)
      have HTZ := Lib.hid (HT4.out.below HRZ.out)
      have HTK := Lib.hid (tk_any (fun z => z.1 == x && !(z.2 == y) && later m z.2 y) hx HP.out)
      have HAH : Hid ((u == x && !(v == y) && later m v y) = true → m.any (fun z => z.1 == x && !(z.2 == y) && later m z.2 y) = true) := fun h => any_hit (fun z => z.1 == x && !(z.2 == y) && later m z.2 y) hx h
      have zt : (wr.alloc (.cells #[.int .i64 u, .int .i64 v] 89)).cell? ⟨gt, iv, none⟩ = some (.int .i64 (t : Int)) := by
        obtain ⟨bb, oo, zz, hp, hzz, e3⟩ := HTZ.out.at iv hivn
        obtain ⟨t', ht', rfl⟩ := row_at hzz
        obtain rfl : t' = t := by rw [HTI.out] at ht'; exact (Option.some.inj ht').symm
        injection hp with hp
        injection hp with hp1 hp2
        subst hp1 hp2
        rw [Nat.zero_add] at e3
        exact e3
      have ZT := Lib.hid zt
      have hivI : (iv : Int) < (n1 : Int) := by omega
      have hiv0 : (0 : Int) ≤ (iv : Int) := by omega
      clear hx hiv ht hbz zt
      by_cases hux : u = x
      · have hub : (u == x) = true := by rw [beq_iff_eq]; exact hux
        subst hux
        by_cases hvy : v = y
        · have hvb : (v == y) = true := by rw [beq_iff_eq]; exact hvy
          have HP2 : Hid ((m.take (k + 1)).any (fun z => z.1 == u && !(z.2 == y) && later m z.2 y) = false) := by unfold Hid; rw [HTK.out]; simp [hvb]
          subst hvy
          clear hub hvb
          go_wp2_with fail
          exact ⟨⟨k + 1, by omega, by go_num, HP2, HRZ⟩, by simp [intOf]; omega⟩
        · have hvb : (v == y) = false := by rw [beq_eq_false_iff_ne]; exact hvy
          have HVB := Lib.hid hvb
          go_wp2_with fail
          refine (l2Find_any _ _ n1 c1 n2 c2 l v _ (by omega) N1.out).mono ?_
          rintro e w5 ⟨rfl, b5⟩
          rw [find_some HIV.out]
          have zt5 := (b5.cell (World.block_lt_of_cell? _ _ ZT.out)).trans ZT.out
          have HR5 := Lib.hid (HRZ.out.trans (b5.mono HRZ.out.size))
          have HB5 := Lib.hid (fun W => HBT.out ▸ l4Bit_any t jb ht10 (by omega) W)
          clear b5
          go_wp2_with fail
          refine (HB5.out _).mono ?_
          rintro e w9 ⟨rfl, hw9⟩
          have hw9' := hw9.symm
          subst hw9'
          clear hw9
          cases h1 : later m v y with
          | true =>
            have HA := Lib.hid (HAH.out (by rw [hub, HVB.out, h1]; rfl))
            have HBD := Lib.hid (HB4.out.trans (HR5.out.mono HB4.out.size))
            clear h1
            go_wp2_with fail
            go_ret
            exact ⟨by rw [HALT.out, HA.out]; rfl, HBD.out⟩
          | false =>
            have HP2 : Hid ((m.take (k + 1)).any (fun z => z.1 == u && !(z.2 == y) && later m z.2 y) = false) := by unfold Hid; rw [HTK.out, h1]; simp
            clear h1
            go_wp2_with fail
            exact ⟨⟨k + 1, by omega, by go_num, HP2, HR5⟩, by simp [intOf]; omega⟩
      · have hub : (u == x) = false := by rw [beq_eq_false_iff_ne]; exact hux
        have HP2 : Hid ((m.take (k + 1)).any (fun z => z.1 == x && !(z.2 == y) && later m z.2 y) = false) := by unfold Hid; rw [HTK.out]; simp [hub]
        go_wp2_with fail
        exact ⟨⟨k + 1, by omega, by go_num, HP2, HRZ⟩, by simp [intOf]; omega⟩
    · obtain rfl : k = n2 := by omega
      have hkn : ¬ (k : Int) < (k : Int) := by omega
      have hp := HP.out
      rw [List.take_of_length_le (by rw [HL2.out]; exact Nat.le_refl _)] at hp
      have HQ := Lib.hid hp
      have HBD := Lib.hid (HB4.out.trans (HR.out.mono HB4.out.size))
      clear hp
      go_wp2_with fail
      go_ret
      exact ⟨by rw [HALT.out, HQ.out]; rfl, HBD.out⟩
end Go.Proofs.Ytlgfaabobpnflaa.RedS
