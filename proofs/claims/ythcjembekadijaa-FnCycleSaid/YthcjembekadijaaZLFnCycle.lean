/- FnCycle: at every code the law returns true (a code of more than 65536 bytes at once), and what was there before is left as it was. No condition. -/
import Derived.Test.YthcjembekadijaaOrderSaidPartaa
import Derived.Test.YthcjembekadijaaOrderSaidPartal
import Derived.Test.YthcjembekadijaaCycleSaidPartaa
import Derived.Test.YthcjembekadijaaCycleSaidPartad
import Derived.Test.YthcjembekadijaaCycleSaidPartae
import Derived.Test.YthcjembekadijaaOrderSaidPartbc
import Derived.Test.YthcjembekadijaaCycleSaidPartaf
namespace Go.Proofs.Ythcjembekadijaa.LFnCycle
open Go.RowKit Cur Pairs Rec Chain Find2 GoodM Keep GivesI That Drw DrwC DrwR DrwP DrwL LawH CycM CycI ConM CycL
theorem rel_any {m : Ps} {x y : Int} (h : (x, y) ∈ m) : (m.any fun p => p.1 == x && p.2 == y) = true := List.any_eq_true.2 ⟨(x, y), h, by simp⟩
/-- What the law asks of a cycle. -/
structure IsCyc (m : Ps) (c : Int) (C : List Int) : Prop where
  two : 1 < C.length
  fst : C[0]? = some c
  rel : ∀ (i : Nat) (x : Int), C[i]? = some x → c ≤ x ∧ ∃ y, C[(i + 1) % C.length]? = some y ∧ (m.any fun p => p.1 == x && p.2 == y) = true
/-- The answers, part by part. -/
theorem answers (l m : Ps) : (good l m = false ∧ cycP l m = (false, false, []) ∧ Consist.consP l m = (false, false) ∧ conP l m = none) ∨
    (good l m = true ∧ (cycP l m = (false, true, []) ∧ Consist.consP l m = (true, true) ∧ conP l m = some [] ∨
      ∃ c C K, cycP l m = (true, true, C) ∧ Consist.consP l m = (false, true) ∧ conP l m = some K ∧ 0 < K.length ∧ IsCyc m c C)) := by
  cases hg : good l m with
  | false => exact .inl ⟨rfl, cp_no hg, Consist.cons_no hg, con_bad hg⟩
  | true =>
    refine .inr ⟨rfl, ?_⟩
    have h1 := cyc_iff hg
    have h2 := con_iff hg
    have h3 : Consist.consP l m = (!loop l m, true) := Consist.cons_yes hg
    cases hl : loop l m with
    | false =>
      have h0 : ¬ 0 < (cycM m (keys l)).length := fun h => by rw [h1.1 h] at hl; cases hl
      have h4 : cycM m (keys l) = [] := List.length_eq_zero_iff.1 (by omega)
      have h5 : m.filter (con m) = [] := List.length_eq_zero_iff.1 (h2.2 hl)
      refine .inl ⟨?_, by rw [h3, hl]; rfl, by rw [con_yes hg, h5]⟩
      rw [cp_yes hg, h4]
      rfl
    | true =>
      have h0 := h1.2 hl
      obtain ⟨g1, c, g2, g3⟩ := cyc_is hg h0
      have h6 : (m.filter (con m)).length ≠ 0 := fun e => by rw [h2.1 e] at hl; cases hl
      exact .inr ⟨c, cycM m (keys l), m.filter (con m), by rw [cp_yes hg, decide_eq_true h0], by rw [h3, hl]; rfl, con_yes hg, by omega, ⟨g1, g2, fun i x hx => by
        obtain ⟨k1, y, k2, k3⟩ := g3 i x hx
        exact ⟨k1, y, k2, rel_any k3⟩⟩⟩
set_option maxRecDepth 100000 in
set_option maxHeartbeats 16000000 in
theorem walk (a : Option Addr) (len cap : Nat) (zs : List Int) (w : World) (h : LawC.IsRow .u8 w a len cap zs) :
    Calls Try.prog 3 #[.slice a len cap] w fun e w' => e = .returned (.bool true) ∧ Below w.heap.size w w' := by
  have HRow := Lib.hid h
  clear h
  go_enter Try.func3, Try.ntmps3
  go_wp2_with fail
  refine (LawC.vBig_any a len cap w).mono ?_
  rintro e w1 ⟨rfl, rfl⟩
  by_cases hl : 65536 < (len : Int)
  · rw [decide_eq_true hl]
    go_wp2_with fail
    go_ret
    exact ⟨rfl, Below.refl _ _⟩
  · rw [decide_eq_false hl]
    have HC := Lib.hid (LawC.code_of HRow.out (by omega))
    go_wp2_with fail
    refine (drawCycle_any a len cap w HC.out).mono ?_
    rintro e w1 ⟨p1, n1, d1, p2, n2, d2, l, m, rfl, hd⟩
    have hf1 := hd.few1
    have hf2 := hd.few2
    have hc1 := hd.cap1
    have hc2 := hd.cap2
    have hb1 := below_alloc w1 (.cells #[.slice p1 n1 d1, .slice p2 n2 d2] 27)
    have HR1 := Lib.hid ((holds_own hd.ctx).below hb1)
    have HR2 := Lib.hid ((holds_own hd.rel).below hb1)
    have HBV := Lib.hid (hd.bel.trans (hb1.mono hd.bel.size))
    have hbk : (w1.alloc (.cells #[.slice p1 n1 d1, .slice p2 n2 d2] 27)).heap[w1.heap.size]? = some (.cells #[.slice p1 n1 d1, .slice p2 n2 d2] 27) := heap_alloc_new w1 _
    have hbx : ∀ X, Below (w1.alloc (.cells #[.slice p1 n1 d1, .slice p2 n2 d2] 27)).heap.size (w1.alloc (.cells #[.slice p1 n1 d1, .slice p2 n2 d2] 27)) X → X.cell? ⟨w1.heap.size, 0, none⟩ = some (.slice p1 n1 d1) ∧ X.cell? ⟨w1.heap.size, 1, none⟩ = some (.slice p2 n2 d2) := fun X hX => by
      have hb := (hX.block w1.heap.size (by simp)).trans hbk
      exact ⟨by simp [World.cell?, hb], by simp [World.cell?, hb]⟩
    obtain ⟨s01, s02⟩ := hbx _ (Below.refl _ _)
    have HBX := Lib.hid hbx
    clear hbx hbk hb1 hd
    go_upto_region 4 with fail
    generalize w1.alloc (.cells #[.slice p1 n1 d1, .slice p2 n2 d2] 27) = V at *
    rcases answers l m with ⟨hgd, hcy, hfi, hco⟩ | ⟨hgd, ⟨hcy, hfi, hco⟩ | ⟨c, C, K, hcy, hfi, hco, hK, hC⟩⟩
    · clear hl
      have HCy : Hid (∀ W, Holds W p1 n1 l → Holds W p2 n2 m → Calls Try.prog 11 #[.agg #[.slice p1 n1 d1, .slice p2 n2 d2]] W fun e w' => ∃ (p : Option Addr) (k d : Nat), e = .returned (.tuple #[.slice p k d, .bool false, .bool false]) ∧ w'.ownsRow W.heap.size 3 1 (.slice p k d) k (ints []) ∧ k ≤ 1048576 ∧ Below W.heap.size W w') := fun W h1 h2 => by
        have h : Calls _ _ _ W (GivesC.Res (cycP l m) W) := CycI.impl_cap p1 p2 n1 d1 n2 d2 l m W hc1 hc2 (by omega) (by omega) h1 h2
        rw [hcy] at h
        exact h
      have HFi : Hid (∀ W, Holds W p1 n1 l → Holds W p2 n2 m → Calls Try.prog 12 #[.agg #[.slice p1 n1 d1, .slice p2 n2 d2]] W fun e w' => e = .returned (.tuple #[.bool false, .bool false]) ∧ Below W.heap.size W w') := fun W h1 h2 => by
        have h := Consist.impl_any p1 p2 n1 d1 n2 d2 l m W (by omega) (by omega) h1 h2
        rw [hfi] at h
        exact h
      have HCo : Hid (∀ W, Holds W p1 n1 l → Holds W p2 n2 m → Calls Try.prog 13 #[.agg #[.slice p1 n1 d1, .slice p2 n2 d2]] W fun e w' => ∃ (p : Option Addr) (k d : Nat), e = .returned (.tuple #[.slice p k d, .bool false]) ∧ w'.ownsRow W.heap.size 39 2 (.slice p k d) k (flat []) ∧ k ≤ 1048576 ∧ Below W.heap.size W w') := fun W h1 h2 => by
        have h : Calls _ _ _ W (GivesS.Res (conP l m).isSome ((conP l m).getD []) W) := ConI.impl_cap p1 p2 n1 d1 n2 d2 l m W hc1 hc2 (by omega) (by omega) h1 h2
        rw [hco] at h
        exact h
      have HVa : Hid (∀ W, Holds W p1 n1 l → Holds W p2 n2 m → Calls Try.prog 14 #[.agg #[.slice p1 n1 d1, .slice p2 n2 d2]] W fun e w' => e = .returned (.bool false) ∧ Below W.heap.size W w') := fun W h1 h2 => by
        have h := ValS.valid_any p1 p2 n1 d1 n2 d2 l m W (by omega) (by omega) h1 h2
        rw [hgd] at h
        exact h
      clear hcy hfi hco hgd
      go_wp2_with fail
      refine (HCy.out V HR1.out HR2.out).mono ?_
      rintro e w2 ⟨pc, kc, dc, rfl, hown, hkc, b2⟩
      have HO2 := Lib.hid (GivesI.holds_own hown)
      have hlc := hown.1
      rw [ints_len] at hlc
      obtain ⟨s1, s2⟩ := HBX.out w2 b2
      have HB2 := Lib.hid b2
      clear hown b2 s01 s02
      go_wp2_with fail
      refine (HFi.out w2 (HR1.out.below HB2.out) (HR2.out.below HB2.out)).mono ?_
      rintro e w3 ⟨rfl, b3⟩
      have HO3 := Lib.hid (HO2.out.below b3)
      have HB3 := Lib.hid (HB2.out.trans (b3.mono HB2.out.size))
      obtain ⟨s31, s32⟩ := HBX.out w3 HB3.out
      clear b3 s1 s2
      go_wp2_with fail
      refine (HCo.out w3 (HR1.out.below HB3.out) (HR2.out.below HB3.out)).mono ?_
      rintro e w4 ⟨pb, kb, db, rfl, hown, hkb, b4⟩
      have hlb := hown.1
      rw [flat_len] at hlb
      have HO4 := Lib.hid (HO3.out.below b4)
      have HB4 := Lib.hid (HB3.out.trans (b4.mono HB3.out.size))
      obtain ⟨s41, s42⟩ := HBX.out w4 HB4.out
      clear b4 s31 s32 hown
      go_wp2_with fail
      refine (HVa.out w4 (HR1.out.below HB4.out) (HR2.out.below HB4.out)).mono ?_
      rintro e w5 ⟨rfl, b5⟩
      have HO5 := Lib.hid (HO4.out.below b5)
      have HB5 := Lib.hid (HB4.out.trans (b5.mono HB4.out.size))
      obtain ⟨s51, s52⟩ := HBX.out w5 HB5.out
      clear b5 s41 s42
      obtain rfl : kc = 0 := by simpa using hlc.symm
      go_wp2_with fail
      go_ret
      exact ⟨rfl, HBV.out.trans (HB5.out.mono HBV.out.size)⟩
    · clear hl
      have HCy : Hid (∀ W, Holds W p1 n1 l → Holds W p2 n2 m → Calls Try.prog 11 #[.agg #[.slice p1 n1 d1, .slice p2 n2 d2]] W fun e w' => ∃ (p : Option Addr) (k d : Nat), e = .returned (.tuple #[.slice p k d, .bool false, .bool true]) ∧ w'.ownsRow W.heap.size 3 1 (.slice p k d) k (ints []) ∧ k ≤ 1048576 ∧ Below W.heap.size W w') := fun W h1 h2 => by
        have h : Calls _ _ _ W (GivesC.Res (cycP l m) W) := CycI.impl_cap p1 p2 n1 d1 n2 d2 l m W hc1 hc2 (by omega) (by omega) h1 h2
        rw [hcy] at h
        exact h
      have HFi : Hid (∀ W, Holds W p1 n1 l → Holds W p2 n2 m → Calls Try.prog 12 #[.agg #[.slice p1 n1 d1, .slice p2 n2 d2]] W fun e w' => e = .returned (.tuple #[.bool true, .bool true]) ∧ Below W.heap.size W w') := fun W h1 h2 => by
        have h := Consist.impl_any p1 p2 n1 d1 n2 d2 l m W (by omega) (by omega) h1 h2
        rw [hfi] at h
        exact h
      have HCo : Hid (∀ W, Holds W p1 n1 l → Holds W p2 n2 m → Calls Try.prog 13 #[.agg #[.slice p1 n1 d1, .slice p2 n2 d2]] W fun e w' => ∃ (p : Option Addr) (k d : Nat), e = .returned (.tuple #[.slice p k d, .bool true]) ∧ w'.ownsRow W.heap.size 39 2 (.slice p k d) k (flat []) ∧ k ≤ 1048576 ∧ Below W.heap.size W w') := fun W h1 h2 => by
        have h : Calls _ _ _ W (GivesS.Res (conP l m).isSome ((conP l m).getD []) W) := ConI.impl_cap p1 p2 n1 d1 n2 d2 l m W hc1 hc2 (by omega) (by omega) h1 h2
        rw [hco] at h
        exact h
      have HVa : Hid (∀ W, Holds W p1 n1 l → Holds W p2 n2 m → Calls Try.prog 14 #[.agg #[.slice p1 n1 d1, .slice p2 n2 d2]] W fun e w' => e = .returned (.bool true) ∧ Below W.heap.size W w') := fun W h1 h2 => by
        have h := ValS.valid_any p1 p2 n1 d1 n2 d2 l m W (by omega) (by omega) h1 h2
        rw [hgd] at h
        exact h
      clear hcy hfi hco hgd
      go_wp2_with fail
      refine (HCy.out V HR1.out HR2.out).mono ?_
      rintro e w2 ⟨pc, kc, dc, rfl, hown, hkc, b2⟩
      have HO2 := Lib.hid (GivesI.holds_own hown)
      have hlc := hown.1
      rw [ints_len] at hlc
      obtain ⟨s1, s2⟩ := HBX.out w2 b2
      have HB2 := Lib.hid b2
      clear hown b2 s01 s02
      go_wp2_with fail
      refine (HFi.out w2 (HR1.out.below HB2.out) (HR2.out.below HB2.out)).mono ?_
      rintro e w3 ⟨rfl, b3⟩
      have HO3 := Lib.hid (HO2.out.below b3)
      have HB3 := Lib.hid (HB2.out.trans (b3.mono HB2.out.size))
      obtain ⟨s31, s32⟩ := HBX.out w3 HB3.out
      clear b3 s1 s2
      go_wp2_with fail
      refine (HCo.out w3 (HR1.out.below HB3.out) (HR2.out.below HB3.out)).mono ?_
      rintro e w4 ⟨pb, kb, db, rfl, hown, hkb, b4⟩
      have hlb := hown.1
      rw [flat_len] at hlb
      have HO4 := Lib.hid (HO3.out.below b4)
      have HB4 := Lib.hid (HB3.out.trans (b4.mono HB3.out.size))
      obtain ⟨s41, s42⟩ := HBX.out w4 HB4.out
      clear b4 s31 s32 hown
      go_wp2_with fail
      refine (HVa.out w4 (HR1.out.below HB4.out) (HR2.out.below HB4.out)).mono ?_
      rintro e w5 ⟨rfl, b5⟩
      have HO5 := Lib.hid (HO4.out.below b5)
      have HB5 := Lib.hid (HB4.out.trans (b5.mono HB4.out.size))
      obtain ⟨s51, s52⟩ := HBX.out w5 HB5.out
      clear b5 s41 s42
      obtain rfl : kc = 0 := by simpa using hlc.symm
      obtain rfl : kb = 0 := by simp at hlb; omega
      go_wp2_with fail
      go_loopw [11] (fun s11 wr => s11 = .int .i64 0 ∧ wr = w5) (fun _ _ => 0)
      case atStart => exact ⟨rfl, rfl⟩
      case round =>
        obtain ⟨rfl, rfl⟩ := hrel
        go_wp2_with fail
        go_ret
        exact ⟨rfl, HBV.out.trans (HB5.out.mono HBV.out.size)⟩
    · clear hl
      have HCH := Lib.hid hC
      have HKL := Lib.hid hK
      clear hC hK
      have HCy : Hid (∀ W, Holds W p1 n1 l → Holds W p2 n2 m → Calls Try.prog 11 #[.agg #[.slice p1 n1 d1, .slice p2 n2 d2]] W fun e w' => ∃ (p : Option Addr) (k d : Nat), e = .returned (.tuple #[.slice p k d, .bool true, .bool true]) ∧ w'.ownsRow W.heap.size 3 1 (.slice p k d) k (ints C) ∧ k ≤ 1048576 ∧ Below W.heap.size W w') := fun W h1 h2 => by
        have h : Calls _ _ _ W (GivesC.Res (cycP l m) W) := CycI.impl_cap p1 p2 n1 d1 n2 d2 l m W hc1 hc2 (by omega) (by omega) h1 h2
        rw [hcy] at h
        exact h
      have HFi : Hid (∀ W, Holds W p1 n1 l → Holds W p2 n2 m → Calls Try.prog 12 #[.agg #[.slice p1 n1 d1, .slice p2 n2 d2]] W fun e w' => e = .returned (.tuple #[.bool false, .bool true]) ∧ Below W.heap.size W w') := fun W h1 h2 => by
        have h := Consist.impl_any p1 p2 n1 d1 n2 d2 l m W (by omega) (by omega) h1 h2
        rw [hfi] at h
        exact h
      have HCo : Hid (∀ W, Holds W p1 n1 l → Holds W p2 n2 m → Calls Try.prog 13 #[.agg #[.slice p1 n1 d1, .slice p2 n2 d2]] W fun e w' => ∃ (p : Option Addr) (k d : Nat), e = .returned (.tuple #[.slice p k d, .bool true]) ∧ w'.ownsRow W.heap.size 39 2 (.slice p k d) k (flat K) ∧ k ≤ 1048576 ∧ Below W.heap.size W w') := fun W h1 h2 => by
        have h : Calls _ _ _ W (GivesS.Res (conP l m).isSome ((conP l m).getD []) W) := ConI.impl_cap p1 p2 n1 d1 n2 d2 l m W hc1 hc2 (by omega) (by omega) h1 h2
        rw [hco] at h
        exact h
      have HVa : Hid (∀ W, Holds W p1 n1 l → Holds W p2 n2 m → Calls Try.prog 14 #[.agg #[.slice p1 n1 d1, .slice p2 n2 d2]] W fun e w' => e = .returned (.bool true) ∧ Below W.heap.size W w') := fun W h1 h2 => by
        have h := ValS.valid_any p1 p2 n1 d1 n2 d2 l m W (by omega) (by omega) h1 h2
        rw [hgd] at h
        exact h
      clear hcy hfi hco hgd
      go_wp2_with fail
      refine (HCy.out V HR1.out HR2.out).mono ?_
      rintro e w2 ⟨pc, kc, dc, rfl, hown, hkc, b2⟩
      have HO2 := Lib.hid (GivesI.holds_own hown)
      have hlc := hown.1
      rw [ints_len] at hlc
      obtain ⟨s1, s2⟩ := HBX.out w2 b2
      have HB2 := Lib.hid b2
      clear hown b2 s01 s02
      go_wp2_with fail
      refine (HFi.out w2 (HR1.out.below HB2.out) (HR2.out.below HB2.out)).mono ?_
      rintro e w3 ⟨rfl, b3⟩
      have HO3 := Lib.hid (HO2.out.below b3)
      have HB3 := Lib.hid (HB2.out.trans (b3.mono HB2.out.size))
      obtain ⟨s31, s32⟩ := HBX.out w3 HB3.out
      clear b3 s1 s2
      go_wp2_with fail
      refine (HCo.out w3 (HR1.out.below HB3.out) (HR2.out.below HB3.out)).mono ?_
      rintro e w4 ⟨pb, kb, db, rfl, hown, hkb, b4⟩
      have hlb := hown.1
      rw [flat_len] at hlb
      have HO4 := Lib.hid (HO3.out.below b4)
      have HB4 := Lib.hid (HB3.out.trans (b4.mono HB3.out.size))
      obtain ⟨s41, s42⟩ := HBX.out w4 HB4.out
      clear b4 s31 s32 hown
      go_wp2_with fail
      refine (HVa.out w4 (HR1.out.below HB4.out) (HR2.out.below HB4.out)).mono ?_
      rintro e w5 ⟨rfl, b5⟩
      have HO5 := Lib.hid (HO4.out.below b5)
      have HB5 := Lib.hid (HB4.out.trans (b5.mono HB4.out.size))
      obtain ⟨s51, s52⟩ := HBX.out w5 HB5.out
      clear b5 s41 s42
      have hk2 : 1 < kc := by have := HCH.out.two; omega
      have hk2i : (1 : Int) < (kc : Int) := by omega
      have hkb0 : 0 < kb := by have := HKL.out; omega
      have hkbn : ((kb : Int) == 0) = false := by rw [beq_eq_false_iff_ne]; omega
      obtain ⟨b, off, x0, hpc, hx0, e0⟩ := HO5.out.at 0 (by omega)
      subst hpc
      have hxx : x0 = c := by have := HCH.out.fst; rw [this] at hx0; injection hx0 with hx0; exact hx0.symm
      subst hxx
      clear e0 hx0
      have HKC := Lib.hid (show C.length = kc by omega)
      clear hlc hlb
      go_wp2_with fail
      go_loopw [11] (fun s11 wr => ∃ i : Nat, i ≤ kc ∧ s11 = .int .i64 i ∧ Hid (Below V.heap.size V wr) ∧ Hid (HoldsI wr (some ⟨b, off, none⟩) kc C)) (fun s11 _ => kc - (intOf s11).toNat)
      case atStart => exact ⟨0, by omega, rfl, HB5, HO5⟩
      case round =>
        clear s51 s52 HO5 HB5
        obtain ⟨i, hik, rfl, HBr, HOr⟩ := hrel
        by_cases hlt : i < kc
        · have hii : (i : Int) < (kc : Int) := by omega
          have hi00 : (0 : Int) ≤ (i : Int) := by omega
          have hkc00 : (0 : Int) < (kc : Int) := by omega
          obtain ⟨j, hj⟩ : ∃ j, (i + 1) % kc = j := ⟨_, rfl⟩
          have hjk : j < kc := by rw [← hj]; exact Nat.mod_lt _ (by omega)
          have hji : (j : Int) < (kc : Int) := by omega
          have hj0 : (0 : Int) ≤ (j : Int) := by omega
          have HOd := Lib.hid (HOr.out.below ((Below.refl _ _).drew))
          have HBd := Lib.hid (HBr.out.trans (((Below.refl wr.heap.size wr).drew).mono HBr.out.size))
          obtain ⟨b1, off1, u, q1, hu, e1⟩ := HOd.out.at i hlt
          obtain ⟨b2, off2, v, q2, hv, e2⟩ := HOd.out.at j hjk
          injection q1 with q1
          injection q1 with q11 q12
          subst q11 q12
          injection q2 with q2
          injection q2 with q21 q22
          subst q21 q22
          have hcu : x0 ≤ u ∧ (m.any fun p => p.1 == u && p.2 == v) = true := by
            obtain ⟨k1, y, k2, k3⟩ := HCH.out.rel i u hu
            rw [HKC.out, hj, hv] at k2
            injection k2 with k2
            subst k2
            exact ⟨k1, k3⟩
          have HT := Lib.hid hcu.2
          have hnlt : ¬ u < x0 := by omega
          have HU := Lib.hid hu
          clear hu hv hcu
          obtain ⟨s91, s92⟩ := HBX.out wr.drew HBd.out
          have hrem : Int.tmod ((i : Int) + 1) (kc : Int) = (j : Int) := by rw [← hj]; rfl
          have hkcn : ¬ kc = 0 := by omega
          have hkcp : 0 < kc := by omega
          have hwi : IntKind.i64.wrap ((i : Int) + 1) = (i : Int) + 1 := by rw [IntKind.wrap_i64]; omega
          go_upto_region 16 with fail
          (go_region_law (first
            | (go_simp; go_at_call 15; refine (related_any p1 p2 n1 d1 n2 d2 m u v wr.drew (by omega) (HR2.out.below HBd.out)).mono ?_; rintro e w9 ⟨rfl, b9⟩; rw [HT.out]; have HO9 := Lib.hid (HOd.out.below b9); have HB9 := Lib.hid (HBd.out.trans (b9.mono HBd.out.size)); clear b9; obtain ⟨b3, off3, u3, q3, hu3, e3⟩ := HO9.out.at i hlt; obtain ⟨b4, off4, v4, q4, hv4, e4⟩ := HO9.out.at 0 (by omega); injection q3 with q3; injection q3 with q31 q32; subst q31 q32; injection q4 with q4; injection q4 with q41 q42; subst q41 q42; rw [HU.out] at hu3; injection hu3 with hu3; subst hu3; rw [HCH.out.fst] at hv4; injection hv4 with hv4; subst hv4; rw [Nat.add_zero] at e4)))
          all_goals go_wp2_with fail
          all_goals exact ⟨⟨i + 1, by omega, by go_num, HB9, HO9⟩, by simp [intOf]; omega⟩
        · obtain rfl : i = kc := by omega
          have hii : ¬ (i : Int) < (i : Int) := by omega
          go_wp2_with fail
          go_ret
          exact ⟨rfl, HBV.out.trans (HBr.out.mono HBV.out.size)⟩
theorem said : Rows.FnCycleSaid := FFnCycle.over walk
#print axioms said
end Go.Proofs.Ythcjembekadijaa.LFnCycle
