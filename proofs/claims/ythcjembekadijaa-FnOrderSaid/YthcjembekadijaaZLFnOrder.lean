/- FnOrder: at every code the law returns true (a code of more than 65536 bytes at once), and what was there before is left as it was. No condition. -/
import Derived.Test.YthcjembekadijaaOrderSaidPartaa
import Derived.Test.YthcjembekadijaaOrderSaidPartal
import Derived.Test.YthcjembekadijaaOrderSaidPartba
import Derived.Test.YthcjembekadijaaOrderSaidPartbh
import Derived.Test.YthcjembekadijaaOrderSaidPartbl
import Derived.Test.YthcjembekadijaaOrderSaidPartbc
import Derived.Test.YthcjembekadijaaOrderSaidPartbm
namespace Go.Proofs.Ythcjembekadijaa.LFnOrder
open Go.RowKit Cur Pairs Rec Chain Find2 GoodM Keep GivesI That IsLater Drw DrwC DrwR DrwP LawH ScM
theorem sel_has (q : Int → Bool) {l : Ps} {x : Int} (hx : x ∈ keys l) : ((That.sel q l).any fun y => y == x) = q x := by
  rw [Bool.eq_iff_iff, List.any_eq_true]
  constructor
  · rintro ⟨y, hy, e⟩
    rw [beq_iff_eq] at e
    subst e
    unfold That.sel at hy
    obtain ⟨p, hp, rfl⟩ := List.mem_map.1 hy
    exact (List.mem_filter.1 hp).2
  · intro h
    obtain ⟨p, hp, rfl⟩ := List.mem_map.1 hx
    exact ⟨p.1, List.mem_map.2 ⟨p, List.mem_filter.2 ⟨hp, h⟩, rfl⟩, by simp⟩
/-- What the law asks of a chain. -/
structure IsChn (m : Ps) (a b : Int) (C : List Int) : Prop where
  two : 1 < C.length
  fst : C[0]? = some a
  lst : C[C.length - 1]? = some b
  rel : ∀ (i : Nat) (x y : Int), C[i]? = some x → C[i + 1]? = some y → (m.any fun p => p.1 == x && p.2 == y) = true
theorem rel_any {m : Ps} {x y : Int} (h : (x, y) ∈ m) : (m.any fun p => p.1 == x && p.2 == y) = true := List.any_eq_true.2 ⟨(x, y), h, by simp⟩
/-- The answers, part by part. -/
theorem answers (x y : Int) (l m : Ps) : (has2 l m x y = false ∧ ScP.scP x y l m = (false, false, []) ∧ latP x y l m = (false, false)) ∨
    (LaterCtxI.ctxs y l m = some (That.sel (fun z => later m z y) l) ∧ EarlierCtxI.ctxs x l m = some (That.sel (fun z => later m x z) l) ∧ x ∈ keys l ∧ y ∈ keys l ∧
      (later m x y = false ∧ ScP.scP x y l m = (false, true, []) ∧ latP x y l m = (false, true) ∨ later m x y = true ∧ ∃ C, ScP.scP x y l m = (true, true, C) ∧ latP x y l m = (true, true) ∧ IsChn m x y C)) := by
  cases hh : has2 l m x y with
  | false => exact .inl ⟨rfl, ScP.sc_no hh, latP_no hh⟩
  | true =>
    obtain ⟨hg, ⟨i, hi⟩, j, hj⟩ := has2_iff.1 hh
    refine .inr ⟨LaterCtxI.ctxs_some hg (by rw [hj]; rfl), EarlierCtxI.ctxs_some hg (by rw [hi]; rfl), at_keys hi, at_keys hj, ?_⟩
    have hc := ChnL.chain_later hg x y
    cases hl : later m x y with
    | false =>
      refine .inl ⟨rfl, ?_, by rw [latP_yes hh, hl]⟩
      have h0 : ¬ 0 < (chainP m x y).length := fun h => by rw [hc.1 h] at hl; cases hl
      have h1 : chainP m x y = [] := List.length_eq_zero_iff.1 (by omega)
      rw [ScP.sc_yes hh, h1]
      rfl
    | true =>
      have h0 := hc.2 hl
      obtain ⟨g1, g2, g3, g4⟩ := ChnL.chain_is hg h0
      exact .inr ⟨rfl, chainP m x y, by rw [ScP.sc_yes hh, decide_eq_true h0], by rw [latP_yes hh, hl], ⟨g1, g2, g3, fun i u v hu hv => rel_any (g4 i u v hu hv)⟩⟩
set_option maxRecDepth 100000 in
set_option maxHeartbeats 16000000 in
theorem walk (a : Option Addr) (len cap : Nat) (zs : List Int) (w : World) (h : LawC.IsRow .u8 w a len cap zs) :
    Calls Try.prog 5 #[.slice a len cap] w fun e w' => e = .returned (.bool true) ∧ Below w.heap.size w w' := by
  have HRow := Lib.hid h
  clear h
  go_enter Try.func5, Try.ntmps5
  go_wp2_with fail
  refine (LawC.vBig_any a len cap w).mono ?_
  rintro e w1 ⟨rfl, rfl⟩
  by_cases hl : 65536 < (len : Int)
  · rw [decide_eq_true hl]
    go_wp2_with fail
    go_ret
    exact ⟨rfl, Below.refl _ _⟩
  · rw [decide_eq_false hl]
    have HC := Lib.hid (LawC.code_of HRow.out (by omega))
    go_wp2_with fail
    refine (drawShortestChain_any a len cap w HC.out).mono ?_
    rintro e w1 ⟨p1, n1, d1, p2, n2, d2, l, m, x, y, rfl, hd⟩
    have hf1 := hd.few1
    have hf2 := hd.few2
    have hb1 := below_alloc w1 (.cells #[.slice p1 n1 d1, .slice p2 n2 d2] 27)
    have HR1 := Lib.hid ((holds_own hd.ctx).below hb1)
    have HR2 := Lib.hid ((holds_own hd.rel).below hb1)
    have HBV := Lib.hid (hd.bel.trans (hb1.mono hd.bel.size))
    have hbk : (w1.alloc (.cells #[.slice p1 n1 d1, .slice p2 n2 d2] 27)).heap[w1.heap.size]? = some (.cells #[.slice p1 n1 d1, .slice p2 n2 d2] 27) := heap_alloc_new w1 _
    have hbx : ∀ X, Below (w1.alloc (.cells #[.slice p1 n1 d1, .slice p2 n2 d2] 27)).heap.size (w1.alloc (.cells #[.slice p1 n1 d1, .slice p2 n2 d2] 27)) X → X.cell? ⟨w1.heap.size, 0, none⟩ = some (.slice p1 n1 d1) ∧ X.cell? ⟨w1.heap.size, 1, none⟩ = some (.slice p2 n2 d2) := fun X hX => by
      have hb := (hX.block w1.heap.size (by simp)).trans hbk
      exact ⟨by simp [World.cell?, hb], by simp [World.cell?, hb]⟩
    obtain ⟨s01, s02⟩ := hbx _ (Below.refl _ _)
    have HBX := Lib.hid hbx
    clear hbx hbk hb1 hd
    go_upto_region 4 with fail
    generalize w1.alloc (.cells #[.slice p1 n1 d1, .slice p2 n2 d2] 27) = V at *
    rcases answers x y l m with ⟨_, hsc, hla⟩ | ⟨hup, hdn, hkx, hky, ⟨hlat, hsc, hla⟩ | ⟨hlat, C, hsc, hla, hC⟩⟩
    · clear hl
      have HSc : Hid (∀ W, Holds W p1 n1 l → Holds W p2 n2 m → Calls Try.prog 23 #[.agg #[.slice p1 n1 d1, .slice p2 n2 d2], .int .i64 x, .int .i64 y] W fun e w' => ∃ (p : Option Addr) (k d : Nat), e = .returned (.tuple #[.slice p k d, .bool false, .bool false]) ∧ w'.ownsRow W.heap.size 3 1 (.slice p k d) k (ints []) ∧ k ≤ 1048576 ∧ Below W.heap.size W w') := fun W h1 h2 => by
        have h := ScP.impl_cap x y p1 p2 n1 d1 n2 d2 l m W (by omega) (by omega) h1 h2
        rw [hsc] at h
        exact h
      have HIl : Hid (∀ W, Holds W p1 n1 l → Holds W p2 n2 m → Calls Try.prog 21 #[.agg #[.slice p1 n1 d1, .slice p2 n2 d2], .int .i64 x, .int .i64 y] W fun e w' => e = .returned (.tuple #[.bool false, .bool false]) ∧ Below W.heap.size W w') := fun W h1 h2 => by
        have h := IsLater.impl_any x y p1 p2 n1 d1 n2 d2 l m W (by omega) (by omega) h1 h2
        rw [hla] at h
        exact h
      have HSl : Hid (∀ W, Holds W p1 n1 l → Holds W p2 n2 m → Calls Try.prog 24 #[.agg #[.slice p1 n1 d1, .slice p2 n2 d2], .int .i64 x, .int .i64 y] W fun e w' => e = .returned (.tuple #[.bool false, .bool false]) ∧ Below W.heap.size W w') := fun W h1 h2 => by
        have h := IsLater.spec_any x y p1 p2 n1 d1 n2 d2 l m W (by omega) (by omega) h1 h2
        rw [hla] at h
        exact h
      clear hsc hla
      go_wp2_with fail
      refine (HSc.out V HR1.out HR2.out).mono ?_
      rintro e w2 ⟨pc, kc, dc, rfl, hown, hkc, b2⟩
      have HO2 := Lib.hid (GivesI.holds_own hown)
      have hlc := hown.1
      rw [ints_len] at hlc
      obtain ⟨s1, s2⟩ := HBX.out w2 b2
      have HB2 := Lib.hid b2
      clear hown b2 s01 s02
      go_wp2_with fail
      refine (HIl.out w2 (HR1.out.below HB2.out) (HR2.out.below HB2.out)).mono ?_
      rintro e w3 ⟨rfl, b3⟩
      have HO3 := Lib.hid (HO2.out.below b3)
      have HB3 := Lib.hid (HB2.out.trans (b3.mono HB2.out.size))
      obtain ⟨s31, s32⟩ := HBX.out w3 HB3.out
      clear b3 s1 s2
      go_wp2_with fail
      refine (HSl.out w3 (HR1.out.below HB3.out) (HR2.out.below HB3.out)).mono ?_
      rintro e w4 ⟨rfl, b4⟩
      have HO4 := Lib.hid (HO3.out.below b4)
      have HB4 := Lib.hid (HB3.out.trans (b4.mono HB3.out.size))
      obtain ⟨s41, s42⟩ := HBX.out w4 HB4.out
      clear b4 s31 s32
      obtain rfl : kc = 0 := by simpa using hlc.symm
      go_wp2_with fail
      go_ret
      exact ⟨rfl, HBV.out.trans (HB4.out.mono HBV.out.size)⟩
    · clear hl
      have HSc : Hid (∀ W, Holds W p1 n1 l → Holds W p2 n2 m → Calls Try.prog 23 #[.agg #[.slice p1 n1 d1, .slice p2 n2 d2], .int .i64 x, .int .i64 y] W fun e w' => ∃ (p : Option Addr) (k d : Nat), e = .returned (.tuple #[.slice p k d, .bool false, .bool true]) ∧ w'.ownsRow W.heap.size 3 1 (.slice p k d) k (ints []) ∧ k ≤ 1048576 ∧ Below W.heap.size W w') := fun W h1 h2 => by
        have h := ScP.impl_cap x y p1 p2 n1 d1 n2 d2 l m W (by omega) (by omega) h1 h2
        rw [hsc] at h
        exact h
      have HIl : Hid (∀ W, Holds W p1 n1 l → Holds W p2 n2 m → Calls Try.prog 21 #[.agg #[.slice p1 n1 d1, .slice p2 n2 d2], .int .i64 x, .int .i64 y] W fun e w' => e = .returned (.tuple #[.bool false, .bool true]) ∧ Below W.heap.size W w') := fun W h1 h2 => by
        have h := IsLater.impl_any x y p1 p2 n1 d1 n2 d2 l m W (by omega) (by omega) h1 h2
        rw [hla] at h
        exact h
      have HSl : Hid (∀ W, Holds W p1 n1 l → Holds W p2 n2 m → Calls Try.prog 24 #[.agg #[.slice p1 n1 d1, .slice p2 n2 d2], .int .i64 x, .int .i64 y] W fun e w' => e = .returned (.tuple #[.bool false, .bool true]) ∧ Below W.heap.size W w') := fun W h1 h2 => by
        have h := IsLater.spec_any x y p1 p2 n1 d1 n2 d2 l m W (by omega) (by omega) h1 h2
        rw [hla] at h
        exact h
      clear hsc hla
      go_wp2_with fail
      refine (HSc.out V HR1.out HR2.out).mono ?_
      rintro e w2 ⟨pc, kc, dc, rfl, hown, hkc, b2⟩
      have HO2 := Lib.hid (GivesI.holds_own hown)
      have hlc := hown.1
      rw [ints_len] at hlc
      obtain ⟨s1, s2⟩ := HBX.out w2 b2
      have HB2 := Lib.hid b2
      clear hown b2 s01 s02
      go_wp2_with fail
      refine (HIl.out w2 (HR1.out.below HB2.out) (HR2.out.below HB2.out)).mono ?_
      rintro e w3 ⟨rfl, b3⟩
      have HO3 := Lib.hid (HO2.out.below b3)
      have HB3 := Lib.hid (HB2.out.trans (b3.mono HB2.out.size))
      obtain ⟨s31, s32⟩ := HBX.out w3 HB3.out
      clear b3 s1 s2
      go_wp2_with fail
      refine (HSl.out w3 (HR1.out.below HB3.out) (HR2.out.below HB3.out)).mono ?_
      rintro e w4 ⟨rfl, b4⟩
      have HO4 := Lib.hid (HO3.out.below b4)
      have HB4 := Lib.hid (HB3.out.trans (b4.mono HB3.out.size))
      obtain ⟨s41, s42⟩ := HBX.out w4 HB4.out
      clear b4 s31 s32
      have HU : Hid (∀ W, Holds W p1 n1 l → Holds W p2 n2 m → Calls Try.prog 25 #[.agg #[.slice p1 n1 d1, .slice p2 n2 d2], .int .i64 y] W fun e w' => ∃ (p : Option Addr) (k d : Nat), e = .returned (.tuple #[.slice p k d, .bool true]) ∧ w'.ownsRow W.heap.size 3 1 (.slice p k d) k (ints (That.sel (fun z => later m z y) l)) ∧ k ≤ 1048576 ∧ Below W.heap.size W w') := fun W h1 h2 => by
        have h := LaterCtxI.impl_any y p1 p2 n1 d1 n2 d2 l m W (by omega) (by omega) h1 h2
        rw [hup] at h
        exact h
      have HDn : Hid (∀ W, Holds W p1 n1 l → Holds W p2 n2 m → Calls Try.prog 26 #[.agg #[.slice p1 n1 d1, .slice p2 n2 d2], .int .i64 x] W fun e w' => ∃ (p : Option Addr) (k d : Nat), e = .returned (.tuple #[.slice p k d, .bool true]) ∧ w'.ownsRow W.heap.size 3 1 (.slice p k d) k (ints (That.sel (fun z => later m x z) l)) ∧ k ≤ 1048576 ∧ Below W.heap.size W w') := fun W h1 h2 => by
        have h := EarlierCtxI.impl_any x p1 p2 n1 d1 n2 d2 l m W (by omega) (by omega) h1 h2
        rw [hdn] at h
        exact h
      have HA1 := Lib.hid ((sel_has (fun z => later m z y) hkx).trans hlat)
      have HA2 := Lib.hid ((sel_has (fun z => later m x z) hky).trans hlat)
      clear hup hdn hkx hky hlat
      go_wp2_with fail
      refine (HU.out w4 (HR1.out.below HB4.out) (HR2.out.below HB4.out)).mono ?_
      rintro e w5 ⟨pu, ku, du, rfl, hown, hku, b5⟩
      have HOU := Lib.hid (GivesI.holds_own hown)
      have HO5 := Lib.hid (HO4.out.below b5)
      have HB5 := Lib.hid (HB4.out.trans (b5.mono HB4.out.size))
      obtain ⟨s51, s52⟩ := HBX.out w5 HB5.out
      clear hown b5 s41 s42
      go_wp2_with fail
      refine (HDn.out w5 (HR1.out.below HB5.out) (HR2.out.below HB5.out)).mono ?_
      rintro e w6 ⟨pd, kd, dd, rfl, hown, hkd, b6⟩
      have HOD := Lib.hid (GivesI.holds_own hown)
      have HOU6 := Lib.hid (HOU.out.below b6)
      have HO6 := Lib.hid (HO5.out.below b6)
      have HB6 := Lib.hid (HB5.out.trans (b6.mono HB5.out.size))
      obtain ⟨s61, s62⟩ := HBX.out w6 HB6.out
      clear hown b6 s51 s52
      go_wp2_with fail
      refine (has_any pu ku du _ x w6 hku HOU6.out).mono ?_
      rintro e w7 ⟨rfl, b7⟩
      rw [HA1.out]
      have HOD7 := Lib.hid (HOD.out.below b7)
      have HO7 := Lib.hid (HO6.out.below b7)
      have HB7 := Lib.hid (HB6.out.trans (b7.mono HB6.out.size))
      obtain ⟨s71, s72⟩ := HBX.out w7 HB7.out
      clear b7 s61 s62
      go_wp2_with fail
      refine (has_any pd kd dd _ y w7 hkd HOD7.out).mono ?_
      rintro e w8 ⟨rfl, b8⟩
      rw [HA2.out]
      have HO8 := Lib.hid (HO7.out.below b8)
      have HB8 := Lib.hid (HB7.out.trans (b8.mono HB7.out.size))
      obtain ⟨s81, s82⟩ := HBX.out w8 HB8.out
      clear b8 s71 s72
      go_wp2_with fail
      go_ret
      exact ⟨rfl, HBV.out.trans (HB8.out.mono HBV.out.size)⟩
    · clear hl
      have HCH := Lib.hid hC
      clear hC
      have HSc : Hid (∀ W, Holds W p1 n1 l → Holds W p2 n2 m → Calls Try.prog 23 #[.agg #[.slice p1 n1 d1, .slice p2 n2 d2], .int .i64 x, .int .i64 y] W fun e w' => ∃ (p : Option Addr) (k d : Nat), e = .returned (.tuple #[.slice p k d, .bool true, .bool true]) ∧ w'.ownsRow W.heap.size 3 1 (.slice p k d) k (ints C) ∧ k ≤ 1048576 ∧ Below W.heap.size W w') := fun W h1 h2 => by
        have h := ScP.impl_cap x y p1 p2 n1 d1 n2 d2 l m W (by omega) (by omega) h1 h2
        rw [hsc] at h
        exact h
      have HIl : Hid (∀ W, Holds W p1 n1 l → Holds W p2 n2 m → Calls Try.prog 21 #[.agg #[.slice p1 n1 d1, .slice p2 n2 d2], .int .i64 x, .int .i64 y] W fun e w' => e = .returned (.tuple #[.bool true, .bool true]) ∧ Below W.heap.size W w') := fun W h1 h2 => by
        have h := IsLater.impl_any x y p1 p2 n1 d1 n2 d2 l m W (by omega) (by omega) h1 h2
        rw [hla] at h
        exact h
      have HSl : Hid (∀ W, Holds W p1 n1 l → Holds W p2 n2 m → Calls Try.prog 24 #[.agg #[.slice p1 n1 d1, .slice p2 n2 d2], .int .i64 x, .int .i64 y] W fun e w' => e = .returned (.tuple #[.bool true, .bool true]) ∧ Below W.heap.size W w') := fun W h1 h2 => by
        have h := IsLater.spec_any x y p1 p2 n1 d1 n2 d2 l m W (by omega) (by omega) h1 h2
        rw [hla] at h
        exact h
      clear hsc hla
      go_wp2_with fail
      refine (HSc.out V HR1.out HR2.out).mono ?_
      rintro e w2 ⟨pc, kc, dc, rfl, hown, hkc, b2⟩
      have HO2 := Lib.hid (GivesI.holds_own hown)
      have hlc := hown.1
      rw [ints_len] at hlc
      obtain ⟨s1, s2⟩ := HBX.out w2 b2
      have HB2 := Lib.hid b2
      clear hown b2 s01 s02
      go_wp2_with fail
      refine (HIl.out w2 (HR1.out.below HB2.out) (HR2.out.below HB2.out)).mono ?_
      rintro e w3 ⟨rfl, b3⟩
      have HO3 := Lib.hid (HO2.out.below b3)
      have HB3 := Lib.hid (HB2.out.trans (b3.mono HB2.out.size))
      obtain ⟨s31, s32⟩ := HBX.out w3 HB3.out
      clear b3 s1 s2
      go_wp2_with fail
      refine (HSl.out w3 (HR1.out.below HB3.out) (HR2.out.below HB3.out)).mono ?_
      rintro e w4 ⟨rfl, b4⟩
      have HO4 := Lib.hid (HO3.out.below b4)
      have HB4 := Lib.hid (HB3.out.trans (b4.mono HB3.out.size))
      obtain ⟨s41, s42⟩ := HBX.out w4 HB4.out
      clear b4 s31 s32
      have HU : Hid (∀ W, Holds W p1 n1 l → Holds W p2 n2 m → Calls Try.prog 25 #[.agg #[.slice p1 n1 d1, .slice p2 n2 d2], .int .i64 y] W fun e w' => ∃ (p : Option Addr) (k d : Nat), e = .returned (.tuple #[.slice p k d, .bool true]) ∧ w'.ownsRow W.heap.size 3 1 (.slice p k d) k (ints (That.sel (fun z => later m z y) l)) ∧ k ≤ 1048576 ∧ Below W.heap.size W w') := fun W h1 h2 => by
        have h := LaterCtxI.impl_any y p1 p2 n1 d1 n2 d2 l m W (by omega) (by omega) h1 h2
        rw [hup] at h
        exact h
      have HDn : Hid (∀ W, Holds W p1 n1 l → Holds W p2 n2 m → Calls Try.prog 26 #[.agg #[.slice p1 n1 d1, .slice p2 n2 d2], .int .i64 x] W fun e w' => ∃ (p : Option Addr) (k d : Nat), e = .returned (.tuple #[.slice p k d, .bool true]) ∧ w'.ownsRow W.heap.size 3 1 (.slice p k d) k (ints (That.sel (fun z => later m x z) l)) ∧ k ≤ 1048576 ∧ Below W.heap.size W w') := fun W h1 h2 => by
        have h := EarlierCtxI.impl_any x p1 p2 n1 d1 n2 d2 l m W (by omega) (by omega) h1 h2
        rw [hdn] at h
        exact h
      have HA1 := Lib.hid ((sel_has (fun z => later m z y) hkx).trans hlat)
      have HA2 := Lib.hid ((sel_has (fun z => later m x z) hky).trans hlat)
      clear hup hdn hkx hky hlat
      go_wp2_with fail
      refine (HU.out w4 (HR1.out.below HB4.out) (HR2.out.below HB4.out)).mono ?_
      rintro e w5 ⟨pu, ku, du, rfl, hown, hku, b5⟩
      have HOU := Lib.hid (GivesI.holds_own hown)
      have HO5 := Lib.hid (HO4.out.below b5)
      have HB5 := Lib.hid (HB4.out.trans (b5.mono HB4.out.size))
      obtain ⟨s51, s52⟩ := HBX.out w5 HB5.out
      clear hown b5 s41 s42
      go_wp2_with fail
      refine (HDn.out w5 (HR1.out.below HB5.out) (HR2.out.below HB5.out)).mono ?_
      rintro e w6 ⟨pd, kd, dd, rfl, hown, hkd, b6⟩
      have HOD := Lib.hid (GivesI.holds_own hown)
      have HOU6 := Lib.hid (HOU.out.below b6)
      have HO6 := Lib.hid (HO5.out.below b6)
      have HB6 := Lib.hid (HB5.out.trans (b6.mono HB5.out.size))
      obtain ⟨s61, s62⟩ := HBX.out w6 HB6.out
      clear hown b6 s51 s52
      go_wp2_with fail
      refine (has_any pu ku du _ x w6 hku HOU6.out).mono ?_
      rintro e w7 ⟨rfl, b7⟩
      rw [HA1.out]
      have HOD7 := Lib.hid (HOD.out.below b7)
      have HO7 := Lib.hid (HO6.out.below b7)
      have HB7 := Lib.hid (HB6.out.trans (b7.mono HB6.out.size))
      obtain ⟨s71, s72⟩ := HBX.out w7 HB7.out
      clear b7 s61 s62
      go_wp2_with fail
      refine (has_any pd kd dd _ y w7 hkd HOD7.out).mono ?_
      rintro e w8 ⟨rfl, b8⟩
      rw [HA2.out]
      have HO8 := Lib.hid (HO7.out.below b8)
      have HB8 := Lib.hid (HB7.out.trans (b8.mono HB7.out.size))
      obtain ⟨s81, s82⟩ := HBX.out w8 HB8.out
      clear b8 s71 s72
      have hk2 : 1 < kc := by have := HCH.out.two; omega
      have hk2i : (1 : Int) < (kc : Int) := by omega
      have hkm : wrap64 ((kc : Int) - 1) = ((kc - 1 : Nat) : Int) := by unfold wrap64; omega
      obtain ⟨b, off, x0, hpc, hx0, e0⟩ := HO8.out.at 0 (by omega)
      subst hpc
      have hxx : x0 = x := by have := HCH.out.fst; rw [this] at hx0; injection hx0 with hx0; exact hx0.symm
      subst hxx
      clear e0 hx0
      have HKC := Lib.hid hlc
      clear hlc
      go_wp2_with fail
      go_loopw [17] (fun s17 wr => ∃ i : Nat, 1 ≤ i ∧ i ≤ kc ∧ s17 = .int .i64 i ∧ Hid (Below V.heap.size V wr) ∧ Hid (HoldsI wr (some ⟨b, off, none⟩) kc C)) (fun s17 _ => kc - (intOf s17).toNat)
      case atStart => exact ⟨1, by omega, by omega, rfl, HB8, HO8⟩
      case round =>
        clear s81 s82 HO8 HB8
        obtain ⟨i, hi1, hik, rfl, HBr, HOr⟩ := hrel
        by_cases hlt : i < kc
        · have hii : (i : Int) < (kc : Int) := by omega
          have him : wrap64 ((i : Int) - 1) = ((i - 1 : Nat) : Int) := by unfold wrap64; omega
          have him2 : IntKind.i64.wrap ((i : Int) - 1) = ((i - 1 : Nat) : Int) := by rw [IntKind.wrap_i64]; omega
          have hi0 : (0 : Int) ≤ ((i - 1 : Nat) : Int) := by omega
          have hik1 : ((i - 1 : Nat) : Int) < (kc : Int) := by omega
          have hi00 : (0 : Int) ≤ (i : Int) := by omega
          have HOd := Lib.hid (HOr.out.below ((Below.refl _ _).drew))
          have HBd := Lib.hid (HBr.out.trans (((Below.refl wr.heap.size wr).drew).mono HBr.out.size))
          obtain ⟨b1, off1, u, q1, hu, e1⟩ := HOd.out.at (i - 1) (by omega)
          obtain ⟨b2, off2, v, q2, hv, e2⟩ := HOd.out.at i hlt
          injection q1 with q1
          injection q1 with q11 q12
          subst q11 q12
          injection q2 with q2
          injection q2 with q21 q22
          subst q21 q22
          have HT := Lib.hid (HCH.out.rel (i - 1) u v hu (by rw [show i - 1 + 1 = i by omega]; exact hv))
          clear hu hv
          obtain ⟨s91, s92⟩ := HBX.out wr.drew HBd.out
          go_upto_region 20 with fail
          go_region_law (first
            | (go_simp; go_at_call 15; refine (related_any p1 p2 n1 d1 n2 d2 m u v wr.drew (by omega) (HR2.out.below HBd.out)).mono ?_; rintro e w9 ⟨rfl, b9⟩; rw [HT.out]; have HO9 := Lib.hid (HOd.out.below b9); have HB9 := Lib.hid (HBd.out.trans (b9.mono HBd.out.size)); clear b9))
          all_goals go_wp2_with fail
          all_goals exact ⟨⟨i + 1, by omega, by omega, by go_num, HB9, HO9⟩, by simp [intOf]; omega⟩
        · obtain rfl : i = kc := by omega
          have hii : ¬ (i : Int) < (i : Int) := by omega
          obtain ⟨b1, off1, u, q1, hu, e1⟩ := HOr.out.at 0 (by omega)
          obtain ⟨b2, off2, v, q2, hv, e2⟩ := HOr.out.at (i - 1) (by omega)
          injection q1 with q1
          injection q1 with q11 q12
          subst q11 q12
          injection q2 with q2
          injection q2 with q21 q22
          subst q21 q22
          have hux : u = x0 := by have := HCH.out.fst; rw [this] at hu; injection hu with hu; exact hu.symm
          have hvy : v = y := by have := HCH.out.lst; rw [HKC.out, Nat.mul_one] at this; rw [this] at hv; injection hv with hv; exact hv.symm
          subst hux hvy
          rw [Nat.add_zero] at e1
          clear hu hv
          have hi0 : (0 : Int) ≤ ((i - 1 : Nat) : Int) := by omega
          have hik1 : ((i - 1 : Nat) : Int) < (i : Int) := by omega
          have hi00 : (0 : Int) < (i : Int) := by omega
          go_wp2_with fail
          go_ret
          exact ⟨rfl, HBV.out.trans (HBr.out.mono HBV.out.size)⟩
theorem said : Rows.FnOrderSaid := FFnOrder.over walk
#print axioms said
end Go.Proofs.Ythcjembekadijaa.LFnOrder
