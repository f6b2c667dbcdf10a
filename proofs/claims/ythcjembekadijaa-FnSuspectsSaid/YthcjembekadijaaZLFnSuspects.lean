/- FnSuspects: at every code the law returns true (a code of more than 65536 bytes at once), and what was there before is left as it was. No condition. -/
import Derived.Test.YthcjembekadijaaOrderSaidPartaa
import Derived.Test.YthcjembekadijaaOrderSaidPartal
import Derived.Test.YthcjembekadijaaCycleSaidPartaa
import Derived.Test.YthcjembekadijaaSuspectsSaidPartaa
import Derived.Test.YthcjembekadijaaSuspectsSaidPartab
import Derived.Test.YthcjembekadijaaSuspectsSaidPartac
namespace Go.Proofs.Ythcjembekadijaa.LFnSuspects
open Go.RowKit Cur Pairs Rec Chain Find2 GoodM Keep GivesI That IsLater Drw DrwC DrwR DrwP DrwT LawH SusI GrpM SusL SS WcI
/-- What the law asks of suspects and groups. -/
structure IsGrp (S : List Int) (G : List (List Int)) (n : Nat) : Prop where
  sum : off G G.length = S.length
  few : S.length ≤ n
  mem : ∀ (i : Nat) g, G[i]? = some g → ∀ (k : Nat) (x : Int), g[k]? = some x → (S.any fun y => y == x) = true
theorem wrap_sum {a b c : Nat} (h : c = a + b) (hc : c ≤ 1000000) : wrap64 ((a : Int) + (b : Int)) = (c : Int) := by unfold wrap64; omega
theorem answers (x y : Int) (l m : Ps) : ∃ (ok : Bool) (S : List Int) (G : List (List Int)), good l m = ok ∧ (susP l m).isSome = ok ∧ (susP l m).getD [] = S ∧ (grpP l m).isSome = ok ∧ (grpP l m).getD [] = G ∧ IsGrp S G l.length ∧ (ok = false → S = [] ∧ G = [] ∧ wcP x y l m = (false, false)) := by
  cases hg : good l m with
  | false => exact ⟨false, [], [], rfl, by rw [sus_bad hg]; rfl, by rw [sus_bad hg]; rfl, by rw [grp_bad hg]; rfl, by rw [grp_bad hg]; rfl, ⟨rfl, Nat.zero_le _, fun i g h => by simp at h⟩, fun _ => ⟨rfl, rfl, wc_no (by
    cases h : okW l m x y with
    | false => rfl
    | true =>
      unfold okW at h
      rw [Bool.and_eq_true] at h
      rw [(has2_iff.1 h.1).1] at hg
      cases hg)⟩⟩
  | true =>
    refine ⟨true, sel (sus m) l, grps l m (sel (sus m) l), rfl, by rw [sus_yes hg]; rfl, by rw [sus_yes hg]; rfl, by rw [grp_yes hg]; rfl, by rw [grp_yes hg]; rfl, ⟨grps_off hg, ?_, fun i g h k x hx => ?_⟩, fun h => by cases h⟩
    · rw [sel_keys]
      refine Nat.le_trans (List.length_filter_le _ _) ?_
      unfold keys
      simp
    · exact List.any_eq_true.2 ⟨x, grps_mem h x (List.mem_of_getElem? hx), by simp⟩
theorem would (x y : Int) (l m : Ps) : wcP x y l m = (false, false) ∨ (wcP x y l m = (true, true) ∧ latP y x l m = (true, true)) ∨ (wcP x y l m = (false, true) ∧ latP y x l m = (false, true)) := by
  cases h : okW l m x y with
  | false => exact .inl (wc_no h)
  | true =>
    refine .inr ?_
    have h2 := h
    unfold okW at h2
    rw [Bool.and_eq_true] at h2
    obtain ⟨hh, hn⟩ := h2
    obtain ⟨hg, hi, hj⟩ := has2_iff.1 hh
    have hh' : has2 l m y x = true := has2_iff.2 ⟨hg, hj, hi⟩
    have e1 : wcP x y l m = (later m y x, true) := wc_yes hh (by simpa using hn)
    have e2 := latP_yes hh'
    cases hl : later m y x with
    | false => exact .inr ⟨by rw [e1, hl], by rw [e2, hl]⟩
    | true => exact .inl ⟨by rw [e1, hl], by rw [e2, hl]⟩
theorem tail (x y : Int) (l m : Ps) : ∃ yes fine later known : Bool, wcP x y l m = (yes, fine) ∧ latP y x l m = (later, known) ∧ (fine = false ∨ fine = true ∧ known = true ∧ yes = later) := by
  rcases would x y l m with h | ⟨h1, h2⟩ | ⟨h1, h2⟩
  · exact ⟨_, _, _, _, h, rfl, .inl rfl⟩
  · exact ⟨_, _, _, _, h1, h2, .inr ⟨rfl, rfl, rfl⟩⟩
  · exact ⟨_, _, _, _, h1, h2, .inr ⟨rfl, rfl, rfl⟩⟩
set_option maxRecDepth 100000 in
set_option maxHeartbeats 16000000 in
theorem walk (a : Option Addr) (len cap : Nat) (zs : List Int) (w : World) (h : LawC.IsRow .u8 w a len cap zs) :
    Calls Try.prog 4 #[.slice a len cap] w fun e w' => e = .returned (.bool true) ∧ Below w.heap.size w w' := by
  have HRow := Lib.hid h
  clear h
  go_enter Try.func4, Try.ntmps4
  go_wp2_with fail
  refine (LawC.vBig_any a len cap w).mono ?_
  rintro e w1 ⟨rfl, rfl⟩
  by_cases hl : 65536 < (len : Int)
  · rw [decide_eq_true hl]
    go_wp2_with fail
    go_ret
    exact ⟨rfl, Below.refl _ _⟩
  · rw [decide_eq_false hl]
    have HC := Lib.hid (LawC.code_of HRow.out (by omega))
    go_wp2_with fail
    refine (drawWould_any a len cap w HC.out).mono ?_
    rintro e w1 ⟨p1, n1, d1, p2, n2, d2, l, m, x, y, rfl, hd⟩
    have hf1 := hd.few1
    have hf2 := hd.few2
    have hc1 := hd.cap1
    have hc2 := hd.cap2
    have hb1 := below_alloc w1 (.cells #[.slice p1 n1 d1, .slice p2 n2 d2] 27)
    have hb2 := below_alloc (w1.alloc (.cells #[.slice p1 n1 d1, .slice p2 n2 d2] 27)) (.cells #[.int .i64 x, .int .i64 y] 39)
    have hbb := hb1.trans (hb2.mono hb1.size)
    have HR1 := Lib.hid ((holds_own hd.ctx).below hbb)
    have HR2 := Lib.hid ((holds_own hd.rel).below hbb)
    have HLl := Lib.hid (holds_own hd.ctx).1
    have HBV := Lib.hid (hd.bel.trans (hbb.mono hd.bel.size))
    have hs1 : (w1.alloc (.cells #[.slice p1 n1 d1, .slice p2 n2 d2] 27)).heap.size = w1.heap.size + 1 := by simp
    have hbk : ((w1.alloc (.cells #[.slice p1 n1 d1, .slice p2 n2 d2] 27)).alloc (.cells #[.int .i64 x, .int .i64 y] 39)).heap[w1.heap.size]? = some (.cells #[.slice p1 n1 d1, .slice p2 n2 d2] 27) := (hb2.block w1.heap.size (by omega)).trans (heap_alloc_new w1 _)
    have hbl : ((w1.alloc (.cells #[.slice p1 n1 d1, .slice p2 n2 d2] 27)).alloc (.cells #[.int .i64 x, .int .i64 y] 39)).heap[w1.heap.size + 1]? = some (.cells #[.int .i64 x, .int .i64 y] 39) := by
      have h1 := heap_alloc_new (w1.alloc (.cells #[.slice p1 n1 d1, .slice p2 n2 d2] 27)) (.cells #[.int .i64 x, .int .i64 y] 39)
      rw [hs1] at h1
      exact h1
    have hsV : ((w1.alloc (.cells #[.slice p1 n1 d1, .slice p2 n2 d2] 27)).alloc (.cells #[.int .i64 x, .int .i64 y] 39)).heap.size = w1.heap.size + 2 := by simp
    have hbx : ∀ X, Below ((w1.alloc (.cells #[.slice p1 n1 d1, .slice p2 n2 d2] 27)).alloc (.cells #[.int .i64 x, .int .i64 y] 39)).heap.size ((w1.alloc (.cells #[.slice p1 n1 d1, .slice p2 n2 d2] 27)).alloc (.cells #[.int .i64 x, .int .i64 y] 39)) X → X.cell? ⟨w1.heap.size, 0, none⟩ = some (.slice p1 n1 d1) ∧ X.cell? ⟨w1.heap.size, 1, none⟩ = some (.slice p2 n2 d2) ∧ X.cell? ⟨w1.heap.size + 1, 0, none⟩ = some (.int .i64 x) ∧ X.cell? ⟨w1.heap.size + 1, 1, none⟩ = some (.int .i64 y) := fun X hX => by
      have hb := (hX.block w1.heap.size (by omega)).trans hbk
      have hc := (hX.block (w1.heap.size + 1) (by omega)).trans hbl
      exact ⟨by simp [World.cell?, hb], by simp [World.cell?, hb], by simp [World.cell?, hc], by simp [World.cell?, hc]⟩
    obtain ⟨s1, s2, s3, s4⟩ := hbx _ (Below.refl _ _)
    have HBX := Lib.hid hbx
    clear hbx hbk hbl hb1 hb2 hbb hd hs1 hsV
    go_upto_region 4 with fail
    generalize (w1.alloc (.cells #[.slice p1 n1 d1, .slice p2 n2 d2] 27)).alloc (.cells #[.int .i64 x, .int .i64 y] 39) = V at *
    obtain ⟨ok, S, G, hgd, hsu, hS, hgr, hG, hI, hbad⟩ := answers x y l m
    have HI := Lib.hid hI
    clear hI hl
    have HSu : Hid (∀ W, Holds W p1 n1 l → Holds W p2 n2 m → Calls Try.prog 17 #[.agg #[.slice p1 n1 d1, .slice p2 n2 d2]] W fun e w' => ∃ (p : Option Addr) (k d : Nat), e = .returned (.tuple #[.slice p k d, .bool ok]) ∧ w'.ownsRow W.heap.size 3 1 (.slice p k d) k (ints S) ∧ k ≤ 1048576 ∧ Below W.heap.size W w') := fun W h1 h2 => by
      have h : Calls _ _ _ W (GivesI.Res (susP l m).isSome ((susP l m).getD []) W) := SusI.impl_cap p1 p2 n1 d1 n2 d2 l m W hc1 hc2 (by omega) (by omega) h1 h2
      rw [hsu, hS] at h
      exact h
    have HGr : Hid (∀ W, Holds W p1 n1 l → Holds W p2 n2 m → Calls Try.prog 18 #[.agg #[.slice p1 n1 d1, .slice p2 n2 d2]] W fun e w' => ∃ (p : Option Addr) (k d : Nat) (vs : List Value), e = .returned (.tuple #[.slice p k d, .bool ok]) ∧ OwnSS w' W.heap.size p k d G vs ∧ k ≤ 1048576 ∧ off G k ≤ 1000000 ∧ Below W.heap.size W w') := fun W h1 h2 => by
      have h : Calls _ _ _ W (SS.Res (grpP l m).isSome ((grpP l m).getD []) W) := GrpI.impl_cap p1 p2 n1 d1 n2 d2 l m W hc1 hc2 (by omega) (by omega) h1 h2
      rw [hgr, hG] at h
      exact h
    have HVa : Hid (∀ W, Holds W p1 n1 l → Holds W p2 n2 m → Calls Try.prog 14 #[.agg #[.slice p1 n1 d1, .slice p2 n2 d2]] W fun e w' => e = .returned (.bool ok) ∧ Below W.heap.size W w') := fun W h1 h2 => by
      have h := ValS.valid_any p1 p2 n1 d1 n2 d2 l m W (by omega) (by omega) h1 h2
      rw [hgd] at h
      exact h
    clear hgd hsu hS hgr hG
    go_wp2_with fail
    refine (HSu.out V HR1.out HR2.out).mono ?_
    rintro e w2 ⟨pl, kl, dl, rfl, hown, hkl, b2⟩
    have HO2 := Lib.hid (GivesI.holds_own hown)
    have hll := hown.1
    rw [ints_len] at hll
    have HKL := Lib.hid (show S.length = kl by omega)
    have HB2 := Lib.hid b2
    clear hown b2 s1 s2 s3 s4 hll
    obtain ⟨s1, s2, s3, s4⟩ := HBX.out w2 HB2.out
    go_wp2_with fail
    refine (HGr.out w2 (HR1.out.below HB2.out) (HR2.out.below HB2.out)).mono ?_
    rintro e w3 ⟨pg, kg, dg, vs, rfl, hown, hkg, hog, b3⟩
    have HG3 := Lib.hid hown.holds
    have HGL := Lib.hid hown.len
    have HO3 := Lib.hid (HO2.out.below b3)
    have HB3 := Lib.hid (HB2.out.trans (b3.mono HB2.out.size))
    clear b3 s1 s2 s3 s4 hown
    obtain ⟨s1, s2, s3, s4⟩ := HBX.out w3 HB3.out
    go_wp2_with fail
    refine (HVa.out w3 (HR1.out.below HB3.out) (HR2.out.below HB3.out)).mono ?_
    rintro e w5 ⟨rfl, b5⟩
    have HO5 := Lib.hid (HO3.out.below b5)
    have HG5 := Lib.hid (HG3.out.below b5)
    have HB5 := Lib.hid (HB3.out.trans (b5.mono HB3.out.size))
    clear b5 s1 s2 s3 s4 HO2 HO3 HG3 HB2 HB3 HSu HGr HVa
    cases ok
    · have hkl0 : kl = 0 := by have h1 := HKL.out; rw [(hbad rfl).1] at h1; simpa using h1.symm
      have hkg0 : kg = 0 := by have h1 := HGL.out; rw [(hbad rfl).2.1] at h1; simpa using h1.symm
      subst hkl0 hkg0
      clear hbad HI HGL HKL
      go_wp2_with fail
      go_loopw [9, 10] (fun s9 s10 wr => s9 = .int .i64 0 ∧ s10 = .int .i64 0 ∧ Hid (Below V.heap.size V wr)) (fun _ _ _ => 0)
      case atStart => exact ⟨rfl, rfl, HB5⟩
      case round =>
        clear HB5 HO5 HG5
        obtain ⟨rfl, rfl, HBr⟩ := hrel
        obtain ⟨s1, s2, s3, s4⟩ := HBX.out wr HBr.out
        obtain ⟨yes, fine, later, known, hwc, hla, hcs⟩ := tail x y l m
        have HWc : Hid (∀ W, Holds W p1 n1 l → Holds W p2 n2 m → Calls Try.prog 20 #[.agg #[.slice p1 n1 d1, .slice p2 n2 d2], .agg #[.int .i64 x, .int .i64 y]] W fun e w' => e = .returned (.tuple #[.bool yes, .bool fine]) ∧ Below W.heap.size W w') := fun W h1 h2 => by
          have h := WcI.impl_any x y p1 p2 n1 d1 n2 d2 l m W (by omega) (by omega) h1 h2
          rw [hwc] at h
          exact h
        have HLa : Hid (∀ W, Holds W p1 n1 l → Holds W p2 n2 m → Calls Try.prog 21 #[.agg #[.slice p1 n1 d1, .slice p2 n2 d2], .int .i64 y, .int .i64 x] W fun e w' => e = .returned (.tuple #[.bool later, .bool known]) ∧ Below W.heap.size W w') := fun W h1 h2 => by
          have h := IsLater.impl_any y x p1 p2 n1 d1 n2 d2 l m W (by omega) (by omega) h1 h2
          rw [hla] at h
          exact h
        have HCS := Lib.hid hcs
        clear hwc hla hcs
        go_wp2_with fail
        refine (HWc.out wr (HR1.out.below HBr.out) (HR2.out.below HBr.out)).mono ?_
        rintro e w7 ⟨rfl, b7⟩
        have HB7 := Lib.hid (HBr.out.trans (b7.mono HBr.out.size))
        obtain ⟨s71, s72, s73, s74⟩ := HBX.out w7 HB7.out
        clear b7 s1 s2 s3 s4
        go_wp2_with fail
        refine (HLa.out w7 (HR1.out.below HB7.out) (HR2.out.below HB7.out)).mono ?_
        rintro e w8 ⟨rfl, b8⟩
        have HB8 := Lib.hid (HB7.out.trans (b8.mono HB7.out.size))
        have HBZ := Lib.hid (HBV.out.trans (HB8.out.mono HBV.out.size))
        clear b8 s71 s72 s73 s74 HB8 HB7 HBV HBX HR1 HR2 HWc HLa
        rcases HCS.out with rfl | ⟨rfl, rfl, rfl⟩
        all_goals go_wp2_with fail
        all_goals go_ret
        all_goals exact ⟨rfl, HBZ.out⟩
    · clear hbad
      go_wp2_with fail
      go_loopw [9, 10] (fun s9 s10 wr => ∃ i : Nat, i ≤ kg ∧ s10 = .int .i64 i ∧ s9 = .int .i64 (off G i : Nat) ∧ Hid (Below V.heap.size V wr) ∧ Hid (HoldsI wr pl kl S) ∧ Hid (HoldsSS wr pg kg G)) (fun _ s10 _ => kg - (intOf s10).toNat)
      case atStart => exact ⟨0, Nat.zero_le _, rfl, rfl, HB5, HO5, HG5⟩
      case round =>
        clear HB5 HO5 HG5
        obtain ⟨i, hik, rfl, rfl, HBr, HOr, HGr5⟩ := hrel
        by_cases hlt : i < kg
        · have hii : (i : Int) < (kg : Int) := by omega
          have hi00 : (0 : Int) ≤ (i : Int) := by omega
          obtain ⟨b, o, pi, di, g, hpg, hg, eg, hgh⟩ := HGr5.out.at i hlt
          subst hpg
          have hon := off_next hg
          have hom := off_mono G (i := i + 1) (j := kg) hlt
          have HGg := Lib.hid hg
          have hon1 : off G (i + 1) ≤ 1000000 := Nat.le_trans hom hog
          have hgl : g.length ≤ 1000000 := by omega
          have hwr := wrap_sum hon hon1
          clear hgh hg hon hom
          obtain ⟨oi, hoi⟩ : ∃ oi, off G (i + 1) = oi := ⟨_, rfl⟩
          rw [hoi] at hwr
          have HOI := Lib.hid hoi
          clear hoi
          go_wp2_with fail
          rw [hwr]
          clear eg hwr
          go_loopw [11] (fun s11 wr => ∃ k : Nat, k ≤ g.length ∧ s11 = .int .i64 k ∧ Hid (Below V.heap.size V wr) ∧ Hid (HoldsI wr pl kl S) ∧ Hid (HoldsSS wr (some ⟨b, o, none⟩) kg G)) (fun s11 _ => g.length - (intOf s11).toNat)
          case atStart => exact ⟨0, Nat.zero_le _, rfl, HBr, HOr, HGr5⟩
          case round =>
            clear HBr HOr HGr5
            obtain ⟨k, hkk, rfl, HBr, HOr, HGr5⟩ := hrel
            obtain ⟨b', o', pi', di', g', hpg, hg, eg, hgh⟩ := HGr5.out.at i hlt
            injection hpg with hpg
            injection hpg with hpb hpo
            subst hpb hpo
            rw [HGg.out] at hg
            injection hg with hg
            subst hg
            by_cases hkl2 : k < g.length
            · have hki : (k : Int) < (g.length : Int) := by omega
              have hk00 : (0 : Int) ≤ (k : Int) := by omega
              obtain ⟨bb, oo, z, hpi, hz, ez⟩ := hgh.at k hkl2
              subst hpi
              have HT := Lib.hid (HI.out.mem i _ HGg.out k z hz)
              clear hgh hz
              go_wp2_with fail
              refine (has_any pl kl dl S z wr hkl HOr.out).mono ?_
              rintro e w6 ⟨rfl, b6⟩
              rw [HT.out]
              have HB6 := Lib.hid (HBr.out.trans (b6.mono HBr.out.size))
              have HO6 := Lib.hid (HOr.out.below b6)
              have HG6 := Lib.hid (HGr5.out.below b6)
              clear b6 eg ez
              go_wp2_with fail
              exact ⟨⟨k + 1, by omega, by go_num, HB6, HO6, HG6⟩, by simp [intOf]; omega⟩
            · obtain rfl : k = g.length := by omega
              have hki : ¬ ((g.length : Nat) : Int) < ((g.length : Nat) : Int) := by omega
              clear hgh
              go_wp2_with fail
              exact ⟨⟨i + 1, by omega, by go_num, by rw [HOI.out], HBr, HOr, HGr5⟩, by simp [intOf]; omega⟩
        · obtain rfl : i = kg := by omega
          have hii : ¬ (i : Int) < (i : Int) := by omega
          have hoff : off G i = kl := by have h1 := HI.out.sum; rw [HGL.out, HKL.out] at h1; exact h1
          rw [hoff]
          obtain ⟨s1, s2, s3, s4⟩ := HBX.out wr HBr.out
          obtain ⟨yes, fine, later, known, hwc, hla, hcs⟩ := tail x y l m
          have HWc : Hid (∀ W, Holds W p1 n1 l → Holds W p2 n2 m → Calls Try.prog 20 #[.agg #[.slice p1 n1 d1, .slice p2 n2 d2], .agg #[.int .i64 x, .int .i64 y]] W fun e w' => e = .returned (.tuple #[.bool yes, .bool fine]) ∧ Below W.heap.size W w') := fun W h1 h2 => by
            have h := WcI.impl_any x y p1 p2 n1 d1 n2 d2 l m W (by omega) (by omega) h1 h2
            rw [hwc] at h
            exact h
          have HLa : Hid (∀ W, Holds W p1 n1 l → Holds W p2 n2 m → Calls Try.prog 21 #[.agg #[.slice p1 n1 d1, .slice p2 n2 d2], .int .i64 y, .int .i64 x] W fun e w' => e = .returned (.tuple #[.bool later, .bool known]) ∧ Below W.heap.size W w') := fun W h1 h2 => by
            have h := IsLater.impl_any y x p1 p2 n1 d1 n2 d2 l m W (by omega) (by omega) h1 h2
            rw [hla] at h
            exact h
          have HCS := Lib.hid hcs
          clear hwc hla hcs
          go_wp2_with fail
          refine (HWc.out wr (HR1.out.below HBr.out) (HR2.out.below HBr.out)).mono ?_
          rintro e w7 ⟨rfl, b7⟩
          have HB7 := Lib.hid (HBr.out.trans (b7.mono HBr.out.size))
          obtain ⟨s71, s72, s73, s74⟩ := HBX.out w7 HB7.out
          clear b7 s1 s2 s3 s4
          go_wp2_with fail
          refine (HLa.out w7 (HR1.out.below HB7.out) (HR2.out.below HB7.out)).mono ?_
          rintro e w8 ⟨rfl, b8⟩
          have HB8 := Lib.hid (HB7.out.trans (b8.mono HB7.out.size))
          have HBZ := Lib.hid (HBV.out.trans (HB8.out.mono HBV.out.size))
          clear b8 s71 s72 s73 s74 HB8 HB7 HBV HBX HR1 HR2 HWc HLa
          rcases HCS.out with rfl | ⟨rfl, rfl, rfl⟩
          all_goals go_wp2_with fail
          all_goals go_ret
          all_goals exact ⟨rfl, HBZ.out⟩
theorem said : Rows.FnSuspectsSaid := FFnSuspects.over walk
#print axioms said
end Go.Proofs.Ythcjembekadijaa.LFnSuspects
