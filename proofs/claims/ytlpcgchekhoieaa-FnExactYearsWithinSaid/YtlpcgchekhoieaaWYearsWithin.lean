/- The walk of the law FnExactYearsWithin, from contracts of the program's and of the model's YearsWithin. -/
import Derived.Test.YtlpcgchekhoieaaCuG
namespace Go.Proofs.Ytlpcgchekhoieaa.WYearsWithin
open Go.ChangeShapes Go.WideShapes Go.ChangeAt Go.RowKit
open Pairs Rec RecOpen
set_option linter.unusedVariables false
set_option maxRecDepth 100000 in
set_option maxHeartbeats 16000000 in
theorem walk (F : List Cu.Dt → Int → Int → Bool × List Int) (hI : ∀ (p0 : Option Addr) (n0 : Nat) (M0 : List Cu.Dt) (y1 : Int) (y2 : Int) (w : World), n0 ≤ 1048576 → Cu.HoldsD w p0 n0 M0 → Calls Try.prog 22 #[.slice p0 n0 n0, .int .i64 y1, .int .i64 y2] w (CuG.ResI (F M0 y1 y2).1 (F M0 y1 y2).2 w)) (hM : ∀ (p0 : Option Addr) (n0 : Nat) (M0 : List Cu.Dt) (y1 : Int) (y2 : Int) (w : World), n0 ≤ 1048576 → Cu.HoldsD w p0 n0 M0 → Calls Try.prog 21 #[.slice p0 n0 n0, .int .i64 y1, .int .i64 y2] w (CuG.ResI (F M0 y1 y2).1 (F M0 y1 y2).2 w)) (p0 : Option Addr) (n0 c0 : Nat) (M0 : List Cu.Dt) (y1 : Int) (y2 : Int) (w : World) (z0 : n0 ≤ 9223372036854775807) (H0 : Cu.HoldsD w p0 n0 M0) :
    Calls Try.prog 5 #[.slice p0 n0 c0, .int .i64 y1, .int .i64 y2] w fun e w' => e = .returned (.bool true) ∧ Below w.heap.size w w' := by
  have H00 := Lib.hid H0
  have hI1 := fun (q0 : Option Addr) (w : World) h0a h0b => hI q0 n0 M0 y1 y2 w h0a h0b
  have hM1 := fun (q0 : Option Addr) (w : World) h0a h0b => hM q0 n0 M0 y1 y2 w h0a h0b
  clear hI hM
  generalize F M0 y1 y2 = FF at hI1 hM1
  obtain ⟨ok, A⟩ := FF
  have HI := Lib.hid hI1
  have HM := Lib.hid hM1
  clear hI1 hM1
  have K0 := Lib.hid H0
  clear H0
  have HB := Lib.hid (Below.refl w.heap.size w)
  go_enter Try.func5, Try.ntmps5
  go_wp2_with fail
  refine (CuT.szCurvePointS_any p0 n0 c0 (1048576) (by omega) (by omega) z0 _).mono ?_
  rintro e ww ⟨rfl, hww⟩
  subst hww
  by_cases hbig0 : (1048576 : Int) < (n0 : Int)
  · rw [if_pos hbig0]
    go_wp2_with fail
    go_ret
    exact ⟨rfl, HB.out⟩
  rw [if_neg hbig0]
  have hs0 : n0 ≤ 1048576 := by omega
  have hnn0 : ¬ (1048576 : Int) - n0 < 0 := by omega
  go_wp2_with fail
  refine (CuT.toCurvePointS_any p0 n0 c0 M0 hs0 _ K0.out).mono ?_
  rintro e wcm0 ⟨gm0, rfl, o, b⟩
  replace K0 := Lib.hid (K0.out.below b)
  replace HB := Lib.hid (HB.out.trans (b.mono HB.out.size))
  clear b
  have Gm0 := Lib.hid (Cu.holds_ownD o)
  clear o
  go_wp2_with fail
  refine (HM.out _ _ hs0 Gm0.out).mono ?_
  rintro e w3 ⟨pW, kW, dW, rfl, o, hkW, b⟩
  replace K0 := Lib.hid (K0.out.below b)
  replace Gm0 := Lib.hid (Gm0.out.below b)
  replace HB := Lib.hid (HB.out.trans (b.mono HB.out.size))
  clear b
  have OW := Lib.hid o
  have ow1 := Lib.hid (fun b hb => (Di.own_bd o b hb).2)
  clear o
  clear Gm0
  have hz1 := Lib.hid (Nat.le_refl w3.heap.size)
  have hzw := Lib.hid HB.out.size
  go_wp2_with fail
  refine (CuT.toCurvePointS_any p0 n0 c0 M0 hs0 _ K0.out).mono ?_
  rintro e wcx0 ⟨gx0, rfl, o, b⟩
  replace K0 := Lib.hid (K0.out.below b)
  replace OW := Lib.hid (ownsRow_below OW.out b)
  replace HB := Lib.hid (HB.out.trans (b.mono HB.out.size))
  clear b
  have OX0 := Lib.hid o
  have hg0 := Lib.hid (o.lt gx0 rfl)
  clear o
  go_wp2_with fail
  refine (HI.out _ _ hs0 (Cu.holds_ownD OX0.out)).mono ?_
  rintro e w7 ⟨pG, kG, dG, rfl, o, hkG, b⟩
  have hz3 := Lib.hid b.size
  replace K0 := Lib.hid (K0.out.below b)
  replace OW := Lib.hid (ownsRow_below OW.out b)
  replace OX0 := Lib.hid (ownsRow_below OX0.out b)
  replace HB := Lib.hid (HB.out.trans (b.mono HB.out.size))
  clear b
  have OG := Lib.hid o
  have og1 := Lib.hid (Di.own_bd o)
  clear o
  have hkk : kG = kW := by have h1 := OG.out.1; have h2 := OW.out.1; rw [GivesI.ints_len] at h1 h2; omega
  subst hkk
  go_wp2_with fail
  refine (GivesI.eq_same pG pW kG dG dW A hkG _ (GivesI.holds_own OG.out) (GivesI.holds_own OW.out)).mono ?_
  rintro e w8 ⟨rfl, b⟩
  replace K0 := Lib.hid (K0.out.below b)
  replace OW := Lib.hid (ownsRow_below OW.out b)
  replace OX0 := Lib.hid (ownsRow_below OX0.out b)
  replace OG := Lib.hid (ownsRow_below OG.out b)
  replace HB := Lib.hid (HB.out.trans (b.mono HB.out.size))
  clear b
  go_wp2_with fail
  refine (CuT.toCurvePointS_any p0 n0 c0 M0 hs0 _ K0.out).mono ?_
  rintro e wd0 ⟨gd0, rfl, o, b⟩
  replace K0 := Lib.hid (K0.out.below b)
  replace OW := Lib.hid (ownsRow_below OW.out b)
  replace OX0 := Lib.hid (ownsRow_below OX0.out b)
  replace OG := Lib.hid (ownsRow_below OG.out b)
  replace HB := Lib.hid (HB.out.trans (b.mono HB.out.size))
  clear b
  have Gd := Lib.hid (Cu.holds_ownD o)
  clear o
  go_wp2_with fail
  refine (CuT.eqCurvePointS_same (some ⟨gx0, 0, none⟩) (some ⟨gd0, 0, none⟩) n0 n0 n0 M0 hs0 _ (Cu.holds_ownD OX0.out) Gd.out).mono ?_
  rintro e we0 ⟨rfl, b⟩
  clear Gd
  replace K0 := Lib.hid (K0.out.below b)
  replace OW := Lib.hid (ownsRow_below OW.out b)
  replace OX0 := Lib.hid (ownsRow_below OX0.out b)
  replace OG := Lib.hid (ownsRow_below OG.out b)
  replace HB := Lib.hid (HB.out.trans (b.mono HB.out.size))
  clear b
  go_wp2_with fail
  refine (CuM.markD_any w3.heap.size (some ⟨gx0, 0, none⟩) n0 n0 1 (Cu.flatD M0) (by omega) (by omega) hs0 _ (Keep.ownsRow_base OX0.out (by have q1 := hz1.out; have q2 := hzw.out; have q5 := hz3.out; have q10 := hg0.out; omega))).mono ?_
  rintro e wm0 ⟨rfl, -, kk⟩
  have e2 : ∀ b, (Value.slice (some ⟨gx0, 0, none⟩) n0 n0).ownBlock = some b → b = gx0 := fun b hb => by simpa [Value.ownBlock, eq_comm] using hb
  have q1 := hz1.out; have q2 := hzw.out; have q5 := hz3.out; have q10 := hg0.out
  replace K0 := Lib.hid (CuG.heldKeptD H00.out K0.out kk (fun b hb hq => by have := e2 _ hq; omega))
  replace OW := Lib.hid (kk.owns OW.out (fun b hb hq => by have h1 := e2 _ hq; have h2 := ow1.out b hb; omega))
  replace OG := Lib.hid (kk.owns OG.out (fun b hb hq => by have h1 := e2 _ hq; have h2 := og1.out b hb; omega))
  replace HB := Lib.hid (HB.out.trans (kk.below (B := w.heap.size) (fun b hq => by have := e2 _ hq; omega) HB.out.size))
  clear kk OX0 e2
  clear q1 q2 q5 q10
  have hnk : ¬ (1 : Int) + 3 * (n0 : Int) < 0 := by omega
  have hnb : decide ((1 : Int) + 3 * (n0 : Int) < 0) = false := decide_eq_false hnk
  go_wp2_with fail
  refine (GivesI.eq_same pG pW kG dG dW A hkG _ (GivesI.holds_own OG.out) (GivesI.holds_own OW.out)).mono ?_
  rintro e w12 ⟨rfl, b⟩
  replace K0 := Lib.hid (K0.out.below b)
  replace OW := Lib.hid (ownsRow_below OW.out b)
  replace OG := Lib.hid (ownsRow_below OG.out b)
  replace HB := Lib.hid (HB.out.trans (b.mono HB.out.size))
  clear b
  go_wp2_with fail
  refine (GivesI.mark_any _ pG kG dG 1 (GivesI.ints A) (by omega) (by omega) hkG _ OG.out).mono ?_
  rintro e w13 ⟨rfl, om, kk⟩
  have q1 := hz1.out; have q2 := hzw.out; have q5 := hz3.out; have q10 := hg0.out
  replace K0 := Lib.hid (CuG.heldKeptD H00.out K0.out kk (fun b hb hq => by have := og1.out _ hq; omega))
  replace OW := Lib.hid (kk.owns OW.out (fun b hb hq => by have h1 := og1.out _ hq; have h2 := ow1.out b hb; omega))
  replace HB := Lib.hid (HB.out.trans (kk.below (B := w.heap.size) (fun b hq => by have := og1.out _ hq; omega) HB.out.size))
  have MG := Lib.hid (GivesI.holds_own om)
  clear kk om OG
  clear q1 q2 q5 q10
  have hkn : ¬ (1 : Int) + (kG : Int) < 0 := by omega
  have hkb : decide ((1 : Int) + (kG : Int) < 0) = false := decide_eq_false hkn
  go_wp2_with fail
  refine (GivesI.held_any pG kG dG 1 (by omega) (by omega) hkG _ MG.out).mono ?_
  rintro e w14 ⟨rfl, hww⟩
  subst hww
  go_wp2_with fail
  refine (CuT.toCurvePointS_any p0 n0 c0 M0 hs0 _ K0.out).mono ?_
  rintro e wch0 ⟨gh0, rfl, o, b⟩
  replace K0 := Lib.hid (K0.out.below b)
  replace MG := Lib.hid (MG.out.below b)
  replace OW := Lib.hid (ownsRow_below OW.out b)
  replace HB := Lib.hid (HB.out.trans (b.mono HB.out.size))
  clear b
  have Gh0 := Lib.hid (Cu.holds_ownD o)
  clear o
  go_wp2_with fail
  refine (HI.out _ _ hs0 Gh0.out).mono ?_
  rintro e w16 ⟨pH, kH, dH, rfl, o, hkH, b⟩
  replace K0 := Lib.hid (K0.out.below b)
  replace MG := Lib.hid (MG.out.below b)
  replace Gh0 := Lib.hid (Gh0.out.below b)
  replace OW := Lib.hid (ownsRow_below OW.out b)
  replace HB := Lib.hid (HB.out.trans (b.mono HB.out.size))
  clear b
  have OH := Lib.hid o
  clear o
  have hkk : kH = kG := by have h1 := OH.out.1; have h2 := OW.out.1; rw [GivesI.ints_len] at h1 h2; omega
  subst hkk
  go_wp2_with fail
  refine (GivesI.eq_same pH pW kH dH dW A hkH _ (GivesI.holds_own OH.out) (GivesI.holds_own OW.out)).mono ?_
  rintro e w17 ⟨rfl, b⟩
  replace K0 := Lib.hid (K0.out.below b)
  replace MG := Lib.hid (MG.out.below b)
  replace Gh0 := Lib.hid (Gh0.out.below b)
  replace OW := Lib.hid (ownsRow_below OW.out b)
  replace OH := Lib.hid (ownsRow_below OH.out b)
  replace HB := Lib.hid (HB.out.trans (b.mono HB.out.size))
  clear b
  go_wp2_with fail
  refine (GivesI.held_any pG kH dG 1 (by omega) (by omega) hkH _ MG.out).mono ?_
  rintro e w18 ⟨rfl, hww⟩
  subst hww
  go_wp2_with fail
  go_ret
  exact ⟨rfl, HB.out⟩
end Go.Proofs.Ytlpcgchekhoieaa.WYearsWithin
