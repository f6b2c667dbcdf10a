/- The program's intervalsOf. -/
import Derived.Test.YtmjhgjlnpnkmkaaIvM
import Derived.Test.YtmjhgjlnpnkmkaaRepI
import Derived.Test.YtmjhgjlnpnkmkaaEvI
import Derived.Test.YtmjhgjlnpnkmkaaSearch
namespace Go.Proofs.Ytmjhgjlnpnkmkaa.IvI
open Go.RowKit Pairs Rec RecEq Chain Find2 GoodM Keep GivesI Da DaT DaG EvM IvM RepI
set_option linter.unusedVariables false
def OwnV (B g n : Nat) (w0 w : World) (l : List (Int × Int)) : Prop := B ≤ g ∧ w.ownsRow B 64 2 (.slice (some ⟨g, 0, none⟩) n n) n (flat l) ∧ Below B w0 w
theorem OwnV.below {B g n : Nat} {w0 w w' : World} {l : List (Int × Int)} (h : OwnV B g n w0 w l) (hb : Below w.heap.size w w') : OwnV B g n w0 w' l :=
  ⟨h.1, ownsRow_below h.2.1 hb, h.2.2.trans (hb.mono (Nat.le_trans h.1 (Nat.le_of_lt (h.2.1.lt g rfl).2)))⟩
def IvAns (n : Nat) (l : List (Int × Int)) (w : World) (e : Ending) (w' : World) : Prop :=
  ∃ g : Nat, e = .returned (.slice (some ⟨g, 0, none⟩) n n) ∧ OwnV w.heap.size g n w w' l
set_option maxRecDepth 100000 in
set_option maxHeartbeats 8000000 in
theorem intervalsOf_any (a1 a2 p : Option Addr) (n1 c1 n2 c2 np cp : Nat) (l : List (Int × Int)) (L : List Dt) (w : World) (hz : n1 ≤ 10) (hp : np ≤ 1048576) (h : Holds w a1 n1 l) (hA : Asc l) (hL : HoldsD w p np L) (hE : evi l L = true) :
    Calls Try.prog 63 #[.agg #[.slice a1 n1 c1, .slice a2 n2 c2], .slice p np cp] w (IvAns n1 (own l L) w) := by
  obtain ⟨hs2, hf, hf2, v1, v2, hb⟩ := boxes2 w (.slice a1 n1 c1) (.slice a2 n2 c2) (.int .i64 (-20000)) (.int .i64 2100) 33 64
  have hsz : w.heap.size < ((w.alloc (.cells #[.slice a1 n1 c1, .slice a2 n2 c2] 33)).alloc (.cells #[.int .i64 (-20000), .int .i64 2100] 64)).heap.size := by omega
  have H1 := Lib.hid (h.below hb)
  have HL := Lib.hid (hL.below hb)
  have HA := Lib.hid hA
  have HE := Lib.hid hE
  have HB := Lib.hid hb
  have HLL := Lib.hid hL.1
  have HL1 := Lib.hid h.1
  clear h hA hL hb hE
  go_enter Try.func63, Try.ntmps63
  go_wp2_with fail
  have HS2 := Lib.hid hs2
  clear hs2
  generalize (w.alloc (.cells #[.slice a1 n1 c1, .slice a2 n2 c2] 33)).alloc (.cells #[.int .i64 (-20000), .int .i64 2100] 64) = W at *
  refine (repeat_any n1 hz ⟨w.heap.size + 1, 0, none⟩ 1 (-20000) 2100 W v1 v2).mono ?_
  rintro e w1 ⟨g, rfl, hg, hgb, b1⟩
  have HO : Hid (w1.ownsRow W.heap.size 64 2 (.slice (some ⟨g, 0, none⟩) n1 n1) n1 (flat (own l (L.take 0))) ∧ Below W.heap.size W w1) := by
    refine ⟨?_, b1⟩
    rw [List.take_zero, own_nil, HL1.out]
    have e : (flat (List.replicate n1 ((-20000 : Int), (2100 : Int)))).length = n1 * 2 := by rw [flat_len, List.length_replicate]
    exact ⟨e, .inr ⟨g, n1, _, rfl, hg, hgb, Nat.le_refl _, by unfold maxLen; omega, by simpa using e, by rw [← e]; exact List.take_length⟩⟩
  have HGW := Lib.hid hg
  have hgw : w.heap.size ≤ g := by have := HB.out.size; omega
  have HGW2 := Lib.hid hgw
  clear hgb b1 hg v1 v2 hgw
  go_wp2_with fail
  go_loopw [18] (fun s18 wr => ∃ k : Nat, k ≤ np ∧ s18 = .int .i64 (k : Int) ∧ Hid (wr.ownsRow W.heap.size 64 2 (.slice (some ⟨g, 0, none⟩) n1 n1) n1 (flat (own l (L.take k))) ∧ Below W.heap.size W wr)) (fun s18 _ => np - (intOf s18).toNat)
  case atStart => exact ⟨0, Nat.zero_le _, rfl, HO⟩
  case round =>
    obtain ⟨k, hk, rfl, HR⟩ := hrel
    clear HO
    by_cases hlt : k < np
    · obtain ⟨b, off, x, y, z, rfl, hx, e1, e2, e3⟩ := (HL.out.below HR.out.2).at k hlt
      have hki : (k : Int) < (np : Int) := by omega
      have g1 := (HR.out.2.cell (p := ⟨w.heap.size, 0, none⟩) hsz).trans hf
      have g2 := (HR.out.2.cell (p := ⟨w.heap.size, 1, none⟩) hsz).trans hf2
      have hlw : w.heap.size < wr.heap.size := Nat.lt_of_lt_of_le hsz HR.out.2.size
      have hbn := below_alloc wr (.cells #[.int .i64 x, .int .i64 y, .int .i64 z] 66)
      obtain ⟨⟨u1, u2, u3⟩, _, _, _⟩ := cells3 (box3h wr (.int .i64 x) (.int .i64 y) (.int .i64 z) 66)
      have q1 := (hbn.cell (p := ⟨w.heap.size, 0, none⟩) hlw).trans g1
      have q2 := (hbn.cell (p := ⟨w.heap.size, 1, none⟩) hlw).trans g2
      have HX := Lib.hid hx
      have HRN := Lib.hid (And.intro (ownsRow_below HR.out.1 hbn) (HR.out.2.trans (hbn.mono HR.out.2.size)))
      have hszn : wr.heap.size < (wr.alloc (.cells #[.int .i64 x, .int .i64 y, .int .i64 z] 66)).heap.size := by simp
      obtain ⟨ix, hix⟩ := Option.isSome_iff_exists.1 (evi_at HE.out hx).1
      have hin : ix < n1 := by rw [← HL1.out]; exact isAt_lt hix
      have HIX := Lib.hid hix
      clear hx hbn hix
      go_wp2_with fail
      generalize wr.alloc (.cells #[.int .i64 x, .int .i64 y, .int .i64 z] 66) = Y at *
      refine (Avr.placeOfContext_any a1 a2 n1 c1 n2 c2 l x Y (by omega) (H1.out.below HRN.out.2) HA.out).mono ?_
      rintro e w3 ⟨rfl, b3⟩
      rw [Search.isAt_found HA.out HIX.out, HIX.out]
      obtain ⟨d1, d2, d3⟩ := cells_below ⟨hszn, u1, u2, u3⟩ b3
      have hrow := ownsRow_below HRN.out.1 b3
      have HBW := Lib.hid (HRN.out.2.trans (b3.mono HRN.out.2.size))
      have c0 := hrow.cellAt (ix * 2) (by omega)
      have c1' := hrow.cellAt (ix * 2 + 1) (by omega)
      have f0 := hrow.frozenAt (ix * 2)
      have f1 := hrow.frozenAt (ix * 2 + 1)
      obtain ⟨w0, hw0⟩ : ∃ v, (flat (own l (L.take k)))[ix * 2]? = some v := ⟨_, List.getElem?_eq_getElem (by rw [flat_len, own_len, HL1.out]; omega)⟩
      obtain ⟨w1', hw1⟩ : ∃ v, (flat (own l (L.take k)))[ix * 2 + 1]? = some v := ⟨_, List.getElem?_eq_getElem (by rw [flat_len, own_len, HL1.out]; omega)⟩
      rw [hw0] at c0
      rw [hw1] at c1'
      have HR2 : Hid (((w3.setCell ⟨g, ix * 2, none⟩ (.int .i64 y)).setCell ⟨g, ix * 2 + 1, none⟩ (.int .i64 z)).ownsRow W.heap.size 64 2 (.slice (some ⟨g, 0, none⟩) n1 n1) n1 (flat (own l (L.take (k + 1)))) ∧ Below W.heap.size W ((w3.setCell ⟨g, ix * 2, none⟩ (.int .i64 y)).setCell ⟨g, ix * 2 + 1, none⟩ (.int .i64 z))) := by
        refine ⟨?_, (HBW.out.setCell (p := ⟨g, ix * 2, none⟩) HGW.out _).setCell (p := ⟨g, ix * 2 + 1, none⟩) HGW.out _⟩
        rw [own_set HA.out HE.out HX.out HIX.out, ← flat_set _ _ _ _ (by rw [own_len, HL1.out]; exact hin)]
        exact ((hrow.stored (ix * 2) _).1.stored (ix * 2 + 1) _).1
      have hxi : (ix : Int) < (n1 : Int) := by omega
      clear hrow b3 hw0 hw1 HRN u1 u2 u3 q1 q2 e1 e2 e3 g1 g2
      go_wp2_with fail
      exact ⟨⟨k + 1, by omega, by go_num, HR2⟩, by simp [intOf]; omega⟩
    · obtain rfl : k = np := by omega
      have hkk : ¬ (k : Int) < (k : Int) := by omega
      have hr := HR.out
      rw [List.take_of_length_le (by rw [HLL.out]; exact Nat.le_refl _)] at hr
      have HQ := Lib.hid hr
      clear hr
      go_wp2_with fail
      go_ret
      exact ⟨g, rfl, HGW2.out, ownsRow_base HQ.out.1 HB.out.size, HB.out.trans (HQ.out.2.mono HB.out.size)⟩
end Go.Proofs.Ytmjhgjlnpnkmkaa.IvI
