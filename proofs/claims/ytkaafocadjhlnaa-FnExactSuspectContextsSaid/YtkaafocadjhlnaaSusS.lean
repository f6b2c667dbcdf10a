/- The model's SuspectContexts. -/
import Derived.Test.YtkaafocadjhlnaaSusI
import Derived.Test.YtkaafocadjhlnaaTable
import Derived.Deep.AppendLies
import Derived.Laws.EntriesVeiled
namespace Go.Proofs.Ytkaafocadjhlnaa.SusS
open Go.RowKit Pairs Rec Chain Find2 GoodM Keep GivesI Lows Order Bit Table Idx That IsLater Consist SusI
/-- The list under way, apart from the table. -/
def Stt (B : Nat) (W wr : World) (gt n : Nat) (T : List Nat) (v : Value) (L : List Int) : Prop :=
  ∃ go k d, v = .slice (some ⟨go, 0, none⟩) k d ∧ L.length = k ∧ gt ≠ go ∧ wr.ownsRow B 3 1 v k (ints L) ∧ HoldsI wr (some ⟨gt, 0, none⟩) n (intsN T) ∧ (n = 0 ∨ gt < wr.heap.size) ∧ Below B W wr
theorem holdsI_grown {w w' : World} {g r n : Nat} {L : List Int} (h : HoldsI w (some ⟨g, 0, none⟩) n L) (hlt : n = 0 ∨ g < w.heap.size) (hg : w.grownBy w' (some r)) (hne : g ≠ r) : HoldsI w' (some ⟨g, 0, none⟩) n L := by
  refine ⟨h.1, ?_⟩
  rcases hlt with hlt | hlt
  · exact .inl hlt
  rcases h.2 with h0 | ⟨b, off, hp, hb, hc⟩
  · exact .inl h0
  · injection hp with hp
    injection hp with h1 h2
    subst h1 h2
    exact .inr ⟨g, 0, rfl, Nat.lt_of_lt_of_le hlt hg.size, fun i x hi => (World.cell?_of_block (w := w) (w' := w') (a := ⟨g, 0 + i, none⟩) (hg.block g hlt (fun e => hne (Option.some.inj e)))).trans (hc i x hi)⟩
set_option maxRecDepth 100000 in
set_option maxHeartbeats 4000000 in
theorem spec_any : GivesO.Gives 22 susP := by
  intro a1 a2 n1 n2 l m w hz1 hz2 h1 h2
  obtain ⟨i0, hi, hy0, hy1, hy2⟩ := Rec.info_parts That.infoInt
  have hb := below_alloc w (.cells #[.slice a1 n1 n1, .slice a2 n2 n2] 32)
  have hf := box_first w (.slice a1 n1 n1) (.slice a2 n2 n2) 32
  have hf2 := box_second w (.slice a1 n1 n1) (.slice a2 n2 n2) 32
  have H1 := Lib.hid (h1.below hb)
  have H2 := Lib.hid (h2.below hb)
  have HL1 := Lib.hid h1.1
  have hsz : w.heap.size < (w.alloc (.cells #[.slice a1 n1 n1, .slice a2 n2 n2] 32)).heap.size := by simp
  have hWe : (w.alloc (.cells #[.slice a1 n1 n1, .slice a2 n2 n2] 32)).heap.size = w.heap.size + 1 := by simp
  have HWE := Lib.hid hWe
  have HB := Lib.hid hb
  clear h1 h2 hWe hb
  go_enter Try.func22, Try.ntmps22
  go_wp2_with fail
  generalize w.alloc (.cells #[.slice a1 n1 n1, .slice a2 n2 n2] 32) = W0 at *
  have he0 := below_alloc W0 (.cells #[] 3)
  have ho0 := empty_own (T := 3) W0
  have hS1 : (W0.alloc (.cells #[] 3)).heap.size = w.heap.size + 2 := by simp [HWE.out]
  rw [HWE.out] at ho0
  have g1 := (he0.cell (p := ⟨w.heap.size, 0, none⟩) hsz).trans hf
  have g2 := (he0.cell (p := ⟨w.heap.size, 1, none⟩) hsz).trans hf2
  have HO0 := Lib.hid ho0
  have HE0 := Lib.hid he0
  have HBE := Lib.hid (HB.out.trans (he0.mono HB.out.size))
  have K1 := Lib.hid (H1.out.below he0)
  have K2 := Lib.hid (H2.out.below he0)
  clear ho0 he0 hf hf2
  generalize W0.alloc (.cells #[] 3) = E at *
  refine (Good2.l2Good_any a1 a2 n1 n1 n2 n2 l m E K1.out K2.out).mono ?_
  rintro e w2 ⟨rfl, b2⟩
  have q1 := (b2.cell (p := ⟨w.heap.size, 0, none⟩) (by show w.heap.size < _; omega)).trans g1
  have q2 := (b2.cell (p := ⟨w.heap.size, 1, none⟩) (by show w.heap.size < _; omega)).trans g2
  have hs2 := b2.size
  have B2 := Lib.hid b2
  have HO2 := Lib.hid (ownsRow_below HO0.out B2.out)
  clear g1 g2 b2
  cases hg : good l m with
  | false =>
    have HE := Lib.hid (sus_bad hg)
    clear hg
    go_wp2_with fail
    go_ret2
    rw [HE.out]
    exact ⟨_, _, _, rfl, ownsRow_base HO2.out (by omega), by omega, HBE.out.trans (B2.out.mono HBE.out.size)⟩
  | true =>
    have HG := Lib.hid hg
    have HE := Lib.hid (sus_yes hg)
    have hn10 : n1 ≤ 10 := by rw [← HL1.out]; exact (Table.good_few hg).1
    clear hg
    go_wp2_with fail
    refine (later_any a1 a2 n1 n1 n2 n2 l m w2 HG.out (K1.out.below B2.out) (K2.out.below B2.out)).mono ?_
    rintro e w3 ⟨gt, T, rfl, hge, hT, TT, b3⟩
    have HTT := Lib.hid TT
    have HgT : w2.heap.size ≤ gt := hge
    have HS0 : Hid (Stt W0.heap.size W0 w3 gt n1 T (.slice (some ⟨w.heap.size + 1, 0, none⟩) 0 0) (sel (sus m) (l.take 0))) := by
      refine ⟨w.heap.size + 1, 0, 0, rfl, rfl, by omega, ?_, hT, ?_, HE0.out.trans ((B2.out.trans (b3.mono B2.out.size)).mono HE0.out.size)⟩
      · rw [HWE.out]
        exact ownsRow_below HO2.out b3
      · rcases hT.2 with h0 | ⟨bb, off, hp, hbb, _⟩
        · exact .inl h0
        · injection hp with hp
          injection hp with h1 h2
          rw [h1]
          exact .inr hbb
    have HM3 : Hid (∀ wr, Below W0.heap.size W0 wr → Holds wr a1 n1 l ∧ wr.cell? ⟨w.heap.size, 0, none⟩ = some (.slice a1 n1 n1)) := fun wr hwr => ⟨H1.out.below hwr, (hwr.cell (p := ⟨w.heap.size, 0, none⟩) hsz).trans (by
      have e1 := (HE0.out.cell (p := ⟨w.heap.size, 0, none⟩) hsz)
      have e2 := (B2.out.cell (p := ⟨w.heap.size, 0, none⟩) (by show w.heap.size < _; omega))
      rw [← e1, ← e2]
      exact q1)⟩
    clear hT TT b3 q1 q2 hge
    go_wp2_with fail
    go_loopw [4, 6] (fun s6 s9 wr => ∃ i : Nat, i ≤ n1 ∧ s9 = .int .i64 i ∧ Hid (Stt W0.heap.size W0 wr gt n1 T s6 (sel (sus m) (l.take i)))) (fun _ s9 _ => n1 - (intOf s9).toNat)
    case atStart => exact ⟨0, Nat.zero_le _, rfl, HS0⟩
    case round =>
      clear HS0
      obtain ⟨i, hile, rfl, HS⟩ := hrel
      obtain ⟨go, k, d, rfl, hlk, hne, hown, hT, hgt, hbel⟩ := HS.out
      by_cases hlt : i < n1
      · have hin : (i : Int) < (n1 : Int) := by omega
        have hi00 : (0 : Int) ≤ (i : Int) := by omega
        obtain ⟨hH, u1⟩ := HM3.out wr hbel
        obtain ⟨b, off, x, y, rfl, hx, e1, e2⟩ := hH.at i hlt
        have hxi := num_at HG.out hx
        have HX := Lib.hid (sel_next (sus m) hx)
        obtain ⟨bb, oo, zz, hp, hzz, e3⟩ := hT.at i (by omega)
        obtain ⟨t, ht, rfl⟩ := row_at hzz
        injection hp with hp
        injection hp with hp1 hp2
        subst hp1 hp2
        rw [Nat.zero_add] at e3
        have ht10 := bd hn10 (HTT.out.bd i t ht)
        have hbit : t.testBit i = sus m x := tbit HG.out HL1.out HTT.out hxi hxi ht
        have hl4 := l4Bit_any t i ht10 (by omega)
        rw [hbit] at hl4
        have HL4 := Lib.hid hl4
        have hkk : k ≤ 10 := by
          have := sel_len (sus m) (l.take i)
          rw [hlk, List.length_take] at this
          omega
        have HSP := Lib.hid (And.intro hlk (And.intro hne (And.intro hT (And.intro hgt hbel))))
        have hbs := hbel.size
        clear hx hxi hzz ht hbit hl4 hH hT
        go_wp2_with fail
        refine (HL4.out wr).mono ?_
        rintro e w' ⟨rfl, hw'⟩
        have hw2 := hw'.symm
        subst hw2
        clear hw'
        cases hq : sus m x with
        | true =>
          have HX2 : Hid (sel (sus m) (l.take (i + 1)) = sel (sus m) (l.take i) ++ [x]) := by unfold Hid; rw [HX.out, if_pos hq]
          clear HX hq HL4
          go_wp2_with (at_builtin; refine wpList_append_lies _ rfl _ _ 39 rfl W0.heap.size 3 i0 (.int .i64 0) 1 8 Try.underlying39 hi hy0 hy1 hy2 rfl (by decide) _ _ _ rfl (hown.alloc _) ⟨wr.heap.size, 0, none⟩ 1 1 [.int .i64 x] rfl rfl (cell_one_new _ _ _) (by simp [Value.oneCell']) (by decide) (by unfold maxLen; omega) (by omega) (by simp; omega) _ rfl ?_; intro g9 cap9 w9 hown' hgrow hat hlt9)
          have hw0 := below_alloc wr (.cells #[.int .i64 x] 3)
          have hS2 : Stt W0.heap.size W0 w9 gt n1 T (.slice (some ⟨g9, 0, none⟩) (k + 1) cap9) (sel (sus m) (l.take (i + 1))) := by
            obtain ⟨q1, q2, q3, q4, q5⟩ := HSP.out
            refine ⟨g9, k + 1, cap9, rfl, ?_, ?_, ?_, holdsI_grown (q3.below hw0) (by simp; omega) hgrow q2, (by have := hgrow.size; simp at this; omega), (q5.alloc q5.size _).grown hgrow (by simp; omega) (fun j hj => (hown.lt j hj).1)⟩
            · rw [HX2.out, List.length_append, q1]
              rfl
            · intro e
              rcases hat with h | h
              · have h2 : go = g9 := Option.some.inj h
                omega
              · simp at h
                omega
            · rw [HX2.out, ints_append]
              exact hown'
          have HS2 := Lib.hid hS2
          clear hS2 hown' hgrow hat hlt9 hown hw0
          exact ⟨⟨i + 1, by omega, by go_num, HS2⟩, by simp [intOf]; omega⟩
        | false =>
          have HX2 : Hid (sel (sus m) (l.take (i + 1)) = sel (sus m) (l.take i)) := by unfold Hid; rw [HX.out, if_neg (by rw [hq]; simp), List.append_nil]
          have HOW := Lib.hid hown
          clear HX hq HL4 hown
          go_wp2_with fail
          refine ⟨⟨i + 1, by omega, by go_num, ?_⟩, by simp [intOf]; omega⟩
          obtain ⟨q1, q2, q3, q4, q5⟩ := HSP.out
          unfold Hid
          rw [HX2.out]
          exact ⟨go, k, d, rfl, q1, q2, HOW.out, q3, q4, q5⟩
      · obtain rfl : i = n1 := by omega
        have hin : ¬ (i : Int) < (i : Int) := by omega
        rw [List.take_of_length_le (by rw [HL1.out]; exact Nat.le_refl _)] at hown hlk
        have hkk : k ≤ 10 := by
          have := sel_len (sus m) l
          rw [hlk, HL1.out] at this
          omega
        have HOW := Lib.hid hown
        have HBL := Lib.hid (HB.out.trans (hbel.mono HB.out.size))
        clear hown hT hbel HS
        go_wp2_with fail
        go_ret2
        rw [HE.out]
        exact ⟨_, _, _, rfl, ownsRow_base HOW.out HB.out.size, by omega, HBL.out⟩
end Go.Proofs.Ytkaafocadjhlnaa.SusS
