/- The model's l5Rows and MatrixRows. -/
import Derived.Test.YtlgfaabobpnflaaRowsM
import Derived.Test.YtlgfaabobpnflaaRowsI
namespace Go.Proofs.Ytlgfaabobpnflaa.RowsS
open Go.RowKit Pairs Rec RecEq Chain Find2 GoodM Keep GivesI Lows Order Bit Table Idx That IsLater Consist OrdM DepM RedM RedS DepS LinkM RowsM RowsW
/-- A row more, for rows that lie in a variable. -/
theorem ownSS_app {V X w1 : World} {B : Nat} {p : Option Addr} {d : Nat} {R : List (List Int)} {vs : List Value} (h : SS.OwnSS V B p R.length d R vs) (hB : B ≤ V.heap.size) (hX : Below V.heap.size V X) {pr : Option Addr} {dr : Nat} {r : List Int}
    (hr : X.ownsRow V.heap.size 3 1 (.slice pr r.length dr) r.length (ints r)) {g9 cap : Nat} (hown : w1.ownsRow B 27 1 (.slice (some ⟨g9, 0, none⟩) (R.length + 1) cap) (R.length + 1) (vs ++ [.slice pr r.length dr]))
    (hgrow : X.grownBy w1 (Value.slice p R.length d).ownBlock) (hat : (Value.slice p R.length d).ownBlock = some g9 ∨ X.heap.size ≤ g9) :
    SS.OwnSS w1 B (some ⟨g9, 0, none⟩) (R.length + 1) cap (R ++ [r]) (vs ++ [.slice pr r.length dr]) := by
  have hXs := hX.size
  have hg9 : ∀ b, (Value.slice (some ⟨g9, 0, none⟩) (R.length + 1) cap).ownBlock = some b → b = g9 := fun b hb => by simpa [Value.ownBlock] using hb.symm
  have hinl : ∀ b, SS.Inner vs b → b < V.heap.size := fun b hb => (h.inner hb).2
  have hrb : ∀ b, (Value.slice pr r.length dr).ownBlock = some b → V.heap.size ≤ b ∧ b < X.heap.size := fun b hb => hr.lt b hb
  have hout : ∀ b, (Value.slice p R.length d).ownBlock = some b → b < V.heap.size := fun b hb => (h.out.lt b hb).2
  have hlen : (R ++ [r]).length = R.length + 1 := by simp
  have hvl := h.vlen
  have get : ∀ (i : Nat) (v : Value), (vs ++ [Value.slice pr r.length dr])[i]? = some v → (i < R.length ∧ vs[i]? = some v) ∨ (i = R.length ∧ v = .slice pr r.length dr) := fun i v hv => by
    rcases Nat.lt_or_ge i R.length with hi | hi
    · rw [List.getElem?_append_left (by omega)] at hv
      exact .inl ⟨hi, hv⟩
    · rw [List.getElem?_append_right (by omega), hvl] at hv
      have hi2 : i < R.length + 1 := by
        rcases Nat.lt_or_ge (i - R.length) 1 with h1 | h1
        · omega
        · rw [List.getElem?_eq_none (by simpa using h1)] at hv
          cases hv
      have e : i = R.length := by omega
      subst e
      rw [Nat.sub_self] at hv
      injection hv with hv
      exact .inr ⟨rfl, hv.symm⟩
  refine ⟨hown, hlen, fun i s hs => ?_, fun i v b hv hb => ?_, fun i j u v b hu hv hbu hbv => ?_⟩
  · rcases Nat.lt_or_ge i R.length with hi | hi
    · rw [List.getElem?_append_left hi] at hs
      obtain ⟨pi, di, h1, h2⟩ := h.row i s hs
      exact ⟨pi, di, by rw [List.getElem?_append_left (by omega)]; exact h1, kept_row (ownsRow_below h2 hX) hgrow (fun b hb => h.far i _ b h1 hb)⟩
    · have hi2 : i = R.length := by
        have := (List.getElem?_eq_some_iff.1 hs).1
        rw [hlen] at this
        omega
      subst hi2
      rw [List.getElem?_append_right (Nat.le_refl _), Nat.sub_self] at hs
      injection hs with hs
      subst hs
      exact ⟨pr, dr, by rw [List.getElem?_append_right (by omega), hvl, Nat.sub_self]; rfl, kept_row (ownsRow_base hr hB) hgrow (fun b hb e => by have h1 := (hrb b hb).1; have h2 := hout b e; omega)⟩
  · intro e
    have e2 := hg9 b e
    subst e2
    rcases get i v hv with ⟨_, hv⟩ | ⟨_, hv⟩
    · rcases hat with hat | hat
      · exact h.far i v _ hv hb hat
      · have := hinl _ ⟨i, v, hv, hb⟩
        omega
    · subst hv
      have h1 := hrb _ hb
      rcases hat with hat | hat
      · have := hout _ hat
        omega
      · omega
  · rcases get i u hu with ⟨h1, hu⟩ | ⟨h1, hu⟩ <;> rcases get j v hv with ⟨h2, hv⟩ | ⟨h2, hv⟩
    · exact h.apart i j u v b hu hv hbu hbv
    · subst hv
      have e1 := hinl b ⟨i, u, hu, hbu⟩
      have e2 := (hrb b hbv).1
      omega
    · subst hu
      have e1 := hinl b ⟨j, v, hv, hbv⟩
      have e2 := (hrb b hbu).1
      omega
    · omega
theorem g1_app {B : Nat} {w wr X w9 : World} {v : Value} {L : List Int} {x : Int} {g9 cap9 : Nat} (h : That.G1 B w wr v L) (hs : B ≤ wr.heap.size) (hX : Below wr.heap.size wr X)
    (hown' : w9.ownsRow B 3 1 (.slice (some ⟨g9, 0, none⟩) (L.length + 1) cap9) (L.length + 1) (ints L ++ [.int .i64 x])) (hgrow : X.grownBy w9 v.ownBlock) : That.G1 B w w9 (.slice (some ⟨g9, 0, none⟩) (L.length + 1) cap9) (L ++ [x]) := by
  have hsx := hX.size
  refine ⟨?_, (h.2.trans (hX.mono hs)).grown hgrow (by omega) (fun j hj => (h.1.lt j hj).1)⟩
  rw [List.length_append, That.ints_append]
  exact hown'
def RowsAns (l m : Ps) (w : World) (e : Ending) (w' : World) : Prop := ∃ (p : Option Addr) (d : Nat) (vs : List Value), e = .returned (.slice p (hgt l m) d) ∧ SS.OwnSS w' w.heap.size p (hgt l m) d (rowsTo l m (hgt l m)) vs ∧ Below w.heap.size w w'
set_option maxRecDepth 100000 in
set_option maxHeartbeats 8000000 in
theorem l5Rows_any (a1 a2 : Option Addr) (n1 c1 n2 c2 : Nat) (l m : List (Int × Int)) (w : World) (hgood : good l m = true) (hc : cyc l m = false) (h1 : Holds w a1 n1 l) (h2 : Holds w a2 n2 m) :
    Calls Try.prog 94 #[.agg #[.slice a1 n1 c1, .slice a2 n2 c2]] w (RowsAns l m w) := by
  obtain ⟨i0, hi, hy0, hy1, hy2⟩ := info_parts RowsI.infoSlice
  obtain ⟨i1, hi1, hz0, hz1, hz2⟩ := info_parts That.infoInt
  have hb := below_alloc w (.cells #[.slice a1 n1 c1, .slice a2 n2 c2] 33)
  have hf := box_first w (.slice a1 n1 c1) (.slice a2 n2 c2) 33
  have hf2 := box_second w (.slice a1 n1 c1) (.slice a2 n2 c2) 33
  have H1 := Lib.hid (h1.below hb)
  have H2 := Lib.hid (h2.below hb)
  have HL1 := Lib.hid h1.1
  have HB := Lib.hid hb
  have HG := Lib.hid hgood
  have HC := Lib.hid hc
  have hn1 : n1 ≤ 10 := by rw [← HL1.out]; exact (Table.good_few hgood).1
  clear h1 h2 hb hgood hc
  go_enter Try.func94, Try.ntmps94
  go_wp2_with fail
  generalize w.alloc (.cells #[.slice a1 n1 c1, .slice a2 n2 c2] 33) = W at *
  refine (l5Depths_any a1 a2 n1 c1 n2 c2 l m W HG.out HC.out H1.out H2.out).mono ?_
  rintro e w1 ⟨g, L, rfl, hge, hH, hLl, hT, b1⟩
  have q1 := (b1.cell (World.block_lt_of_cell? W _ hf)).trans hf
  have q2 := (b1.cell (World.block_lt_of_cell? W _ hf2)).trans hf2
  have HB1 := Lib.hid (HB.out.trans (b1.mono HB.out.size))
  have K1 := Lib.hid (H1.out.below b1)
  have HH := Lib.hid hH
  have HT := Lib.hid hT
  have HLl := Lib.hid hLl
  have hs1 : w.heap.size ≤ w1.heap.size := HB1.out.size
  have hE := That.empty_own (T := 27) w1
  have hbE := below_alloc w1 (.cells #[] 27)
  have hOS : SS.OwnSS (w1.alloc (.cells #[] 27)) w1.heap.size (some ⟨w1.heap.size, 0, none⟩) 0 0 (rowsTo l m 0) [] :=
    ⟨hE, rfl, fun i r hr => by simp [rowsTo] at hr, fun i v b hv => by simp at hv, fun i j u v b hu => by simp at hu⟩
  have HR0 : Hid (SS.OwnSS (w1.alloc (.cells #[] 27)) w1.heap.size (some ⟨w1.heap.size, 0, none⟩) 0 0 (rowsTo l m 0) [] ∧ Below w1.heap.size w1 (w1.alloc (.cells #[] 27))) := ⟨hOS, hbE⟩
  have HM3 : Hid (∀ wr, Below w1.heap.size w1 wr → (Holds wr a1 n1 l ∧ HoldsI wr (some ⟨g, 0, none⟩) n1 (intsN L)) ∧ wr.cell? ⟨w.heap.size, 0, none⟩ = some (.slice a1 n1 c1) ∧ wr.cell? ⟨w.heap.size, 1, none⟩ = some (.slice a2 n2 c2)) := fun wr hwr =>
    ⟨⟨K1.out.below hwr, HH.out.below hwr⟩, (hwr.cell (World.block_lt_of_cell? w1 _ q1)).trans q1, (hwr.cell (World.block_lt_of_cell? w1 _ q2)).trans q2⟩
  have hh := (hgt_is l m).1
  rw [HL1.out] at hh
  clear hf hf2 b1 hH hT hLl hge hE hbE hOS q1 q2
  go_wp2_with fail
  generalize w1.alloc (.cells #[] 27) = V0 at *
  go_loopw [4, 5] (fun s4 s5 wr => ∃ (d : Nat) (p : Option Addr) (D c : Nat) (vs : List Value), d ≤ n1 ∧ s5 = .int .i64 d ∧ s4 = .slice p D c ∧ D = min d (hgt l m) ∧ Hid (SS.OwnSS wr w1.heap.size p D c (rowsTo l m D) vs ∧ Below w1.heap.size w1 wr)) (fun _ s5 _ => n1 - (intOf s5).toNat)
  case atStart => exact ⟨0, _, 0, 0, [], Nat.zero_le _, rfl, rfl, by omega, HR0⟩
  case round =>
    clear HR0
    obtain ⟨d, p, D, c, vs, hd, rfl, rfl, hD, HR⟩ := hrel
    have HD := Lib.hid hD
    clear hD
    by_cases hltd : d < n1
    · have hdn : (d : Int) < (n1 : Int) := by omega
      have hE := That.empty_own (T := 3) wr
      have HG0 : Hid (That.G1 wr.heap.size wr (wr.alloc (.cells #[] 3)) (.slice (some ⟨wr.heap.size, 0, none⟩) 0 0) (sel (atD l m d) (l.take 0))) := ⟨hE, below_alloc wr _⟩
      clear hE
      go_wp2_with fail
      obtain ⟨w5, hw5⟩ : ∃ w5, w5 = wr := ⟨_, rfl⟩
      subst hw5
      generalize w5.alloc (.cells #[] 3) = V5 at *
      go_loopw [6, 7] (fun s6 s7 wq => ∃ i : Nat, i ≤ n1 ∧ s7 = .int .i64 i ∧ Hid (That.G1 w5.heap.size w5 wq s6 (sel (atD l m d) (l.take i)))) (fun _ s7 _ => n1 - (intOf s7).toNat)
      case atStart => exact ⟨0, Nat.zero_le _, rfl, HG0⟩
      case round =>
        clear HG0
        obtain ⟨i, hi', rfl, HI⟩ := hrel
        have hb5 := HR.out.2.trans (HI.out.2.mono HR.out.2.size)
        by_cases hlti : i < n1
        · have hin : (i : Int) < (n1 : Int) := by omega
          have hi00 : (0 : Int) ≤ (i : Int) := by omega
          obtain ⟨b, off, x, y, rfl, hx, e1, e2⟩ := (HM3.out wr hb5).1.1.at i hlti
          obtain ⟨v, hv, hvd⟩ := HT.out i x y hx
          have hcell : wr.cell? ⟨g, i, none⟩ = some (.int .i64 (v : Int)) := by
            obtain ⟨bb, oo, zz, hp, hzz, e3⟩ := (HM3.out wr hb5).1.2.at i hlti
            obtain ⟨v', hv', rfl⟩ := row_at hzz
            obtain rfl : v' = v := by rw [hv] at hv'; exact (Option.some.inj hv').symm
            injection hp with hp
            injection hp with hp1 hp2
            subst hp1 hp2
            rw [Nat.zero_add] at e3
            exact e3
          have q1 := (HM3.out wr hb5).2.1
          have HX := Lib.hid (sel_next (atD l m d) hx)
          have hsl : (sel (atD l m d) (l.take i)).length ≤ 10 := Nat.le_trans (sel_len _ _) (by rw [List.length_take]; omega)
          have hBs : w5.heap.size ≤ wr.heap.size := HI.out.2.size
          by_cases hq : (v : Int) = (d : Int)
          · have HX2 : Hid (sel (atD l m d) (l.take (i + 1)) = sel (atD l m d) (l.take i) ++ [x]) := by unfold Hid; rw [HX.out, if_pos (by unfold atD; rw [← hvd]; simpa using hq)]
            have hvd2 : v = d := by omega
            have hown := HI.out.1
            have HSS : Hid (∀ X, Below wr.heap.size wr X → X.cell? ⟨w.heap.size, 0, none⟩ = some (.slice (some ⟨b, off, none⟩) n1 c1) ∧ X.cell? ⟨b, off + i * 2, none⟩ = some (.int .i64 x)) := fun X hX => ⟨(hX.cell (World.block_lt_of_cell? wr _ q1)).trans q1, (hX.cell (World.block_lt_of_cell? wr _ e1)).trans e1⟩
            subst hvd2
            clear hx hv hvd HX hb5 hq
            generalize hLs : sel (atD l m v) (l.take i) = Ls at *
            clear hLs
            go_wp2_with (at_builtin; refine wpList_append_lies _ rfl _ _ 27 rfl w5.heap.size 3 i1 (.int .i64 0) 1 8 Try.underlying27 hi1 hz0 hz1 hz2 rfl (by decide) u6 Ls.length (ints Ls) rfl (hown.alloc _) ⟨wr.heap.size, 0, none⟩ 1 1 [.int .i64 x] rfl rfl (cell_one_new _ _ _) (by simp [Value.oneCell']) (by decide) (by unfold maxLen; omega) (by omega) (by simp <;> omega) (wr.heap.size + 1) (by simp) ?_; intro g9 cap9 w9 hown9 hgrow9 hat9 hlt9)
            have HG9 := Lib.hid (g1_app HI.out hBs (below_alloc wr _) hown9 hgrow9)
            rw [← HX2.out] at HG9
            clear hown9 hgrow9 hat9 hlt9
            exact ⟨⟨i + 1, by omega, by go_num, HG9⟩, by simp [intOf]; omega⟩
          · have hqb : ((v : Int) == (d : Int)) = false := by simpa using hq
            have HX2 : Hid (sel (atD l m d) (l.take (i + 1)) = sel (atD l m d) (l.take i)) := by unfold Hid; rw [HX.out, if_neg (by unfold atD; rw [← hvd]; simpa using hq), List.append_nil]
            have HI2 := HI
            rw [← HX2.out] at HI2
            clear hx hv hvd HX hb5
            go_wp2_with fail
            exact ⟨⟨i + 1, by omega, by go_num, HI2⟩, by simp [intOf]; omega⟩
        · obtain rfl : i = n1 := by omega
          have hin : ¬ (i : Int) < (i : Int) := by omega
          have hG := HI.out
          rw [List.take_of_length_le (by rw [HL1.out]; exact Nat.le_refl _)] at hG
          have HGR := Lib.hid (show That.G1 w5.heap.size w5 wr u6 (RowsM.rowAt l m d) from hG)
          clear hG HI
          have HCS : Hid ((RowsM.rowAt l m d = [] ∧ hgt l m ≤ d) ∨ (0 < (RowsM.rowAt l m d).length ∧ d < hgt l m)) := by
            unfold Hid
            rcases Nat.lt_or_ge d (hgt l m) with h | h
            · exact .inr ⟨List.length_pos_iff.2 ((hgt_is l m).2.2 d h), h⟩
            · exact .inl ⟨row_empty HG.out HC.out (hgt_is l m).2.1 h, h⟩
          have HNX := Lib.hid (rowsTo_next l m d)
          have hll : (RowsM.rowAt l m d).length ≤ 10 := Nat.le_trans (rowAt_len l m d) (by rw [HL1.out]; exact hn1)
          generalize RowsM.rowAt l m d = r at *
          have HOS := Lib.hid (HR.out.1.below HGR.out.2)
          have HBW := Lib.hid (HR.out.2.trans (HGR.out.2.mono HR.out.2.size))
          have hs5 := HGR.out.2.size
          have hs15 := HR.out.2.size
          obtain ⟨pr, dr, hu6⟩ := From.own_form HGR.out.1
          subst hu6
          clear hb5
          rcases HCS.out with ⟨hr0, hdh⟩ | ⟨hr1, hdh⟩
          · subst hr0
            have hDD : D = min (d + 1) (hgt l m) := by have := HD.out; omega
            have HDD := Lib.hid hDD
            clear hDD HCS
            go_wp2_with fail
            exact ⟨⟨d + 1, p, D, c, vs, by omega, by go_num, rfl, HDD.out, ⟨HOS.out, HBW.out⟩⟩, by simp [intOf]; omega⟩
          · have hDd : D = d := by have := HD.out; omega
            subst hDd
            have hpos : (0 : Int) < (r.length : Int) := by omega
            have hDD : D + 1 = min (D + 1) (hgt l m) := by omega
            have HDD := Lib.hid hDD
            have hRl := rowsTo_len l m D
            have HRL := Lib.hid hRl
            generalize rowsTo l m D = R at *
            clear hRl hDD HCS
            have hown3 := HOS.out.out
            go_wp2_with (at_builtin; refine wpList_append_lies _ rfl _ _ 49 rfl w1.heap.size 27 i0 (.slice none 0 0) 1 24 Try.underlying49 hi hy0 hy1 hy2 rfl (by decide) (.slice p D c) D vs rfl (hown3.alloc _) ⟨wr.heap.size, 0, none⟩ 1 1 [.slice pr r.length dr] rfl rfl (cell_one_new _ _ _) (by simp [Value.oneCell']) (by decide) (by unfold maxLen; omega) (by omega) (by simp <;> omega) (wr.heap.size + 1) (by simp) ?_; intro g9 cap9 w9 hown9 hgrow9 hat9 hlt9)
            have hO := HR.out.1
            have hX5 := HGR.out.2.trans ((below_alloc wr (.cells #[.slice pr r.length dr] 27)).mono hs5)
            have hB9 : Below w1.heap.size w1 w9 := (HBW.out.trans ((below_alloc wr (.cells #[.slice pr r.length dr] 27)).mono HBW.out.size)).grown hgrow9 (by have := HBW.out.size; simp <;> omega) (fun k hk => (HOS.out.out.lt k hk).1)
            have HB9 := Lib.hid hB9
            have hrl := HRL.out
            subst hrl
            have HRN := Lib.hid (ownSS_app hO hs15 hX5 (HGR.out.1.alloc _) hown9 hgrow9 (hat9.imp_right (fun e => by simp <;> omega)))
            rw [← HNX.out] at HRN
            clear hown9 hgrow9 hat9 hlt9 hB9
            exact ⟨⟨R.length + 1, _, _, _, _, by omega, by go_num, rfl, HDD.out, ⟨HRN.out, HB9.out⟩⟩, by simp [intOf]; omega⟩
    · obtain rfl : d = n1 := by omega
      have hdn : ¬ (d : Int) < (d : Int) := by omega
      have hDh : D = hgt l m := by have := HD.out; omega
      subst hDh
      have HBD := Lib.hid (HB1.out.trans (HR.out.2.mono HB1.out.size))
      go_wp2_with fail
      go_ret
      exact ⟨p, c, vs, rfl, HR.out.1.base HB1.out.size, HBD.out⟩
set_option maxRecDepth 100000 in
set_option maxHeartbeats 8000000 in
theorem spec_any : SS.Gives 36 rowsP := by
  intro a1 a2 n1 n2 l m w hz1 hz2 h1 h2
  have hb := below_alloc w (.cells #[.slice a1 n1 n1, .slice a2 n2 n2] 33)
  have hf := box_first w (.slice a1 n1 n1) (.slice a2 n2 n2) 33
  have hf2 := box_second w (.slice a1 n1 n1) (.slice a2 n2 n2) 33
  have H1 := Lib.hid (h1.below hb)
  have H2 := Lib.hid (h2.below hb)
  have HL1 := Lib.hid h1.1
  have HB := Lib.hid hb
  clear h1 h2 hb
  go_enter Try.func36, Try.ntmps36
  go_wp2_with fail
  generalize w.alloc (.cells #[.slice a1 n1 n1, .slice a2 n2 n2] 33) = W at *
  refine (l5Good_any a1 a2 n1 n1 n2 n2 l m W H1.out H2.out).mono ?_
  rintro e w1 ⟨rfl, b1⟩
  have q1 := (b1.cell (World.block_lt_of_cell? W _ hf)).trans hf
  have q2 := (b1.cell (World.block_lt_of_cell? W _ hf2)).trans hf2
  have HB1 := Lib.hid (HB.out.trans (b1.mono HB.out.size))
  have K1 := Lib.hid (H1.out.below b1)
  have K2 := Lib.hid (H2.out.below b1)
  have HOS : Hid (SS.OwnSS (w1.alloc (.cells #[] 27)) w1.heap.size (some ⟨w1.heap.size, 0, none⟩) 0 0 [] []) :=
    ⟨That.empty_own w1, rfl, fun i r hr => by simp at hr, fun i v b hv => by simp at hv, fun i j u v b hu => by simp at hu⟩
  clear hf hf2 b1
  cases hg : good l m with
  | false =>
    have HE := Lib.hid (rows_bad hg)
    simp only [Bool.false_and]
    clear hg
    go_wp2_with fail
    go_ret2
    rw [HE.out]
    exact ⟨_, _, _, [], rfl, HOS.out.base HB1.out.size, by omega, by show 0 ≤ _; omega, HB1.out.trans ((below_alloc _ _).mono HB1.out.size)⟩
  | true =>
    cases hc : cyc l m with
    | true =>
      have HE := Lib.hid (rows_cyc hg hc)
      simp only [Bool.not_true, Bool.and_false]
      clear hg hc
      go_wp2_with fail
      go_ret2
      rw [HE.out]
      exact ⟨_, _, _, [], rfl, HOS.out.base HB1.out.size, by omega, by show 0 ≤ _; omega, HB1.out.trans ((below_alloc _ _).mono HB1.out.size)⟩
    | false =>
      have HE := Lib.hid (rows_yes hg hc)
      have HG := Lib.hid hg
      have HC := Lib.hid hc
      have hn1 : n1 ≤ 10 := by rw [← HL1.out]; exact (Table.good_few hg).1
      simp only [Bool.not_false, Bool.and_true]
      clear hg hc
      go_wp2_with fail
      refine (l5Rows_any a1 a2 n1 n1 n2 n2 l m w1 HG.out HC.out K1.out K2.out).mono ?_
      rintro e w2 ⟨p, d, vs, rfl, hos, b2⟩
      have HO := Lib.hid hos
      have HB2 := Lib.hid (HB1.out.trans (b2.mono HB1.out.size))
      have hh := (hgt_is l m).1
      rw [HL1.out] at hh
      have ho := off_le l m (hgt l m)
      rw [HL1.out] at ho
      have HOF := Lib.hid ho
      clear hos b2 q1 q2 ho
      go_wp2_with fail
      go_ret2
      rw [HE.out]
      exact ⟨_, _, _, vs, rfl, HO.out.base HB1.out.size, by omega, Nat.le_trans HOF.out (by omega), HB2.out⟩
end Go.Proofs.Ytlgfaabobpnflaa.RowsS
