/- The program's ParseNumbers. -/
import Derived.Test.YtaikphcemldikaaDoorNumsM
import Derived.Test.YtaikphcemldikaaDoorParse
import Derived.Test.YtaikphcemldikaaDoorListI
import Derived.Test.YtaikphcemldikaaDoorGivesI
import Derived.Deep.AppendLies
namespace Go.Proofs.YtaikphcemldikaaDoor.NumsI
open Go.RowKit Dec Split Spl ListS GivesI Pairs Keep NumsM

/-- What the program's variables hold: the table and the two sentinels; internal/bytealg.MaxLen some int. -/
structure Mem (w : World) : Prop where
  vars : Parse.Vars w
  len : ∃ m : Int, w.cell? ⟨1, 0, none⟩ = some (.int .i64 m)
theorem Mem.below {w w' : World} (h : Mem w) (hb : Below w.heap.size w w') : Mem w' := by
  have hz := h.vars.tab.size
  obtain ⟨m, hm⟩ := h.len
  exact ⟨h.vars.below hb, m, (hb.cell (p := ⟨1, 0, none⟩) (by show 1 < _; omega)).trans hm⟩
theorem cut_any (s sep : ByteArray) (w : World) (hs : s.size ≤ 1048576) (hm : Mem w) :
    Calls Tryd.prog 27 #[.string s, .string sep] w fun e w' => e = .returned (.tuple #[.string (ofL (Lib.cut (tl' s) (tl' sep)).1), .string (ofL (Lib.cut (tl' s) (tl' sep)).2.1), .bool (Lib.cut (tl' s) (tl' sep)).2.2]) ∧ Below w.heap.size w w' := by
  obtain ⟨m, hc⟩ := hm.len
  refine (Tryd.strings_Cut s sep m w (by omega) hc).mono ?_
  rintro e w' ⟨rfl, n, rfl⟩
  exact ⟨rfl, Joins.below_draws _ _ _⟩
def szOf : Value → Nat
  | .string s => s.size
  | _ => 0
theorem infoInt : (Tryd.prog.info? 3).map (fun i => (i.zero, i.size, i.bytes)) = some (some (.int .i64 0), 1, 8) := by kernel_rfl
theorem empty_own {T : TypeId} (w : World) : (w.alloc (.cells #[] T)).ownsRow w.heap.size T 1 (.slice (some ⟨w.heap.size, 0, none⟩) 0 0) 0 [] :=
  World.ownsRow_made w #[] 0 (Nat.le_refl _) (by unfold maxLen; omega) (by simp)
theorem ints_append (l1 l2 : List Int) : ints (l1 ++ l2) = ints l1 ++ ints l2 := by unfold ints; rw [List.map_append]
/-- What both answer. -/
def Ans (s : ByteArray) (w : World) (e : Ending) (w' : World) : Prop := Res (rv (tl' s)).isSome ((rv (tl' s)).getD []) w e w'
theorem ans_fail {s : ByteArray} {w w3 : World} (h : rv (tl' s) = none) (hb : Below w.heap.size w w3) : Ans s w (.returned (.tuple #[.slice (some ⟨w3.heap.size, 0, none⟩) 0 0, .bool false])) (w3.alloc (.cells #[] 3)) := by
  unfold Ans
  rw [h]
  exact ⟨_, _, _, rfl, ownsRow_base (empty_own _) hb.size, by omega, hb.trans ((below_alloc _ _).mono hb.size)⟩
theorem ans_ok {s : ByteArray} {w w3 : World} {L : List Int} {p : Option Addr} {k d : Nat} (h : rv (tl' s) = some L) (hk2 : k ≤ 1048576) (ho : w3.ownsRow w.heap.size 3 1 (.slice p k d) k (ints L)) (hb : Below w.heap.size w w3) : Ans s w (.returned (.tuple #[.slice p k d, .bool true])) w3 := by
  unfold Ans
  rw [h]
  exact ⟨_, _, _, rfl, ho, hk2, hb⟩
theorem tl_len (s : ByteArray) : (tl' s).length = s.size := by unfold tl'; simp
theorem rv_big {s : ByteArray} (h : ¬ s.size ≤ 4000) : rv (tl' s) = none := by unfold rv; rw [tl_len, if_neg h]
theorem rv_none : rv (tl' ⟨#[110, 111, 110, 101]⟩) = some [] := rfl
theorem rv_fin {s : ByteArray} (h : s.size ≤ 4000) (h2 : s ≠ ⟨#[110, 111, 110, 101]⟩) : rv (tl' s) = fin (rdAll (spl 44 (tl' s))) := by
  unfold rv
  rw [tl_len, if_pos h, if_neg]
  intro e
  apply h2
  rw [← ofL_tl s, e]
  rfl
theorem str_ne {a b : ByteArray} (h : a ≠ b) : (a.toList == b.toList) = false := Read.str_ne h
theorem none_ne {s : ByteArray} (h : s ≠ ⟨#[110, 111, 110, 101]⟩) : (s.toList == [110, 111, 110, 101]) = false := by
  have e : (⟨#[110, 111, 110, 101]⟩ : ByteArray).toList = [110, 111, 110, 101] := by rw [ByteArray.toList_eq]
  rw [← e]
  exact str_ne h
theorem okL_snoc {acc : List Int} {n : Int} (h : okL acc) (hn : inR n) (hl : acc.length + 1 ≤ 40) : okL (acc ++ [n]) := by
  refine ⟨by simp; omega, fun z hz => ?_⟩
  rcases List.mem_append.1 hz with hz | hz
  · exact h.2 z hz
  · simp at hz
    subst hz
    exact hn
set_option maxRecDepth 100000 in
set_option maxHeartbeats 8000000 in
theorem impl_any (s0 : ByteArray) (w : World) (hs : s0.size ≤ 1048576) (hm : Mem w) :
    Calls Tryd.prog 8 #[.string s0] w (Ans s0 w) := by
  obtain ⟨i0, hi, hy0, hy1, hy2⟩ := Rec.info_parts infoInt
  have HM : Hid (∀ wr, Below w.heap.size w wr → Mem wr) := fun wr hb => hm.below hb
  clear hm
  go_enter Tryd.func8, Tryd.ntmps8
  by_cases hbig : s0.size ≤ 4000
  · have hb1 : ¬ (4000 : Int) < (s0.size : Int) := by omega
    by_cases hnone : s0 = ⟨#[110, 111, 110, 101]⟩
    · subst hnone
      go_wp2_with fail
      go_step3
      go_wp2_with fail
      (first | go_ret2 | (rw [Exit.noGoto_ret]; go_ret2))
      exact ans_ok rv_none (by omega) (empty_own w) (below_alloc w _)
    · have hne : (s0.toList == [110, 111, 110, 101]) = false := none_ne hnone
      have HF := Lib.hid (rv_fin hbig hnone)
      have ho0 := empty_own (T := 3) w
      have HO0 := Lib.hid ho0
      have HB0 := Lib.hid (below_alloc w (.cells #[] 3))
      clear hnone ho0
      go_wp2_with fail
      go_step3
      go_wp2_with fail
      go_step3
      go_wp2_with fail
      generalize w.alloc (.cells #[] 3) = W at *
      go_loopw [0, 4] (fun v0 v4 wr => ∃ (s : ByteArray) (acc : List Int), v0 = .string s ∧ s.size ≤ 4000 ∧ Hid (NumsM.Inv (tl' s0) (tl' s) acc) ∧ Hid (wr.ownsRow w.heap.size 3 1 v4 acc.length (ints acc)) ∧ Hid (Below w.heap.size w wr)) (fun v0 _ _ => szOf v0)
      case atStart => exact ⟨s0, [], rfl, hbig, Lib.hid (NumsM.Inv.start _), HO0, HB0⟩
      case round =>
        obtain ⟨s, acc, rfl, hsz, HI, HO, HB⟩ := hrel
        clear HO0 HB0 hne hb1 hbig hs
        have hcl := cut_first_le (tl' s)
        have hcr := cut_less (tl' s)
        have hfail := HI.out.fail
        have hbad := fun n => HI.out.bad (n := n)
        have hlast := fun n => HI.out.last (n := n)
        have hnext := fun n => HI.out.next (n := n)
        have hcut := cut_any s ⟨#[44, 32]⟩ wr (by omega) (HM.out wr HB.out)
        rw [show tl' (⟨#[44, 32]⟩ : ByteArray) = [44, 32] from rfl] at hcut
        rw [tl_len] at hcl hcr
        generalize Lib.cut (tl' s) [44, 32] = c at *
        obtain ⟨x, r, f⟩ := c
        simp only at hcl hcr hfail hbad hlast hnext hcut
        have hlen : acc.length ≤ 40 := HI.out.2.1
        have hok := HI.out.2
        have HCUT := Lib.hid hcut
        have HFAIL := Lib.hid hfail
        have HBAD := Lib.hid hbad
        have HLAST := Lib.hid hlast
        have HNEXT := Lib.hid hnext
        have HCR := Lib.hid hcr
        have HOK := Lib.hid hok
        have hxs : (ofL x).size ≤ 4000 := by rw [ofL_size]; omega
        clear hcut hfail hbad hlast hnext hcr hok HI
        go_wp2_with fail
        refine HCUT.out.mono ?_
        rintro e w1 ⟨rfl, hb1⟩
        have HB1 := Lib.hid (HB.out.trans (hb1.mono HB.out.size))
        have HO1 := Lib.hid (ownsRow_below HO.out hb1)
        clear hb1 HO HB HCUT
        go_wp2_with fail
        refine (Parse.impl_any (ofL x) w1 (by omega) (HM.out w1 HB1.out).vars).mono ?_
        rintro e w2 ⟨rfl, hb2⟩
        have HB2 := Lib.hid (HB1.out.trans (hb2.mono HB1.out.size))
        have hown := ownsRow_below HO1.out hb2
        have hw2 : w.heap.size ≤ w2.heap.size := HB2.out.size
        have hpe : pv (ofL x) = pvL x := rfl
        rw [hpe]
        clear hb2 HO1 HB1 hpe hxs
        cases hp : pvL x with
        | none =>
          have HV : Hid (rv (tl' s0) = none) := by unfold Hid; rw [HF.out]; exact HFAIL.out hp
          clear hp HFAIL HBAD HLAST HNEXT HF
          simp only [Option.getD_none, Option.isSome_none]
          go_wp2_with (at_builtin; refine wpList_append_lies _ rfl _ _ 22 rfl w.heap.size 3 i0 (.int .i64 0) 1 8 Tryd.underlying22 hi hy0 hy1 hy2 rfl (by decide) _ _ _ rfl (hown.alloc _) ⟨w2.heap.size, 0, none⟩ 1 1 [.int .i64 0] rfl rfl (cell_one_new _ _ _) (by simp [Value.oneCell']) (by decide) (by unfold maxLen; omega) (by omega) (by simp; omega) _ rfl ?_; intro g9 cap9 w9 hown' hgrow hat hlt; have HB9 := Lib.hid ((HB2.out.alloc hw2 _).grown hgrow (by simp; omega) (fun j hj => (hown.lt j hj).1)); clear hown' hgrow hat hlt)
          (first | go_ret2 | (rw [Exit.noGoto_ret]; go_ret2))
          exact ans_fail HV.out HB9.out
        | some n =>
          simp only [Option.getD_some, Option.isSome_some]
          by_cases hn : inR n
          · have hcan := fun W => ListI.can_any n W
            rw [decide_eq_true hn] at hcan
            have HCAN := Lib.hid hcan
            clear hcan
            by_cases hl : acc.length + 1 ≤ 40
            · have hokn := okL_snoc HOK.out hn hl
              cases f with
              | false =>
                have HV : Hid (rv (tl' s0) = some (acc ++ [n])) := by unfold Hid; rw [HF.out]; exact HLAST.out n hp hokn rfl
                have hlz : ¬ (40 : Int) < (acc.length : Int) + 1 := by omega
                clear hp HFAIL HBAD HLAST HNEXT HF hn
                go_wp2_with (first | (go_at_call 29; refine (HCAN.out _).mono ?_; rintro e w' ⟨rfl, rfl⟩) | (at_builtin; refine wpList_append_lies _ rfl _ _ 22 rfl w.heap.size 3 i0 (.int .i64 0) 1 8 Tryd.underlying22 hi hy0 hy1 hy2 rfl (by decide) _ _ _ rfl (hown.alloc _) ⟨w2.heap.size, 0, none⟩ 1 1 [.int .i64 n] rfl rfl (cell_one_new _ _ _) (by simp [Value.oneCell']) (by decide) (by unfold maxLen; omega) (by omega) (by simp; omega) _ rfl ?_; intro g9 cap9 w9 hown' hgrow hat hlt; have HB9 := Lib.hid ((HB2.out.alloc hw2 _).grown hgrow (by simp; omega) (fun j hj => (hown.lt j hj).1)); have HO9 := Lib.hid hown'; clear hown' hgrow hat hlt))
                (first | go_ret2 | (rw [Exit.noGoto_ret]; go_ret2))
                exact ans_ok HV.out (by omega) (by rw [ints_append]; exact HO9.out) HB9.out
              | true =>
                have HI2 := Lib.hid (HNEXT.out n hp hokn rfl)
                have hless := HCR.out rfl
                have hlz : ¬ (40 : Int) < (acc.length : Int) + 1 := by omega
                clear hp HFAIL HBAD HLAST HNEXT HF hn
                go_wp2_with (first | (go_at_call 29; refine (HCAN.out _).mono ?_; rintro e w' ⟨rfl, rfl⟩) | (at_builtin; refine wpList_append_lies _ rfl _ _ 22 rfl w.heap.size 3 i0 (.int .i64 0) 1 8 Tryd.underlying22 hi hy0 hy1 hy2 rfl (by decide) _ _ _ rfl (hown.alloc _) ⟨w2.heap.size, 0, none⟩ 1 1 [.int .i64 n] rfl rfl (cell_one_new _ _ _) (by simp [Value.oneCell']) (by decide) (by unfold maxLen; omega) (by omega) (by simp; omega) _ rfl ?_; intro g9 cap9 w9 hown' hgrow hat hlt; have HB9 := Lib.hid ((HB2.out.alloc hw2 _).grown hgrow (by simp; omega) (fun j hj => (hown.lt j hj).1)); have HO9 := Lib.hid hown'; clear hown' hgrow hat hlt))
                refine ⟨⟨ofL r, acc ++ [n], rfl, by rw [ofL_size]; omega, by rw [tl_ofL]; exact HI2, ?_, HB9⟩, by show (ofL r).size < s.size; rw [ofL_size]; omega⟩
                unfold Hid
                rw [ints_append, List.length_append]
                exact HO9.out
            · have HV : Hid (rv (tl' s0) = none) := by unfold Hid; rw [HF.out]; exact HBAD.out n hp (fun h => by have := h.1; simp at this; omega)
              have hlz : (40 : Int) < (acc.length : Int) + 1 := by omega
              clear hp HFAIL HBAD HLAST HNEXT HF hn
              go_wp2_with (first | (go_at_call 29; refine (HCAN.out _).mono ?_; rintro e w' ⟨rfl, rfl⟩) | (at_builtin; refine wpList_append_lies _ rfl _ _ 22 rfl w.heap.size 3 i0 (.int .i64 0) 1 8 Tryd.underlying22 hi hy0 hy1 hy2 rfl (by decide) _ _ _ rfl (hown.alloc _) ⟨w2.heap.size, 0, none⟩ 1 1 [.int .i64 n] rfl rfl (cell_one_new _ _ _) (by simp [Value.oneCell']) (by decide) (by unfold maxLen; omega) (by omega) (by simp; omega) _ rfl ?_; intro g9 cap9 w9 hown' hgrow hat hlt; have HB9 := Lib.hid ((HB2.out.alloc hw2 _).grown hgrow (by simp; omega) (fun j hj => (hown.lt j hj).1)); clear hown' hgrow hat hlt))
              (first | go_ret2 | (rw [Exit.noGoto_ret]; go_ret2))
              exact ans_fail HV.out HB9.out
          · have hcan := fun W => ListI.can_any n W
            rw [decide_eq_false hn] at hcan
            have HCAN := Lib.hid hcan
            have HV : Hid (rv (tl' s0) = none) := by unfold Hid; rw [HF.out]; exact HBAD.out n hp (fun h => hn (h.2 n (by simp)))
            clear hcan hp HFAIL HBAD HLAST HNEXT HF hn
            go_wp2_with (first | (go_at_call 29; refine (HCAN.out _).mono ?_; rintro e w' ⟨rfl, rfl⟩) | (at_builtin; refine wpList_append_lies _ rfl _ _ 22 rfl w.heap.size 3 i0 (.int .i64 0) 1 8 Tryd.underlying22 hi hy0 hy1 hy2 rfl (by decide) _ _ _ rfl (hown.alloc _) ⟨w2.heap.size, 0, none⟩ 1 1 [.int .i64 n] rfl rfl (cell_one_new _ _ _) (by simp [Value.oneCell']) (by decide) (by unfold maxLen; omega) (by omega) (by simp; omega) _ rfl ?_; intro g9 cap9 w9 hown' hgrow hat hlt; have HB9 := Lib.hid ((HB2.out.alloc hw2 _).grown hgrow (by simp; omega) (fun j hj => (hown.lt j hj).1)); clear hown' hgrow hat hlt))
            (first | go_ret2 | (rw [Exit.noGoto_ret]; go_ret2))
            exact ans_fail HV.out HB9.out
  · have hb1 : (4000 : Int) < (s0.size : Int) := by omega
    have HV := Lib.hid (rv_big hbig)
    go_wp2_with fail
    go_step3
    go_wp2_with fail
    (first | go_ret2 | (rw [Exit.noGoto_ret]; go_ret2))
    exact ans_fail HV.out (Below.refl _ _)
end Go.Proofs.YtaikphcemldikaaDoor.NumsI
