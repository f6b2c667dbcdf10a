/- The model's ParseNumbers. -/
import Derived.Test.YtaikphcemldikaaDoorNumsI
import Derived.Test.YtaikphcemldikaaDoorStrs
namespace Go.Proofs.YtaikphcemldikaaDoor.NumsS
open Go.RowKit Dec Split Spl ListS GivesI Pairs Keep NumsM NumsI

/-- The parts in memory, apart from the row that grows. -/
def PC (w : World) (gp : Nat) (l : List ByteArray) : Prop := gp < w.heap.size ∧ Strs.Cells w gp 0 l
theorem PC.grown {w w' : World} {gp g : Nat} {l : List ByteArray} (h : PC w gp l) (hg : w.grownBy w' (some g)) (hne : gp ≠ g) : PC w' gp l :=
  ⟨Nat.lt_of_lt_of_le h.1 hg.size, fun i x hi => (World.cell?_of_block (w := w) (w' := w') (a := ⟨gp, 0 + i, none⟩) (hg.block gp h.1 (fun e => hne (Option.some.inj e)))).trans (h.2 i x hi)⟩
theorem PC.below {w w' : World} {gp : Nat} {l : List ByteArray} (h : PC w gp l) (hb : Below w.heap.size w w') : PC w' gp l :=
  ⟨Nat.lt_of_lt_of_le h.1 hb.size, h.2.below hb h.1⟩
theorem PC.at {w : World} {gp : Nat} {l : List ByteArray} {k : Nat} {p : ByteArray} (h : PC w gp l) (hk : l[k]? = some p) : w.cell? ⟨gp, k, none⟩ = some (.string p) := by
  have := h.2 k p hk
  rwa [Nat.zero_add] at this
def rl (s : By) : Option (List Int) := if s = noneL then some [] else fin (rdAll (spl 44 s))
def AnsL (s : ByteArray) (w : World) (e : Ending) (w' : World) : Prop := Res (rl (tl' s)).isSome ((rl (tl' s)).getD []) w e w'
theorem ansL_fail {s : ByteArray} {w w3 : World} (h : rl (tl' s) = none) (hb : Below w.heap.size w w3) : AnsL s w (.returned (.tuple #[.slice (some ⟨w3.heap.size, 0, none⟩) 0 0, .bool false])) (w3.alloc (.cells #[] 3)) := by
  unfold AnsL
  rw [h]
  exact ⟨_, _, _, rfl, ownsRow_base (empty_own _) hb.size, by omega, hb.trans ((below_alloc _ _).mono hb.size)⟩
theorem ansL_ok {s : ByteArray} {w w3 : World} {L : List Int} {p : Option Addr} {k d : Nat} (h : rl (tl' s) = some L) (hk2 : k ≤ 1048576) (ho : w3.ownsRow w.heap.size 3 1 (.slice p k d) k (ints L)) (hb : Below w.heap.size w w3) : AnsL s w (.returned (.tuple #[.slice p k d, .bool true])) w3 := by
  unfold AnsL
  rw [h]
  exact ⟨_, _, _, rfl, ho, hk2, hb⟩
theorem rl_none : rl (tl' ⟨#[110, 111, 110, 101]⟩) = some [] := rfl
theorem rl_fin {s : ByteArray} (h2 : s ≠ ⟨#[110, 111, 110, 101]⟩) : rl (tl' s) = fin (rdAll (spl 44 (tl' s))) := by
  unfold rl
  rw [if_neg]
  intro e
  apply h2
  rw [← ofL_tl s, e]
  rfl
theorem part_size {s p : ByteArray} {k : Nat} (h : (parts s 44)[k]? = some p) : p.size ≤ s.size := by
  have h1 : ((parts s 44).map tl')[k]? = some (tl' p) := by rw [List.getElem?_map, h]; rfl
  rw [parts_spl] at h1
  have := (spl_mem 44 (tl' s) _ (List.mem_of_getElem? h1)).1
  rwa [tl_len, tl_len] at this
theorem ints_of {w : World} {B n c : Nat} {p : Option Addr} {L : List Int} (h : w.ownsRow B 3 1 (.slice p n c) n (ints L)) : Ints w p n L := by
  have e := GivesI.holds_own h
  refine ⟨e.1, ?_⟩
  rcases e.2 with h0 | ⟨b, off, hp, hb, hc⟩
  · exact .inl h0
  · exact .inr ⟨b, off, hp, hb, hc⟩
theorem empty_ne {s : ByteArray} (h : s ≠ ⟨#[]⟩) : (s.toList == []) = false := by
  have e : (⟨#[]⟩ : ByteArray).toList = [] := by rw [ByteArray.toList_eq]
  rw [← e]
  exact str_ne h
theorem head_of {p : ByteArray} {x : UInt8} {r : By} (h : tl' p = x :: r) (h0 : 0 < p.size) : p[0] = x := by
  have h1 : (tl' p)[0]? = some x := by rw [h]; rfl
  unfold tl' at h1
  have hl : 0 < p.data.toList.length := by simpa using h0
  rw [List.getElem?_eq_getElem hl] at h1
  exact Option.some.inj h1
theorem rest_of {p : ByteArray} {x : UInt8} {r : By} (h : tl' p = x :: r) : p.extract 1 p.size = ofL r := by
  rw [← ofL_tl (p.extract 1 p.size), ext_data, h]
  congr 1
  have : p.size = r.length + 1 := by rw [← tl_len, h]; rfl
  rw [this]
  simp
/-- A loop's state: what is read so far, in a row of its own apart from the parts. -/
def St (w wr : World) (s : ByteArray) (gp : Nat) (v : Value) (k : Nat) (acc : List Int) : Prop :=
  ∃ g d, v = .slice (some ⟨g, 0, none⟩) k d ∧ gp ≠ g ∧ wr.ownsRow w.heap.size 3 1 (.slice (some ⟨g, 0, none⟩) k d) k (ints acc) ∧ PC wr gp (parts s 44) ∧ Below w.heap.size w wr
set_option maxRecDepth 100000 in
set_option maxHeartbeats 8000000 in
theorem list_any (s : ByteArray) (w : World) (hs : s.size ≤ 4000) :
    Calls Tryd.prog 26 #[.string s] w (AnsL s w) := by
  obtain ⟨i0, hi, hy0, hy1, hy2⟩ := Rec.info_parts infoInt
  go_enter Tryd.func26, Tryd.ntmps26
  by_cases hnone : s = ⟨#[110, 111, 110, 101]⟩
  · subst hnone
    go_wp2_with fail
    go_ret2
    exact ansL_ok rl_none (by omega) (empty_own w) (below_alloc w _)
  · have hne := none_ne hnone
    have HF := Lib.hid (rl_fin hnone)
    have HO0 := Lib.hid (empty_own (T := 3) w)
    have HB0 := Lib.hid (below_alloc w (.cells #[] 3))
    have HW1 : Hid (w.heap.size < (w.alloc (.cells #[] 3)).heap.size) := by unfold Hid; simp
    clear hnone
    go_wp2_with fail
    generalize w.alloc (.cells #[] 3) = W at *
    refine (l1Split_any s 44 W (by omega)).mono ?_
    rintro e w1 ⟨v, rfl, hown1, hb1⟩
    obtain ⟨N, hN⟩ : ∃ N, (parts s 44).length = N + 1 := ⟨(parts s 44).length - 1, by unfold parts; simp⟩
    rw [hN] at hown1
    obtain ⟨gp, capp, rfl⟩ := ownsRow_succ hown1
    have hgp := hown1.lt gp rfl
    have hN2 : N ≤ 4000 := by
      have := spl_length 44 (tl' s)
      rw [← parts_spl, List.length_map, hN, tl_len] at this
      omega
    have hPC : PC w1 gp (parts s 44) := by
      refine ⟨hgp.2, fun i x hi => ?_⟩
      have hl : i < (parts s 44).length := (List.getElem?_eq_some_iff.1 hi).1
      rw [Nat.zero_add, hown1.cellAt i (by omega)]
      unfold strs
      rw [List.getElem?_map, hi]
      rfl
    have HS0 : Hid (St w w1 s gp (.slice (some ⟨w.heap.size, 0, none⟩) 0 0) 0 []) := ⟨_, _, rfl, by have := HW1.out; omega, ownsRow_below HO0.out hb1, hPC, HB0.out.trans (hb1.mono HB0.out.size)⟩
    have HNN := Lib.hid hN
    clear hown1 hgp hPC hb1 hN HO0 HB0 HW1 hne
    go_wp2_with fail
    go_loopw [4, 6] (fun v4 v6 wr => ∃ (k : Nat) (acc : List Int), k ≤ N + 1 ∧ v6 = .int .i64 k ∧ Hid (rdAll ((spl 44 (tl' s)).take k) = some acc) ∧ Hid (St w wr s gp v4 k acc)) (fun _ v6 _ => N + 1 - (intOf v6).toNat)
    case atStart => exact ⟨0, [], Nat.zero_le _, rfl, rfl, HS0⟩
    case round =>
      obtain ⟨k, acc, hk, rfl, HR, HS⟩ := hrel
      clear HS0
      obtain ⟨g, d, rfl, hgg, hown, hPC, hB⟩ := HS.out
      have HB := Lib.hid hB
      have HPC := Lib.hid hPC
      have HGG := Lib.hid hgg
      clear HS hB hPC hgg
      by_cases hlt : k < N + 1
      · obtain ⟨p, hp⟩ : ∃ p, (parts s 44)[k]? = some p := ⟨_, List.getElem?_eq_getElem (by rw [HNN.out]; exact hlt)⟩
        have hcp := HPC.out.at hp
        have hps := part_size hp
        have hspl : (spl 44 (tl' s))[k]? = some (tl' p) := by rw [← parts_spl, List.getElem?_map, hp]; rfl
        have HSPL := Lib.hid hspl
        have hkn : (k : Int) < (N : Int) + 1 := by omega
        have hk00 : (0 : Int) ≤ (k : Int) := by omega
        have hwr := HB.out.size
        clear hspl hp
        by_cases hk0 : 0 < k
        · have hk1 : (0 : Int) < (k : Int) := by omega
          cases hst : tl' p with
          | nil =>
            have hpz : p = ⟨#[]⟩ := by rw [← ofL_tl p, hst]; rfl
            subst hpz
            have HV : Hid (rl (tl' s) = none) := by
              unfold Hid
              have := up_next hk0 HSPL.out HR.out
              rw [hst] at this
              rw [HF.out, up_none this]
              rfl
            clear hst
            go_wp2_with fail
            go_ret2
            exact ansL_fail HV.out HB.out
          | cons x r =>
            have hp0 : 0 < p.size := by rw [← tl_len, hst]; simp
            have hx := head_of hst hp0
            have hpn : (p.toList == []) = false := empty_ne (fun e => by rw [e] at hp0; exact absurd hp0 (by decide))
            by_cases hx32 : x = 32
            · subst hx32
              have hxq : ((p[0].toNat : Int) != 32) = false := by rw [hx]; rfl
              have hrest := rest_of hst
              have hsz : (ofL r).size ≤ 4000 := by rw [ofL_size]; have := congrArg List.length hst; rw [tl_len] at this; simp at this; omega
              have hread := fun W => Read.l1Read_any (ofL r) W (by omega)
              rw [show pv (ofL r) = pvL r from rfl] at hread
              have hup := up_next hk0 HSPL.out HR.out
              rw [hst, strip_sp, Option.bind_some] at hup
              cases hpv : pvL r with
              | none =>
                rw [hpv] at hread hup
                have HV : Hid (rl (tl' s) = none) := by unfold Hid; rw [HF.out, up_none hup]; rfl
                have HRD := Lib.hid hread
                clear hread hup hpv hst hx
                go_wp2_with fail
                refine (HRD.out _).mono ?_
                rintro e w' ⟨rfl, mm, rfl⟩
                simp only [Option.getD_none, Option.isSome_none]
                go_wp2_with fail
                go_ret2
                exact ansL_fail HV.out (HB.out.trans ((Joins.below_draws _ _ _).mono HB.out.size))
              | some n =>
                rw [hpv] at hread hup
                have HUP : Hid (rdAll ((spl 44 (tl' s)).take (k + 1)) = some (acc ++ [n])) := hup
                have HRD := Lib.hid hread
                clear hread hup hpv hst hx
                go_wp2_with fail
                refine (HRD.out _).mono ?_
                rintro e w' ⟨rfl, mm, rfl⟩
                simp only [Option.getD_some, Option.isSome_some]
                obtain ⟨w3, hw3⟩ : ∃ w3, wr.drewN mm = w3 := ⟨_, rfl⟩
                have hbd : Below wr.heap.size wr w3 := by rw [← hw3]; exact Joins.below_draws _ _ _
                rw [hw3]
                have hown3 := ownsRow_below hown hbd
                have HPC3 := Lib.hid (HPC.out.below hbd)
                have HB3 := Lib.hid (HB.out.trans (hbd.mono HB.out.size))
                have hw33 := HB3.out.size
                clear hw3 hbd hown HPC HB hcp
                go_wp2_with (at_builtin; refine wpList_append_lies _ rfl _ _ 22 rfl w.heap.size 3 i0 (.int .i64 0) 1 8 Tryd.underlying22 hi hy0 hy1 hy2 rfl (by decide) _ _ _ rfl (hown3.alloc _) ⟨w3.heap.size, 0, none⟩ 1 1 [.int .i64 n] rfl rfl (cell_one_new _ _ _) (by simp [Value.oneCell']) (by decide) (by unfold maxLen; omega) (by omega) (by simp; omega) _ rfl ?_; intro g9 cap9 w9 hown' hgrow hat hlt9; have HB9 := Lib.hid ((HB3.out.alloc hw33 _).grown hgrow (by simp; omega) (fun j hj => (hown3.lt j hj).1)); have HP9 := Lib.hid ((HPC3.out.below (below_alloc _ _)).grown hgrow HGG.out); have HG9 : Hid (gp ≠ g9) := (by have h1 := HGG.out; have h2 := HPC3.out.1; intro e; rcases hat with hat | hat; (have h3 : g = g9 := Option.some.inj hat; omega); (simp at hat; omega)); have HO9 := Lib.hid hown'; clear hown' hgrow hat hlt9)
                refine ⟨⟨k + 1, acc ++ [n], by omega, by go_num, HUP, ⟨g9, cap9, rfl, HG9.out, ?_, HP9.out, HB9.out⟩⟩, by simp [intOf]; omega⟩
                rw [ints_append]
                exact HO9.out
            · have hxq : ((p[0].toNat : Int) != 32) = true := by
                rw [hx, bne_iff_ne]
                intro e
                apply hx32
                apply UInt8.toNat_inj.1
                show x.toNat = 32
                omega
              have HV : Hid (rl (tl' s) = none) := by
                unfold Hid
                have := up_next hk0 HSPL.out HR.out
                rw [hst, strip_other _ hx32] at this
                rw [HF.out, up_none this]
                rfl
              clear hst hx hx32
              go_wp2_with fail
              go_ret2
              exact ansL_fail HV.out HB.out
        · obtain rfl : k = 0 := by omega
          have hread := fun W => Read.l1Read_any p W (by omega)
          rw [pv_pvL p] at hread
          have hup := up_first HSPL.out
          have hacc : acc = [] := by
            have := HR.out
            rw [List.take_zero] at this
            exact (Option.some.inj this).symm
          subst hacc
          cases hpv : pvL (tl' p) with
          | none =>
            rw [hpv] at hread hup
            have HV : Hid (rl (tl' s) = none) := by unfold Hid; rw [HF.out, up_none hup]; rfl
            have HRD := Lib.hid hread
            clear hread hup hpv
            go_wp2_with fail
            refine (HRD.out _).mono ?_
            rintro e w' ⟨rfl, mm, rfl⟩
            simp only [Option.getD_none, Option.isSome_none]
            go_wp2_with fail
            go_ret2
            exact ansL_fail HV.out (HB.out.trans ((Joins.below_draws _ _ _).mono HB.out.size))
          | some n =>
            rw [hpv] at hread hup
            have HUP : Hid (rdAll ((spl 44 (tl' s)).take 1) = some [n]) := hup
            have HRD := Lib.hid hread
            clear hread hup hpv
            go_wp2_with fail
            refine (HRD.out _).mono ?_
            rintro e w' ⟨rfl, mm, rfl⟩
            simp only [Option.getD_some, Option.isSome_some]
            obtain ⟨w3, hw3⟩ : ∃ w3, wr.drewN mm = w3 := ⟨_, rfl⟩
            have hbd : Below wr.heap.size wr w3 := by rw [← hw3]; exact Joins.below_draws _ _ _
            rw [hw3]
            have hown3 := ownsRow_below hown hbd
            have HPC3 := Lib.hid (HPC.out.below hbd)
            have HB3 := Lib.hid (HB.out.trans (hbd.mono HB.out.size))
            have hw33 := HB3.out.size
            clear hw3 hbd hown HPC HB hcp
            go_wp2_with (at_builtin; refine wpList_append_lies _ rfl _ _ 22 rfl w.heap.size 3 i0 (.int .i64 0) 1 8 Tryd.underlying22 hi hy0 hy1 hy2 rfl (by decide) _ _ _ rfl (hown3.alloc _) ⟨w3.heap.size, 0, none⟩ 1 1 [.int .i64 n] rfl rfl (cell_one_new _ _ _) (by simp [Value.oneCell']) (by decide) (by unfold maxLen; omega) (by omega) (by simp; omega) _ rfl ?_; intro g9 cap9 w9 hown' hgrow hat hlt9; have HB9 := Lib.hid ((HB3.out.alloc hw33 _).grown hgrow (by simp; omega) (fun j hj => (hown3.lt j hj).1)); have HP9 := Lib.hid ((HPC3.out.below (below_alloc _ _)).grown hgrow HGG.out); have HG9 : Hid (gp ≠ g9) := (by have h1 := HGG.out; have h2 := HPC3.out.1; intro e; rcases hat with hat | hat; (have h3 : g = g9 := Option.some.inj hat; omega); (simp at hat; omega)); have HO9 := Lib.hid hown'; clear hown' hgrow hat hlt9)
            exact ⟨⟨1, [n], by omega, by go_num, HUP, ⟨g9, cap9, rfl, HG9.out, HO9.out, HP9.out, HB9.out⟩⟩, by simp [intOf]⟩
      · obtain rfl : k = N + 1 := by omega
        have hkn : ¬ ((N + 1 : Nat) : Int) < (N : Int) + 1 := by omega
        have hall : rdAll (spl 44 (tl' s)) = some acc := by
          have := HR.out
          rwa [List.take_of_length_le (by rw [← parts_spl, List.length_map, HNN.out]; exact Nat.le_refl _)] at this
        have hfin : rl (tl' s) = if okB acc = true then some acc else none := by rw [HF.out, hall]; rfl
        have HFIN := Lib.hid hfin
        have hI := ints_of hown
        have HO := Lib.hid hown
        clear hall hfin hown
        go_wp2_with fail
        refine (numbers_any _ (N + 1) d acc wr (by omega) hI).mono ?_
        rintro e w' ⟨rfl, rfl⟩
        clear hI
        cases hok : okB acc with
        | true =>
          have HV : Hid (rl (tl' s) = some acc) := by unfold Hid; rw [HFIN.out, if_pos hok]
          clear hok
          go_wp2_with fail
          go_ret2
          exact ansL_ok HV.out (by omega) HO.out HB.out
        | false =>
          have HV : Hid (rl (tl' s) = none) := by unfold Hid; rw [HFIN.out, if_neg (by rw [hok]; simp)]
          clear hok
          go_wp2_with fail
          go_ret2
          exact ansL_fail HV.out HB.out
theorem spec_any (s : ByteArray) (w : World) (_hs : s.size ≤ 1048576) :
    Calls Tryd.prog 7 #[.string s] w (Ans s w) := by
  go_enter Tryd.func7, Tryd.ntmps7
  by_cases hbig : s.size ≤ 4000
  · have hb1 : ¬ (4000 : Int) < (s.size : Int) := by omega
    have he : rv (tl' s) = rl (tl' s) := by unfold rv rl; rw [tl_len, if_pos hbig]
    have HE := Lib.hid he
    clear he
    go_wp2_with fail
    refine (list_any s w hbig).mono ?_
    rintro e w' ⟨p, k, d, rfl, ho, hk, hb⟩
    have HO := Lib.hid ho
    have HB := Lib.hid hb
    clear ho hb
    go_wp2_with fail
    go_ret2
    unfold Ans
    rw [HE.out]
    exact ⟨_, _, _, rfl, HO.out, hk, HB.out⟩
  · have hb1 : (4000 : Int) < (s.size : Int) := by omega
    have HV := Lib.hid (rv_big hbig)
    go_wp2_with fail
    go_ret2
    exact ans_fail HV.out (Below.refl _ _)
end Go.Proofs.YtaikphcemldikaaDoor.NumsS
