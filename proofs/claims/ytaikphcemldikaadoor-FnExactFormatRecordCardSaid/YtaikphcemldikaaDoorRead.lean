/- Contracts of ParseInt, the model's and the program's: each returns what 'Dec.pv' says, for every string of at most 1048576 bytes; the program's where the library's variables lie as their initialisers lay them. -/
import Derived.Test.YtaikphcemldikaaDoorFmt
import Derived.Test.YtaikphcemldikaaDoorDec
import Derived.Test.YtaikphcemldikaaDoorShelfF
namespace Go.Proofs.YtaikphcemldikaaDoor.Read
open Go.RowKit Dec

theorem step_digit (s : List UInt8) (k m : Nat) (c : UInt8) (h : Lib.decFrom 0 (s.take k) = some m) (hk : s[k]? = some c) (h1 : 48 ≤ c.toNat) (h2 : c.toNat ≤ 57) :
    Lib.decFrom 0 (s.take (k + 1)) = some (m * 10 + (c.toNat - 48)) :=
  Lib.decFrom_take s k 0 m c _ h hk (by unfold Lib.digitVal; rw [if_pos ⟨h1, h2⟩])
theorem byte_at (s t : ByteArray) (ht : tl s = t.data.toList) (k : Nat) (h : k < t.size) : (tl s)[k]? = some t[k] := by
  rw [ht]
  have h' : k < t.data.toList.length := by simpa using h
  rw [List.getElem?_eq_getElem h']
  rfl
theorem len_eq (t : ByteArray) : t.data.toList.length = t.size := by simp
theorem str_ne {a b : ByteArray} (h : a ≠ b) : (a.toList == b.toList) = false := by
  rw [ByteArray.toList_eq, ByteArray.toList_eq, beq_eq_false_iff_ne]
  intro e
  apply h
  have : a.data = b.data := Array.toList_inj.1 e
  cases a; cases b; simp_all
theorem dec_six {l : List UInt8} {m : Nat} (h : Lib.decFrom 0 l = some m) (h6 : l.length ≤ 6) : m < 1000000 := by
  have h1 := Lib.decFrom_lt _ 0 m h
  have h2 := Nat.pow_le_pow_right (n := 10) (by decide) h6
  have e : (10 : Nat) ^ 6 = 1000000 := by decide
  omega
theorem l1Num_b (n : Int) (b : ByteArray) (w : World) (h0 : -999999 ≤ n) (h1 : n ≤ 999999) (hb : itoaB n = b) :
    Calls Tryd.prog 65 #[.int .i64 n] w fun e w' => e = .returned (.string b) ∧ ∃ m, w' = w.drewN m := by
  subst hb
  exact Num.l1Num_any n w h0 h1

set_option maxHeartbeats 1000000 in
theorem l1Read_pos (s : ByteArray) (w : World) (hs : s.size ≤ 1048576) (hn : ¬ (1 < s.size ∧ s.data.toList[0]? = some 45)) :
    Calls Tryd.prog 53 #[.string s] w fun e w' => e = .returned (.tuple #[.int .i64 ((pv s).getD 0), .bool (pv s).isSome]) ∧ ∃ m, w' = w.drewN m := by
  have ht : tl s = s.data.toList := by unfold tl; rw [if_neg hn]
  have hg : ∀ m : Nat, sg s m = m := fun m => by unfold sg; rw [if_neg hn]
  have HT := Lib.hid ht
  have HG := Lib.hid hg
  clear ht hg
  by_cases h1 : 1 < s.size
  · have hb : (((s[0]).toNat : Int) == 45) = false := by
      rw [beq_eq_false_iff_ne]
      intro e
      apply hn
      refine ⟨h1, ?_⟩
      have h0 : 0 < s.data.toList.length := by simpa using (by omega : 0 < s.size)
      rw [List.getElem?_eq_getElem h0]
      congr 1
      apply UInt8.toNat_inj.1
      show s[0].toNat = 45
      omega
    clear hn
    go_enter Tryd.func53, Tryd.ntmps53
    go_wp2_with fail
    by_cases h6 : 1 ≤ s.size ∧ s.size ≤ 6
    case neg =>
      have hno : pv s = none := pv_none_of_size s (by rw [HT.out, len_eq]; omega)
      have HNO := Lib.hid hno
      clear hno
      by_cases h0 : s.size < 1
      case pos =>
        refine (Num.l1In_low _ _ _ _ (by omega)).mono ?_
        rintro e w' ⟨rfl, rfl⟩
        go_wp2_with fail
        go_ret2
        exact ⟨by rw [HNO.out]; rfl, 0, rfl⟩
      case neg =>
        refine (Num.l1In_high _ _ _ _ (by omega) (by omega)).mono ?_
        rintro e w' ⟨rfl, rfl⟩
        go_wp2_with fail
        go_ret2
        exact ⟨by rw [HNO.out]; rfl, 0, rfl⟩
    case pos =>
      obtain ⟨h6a, h6b⟩ := h6
      refine (Num.l1In_yes _ _ _ _ (by omega) (by omega)).mono ?_
      rintro e w' ⟨rfl, rfl⟩
      go_wp2_with fail
      go_loop [5, 6] (fun n i => ∃ k m : Nat, k ≤ s.size ∧ i = .int .i64 k ∧ n = .int .i64 m ∧ Hid (Lib.decFrom 0 ((tl s).take k) = some m)) (fun _ i => s.size - (intOf i).toNat)
      case atStart => exact ⟨0, 0, Nat.zero_le _, rfl, rfl, rfl⟩
      case round =>
        obtain ⟨k, m, hk, rfl, rfl, HM⟩ := hrel
        have hm : m < 100000000000000000 := Lib.decFrom_take_lt HM.out (by omega)
        by_cases hlt : k < s.size
        · have hbl : s[k].toNat < 256 := s[k].toNat_lt
          have hbk := byte_at s s HT.out k hlt
          have HB := Lib.hid hbk
          clear hbk
          by_cases hd : 48 ≤ s[k].toNat ∧ s[k].toNat ≤ 57
          · obtain ⟨hd1, hd2⟩ := hd
            have hst := step_digit (tl s) k m _ HM.out HB.out hd1 hd2
            have HS := Lib.hid hst
            clear hst
            go_wp2_with fail
            go_round
            case rel => exact ⟨k + 1, m * 10 + (s[k].toNat - 48), by omega, by go_num, congrArg (Value.int .i64) (by omega), HS⟩
            case measure => simp [intOf]; omega
          · have hno : pv s = none := pv_none_of_byte s k _ HB.out (by unfold Lib.digitVal; rw [if_neg hd])
            have HNO := Lib.hid hno
            clear hno
            by_cases hd1 : s[k].toNat < 48
            · go_wp2_with fail
              go_ret2
              exact ⟨by rw [HNO.out]; rfl, 0, rfl⟩
            · have hd2 : 57 < s[k].toNat := by omega
              go_wp2_with fail
              go_ret2
              exact ⟨by rw [HNO.out]; rfl, 0, rfl⟩
        · have hfull : Lib.decFrom 0 (tl s) = some m := by
            have := HM.out
            rwa [List.take_of_length_le (by rw [HT.out, len_eq]; omega)] at this
          have h7 : m < 1000000 := dec_six hfull (by rw [HT.out, len_eq]; omega)
          have hend := pv_end s m hfull (by rw [HT.out, len_eq]; omega)
          rw [HG.out] at hend
          have HE := Lib.hid hend
          clear hend hfull
          obtain ⟨b, hbb⟩ : ∃ b, itoaB ((m : Int)) = b := ⟨_, rfl⟩
          have HBB := Lib.hid hbb
          clear hbb
          by_cases heq : b = s
          · subst heq
            go_wp2_with fail
            refine (l1Num_b _ _ _ (by omega) (by omega) HBB.out).mono ?_
            rintro e w' ⟨rfl, j, rfl⟩
            go_wp2_with fail
            go_ret2
            have hpv := HE.out
            rw [if_pos HBB.out] at hpv
            exact ⟨by rw [hpv]; rfl, _, rfl⟩
          · have hne : (b.toList == s.toList) = false := str_ne heq
            have HNE := Lib.hid heq
            clear heq
            go_wp2_with fail
            refine (l1Num_b _ _ _ (by omega) (by omega) HBB.out).mono ?_
            rintro e w' ⟨rfl, j, rfl⟩
            go_wp2_with fail
            go_ret2
            have hpv := HE.out
            rw [HBB.out, if_neg HNE.out] at hpv
            exact ⟨by rw [hpv]; rfl, _, rfl⟩
  · have h1' : s.size ≤ 1 := by omega
    clear hn
    go_enter Tryd.func53, Tryd.ntmps53
    go_wp2_with fail
    by_cases h6 : 1 ≤ s.size ∧ s.size ≤ 6
    case neg =>
      have hno : pv s = none := pv_none_of_size s (by rw [HT.out, len_eq]; omega)
      have HNO := Lib.hid hno
      clear hno
      by_cases h0 : s.size < 1
      case pos =>
        refine (Num.l1In_low _ _ _ _ (by omega)).mono ?_
        rintro e w' ⟨rfl, rfl⟩
        go_wp2_with fail
        go_ret2
        exact ⟨by rw [HNO.out]; rfl, 0, rfl⟩
      case neg =>
        refine (Num.l1In_high _ _ _ _ (by omega) (by omega)).mono ?_
        rintro e w' ⟨rfl, rfl⟩
        go_wp2_with fail
        go_ret2
        exact ⟨by rw [HNO.out]; rfl, 0, rfl⟩
    case pos =>
      obtain ⟨h6a, h6b⟩ := h6
      refine (Num.l1In_yes _ _ _ _ (by omega) (by omega)).mono ?_
      rintro e w' ⟨rfl, rfl⟩
      go_wp2_with fail
      go_loop [5, 6] (fun n i => ∃ k m : Nat, k ≤ s.size ∧ i = .int .i64 k ∧ n = .int .i64 m ∧ Hid (Lib.decFrom 0 ((tl s).take k) = some m)) (fun _ i => s.size - (intOf i).toNat)
      case atStart => exact ⟨0, 0, Nat.zero_le _, rfl, rfl, rfl⟩
      case round =>
        obtain ⟨k, m, hk, rfl, rfl, HM⟩ := hrel
        have hm : m < 100000000000000000 := Lib.decFrom_take_lt HM.out (by omega)
        by_cases hlt : k < s.size
        · have hbl : s[k].toNat < 256 := s[k].toNat_lt
          have hbk := byte_at s s HT.out k hlt
          have HB := Lib.hid hbk
          clear hbk
          by_cases hd : 48 ≤ s[k].toNat ∧ s[k].toNat ≤ 57
          · obtain ⟨hd1, hd2⟩ := hd
            have hst := step_digit (tl s) k m _ HM.out HB.out hd1 hd2
            have HS := Lib.hid hst
            clear hst
            go_wp2_with fail
            go_round
            case rel => exact ⟨k + 1, m * 10 + (s[k].toNat - 48), by omega, by go_num, congrArg (Value.int .i64) (by omega), HS⟩
            case measure => simp [intOf]; omega
          · have hno : pv s = none := pv_none_of_byte s k _ HB.out (by unfold Lib.digitVal; rw [if_neg hd])
            have HNO := Lib.hid hno
            clear hno
            by_cases hd1 : s[k].toNat < 48
            · go_wp2_with fail
              go_ret2
              exact ⟨by rw [HNO.out]; rfl, 0, rfl⟩
            · have hd2 : 57 < s[k].toNat := by omega
              go_wp2_with fail
              go_ret2
              exact ⟨by rw [HNO.out]; rfl, 0, rfl⟩
        · have hfull : Lib.decFrom 0 (tl s) = some m := by
            have := HM.out
            rwa [List.take_of_length_le (by rw [HT.out, len_eq]; omega)] at this
          have h7 : m < 1000000 := dec_six hfull (by rw [HT.out, len_eq]; omega)
          have hend := pv_end s m hfull (by rw [HT.out, len_eq]; omega)
          rw [HG.out] at hend
          have HE := Lib.hid hend
          clear hend hfull
          obtain ⟨b, hbb⟩ : ∃ b, itoaB ((m : Int)) = b := ⟨_, rfl⟩
          have HBB := Lib.hid hbb
          clear hbb
          by_cases heq : b = s
          · subst heq
            go_wp2_with fail
            refine (l1Num_b _ _ _ (by omega) (by omega) HBB.out).mono ?_
            rintro e w' ⟨rfl, j, rfl⟩
            go_wp2_with fail
            go_ret2
            have hpv := HE.out
            rw [if_pos HBB.out] at hpv
            exact ⟨by rw [hpv]; rfl, _, rfl⟩
          · have hne : (b.toList == s.toList) = false := str_ne heq
            have HNE := Lib.hid heq
            clear heq
            go_wp2_with fail
            refine (l1Num_b _ _ _ (by omega) (by omega) HBB.out).mono ?_
            rintro e w' ⟨rfl, j, rfl⟩
            go_wp2_with fail
            go_ret2
            have hpv := HE.out
            rw [HBB.out, if_neg HNE.out] at hpv
            exact ⟨by rw [hpv]; rfl, _, rfl⟩

set_option maxHeartbeats 1000000 in
theorem l1Read_neg (s : ByteArray) (w : World) (hs : s.size ≤ 1048576) (h1 : 1 < s.size) (hn : s.data.toList[0]? = some 45) :
    Calls Tryd.prog 53 #[.string s] w fun e w' => e = .returned (.tuple #[.int .i64 ((pv s).getD 0), .bool (pv s).isSome]) ∧ ∃ m, w' = w.drewN m := by
  obtain ⟨t, htt⟩ : ∃ t, s.extract 1 s.size = t := ⟨_, rfl⟩
  have hz : t.size = s.size - 1 := by rw [← htt]; simp
  have ht : tl s = t.data.toList := by
    unfold tl
    rw [if_pos ⟨h1, hn⟩, ← htt, Lib.extract_data, List.take_of_length_le (by simp)]
  have hg : ∀ m : Nat, sg s m = -(m : Int) := fun m => by unfold sg; rw [if_pos ⟨h1, hn⟩]
  have hb : (((s[0]).toNat : Int) == 45) = true := by
    have h0 : 0 < s.data.toList.length := by simpa using (by omega : 0 < s.size)
    rw [List.getElem?_eq_getElem h0] at hn
    have h2 : s[0] = 45 := Option.some.inj hn
    rw [h2]
    rfl
  have HT := Lib.hid ht
  have HG := Lib.hid hg
  have HZ := Lib.hid hz
  have hz1 : t.size < s.size := by omega
  clear ht hg hz hn
  · go_enter Tryd.func53, Tryd.ntmps53
    go_wp2_with fail
    clear htt
    by_cases h6 : 1 ≤ t.size ∧ t.size ≤ 6
    case neg =>
      have hno : pv s = none := pv_none_of_size s (by rw [HT.out, len_eq]; omega)
      have HNO := Lib.hid hno
      clear hno
      by_cases h0 : t.size < 1
      case pos =>
        refine (Num.l1In_low _ _ _ _ (by omega)).mono ?_
        rintro e w' ⟨rfl, rfl⟩
        go_wp2_with fail
        go_ret2
        exact ⟨by rw [HNO.out]; rfl, 0, rfl⟩
      case neg =>
        refine (Num.l1In_high _ _ _ _ (by omega) (by omega)).mono ?_
        rintro e w' ⟨rfl, rfl⟩
        go_wp2_with fail
        go_ret2
        exact ⟨by rw [HNO.out]; rfl, 0, rfl⟩
    case pos =>
      obtain ⟨h6a, h6b⟩ := h6
      refine (Num.l1In_yes _ _ _ _ (by omega) (by omega)).mono ?_
      rintro e w' ⟨rfl, rfl⟩
      go_wp2_with fail
      go_loop [5, 6] (fun n i => ∃ k m : Nat, k ≤ t.size ∧ i = .int .i64 k ∧ n = .int .i64 m ∧ Hid (Lib.decFrom 0 ((tl s).take k) = some m)) (fun _ i => t.size - (intOf i).toNat)
      case atStart => exact ⟨0, 0, Nat.zero_le _, rfl, rfl, rfl⟩
      case round =>
        obtain ⟨k, m, hk, rfl, rfl, HM⟩ := hrel
        have hm : m < 100000000000000000 := Lib.decFrom_take_lt HM.out (by omega)
        by_cases hlt : k < t.size
        · have hbl : t[k].toNat < 256 := t[k].toNat_lt
          have hbk := byte_at s t HT.out k hlt
          have HB := Lib.hid hbk
          clear hbk
          by_cases hd : 48 ≤ t[k].toNat ∧ t[k].toNat ≤ 57
          · obtain ⟨hd1, hd2⟩ := hd
            have hst := step_digit (tl s) k m _ HM.out HB.out hd1 hd2
            have HS := Lib.hid hst
            clear hst
            go_wp2_with fail
            go_round
            case rel => exact ⟨k + 1, m * 10 + (t[k].toNat - 48), by omega, by go_num, congrArg (Value.int .i64) (by omega), HS⟩
            case measure => simp [intOf]; omega
          · have hno : pv s = none := pv_none_of_byte s k _ HB.out (by unfold Lib.digitVal; rw [if_neg hd])
            have HNO := Lib.hid hno
            clear hno
            by_cases hd1 : t[k].toNat < 48
            · go_wp2_with fail
              go_ret2
              exact ⟨by rw [HNO.out]; rfl, 0, rfl⟩
            · have hd2 : 57 < t[k].toNat := by omega
              go_wp2_with fail
              go_ret2
              exact ⟨by rw [HNO.out]; rfl, 0, rfl⟩
        · have hfull : Lib.decFrom 0 (tl s) = some m := by
            have := HM.out
            rwa [List.take_of_length_le (by rw [HT.out, len_eq]; omega)] at this
          have h7 : m < 1000000 := dec_six hfull (by rw [HT.out, len_eq]; omega)
          have hend := pv_end s m hfull (by rw [HT.out, len_eq]; omega)
          rw [HG.out] at hend
          have HE := Lib.hid hend
          clear hend hfull
          obtain ⟨b, hbb⟩ : ∃ b, itoaB (-(m : Int)) = b := ⟨_, rfl⟩
          have HBB := Lib.hid hbb
          clear hbb
          by_cases heq : b = s
          · subst heq
            go_wp2_with fail
            refine (l1Num_b _ _ _ (by omega) (by omega) HBB.out).mono ?_
            rintro e w' ⟨rfl, j, rfl⟩
            go_wp2_with fail
            go_ret2
            have hpv := HE.out
            rw [if_pos HBB.out] at hpv
            exact ⟨by rw [hpv]; rfl, _, rfl⟩
          · have hne : (b.toList == s.toList) = false := str_ne heq
            have HNE := Lib.hid heq
            clear heq
            go_wp2_with fail
            refine (l1Num_b _ _ _ (by omega) (by omega) HBB.out).mono ?_
            rintro e w' ⟨rfl, j, rfl⟩
            go_wp2_with fail
            go_ret2
            have hpv := HE.out
            rw [HBB.out, if_neg HNE.out] at hpv
            exact ⟨by rw [hpv]; rfl, _, rfl⟩

theorem l1Read_any (s : ByteArray) (w : World) (hs : s.size ≤ 1048576) :
    Calls Tryd.prog 53 #[.string s] w fun e w' => e = .returned (.tuple #[.int .i64 ((pv s).getD 0), .bool (pv s).isSome]) ∧ ∃ m, w' = w.drewN m := by
  by_cases h : 1 < s.size ∧ s.data.toList[0]? = some 45
  · exact l1Read_neg s w hs h.1 h.2
  · exact l1Read_pos s w hs h
end Go.Proofs.YtaikphcemldikaaDoor.Read
