/- Contracts of the program's canJoin and JoinStrings: JoinStrings returns what 'Jn.jv' says, for strings of at most 1048576 bytes together. -/
import Derived.Test.YtkoickdndjfnhaaSpecJoin
import Derived.Test.YtkoickdndjfnhaaShelfJ
import Derived.Deep.LoopGhost
namespace Go.Proofs.Ytkoickdndjfnhaa.ImplJoin
open Go.RowKit Split Strs Stands Jn SpecJoin

/-- What canJoin returns. -/
def cj (l : List ByteArray) (c : UInt8) : Bool := decide (l.length - 1 + tot l ≤ 4000) && l.all fun x => !hasB x.data.toList c
theorem cj_long {l : List ByteArray} {c : UInt8} (k : Nat) (h : 4000 < l.length - 1 + tot (l.take k)) : cj l c = false := by
  have := tot_mono l k
  unfold cj
  rw [show decide (l.length - 1 + tot l ≤ 4000) = false by simp; omega]
  rfl
theorem cj_dirty {l : List ByteArray} {c : UInt8} {x : ByteArray} (hx : x ∈ l) (h : hasB x.data.toList c = true) : cj l c = false := by
  unfold cj
  rw [Bool.and_eq_false_iff]
  right
  rw [List.all_eq_false]
  exact ⟨x, hx, by simp [h]⟩
def Clean (l : List ByteArray) (c : UInt8) (k : Nat) : Prop := ∀ i x, i < k → l[i]? = some x → hasB x.data.toList c = false
theorem clean_step {l : List ByteArray} {c : UInt8} {k : Nat} {x : ByteArray} (h : Clean l c k) (hx : l[k]? = some x) (hc : hasB x.data.toList c = false) : Clean l c (k + 1) := by
  intro i y hi hy
  by_cases he : i = k
  · subst he
    rw [hx] at hy
    obtain rfl := Option.some.inj hy
    exact hc
  · exact h i y (by omega) hy
theorem cj_ok {l : List ByteArray} {c : UInt8} (h : Clean l c l.length) (h2 : l.length - 1 + tot l ≤ 4000) : cj l c = true := by
  unfold cj
  rw [show decide (l.length - 1 + tot l ≤ 4000) = true by simpa using h2, Bool.true_and, List.all_eq_true]
  intro x hx
  obtain ⟨i, hi, he⟩ := List.getElem_of_mem hx
  rw [h i x hi (by rw [List.getElem?_eq_getElem hi, he])]
  rfl

set_option maxHeartbeats 2000000 in
theorem canJoin_any (b o cap : Nat) (l : List ByteArray) (n : Nat) (hn : l.length = n) (hn1 : 1 ≤ n) (ht : n + tot l ≤ 1048576) (c : UInt8) (w : World) (h : Cells w b o l) :
    Calls Try.prog 30 #[.slice (some ⟨b, o, none⟩) n cap, .int .u8 c.toNat] w fun e w' => e = .returned (.bool (cj l c)) ∧ w = w' := by
  have HN := Lib.hid hn
  clear hn
  go_enter Try.func30, Try.ntmps30
  go_wp2
  go_step3
  go_wp2
  go_step3
  go_wp2
  go_loopg [5, 6, 15] n (fun g len pos i wr => ∃ (k : Nat) (r : Int), k + g = n ∧ i = .int .i64 k ∧ len = .int .i64 r ∧ pos = .bool true ∧ w = wr ∧ 0 ≤ r ∧ r ≤ 1048576 ∧ Hid (0 < k → r ≤ 4000) ∧ Hid (r = (n : Int) - 1 + (tot (l.take k) : Int)) ∧ Hid (Clean l c k))
  case atStart => exact ⟨0, _, by omega, rfl, rfl, rfl, rfl, by omega, by omega, fun h => absurd h (by omega), by simp [Hid, tot], fun i x hi => absurd hi (by omega)⟩
  case round =>
    obtain ⟨k, r, hkg, rfl, rfl, rfl, rfl, hr0, hr1, H4, HR, HCl⟩ := hrel
    by_cases hlt : k < n
    · obtain ⟨x, hx⟩ : ∃ x, l[k]? = some x := ⟨_, List.getElem?_eq_getElem (by rw [HN.out]; exact hlt)⟩
      have hxm : x ∈ l := List.mem_of_getElem? hx
      have hxz := size_le_tot l k x hx
      have hc := h k x hx
      have hi : (k : Int) < (n : Int) := by omega
      have htk : tot (l.take (k + 1)) = tot (l.take k) + x.size := by
        obtain ⟨hk, he⟩ := List.getElem?_eq_some_iff.1 hx
        rw [tot_take l k hk, he]
      have HT := Lib.hid htk
      have HX := Lib.hid hx
      clear htk hx
      by_cases hlong : 4000 < r + (x.size : Int)
      · have hv : cj l c = false := cj_long (k + 1) (by rw [HN.out]; have h1 := HR.out; have h2 := HT.out; omega)
        have HV := Lib.hid hv
        clear hv
        go_wp2
        try rw [Exit.noGoto_ret]
        go_ret
        exact ⟨by rw [HV.out]; rfl, rfl⟩
      · go_wp2
        go_loopg [6, 27] x.size (fun g pos i wr => ∃ j : Nat, j + g = x.size ∧ i = .int .i64 j ∧ pos = .bool true ∧ w = wr ∧ Hid (¬ c ∈ x.data.toList.take j))
        case atStart => exact ⟨0, by omega, rfl, rfl, rfl, by simp [Hid]⟩
        case round =>
          obtain ⟨j, hjg, rfl, rfl, rfl, HM⟩ := hrel
          by_cases hjl : j < x.size
          · have hkl : j < x.data.toList.length := by simpa using hjl
            by_cases heq : x[j] = c
            · have hb : ((x[j].toNat : Int) == (c.toNat : Int)) = true := by rw [heq]; simp
              have hcc : hasB x.data.toList c = true := by
                unfold hasB
                rw [List.contains_iff_mem]
                exact heq ▸ List.getElem_mem hkl
              have hv : cj l c = false := cj_dirty hxm hcc
              have HV := Lib.hid hv
              clear hv hcc heq
              go_wp2
              try rw [Exit.noGoto_ret]
              go_ret
              exact ⟨by rw [HV.out]; rfl, rfl⟩
            · have hb : ((x[j].toNat : Int) == (c.toNat : Int)) = false := by
                rw [beq_eq_false_iff_ne]
                intro e
                exact heq (UInt8.toNat_inj.1 (by omega))
              have hm := take_mem _ j c HM.out hkl heq
              have HM' := Lib.hid hm
              clear hm heq
              go_wp2
              go_roundg (x.size - (j + 1))
              case measure => omega
              case rel => exact ⟨j + 1, by omega, by go_num, rfl, rfl, HM'⟩
          · have hcc : hasB x.data.toList c = false := by
              have h3 := HM.out
              rw [List.take_of_length_le (by simp; omega)] at h3
              unfold hasB
              simpa using h3
            have hcl := clean_step HCl.out HX.out hcc
            have HCC := Lib.hid hcl
            clear hcc hcl
            go_wp2
            go_roundg (n - (k + 1))
            case measure => omega
            case rel => exact ⟨k + 1, r + x.size, by omega, by go_num, by go_num, rfl, rfl, by omega, by omega, fun _ => by omega, by have h1 := HR.out; have h2 := HT.out; show _ = _; omega, HCC⟩
    · obtain rfl : k = n := by omega
      have hv : cj l c = true := by
        refine cj_ok (by rw [HN.out]; exact HCl.out) ?_
        have h1 := HR.out
        have h4 := H4.out (by omega)
        rw [List.take_of_length_le (by rw [HN.out]; omega)] at h1
        rw [HN.out]
        omega
      have HV := Lib.hid hv
      clear hv
      go_wp2
      try rw [Exit.noGoto_ret]
      go_ret
      exact ⟨by rw [HV.out]; rfl, rfl⟩

theorem impl_none (a : Option Addr) (cap : Nat) (sep : ByteArray) (c : UInt8) (w : World) :
    Calls Try.prog 12 #[.slice a 0 cap, .string sep] w (Out [] sep c w) := by
  have hv : jv [] sep c = none := jv_bad (.inr rfl)
  have HV := Lib.hid hv
  clear hv
  go_enter Try.func12, Try.ntmps12
  go_wp2
  go_ret2
  exact out_none HV.out (Below.refl _ _)
theorem impl_bad (a : Option Addr) (n cap : Nat) (hn1 : 1 ≤ n) (l : List ByteArray) (sep : ByteArray) (c : UInt8) (w : World) (hs : sep.size ≠ 1) :
    Calls Try.prog 12 #[.slice a n cap, .string sep] w (Out l sep c w) := by
  have hv : jv l sep c = none := jv_bad (.inl hs)
  have HV := Lib.hid hv
  have hb : ((sep.size : Int) != 1) = true := by rw [bne_iff_ne]; omega
  have hnz : ((n : Int) == 0) = false := by rw [beq_eq_false_iff_ne]; omega
  clear hv hs
  go_enter Try.func12, Try.ntmps12
  go_wp2
  go_ret2
  exact out_none HV.out (Below.refl _ _)
theorem canJoin_q (b o cap : Nat) (l : List ByteArray) (n : Nat) (hn : l.length = n) (hn1 : 1 ≤ n) (ht : n + tot l ≤ 1048576) (c : UInt8) (r : Bool) (w : World) (h : Cells w b o l) (hr : cj l c = r) :
    Calls Try.prog 30 #[.slice (some ⟨b, o, none⟩) n cap, .int .u8 c.toNat] w fun e w' => e = .returned (.bool r) ∧ w = w' := by
  subst hr
  exact canJoin_any b o cap l n hn hn1 ht c w h
theorem join_any (b o cap : Nat) (l : List ByteArray) (n : Nat) (hn : l.length = n) (hcap : n ≤ cap) (ht : n + tot l ≤ 1048576) (sep : ByteArray) (hs : sep.size = 1) (w : World) (hbw : b < w.heap.size) (h : Cells w b o l) :
    Calls Try.prog 31 #[.slice (some ⟨b, o, none⟩) n cap, .string sep] w fun e w' => e = .returned (.string (jn sep l n)) ∧ Below w.heap.size w w' := by
  subst hn
  have e1 := jn_join sep l l.length (Nat.le_refl _)
  rw [List.take_length] at e1
  have e2 := jn_size sep l hs l.length (Nat.le_refl _)
  rw [List.take_length] at e2
  have hj := Try.strings_Join b o cap l sep w h hbw (by omega) hcap (by rw [← e1, Array.length_toList]; show (jn sep l l.length).size ≤ _; omega)
  rw [← e1] at hj
  exact hj
set_option maxHeartbeats 400000 in
theorem impl_any (b o cap : Nat) (l : List ByteArray) (n : Nat) (hn : l.length = n) (hn1 : 1 ≤ n) (hcap : n ≤ cap) (ht : n + tot l ≤ 1048576) (sep : ByteArray) (c : UInt8) (w : World) (hs : sep.size = 1) (hsc : sep.data.toList[0]? = some c) (hbw : b < w.heap.size) (h : Cells w b o l) :
    Calls Try.prog 12 #[.slice (some ⟨b, o, none⟩) n cap, .string sep] w (Out l sep c w) := by
  have hb : ((sep.size : Int) != 1) = false := by rw [hs]; rfl
  have hnz : ((n : Int) == 0) = false := by rw [beq_eq_false_iff_ne]; omega
  have hs0 : 0 < sep.size := by omega
  have hc0 : sep[0] = c := by
    have h0 : 0 < sep.data.toList.length := by simpa using hs0
    rw [List.getElem?_eq_getElem h0] at hsc
    exact Option.some.inj hsc
  have hjv : jv l sep c = if cj l c = true then some (jn sep l n) else none := by
    have e2 := jn_size sep l hs l.length (Nat.le_refl _)
    rw [List.take_length] at e2
    unfold jv
    rw [← hn]
    by_cases hcj : cj l c = true
    · rw [if_pos hcj]
      unfold cj at hcj
      rw [Bool.and_eq_true, List.all_eq_true] at hcj
      rw [if_pos]
      refine ⟨⟨hs, fun e => by rw [e] at hn; simp at hn; omega⟩, fun x hx => by simpa using hcj.2 x hx, ?_⟩
      have := of_decide_eq_true hcj.1
      omega
    · rw [if_neg hcj, if_neg]
      rintro ⟨_, h2, h3⟩
      apply hcj
      unfold cj
      rw [Bool.and_eq_true, List.all_eq_true]
      exact ⟨decide_eq_true (by omega), fun x hx => by simp [h2 x hx]⟩
  have HJV := Lib.hid hjv
  have HC := Lib.hid hc0
  have HS := Lib.hid hs
  have HH := Lib.hid h
  have HN := Lib.hid hn
  clear hjv hc0 hs hsc h hn
  cases hcj : cj l c with
  | false =>
    have HCJ := Lib.hid hcj
    clear hcj
    go_enter Try.func12, Try.ntmps12
    go_wp2_with fail
    refine (canJoin_q b o cap l n HN.out hn1 ht sep[0] false _ HH.out (by rw [HC.out]; exact HCJ.out)).mono ?_
    rintro e w' ⟨rfl, rfl⟩
    go_wp2_with fail
    go_ret2
    have hv := HJV.out
    rw [HCJ.out, if_neg (by simp)] at hv
    exact out_none hv (Below.refl _ _)
  | true =>
    have HCJ := Lib.hid hcj
    clear hcj
    go_enter Try.func12, Try.ntmps12
    go_wp2_with fail
    refine (canJoin_q b o cap l n HN.out hn1 ht sep[0] true _ HH.out (by rw [HC.out]; exact HCJ.out)).mono ?_
    rintro e w' ⟨rfl, rfl⟩
    go_wp2_with fail
    refine (join_any b o cap l n HN.out hcap ht sep HS.out _ hbw HH.out).mono ?_
    rintro e w' ⟨rfl, hb2⟩
    go_wp2_with fail
    go_ret2
    have hv := HJV.out
    rw [HCJ.out, if_pos rfl] at hv
    exact out_some hv hb2
end Go.Proofs.Ytkoickdndjfnhaa.ImplJoin
