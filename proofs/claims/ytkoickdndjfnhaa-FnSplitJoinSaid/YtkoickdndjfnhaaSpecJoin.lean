/- The contract of the model's JoinStrings: it returns what 'Jn.jv' says, for strings of at most 1048576 bytes together. -/
import Derived.Test.YtkoickdndjfnhaaJn
namespace Go.Proofs.Ytkoickdndjfnhaa.SpecJoin
open Go.RowKit Split Strs Stands Jn

def Out (l : List ByteArray) (sep : ByteArray) (c : UInt8) (w : World) (e : Ending) (w' : World) : Prop := e = .returned (.tuple #[.string ((jv l sep c).getD ⟨#[]⟩), .bool (jv l sep c).isSome]) ∧ Below w.heap.size w w'
theorem out_none {l : List ByteArray} {sep : ByteArray} {c : UInt8} {w w' : World} (h : jv l sep c = none) (hb : Below w.heap.size w w') : Out l sep c w (.returned (.tuple #[.string ⟨#[]⟩, .bool false])) w' := by
  unfold Out; rw [h]; exact ⟨rfl, hb⟩
theorem out_some {l : List ByteArray} {sep b : ByteArray} {c : UInt8} {w w' : World} (h : jv l sep c = some b) (hb : Below w.heap.size w w') : Out l sep c w (.returned (.tuple #[.string b, .bool true])) w' := by
  unfold Out; rw [h]; exact ⟨rfl, hb⟩
theorem stands_q (s : ByteArray) (c : UInt8) (r : Bool) (w : World) (hs : s.size ≤ 1048576) (h : hasB s.data.toList c = r) :
    Calls Try.prog 32 #[.string s, .int .u8 c.toNat] w fun e w' => e = .returned (.bool r) ∧ w' = w := by
  subst h
  exact (l1Stands_any s c w hs).mono fun _ _ ⟨h1, h2⟩ => ⟨h1, h2.symm⟩
/-- What holds behind k rounds. -/
def Fine (l : List ByteArray) (sep : ByteArray) (c : UInt8) (k : Nat) : Prop := (∀ i x, i < k → l[i]? = some x → hasB x.data.toList c = false) ∧ (jn sep l k).size ≤ 4000
theorem fine_step {l : List ByteArray} {sep : ByteArray} {c : UInt8} {k : Nat} {x : ByteArray} (h : Fine l sep c k) (hx : l[k]? = some x) (hc : hasB x.data.toList c = false) (hz : (jn sep l (k + 1)).size ≤ 4000) : Fine l sep c (k + 1) := by
  refine ⟨fun i y hi hy => ?_, hz⟩
  by_cases he : i = k
  · subst he
    rw [hx] at hy
    obtain rfl := Option.some.inj hy
    exact hc
  · exact h.1 i y (by omega) hy
theorem fine_end {l : List ByteArray} {sep : ByteArray} {c : UInt8} (h : Fine l sep c l.length) (hs : sep.size = 1) (hl : l ≠ []) : jv l sep c = some (jn sep l l.length) := by
  refine jv_ok hs hl (fun x hx => ?_) h.2
  obtain ⟨i, hi, he⟩ := List.getElem_of_mem hx
  exact h.1 i x hi (by rw [List.getElem?_eq_getElem hi, he])
theorem jn_zero (sep : ByteArray) (l : List ByteArray) (x : ByteArray) (hx : l[0]? = some x) : jn sep l 1 = jn sep l 0 ++ x := by
  have e : jn sep l 1 = (if (0 : Nat) = 0 then jn sep l 0 else jn sep l 0 ++ sep) ++ l.getD 0 ⟨#[]⟩ := rfl
  rw [e, if_pos rfl, List.getD_eq_getElem?_getD, hx]
  rfl
theorem jn_more (sep : ByteArray) (l : List ByteArray) (k : Nat) (x : ByteArray) (hk : k ≠ 0) (hx : l[k]? = some x) : jn sep l (k + 1) = (jn sep l k ++ sep) ++ x := by
  rw [jn, if_neg hk, List.getD_eq_getElem?_getD, hx]
  rfl
theorem size_le_tot (l : List ByteArray) (k : Nat) (x : ByteArray) (hx : l[k]? = some x) : x.size ≤ tot l := by
  obtain ⟨hk, he⟩ := List.getElem?_eq_some_iff.1 hx
  have h1 := tot_take l k hk
  have h2 := tot_mono l (k + 1)
  rw [he] at h1
  omega

theorem spec_bad (a : Option Addr) (n cap : Nat) (l : List ByteArray) (sep : ByteArray) (c : UInt8) (w : World) (_hz : sep.size ≤ 1048576) (hs : sep.size ≠ 1) :
    Calls Try.prog 13 #[.slice a n cap, .string sep] w (Out l sep c w) := by
  have hv : jv l sep c = none := jv_bad (.inl hs)
  have HV := Lib.hid hv
  have hb : ((sep.size : Int) != 1) = true := by rw [bne_iff_ne]; omega
  clear hv hs
  go_enter Try.func13, Try.ntmps13
  go_wp2
  go_ret2
  exact out_none HV.out (Below.refl _ _)
theorem spec_none (a : Option Addr) (cap : Nat) (sep : ByteArray) (c : UInt8) (w : World) (hs : sep.size = 1) :
    Calls Try.prog 13 #[.slice a 0 cap, .string sep] w (Out [] sep c w) := by
  have hv : jv [] sep c = none := jv_bad (.inr rfl)
  have HV := Lib.hid hv
  have hb : ((sep.size : Int) != 1) = false := by rw [hs]; rfl
  clear hv hs
  go_enter Try.func13, Try.ntmps13
  go_wp2
  go_ret2
  exact out_none HV.out (Below.refl _ _)

set_option maxHeartbeats 2000000 in
theorem spec_any (b o cap : Nat) (l : List ByteArray) (n : Nat) (hn : l.length = n) (hn1 : 1 ≤ n) (ht : n + tot l ≤ 1048576) (sep : ByteArray) (c : UInt8) (w : World) (hs : sep.size = 1) (hsc : sep.data.toList[0]? = some c) (hbw : b < w.heap.size) (h : Cells w b o l) :
    Calls Try.prog 13 #[.slice (some ⟨b, o, none⟩) n cap, .string sep] w (Out l sep c w) := by
  have HN := Lib.hid hn
  have HS := Lib.hid hs
  have hb : ((sep.size : Int) != 1) = false := by rw [hs]; rfl
  have hnz : ((n : Int) == 0) = false := by rw [beq_eq_false_iff_ne]; omega
  have hs0 : 0 < sep.size := by omega
  have hs1 : sep.size ≤ 1 := by omega
  have hc0 : sep[0] = c := by
    have h0 : 0 < sep.data.toList.length := by simpa using hs0
    rw [List.getElem?_eq_getElem h0] at hsc
    exact Option.some.inj hsc
  have HC := Lib.hid hc0
  clear hn hs hsc hc0
  go_enter Try.func13, Try.ntmps13
  go_wp2
  go_loopw [6, 7] (fun out i wr => ∃ k : Nat, k ≤ n ∧ i = .int .i64 k ∧ out = .string (jn sep l k) ∧ Hid (Fine l sep c k) ∧ Below w.heap.size w wr) (fun _ i _ => n - (intOf i).toNat)
  case atStart => exact ⟨0, Nat.zero_le _, rfl, rfl, ⟨fun i x hi => absurd hi (by omega), by show 0 ≤ 4000; omega⟩, Below.refl _ _⟩
  case round =>
    obtain ⟨k, hk, rfl, rfl, HF, hbel⟩ := hrel
    by_cases hlt : k < n
    · obtain ⟨x, hx⟩ : ∃ x, l[k]? = some x := ⟨_, List.getElem?_eq_getElem (by rw [HN.out]; exact hlt)⟩
      have hxm : x ∈ l := List.mem_of_getElem? hx
      have hxz := size_le_tot l k x hx
      have hc := (h.below hbel hbw) k x hx
      have hi : (k : Int) < (n : Int) := by omega
      cases hh : hasB x.data.toList c with
      | true =>
        have hv : jv l sep c = none := jv_dirty hxm hh
        have HV := Lib.hid hv
        have hq := fun W : World => stands_q x sep[0] true W (by omega) (by rw [HC.out]; exact hh)
        have HQ := Lib.hid hq
        clear hv hq hh hxm hx
        go_wp2
        go_quiet ((go_at_call 32; exact Calls.quiet_of_same (HQ.out _)))
        go_wp2
        go_ret2
        exact out_none HV.out (hbel.trans (Joins.below_draws _ _ _))
      | false =>
        have hq := fun W : World => stands_q x sep[0] false W (by omega) (by rw [HC.out]; exact hh)
        have HQ := Lib.hid hq
        have hp := HF.out.2
        by_cases h0 : k = 0
        · subst h0
          rw [Nat.add_zero] at hc
          have hi0 : (0 : Int) < (n : Int) := by omega
          clear hi
          have he := jn_zero sep l x hx
          have hst := fun hz => fine_step HF.out hx hh hz
          have hlg := fun hz => jv_long (c := c) HS.out 1 (by rw [HN.out]; omega) hz
          have HST := Lib.hid hst
          have HLG := Lib.hid hlg
          have HE := Lib.hid he
          clear hst hlg he hq hh hxm hx HF
          generalize jn sep l 0 = p at *
          have ad := fun W : World => run_string_add_sum (P := Try.prog) W p x (by omega)
          by_cases hlong : 4000 < p.size + x.size
          · go_wp2
            go_quiet ((go_at_call 32; exact Calls.quiet_of_same (HQ.out _)))
            go_wp2
            go_ret2
            exact out_none (HLG.out (by rw [HE.out, ByteArray.size_append]; exact hlong)) (hbel.trans (Joins.below_draws _ _ _))
          · go_wp2
            go_quiet ((go_at_call 32; exact Calls.quiet_of_same (HQ.out _)))
            go_wp2
            go_roundw
            case rel => exact ⟨1, by omega, rfl, by rw [HE.out], HST.out (by rw [HE.out, ByteArray.size_append]; omega), hbel.trans (Joins.below_draws _ _ _)⟩
            case measure => simp [intOf]; omega
        · have he := jn_more sep l k x h0 hx
          have hst := fun hz => fine_step HF.out hx hh hz
          have hlg := fun hz => jv_long (c := c) HS.out (k + 1) (by rw [HN.out]; omega) hz
          have HST := Lib.hid hst
          have HLG := Lib.hid hlg
          have HE := Lib.hid he
          have hk0 : 0 < k := by omega
          clear hst hlg he hq hh hxm hx HF h0
          generalize jn sep l k = p at *
          have ad := fun W : World => run_string_add_sum (P := Try.prog) W p sep (by omega)
          have ad2 := fun W : World => run_string_add_sum (P := Try.prog) W (p ++ sep) x (by rw [ByteArray.size_append]; omega)
          by_cases hlong : 4000 < p.size + sep.size + x.size
          · go_wp2
            go_quiet ((go_at_call 32; exact Calls.quiet_of_same (HQ.out _)))
            go_wp2
            go_ret2
            exact out_none (HLG.out (by rw [HE.out, ByteArray.size_append, ByteArray.size_append]; exact hlong)) (hbel.trans (Joins.below_draws _ _ _))
          · go_wp2
            go_quiet ((go_at_call 32; exact Calls.quiet_of_same (HQ.out _)))
            go_wp2
            go_roundw
            case rel => exact ⟨k + 1, by omega, by go_num, by rw [HE.out], HST.out (by rw [HE.out, ByteArray.size_append, ByteArray.size_append]; omega), hbel.trans (Joins.below_draws _ _ _)⟩
            case measure => simp [intOf]; omega
    · obtain rfl : k = n := by omega
      have hv : jv l sep c = some (jn sep l k) := by
        have h2 := fine_end (HN.out ▸ HF.out) HS.out (fun e => by have := HN.out; rw [e] at this; simp at this; omega)
        rw [h2, HN.out]
      have HV := Lib.hid hv
      clear hv
      go_wp2
      go_ret2
      exact out_some HV.out hbel
end Go.Proofs.Ytkoickdndjfnhaa.SpecJoin
