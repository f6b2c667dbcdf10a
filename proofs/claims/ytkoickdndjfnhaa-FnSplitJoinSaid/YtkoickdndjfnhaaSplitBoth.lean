/- Contracts of SplitString, the model's and the program's, at every input within the law's bounds: each returns a new slice with what 'sl' says, and whether it is one. -/
import Derived.Test.YtkoickdndjfnhaaSplitCall
import Derived.Test.YtkoickdndjfnhaaHeld
namespace Go.Proofs.Ytkoickdndjfnhaa.SplitBoth
open Go.RowKit Go.Shelf Split Strs

/-- What SplitString returns: the parts, and true; or nothing, and false. -/
def ok (s sep : ByteArray) : Bool := decide (s.size ≤ 4000) && decide (sep.size = 1)
def sl (s sep : ByteArray) (c : UInt8) : List ByteArray := if ok s sep then parts s c else []
def Out (s sep : ByteArray) (c : UInt8) (w : World) (e : Ending) (w' : World) : Prop :=
  ∃ g cap : Nat, e = .returned (.tuple #[.slice (some ⟨g, 0, none⟩) (sl s sep c).length cap, .bool (ok s sep)]) ∧ w'.ownsRow w.heap.size 9 1 (.slice (some ⟨g, 0, none⟩) (sl s sep c).length cap) (sl s sep c).length (strs (sl s sep c)) ∧ Below w.heap.size w w'
theorem parts_pos (s : ByteArray) (c : UInt8) : ∃ n, (parts s c).length = n + 1 := ⟨(parts s c).length - 1, by unfold parts; simp⟩
theorem out_good {s sep : ByteArray} {c : UInt8} (h1 : s.size ≤ 4000) (h2 : sep.size = 1) {w w' : World} {v : Value} (h : w'.ownsRow w.heap.size 9 1 v (parts s c).length (strs (parts s c))) (hb : Below w.heap.size w w') :
    Out s sep c w (.returned (.tuple #[v, .bool true])) w' := by
  have ho : ok s sep = true := by unfold ok; rw [decide_eq_true h1, decide_eq_true h2]; rfl
  have hs : sl s sep c = parts s c := by unfold sl; rw [ho]; rfl
  obtain ⟨n, hn⟩ := parts_pos s c
  obtain ⟨g, cap, rfl⟩ := ownsRow_succ (hn ▸ h)
  unfold Out
  rw [hs, ho]
  refine ⟨g, cap, ?_, ?_, hb⟩
  · rw [hn]
  · rw [← hn] at h
    exact h
theorem out_bad {s sep : ByteArray} {c : UInt8} (h : ¬ (s.size ≤ 4000 ∧ sep.size = 1)) (w : World) :
    Out s sep c w (.returned (.tuple #[.slice (some ⟨w.heap.size, 0, none⟩) 0 0, .bool false])) (w.alloc (.cells #[] 9)) := by
  have ho : ok s sep = false := by
    unfold ok
    cases hd : (decide (s.size ≤ 4000) && decide (sep.size = 1)) with
    | false => rfl
    | true =>
      rw [Bool.and_eq_true] at hd
      exact absurd ⟨of_decide_eq_true hd.1, of_decide_eq_true hd.2⟩ h
  have hs : sl s sep c = [] := by unfold sl; rw [ho]; rfl
  unfold Out
  rw [hs, ho]
  exact ⟨w.heap.size, 0, rfl, World.ownsRow_made w #[] 0 (Nat.le_refl _) (by unfold maxLen; omega) rfl, (Below.refl _ _).alloc (Nat.le_refl _) _⟩

theorem split_q (s : ByteArray) (sep : ByteArray) (c : UInt8) (w : World) (hs : s.size ≤ 1048576) (h0 : 0 < sep.size) (hc : sep[0] = c) :
    Calls Try.prog 33 #[.string s, .int .u8 sep[0].toNat] w fun e w' => ∃ v, e = .returned v ∧ Rel w.heap.size w w' v (parts s c) := by
  subst hc
  exact l1Split_any s _ w hs
theorem head_of {sep : ByteArray} {c : UInt8} (h2 : sep.size = 1) (hsc : sep.size = 1 → sep.data.toList[0]? = some c) : sep[0] = c := by
  have h0 : 0 < sep.data.toList.length := by simpa using (by omega : 0 < sep.size)
  have h := hsc h2
  rw [List.getElem?_eq_getElem h0] at h
  exact Option.some.inj h

set_option maxHeartbeats 400000 in
theorem spec_any (s sep : ByteArray) (c : UInt8) (w : World) (hs : s.size ≤ 1048576) (hsc : sep.size = 1 → sep.data.toList[0]? = some c) :
    Calls Try.prog 17 #[.string s, .string sep] w (Out s sep c w) := by
  by_cases h2 : sep.size = 1
  · have hbb : ((sep.size : Int) != 1) = false := by rw [h2]; rfl
    by_cases h1 : s.size ≤ 4000
    · have h0 : 0 < sep.size := by omega
      have hq := split_q s sep c w hs h0 (head_of h2 hsc)
      have HQ := Lib.hid hq
      have H2 := Lib.hid h2
      clear hq h2 hsc
      go_enter Try.func17, Try.ntmps17
      go_wp2_with fail
      refine HQ.out.mono ?_
      rintro e w' ⟨v, rfl, hown, hb⟩
      have hout := out_good (sep := sep) h1 H2.out hown hb
      have HO := Lib.hid hout
      clear hout hown hb
      go_wp2_with fail
      go_ret2
      exact HO.out
    · have hout := out_bad (s := s) (sep := sep) (c := c) (fun hh => h1 hh.1) w
      have HO := Lib.hid hout
      clear hout h2 hsc
      go_enter Try.func17, Try.ntmps17
      go_wp2_with fail
      go_ret2
      exact HO.out
  · have hbb : ((sep.size : Int) != 1) = true := by rw [bne_iff_ne]; omega
    have hout := out_bad (s := s) (sep := sep) (c := c) (fun hh => h2 hh.2) w
    have HO := Lib.hid hout
    clear hout h2 hsc
    go_enter Try.func17, Try.ntmps17
    go_wp2_with fail
    go_ret2
    exact HO.out

set_option maxHeartbeats 400000 in
theorem impl_any (s sep : ByteArray) (c : UInt8) (w : World) (hs : s.size ≤ 1048576) (hsc : sep.size = 1 → sep.data.toList[0]? = some c) :
    Calls Try.prog 10 #[.string s, .string sep] w (Out s sep c w) := by
  by_cases h1 : s.size ≤ 4000
  · by_cases h2 : sep.size = 1
    · refine (callsIn_wide (n := 3)).1 ?_
      refine (SplitCall.split_in _ 3 trivial trivial trivial rfl (Nat.le_refl _) s sep c h1 h2 (hsc h2) w).mono ?_
      rintro e w' ⟨v, rfl, hown, hb⟩
      exact out_good h1 h2 hown hb
    · have hbb : ((sep.size : Int) != 1) = true := by rw [bne_iff_ne]; omega
      have hout := out_bad (s := s) (sep := sep) (c := c) (fun hh => h2 hh.2) w
      have HO := Lib.hid hout
      clear hout h2 hsc
      go_enter Try.func10, Try.ntmps10
      go_wp2_with fail
      go_ret2
      exact HO.out
  · have hout := out_bad (s := s) (sep := sep) (c := c) (fun hh => h1 hh.1) w
    have HO := Lib.hid hout
    clear hout hsc
    go_enter Try.func10, Try.ntmps10
    go_wp2_with fail
    go_ret2
    exact HO.out
end Go.Proofs.Ytkoickdndjfnhaa.SplitBoth
