/- Contracts of VerifyChecksum, the model's and the program's: each returns what 'vv' says, for every string of at most 1048576 bytes; the program's where the library's table lies as its initialiser lays it and its variable MaxLen holds some int. -/
import Derived.Test.YtkoickdndjfnhaaDoorApp
import Derived.Test.YtkoickdndjfnhaaDoorFirst
namespace Go.Proofs.YtkoickdndjfnhaaDoor.Ver
open Go.RowKit Dec Seal First Split Stands

/-- What VerifyChecksum returns. -/
def vv (s : ByteArray) : Option ByteArray := if s.size ≤ 4000 ∧ sealB (first s 35) = s then some (first s 35) else none
def Out (s : ByteArray) (w : World) (e : Ending) (w' : World) : Prop := e = .returned (.tuple #[.string ((vv s).getD ⟨#[]⟩), .bool (vv s).isSome]) ∧ Below w.heap.size w w'
theorem out_none {s : ByteArray} {w w' : World} (h : vv s = none) (hb : Below w.heap.size w w') : Out s w (.returned (.tuple #[.string ⟨#[]⟩, .bool false])) w' := by
  unfold Out; rw [h]; exact ⟨rfl, hb⟩
theorem out_some {s b : ByteArray} {w w' : World} (h : vv s = some b) (hb : Below w.heap.size w w') : Out s w (.returned (.tuple #[.string b, .bool true])) w' := by
  unfold Out; rw [h]; exact ⟨rfl, hb⟩
theorem str_ne {a b : ByteArray} (h : a ≠ b) : (a.toList == b.toList) = false := by
  rw [ByteArray.toList_eq, ByteArray.toList_eq, beq_eq_false_iff_ne]
  intro e
  apply h
  have : a.data = b.data := Array.toList_inj.1 e
  cases a; cases b; simp_all
theorem parts_len (s : ByteArray) (b : UInt8) : 1 ≤ (parts s b).length := by unfold parts; simp
/-- What l1Split leaves, for a look at its first part. -/
theorem split_first (s : ByteArray) (w : World) (hs : s.size ≤ 1048576) :
    Calls Tryd.prog 36 #[.string s, .int .u8 35] w fun e w' => ∃ g n cap : Nat, e = .returned (.slice (some ⟨g, 0, none⟩) (n + 1) cap) ∧ w'.cell? ⟨g, 0, none⟩ = some (.string (first s 35)) ∧ Below w.heap.size w w' := by
  refine (l1Split_any s 35 w hs).mono ?_
  rintro e w' ⟨v, rfl, hown, hb⟩
  obtain ⟨n, hn⟩ : ∃ n, (parts s 35).length = n + 1 := ⟨(parts s 35).length - 1, by have := parts_len s 35; omega⟩
  rw [hn] at hown
  obtain ⟨g, cap, rfl⟩ := ownsRow_succ hown
  refine ⟨g, n, cap, rfl, ?_, hb⟩
  rw [hown.cellAt 0 (by omega)]
  unfold strs
  rw [List.getElem?_map, parts_head]
  rfl

set_option maxHeartbeats 400000 in
theorem spec_any (s : ByteArray) (w : World) (hs : s.size ≤ 1048576) :
    Calls Tryd.prog 20 #[.string s] w (Out s w) := by
  by_cases h1 : s.size ≤ 4000
  · have hc := split_first s w hs
    have hz := first_size s 35
    have hvs : vv s = if sealB (first s 35) = s then some (first s 35) else none := by
      unfold vv
      by_cases h : sealB (first s 35) = s
      · rw [if_pos ⟨h1, h⟩, if_pos h]
      · rw [if_neg (fun hh => h hh.2), if_neg h]
    have HV := Lib.hid hvs
    have HC := Lib.hid hc
    clear hc hvs
    generalize first s 35 = t at *
    obtain ⟨b, hb⟩ : ∃ b, sealB t = b := ⟨_, rfl⟩
    by_cases heq : b = s
    · subst heq
      have HB := Lib.hid hb
      clear hb
      go_enter Tryd.func20, Tryd.ntmps20
      go_wp2_with fail
      refine HC.out.mono ?_
      rintro e w1 ⟨g, n, cap, rfl, hcell, hb1⟩
      have hp : (0 : Int) < (n : Int) + 1 := by omega
      go_wp2_with fail
      refine (App.seal_b t b _ (by omega) HB.out).mono ?_
      rintro e w' ⟨rfl, m, rfl⟩
      go_wp2_with fail
      go_ret2
      have hv := HV.out
      rw [if_pos HB.out] at hv
      exact out_some hv (hb1.trans ((Joins.below_draws _ _ _).mono hb1.size))
    · have hne := str_ne heq
      have HB := Lib.hid hb
      have HE := Lib.hid heq
      clear hb heq
      go_enter Tryd.func20, Tryd.ntmps20
      go_wp2_with fail
      refine HC.out.mono ?_
      rintro e w1 ⟨g, n, cap, rfl, hcell, hb1⟩
      have hp : (0 : Int) < (n : Int) + 1 := by omega
      go_wp2_with fail
      refine (App.seal_b t b _ (by omega) HB.out).mono ?_
      rintro e w' ⟨rfl, m, rfl⟩
      go_wp2_with fail
      go_ret2
      have hv := HV.out
      rw [HB.out, if_neg HE.out] at hv
      exact out_none hv (hb1.trans ((Joins.below_draws _ _ _).mono hb1.size))
  · have hv : vv s = none := by unfold vv; rw [if_neg (fun hh => h1 hh.1)]
    have HV := Lib.hid hv
    clear hv
    go_enter Tryd.func20, Tryd.ntmps20
    go_wp2_with fail
    go_ret2
    exact out_none HV.out (Below.refl _ _)

/-- What the program's variables hold: the table; internal/bytealg.MaxLen some int. -/
structure Mem (w : World) : Prop where
  tab : Fmt.Tab w
  len : ∃ m : Int, w.cell? ⟨2, 0, none⟩ = some (.int .i64 m)
theorem Mem.below {w w' : World} (h : Mem w) (hb : Below w.heap.size w w') : Mem w' := by
  have hz := h.tab.size
  obtain ⟨m, hm⟩ := h.len
  exact ⟨h.tab.below hb, m, (hb.cell (p := ⟨2, 0, none⟩) (by show 2 < _; omega)).trans hm⟩

def CutOut (t : ByteArray) (f : Bool) (w : World) (e : Ending) (w' : World) : Prop := ∃ (r : ByteArray), e = .returned (.tuple #[.string t, .string r, .bool f]) ∧ Below w.heap.size w w'
theorem cut_any (s : ByteArray) (w : World) (hs : s.size ≤ 1048576) (hm : Mem w) :
    Calls Tryd.prog 35 #[.string s, .string ⟨#[35]⟩] w (CutOut (first s 35) (decide (0 ≤ Lib.indexByte s.data.toList 35)) w) := by
  obtain ⟨m, hc⟩ := hm.len
  refine (Tryd.strings_Cut s ⟨#[35]⟩ m w (by omega) hc).mono ?_
  rintro e w' ⟨rfl, n, rfl⟩
  refine ⟨⟨(Lib.cut s.data.toList [35]).2.1.toArray⟩, ?_, Joins.below_draws _ _ _⟩
  rw [← cut_first, ← cut_found]

theorem av_iff (t s : ByteArray) (hcl : hasB t.data.toList 35 = false) (hz : t.size ≤ s.size) : av t = some s ↔ s.size ≤ 4000 ∧ sealB t = s := by
  unfold av
  constructor
  · intro h
    split at h
    · rename_i hh
      have e := Option.some.inj h
      exact ⟨by rw [← e]; exact hh.2, e⟩
    · cases h
  · rintro ⟨h4, h⟩
    rw [if_pos ⟨⟨by omega, hcl⟩, by rw [h]; exact h4⟩, h]
set_option maxHeartbeats 400000 in
theorem impl_any (s : ByteArray) (w : World) (hs : s.size ≤ 1048576) (hm : Mem w) :
    Calls Tryd.prog 18 #[.string s] w (Out s w) := by
  have hc := cut_any s w hs hm
  have hz := first_size s 35
  by_cases hf : 0 ≤ Lib.indexByte s.data.toList 35
  · rw [show decide (0 ≤ Lib.indexByte s.data.toList 35) = true by simpa using hf] at hc
    have hcl : hasB (first s 35).data.toList 35 = false := first_clean s 35
    have hav : vv s = if av (first s 35) = some s then some (first s 35) else none := by
      unfold vv
      by_cases h : s.size ≤ 4000 ∧ sealB (first s 35) = s
      · rw [if_pos h, if_pos ((av_iff _ _ hcl hz).2 h)]
      · rw [if_neg h, if_neg (fun hh => h ((av_iff _ _ hcl hz).1 hh))]
    have HV := Lib.hid hav
    have HC := Lib.hid hc
    clear hc hav hcl hf
    generalize first s 35 = t at *
    cases ha : av t with
    | none =>
      have HA := Lib.hid ha
      clear ha
      go_enter Tryd.func18, Tryd.ntmps18
      go_wp2_with fail
      refine HC.out.mono ?_
      rintro e w1 ⟨r, rfl, hb1⟩
      go_wp2_with fail
      refine (App.impl_any t _ (by omega) (hm.below hb1).tab).mono ?_
      rintro e w2 ⟨rfl, hb2⟩
      rw [HA.out]
      go_wp2_with fail
      go_ret2
      have hv := HV.out
      rw [HA.out, if_neg (by simp)] at hv
      exact out_none hv (hb1.trans (hb2.mono hb1.size))
    | some b =>
      have HA := Lib.hid ha
      clear ha
      by_cases heq : b = s
      · subst heq
        go_enter Tryd.func18, Tryd.ntmps18
        go_wp2_with fail
        refine HC.out.mono ?_
        rintro e w1 ⟨r, rfl, hb1⟩
        go_wp2_with fail
        refine (App.impl_any t _ (by omega) (hm.below hb1).tab).mono ?_
        rintro e w2 ⟨rfl, hb2⟩
        rw [HA.out]
        go_wp2_with fail
        go_ret2
        have hv := HV.out
        rw [HA.out, if_pos rfl] at hv
        exact out_some hv (hb1.trans (hb2.mono hb1.size))
      · have hne := str_ne heq
        have HE := Lib.hid heq
        clear heq
        go_enter Tryd.func18, Tryd.ntmps18
        go_wp2_with fail
        refine HC.out.mono ?_
        rintro e w1 ⟨r, rfl, hb1⟩
        go_wp2_with fail
        refine (App.impl_any t _ (by omega) (hm.below hb1).tab).mono ?_
        rintro e w2 ⟨rfl, hb2⟩
        rw [HA.out]
        go_wp2_with fail
        go_ret2
        have hv := HV.out
        rw [HA.out, if_neg (fun e => HE.out (Option.some.inj e))] at hv
        exact out_none hv (hb1.trans (hb2.mono hb1.size))
  · rw [show decide (0 ≤ Lib.indexByte s.data.toList 35) = false by simpa using hf] at hc
    have hv : vv s = none := by
      unfold vv
      rw [first_whole s 35 hf, if_neg]
      rintro ⟨_, h⟩
      have := congrArg ByteArray.size h
      unfold sealB at this
      rw [ByteArray.size_append, ByteArray.size_append, hash_size] at this
      omega
    have HV := Lib.hid hv
    have HC := Lib.hid hc
    clear hc hv hf
    generalize first s 35 = t at *
    go_enter Tryd.func18, Tryd.ntmps18
    go_wp2_with fail
    refine HC.out.mono ?_
    rintro e w1 ⟨r, rfl, hb1⟩
    go_wp2_with fail
    go_ret2
    exact out_none HV.out hb1
end Go.Proofs.YtkoickdndjfnhaaDoor.Ver
