/- Contracts of ParseInt: the model's for every string of at most 1048576 bytes; the program's where the library's table and its two sentinels lie as their initialisers lay them. -/
import Derived.Test.YtaikphcemldikaaDoorRead
namespace Go.Proofs.YtaikphcemldikaaDoor.Parse
open Go.RowKit Dec

/-- What the library's variables hold. -/
structure Vars (w : World) : Prop where
  tab : Fmt.Tab w
  syn : ∃ tp p, w.var? Tryd.prog "strconv.ErrSyntax" = some #[.iface tp p]
  rng : ∃ tp p, w.var? Tryd.prog "strconv.ErrRange" = some #[.iface tp p]
theorem gSyn : Tryd.prog.globalNamed "strconv.ErrSyntax" = some 2 := by kernel_rfl
theorem gRng : Tryd.prog.globalNamed "strconv.ErrRange" = some 3 := by kernel_rfl
theorem Vars.below {w w' : World} (h : Vars w) (hb : Below w.heap.size w w') : Vars w' := by
  have hz := h.tab.size
  obtain ⟨tp, p, h1⟩ := h.syn
  obtain ⟨tq, q, h2⟩ := h.rng
  exact ⟨h.tab.below hb, ⟨tp, p, var?_below hb gSyn (by omega) h1⟩, ⟨tq, q, var?_below hb gRng (by omega) h2⟩⟩

theorem atoi_ok (s : ByteArray) (w : World) (hs : s.size ≤ 1048576) (v : Int) (h : Lib.atoiAll s.data.toList = .ok v) :
    Calls Tryd.prog 61 #[.string s] w fun e w' => e = .returned (.tuple #[.int .i64 v, .nilIface]) ∧ Below w.heap.size w w' :=
  (Tryd.strconv_Atoi_ok s (by omega) v h w).mono fun e w' ⟨he, hw⟩ => ⟨he, by
    rcases hw with rfl | ⟨t, rfl⟩
    · exact Below.refl _ _
    · exact Joins.below_bytesWorld _ _ _ _ (Nat.le_refl _)⟩

theorem numEnd_cases (x : Lib.NumEnd Int) : (∃ v, x = .ok v) ∨ x = Lib.NumEnd.syntax ∨ x = .range := by cases x <;> simp
def Failed (w : World) (e : Ending) (w' : World) : Prop := ∃ (n : Int) (T : TypeId) (a : Addr), e = .returned (.tuple #[.int .i64 n, .iface T (.pointer (some a))]) ∧ Below w.heap.size w w'
theorem atoi_bad (s : ByteArray) (w : World) (hs : s.size ≤ 1048576) (hv : Vars w) (h : ∀ v, Lib.atoiAll s.data.toList ≠ .ok v) :
    Calls Tryd.prog 61 #[.string s] w (Failed w) := by
  rcases numEnd_cases (Lib.atoiAll s.data.toList) with ⟨v, hx⟩ | hx | hx
  · exact absurd hx (h v)
  · obtain ⟨tp, p, h1⟩ := hv.syn
    exact (Tryd.strconv_Atoi_syntax_var s (by omega) hx tp p w h1).mono fun e w' ⟨N, he, _, _, hb⟩ => ⟨_, _, _, he, hb⟩
  · obtain ⟨tp, p, h1⟩ := hv.rng
    exact (Tryd.strconv_Atoi_range_var s (by omega) hx tp p w h1).mono fun e w' ⟨N, he, _, _, hb⟩ => ⟨_, _, _, he, hb⟩

set_option maxHeartbeats 400000 in
theorem impl_bad (s : ByteArray) (w : World) (hs : s.size ≤ 1048576) (hv : Vars w) (h : ∀ v, Lib.atoiAll s.data.toList ≠ .ok v) :
    Calls Tryd.prog 28 #[.string s] w fun e w' => e = .returned (.tuple #[.int .i64 0, .bool false]) ∧ Below w.heap.size w w' := by
  have hc := atoi_bad s w hs hv h
  have HC := Lib.hid hc
  clear hc h hv
  go_enter Tryd.func28, Tryd.ntmps28
  go_wp2_with fail
  refine HC.out.mono ?_
  rintro e w' ⟨n, T, a, rfl, hb⟩
  go_wp2_with fail
  go_ret2
  exact ⟨rfl, hb⟩
set_option maxHeartbeats 400000 in
theorem impl_out (s : ByteArray) (w : World) (hs : s.size ≤ 1048576) (v : Int) (h : Lib.atoiAll s.data.toList = .ok v) (hr : v < -999999 ∨ 999999 < v) :
    Calls Tryd.prog 28 #[.string s] w fun e w' => e = .returned (.tuple #[.int .i64 0, .bool false]) ∧ Below w.heap.size w w' := by
  have hc := atoi_ok s w hs v h
  have HC := Lib.hid hc
  clear hc h
  go_enter Tryd.func28, Tryd.ntmps28
  go_wp2_with fail
  refine HC.out.mono ?_
  rintro e w1 ⟨rfl, hb⟩
  go_wp2_with fail
  refine (Fmt.impl_out v _ hr).mono ?_
  rintro e w2 ⟨rfl, rfl⟩
  go_wp2_with fail
  go_ret2
  exact ⟨rfl, hb⟩
theorem impl_in_b (n : Int) (b : ByteArray) (w : World) (h0 : -999999 ≤ n) (h1 : n ≤ 999999) (ht : Fmt.Tab w) (hb : itoaB n = b) :
    Calls Tryd.prog 62 #[.int .i64 n] w fun e w' => e = .returned (.tuple #[.string b, .bool true]) ∧ Below w.heap.size w w' := by
  subst hb
  exact Fmt.impl_in n w h0 h1 ht
set_option maxHeartbeats 400000 in
theorem impl_other (s : ByteArray) (w : World) (hs : s.size ≤ 1048576) (v : Int) (h : Lib.atoiAll s.data.toList = .ok v) (h0 : -999999 ≤ v) (h1 : v ≤ 999999) (ht : Fmt.Tab w) (hne : itoaB v ≠ s) :
    Calls Tryd.prog 28 #[.string s] w fun e w' => e = .returned (.tuple #[.int .i64 0, .bool false]) ∧ Below w.heap.size w w' := by
  have hc := atoi_ok s w hs v h
  have HC := Lib.hid hc
  clear hc h
  obtain ⟨b, hbb⟩ : ∃ b, itoaB v = b := ⟨_, rfl⟩
  rw [hbb] at hne
  have hnl := Read.str_ne hne
  have HB := Lib.hid hbb
  clear hbb hne
  go_enter Tryd.func28, Tryd.ntmps28
  go_wp2_with fail
  refine HC.out.mono ?_
  rintro e w1 ⟨rfl, hb⟩
  go_wp2_with fail
  refine (impl_in_b v b _ h0 h1 (ht.below hb) HB.out).mono ?_
  rintro e w2 ⟨rfl, hb2⟩
  go_wp2_with fail
  go_ret2
  exact ⟨rfl, hb.trans (hb2.mono hb.size)⟩
set_option maxHeartbeats 400000 in
theorem impl_good (s : ByteArray) (w : World) (hs : s.size ≤ 1048576) (v : Int) (h : Lib.atoiAll s.data.toList = .ok v) (h0 : -999999 ≤ v) (h1 : v ≤ 999999) (ht : Fmt.Tab w) (heq : itoaB v = s) :
    Calls Tryd.prog 28 #[.string s] w fun e w' => e = .returned (.tuple #[.int .i64 v, .bool true]) ∧ Below w.heap.size w w' := by
  have hc := atoi_ok s w hs v h
  have HC := Lib.hid hc
  have HB := Lib.hid heq
  clear hc h heq
  go_enter Tryd.func28, Tryd.ntmps28
  go_wp2_with fail
  refine HC.out.mono ?_
  rintro e w1 ⟨rfl, hb⟩
  go_wp2_with fail
  refine (impl_in_b v s _ h0 h1 (ht.below hb) HB.out).mono ?_
  rintro e w2 ⟨rfl, hb2⟩
  go_wp2_with fail
  go_ret2
  exact ⟨rfl, hb.trans (hb2.mono hb.size)⟩

theorem impl_any (s : ByteArray) (w : World) (hs : s.size ≤ 1048576) (hv : Vars w) :
    Calls Tryd.prog 28 #[.string s] w fun e w' => e = .returned (.tuple #[.int .i64 ((pv s).getD 0), .bool (pv s).isSome]) ∧ Below w.heap.size w w' := by
  by_cases hok : ∃ v, Lib.atoiAll s.data.toList = .ok v
  · obtain ⟨v, hx⟩ := hok
    by_cases hr : -999999 ≤ v ∧ v ≤ 999999
    · by_cases heq : itoaB v = s
      · have hp : pv s = some v := (pv_iff s v).2 ⟨hr, heq⟩
        rw [hp]
        exact impl_good s w hs v hx hr.1 hr.2 hv.tab heq
      · have hp : pv s = none := by unfold pv; rw [hx]; simp [heq]
        rw [hp]
        exact impl_other s w hs v hx hr.1 hr.2 hv.tab heq
    · have hp : pv s = none := by unfold pv; rw [hx]; simp only; rw [if_neg (fun h => hr h.1)]
      rw [hp]
      exact impl_out s w hs v hx (by omega)
  · have h : ∀ v, Lib.atoiAll s.data.toList ≠ .ok v := fun v hv => hok ⟨v, hv⟩
    have hp : pv s = none := by
      cases hq : pv s with
      | none => rfl
      | some n =>
        obtain ⟨⟨h0, h1⟩, he⟩ := (pv_iff s n).1 hq
        exact absurd (by rw [← he, itoaB_list]; exact atoi_itoa n h0 h1) (h n)
    rw [hp]
    exact impl_bad s w hs hv h
end Go.Proofs.YtaikphcemldikaaDoor.Parse
