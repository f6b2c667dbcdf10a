/- slices.IndexFunc and slices.ContainsFunc over a list of ints, with a closure that answers by a mathematical function; no records. -/
import Derived.Test.YtfbgekhkbbhggaaIbr
namespace Go.Proofs.Ytfbgekhkbbhggaa.FuncI
open Go.RowKit Pairs Rec Keep GivesI
theorem call_enter {f : FuncId} {fn : Func} {c : Code} (hf : Try.prog.funcs[f]? = some fn) (hname : (fn.name == "runtime.NumGoroutine") = false) (hb : fn.body = some c) (args : Array Value) (w : World) :
    (callFunc f args).run Try.prog w = .ok (.enter f args) w := by
  have h1 : fn.name ≠ "runtime.NumGoroutine" := by simpa using hname
  simp [callFunc, hf, h1, hb]
/-- The first index at which q holds, or -1. -/
def ix (q : Int → Bool) (L : List Int) : Int := match L.findIdx? q with | some i => (i : Int) | none => -1
theorem ix_hit {q : Int → Bool} {L : List Int} {k : Nat} {x : Int} (hp : ∀ j y, j < k → L[j]? = some y → q y = false) (hx : L[k]? = some x) (hq : q x = true) : ix q L = (k : Int) := by
  have e : L.findIdx? q = some k := by
    rw [List.findIdx?_eq_some_iff_getElem]
    obtain ⟨hk, hxe⟩ := List.getElem?_eq_some_iff.1 hx
    refine ⟨hk, by rw [hxe]; exact hq, fun j hj => ?_⟩
    rw [hp j _ hj (List.getElem?_eq_getElem (by omega))]
    simp
  unfold ix
  rw [e]
theorem ix_none {q : Int → Bool} {L : List Int} (hp : ∀ j y, j < L.length → L[j]? = some y → q y = false) : ix q L = -1 ∧ L.any q = false := by
  have h : ∀ x ∈ L, q x = false := fun x hx => by
    obtain ⟨j, hj, e⟩ := List.getElem_of_mem hx
    exact hp j x hj (by rw [List.getElem?_eq_getElem hj, e])
  constructor
  · unfold ix
    rw [List.findIdx?_eq_none_iff.2 (fun x hx => by simp [h x hx])]
  · rw [List.any_eq_false]
    exact fun x hx => by simp [h x hx]
theorem ix_any {q : Int → Bool} {L : List Int} : (0 ≤ ix q L) ↔ L.any q = true := by
  unfold ix
  cases h : L.findIdx? q with
  | some i =>
    obtain ⟨hk, hq, _⟩ := List.findIdx?_eq_some_iff_getElem.1 h
    exact ⟨fun _ => List.any_eq_true.2 ⟨_, List.getElem_mem hk, hq⟩, fun _ => by show (0 : Int) ≤ (i : Int); omega⟩
  | none =>
    rw [List.findIdx?_eq_none_iff] at h
    constructor
    · intro h0
      exact absurd h0 (by decide)
    · intro h1
      obtain ⟨x, hx, hq⟩ := List.any_eq_true.1 h1
      rw [h x hx] at hq
      cases hq
set_option maxRecDepth 100000 in
set_option maxHeartbeats 4000000 in
theorem index_any (f : FuncId) (bs : Array Value) (q : Int → Bool) (a : Option Addr) (n c : Nat) (L : List Int) (w : World) (hn : n ≤ 1048576) (h1 : HoldsI w a n L)
    (hcall : ∀ (args : Array Value) (W : World), (callFunc f args).run Try.prog W = .ok (.enter f args) W)
    (hf : ∀ x wr, x ∈ L → Below w.heap.size w wr → Calls Try.prog f (#[.int .i64 x] ++ bs) wr fun e w' => e = .returned (.bool (q x)) ∧ Below wr.heap.size wr w') :
    Calls Try.prog 111 #[.slice a n c, .func (.func f) #[] bs] w fun e w' => e = .returned (.int .i64 (ix q L)) ∧ Below w.heap.size w w' := by
  have H1 := Lib.hid h1
  have HL1 := Lib.hid h1.1
  have HF := Lib.hid hf
  have HC := Lib.hid hcall
  clear h1 hf hcall
  go_enter Try.func111, Try.ntmps111
  go_wp2_with fail
  go_loopw [8] (fun s8 wr => ∃ k : Nat, k ≤ n ∧ s8 = .int .i64 k ∧ Hid (∀ j y, j < k → L[j]? = some y → q y = false) ∧ Hid (Below w.heap.size w wr)) (fun s8 _ => n - (intOf s8).toNat)
  case atStart => exact ⟨0, Nat.zero_le _, rfl, fun j y hj _ => by omega, Below.refl _ _⟩
  case round =>
    obtain ⟨k, hk, rfl, HP, HR⟩ := hrel
    by_cases hlt : k < n
    · obtain ⟨b, off, x, rfl, hx, e1⟩ := (H1.out.below HR.out).at k hlt
      have HX := Lib.hid hx
      have hkn : (k : Int) < (n : Int) := by omega
      have hk0 : (0 : Int) ≤ (k : Int) := by omega
      clear hx
      go_wp2_with fail
      rw [HC.out, Oper.upon_enter]
      refine (HF.out x _ (List.mem_of_getElem? HX.out) HR.out).mono ?_
      rintro e w8 ⟨rfl, b8⟩
      have HR8 := Lib.hid (HR.out.trans (b8.mono HR.out.size))
      clear b8 e1
      cases hq : q x with
      | true =>
        have HA := Lib.hid (ix_hit HP.out HX.out hq)
        clear hq
        go_wp2_with fail
        go_ret
        exact ⟨by rw [HA.out]; rfl, HR8.out⟩
      | false =>
        have HP2 : Hid (∀ j y, j < k + 1 → L[j]? = some y → q y = false) := fun j y hj hy => by
          by_cases e : j = k
          · subst e
            have h := HX.out
            rw [hy] at h
            injection h with h
            rw [h]
            exact hq
          · exact HP.out j y (by omega) hy
        clear hq
        go_wp2_with fail
        exact ⟨⟨k + 1, by omega, by go_num, HP2, HR8⟩, by simp [intOf]; omega⟩
    · obtain rfl : k = n := by omega
      have hkn : ¬ (k : Int) < (k : Int) := by omega
      have hp := HP.out
      have HQ := Lib.hid (ix_none (q := q) (L := L) (by rw [HL1.out]; exact hp)).1
      clear hp
      go_wp2_with fail
      go_ret
      exact ⟨by rw [HQ.out]; rfl, HR.out⟩
set_option maxRecDepth 100000 in
set_option maxHeartbeats 4000000 in
theorem contains_any (f : FuncId) (bs : Array Value) (q : Int → Bool) (a : Option Addr) (n c : Nat) (L : List Int) (w : World) (hn : n ≤ 1048576) (h1 : HoldsI w a n L)
    (hcall : ∀ (args : Array Value) (W : World), (callFunc f args).run Try.prog W = .ok (.enter f args) W)
    (hf : ∀ x wr, x ∈ L → Below w.heap.size w wr → Calls Try.prog f (#[.int .i64 x] ++ bs) wr fun e w' => e = .returned (.bool (q x)) ∧ Below wr.heap.size wr w') :
    Calls Try.prog 127 #[.slice a n c, .func (.func f) #[] bs] w fun e w' => e = .returned (.bool (L.any q)) ∧ Below w.heap.size w w' := by
  have HI := Lib.hid (index_any f bs q a n c L w hn h1 hcall hf)
  have HX := Lib.hid (ix_any (q := q) (L := L))
  clear hcall hf h1
  generalize ix q L = i at *
  go_enter Try.func127, Try.ntmps127
  go_wp2_with fail
  refine HI.out.mono ?_
  rintro e w1 ⟨rfl, b1⟩
  have HB := Lib.hid b1
  clear b1
  by_cases h0 : (0 : Int) ≤ i
  · have HA := Lib.hid (HX.out.1 h0)
    go_wp2_with fail
    go_ret
    exact ⟨by rw [HA.out]; rfl, HB.out⟩
  · have HA : Hid (L.any q = false) := by
      unfold Hid
      cases h : L.any q with
      | false => rfl
      | true => exact absurd (HX.out.2 h) h0
    go_wp2_with fail
    go_ret
    exact ⟨by rw [HA.out]; simp [h0], HB.out⟩
end Go.Proofs.Ytfbgekhkbbhggaa.FuncI
