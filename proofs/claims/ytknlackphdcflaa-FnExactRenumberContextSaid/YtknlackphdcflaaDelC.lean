/- slices.Delete of one context. -/
import Derived.Test.YtknlackphdcflaaCopy
import Derived.Deep.RegionLaw
namespace Go.Proofs.Ytknlackphdcflaa.DelC
open Go.RowKit Pairs Rec Keep Row2 Copy

theorem run_clear1 {P : Program} (w : World) (t e ty : TypeId) (ht : P.underlying t = some (.slice e)) (hv : ∀ w, (zeroValue e).run P w = .ok (.agg #[.int .i64 0, .int .i64 0]) w) (b o c : Nat)
    (hc : ∀ j, j < 2 → (w.cell? ⟨b, o + j, none⟩).isSome = true) (hf : ∀ j, j < 2 → w.frozen? ⟨b, o + j, none⟩ = false) :
    (Builtin.clear_ #[t] ty #[.slice (some ⟨b, o, none⟩) 1 c]).run P w = .ok (.tuple #[]) (w.setCells b o [.int .i64 0, .int .i64 0]) := by
  have hzc : (Builtin.zeroCells (Value.agg #[.int .i64 0, .int .i64 0]).cells 1).toList = [.int .i64 0, .int .i64 0] := by kernel_rfl
  have hst := run_storeCells_cells (P := P) b o [.int .i64 0, .int .i64 0] 0 w (by simpa using hc) (by simpa using hf) (by intro v hv'; simp at hv'; subst hv'; rfl)
  simp only [Nat.add_zero] at hst
  simp [Builtin.clear_, run_underlying ht, hv, hzc, hst]
theorem setCells_row {w : World} {g o : Nat} {vs cur : List Value} {T : TypeId} (hg : w.heap[g]? = some (.cells cur.toArray T)) (h : o + vs.length ≤ cur.length) (h1 : ∀ v ∈ vs, v.oneCell' = true) : w.setCells g o vs = w.setRow g (splice cur o vs).toArray := by
  have a := run_storeCells_at Try.prog g o T vs 0 cur.toArray w hg (by simpa using h) h1
  have c : ∀ j, j < vs.length → (w.cell? ⟨g, o + j, none⟩).isSome = true := fun j hj => by simp [World.cell?, hg]; omega
  have b := run_storeCells_cells (P := Try.prog) g o vs 0 w (by simpa using c) (fun j _ => by simp [World.frozen?, hg]) h1
  rw [a] at b
  injection b with _ b
  simp only [Nat.add_zero] at b
  rw [← b]
  unfold splice
  simp
theorem flat_app (l1 l2 : List (Int × Int)) : flat (l1 ++ l2) = flat l1 ++ flat l2 := by unfold flat; rw [List.flatMap_append]
theorem kept_drew {S : Nat → Prop} (w : World) : Kept S w w.drew := ⟨rfl, rfl, rfl, Nat.le_refl _, fun _ _ _ => rfl⟩
theorem kept_setCells {S : Nat → Prop} {w w' : World} (h : Kept S w w') {g : Nat} (hg : S g) : ∀ {o : Nat} (vs : List Value), Kept S w (w'.setCells g o vs) := by
  intro o vs
  induction vs generalizing w' o with
  | nil => exact h
  | cons v vs ih => exact ih (h.setCell hg v)
theorem zeroContext : ∀ w, (zeroValue 36).run Try.prog w = .ok (.agg #[.int .i64 0, .int .i64 0]) w := Try.zeroValue36
set_option maxRecDepth 1000000 in
set_option maxHeartbeats 4000000 in
theorem delete_any (g i r : Nat) (l1 l2 : List (Int × Int)) (x : Int × Int) (hl1 : l1.length = i) (hl2 : l2.length = r) (hn : i + 1 + r ≤ 1048576) (w : World) (h : w.heap[g]? = some (.cells (flat (l1 ++ x :: l2)).toArray 36)) :
    Calls Try.prog 59 #[.slice (some ⟨g, 0, none⟩) (i + 1 + r) (i + 1 + r), .int .i64 i, .int .i64 ((i : Int) + 1)] w fun e w' => e = .returned (.slice (some ⟨g, 0, none⟩) (i + r) (i + 1 + r)) ∧
      w'.heap[g]? = some (.cells (flat (l1 ++ l2) ++ [Value.int .i64 0, Value.int .i64 0]).toArray 36) ∧ Kept (fun b => b = g) w w' := by
  obtain ⟨i0, hi, hy0, hy1, hy2⟩ := info_parts infoContext
  have hlen : (flat (l1 ++ x :: l2)).length = (i + 1 + r) * 2 := by rw [flat_len]; simp; omega
  have HH := Lib.hid h
  have HLEN := Lib.hid hlen
  have hfl : flat (l1 ++ x :: l2) = flat l1 ++ (.int .i64 x.1 :: .int .i64 x.2 :: flat l2) := by rw [flat_app, flat_cons]
  have hf1 : (flat l1).length = i * 2 := by rw [flat_len, hl1]
  have hf2 : (flat l2).length = r * 2 := by rw [flat_len, hl2]
  obtain ⟨A, hA, HC⟩ : ∃ A : Addr, (if r = 0 then some (⟨g, 0, none⟩ : Addr) else some ⟨g, (i + 1) * 2, none⟩) = some A ∧ Hid (∀ j u, (flat l2)[j]? = some u → w.drew.cell? (A.add j) = some u) := by
    by_cases hr : r = 0
    · refine ⟨_, if_pos hr, fun j u hu => ?_⟩
      have h0 : (flat l2).length = 0 := by omega
      rw [List.length_eq_zero_iff.1 h0] at hu
      simp at hu
    · refine ⟨_, if_neg hr, fun j u hj => ?_⟩
      rw [Addr.add_lit]
      show w.cell? _ = some u
      simp only [World.cell?, h]
      rw [List.getElem?_toArray, hfl, List.getElem?_append_right (by omega), hf1, show (i + 1) * 2 + j - i * 2 = j + 2 by omega]
      exact hj
  have HS : Hid (∀ j, j < (flat l2).length → (w.drew.cell? ⟨g, 0 + i * 2 + j, none⟩).isSome = true ∧ w.drew.frozen? ⟨g, 0 + i * 2 + j, none⟩ = false) := by
    intro j hj
    have h' : w.drew.heap[g]? = some (.cells (flat (l1 ++ x :: l2)).toArray 36) := h
    constructor
    · simp only [World.cell?, h', List.getElem?_toArray]
      rw [List.getElem?_eq_getElem (by rw [hlen]; omega)]
      rfl
    · simp only [World.frozen?, h']
      rfl
  have HF2 := Lib.hid hf2
  have HF1 := Lib.hid hf1
  have HFL := Lib.hid hfl
  clear h hlen hf1 hf2 hfl
  have hne : ((i : Int) == (i : Int) + 1) = false := by rw [beq_eq_false_iff_ne]; omega
  have hwr : IntKind.i64.wrap ((i : Int) + 1) = (i : Int) + 1 := by rw [IntKind.wrap_i64]; omega
  go_enter Try.func59, Try.ntmps59
  go_wp2_with fail
  have hp1 : (i : Int) ≤ (i : Int) + 1 + (r : Int) := by omega
  have hp2 : (0 : Int) ≤ (i : Int) + 1 := by omega
  have hp3 : (i : Int) + 1 ≤ (i : Int) + 1 + (r : Int) := by omega
  have hp4 : ((i : Int) + 1).toNat = i + 1 := by omega
  go_region_law (refine step_append_room rfl (.tmp 22) (.tmp 25) 29 rfl 36 i0 2 Try.underlying29 hi hy1 g 0 i (i + 1 + r) (by simp [Act.eval, Act.put]) A r (i + 1 + r - (i + 1)) (flat l2) (by simp [Act.eval, Act.put]) HF2.out HC.out (flat_one l2) (by omega) HS.out ?_)
  have HG1 : Hid ((w.drew.setCells g (i * 2) (flat l2)).heap[g]? = some (.cells (splice (flat (l1 ++ x :: l2)) (i * 2) (flat l2)).toArray 36)) := by
    have h' : w.drew.heap[g]? = some (.cells (flat (l1 ++ x :: l2)).toArray 36) := HH.out
    unfold Hid
    rw [setCells_row h' (by rw [HF2.out, HLEN.out]; omega) (flat_one l2)]
    exact setRow_heap _ _ _ _ _ _ h'
  have HK1 : Hid (Kept (fun b => b = g) w (w.drew.setCells g (i * 2) (flat l2))) := kept_setCells (S := fun b => b = g) (kept_drew w) (g := g) rfl _
  have HE1 : Hid (splice (flat (l1 ++ x :: l2)) (i * 2) (flat l2) = flat (l1 ++ l2) ++ (flat (l1 ++ x :: l2)).drop ((i + r) * 2)) := by
    unfold Hid splice
    rw [HF2.out, HFL.out, List.take_append_of_le_length (by rw [HF1.out]; omega), List.take_of_length_le (by rw [HF1.out]; omega), flat_app, List.append_assoc, show i * 2 + r * 2 = (i + r) * 2 by omega]
  generalize w.drew.setCells g (i * 2) (flat l2) = W1 at *
  have HG1' := HG1.out
  rw [HE1.out] at HG1'
  have HG2 := Lib.hid HG1'
  have HD : Hid (((flat (l1 ++ x :: l2)).drop ((i + r) * 2)).length = 2) := by unfold Hid; rw [List.length_drop, HLEN.out]; omega
  have HF3 : Hid ((flat (l1 ++ l2)).length = (i + r) * 2) := by unfold Hid; rw [flat_len, List.length_append, hl1, hl2]
  have hcl : ∀ c ty, (Builtin.clear_ #[29] ty #[.slice (some ⟨g, (i + r) * 2, none⟩) 1 c]).run Try.prog W1 = .ok (.tuple #[]) (W1.setCells g ((i + r) * 2) [.int .i64 0, .int .i64 0]) := by
    intro c ty
    refine run_clear1 W1 _ _ ty Try.underlying29 zeroContext g _ c (fun j hj => ?_) (fun j hj => ?_)
    · simp only [World.cell?, HG2.out, List.getElem?_toArray]
      rw [List.getElem?_eq_getElem (by rw [List.length_append, HF3.out, HD.out]; omega)]
      rfl
    · simp only [World.frozen?, HG2.out]
      rfl
  have HG3 : Hid ((W1.setCells g ((i + r) * 2) [.int .i64 0, .int .i64 0]).heap[g]? = some (.cells (flat (l1 ++ l2) ++ [Value.int .i64 0, Value.int .i64 0]).toArray 36)) := by
    have e : splice (flat (l1 ++ l2) ++ (flat (l1 ++ x :: l2)).drop ((i + r) * 2)) ((i + r) * 2) [Value.int .i64 0, Value.int .i64 0] = flat (l1 ++ l2) ++ [Value.int .i64 0, Value.int .i64 0] := by
      unfold splice
      rw [← HF3.out, List.take_left, List.drop_of_length_le (by rw [List.length_append, HF3.out, HD.out]; simp), List.append_nil]
    unfold Hid
    rw [setCells_row HG2.out (by rw [List.length_append, HF3.out, HD.out]; simp) (by intro v hv; simp at hv; subst hv; rfl), e]
    exact setRow_heap _ _ _ _ _ _ HG2.out
  have HK2 : Hid (Kept (fun b => b = g) w (W1.setCells g ((i + r) * 2) [.int .i64 0, .int .i64 0])) := kept_setCells (S := fun b => b = g) HK1.out (g := g) rfl _
  clear HG1'
  go_wp2_with fail
  have e1 : i + 1 + r - (i + r) = 1 := by omega
  rw [e1, hcl]
  clear hcl
  generalize W1.setCells g ((i + r) * 2) [.int .i64 0, .int .i64 0] = W2 at *
  go_wp2_with fail
  go_ret
  exact ⟨rfl, HG3.out, HK2.out⟩
end Go.Proofs.Ytknlackphdcflaa.DelC
