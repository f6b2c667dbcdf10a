/- What is added can be removed again; equated contexts leave a valid record without one of them. -/
import Derived.Test.YthcjembekadijaaRenumberSaidPartae
import Derived.Test.YthcjembekadijaaRecordsSaidPartac
import Derived.Test.YthcjembekadijaaOrderSaidPartao
import Derived.Test.YthcjembekadijaaOrderSaidPartaa
import Derived.WalkKit
import Derived.ProofKit
import Derived.OpenShut
import Derived.ShutString
import Derived.ChangeOld
import Derived.Below
namespace Go.Proofs.Ythcjembekadijaa.RecB
open Pairs Find2 GoodM RelM SwapM EquM SortC GoodE Gives
open AddC (addC)
open AddRM (addR)
open RemCS (remC notC notR)
open RemRS (remR ne2)
open Idx (idx)
variable {x k : Int} {l m l' m' : List (Int × Int)}
theorem addC_inv (h : addC x k l m = some (l', m')) : good l m = true ∧ good l' m' = true ∧ l' = ins l (pl l x) (x, k) ∧ m' = m := by
  unfold addC at h
  split at h
  · rename_i hc
    injection h with h
    injection h with h1 h2
    subst h1 h2
    exact ⟨hc.1, hc.2, rfl, rfl⟩
  · cases h
theorem addC_free (h : addC x k l m = some (l', m')) : ∀ u, (x, u) ∉ l := by
  obtain ⟨_, h2, h3, h4⟩ := addC_inv h
  have hA := (good_is h2).asc
  intro u hu
  have hk : (x, k) ∈ l' := by rw [h3, mem_ins]; exact .inl rfl
  have hu' : (x, u) ∈ l' := by rw [h3, mem_ins]; exact .inr hu
  obtain rfl := hA.one hk hu'
  have hn : l'.Nodup := hA.imp (fun {a b} hab e => by subst e; omega)
  rw [h3] at hn
  unfold ins List.Nodup at hn
  rw [List.pairwise_append, List.pairwise_cons] at hn
  rw [← List.take_append_drop (pl l x) l, List.mem_append] at hu
  rcases hu with hu | hu
  · exact hn.2.2 _ hu _ List.mem_cons_self rfl
  · exact hn.2.1.1 _ hu rfl
theorem addC_back (h : addC x k l m = some (l', m')) : remC x l' m' = some (l, m) := by
  have hf := addC_free h
  obtain ⟨h1, h2, h3, h4⟩ := addC_inv h
  have hG := good_is h1
  have hG' := good_is h2
  have hk : (x, k) ∈ l' := by rw [h3, mem_ins]; exact .inl rfl
  obtain ⟨j, hj⟩ := isAt_of_mem hk
  rw [RemCS.remC_some h2 (by rw [hj]; rfl)]
  congr 1
  refine Prod.ext ?_ ?_
  · refine AscP.ext (ascP_filter hG'.asc _) hG.asc (fun p => ?_)
    show p ∈ l'.filter (notC x) ↔ p ∈ l
    rw [List.mem_filter, h3, mem_ins]
    unfold notC
    rw [decide_eq_true_iff]
    constructor
    · rintro ⟨rfl | hp, hne⟩
      · exact absurd rfl hne
      · exact hp
    · intro hp
      exact ⟨.inr hp, fun e => hf p.2 (by rw [← e]; exact hp)⟩
  · show m'.filter (notR x) = m
    rw [h4, List.filter_eq_self]
    intro p hp
    obtain ⟨_, ⟨u, hu⟩, v, hv⟩ := hG.rel p hp
    unfold notR
    rw [decide_eq_true_iff]
    exact ⟨fun e => hf u (by rw [← e]; exact hu), fun e => hf v (by rw [← e]; exact hv)⟩
theorem addC_at (h : addC x k l m = some (l', m')) : ∃ i : Nat, idx l' m' x = ((i : Int), true) ∧ l'[i]? = some (x, k) := by
  obtain ⟨h1, h2, h3, h4⟩ := addC_inv h
  have hk : (x, k) ∈ l' := by rw [h3, mem_ins]; exact .inl rfl
  obtain ⟨j, hj⟩ := isAt_of_mem hk
  obtain ⟨u, hu⟩ := isAt_at hj
  obtain rfl := (good_is h2).asc.one (List.mem_of_getElem? hu) hk
  refine ⟨j, ?_, hu⟩
  unfold idx
  rw [if_pos ⟨h2, by rw [hj]; rfl⟩, find_some hj]
theorem addR_inv (h : addR x k l m = some (l', m')) : good l m = true ∧ good l' m' = true ∧ l' = l ∧ m' = link m (x, k) := by
  unfold addR at h
  split at h
  · rename_i hc
    injection h with h
    injection h with h1 h2
    subst h1 h2
    exact ⟨hc.1, hc.2, rfl, rfl⟩
  · cases h
theorem addR_back (h : addR x k l m = some (l', m')) (hn : (m.any fun p => p.1 == x && p.2 == k) = false) : remR x k l' m' = some (l, m) := by
  obtain ⟨h1, h2, h3, h4⟩ := addR_inv h
  have hf : (x, k) ∉ m := fun hm => by
    have : (m.any fun p => p.1 == x && p.2 == k) = true := List.any_eq_true.2 ⟨_, hm, by simp⟩
    rw [hn] at this
    cases this
  have hm : (x, k) ∈ m' := by rw [h4, mem_link]; exact .inl rfl
  rw [RemRS.remR_some h2 hm, h3]
  congr 1
  refine Prod.ext rfl ?_
  refine Up.ext (up_filter (good_is h2).up _) (good_is h1).up (fun p => ?_)
  show p ∈ m'.filter (ne2 x k) ↔ p ∈ m
  rw [List.mem_filter, h4, mem_link]
  unfold ne2
  rw [decide_eq_true_iff]
  constructor
  · rintro ⟨rfl | hp, hne⟩
    · exact absurd rfl hne
    · exact hp
  · intro hp
    exact ⟨.inr hp, fun e => hf (by rw [← e]; exact hp)⟩
/-- Equated contexts leave a valid record without one of them. -/
theorem eq_left (h : eqM x k l m = some (l', m')) : good l' m' = true ∧ l'.length + 1 = l.length ∧ idx l' m' k = (0, false) := by
  unfold eqM at h
  split at h
  · rename_i hg
    cases hi : isAt l x with
    | none => rw [hi] at h; cases h
    | some i =>
      cases hj : isAt l k with
      | none => rw [hi, hj] at h; cases h
      | some j =>
        rw [hi, hj] at h
        simp only at h
        split at h
        · rename_i hc
          injection h with h
          injection h with h1 h2
          have hG := good_is hg
          have hl' : l' = rest l j := h1.symm
          have hne : x ≠ k := fun e => by subst e; rw [hi] at hj; injection hj with hj; exact hc.1 hj
          obtain ⟨u, hu⟩ := isAt_at hi
          have hjl := isAt_lt hj
          have hlen : l'.length + 1 = l.length := by
            rw [hl']
            unfold rest
            rw [List.length_append, List.length_take, List.length_drop]
            omega
          have hkey : ∀ {a v : Int}, (a, v) ∈ l → ∃ v', (rn k x a, v') ∈ l' := fun {a v} ha => by
            by_cases e : a = k
            · subst e
              rw [rn_same, hl']
              exact ⟨u, (mem_rest hg hj).2 ⟨List.mem_of_getElem? hu, hne⟩⟩
            · rw [rn_other e, hl']
              exact ⟨v, (mem_rest hg hj).2 ⟨ha, e⟩⟩
          refine ⟨good_of ⟨by have := hG.few1; omega, ?_, by rw [hl']; exact asc_rest hg hj, fun p hp => ?_, by rw [← h2]; exact up_swap, fun y hy => ?_⟩, hlen, ?_⟩
          · have h3 := swap_len k x m m.length
            rw [List.take_length] at h3
            rw [← h2]
            exact Nat.le_trans h3 hG.few2
          · rw [hl'] at hp
            exact hG.num _ ((mem_rest hg hj).1 hp).1
          · rw [← h2, mem_swap] at hy
            obtain ⟨⟨p, hp, rfl⟩, hnz⟩ := hy
            obtain ⟨_, ⟨u1, hu1⟩, v1, hv1⟩ := hG.rel p hp
            exact ⟨hnz, hkey hu1, hkey hv1⟩
          · unfold idx
            have h0 : isAt l' k = none := isAt_none_of fun v hv => by
              rw [hl'] at hv
              exact ((mem_rest hg hj).1 hv).2 rfl
            rw [h0]
            simp
        · cases h
  · cases h
theorem idx_nil (z : Int) : idx [] [] z = (0, false) := by
  unfold idx isAt
  simp
end Go.Proofs.Ythcjembekadijaa.RecB
/- The frame of FnRecords: from a walk to the statement. -/
namespace Go.Proofs.Ythcjembekadijaa.FFnRecords
open Go.ChangeShapes Go.WideShapes Go.ChangeAt Go.RowKit
set_option linter.unusedVariables false
theorem own : ownKnob Try.prog.godebug = none := by kernel_rfl
theorem laidOut : laidOutB Try.prog = true := by kernel_rfl
/-! ### THE ROW's STEP: WRITTEN OUT: LEAVE IT -/
set_option maxRecDepth 100000 in
theorem lifted (walk : ∀ (a : Option Addr) (len cap : Nat) (zs : List Int) (w : World), LawC.IsRow .u8 w a len cap zs → Calls Try.prog 6 #[.slice a len cap] w fun e w' => e = .returned (.bool true) ∧ Below w.heap.size w w') (os : Os) (started : os.Started) (H : Type) (enc : TypeId × Value → H) :
    ReturnsInHanded {} Try.checked os 6 .any (Rows.fnRecordsSpec.pre6 enc Try.prog Try.f6 Rows.fnRecordsRow.domain false) (Rows.fnRecordsSpec.post enc Try.prog Try.f6 false true false false) := by
  refine returnsInHanded_of_change (C := Try.checked) own started (by kernel_rfl) Try.func6
    (ChangeSpec.witness6 (enc := enc) (C := Try.checked) false ⟨#[], #[.slice none 0 0], []⟩ 8 (by kernel_rfl) (by kernel_rfl) (by kernel_rfl) (by kernel_rfl)) ?_
  intro W base args ds gs before hval0 hW hcnd _
  have hval : ∀ (j : Nat) t v, Try.f6.params[j]? = some t → args[j]? = some v → Value.okWide Try.prog W .any base t v := hval0
  have hW' := hW
  obtain ⟨p, q, hA0, hV, rfl, hfz, hnd⟩ := hW
  have hA : DataW.TrodAll enc Try.prog W 0 (fun _ => true) true Try.f6.params.toList args.toList ds p := hA0
  rw [Try.params6] at hA hval
  obtain ⟨v0, vs0, d0, ds0, p0, q0, hargs, rfl, rfl, h0, r0⟩ := trodAll_cons hA
  obtain ⟨rfl, rfl, rfl⟩ := trodAll_nil r0
  obtain rfl : args = #[v0] := by cases args; simp_all
  obtain ⟨rfl, rfl⟩ := trodVars_none hV
  obtain ⟨a0, len0, cap0, rfl⟩ := okWide_slice Try.underlying22 (hval 0 22 v0 rfl rfl)
  have k0 := h0
  have lt0 : ∀ x ∈ p0, x.block < W.heap.size := by obtain ⟨m, hm⟩ := k0; exact DataW.trod_lt m _ _ _ hm
  obtain ⟨z0, w0⟩ : ∃ zs, LawC.IsRow .u8 W a0 len0 cap0 zs := by
    obtain ⟨fuel, hf⟩ := h0
    rcases open_ints Try.underlying22 Try.underlying5 (by kernel_rfl) hf with ⟨hcs, _⟩ | ⟨x, l, c, zs, hcs, _, hl, hm, hz, _, hcell, hwz⟩
    · simp [Value.cells] at hcs
      obtain ⟨rfl, rfl, rfl⟩ := hcs
      exact ⟨[], .inl ⟨rfl, rfl, rfl, rfl⟩⟩
    · simp [Value.cells] at hcs
      obtain ⟨rfl, rfl, rfl⟩ := hcs
      exact ⟨zs, .inr ⟨_, rfl, hl, hm, by simpa using hz, hcell, hwz⟩⟩
  clear hA0 hval0
  refine (walk a0 len0 cap0 z0 W w0).mono fun e W' ⟨he, bel⟩ => ?_
  subst he
  exact ⟨_, rfl, _, _, _, [], _, [], hW', trodAll_mk1 (shut_bool Try.underlying4 _), (trodAll_cons_mk (Below.trod laidOut (by kernel_rfl) (of_decide_eq_true (by kernel_rfl)) k0 bel lt0) trodAll_mk0), rfl, bel.frame _, fun h => by cases h⟩

theorem over (walk : ∀ (a : Option Addr) (len cap : Nat) (zs : List Int) (w : World), LawC.IsRow .u8 w a len cap zs → Calls Try.prog 6 #[.slice a len cap] w fun e w' => e = .returned (.bool true) ∧ Below w.heap.size w w') : Rows.fnRecordsRow.holds Try.pinned (OpenSpec.ofChange Rows.fnRecordsSpec) :=
  OpenClaim.holds_of_wide 6 Try.f6 rfl rfl rfl rfl rfl rfl rfl ⟨rfl, rfl, rfl, rfl, rfl⟩ rfl rfl rfl rfl rfl (by kernel_rfl) Try.func6 (by kernel_rfl)
    (of_decide_eq_true (by kernel_rfl)) (by unfold Func.isWrapper; first | (rw [if_pos (by decide +kernel)]; kernel_rfl) | (rw [if_neg (by decide +kernel)]; exact ⟨rfl, rfl⟩))
    (fun os started H enc _ => lifted walk os started H enc)
end Go.Proofs.Ythcjembekadijaa.FFnRecords
