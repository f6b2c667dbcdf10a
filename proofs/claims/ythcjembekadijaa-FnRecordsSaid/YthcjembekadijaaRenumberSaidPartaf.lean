/- A context that gets another number and then its old one back leaves the record as it was, and its relations are told with it. -/
import Derived.Test.YthcjembekadijaaRenumberSaidPartae
import Derived.Test.YthcjembekadijaaOrderSaidPartax
import Derived.Test.YthcjembekadijaaOrderSaidPartaa
import Derived.WalkKit
import Derived.ProofKit
import Derived.OpenShut
import Derived.ShutString
import Derived.ChangeOld
import Derived.Below
namespace Go.Proofs.Ythcjembekadijaa.RenB
open Pairs Find2 GoodM RelM SwapM EquM SortC RenM GoodE RelOf
variable {o n : Int} {l m l' m' : List (Int × Int)}
structure Ren (o n : Int) (l m l' m' : List (Int × Int)) (i : Nat) (k : Int) : Prop where
  good : good l m = true
  n1 : 1 ≤ n
  n2 : n ≤ 999
  here : isAt l o = some i
  kind : (o, k) ∈ l
  free : n = o ∨ ∀ u, (n, u) ∉ l
  ctx : l' = ins (rest l i) (pl (rest l i) n) (n, k)
  rel : m' = swapM o n m
theorem ren_inv (h : renM o n l m = some (l', m')) : ∃ i k, Ren o n l m l' m' i k := by
  unfold renM at h
  split at h
  · rename_i hc
    cases hi : isAt l o with
    | none => rw [hi] at h; cases h
    | some i =>
      rw [hi] at h
      simp only at h
      split at h
      · cases h
      · rename_i hh
        injection h with h
        injection h with h1 h2
        obtain ⟨k, hk⟩ := isAt_at hi
        refine ⟨i, k, hc.1, hc.2.1, hc.2.2, hi, List.mem_of_getElem? hk, ?_, ?_, h2.symm⟩
        · by_cases e : n = o
          · exact .inl e
          · exact .inr fun u hu => hh ⟨e, by obtain ⟨j, hj⟩ := isAt_of_mem hu; rw [hj]; rfl⟩
        · rw [← h1, kindAt_is hk]
          rfl
  · cases h
variable {i : Nat} {k : Int}
theorem Ren.mem (h : Ren o n l m l' m' i k) {p : Int × Int} : p ∈ l' ↔ p = (n, k) ∨ p ∈ l ∧ p.1 ≠ o := by
  rw [h.ctx, mem_ins, mem_rest h.good h.here]
theorem Ren.key (h : Ren o n l m l' m' i k) {a u : Int} (ha : (a, u) ∈ l) : ∃ v, (rn o n a, v) ∈ l' := by
  by_cases e : a = o
  · subst e
    rw [rn_same]
    exact ⟨k, h.mem.2 (.inl rfl)⟩
  · rw [rn_other e]
    exact ⟨u, h.mem.2 (.inr ⟨ha, e⟩)⟩
theorem Ren.back (h : Ren o n l m l' m' i k) {a u : Int} (ha : (a, u) ∈ l) : rn n o (rn o n a) = a := by
  by_cases e : a = o
  · rw [e, rn_same, rn_same]
  · rw [rn_other e]
    refine rn_other (fun e2 => ?_)
    subst e2
    rcases h.free with hf | hf
    · exact e hf
    · exact hf u ha
theorem Ren.asc (h : Ren o n l m l' m' i k) : AscP l' := by
  rw [h.ctx]
  refine ascP_ins (asc_rest h.good h.here) (fun u hu => ?_)
  obtain ⟨h1, h2⟩ := (mem_rest h.good h.here).1 hu
  rcases h.free with hf | hf
  · exact h2 hf
  · exact hf u h1
theorem Ren.good' (h : Ren o n l m l' m' i k) : GoodM.good l' m' = true := by
  have hG := good_is h.good
  refine good_of ⟨?_, ?_, h.asc, fun p hp => ?_, by rw [h.rel]; exact up_swap, fun y hy => ?_⟩
  · rw [h.ctx, ins_rest_len (isAt_lt h.here)]
    exact hG.few1
  · have h1 := swap_len o n m m.length
    rw [List.take_length] at h1
    rw [h.rel]
    exact Nat.le_trans h1 hG.few2
  · rcases h.mem.1 hp with rfl | ⟨hp, _⟩
    · have := hG.num _ h.kind
      exact ⟨h.n1, h.n2, this.2.2⟩
    · exact hG.num _ hp
  · rw [h.rel, mem_swap] at hy
    obtain ⟨⟨p, hp, rfl⟩, hne⟩ := hy
    obtain ⟨_, ⟨u, hu⟩, v, hv⟩ := hG.rel p hp
    exact ⟨hne, h.key hu, h.key hv⟩
theorem Ren.inj (h : Ren o n l m l' m' i k) {p q : Int × Int} (hp : p ∈ m) (hq : q ∈ m) (e : rnp o n p = rnp o n q) : p = q := by
  have hG := good_is h.good
  obtain ⟨_, ⟨u, hu⟩, v, hv⟩ := hG.rel p hp
  obtain ⟨_, ⟨u', hu'⟩, v', hv'⟩ := hG.rel q hq
  unfold rnp at e
  injection e with e1 e2
  have a1 := h.back hu
  have a2 := h.back hv
  rw [e1, h.back hu'] at a1
  rw [e2, h.back hv'] at a2
  exact Prod.ext a1.symm a2.symm
theorem Ren.ends (h : Ren o n l m l' m' i k) {p : Int × Int} (hp : p ∈ m) : rnp n o (rnp o n p) = p ∧ (rnp o n p).1 ≠ (rnp o n p).2 := by
  have hG := good_is h.good
  obtain ⟨hne, ⟨u, hu⟩, v, hv⟩ := hG.rel p hp
  have a1 := h.back hu
  have a2 := h.back hv
  refine ⟨Prod.ext a1 a2, fun e => hne ?_⟩
  have e' : rn o n p.1 = rn o n p.2 := e
  rw [← a1, ← a2, e']
theorem ren_back (h : renM o n l m = some (l', m')) : renM n o l' m' = some (l, m) := by
  obtain ⟨i, k, h⟩ := ren_inv h
  have hG := good_is h.good
  have hg' := h.good'
  have hk : (n, k) ∈ l' := h.mem.2 (.inl rfl)
  obtain ⟨j, hj⟩ := isAt_of_mem hk
  have hn := hG.num _ h.kind
  have hnot : ¬ (o ≠ n ∧ (isAt l' o).isSome = true) := by
    rintro ⟨h1, h2⟩
    obtain ⟨u, hu⟩ := mem_of_isAt h2
    rcases h.mem.1 hu with e | ⟨_, e⟩
    · injection e with e
      exact h1 e
    · exact e rfl
  rw [renM_some hg' hn.1 hn.2.1 hj hnot]
  obtain ⟨u, hu⟩ := isAt_at hj
  obtain rfl : u = k := h.asc.one (List.mem_of_getElem? hu) hk
  rw [kindAt_is hu]
  congr 1
  refine Prod.ext ?_ ?_
  · refine AscP.ext (ascP_ins (asc_rest hg' hj) (fun v hv => ?_)) hG.asc (fun p => ?_)
    · obtain ⟨h1, h2⟩ := (mem_rest hg' hj).1 hv
      rcases h.mem.1 h1 with e | ⟨_, e⟩
      · injection e with e
        exact h2 e
      · exact e rfl
    · show p ∈ ins _ _ (o, u) ↔ p ∈ l
      rw [mem_ins, mem_rest hg' hj, h.mem]
      constructor
      · rintro (rfl | ⟨rfl | ⟨h1, _⟩, h2⟩)
        · exact h.kind
        · exact absurd rfl h2
        · exact h1
      · intro hp
        by_cases e : p.1 = o
        · left
          have : (o, p.2) ∈ l := by rw [← e]; exact hp
          exact Prod.ext e (hG.asc.one this h.kind)
        · refine .inr ⟨.inr ⟨hp, e⟩, fun e2 => ?_⟩
          rcases h.free with hf | hf
          · exact e (e2.trans hf)
          · exact hf p.2 (by rw [← e2]; exact hp)
  · refine Up.ext up_swap hG.up (fun y => ?_)
    rw [h.rel, mem_swap]
    constructor
    · rintro ⟨⟨q, hq, rfl⟩, _⟩
      obtain ⟨⟨p, hp, rfl⟩, _⟩ := mem_swap.1 hq
      rw [(h.ends hp).1]
      exact hp
    · intro hy
      exact ⟨⟨rnp o n y, mem_swap.2 ⟨⟨y, hy, rfl⟩, (h.ends hy).2⟩, (h.ends hy).1⟩, (hG.rel y hy).1⟩
theorem ren_rels (h : renM o n l m = some (l', m')) : ∃ K K', relsOf o l m = some K ∧ relsOf n l' m' = some K' ∧ K.length = K'.length := by
  obtain ⟨i, k, h⟩ := ren_inv h
  have hG := good_is h.good
  have hk : (n, k) ∈ l' := h.mem.2 (.inl rfl)
  obtain ⟨j, hj⟩ := isAt_of_mem hk
  refine ⟨_, _, relsOf_some h.good (by rw [h.here]; rfl), relsOf_some h.good' (by rw [hj]; rfl), ?_⟩
  have n1 : m'.Nodup := by
    rw [h.rel]
    exact (up_swap (o := o) (n := n) (m := m)).imp (fun {a b} hab e => by subst e; rw [before_irrefl] at hab; cases hab)
  have n2 : (m.map (rnp o n)).Nodup := by
    unfold List.Nodup
    rw [List.pairwise_map]
    refine List.Pairwise.imp_of_mem (fun {a b} ha hb hab e => ?_) hG.up
    have := h.inj ha hb e
    subst this
    rw [before_irrefl] at hab
    cases hab
  have hp : m'.Perm (m.map (rnp o n)) := (List.perm_ext_iff_of_nodup n1 n2).2 fun y => by
    rw [h.rel, mem_swap, List.mem_map]
    exact ⟨fun ⟨h1, _⟩ => h1, fun ⟨p, hp, e⟩ => ⟨⟨p, hp, e⟩, by rw [← e]; exact (h.ends hp).2⟩⟩
  have he := (hp.filter (occ n)).length_eq
  rw [he, List.filter_map, List.length_map]
  congr 1
  refine List.filter_congr fun p hp => ?_
  obtain ⟨_, ⟨u, hu⟩, v, hv⟩ := hG.rel p hp
  have hr : ∀ {a u : Int}, (a, u) ∈ l → (rn o n a = n ↔ a = o) := fun {a u} ha => by
    constructor
    · intro e
      have := h.back ha
      rw [e, rn_same] at this
      exact this.symm
    · rintro rfl
      exact rn_same _ _
  show occ o p = occ n (rnp o n p)
  have h1 := hr hu
  have h2 := hr hv
  unfold occ rnp
  simp [h1, h2]
end Go.Proofs.Ythcjembekadijaa.RenB
/- The laws' vRelations and vSites: lists of relations, and records, that hold the same are the same. -/
namespace Go.Proofs.Ythcjembekadijaa.Sites
open Go.RowKit Pairs Rec RecEq Eq2
theorem guardC (op : BinOp) (a b : Operand) (x1 x2 y1 y2 : Int) (w : World) : Sem.run Try.prog (eqGuard op 55 a b (.agg #[.int .i64 x1, .int .i64 x2]) (.agg #[.int .i64 y1, .int .i64 y2])) w = .ok () w :=
  run_eqGuard_agg w op 55 a b _ _ (by kernel_rfl)
theorem differC (x1 x2 y1 y2 : Int) (w : World) : Sem.run Try.prog (binOp .neq 55 (.agg #[.int .i64 x1, .int .i64 x2]) (.agg #[.int .i64 y1, .int .i64 y2])) w = .ok (.bool (!(x1 == y1 && x2 == y2))) w := by
  have u3 := Try.underlying3
  have a3 := Try.isAgg3
  have z3 := Try.sizeOf3
  have hS : Try.prog.underlying 55 = some (.struct (Try.prog.fieldsOf 55)) := by kernel_rfl
  have hp : Try.prog.stoodInHeld 55 = false := by kernel_rfl
  rw [run_neq_struct, show (10000 : Nat) = 9999 + 1 from rfl, run_equalIn_agg w 9999 55 _ _ hS hp]
  simp only [Program.fieldsOf, Try.underlying55]
  go_simp
  by_cases h1 : x1 = y1 <;> by_cases h2 : x2 = y2 <;> simp [h1, h2]
set_option maxRecDepth 100000 in
set_option maxHeartbeats 2000000 in
theorem rels_same (a1 a2 : Option Addr) (n c1 c2 : Nat) (l : List (Int × Int)) (hz : n ≤ 1048576) (w : World) (h1 : Holds w a1 n l) (h2 : Holds w a2 n l) :
    Calls Try.prog 88 #[.slice a1 n c1, .slice a2 n c2] w fun e w' => e = .returned (.bool true) ∧ Below w.heap.size w w' := by
  have H1 := Lib.hid h1
  have H2 := Lib.hid h2
  clear h1 h2
  go_enter Try.func88, Try.ntmps88
  go_wp2_with fail
  go_loopw [5] (fun i wr => ∃ k : Nat, k ≤ n ∧ i = .int .i64 k ∧ Below w.heap.size w wr) (fun i _ => n - (intOf i).toNat)
  case atStart => exact ⟨0, Nat.zero_le _, rfl, Below.refl _ _⟩
  case round =>
    obtain ⟨k, hk, rfl, hb⟩ := hrel
    by_cases hlt : k < n
    · obtain ⟨b, off, x, y, rfl, hx, e1, e2⟩ := (H1.out.below hb).at k hlt
      obtain ⟨b', off', x', y', rfl, hx', e1', e2'⟩ := (H2.out.below hb).at k hlt
      obtain ⟨rfl, rfl⟩ : x' = x ∧ y' = y := by
        rw [hx] at hx'
        injection hx' with hx'
        injection hx' with ha hb
        exact ⟨ha.symm, hb.symm⟩
      clear hx hx'
      have hi : (k : Int) < (n : Int) := by omega
      have hE := differ2
      have hG := guard2
      have hbo : (x' == x' && y' == y') = true := by simp
      go_wp2_with fail
      go_quiet (fail)
      go_wp2_with fail
      exact ⟨⟨k + 1, by omega, by go_num, hb.trans ((Joins.below_draws _ _ _).mono hb.size)⟩, by simp [intOf]; omega⟩
    · obtain rfl : k = n := by omega
      have hkn : ¬ (k : Int) < (k : Int) := by omega
      go_wp2_with fail
      go_ret
      exact ⟨rfl, hb⟩
set_option maxRecDepth 100000 in
set_option maxHeartbeats 2000000 in
theorem sites_same (a1 a2 b1 b2 : Option Addr) (n1 n2 c1 c2 d1 d2 : Nat) (l m : List (Int × Int)) (hz1 : n1 ≤ 1048576) (hz2 : n2 ≤ 1048576) (w : World) (A1 : Holds w a1 n1 l) (A2 : Holds w a2 n2 m) (B1 : Holds w b1 n1 l) (B2 : Holds w b2 n2 m) :
    Calls Try.prog 33 #[.agg #[.slice a1 n1 c1, .slice a2 n2 c2], .agg #[.slice b1 n1 d1, .slice b2 n2 d2]] w fun e w' => e = .returned (.bool true) ∧ Below w.heap.size w w' := by
  obtain ⟨hs, x1, x2, y1, y2, hb0⟩ := boxes2 w (.slice a1 n1 c1) (.slice a2 n2 c2) (.slice b1 n1 d1) (.slice b2 n2 d2) 27 27
  have HA1 := Lib.hid (A1.below hb0)
  have HA2 := Lib.hid (A2.below hb0)
  have HB1 := Lib.hid (B1.below hb0)
  have HB2 := Lib.hid (B2.below hb0)
  have HS := Lib.hid hs
  clear A1 A2 B1 B2 hs
  go_enter Try.func33, Try.ntmps33
  go_wp2_with fail
  generalize (w.alloc (.cells #[.slice a1 n1 c1, .slice a2 n2 c2] 27)).alloc (.cells #[.slice b1 n1 d1, .slice b2 n2 d2] 27) = W at *
  have lw : w.heap.size < W.heap.size := by rw [HS.out]; omega
  have lw1 : w.heap.size + 1 < W.heap.size := by rw [HS.out]; omega
  have HBX : Hid (∀ X, Below W.heap.size W X → X.cell? ⟨w.heap.size, 0, none⟩ = some (.slice a1 n1 c1) ∧ X.cell? ⟨w.heap.size, 1, none⟩ = some (.slice a2 n2 c2) ∧ X.cell? ⟨w.heap.size + 1, 0, none⟩ = some (.slice b1 n1 d1) ∧ X.cell? ⟨w.heap.size + 1, 1, none⟩ = some (.slice b2 n2 d2)) := fun X hX => ⟨(hX.cell (p := ⟨w.heap.size, 0, none⟩) lw).trans x1, (hX.cell (p := ⟨w.heap.size, 1, none⟩) lw).trans x2, (hX.cell (p := ⟨w.heap.size + 1, 0, none⟩) lw1).trans y1, (hX.cell (p := ⟨w.heap.size + 1, 1, none⟩) lw1).trans y2⟩
  have HB0 := Lib.hid hb0
  clear x1 x2 y1 y2 hb0
  go_loopw [5] (fun i wr => ∃ k : Nat, k ≤ n1 ∧ i = .int .i64 k ∧ Hid (Below W.heap.size W wr)) (fun i _ => n1 - (intOf i).toNat)
  case atStart => exact ⟨0, Nat.zero_le _, rfl, Below.refl _ _⟩
  case round =>
    obtain ⟨k, hk, rfl, hb⟩ := hrel
    obtain ⟨x1, x2, y1, y2⟩ := HBX.out wr hb.out
    by_cases hlt : k < n1
    · obtain ⟨b, off, x, y, rfl, hx, e1, e2⟩ := (HA1.out.below hb.out).at k hlt
      obtain ⟨b', off', x', y', rfl, hx', e1', e2'⟩ := (HB1.out.below hb.out).at k hlt
      obtain ⟨rfl, rfl⟩ : x' = x ∧ y' = y := by
        rw [hx] at hx'
        injection hx' with hx'
        injection hx' with ha hb
        exact ⟨ha.symm, hb.symm⟩
      clear hx hx'
      have hi : (k : Int) < (n1 : Int) := by omega
      have hE := differC
      have hG := guardC
      have hbo : (x' == x' && y' == y') = true := by simp
      go_wp2_with fail
      go_quiet (fail)
      go_wp2_with fail
      exact ⟨⟨k + 1, by omega, by go_num, hb.out.trans ((Joins.below_draws _ _ _).mono hb.out.size)⟩, by simp [intOf]; omega⟩
    · obtain rfl : k = n1 := by omega
      have hkn : ¬ (k : Int) < (k : Int) := by omega
      go_wp2_with fail
      refine (rels_same a2 b2 n2 c2 d2 m hz2 wr (HA2.out.below hb.out) (HB2.out.below hb.out)).mono ?_
      rintro e w3 ⟨rfl, b4⟩
      have b5 := HB0.out.trans ((hb.out.trans (b4.mono hb.out.size)).mono HB0.out.size)
      clear b4 x1 x2 y1 y2
      go_wp2_with fail
      go_ret
      exact ⟨rfl, b5⟩
end Go.Proofs.Ythcjembekadijaa.Sites
/- The frame of FnRenumber: from a walk to the statement. -/
namespace Go.Proofs.Ythcjembekadijaa.FFnRenumber
open Go.ChangeShapes Go.WideShapes Go.ChangeAt Go.RowKit
set_option linter.unusedVariables false
theorem own : ownKnob Try.prog.godebug = none := by kernel_rfl
theorem laidOut : laidOutB Try.prog = true := by kernel_rfl
/-! ### THE ROW's STEP: WRITTEN OUT: LEAVE IT -/
set_option maxRecDepth 100000 in
theorem lifted (walk : ∀ (a : Option Addr) (len cap : Nat) (zs : List Int) (w : World), LawC.IsRow .u8 w a len cap zs → Calls Try.prog 7 #[.slice a len cap] w fun e w' => e = .returned (.bool true) ∧ Below w.heap.size w w') (os : Os) (started : os.Started) (H : Type) (enc : TypeId × Value → H) :
    ReturnsInHanded {} Try.checked os 7 .any (Rows.fnRenumberSpec.pre6 enc Try.prog Try.f7 Rows.fnRenumberRow.domain false) (Rows.fnRenumberSpec.post enc Try.prog Try.f7 false true false false) := by
  refine returnsInHanded_of_change (C := Try.checked) own started (by kernel_rfl) Try.func7
    (ChangeSpec.witness6 (enc := enc) (C := Try.checked) false ⟨#[], #[.slice none 0 0], []⟩ 8 (by kernel_rfl) (by kernel_rfl) (by kernel_rfl) (by kernel_rfl)) ?_
  intro W base args ds gs before hval0 hW hcnd _
  have hval : ∀ (j : Nat) t v, Try.f7.params[j]? = some t → args[j]? = some v → Value.okWide Try.prog W .any base t v := hval0
  have hW' := hW
  obtain ⟨p, q, hA0, hV, rfl, hfz, hnd⟩ := hW
  have hA : DataW.TrodAll enc Try.prog W 0 (fun _ => true) true Try.f7.params.toList args.toList ds p := hA0
  rw [Try.params7] at hA hval
  obtain ⟨v0, vs0, d0, ds0, p0, q0, hargs, rfl, rfl, h0, r0⟩ := trodAll_cons hA
  obtain ⟨rfl, rfl, rfl⟩ := trodAll_nil r0
  obtain rfl : args = #[v0] := by cases args; simp_all
  obtain ⟨rfl, rfl⟩ := trodVars_none hV
  obtain ⟨a0, len0, cap0, rfl⟩ := okWide_slice Try.underlying22 (hval 0 22 v0 rfl rfl)
  have k0 := h0
  have lt0 : ∀ x ∈ p0, x.block < W.heap.size := by obtain ⟨m, hm⟩ := k0; exact DataW.trod_lt m _ _ _ hm
  obtain ⟨z0, w0⟩ : ∃ zs, LawC.IsRow .u8 W a0 len0 cap0 zs := by
    obtain ⟨fuel, hf⟩ := h0
    rcases open_ints Try.underlying22 Try.underlying5 (by kernel_rfl) hf with ⟨hcs, _⟩ | ⟨x, l, c, zs, hcs, _, hl, hm, hz, _, hcell, hwz⟩
    · simp [Value.cells] at hcs
      obtain ⟨rfl, rfl, rfl⟩ := hcs
      exact ⟨[], .inl ⟨rfl, rfl, rfl, rfl⟩⟩
    · simp [Value.cells] at hcs
      obtain ⟨rfl, rfl, rfl⟩ := hcs
      exact ⟨zs, .inr ⟨_, rfl, hl, hm, by simpa using hz, hcell, hwz⟩⟩
  clear hA0 hval0
  refine (walk a0 len0 cap0 z0 W w0).mono fun e W' ⟨he, bel⟩ => ?_
  subst he
  exact ⟨_, rfl, _, _, _, [], _, [], hW', trodAll_mk1 (shut_bool Try.underlying4 _), (trodAll_cons_mk (Below.trod laidOut (by kernel_rfl) (of_decide_eq_true (by kernel_rfl)) k0 bel lt0) trodAll_mk0), rfl, bel.frame _, fun h => by cases h⟩

theorem over (walk : ∀ (a : Option Addr) (len cap : Nat) (zs : List Int) (w : World), LawC.IsRow .u8 w a len cap zs → Calls Try.prog 7 #[.slice a len cap] w fun e w' => e = .returned (.bool true) ∧ Below w.heap.size w w') : Rows.fnRenumberRow.holds Try.pinned (OpenSpec.ofChange Rows.fnRenumberSpec) :=
  OpenClaim.holds_of_wide 7 Try.f7 rfl rfl rfl rfl rfl rfl rfl ⟨rfl, rfl, rfl, rfl, rfl⟩ rfl rfl rfl rfl rfl (by kernel_rfl) Try.func7 (by kernel_rfl)
    (of_decide_eq_true (by kernel_rfl)) (by unfold Func.isWrapper; first | (rw [if_pos (by decide +kernel)]; kernel_rfl) | (rw [if_neg (by decide +kernel)]; exact ⟨rfl, rfl⟩))
    (fun os started H enc _ => lifted walk os started H enc)
end Go.Proofs.Ythcjembekadijaa.FFnRenumber
