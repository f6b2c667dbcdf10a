/- The program's SplitString: its iterator's contract, and its own: for every string of at most 1048576 bytes and every separator it returns what 'Split.parts' says in a new slice. -/
import Derived.Test.YtkoickdndjfnhaaSplit
import Derived.RangeFuncNested
import Derived.RangeFuncBound
import Derived.RangeFuncCalls
import Derived.RangeFuncLeaves
import Derived.Shelf.Abstract
import Derived.Shelf.RegionOpen
import Derived.OwnWalkIn
import Derived.TacticsInMore
import Derived.LoopNIn
import Derived.LoopIn
import Derived.Maps.OwnIn
namespace Go.Proofs.Ytkoickdndjfnhaa.ImplSplit
open Go.RowKit Go.Shelf Split
attribute [local go_sem] Oper.semAt_some

/-! ### Plain facts on the parts -/
theorem st_pre (s : ByteArray) (b : UInt8) (k m : Nat) (h : k ≤ m) : (st s b k).1 <+: (st s b m).1 := by
  induction m with
  | zero => obtain rfl : k = 0 := by omega
            exact List.prefix_refl _
  | succ m ih =>
    by_cases he : k = m + 1
    · subst he; exact List.prefix_refl _
    · have h1 := ih (by omega)
      rw [show st s b (m + 1) = if s.data.toList[m]? = some b then ((st s b m).1 ++ [s.extract (st s b m).2 m], m + 1) else st s b m from rfl]
      split
      · exact h1.trans (List.prefix_append _ _)
      · exact h1
theorem st_parts (s : ByteArray) (b : UInt8) (k : Nat) (h : k ≤ s.size) : (st s b k).1 <+: parts s b := (st_pre s b k s.size h).trans (List.prefix_append _ _)
theorem st_lt (s : ByteArray) (b : UInt8) (k : Nat) (h : k ≤ s.size) : (st s b k).1.length < (parts s b).length := by
  have h1 := (st_pre s b k s.size h).length_le
  unfold parts
  simp
  omega
theorem parts_le (s : ByteArray) (b : UInt8) : (parts s b).length ≤ s.size + 1 := by
  have := (st_bd s b s.size).2
  unfold parts
  simp
  omega

/-- What a round keeps: the boxes of the string and of the separator. -/
def Kp (Bs Bc : Nat) (W W' : World) : Prop := W'.heap[Bs]? = W.heap[Bs]? ∧ W'.heap[Bc]? = W.heap[Bc]?
theorem kp_t {Bs Bc : Nat} {A B C : World} (h : Kp Bs Bc A B) (k : Kp Bs Bc B C) : Kp Bs Bc A C := ⟨k.1.trans h.1, k.2.trans h.2⟩

theorem grownBy_drew (W : World) : W.grownBy W.drew none := ⟨rfl, rfl, rfl, Nat.le_refl _, fun _ _ _ => rfl⟩
theorem Boxed.kp {Bs Bc : Nat} {W W' : World} {t : TypeId} {v : Value} (h : Boxed W Bs t v) (k : Kp Bs Bc W W') : Boxed W' Bs t v := k.1.trans h
theorem Boxed.kp2 {Bs Bc : Nat} {W W' : World} {t : TypeId} {v : Value} (h : Boxed W Bc t v) (k : Kp Bs Bc W W') : Boxed W' Bc t v := k.2.trans h
set_option maxRecDepth 100000 in
set_option maxHeartbeats 1000000 in
theorem partsOf1_in (F : Fence) (n : Nat) (hF : F.fn 36) (hro : F.round = none) (hn : 1 ≤ n) (l Bs Bc : Nat) (s : ByteArray) (b : UInt8) (hs : s.size ≤ 1048576) (J Jx : List ByteArray → World → Prop)
    (hY : ∀ pre x W, J pre W → pre.length < (parts s b).length → YieldAt F (n - 1) Try.prog l #[.string x] W fun e W' =>
      (e = .returned (.bool true) ∧ J (pre ++ [x]) W' ∧ Kp Bs Bc W W') ∨ (e = .returned (.bool false) ∧ Jx (pre ++ [x]) W'))
    (W : World) (hAb : AbidesFrom W.heap.size J) (hBs : Boxed W Bs 9 (.string s)) (hBc : Boxed W Bc 5 (.int .u8 b.toNat)) (h0 : J [] W) :
    CallsIn F n Try.prog 36 #[.func (.yield l) #[] #[], .pointer (some ⟨Bs, 0, none⟩), .pointer (some ⟨Bc, 0, none⟩)] W fun e W' => (∃ v, e = .returned v) ∧
      ((∃ ys, ys = parts s b ∧ J ys W') ∨ (∃ pre, pre <+: parts s b ∧ Jx pre W')) := by
  refine callsIn_of_wp Try.func36 rfl hF ?_ hro
  simp only [Try.ntmps36, List.size_toArray, List.length_cons, List.length_nil, Nat.reduceAdd, Nat.reduceSub, Array.replicate_succ, Array.replicate_zero, List.push_toArray, List.append_toArray, List.nil_append, List.cons_append]
  have hc0 := hBs.cell
  gi_wp2
  gi_loopw [4, 8] (fun f i wr => ∃ k : Nat, k ≤ s.size ∧ i = .int .i64 k ∧ f = .int .i64 (st s b k).2 ∧ J (st s b k).1 wr ∧ Boxed wr Bs 9 (.string s) ∧ Boxed wr Bc 5 (.int .u8 b.toNat)) (fun _ i _ => s.size - (intOf i).toNat)
  case atStart => exact ⟨0, Nat.zero_le _, rfl, rfl, h0, hBs, hBc⟩
  case round =>
    obtain ⟨k, hk, rfl, rfl, hJ, hbs, hbc⟩ := hrel
    have hbd := st_bd s b k
    have hcs := hbs.cell
    have hcc := hbc.cell
    clear hc0
    by_cases hlt : k < s.size
    · by_cases heq : s[k] = b
      · have hst := st_hit s b k hlt heq
        have HS := Lib.hid hst
        clear hst
        have hbb : ((s[k].toNat : Int) != (b.toNat : Int)) = false := by rw [heq]; simp
        clear heq
        have hJd : J (st s b k).1 wr.drew := hAb _ _ _ none hJ (grownBy_drew wr) (fun r e => by cases e)
        obtain ⟨fn, tmps, assign, body, hy, hR⟩ := hY (st s b k).1 (s.extract (st s b k).2 k) wr.drew hJd (st_lt s b k hk)
        have hpp : (st s b (k + 1)).1 <+: parts s b := st_parts s b (k + 1) hlt
        rw [HS.out] at hpp
        have HP := Lib.hid hpp
        clear hpp hJd hJ
        have hbs' : Boxed wr.drew Bs 9 (.string s) := hbs
        have hbc' : Boxed wr.drew Bc 5 (.int .u8 b.toNat) := hbc
        clear hbs hbc
        generalize (st s b k).1 = o at *
        generalize (st s b k).2 = f at *
        obtain ⟨hf, ho⟩ := hbd
        gi_wp2
        gi_region
        all_goals
          gi_wp2
          refine hR.mono ?_
          rintro e W3 (⟨rfl, hJ3, hk3⟩ | ⟨rfl, hJx3⟩)
          · gi_wp2
            go_roundw
            case rel => exact ⟨k + 1, by omega, by go_num, by rw [HS.out]; go_num, by rw [HS.out]; exact hJ3, Boxed.kp hbs' hk3, Boxed.kp2 hbc' hk3⟩
            case measure => simp [intOf]; omega
          · gi_wp2
            refine bodyPost_ret (results_none rfl _ _ _) rfl ?_
            exact ⟨⟨_, rfl⟩, .inr ⟨o ++ [s.extract f k], HP.out, hJx3⟩⟩
      · have hst := st_miss s b k hlt heq
        have HS := Lib.hid hst
        clear hst
        have hbb : ((s[k].toNat : Int) != (b.toNat : Int)) = true := by
          rw [bne_iff_ne]
          intro e
          exact heq (UInt8.toNat_inj.1 (by omega))
        clear heq
        have hJd : J (st s b k).1 wr.drew := hAb _ _ _ none hJ (grownBy_drew wr) (fun r e => by cases e)
        have HJ := Lib.hid hJd
        clear hJd hJ
        gi_wp2
        gi_region
        all_goals
          gi_wp2
          go_roundw
          case rel => exact ⟨k + 1, by omega, by go_num, by rw [HS.out], by rw [HS.out]; exact HJ.out, hbs, hbc⟩
          case measure => simp [intOf]; omega
    · obtain rfl : k = s.size := by omega
      obtain ⟨fn, tmps, assign, body, hy, hR⟩ := hY (st s b s.size).1 (s.extract (st s b s.size).2 s.size) wr hJ (st_lt s b s.size hk)
      have hpt : parts s b = (st s b s.size).1 ++ [s.extract (st s b s.size).2 s.size] := rfl
      have HP := Lib.hid hpt
      clear hpt hJ
      generalize (st s b s.size).1 = o at *
      generalize (st s b s.size).2 = f at *
      obtain ⟨hf, ho⟩ := hbd
      gi_wp2
      refine hR.mono ?_
      rintro e W3 (⟨rfl, hJ3, hk3⟩ | ⟨rfl, hJx3⟩)
      · gi_wp2
        go_end0
        exact ⟨⟨_, rfl⟩, .inl ⟨_, HP.out.symm, hJ3⟩⟩
      · gi_wp2
        go_end0
        exact ⟨⟨_, rfl⟩, .inr ⟨_, by rw [HP.out]; exact List.prefix_refl _, hJx3⟩⟩
end Go.Proofs.Ytkoickdndjfnhaa.ImplSplit
