/- indicesIn: the program's iterator over the bits of a set: its contract. -/
import Derived.Test.YtjllbbkpmmnkgaaDoorRgF
import Derived.Test.YtjllbbkpmmnkgaaDoorTz
import Derived.Shelf.Abstract
import Derived.Shelf.RegionOpen
import Derived.OwnWalkIn
import Derived.TacticsInMore
import Derived.LoopNIn
import Derived.LoopIn
namespace Go.Proofs.YtjllbbkpmmnkgaaDoor.Ind
open Go.RowKit Go.Shelf BlM Tz RgF
attribute [local go_sem] Oper.semAt_some
set_option linter.unusedVariables false
def left (B : Nat) (w : World) : Nat := match w.cell? ⟨B, 0, none⟩ with | some (.int _ x) => x.toNat | _ => 0
theorem left_is {B q : Nat} {w : World} {t : TypeId} (h : Boxed w B t (.int .u64 (q : Int))) : left B w = q := by unfold left; rw [h.cell]; simp
theorem less {q : Nat} (h : q ≠ 0) : q &&& (q - 1) < q := Nat.lt_of_le_of_lt Nat.and_le_right (by omega)
theorem grown_self (W : World) (b : Nat) (v : Value) : W.grownBy (W.setCell ⟨b, 0, none⟩ v) (some b) := grownBy_setCell' W b v
set_option maxRecDepth 100000 in
set_option maxHeartbeats 2000000 in
theorem it_any (n : Nat) (hn : 1 ≤ n) (B s : Nat) (hs : s < 1024) :
    SeqB Fence.wide n Tryd.prog 74 #[.pointer (some ⟨B, 0, none⟩)] B (.cells #[.int .u64 (s : Int)] 61 (0, 0)) (bl s) Tab := by
  intro l J Jx W hob hJ hJx hV hY h0
  show CallsIn Fence.wide n Tryd.prog 74 #[.func (.yield l) #[] #[], .pointer (some ⟨B, 0, none⟩)] W _
  refine callsIn_of_wp Tryd.func74 rfl trivial ?_ rfl
  simp only [Tryd.ntmps74, List.size_toArray, List.length_cons, List.length_nil, Nat.reduceAdd, Nat.reduceSub, Array.replicate_succ, Array.replicate_zero, List.push_toArray, List.append_toArray, List.nil_append, List.cons_append]
  gi_wp2
  gi_loopw [] (fun wr => ∃ (pre : List Nat) (q : Nat), q < 1024 ∧ bl s = pre ++ bl q ∧ Boxed wr B 61 (.int .u64 (q : Int)) ∧ J pre wr) (fun wr => left B wr)
  case atStart => exact ⟨[], s, hs, rfl, hob, h0⟩
  case round =>
    obtain ⟨pre, q, hq, hbl, hb, hJs⟩ := hrel
    have hc := hb.cell
    have hf := hb.frozen
    have HBL := Lib.hid hbl
    have HJ := Lib.hid hJs
    clear hbl
    by_cases h0 : q = 0
    · subst h0
      gi_wp2
      go_end0
      have e := HBL.out
      rw [bl_zero, List.append_nil] at e
      exact ⟨⟨_, rfl⟩, .inl (by rw [e]; exact HJ.out)⟩
    · have hq0 : ((q : Int) != 0) = true := by simp; omega
      have hst := bl_step h0 hq
      have hpre : pre ++ [Lib.ctz 64 q] <+: bl s := by
        rw [HBL.out, hst]
        exact ⟨bl (q &&& (q - 1)), by simp⟩
      obtain ⟨fn, tmps, assign, body, hy, hR⟩ := hY pre (Lib.ctz 64 q) wr HJ.out hpre
      have HT := Lib.hid (tz_any q h0 hq wr (hV _ _ HJ.out))
      have HST := Lib.hid hst
      have HPRE := Lib.hid hpre
      have H0 := Lib.hid h0
      have e1 : IntKind.u64.wrap ((q : Int) - 1) = ((q - 1 : Nat) : Int) := by rw [IntKind.wrap_u64]; omega
      have e2 : bits .and .u64 (q : Int) ((q - 1 : Nat) : Int) = ((q &&& (q - 1) : Nat) : Int) := and_is q (q - 1) hq (by omega)
      clear hst hpre h0 hJs
      gi_wp2_with (refine ⟨trivial, ?_⟩; gi_at_call 75; refine (callsIn_wide.2 HT.out).mono ?_; rintro e w' ⟨rfl, rfl⟩)
      refine hR.mono ?_
      rintro e W3 (⟨rfl, hJ3, hk3⟩ | ⟨rfl, hJx3⟩)
      · have hb3 : Boxed W3 B 61 (.int .u64 (q : Int)) := hk3.trans hb
        have hc3 := hb3.cell
        have hf3 := hb3.frozen
        have HJ3 := Lib.hid (And.intro hJ3 hb3)
        clear hJ3 hb3 hk3 hc hf
        gi_wp2
        go_roundw
        case rel =>
          refine ⟨pre ++ [Lib.ctz 64 q], q &&& (q - 1), rest_lt hq, ?_, ?_, ?_⟩
          · rw [HBL.out, HST.out]
            simp
          · first
              | exact HJ3.out.2.set _
              | (rw [e1, e2]; exact HJ3.out.2.set _)
          · exact hJ _ _ _ (some B) HJ3.out.1 (grownBy_setCell' _ _ _) (fun r e => by cases e; rfl)
        case measure =>
          rw [left_is hb]
          first
            | (rw [left_is (HJ3.out.2.set _)]; exact less H0.out)
            | (rw [e1, e2, left_is (HJ3.out.2.set _)]; exact less H0.out)
      · gi_wp2
        refine bodyPost_ret (results_none rfl _ _ _) rfl ?_
        exact ⟨⟨_, rfl⟩, .inr ⟨_, HPRE.out, hJx3⟩⟩
end Go.Proofs.YtjllbbkpmmnkgaaDoor.Ind
