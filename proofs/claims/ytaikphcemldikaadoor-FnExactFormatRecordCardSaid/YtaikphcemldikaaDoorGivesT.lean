/- Lists of strings: what a function that makes one of a record is said to do; the laws' eqStringS, markStringS, heldStringS. -/
import Derived.Test.YtaikphcemldikaaDoorMark2
import Derived.Test.YtaikphcemldikaaDoorLawKit
import Derived.Test.YtaikphcemldikaaDoorHeld
namespace Go.Proofs.YtaikphcemldikaaDoor.GivesT
open Go.RowKit Pairs Rec Keep Split
def HoldsT (w : World) (p : Option Addr) (n : Nat) (L : List ByteArray) : Prop :=
  L.length = n ∧ ∃ g, p = some ⟨g, 0, none⟩ ∧ g < w.heap.size ∧ Strs.Cells w g 0 L
theorem HoldsT.below {w w' : World} {p : Option Addr} {n : Nat} {L : List ByteArray} (h : HoldsT w p n L) (hb : Below w.heap.size w w') : HoldsT w' p n L := by
  obtain ⟨h1, g, hp, hg, hc⟩ := h
  exact ⟨h1, g, hp, Nat.lt_of_lt_of_le hg hb.size, hc.below hb hg⟩
theorem holds_own {w : World} {B g n c : Nat} {L : List ByteArray} (h : w.ownsRow B 9 1 (.slice (some ⟨g, 0, none⟩) n c) n (strs L)) : HoldsT w (some ⟨g, 0, none⟩) n L := by
  have hl : L.length = n := by have := h.1; rw [strs_len] at this; omega
  refine ⟨hl, g, rfl, (h.lt g rfl).2, fun i x hi => ?_⟩
  have hil : i < L.length := (List.getElem?_eq_some_iff.1 hi).1
  rw [Nat.zero_add, h.cellAt i (by omega)]
  unfold strs
  rw [List.getElem?_map, hi]
  rfl
def Res (ok : Bool) (L : List ByteArray) (w : World) (e : Ending) (w' : World) : Prop :=
  ∃ g k d : Nat, e = .returned (.tuple #[.slice (some ⟨g, 0, none⟩) k d, .bool ok]) ∧ w'.ownsRow w.heap.size 9 1 (.slice (some ⟨g, 0, none⟩) k d) k (strs L) ∧ k ≤ 900000 ∧ Below w.heap.size w w'
def Gives (V : World → Prop) (f : FuncId) (x : Value) (F : List (Int × Int) → List (Int × Int) → Option (List ByteArray)) : Prop :=
  ∀ (a1 a2 : Option Addr) (n1 c1 n2 c2 : Nat) (l m : List (Int × Int)) (w : World), n1 ≤ 1048576 → n2 ≤ 1048576 → Holds w a1 n1 l → Holds w a2 n2 m → V w →
    Calls Tryd.prog f #[.agg #[.slice a1 n1 c1, .slice a2 n2 c2], x] w (Res (F l m).isSome ((F l m).getD []) w)
theorem eq_same (a1 a2 : Option Addr) (n c1 c2 : Nat) (L : List ByteArray) (hz : n ≤ 900000) (w : World) (h1 : HoldsT w a1 n L) (h2 : HoldsT w a2 n L) :
    Calls Tryd.prog 16 #[.slice a1 n c1, .slice a2 n c2] w fun e w' => e = .returned (.bool true) ∧ Below w.heap.size w w' := by
  obtain ⟨hl, g1, rfl, _, q1⟩ := h1
  obtain ⟨_, g2, rfl, _, q2⟩ := h2
  exact Strs.eqS_same g1 0 c1 g2 0 c2 L n hl (by omega) w q1 q2
theorem mark_any (B g n c : Nat) (xs : List Value) (hz : n ≤ 900000) (w : World) (h : w.ownsRow B 9 1 (.slice (some ⟨g, 0, none⟩) n c) n xs) :
    Calls Tryd.prog 19 #[.slice (some ⟨g, 0, none⟩) n c, .int .i64 1] w fun e w' => e = .returned (.int .i64 ((n : Int) + 1)) ∧ Mrk.Marks w' g n ∧ Kept (fun b => (Value.slice (some ⟨g, 0, none⟩) n c).ownBlock = some b) w w' := by
  refine (Mrk.markS_any B g n c xs hz w h).mono ?_
  rintro e w' ⟨he, hm⟩
  refine ⟨he, Mrk.marks_of hm, ?_⟩
  obtain ⟨_, _, _, hg⟩ := hm
  exact ⟨hg.os, hg.tape, hg.output, hg.size, fun k hk hs => hg.block k hk (fun e => hs (by rw [e]; rfl))⟩
end Go.Proofs.YtaikphcemldikaaDoor.GivesT
