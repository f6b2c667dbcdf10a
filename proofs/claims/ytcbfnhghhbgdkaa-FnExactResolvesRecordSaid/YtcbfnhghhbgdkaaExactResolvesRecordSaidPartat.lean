/- Chains: what the laws ask of them. -/
import Derived.Test.YtcbfnhghhbgdkaaExactResolvesRecordSaidPartas
import Derived.Shelf.Slices.Reverse
import Derived.Ground.Names2Prog
import Derived.Shelf.Slices.SearchI
import Derived.Shelf.Slices.Cells
import Derived.Test.YtcbfnhghhbgdkaaProg
namespace Go.Proofs.Ytcbfnhghhbgdkaa.ChnL
open Pairs Rec Chain Find2 GoodM OrdM BfsM ScM StpM StpC Idx CycM
theorem chain_later {l m : Ps} (hg : good l m = true) (a b : Int) : (0 < (chainP m a b).length) ↔ later m a b = true := by
  constructor
  · intro h
    cases hl : later m a b with
    | true => rfl
    | false =>
      rw [chain_no hl] at h
      exact absurd h (Nat.lt_irrefl 0)
  · intro h
    obtain ⟨d, h1, h2⟩ := reach_rch (later_iff.1 h)
    obtain ⟨f1, f2⟩ := fch_of h1
    rw [h2] at f1
    have h3 := fch_chn f1
    rw [f2] at h3
    have := chain_len (AscM.lows_sorted hg) h3
    omega
theorem fch_rel {m : Ps} {b : Int} {e : List Int} (h : FCh m b e) : ∀ (i : Nat) (x y : Int), e[i]? = some x → e[i + 1]? = some y → (x, y) ∈ m := by
  induction h with
  | one h0 =>
    intro i x y hx hy
    cases i with
    | zero =>
      simp at hx hy
      subst hx hy
      exact h0
    | succ i => simp at hy
  | more hm hf ih =>
    intro i x y hx hy
    cases i with
    | zero =>
      simp at hx hy
      subst hx hy
      exact hm
    | succ i => exact ih i x y (by simpa using hx) (by simpa using hy)
theorem fch_end {m : Ps} {b : Int} {e : List Int} (h : FCh m b e) : e[e.length - 1]? = some b := by
  induction h with
  | one h0 => rfl
  | more hm hf ih =>
    have h2 := fch_two hf
    rename_i x y e'
    rw [show (x :: y :: e').length - 1 = ((y :: e').length - 1) + 1 by simp at h2 ⊢]
    simpa using ih
theorem fch_at0 {m : Ps} {b : Int} {e : List Int} (h : FCh m b e) : e[0]? = some (hd e) := by
  cases h <;> rfl
theorem no_self {l m : Ps} (hg : good l m = true) {x : Int} (h : (x, x) ∈ m) : False := by
  obtain ⟨k, hk, e⟩ := List.getElem_of_mem h
  have h1 := good_badR (l := l) hk (okR_bad1 ((List.getElem?_eq_getElem hk).trans (by rw [e])))
  rw [hg] at h1
  cases h1
/-- What the shortest chain is. -/
theorem chain_is {l m : Ps} (hg : good l m = true) {a b : Int} (h : 0 < (chainP m a b).length) : 1 < (chainP m a b).length ∧ (chainP m a b)[0]? = some a ∧ (chainP m a b)[(chainP m a b).length - 1]? = some b ∧ ∀ (i : Nat) (x y : Int), (chainP m a b)[i]? = some x → (chainP m a b)[i + 1]? = some y → (x, y) ∈ m := by
  obtain ⟨f1, f2⟩ := chain_fch (AscM.lows_sorted hg) (a := a) (b := b) (fun e => by rw [e] at h; exact absurd h (Nat.lt_irrefl 0))
  have h0 := fch_at0 f1
  rw [f2] at h0
  exact ⟨fch_two f1, h0, fch_end f1, fch_rel f1⟩
end Go.Proofs.Ytcbfnhghhbgdkaa.ChnL
/- The shelf's contract of slices.Reverse at this program. -/
namespace Go.Proofs
open Go.Shelf
def Try.lays112_ren : Go.Shelf.Ren := ⟨fun | 112 => 48 | n => n, fun | 28 => 41 | 3 => 3 | 4 => 4 | 0 => 0 | n => n, fun | n => n⟩
theorem Try.lays112 : Go.Proofs.Lays.n112 Try.prog Try.lays112_ren := {
  mixed := by kernel_rfl
  f112 := Try.func48.trans (congrArg some (by kernel_rfl))
  t0 := Try.underlying0
  a0 := Try.isAgg0
  z0 := Try.sizeOf0
  v0 := Try.zeroValue0
  t3 := Try.underlying3
  a3 := Try.isAgg3
  z3 := Try.sizeOf3
  v3 := Try.zeroValue3
  t4 := Try.underlying4
  a4 := Try.isAgg4
  z4 := Try.sizeOf4
  v4 := Try.zeroValue4
  t28 := Try.underlying41
  a28 := Try.isAgg41
  z28 := Try.sizeOf41
  v28 := Try.zeroValue41 }
open Go.RowKit Go.Lib Go.Sort in
theorem Try.slices_Reverse_int (blk off cap : Nat) (zs : List Int) (w : World) (hH : Holds (Value.int .i64) w blk off zs.toArray) (hsz : zs.length ≤ 9223372036854775807) :
    Calls Try.prog 48 #[.slice (some ⟨blk, off, none⟩) zs.length cap] w fun e w' => e = .returned (.tuple #[]) ∧ ∃ n, w' = putRow (Value.int .i64) (Sort.ahead w n) blk off zs.reverse.toArray := Any.slices_Reverse_int Try.lays112 blk off cap zs w hH hsz
end Go.Proofs
