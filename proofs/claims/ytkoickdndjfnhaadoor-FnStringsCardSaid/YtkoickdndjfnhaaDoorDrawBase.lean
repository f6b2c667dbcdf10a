/- The model's cursor made anew over a code, and any1: what it returns is small. -/
import Derived.Test.YtkoickdndjfnhaaDoorCur
import Derived.Test.YtkoickdndjfnhaaDoorSplit
import Derived.WalkLawsBesides
namespace Go.Proofs.YtkoickdndjfnhaaDoor.DrawBase
open Go.RowKit Cur Split

def any1List : List ByteArray := [⟨#[]⟩, ⟨#[97]⟩, ⟨#[97, 44, 98]⟩, ⟨#[115, 111, 109, 101, 32, 119, 111, 114, 100, 115]⟩, ⟨#[120, 35, 121]⟩, ⟨#[45, 49, 50]⟩, ⟨#[0, 255]⟩, ⟨#[44, 44]⟩, ⟨#[48]⟩]
theorem any1_small : ∀ x ∈ any1List, x.size ≤ 10 := by decide
theorem ok_alloc {w : World} {B : Nat} {a : Option Addr} {len cap m : Nat} (h : Ok w B a len cap m) (o : Obj) : Ok (w.alloc o) B a len cap m := by
  have hlt := h.lt
  obtain ⟨⟨k, hk, seed, hB, h0, h1⟩, hc, hl⟩ := h
  refine ⟨⟨k, hk, seed, (Below.heap_alloc w o B hlt).trans hB, h0, h1⟩, ?_, hl⟩
  intro i hi
  obtain ⟨b, off, z, ha, hb, hcell, h2, h3⟩ := hc i hi
  refine ⟨b, off, z, ha, hb, ?_, h2, h3⟩
  have e := World.cell?_of_block (w := w) (w' := w.alloc o) (a := ⟨b, off + i, none⟩) (Below.heap_alloc w o b (by omega))
  exact e.trans hcell
theorem ok_other {w w' : World} {B : Nat} {a : Option Addr} {len cap m : Nat} {row : Option Nat} (h : Ok w B a len cap m) (hg : w.grownBy w' row) (hne : ∀ k, row = some k → B < k) : Ok w' B a len cap m := by
  have hlt := h.lt
  obtain ⟨⟨k, hk, seed, hB, h0, h1⟩, hc, hl⟩ := h
  refine ⟨⟨k, hk, seed, (hg.block B hlt (fun e => by have := hne B e.symm; omega)).trans hB, h0, h1⟩, ?_, hl⟩
  intro i hi
  obtain ⟨b, off, z, ha, hb, hcell, h2, h3⟩ := hc i hi
  refine ⟨b, off, z, ha, hb, ?_, h2, h3⟩
  have e := World.cell?_of_block (w := w) (w' := w') (a := ⟨b, off + i, none⟩) (hg.block b (by omega) (fun e => by have := hne b e.symm; omega))
  exact e.trans hcell
theorem list_cells (w : World) (L : List ByteArray) (i : Nat) (x : ByteArray) (h : L[i]? = some x) : (w.alloc (.cells (strs L).toArray 9)).cell? ⟨w.heap.size, i, none⟩ = some (.string x) := by
  rw [World.cell?_alloc_mark]
  unfold strs
  rw [List.getElem?_toArray, List.getElem?_map, h]
  rfl
theorem grownBy_alloc' {w w' : World} {o : Obj} {r : Option Nat} (h : (w.alloc o).grownBy w' r) : w.grownBy w' r := gtrans (World.grownBy_alloc w o r) h

set_option maxHeartbeats 1000000 in
theorem any1_ok (B : Nat) (a : Option Addr) (len cap m : Nat) (hm : m ≤ 900000) (w : World) (h : Ok w B a len cap m) :
    Calls Tryd.prog 30 #[.pointer (some ⟨B, 0, none⟩)] w (StepS any1List B a len cap (m + 1) w) := by
  have hlt := h.lt
  have hof := of_ok B a len cap m hm w.heap.size 9 any1List rfl (by omega) (by omega) (w.alloc (.cells (strs any1List).toArray 9)) (ok_alloc h _) (by omega) (by simp) (list_cells w any1List)
  have HOF := Lib.hid hof
  clear hof
  go_enter Tryd.func30, Tryd.ntmps30
  go_wp2_with fail
  refine HOF.out.mono ?_
  rintro e w' ⟨x, rfl, hx, hok, hg⟩
  go_wp2_with fail
  go_ret
  exact ⟨x, rfl, hx, hok, grownBy_alloc' hg⟩

/-- What the walk is told of the code that came in. -/
def IsCode (w : World) (a : Option Addr) (len : Nat) : Prop := Cur.Code w w.heap.size a len ∧ len ≤ 65536
theorem IsCode.below {w w' : World} {a : Option Addr} {len : Nat} (h : IsCode w a len) (hb : Below w.heap.size w w') : IsCode w' a len := by
  refine ⟨?_, h.2⟩
  intro i hi
  obtain ⟨b, off, z, ha, hbl, hc, h0, h1⟩ := h.1 i hi
  exact ⟨b, off, z, ha, Nat.lt_of_lt_of_le hbl hb.size, (hb.cell (p := ⟨b, off + i, none⟩) hbl).trans hc, h0, h1⟩
theorem ok_new {w : World} {a : Option Addr} {len cap : Nat} (h : IsCode w a len) : Ok (w.alloc (.cells #[.slice a len cap, .int .i64 0, .int .u64 0] 37)) w.heap.size a len cap 0 := by
  refine ⟨⟨0, Nat.le_refl _, 0, heap_alloc_new w _, by omega, by omega⟩, ?_, h.2⟩
  intro i hi
  obtain ⟨b, off, z, ha, hbl, hc, h0, h1⟩ := h.1 i hi
  refine ⟨b, off, z, ha, hbl, ?_, h0, h1⟩
  have e := World.cell?_of_block (w := w) (w' := w.alloc (.cells #[.slice a len cap, .int .i64 0, .int .u64 0] 37)) (a := ⟨b, off + i, none⟩) (Below.heap_alloc w _ b hbl)
  exact e.trans hc
theorem below_of {w w' : World} {o : Obj} (h : (w.alloc o).grownBy w' (some w.heap.size)) : Below w.heap.size w w' :=
  ((Below.refl _ w).alloc (Nat.le_refl _) o).grown h (by simp) (fun k e => by cases e; exact Nat.le_refl _)

theorem infoB : (Tryd.prog.info? 5).map (fun i => (i.zero, i.size, i.bytes)) = some (some (.int .u8 0), 1, 1) := by kernel_rfl
def zeros (n : Nat) : ByteArray := ⟨(List.replicate n (0 : UInt8)).toArray⟩
theorem zeros_size (n : Nat) : (zeros n).size = n := by simp [zeros, ByteArray.size]
theorem conv_zeros {w1 : World} {base g n : Nat} (h : w1.ownsRow base 5 1 (.slice (some ⟨g, 0, none⟩) n n) n (madeCells (Value.int .u8 0).cells (n * 1)).toList) :
    (convert 22 9 (.slice (some ⟨g, 0, none⟩) n n)).run Tryd.prog w1 = .ok (.string (zeros n)) w1 := by
  have hb := run_convert_bytes_back (P := Tryd.prog) w1 22 9 5 ⟨g, 0, none⟩ n (List.replicate n (0 : UInt8)) Tryd.underlying22 Tryd.underlying5 Tryd.underlying9 (fun j hj => by
    have hj' : j < n := by simpa using hj
    have e : (⟨g, 0, none⟩ : Addr).add j = ⟨g, j, none⟩ := by
      unfold Addr.add
      by_cases h0 : j = 0
      · subst h0; simp
      · simp [h0]
    rw [e, h.cellAt j (by omega), show (Value.int .u8 0).cells = #[.int .u8 0] from rfl, toList_madeCells_one, List.getElem?_replicate, if_pos (by omega)]
    simp)
  rw [List.length_replicate] at hb
  exact hb
end Go.Proofs.YtkoickdndjfnhaaDoor.DrawBase
