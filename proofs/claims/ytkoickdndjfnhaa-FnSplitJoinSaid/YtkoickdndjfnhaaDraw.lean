/- The model's draws for the law FnSplitJoin: any1, DrawSplitString, DrawLessString, DrawJoinStrings: what they return is small, and nothing that was there is changed. -/
import Derived.Test.YtkoickdndjfnhaaCur
import Derived.Test.YtkoickdndjfnhaaStrs
namespace Go.Proofs.Ytkoickdndjfnhaa.Draw
open Go.RowKit Cur Split Strs

def any1List : List ByteArray := [⟨#[]⟩, ⟨#[97]⟩, ⟨#[97, 44, 98]⟩, ⟨#[115, 111, 109, 101, 32, 119, 111, 114, 100, 115]⟩, ⟨#[120, 35, 121]⟩, ⟨#[45, 49, 50]⟩, ⟨#[0, 255]⟩, ⟨#[44, 44]⟩, ⟨#[48]⟩]
theorem any1_small : ∀ x ∈ any1List, x.size ≤ 10 := by decide
theorem ok_alloc {w : World} {B : Nat} {a : Option Addr} {len cap m : Nat} (h : Ok w B a len cap m) (o : Obj) : Ok (w.alloc o) B a len cap m := by
  have hlt := h.lt
  obtain ⟨⟨k, hk, seed, hB, h0, h1⟩, hc, hl⟩ := h
  refine ⟨⟨k, hk, seed, (Below.heap_alloc w o B hlt).trans hB, h0, h1⟩, ?_, hl⟩
  intro i hi
  obtain ⟨b, off, z, ha, hb, hcell, h2, h3⟩ := hc i hi
  refine ⟨b, off, z, ha, hb, ?_, h2, h3⟩
  have e := World.cell?_of_block (w := w) (w' := w.alloc o) (a := ⟨b, off + i, none⟩) (Below.heap_alloc w o b (by omega))
  exact e.trans hcell
theorem ok_other {w w' : World} {B : Nat} {a : Option Addr} {len cap m : Nat} {row : Option Nat} (h : Ok w B a len cap m) (hg : w.grownBy w' row) (hne : ∀ k, row = some k → B < k) : Ok w' B a len cap m := by
  have hlt := h.lt
  obtain ⟨⟨k, hk, seed, hB, h0, h1⟩, hc, hl⟩ := h
  refine ⟨⟨k, hk, seed, (hg.block B hlt (fun e => by have := hne B e.symm; omega)).trans hB, h0, h1⟩, ?_, hl⟩
  intro i hi
  obtain ⟨b, off, z, ha, hb, hcell, h2, h3⟩ := hc i hi
  refine ⟨b, off, z, ha, hb, ?_, h2, h3⟩
  have e := World.cell?_of_block (w := w) (w' := w') (a := ⟨b, off + i, none⟩) (hg.block b (by omega) (fun e => by have := hne b e.symm; omega))
  exact e.trans hcell
theorem list_cells (w : World) (L : List ByteArray) (i : Nat) (x : ByteArray) (h : L[i]? = some x) : (w.alloc (.cells (strs L).toArray 9)).cell? ⟨w.heap.size, i, none⟩ = some (.string x) := by
  rw [World.cell?_alloc_mark]
  unfold strs
  rw [List.getElem?_toArray, List.getElem?_map, h]
  rfl
theorem grownBy_alloc' {w w' : World} {o : Obj} {r : Option Nat} (h : (w.alloc o).grownBy w' r) : w.grownBy w' r := gtrans (World.grownBy_alloc w o r) h

set_option maxHeartbeats 1000000 in
theorem any1_ok (B : Nat) (a : Option Addr) (len cap m : Nat) (hm : m ≤ 900000) (w : World) (h : Ok w B a len cap m) :
    Calls Try.prog 25 #[.pointer (some ⟨B, 0, none⟩)] w (StepS any1List B a len cap (m + 1) w) := by
  have hlt := h.lt
  have hof := of_ok B a len cap m hm w.heap.size 9 any1List rfl (by omega) (by omega) (w.alloc (.cells (strs any1List).toArray 9)) (ok_alloc h _) (by omega) (by simp) (list_cells w any1List)
  have HOF := Lib.hid hof
  clear hof
  go_enter Try.func25, Try.ntmps25
  go_wp2_with fail
  refine HOF.out.mono ?_
  rintro e w' ⟨x, rfl, hx, hok, hg⟩
  go_wp2_with fail
  go_ret
  exact ⟨x, rfl, hx, hok, grownBy_alloc' hg⟩

/-- What the walk is told of the code that came in. -/
def IsCode (w : World) (a : Option Addr) (len : Nat) : Prop := Cur.Code w w.heap.size a len ∧ len ≤ 65536
theorem IsCode.below {w w' : World} {a : Option Addr} {len : Nat} (h : IsCode w a len) (hb : Below w.heap.size w w') : IsCode w' a len := by
  refine ⟨?_, h.2⟩
  intro i hi
  obtain ⟨b, off, z, ha, hbl, hc, h0, h1⟩ := h.1 i hi
  exact ⟨b, off, z, ha, Nat.lt_of_lt_of_le hbl hb.size, (hb.cell (p := ⟨b, off + i, none⟩) hbl).trans hc, h0, h1⟩
theorem ok_new {w : World} {a : Option Addr} {len cap : Nat} (h : IsCode w a len) : Ok (w.alloc (.cells #[.slice a len cap, .int .i64 0, .int .u64 0] 44)) w.heap.size a len cap 0 := by
  refine ⟨⟨0, Nat.le_refl _, 0, heap_alloc_new w _, by omega, by omega⟩, ?_, h.2⟩
  intro i hi
  obtain ⟨b, off, z, ha, hbl, hc, h0, h1⟩ := h.1 i hi
  refine ⟨b, off, z, ha, hbl, ?_, h0, h1⟩
  have e := World.cell?_of_block (w := w) (w' := w.alloc (.cells #[.slice a len cap, .int .i64 0, .int .u64 0] 44)) (a := ⟨b, off + i, none⟩) (Below.heap_alloc w _ b hbl)
  exact e.trans hc
theorem below_of {w w' : World} {o : Obj} (h : (w.alloc o).grownBy w' (some w.heap.size)) : Below w.heap.size w w' :=
  ((Below.refl _ w).alloc (Nat.le_refl _) o).grown h (by simp) (fun k e => by cases e; exact Nat.le_refl _)

def sepList : List ByteArray := [⟨#[44]⟩, ⟨#[44]⟩, ⟨#[32]⟩, ⟨#[]⟩, ⟨#[44, 44]⟩]
def Pair (L1 L2 : List ByteArray) (w : World) (e : Ending) (w' : World) : Prop := ∃ x y : ByteArray, e = .returned (.tuple #[.string x, .string y]) ∧ x ∈ L1 ∧ y ∈ L2 ∧ Below w.heap.size w w'
set_option maxHeartbeats 1000000 in
theorem drawSplit (a : Option Addr) (len cap : Nat) (w : World) (h : IsCode w a len) :
    Calls Try.prog 9 #[.slice a len cap] w (Pair any1List sepList w) := by
  have hok := ok_new (cap := cap) h
  have HOK := Lib.hid hok
  clear hok
  go_enter Try.func9, Try.ntmps9
  go_wp2_with fail
  refine (any1_ok w.heap.size a len cap 0 (by omega) _ HOK.out).mono ?_
  rintro e w1 ⟨x, rfl, hx, hok1, hg1⟩
  have hlt := hok1.lt
  have hof := of_ok w.heap.size a len cap 1 (by omega) w1.heap.size 5 sepList rfl (by omega) (by omega) (w1.alloc (.cells (strs sepList).toArray 9)) (ok_alloc hok1 _) (by omega) (by simp) (list_cells w1 sepList)
  have HOF := Lib.hid hof
  clear hof
  go_wp2_with fail
  refine HOF.out.mono ?_
  rintro e w2 ⟨y, rfl, hy, hok2, hg2⟩
  go_wp2_with fail
  go_ret2
  exact ⟨x, y, rfl, hx, hy, below_of (gtrans hg1 (grownBy_alloc' hg2))⟩
set_option maxHeartbeats 1000000 in
theorem drawLess (a : Option Addr) (len cap : Nat) (w : World) (h : IsCode w a len) :
    Calls Try.prog 14 #[.slice a len cap] w (Pair any1List any1List w) := by
  have hok := ok_new (cap := cap) h
  have HOK := Lib.hid hok
  clear hok
  go_enter Try.func14, Try.ntmps14
  go_wp2_with fail
  refine (any1_ok w.heap.size a len cap 0 (by omega) _ HOK.out).mono ?_
  rintro e w1 ⟨x, rfl, hx, hok1, hg1⟩
  go_wp2_with fail
  refine (any1_ok w.heap.size a len cap 1 (by omega) _ hok1).mono ?_
  rintro e w2 ⟨y, rfl, hy, hok2, hg2⟩
  go_wp2_with fail
  go_ret2
  exact ⟨x, y, rfl, hx, hy, below_of (gtrans hg1 hg2)⟩

theorem infoB : (Try.prog.info? 5).map (fun i => (i.zero, i.size, i.bytes)) = some (some (.int .u8 0), 1, 1) := by kernel_rfl
def zeros (n : Nat) : ByteArray := ⟨(List.replicate n (0 : UInt8)).toArray⟩
theorem zeros_size (n : Nat) : (zeros n).size = n := by simp [zeros, ByteArray.size]
theorem conv_zeros {w1 : World} {base g n : Nat} (h : w1.ownsRow base 5 1 (.slice (some ⟨g, 0, none⟩) n n) n (madeCells (Value.int .u8 0).cells (n * 1)).toList) :
    (convert 22 9 (.slice (some ⟨g, 0, none⟩) n n)).run Try.prog w1 = .ok (.string (zeros n)) w1 := by
  have hb := run_convert_bytes_back (P := Try.prog) w1 22 9 5 ⟨g, 0, none⟩ n (List.replicate n (0 : UInt8)) Try.underlying22 Try.underlying5 Try.underlying9 (fun j hj => by
    have hj' : j < n := by simpa using hj
    have e : (⟨g, 0, none⟩ : Addr).add j = ⟨g, j, none⟩ := by
      unfold Addr.add
      by_cases h0 : j = 0
      · subst h0; simp
      · simp [h0]
    rw [e, h.cellAt j (by omega), show (Value.int .u8 0).cells = #[.int .u8 0] from rfl, toList_madeCells_one, List.getElem?_replicate, if_pos (by omega)]
    simp)
  rw [List.length_replicate] at hb
  exact hb
def joinSeps : List ByteArray := [⟨#[44]⟩, ⟨#[59]⟩, ⟨#[59]⟩, ⟨#[]⟩, ⟨#[97, 98]⟩]
theorem join_small : ∀ x ∈ joinSeps, x.size ≤ 2 := by decide
/-- A slice of the call's own that holds l. -/
def Row (base : Nat) (w : World) (v : Value) (l : List ByteArray) : Prop := ∃ g cap, v = .slice (some ⟨g, 0, none⟩) l.length cap ∧ w.ownsRow base 9 1 v l.length (strs l)
def Small (l : List ByteArray) (k : Nat) : Prop := l.length ≤ k ∧ ∀ x ∈ l, x.size ≤ 4100
theorem small_tot : ∀ (l : List ByteArray), (∀ x ∈ l, x.size ≤ 4100) → tot l ≤ l.length * 4100
  | [], _ => by simp [tot]
  | x :: r, h => by
    have h1 := small_tot r (fun y hy => h y (List.mem_cons_of_mem _ hy))
    have h2 := h x (List.mem_cons_self ..)
    have e : tot (x :: r) = x.size + tot r := by simp [tot]
    rw [e, List.length_cons]
    omega
def DrawnJoin (w : World) (e : Ending) (w' : World) : Prop :=
  ∃ (l : List ByteArray) (g cap : Nat) (y : ByteArray), e = .returned (.tuple #[.slice (some ⟨g, 0, none⟩) l.length cap, .string y]) ∧ Small l 5 ∧ y.size ≤ 2 ∧ w'.ownsRow w.heap.size 9 1 (.slice (some ⟨g, 0, none⟩) l.length cap) l.length (strs l) ∧ Below w.heap.size w w'
theorem row_app {base : Nat} {w1 : World} {v' : Value} {l : List ByteArray} {x : ByteArray} (h : w1.ownsRow base 9 1 v' (l.length + 1) (strs l ++ [Value.string x])) : Row base w1 v' (l ++ [x]) := by
  obtain ⟨g, cap, rfl⟩ := ownsRow_succ h
  exact ⟨g, cap, by simp, by rw [← strs_snoc]; simpa using h⟩
theorem small_app {l : List ByteArray} {x : ByteArray} {k : Nat} (h : Small l k) (hx : x.size ≤ 4100) : Small (l ++ [x]) (k + 1) := by
  refine ⟨by simp; exact h.1, fun y hy => ?_⟩
  rcases List.mem_append.1 hy with hy | hy
  · exact h.2 y hy
  · obtain rfl := List.mem_singleton.1 hy
    exact hx
/-- What holds while DrawJoinStrings gathers. -/
structure St (w wr : World) (a : Option Addr) (len cap m : Nat) (v : Value) (l : List ByteArray) (k : Nat) : Prop where
  ok : Ok wr w.heap.size a len cap m
  row : Row (w.heap.size + 1) wr v l
  small : Small l k
  bel : Below w.heap.size w wr
theorem St.cursor {w wr w' : World} {a : Option Addr} {len cap m m' : Nat} {v : Value} {l : List ByteArray} {k : Nat} (h : St w wr a len cap m v l k) (hok : Ok w' w.heap.size a len cap m') (hg : wr.grownBy w' (some w.heap.size)) : St w w' a len cap m' v l k := by
  obtain ⟨g, c, hv, hown⟩ := h.row
  have hlt := (hown.lt g (by rw [hv]; rfl)).1
  refine ⟨hok, ⟨g, c, hv, hown.kept hg (.inr (by rw [hv]; simp [Value.ownBlock]; omega))⟩, h.small, h.bel.grown hg h.bel.size (fun j e => by cases e; exact Nat.le_refl _)⟩
theorem St.append {w wr w1 : World} {a : Option Addr} {len cap m : Nat} {v v' : Value} {l : List ByteArray} {k : Nat} {x : ByteArray} {o : Obj} (h : St w wr a len cap m v l k) (hx : x.size ≤ 4100)
    (hown' : w1.ownsRow (w.heap.size + 1) 9 1 v' (l.length + 1) (strs l ++ [Value.string x])) (hg : (wr.alloc o).grownBy w1 v.ownBlock) : St w w1 a len cap m v' (l ++ [x]) (k + 1) := by
  obtain ⟨g, c, hv, hown⟩ := h.row
  have hlt := (hown.lt g (by rw [hv]; rfl)).1
  have hr : ∀ j, v.ownBlock = some j → w.heap.size < j := fun j e => by have := (hown.lt j e).1; omega
  refine ⟨ok_other (ok_alloc h.ok o) hg hr, row_app hown', small_app h.small hx, (h.bel.alloc h.bel.size o).grown hg (by have := h.bel.size; simp; omega) (fun j e => by have := hr j e; omega)⟩
theorem St.grow {w wr w1 : World} {a : Option Addr} {len cap m : Nat} {v : Value} {l : List ByteArray} {k : Nat} (h : St w wr a len cap m v l k) (hg : wr.grownBy w1 none) : St w w1 a len cap m v l k := by
  obtain ⟨g, c, hv, hown⟩ := h.row
  exact ⟨ok_other h.ok hg (fun j e => by cases e), ⟨g, c, hv, hown.kept hg (.inr (by rw [hv]; simp [Value.ownBlock]))⟩, h.small, h.bel.grown hg h.bel.size (fun j e => by cases e)⟩

set_option maxHeartbeats 2000000 in
theorem drawJoin (a : Option Addr) (len cap : Nat) (w : World) (h : IsCode w a len) :
    Calls Try.prog 11 #[.slice a len cap] w (DrawnJoin w) := by
  obtain ⟨i0, hi, hz0, hz1, hz2⟩ := info_parts infoS
  obtain ⟨j0, ki, kz0, kz1, kz2⟩ := info_parts infoB
  have hst : St w ((w.alloc (.cells #[.slice a len cap, .int .i64 0, .int .u64 0] 44)).alloc (.cells #[] 9)) a len cap 0 (.slice (some ⟨w.heap.size + 1, 0, none⟩) 0 0) [] 0 := by
    refine ⟨ok_alloc (ok_new h) _, ⟨w.heap.size + 1, 0, rfl, ?_⟩, ⟨Nat.le_refl _, fun x hx => by cases hx⟩, ((Below.refl _ w).alloc (Nat.le_refl _) _).alloc (by simp) _⟩
    have := World.ownsRow_made (base := w.heap.size + 1) (e := 9) (size := 1) (w.alloc (.cells #[.slice a len cap, .int .i64 0, .int .u64 0] 44)) #[] 0 (by simp) (by unfold maxLen; omega) rfl
    rw [World.size_alloc] at this
    exact this
  have HST := Lib.hid hst
  clear hst h
  go_enter Try.func11, Try.ntmps11
  go_wp2_with fail
  refine (pick_small w.heap.size a len cap 0 (by omega) 4 (by omega) (by omega) _ HST.out.ok).mono ?_
  rintro e w1 ⟨r, rfl, ⟨h0, h3⟩, hok1, hg1⟩
  have hs1 := HST.out.cursor hok1 hg1
  clear HST hok1 hg1
  go_wp2_with fail
  go_loopw [5, 7] (fun v i wr => ∃ (k m : Nat) (l : List ByteArray), k ≤ 4 ∧ m ≤ 100 + k ∧ i = .int .i64 k ∧ (k : Int) ≤ r ∧ St w wr a len cap m v l k) (fun _ i _ => r.toNat - (intOf i).toNat)
  case atStart => exact ⟨0, 1, [], by omega, by omega, rfl, h0, hs1⟩
  case round =>
    obtain ⟨k, m, l, hk, hm, rfl, hkr, hS⟩ := hrel
    clear hs1
    by_cases hlt : (k : Int) < r
    · go_wp2_with fail
      refine (any1_ok w.heap.size a len cap m (by omega) _ hS.ok).mono ?_
      rintro e w2 ⟨x, rfl, hx, hok2, hg2⟩
      have hS2 := hS.cursor hok2 hg2
      have hx4 : x.size ≤ 4100 := by have := any1_small x hx; omega
      have hown := hS2.row
      have hll := hS2.small.1
      have hz2' := hS2.bel.size
      obtain ⟨g, c, rfl, hown⟩ := hown
      have HS2 := Lib.hid hS2
      clear hS hok2 hg2 hS2
      have hlt2 := (HS2.out.ok).lt
      go_wp2_with (at_builtin; refine wpList_append_own _ rfl _ _ 26 rfl (w.heap.size + 1) 9 i0 (.string ⟨#[]⟩) 1 16 Try.underlying26 hi hz0 hz1 hz2 rfl (by decide) _ _ _ rfl (hown.alloc _) ⟨w2.heap.size, 0, none⟩ 1 1 [.string x] rfl rfl (cell_one_new _ _ _) (by simp [Value.oneCell']) (by unfold maxLen; omega) (by omega) (by simp; omega) ?_; intro v' w3 hown' hgrow _)
      have hS3 := HS2.out.append hx4 hown' hgrow
      clear hown hown' hgrow
      go_roundw
      case rel => exact ⟨k + 1, m + 1, l ++ [x], by omega, by omega, by go_num, by omega, hS3⟩
      case measure => simp [intOf]; omega
    · go_wp2_with fail
      refine (one_ok w.heap.size a len cap m (by omega) 20 (by omega) (by omega) _ hS.ok).mono ?_
      rintro e w2 ⟨bb, rfl, hok2, hg2⟩
      have hS2 := hS.cursor hok2 hg2
      clear hS hok2 hg2
      cases bb with
      | false =>
        obtain ⟨g, c, rfl, hown⟩ := hS2.row
        have hlt5 := hS2.ok.lt
        have hof := of_ok w.heap.size a len cap (m + 1) (by omega) w2.heap.size 5 joinSeps rfl (by omega) (by omega) (w2.alloc (.cells (strs joinSeps).toArray 9)) (ok_alloc hS2.ok _) (by omega) (by simp) (list_cells w2 joinSeps)
        have HOF := Lib.hid hof
        have hsm := hS2.small
        have hbb := hS2.bel
        have HSM := Lib.hid hsm
        have HLT := Lib.hid (hown.lt g rfl)
        clear hof hS2 hsm
        go_wp2_with fail
        refine HOF.out.mono ?_
        rintro e w9 ⟨y, rfl, hy, hok9, hg9⟩
        go_wp2_with fail
        go_ret2
        have hg9' := grownBy_alloc' hg9
        have hk9 := hown.kept hg9' (.inr (by simp [Value.ownBlock]; have := HLT.out.1; omega))
        exact ⟨_, g, c, y, rfl, ⟨by have := HSM.out.1; omega, HSM.out.2⟩, join_small y hy, ⟨hk9.1, hk9.2.imp id (fun ⟨g', c', cur, e1, e2, e3⟩ => ⟨g', c', cur, e1, by omega, e3⟩)⟩, hbb.grown hg9' hbb.size (fun j e => by cases e; exact Nat.le_refl _)⟩
      | true =>
        go_wp2_with fail
        refine (pick_small w.heap.size a len cap (m + 1) (by omega) 20 (by omega) (by omega) _ hS2.ok).mono ?_
        rintro e w3 ⟨q, rfl, ⟨hq0, hq1⟩, hok3, hg3⟩
        have hS3 := hS2.cursor hok3 hg3
        clear hS2 hok3 hg3
        obtain ⟨n, hn⟩ : ∃ n : Nat, 3990 + q = (n : Int) := ⟨(3990 + q).toNat, by omega⟩
        have hn1 : n ≤ 4100 := by omega
        have HN := Lib.hid hn
        clear hn
        have hz3 := hS3.bel.size
        have hll := hS3.small.1
        have hrow := hS3.row
        obtain ⟨g4, c4, rfl, hown3⟩ := hrow
        have HS3 := Lib.hid hS3
        have hlt3 := hS3.ok.lt
        clear hS3
        go_wp2_with (first | (at_make; refine wpList_make_full _ rfl _ _ 22 rfl w3.heap.size 5 j0 (.int .u8 0) 1 Try.underlying22 ki kz0 kz1 .i64 .i64 _ _ n rfl rfl HN.out HN.out (by rw [kz2]; omega) (by unfold maxLen; omega) (Nat.le_refl _) ?_; intro w4 howz hgz; have hcv := conv_zeros howz; have HS4 := Lib.hid (HS3.out.grow hgz); have hown4 := hown3.kept hgz (.inr (by simp [Value.ownBlock])); have hzz := hgz.size; clear hown3) | (at_builtin; refine wpList_append_own _ rfl _ _ 26 rfl (w.heap.size + 1) 9 i0 (.string ⟨#[]⟩) 1 16 Try.underlying26 hi hz0 hz1 hz2 rfl (by decide) _ _ _ rfl (hown4.alloc _) ⟨w4.heap.size, 0, none⟩ 1 1 [.string (zeros n)] rfl rfl (cell_one_new _ _ _) (by simp [Value.oneCell']) (by unfold maxLen; omega) (by omega) (by simp; omega) ?_; intro v' w5 hown' hgrow _; have hS5 := HS4.out.append (by rw [zeros_size]; exact hn1) hown' hgrow; have HS5 := Lib.hid hS5; clear hown' hgrow hS5 hown4 howz hgz))
        have hS5 := HS5.out
        have hlt5 := hS5.ok.lt
        have hof := of_ok w.heap.size a len cap (m + 1 + 1) (by omega) w5.heap.size 5 joinSeps rfl (by omega) (by omega) (w5.alloc (.cells (strs joinSeps).toArray 9)) (ok_alloc hS5.ok _) (by omega) (by simp) (list_cells w5 joinSeps)
        have HOF := Lib.hid hof
        clear hof hS5
        refine HOF.out.mono ?_
        rintro e w9 ⟨y, rfl, hy, hok9, hg9⟩
        go_wp2_with fail
        go_ret2
        have hS5 := HS5.out
        obtain ⟨g, c, rfl, hown⟩ := hS5.row
        have hg9' := grownBy_alloc' hg9
        have hk9 := hown.kept hg9' (.inr (by simp [Value.ownBlock]; have := (hown.lt g rfl).1; omega))
        exact ⟨_, g, c, y, rfl, ⟨by have := hS5.small.1; omega, hS5.small.2⟩, join_small y hy, ⟨hk9.1, hk9.2.imp id (fun ⟨g', c', cur, e1, e2, e3⟩ => ⟨g', c', cur, e1, by omega, e3⟩)⟩, hS5.bel.grown hg9' hS5.bel.size (fun j e => by cases e; exact Nat.le_refl _)⟩
end Go.Proofs.Ytkoickdndjfnhaa.Draw
