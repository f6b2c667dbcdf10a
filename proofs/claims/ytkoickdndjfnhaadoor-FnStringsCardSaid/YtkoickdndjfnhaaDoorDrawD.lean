/- The model's draws for the law FnStrings, and the law file's vAt: what they return is within bounds, and nothing that was there is changed. -/
import Derived.Test.YtkoickdndjfnhaaDoorDrawBase
import Derived.Test.YtkoickdndjfnhaaDoorDec
import Derived.Test.YtkoickdndjfnhaaDoorNum
namespace Go.Proofs.YtkoickdndjfnhaaDoor.DrawD
open Go.RowKit Cur Split DrawBase

def ints (l : List Int) : List Value := l.map (Value.int .i64)
set_option maxHeartbeats 1000000 in
theorem among_ok (B : Nat) (a : Option Addr) (len cap m : Nat) (hm : m ≤ 900000) (g n : Nat) (L : List Int) (hL : L.length = n) (h1 : 1 < n) (h2 : n ≤ 200) (w : World) (h : Ok w B a len cap m) (hgB : g ≠ B) (hgw : g < w.heap.size)
    (hc : ∀ i x, L[i]? = some x → w.cell? ⟨g, i, none⟩ = some (.int .i64 x)) :
    Calls Tryd.prog 21 #[.pointer (some ⟨B, 0, none⟩), .slice (some ⟨g, 0, none⟩) n n] w (Step (fun r => r ∈ L) B a len cap (m + 1) w) := by
  have HL := Lib.hid hL
  clear hL
  go_enter Tryd.func21, Tryd.ntmps21
  go_wp2_with fail
  refine (pick_small B a len cap m hm n (by omega) (by omega) _ h).mono ?_
  rintro e w' ⟨r, rfl, ⟨h0, h3⟩, hok, hg⟩
  obtain ⟨i, rfl⟩ := Int.eq_ofNat_of_zero_le h0
  obtain ⟨x, hx⟩ : ∃ x, L[i]? = some x := ⟨_, List.getElem?_eq_getElem (by rw [HL.out]; omega)⟩
  have hcx := hc i x hx
  have e := World.cell?_of_block (w := w) (w' := w') (a := ⟨g, i, none⟩) (hg.block g hgw (fun e => hgB (Option.some.inj e)))
  rw [hcx] at e
  have hxm : x ∈ L := List.mem_of_getElem? hx
  have HX := Lib.hid hx
  clear hc hx hcx
  go_wp2_with fail
  go_ret
  exact ⟨x, rfl, hxm, hok, hg⟩
theorem ints_cells (w : World) (L : List Int) (i : Nat) (x : Int) (h : L[i]? = some x) : (w.alloc (.cells (ints L).toArray 3)).cell? ⟨w.heap.size, i, none⟩ = some (.int .i64 x) := by
  rw [World.cell?_alloc_mark]
  unfold ints
  rw [List.getElem?_toArray, List.getElem?_map, h]
  rfl
def Num1 (lo hi : Int) (w : World) (e : Ending) (w' : World) : Prop := ∃ n : Int, e = .returned (.int .i64 n) ∧ lo ≤ n ∧ n ≤ hi ∧ Below w.heap.size w w'
def Txt (k : Nat) (w : World) (e : Ending) (w' : World) : Prop := ∃ x : ByteArray, e = .returned (.string x) ∧ x.size ≤ k ∧ Below w.heap.size w w'
def fmtList (r : Int) : List Int := [0, 1, -1, 10, 999999, -999999, 1000000, -1000000, r]
theorem fmt_small (r : Int) (h0 : -1000000 ≤ r) (h1 : r ≤ 1000000) : ∀ x ∈ fmtList r, -1000000 ≤ x ∧ x ≤ 1000000 := by
  intro x hx
  simp [fmtList] at hx
  omega

set_option maxHeartbeats 1000000 in
theorem drawFormat (a : Option Addr) (len cap : Nat) (w : World) (h : IsCode w a len) :
    Calls Tryd.prog 9 #[.slice a len cap] w (Num1 (-1000000) 1000000 w) := by
  have hok := ok_new (cap := cap) h
  have HOK := Lib.hid hok
  clear hok
  go_enter Tryd.func9, Tryd.ntmps9
  go_wp2_with fail
  refine (pick_big w.heap.size a len cap 0 (by omega) 1000 (by omega) (by omega) _ HOK.out).mono ?_
  rintro e w1 ⟨r, rfl, ⟨h0, h3⟩, hok1, hg1⟩
  have hlt := hok1.lt
  have hof := among_ok w.heap.size a len cap 2 (by omega) w1.heap.size 9 (fmtList (r - 500)) rfl (by omega) (by omega) (w1.alloc (.cells (ints (fmtList (r - 500))).toArray 3)) (ok_alloc hok1 _) (by omega) (by simp) (ints_cells w1 (fmtList (r - 500)))
  have HOF := Lib.hid hof
  clear hof
  go_wp2_with fail
  refine HOF.out.mono ?_
  rintro e w2 ⟨y, rfl, hy, hok2, hg2⟩
  have hyb := fmt_small (r - 500) (by omega) (by omega) y hy
  go_wp2_with fail
  go_ret
  exact ⟨y, rfl, hyb.1, hyb.2, below_of (gtrans hg1 (grownBy_alloc' hg2))⟩

def parseList : List ByteArray := [⟨#[]⟩, ⟨#[45]⟩, ⟨#[45, 48]⟩, ⟨#[48, 48]⟩, ⟨#[48, 49]⟩, ⟨#[45, 45, 49]⟩, ⟨#[49, 120]⟩, ⟨#[57, 57, 57, 57, 57, 57]⟩, ⟨#[49, 48, 48, 48, 48, 48, 48]⟩, ⟨#[45, 57, 57, 57, 57, 57, 57]⟩, ⟨#[49, 56, 52, 52, 54, 55, 52, 52, 48, 55, 51, 55, 48, 57, 53, 53, 49, 54, 49, 55]⟩]
theorem parse_small : ∀ x ∈ parseList, x.size ≤ 20 := by decide
theorem itoa_small (n : Int) (h0 : -999999 ≤ n) (h1 : n ≤ 999999) : (⟨(Lib.itoa n).toArray⟩ : ByteArray).size ≤ 21 := by
  have := Lib.itoa_length_le n (by omega) (by omega)
  have e : (⟨(Lib.itoa n).toArray⟩ : ByteArray).size = (Lib.itoa n).length := by simp [ByteArray.size]
  omega
set_option maxHeartbeats 1000000 in
theorem drawParse (a : Option Addr) (len cap : Nat) (w : World) (h : IsCode w a len) :
    Calls Tryd.prog 12 #[.slice a len cap] w (Txt 21 w) := by
  have hok := ok_new (cap := cap) h
  have HOK := Lib.hid hok
  clear hok
  go_enter Tryd.func12, Tryd.ntmps12
  go_wp2_with fail
  refine (one_ok w.heap.size a len cap 0 (by omega) 2 (by omega) (by omega) _ HOK.out).mono ?_
  rintro e w1 ⟨r, rfl, hok1, hg1⟩
  have hlt := hok1.lt
  cases r with
  | true =>
    have hof := of_ok w.heap.size a len cap 1 (by omega) w1.heap.size 11 parseList rfl (by omega) (by omega) (w1.alloc (.cells (strs parseList).toArray 9)) (ok_alloc hok1 _) (by omega) (by simp) (list_cells w1 parseList)
    have HOF := Lib.hid hof
    clear hof
    go_wp2_with fail
    refine HOF.out.mono ?_
    rintro e w2 ⟨y, rfl, hy, hok2, hg2⟩
    have hyb := parse_small y hy
    go_wp2_with fail
    go_ret
    exact ⟨y, rfl, by omega, below_of (gtrans hg1 (grownBy_alloc' hg2))⟩
  | false =>
    go_wp2_with fail
    refine (pick_big w.heap.size a len cap 1 (by omega) 2000 (by omega) (by omega) _ hok1).mono ?_
    rintro e w2 ⟨q, rfl, ⟨h0, h3⟩, hok2, hg2⟩
    go_wp2_with fail
    refine (Num.l1Num_any _ _ (by omega) (by omega)).mono ?_
    rintro e w3 ⟨rfl, m, rfl⟩
    go_wp2_with fail
    go_ret
    exact ⟨_, rfl, itoa_small _ (by omega) (by omega), below_of (grownBy_dr (gtrans hg1 hg2) _)⟩

set_option maxHeartbeats 1000000 in
theorem drawAppend (a : Option Addr) (len cap : Nat) (w : World) (h : IsCode w a len) :
    Calls Tryd.prog 15 #[.slice a len cap] w (Txt 4000 w) := by
  obtain ⟨j0, ki, kz0, kz1, kz2⟩ := info_parts infoB
  have hok := ok_new (cap := cap) h
  have HOK := Lib.hid hok
  clear hok
  go_enter Tryd.func15, Tryd.ntmps15
  go_wp2_with fail
  refine (one_ok w.heap.size a len cap 0 (by omega) 20 (by omega) (by omega) _ HOK.out).mono ?_
  rintro e w1 ⟨r, rfl, hok1, hg1⟩
  have hlt := hok1.lt
  cases r with
  | true =>
    go_wp2_with fail
    refine (pick_small w.heap.size a len cap 1 (by omega) 10 (by omega) (by omega) _ hok1).mono ?_
    rintro e w2 ⟨q, rfl, ⟨hq0, hq1⟩, hok2, hg2⟩
    obtain ⟨n, hn⟩ : ∃ n : Nat, 3990 + q = (n : Int) := ⟨(3990 + q).toNat, by omega⟩
    have hn1 : n ≤ 4000 := by omega
    have HN := Lib.hid hn
    clear hn
    go_wp2_with (at_make; refine wpList_make_full _ rfl _ _ 22 rfl w2.heap.size 5 j0 (.int .u8 0) 1 Tryd.underlying22 ki kz0 kz1 .i64 .i64 _ _ n rfl rfl HN.out HN.out (by rw [kz2]; omega) (by unfold maxLen; omega) (Nat.le_refl _) ?_; intro w4 howz hgz; have hcv := conv_zeros howz)
    go_ret
    exact ⟨zeros n, rfl, by rw [zeros_size]; exact hn1, (below_of (gtrans hg1 hg2)).grown hgz (by have := hok2.lt; omega) (fun k e => by cases e)⟩
  | false =>
    go_wp2_with fail
    refine (any1_ok w.heap.size a len cap 1 (by omega) _ hok1).mono ?_
    rintro e w2 ⟨y, rfl, hy, hok2, hg2⟩
    have hyb := any1_small y hy
    go_wp2_with fail
    go_ret
    exact ⟨y, rfl, by omega, below_of (gtrans hg1 hg2)⟩

/-- vAt: one number, whatever is laid besides. -/
theorem vAt_val (a : Option Addr) (len cap : Nat) (i : Nat) (hi : i ≤ 1000) (w : World) (h : IsCode w a len) :
    ∃ r : Int, 0 ≤ r ∧ r ≤ 255 ∧ ∀ W : World, Below w.heap.size w W → Calls Tryd.prog 19 #[.slice a len cap, .int .i64 i] W fun e W' => e = .returned (.int .i64 r) ∧ W' = W := by
  have hl := h.2
  by_cases hlt : i < len
  · obtain ⟨b, off, z, rfl, hb, hc, h0, h1⟩ := h.1 i hlt
    refine ⟨z, h0, h1, fun W hW => ?_⟩
    have hc' : W.cell? ⟨b, off + i, none⟩ = some (.int .u8 z) := (hW.cell (p := ⟨b, off + i, none⟩) hb).trans hc
    have hi' : (i : Int) < (len : Int) := by omega
    clear h hW hc
    go_enter Tryd.func19, Tryd.ntmps19
    go_wp2
    go_ret
    exact ⟨rfl, rfl⟩
  · refine ⟨((i : Int) * 7 + len) % 256, by omega, by omega, fun W hW => ?_⟩
    have hi' : ¬ (i : Int) < (len : Int) := by omega
    clear h hW
    go_enter Tryd.func19, Tryd.ntmps19
    go_wp2
    go_ret
    exact ⟨rfl, rfl⟩
end Go.Proofs.YtkoickdndjfnhaaDoor.DrawD
