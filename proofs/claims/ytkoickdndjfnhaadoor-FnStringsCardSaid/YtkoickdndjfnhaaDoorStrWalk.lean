/- The walk of the law FnStrings: it returns true: FormatInt and ParseInt are inverse, AppendChecksum and VerifyChecksum are inverse, and a changed byte of a checksummed string is detected, at what is drawn. Condition (tied to the program's text by the card): the library's tables and sentinels lie as their initialisers lay them. -/
import Derived.Test.YtkoickdndjfnhaaDoorFlip
import Derived.Test.YtkoickdndjfnhaaDoorDrawD
import Derived.Test.YtkoickdndjfnhaaDoorLaid
import Derived.Shelf.Vars
import Derived.StillTailTactics
import Derived.Lib.ConvBytes
import Derived.Laws.BitsAllLaws
import Derived.WalkKit
import Derived.ProofKit
namespace Go.Proofs.YtkoickdndjfnhaaDoor.StrWalk
open Go.RowKit

def IsRow (k : IntKind) (w : World) (a : Option Addr) (len cap : Nat) (zs : List Int) : Prop :=
  (a = none ∧ len = 0 ∧ cap = 0 ∧ zs = []) ∨
  ∃ x, a = some x ∧ len ≤ cap ∧ cap ≤ maxLen ∧ zs.length = cap ∧ (∀ i, i < zs.length → w.cell? (x.add i) = some (.int k (zs.getD i 0))) ∧ ∀ n ∈ zs, (Lit.int k n).wf = true

/-- What the library's variables hold. -/
structure All (w : World) : Prop where
  vars : Parse.Vars w
  mem : Ver.Mem w
theorem All.below {w w' : World} (h : All w) (hb : Below w.heap.size w w') : All w' := ⟨h.vars.below hb, h.mem.below hb⟩
theorem all_of {w : World} (hL : laidMetH Tryd.prog Rows.fnStringsRow.laid w) (hsh : World.ShapedOpen Tryd.prog w) : All w := by
  have hv := Laid.varsStrings hL
  exact ⟨hv, hv.tab, cell_of_shapedOpen_int (P := Tryd.prog) (g := 2) (t := 3) (zero := #[.int .i64 0]) hsh (of_decide_eq_true (by kernel_rfl)) (by kernel_rfl) rfl (by kernel_rfl) (by kernel_rfl) Tryd.underlying3⟩
theorem vBig_any (a : Option Addr) (len cap : Nat) (w : World) :
    Calls Tryd.prog 8 #[.slice a len cap] w fun e w' => e = .returned (.bool (decide (65536 < (len : Int)))) ∧ w = w' := by
  go_enter Tryd.func8, Tryd.ntmps8
  go_wp2
  all_goals go_ret
  all_goals exact ⟨rfl, rfl⟩
theorem add_eq (b off i : Nat) : (⟨b, off, none⟩ : Addr).add i = ⟨b, off + i, none⟩ := by
  unfold Addr.add
  by_cases h : i = 0
  · subst h; simp
  · simp [h]
theorem cell_lt {w : World} {a : Addr} {v : Value} (h : w.cell? a = some v) : a.block < w.heap.size := by
  cases hb : w.heap[a.block]? with
  | none => simp [World.cell?, hb] at h
  | some o => exact (Array.getElem?_eq_some_iff.1 hb).1
theorem code_of {w : World} {a : Option Addr} {len cap : Nat} {zs : List Int} (h : IsRow .u8 w a len cap zs) (hl : len ≤ 65536) : DrawBase.IsCode w a len := by
  refine ⟨?_, hl⟩
  rcases h with ⟨rfl, rfl, rfl, rfl⟩ | ⟨x, rfl, hlc, hm, hz, hcell, hwz⟩
  · intro i hi
    omega
  · intro i hi
    obtain ⟨b, off, spot⟩ := x
    have hc0 := hcell 0 (by omega)
    have hspot : spot = none := by simpa [Addr.add] using World.cell?_spot hc0
    subst hspot
    have hc := hcell i (by omega)
    rw [add_eq] at hc
    have hmem : zs.getD i 0 ∈ zs := by
      rw [List.getD_eq_getElem?_getD, List.getElem?_eq_getElem (by omega)]
      exact List.getElem_mem _
    have hw := hwz _ hmem
    have hb : 0 ≤ zs.getD i 0 ∧ zs.getD i 0 ≤ 255 := by
      simpa [Lit.wf, IntKind.min, IntKind.max, IntKind.signed, IntKind.bits] using hw
    exact ⟨b, off, _, rfl, cell_lt hc, hc, hb.1, hb.2⟩
/-- FormatInt, as text and answer. -/
def fo (n : Int) : Bool := decide (-999999 ≤ n) && decide (n ≤ 999999)
def fs (n : Int) : ByteArray := if fo n then Dec.itoaB n else ⟨#[]⟩
theorem fo_true {n : Int} (h0 : -999999 ≤ n) (h1 : n ≤ 999999) : fo n = true := by unfold fo; rw [decide_eq_true h0, decide_eq_true h1]; rfl
theorem fo_false {n : Int} (h : n < -999999 ∨ 999999 < n) : fo n = false := by
  unfold fo
  rcases h with h | h
  · rw [decide_eq_false (by omega)]; rfl
  · rw [decide_eq_false (p := n ≤ 999999) (by omega), Bool.and_false]
theorem implF (n : Int) (w : World) (ht : Fmt.Tab w) :
    Calls Tryd.prog 10 #[.int .i64 n] w fun e w' => e = .returned (.tuple #[.string (fs n), .bool (fo n)]) ∧ Below w.heap.size w w' := by
  by_cases h : -999999 ≤ n ∧ n ≤ 999999
  · rw [show fs n = Dec.itoaB n by unfold fs; rw [fo_true h.1 h.2]; rfl, fo_true h.1 h.2]
    exact Fmt.impl_in n w h.1 h.2 ht
  · have h' : n < -999999 ∨ 999999 < n := by omega
    rw [show fs n = ⟨#[]⟩ by unfold fs; rw [fo_false h']; rfl, fo_false h']
    exact (Fmt.impl_out n w h').mono fun _ _ ⟨he, hw⟩ => ⟨he, hw ▸ Below.refl _ _⟩
theorem specF (n : Int) (w : World) :
    Calls Tryd.prog 11 #[.int .i64 n] w fun e w' => e = .returned (.tuple #[.string (fs n), .bool (fo n)]) ∧ Below w.heap.size w w' := by
  by_cases h : -999999 ≤ n ∧ n ≤ 999999
  · rw [show fs n = Dec.itoaB n by unfold fs; rw [fo_true h.1 h.2]; rfl, fo_true h.1 h.2]
    exact Fmt.spec_in n w h.1 h.2
  · have h' : n < -999999 ∨ 999999 < n := by omega
    rw [show fs n = ⟨#[]⟩ by unfold fs; rw [fo_false h']; rfl, fo_false h']
    exact (Fmt.spec_out n w h').mono fun _ _ ⟨he, hw⟩ => ⟨he, hw ▸ Below.refl _ _⟩
theorem fs_back (n : Int) (h : fo n = true) : Dec.pv (fs n) = some n := by
  have hr : -999999 ≤ n ∧ n ≤ 999999 := by
    unfold fo at h
    rw [Bool.and_eq_true] at h
    exact ⟨of_decide_eq_true h.1, of_decide_eq_true h.2⟩
  unfold fs
  rw [h]
  exact (Dec.pv_iff _ n).2 ⟨hr, rfl⟩
theorem fs_size (n : Int) : (fs n).size ≤ 21 := by
  unfold fs
  cases h : fo n with
  | false => show 0 ≤ 21; omega
  | true =>
    have hr : -999999 ≤ n ∧ n ≤ 999999 := by
      unfold fo at h
      rw [Bool.and_eq_true] at h
      exact ⟨of_decide_eq_true h.1, of_decide_eq_true h.2⟩
    exact Seal.itoaB_size n (by omega) (by omega)

theorem len (y : ByteArray) : y.data.toList.length = y.size := Array.length_toList
def flip (y : ByteArray) (k : Nat) (c : UInt8) : ByteArray := ⟨(y.data.toList.set k c).toArray⟩
theorem flip_list (y : ByteArray) (k : Nat) (c : UInt8) : (flip y k c).data.toList = y.data.toList.set k c := by simp [flip]
theorem flip_size (y : ByteArray) (k : Nat) (c : UInt8) : (flip y k c).size = y.size := by rw [← len, flip_list, List.length_set, len]
theorem conv_flip (W : World) (g : Nat) (y : ByteArray) (cap k : Nat) (c : UInt8) (hk : k < y.size) (hc : ∀ j, j < y.size → W.cell? ⟨g, j, none⟩ = some (.int .u8 ((y.data.toList.getD j 0).toNat : Int))) :
    (convert 22 9 (.slice (some ⟨g, 0, none⟩) y.size cap)).run Tryd.prog (W.setCell ⟨g, k, none⟩ (.int .u8 (c.toNat : Int))).drew = .ok (.string (flip y k c)) (W.setCell ⟨g, k, none⟩ (.int .u8 (c.toNat : Int))).drew := by
  have hlen : (y.data.toList.set k c).length = y.size := by rw [List.length_set, len]
  have hb := run_convert_bytes_back (P := Tryd.prog) (W.setCell ⟨g, k, none⟩ (.int .u8 (c.toNat : Int))).drew 22 9 5 ⟨g, 0, none⟩ cap (y.data.toList.set k c) Tryd.underlying22 Tryd.underlying5 Tryd.underlying9 (fun j hj => by
    have hj' : j < y.size := by omega
    rw [add_eq, Nat.zero_add]
    show (W.setCell ⟨g, k, none⟩ (.int .u8 (c.toNat : Int))).cell? ⟨g, j, none⟩ = _
    by_cases h : k = j
    · subst h
      rw [World.cell?_setCell_same (h := hc k hk), List.getElem_set_self]
    · rw [World.cell?_setCell_other (h := by intro e; exact h (congrArg Addr.off e)), hc j hj', List.getElem_set_ne h, List.getD_eq_getElem?_getD, List.getElem?_eq_getElem (by rw [len]; exact hj')]
      rfl)
  rw [hlen] at hb
  exact hb
theorem thaw (w : World) (y : ByteArray) (k : Nat) (hk : k < y.size) : (Lib.bytesWorld w 5 y).frozen? ⟨w.heap.size, k, none⟩ = false := by
  have hs : y.size ≤ (Lib.bytesCells w 5 y).size := by unfold Lib.bytesCells; rw [Array.size_append, Array.size_map]; exact Nat.le_add_right _ _
  unfold World.frozen?
  rw [Lib.bytesWorld_at_new]
  show (decide _ && decide _) = false
  rw [decide_eq_false (by show ¬ _ ≤ k; omega), Bool.false_and]
theorem xored (c : UInt8) (ra : Int) (h0 : 0 ≤ ra) : ∃ c' : UInt8, bits .xor .u8 (c.toNat : Int) (IntKind.u8.wrap (IntKind.i64.wrap (1 + ra.tmod 255))) = (c'.toNat : Int) ∧ c ≠ c' := by
  have e1 : IntKind.u8.wrap (IntKind.i64.wrap (1 + ra.tmod 255)) = 1 + ra % 255 := by
    rw [Int.tmod_eq_emod_of_nonneg h0, IntKind.wrap_i64, IntKind.wrap_u8']
    omega
  have hc : c.toNat < 256 := c.toNat_lt
  rw [e1, u8_xor _ _ (by omega) (by omega) (by omega) (by omega)]
  obtain ⟨d, hd⟩ : ∃ d : Nat, 1 + ra % 255 = (d : Int) := ⟨(1 + ra % 255).toNat, by omega⟩
  rw [hd]
  have hd0 : 0 < d := by omega
  have hd1 : d < 256 := by omega
  have hx : c.toNat ^^^ d < 2 ^ 8 := Nat.xor_lt_two_pow (by omega) (by omega)
  refine ⟨UInt8.ofNat (c.toNat ^^^ d), ?_, ?_⟩
  · rw [UInt8.toNat_ofNat', Nat.mod_eq_of_lt hx]
    simp
  · intro e
    have e2 : c.toNat = c.toNat ^^^ d := by
      have e3 := congrArg UInt8.toNat e
      rw [UInt8.toNat_ofNat', Nat.mod_eq_of_lt hx] at e3
      exact e3
    have e4 : c.toNat ^^^ c.toNat = c.toNat ^^^ (c.toNat ^^^ d) := congrArg (c.toNat ^^^ ·) e2
    rw [Nat.xor_self, ← Nat.xor_assoc, Nat.xor_self, Nat.zero_xor] at e4
    omega
theorem av_size {x y : ByteArray} (h : Seal.av x = some y) : y.size ≤ 4000 ∧ 0 < y.size := by
  unfold Seal.av at h
  split at h
  · rename_i hh
    obtain rfl := Option.some.inj h
    refine ⟨hh.2, ?_⟩
    unfold Seal.sealB
    rw [ByteArray.size_append, ByteArray.size_append, Seal.hash_size]
    omega
  · cases h
set_option maxRecDepth 100000 in
set_option maxHeartbeats 4000000 in
theorem walk (a0 : Option Addr) (len0 cap0 : Nat) (z0 : List Int) (w : World) (w0 : IsRow .u8 w a0 len0 cap0 z0) (hL : laidMetH Tryd.prog Rows.fnStringsRow.laid w) (hsh : World.ShapedOpen Tryd.prog w) :
    Calls Tryd.prog 3 #[.slice a0 len0 cap0] w fun e w' => e = .returned (.bool true) ∧ Below w.heap.size w w' := by
  have hall := all_of hL hsh
  have hbig := vBig_any a0 len0 cap0 w
  clear hL hsh
  by_cases hs : len0 ≤ 65536
  · have hcode := code_of w0 hs
    obtain ⟨r9, hr90, hr91, hr9⟩ := DrawD.vAt_val a0 len0 cap0 9 (by omega) w hcode
    obtain ⟨ra, hra0, hra1, hra⟩ := DrawD.vAt_val a0 len0 cap0 10 (by omega) w hcode
    have HR9 := Lib.hid hr9
    have HRA := Lib.hid hra
    clear w0 hr9 hra
    rw [show decide (65536 < (len0 : Int)) = false by simp; omega] at hbig
    have HBIG := Lib.hid hbig
    clear hbig
    go_enter Tryd.func3, Tryd.ntmps3
    go_wp2_with fail
    refine HBIG.out.mono ?_
    rintro e w' ⟨rfl, rfl⟩
    go_wp2_with fail
    refine (DrawD.drawFormat a0 len0 cap0 _ hcode).mono ?_
    rintro e wa ⟨n, rfl, hn0, hn1, b1⟩
    go_wp2_with fail
    refine (implF n _ (hall.below b1).vars.tab).mono ?_
    rintro e wb ⟨rfl, b2⟩
    have ba := b1.trans (b2.mono b1.size)
    clear b1 b2
    go_wp2_with fail
    refine (specF n _).mono ?_
    rintro e wc ⟨rfl, b3⟩
    have bc := ba.trans (b3.mono ba.size)
    clear ba b3
    go_wp2_with fail
    refine (DrawD.drawParse a0 len0 cap0 _ (hcode.below bc)).mono ?_
    rintro e wd ⟨t, rfl, ht, b4⟩
    have bd := bc.trans (b4.mono bc.size)
    clear bc b4
    go_wp2_with fail
    refine (Parse.impl_any t _ (by omega) (hall.below bd).vars).mono ?_
    rintro e we ⟨rfl, b5⟩
    have be := bd.trans (b5.mono bd.size)
    clear bd b5
    go_wp2_with fail
    refine (Parse.spec_any t _ (by omega)).mono ?_
    rintro e wf ⟨rfl, b6⟩
    have bf := be.trans (b6.mono be.size)
    clear be b6
    generalize Dec.pv t = pt at *
    go_wp2_with fail
    refine (DrawD.drawAppend a0 len0 cap0 _ (hcode.below bf)).mono ?_
    rintro e wg ⟨x, rfl, hx, b7⟩
    have bg := bf.trans (b7.mono bf.size)
    clear bf b7
    go_wp2_with fail
    refine (App.impl_any x _ (by omega) (hall.below bg).vars.tab).mono ?_
    rintro e wh ⟨rfl, b8⟩
    have bh := bg.trans (b8.mono bg.size)
    clear bg b8
    go_wp2_with fail
    refine (App.spec_any x _ (by omega)).mono ?_
    rintro e wi ⟨rfl, b9⟩
    have bi := bh.trans (b9.mono bh.size)
    clear bh b9
    have hfz := fs_size n
    have hfb := fs_back n
    have HFB := Lib.hid hfb
    clear hfb
    go_wp2_with fail
    refine (Parse.impl_any (fs n) _ (by omega) (hall.below bi).vars).mono ?_
    rintro e wj ⟨rfl, b10⟩
    have bj := bi.trans (b10.mono bi.size)
    clear bi b10
    cases hfo : fo n with
    | true =>
      rw [HFB.out hfo]
      cases hav : Seal.av x with
      | none =>
        go_wp2_with fail
        go_ret
        exact ⟨rfl, bj⟩
      | some y =>
        have hvv := Flip.sealed x y hav
        have hfl := Flip.flipped x y
        have hyz := av_size hav
        have HAV := Lib.hid hav
        have HVV := Lib.hid hvv
        clear hav hvv hfl
        go_wp2_with fail
        refine (Ver.impl_any y _ (by omega) (hall.below bj).mem).mono ?_
        rintro e wk ⟨rfl, b11⟩
        rw [HVV.out]
        have bk := bj.trans (b11.mono bj.size)
        clear bj b11
        have kb := fun W : World => Lib.run_convert_string_bytes (P := Tryd.prog) W 9 22 5 y Tryd.underlying9 Tryd.underlying22 Tryd.underlying5
        have hd0 := bk.trans (Joins.below_bytesWorld w.heap.size wk 5 y bk.size)
        have hr9' := HR9.out _ hd0
        have HR := Lib.hid hr9'
        have hyp := hyz.2
        clear hr9'
        go_wp2_with fail
        refine HR.out.mono ?_
        rintro e w' ⟨rfl, rfl⟩
        go_wp2_with fail
        obtain ⟨kk, hkk⟩ := Int.eq_ofNat_of_zero_le (Int.emod_nonneg r9 (b := (y.size : Int)) (by omega))
        have hkl : kk < y.size := by
          have := Int.emod_lt_of_pos r9 (b := (y.size : Int)) (by omega)
          omega
        rw [hkk]
        have HKK := Lib.hid hkk
        have hcell := Lib.bytesWorld_cell wk 5 y kk hkl
        obtain ⟨c, hc⟩ : ∃ c, y.data.toList.getD kk 0 = c := ⟨_, rfl⟩
        rw [hc] at hcell
        obtain ⟨c', hc', hne⟩ := xored c ra hra0
        have HC := Lib.hid hc
        have HC' := Lib.hid hc'
        have hfro := thaw wk y kk hkl
        have hflip := fun c => conv_flip (Lib.bytesWorld wk 5 y) wk.heap.size y (grownCap wk y.size 0 5) kk c hkl (Lib.bytesWorld_cell wk 5 y)
        have hbad := Flip.flipped x y (flip y kk c') HAV.out kk (by rw [len]; exact hkl) c' (by
          intro e
          refine hne (hc.symm.trans ?_)
          rw [List.getD_eq_getElem?_getD, List.getElem?_eq_getElem (by rw [len]; exact hkl)]
          exact e) (flip_list y kk c')
        have HBAD := Lib.hid hbad
        have hfz9 := flip_size y kk c'
        clear hbad
        have hall9 := Lib.hid (Lib.bytesWorld_cell wk 5 y)
        have hsz := Lib.bytesWorld_size wk 5 y
        clear hkk kb HR hc hc'
        generalize Lib.bytesWorld wk 5 y = W at *
        have hra9 := HRA.out { W with drawn := W.drawn + 1 } hd0.drew
        have HRB := Lib.hid hra9
        clear hra9
        refine wp_region_still_tail 13 (by kernel_rfl) (by kernel_rfl) ?_
        simp only [List.take_succ_cons, List.take_zero, List.drop_succ_cons, List.drop_zero]
        repeat still_step
        still_call HRB.out
        repeat still_step
        refine wpStill_nil ?_
        rw [HC'.out]
        go_wp2_with fail
        have bw := hd0.setCell (p := ⟨wk.heap.size, kk, none⟩) bk.size (.int .u8 (c'.toNat : Int))
        refine (Ver.impl_any (flip y kk c') _ (by omega) (hall.below bw.drew).mem).mono ?_
        rintro e wl ⟨rfl, b12⟩
        rw [HBAD.out]
        go_wp2_with fail
        go_ret
        exact ⟨rfl, bw.drew.trans (b12.mono bw.drew.size)⟩
    | false =>
      generalize Dec.pv (fs n) = pq at *
      cases hav : Seal.av x with
      | none =>
        go_wp2_with fail
        go_ret
        exact ⟨rfl, bj⟩
      | some y =>
        have hvv := Flip.sealed x y hav
        have hfl := Flip.flipped x y
        have hyz := av_size hav
        have HAV := Lib.hid hav
        have HVV := Lib.hid hvv
        clear hav hvv hfl
        go_wp2_with fail
        refine (Ver.impl_any y _ (by omega) (hall.below bj).mem).mono ?_
        rintro e wk ⟨rfl, b11⟩
        rw [HVV.out]
        have bk := bj.trans (b11.mono bj.size)
        clear bj b11
        have kb := fun W : World => Lib.run_convert_string_bytes (P := Tryd.prog) W 9 22 5 y Tryd.underlying9 Tryd.underlying22 Tryd.underlying5
        have hd0 := bk.trans (Joins.below_bytesWorld w.heap.size wk 5 y bk.size)
        have hr9' := HR9.out _ hd0
        have HR := Lib.hid hr9'
        have hyp := hyz.2
        clear hr9'
        go_wp2_with fail
        refine HR.out.mono ?_
        rintro e w' ⟨rfl, rfl⟩
        go_wp2_with fail
        obtain ⟨kk, hkk⟩ := Int.eq_ofNat_of_zero_le (Int.emod_nonneg r9 (b := (y.size : Int)) (by omega))
        have hkl : kk < y.size := by
          have := Int.emod_lt_of_pos r9 (b := (y.size : Int)) (by omega)
          omega
        rw [hkk]
        have HKK := Lib.hid hkk
        have hcell := Lib.bytesWorld_cell wk 5 y kk hkl
        obtain ⟨c, hc⟩ : ∃ c, y.data.toList.getD kk 0 = c := ⟨_, rfl⟩
        rw [hc] at hcell
        obtain ⟨c', hc', hne⟩ := xored c ra hra0
        have HC := Lib.hid hc
        have HC' := Lib.hid hc'
        have hfro := thaw wk y kk hkl
        have hflip := fun c => conv_flip (Lib.bytesWorld wk 5 y) wk.heap.size y (grownCap wk y.size 0 5) kk c hkl (Lib.bytesWorld_cell wk 5 y)
        have hbad := Flip.flipped x y (flip y kk c') HAV.out kk (by rw [len]; exact hkl) c' (by
          intro e
          refine hne (hc.symm.trans ?_)
          rw [List.getD_eq_getElem?_getD, List.getElem?_eq_getElem (by rw [len]; exact hkl)]
          exact e) (flip_list y kk c')
        have HBAD := Lib.hid hbad
        have hfz9 := flip_size y kk c'
        clear hbad
        have hall9 := Lib.hid (Lib.bytesWorld_cell wk 5 y)
        have hsz := Lib.bytesWorld_size wk 5 y
        clear hkk kb HR hc hc'
        generalize Lib.bytesWorld wk 5 y = W at *
        have hra9 := HRA.out { W with drawn := W.drawn + 1 } hd0.drew
        have HRB := Lib.hid hra9
        clear hra9
        refine wp_region_still_tail 13 (by kernel_rfl) (by kernel_rfl) ?_
        simp only [List.take_succ_cons, List.take_zero, List.drop_succ_cons, List.drop_zero]
        repeat still_step
        still_call HRB.out
        repeat still_step
        refine wpStill_nil ?_
        rw [HC'.out]
        go_wp2_with fail
        have bw := hd0.setCell (p := ⟨wk.heap.size, kk, none⟩) bk.size (.int .u8 (c'.toNat : Int))
        refine (Ver.impl_any (flip y kk c') _ (by omega) (hall.below bw.drew).mem).mono ?_
        rintro e wl ⟨rfl, b12⟩
        rw [HBAD.out]
        go_wp2_with fail
        go_ret
        exact ⟨rfl, bw.drew.trans (b12.mono bw.drew.size)⟩
  · rw [show decide (65536 < (len0 : Int)) = true by simp; omega] at hbig
    have HBIG := Lib.hid hbig
    clear hbig
    go_enter Tryd.func3, Tryd.ntmps3
    go_wp2_with fail
    refine HBIG.out.mono ?_
    rintro e w' ⟨rfl, rfl⟩
    go_wp2_with fail
    go_ret
    exact ⟨rfl, Below.refl _ _⟩
end Go.Proofs.YtkoickdndjfnhaaDoor.StrWalk
