/- FormatRecord: WriteByte of a builder, the text of a record, and both sides. -/
import Derived.Test.YtaikphcemldikaaDoorRecL
import Derived.Test.YtaikphcemldikaaDoorAvr
import Derived.Test.YtaikphcemldikaaDoorBuild
import Derived.Lib.FrozenHead2
namespace Go.Proofs.YtaikphcemldikaaDoor.TextR
open Go.RowKit Pairs Rec Find2 GoodM RelM Keep Idx Lines Words ListS ListI Build RecL

theorem alloc_at {w : World} {b : Nat} {o x : Obj} (h : w.heap[b]? = some x) : (w.alloc o).heap[b]? = some x := by
  have hl := (Array.getElem?_eq_some_iff.1 h).1
  exact ((below_alloc w o).block b hl).trans h
set_option maxRecDepth 100000 in
set_option maxHeartbeats 1000000 in
theorem byte_any (B b : Nat) (bs : List Value) (w : World) (h : IsB B b bs w) (hlen : bs.length + 1 ≤ 1000000) (hBw : B ≤ w.heap.size) :
    Calls Tryd.prog 50 #[.pointer (some ⟨b, 0, none⟩), .int .u8 10] w fun e w' => e = .returned .nilIface ∧ AtB B b (.pointer (some ⟨b, 0, none⟩)) (bs ++ [.int .u8 10]) w' ∧ Below B w w' := by
  obtain ⟨i0, hi, hz0, hz1, hz2⟩ := info_parts infoB
  have HC := Lib.hid (check_any B b bs w h)
  clear h
  go_enter Tryd.func50, Tryd.ntmps50
  go_wp2_with fail
  refine HC.out.mono ?_
  rintro e w1 ⟨rfl, ⟨hB, v, hbk, hown, hne⟩, hb1⟩
  have c1 : w1.cell? ⟨b, 1, none⟩ = some v := by simp [World.cell?, hbk]
  have HB := Lib.hid (alloc_at (o := .cells #[.int .u8 10] 5) hbk)
  have HO := Lib.hid hown
  have H1 := Lib.hid hb1
  have hs1 : B ≤ w1.heap.size := Nat.le_trans hBw hb1.size
  clear hbk hown hb1
  go_wp2_with (at_builtin; refine wpList_append_ownF _ rfl _ _ 76 rfl B 5 i0 (.int .u8 0) 1 1 Tryd.underlying76 hi hz0 hz1 hz2 rfl (by decide) _ _ _ rfl (HO.out.alloc _) ⟨w1.heap.size, 0, none⟩ 1 1 [.int .u8 10] rfl rfl (cell_one_new _ _ _) (by simp [Value.oneCell']) (by unfold maxLen; omega) (by omega) (by simp; omega) ?_; intro v' w2 hown' hgrow hq; obtain ⟨ao, nn, cap, rfl⟩ := sl_of hown'; have hb2 : w2.heap[b]? = some (.cells #[.pointer (some ⟨b, 0, none⟩), v] 78) := (hgrow.block b (Array.getElem?_eq_some_iff.1 HB.out).1 (fun e => hne e.symm)).trans HB.out; have d1 : w2.cell? ⟨b, 1, none⟩ = some v := (by simp [World.cell?, hb2]); have f1 : w2.frozen? ⟨b, 1, none⟩ = false := (by simp only [World.frozen?, hb2]; rfl); have HB2 := Lib.hid hb2; have HO2 := Lib.hid hown'; have HG2 := Lib.hid hgrow; clear hb2 hown' hgrow hq)
  go_ret
  refine ⟨rfl, ?_, ?_⟩
  · exact Lib.BuilderAtF.put (T := 78) (e := 5) hB HB2.out (bs' := bs ++ [.int .u8 10]) (by simpa using HO2.out) (by decide)
  · exact ((H1.out.alloc hs1 _).grown HG2.out (by simp; omega) (fun k hk => (HO.out.lt k hk).1)).setCell (p := ⟨b, 1, none⟩) hB _
def nlB : ByteArray := ⟨#[10]⟩
def tC (l : List (Int × Int)) : Nat → ByteArray
  | 0 => ⟨#[]⟩
  | k + 1 => tC l k ++ lineC (l.getD k (0, 0)) ++ nlB
def tR (s : ByteArray) (m : List (Int × Int)) : Nat → ByteArray
  | 0 => s
  | k + 1 => tR s m k ++ lineR (m.getD k (0, 0)) ++ nlB
def fmtR (l m : List (Int × Int)) : ByteArray × Bool := if good l m = true then (tR (tC l l.length) m m.length, true) else (⟨#[]⟩, false)
theorem fmt_bad {l m : List (Int × Int)} (h : good l m = false) : fmtR l m = (⟨#[]⟩, false) := by unfold fmtR; rw [if_neg (by rw [h]; simp)]
theorem fmt_good {l m : List (Int × Int)} (h : good l m = true) : fmtR l m = (tR (tC l l.length) m m.length, true) := by unfold fmtR; rw [if_pos h]
theorem tC_next {l : List (Int × Int)} {k : Nat} {p : Int × Int} (h : l[k]? = some p) : tC l (k + 1) = tC l k ++ lineC p ++ nlB := by
  show tC l k ++ lineC (l.getD k (0, 0)) ++ nlB = _
  rw [List.getD_eq_getElem?_getD, h]
  rfl
theorem tR_next {s : ByteArray} {l : List (Int × Int)} {k : Nat} {p : Int × Int} (h : l[k]? = some p) : tR s l (k + 1) = tR s l k ++ lineR p ++ nlB := by
  show tR s l k ++ lineR (l.getD k (0, 0)) ++ nlB = _
  rw [List.getD_eq_getElem?_getD, h]
  rfl
theorem tC_size {l m : List (Int × Int)} (hg : good l m = true) : ∀ k, k ≤ l.length → (tC l k).size ≤ k * 41
  | 0, _ => Nat.le_refl _
  | k + 1, hk => by
    obtain ⟨p, hp⟩ : ∃ p, l[k]? = some p := ⟨l[k], List.getElem?_eq_getElem hk⟩
    have h1 := lineC_size (p := p) (inR_of (numK hg (x := p.1) (y := p.2) hp).1)
    have h2 := tC_size hg k (by omega)
    have h3 : nlB.size = 1 := rfl
    rw [tC_next hp, ByteArray.size_append, ByteArray.size_append]
    omega
theorem tR_size {l m : List (Int × Int)} (hg : good l m = true) (s : ByteArray) : ∀ k, k ≤ m.length → (tR s m k).size ≤ s.size + k * 51
  | 0, _ => Nat.le_refl _
  | k + 1, hk => by
    obtain ⟨p, hp⟩ : ∃ p, m[k]? = some p := ⟨m[k], List.getElem?_eq_getElem hk⟩
    have hr := rels hg (x := p.1) (y := p.2) hp
    have h1 := lineR_size (p := p) (inR_of hr.1) (inR_of hr.2)
    have h2 := tR_size hg s k (by omega)
    have h3 : nlB.size = 1 := rfl
    rw [tR_next hp, ByteArray.size_append, ByteArray.size_append]
    omega
theorem nl_cells : Lib.strCells nlB = [.int .u8 10] := rfl
set_option maxRecDepth 100000 in
set_option maxHeartbeats 4000000 in
theorem text_any (a1 a2 : Option Addr) (n1 c1 n2 c2 : Nat) (l m : List (Int × Int)) (w : World) (hg : good l m = true) (h1 : Holds w a1 n1 l) (h2 : Holds w a2 n2 m) :
    Calls Tryd.prog 47 #[.agg #[.slice a1 n1 c1, .slice a2 n2 c2]] w fun e w' => e = .returned (.string (tR (tC l l.length) m m.length)) ∧ Below w.heap.size w w' := by
  have hb := below_alloc w (.cells #[.slice a1 n1 c1, .slice a2 n2 c2] 39)
  have hf := box_first w (.slice a1 n1 c1) (.slice a2 n2 c2) 39
  have hf2 := box_second w (.slice a1 n1 c1) (.slice a2 n2 c2) 39
  have hsz : w.heap.size < (w.alloc (.cells #[.slice a1 n1 c1, .slice a2 n2 c2] 39)).heap.size := by simp
  have h1' := h1.below hb
  have h2' := h2.below hb
  have HG := Lib.hid hg
  have hn1 : n1 ≤ 10 := by rw [← h1.1]; exact (good_few hg).1
  have hn2 : n2 ≤ 24 := by rw [← h2.1]; exact (good_few hg).2
  have hL1 : l.length = n1 := h1.1
  have hL2 : m.length = n2 := h2.1
  have HL1 := Lib.hid hL1
  have HL2 := Lib.hid hL2
  rw [hL1, hL2]
  clear h1 h2 hg
  go_enter Tryd.func47, Tryd.ntmps47
  go_wp2_with fail
  generalize w.alloc (.cells #[.slice a1 n1 c1, .slice a2 n2 c2] 39) = W at *
  have HM3 : Hid (∀ wr, Below W.heap.size W wr → Holds wr a1 n1 l ∧ Holds wr a2 n2 m ∧ wr.cell? ⟨w.heap.size, 0, none⟩ = some (.slice a1 n1 c1) ∧ wr.cell? ⟨w.heap.size, 1, none⟩ = some (.slice a2 n2 c2)) := fun wr hwr => ⟨h1'.below hwr, h2'.below hwr, (hwr.cell (p := ⟨w.heap.size, 0, none⟩) hsz).trans hf, (hwr.cell (p := ⟨w.heap.size, 1, none⟩) hsz).trans hf2⟩
  have HB0 := Lib.hid hb
  clear hf hf2 h1' h2' hb hL1 hL2
  go_loopw [3, 4] (fun s3 s4 wr => ∃ k : Nat, k ≤ n1 ∧ s4 = .int .i64 k ∧ s3 = .string (tC l k) ∧ Below W.heap.size W wr) (fun _ s4 _ => n1 - (intOf s4).toNat)
  case atStart => exact ⟨0, Nat.zero_le _, rfl, rfl, Below.refl _ _⟩
  case round =>
    obtain ⟨k, hk, rfl, rfl, hbr⟩ := hrel
    obtain ⟨H1, H2, q1, q2⟩ := HM3.out wr hbr
    have HBR := Lib.hid hbr
    clear hbr
    by_cases hlt : k < n1
    · have hkn : (k : Int) < (n1 : Int) := by omega
      have hk00 : (0 : Int) ≤ (k : Int) := by omega
      obtain ⟨b, off, x, y, rfl, hx, e1, e2⟩ := H1.at k hlt
      have hRk := numK HG.out hx
      have HCX := Lib.hid (fun W => ctx_spec x y W (inR_of hRk.1) hRk.2)
      have hls := lineC_size (p := (x, y)) (inR_of hRk.1)
      have hts := tC_size HG.out k (by rw [HL1.out]; exact hk)
      have HT := Lib.hid (tC_next hx)
      generalize lineC (x, y) = ln at *
      generalize tC l k = t at *
      have hadd1 := fun W : World => run_string_add_sum (P := Tryd.prog) W t ln (by omega)
      have hadd2 := fun W : World => run_string_add_sum (P := Tryd.prog) W (t ++ ln) ⟨#[10]⟩ (by rw [ByteArray.size_append]; show _ + _ + 1 ≤ _; omega)
      clear hx hRk
      go_wp2_with (go_at_call 34; refine (HCX.out _).mono ?_; rintro e w' ⟨rfl, b1⟩)
      exact ⟨⟨k + 1, by omega, by go_num, by rw [HT.out]; rfl, HBR.out.trans (b1.mono HBR.out.size)⟩, by simp [intOf]; omega⟩
    · obtain rfl : k = n1 := by omega
      have hkn : ¬ (k : Int) < (k : Int) := by omega
      have hts := tC_size HG.out k (by rw [HL1.out]; omega)
      generalize hTC : tC l k = t at *
      have HTC := Lib.hid hTC
      clear hTC
      go_wp2_with fail
      go_loopw [3, 5] (fun s3 s5 wr => ∃ j : Nat, j ≤ n2 ∧ s5 = .int .i64 j ∧ s3 = .string (tR t m j) ∧ Below W.heap.size W wr) (fun _ s5 _ => n2 - (intOf s5).toNat)
      case atStart => exact ⟨0, Nat.zero_le _, rfl, rfl, HBR.out⟩
      case round =>
        obtain ⟨j, hj, rfl, rfl, hbr⟩ := hrel
        clear q1 q2 H1 H2
        rename_i wr2
        obtain ⟨H1, H2, q1, q2⟩ := HM3.out _ hbr
        have HBS := Lib.hid hbr
        clear hbr
        by_cases hlt : j < n2
        · have hkn : (j : Int) < (n2 : Int) := by omega
          have hk00 : (0 : Int) ≤ (j : Int) := by omega
          obtain ⟨b, off, x, y, rfl, hx, e1, e2⟩ := H2.at j hlt
          have hRk := rels HG.out hx
          have HCX := Lib.hid (fun W => rel_spec x y W (inR_of hRk.1) (inR_of hRk.2))
          have hls := lineR_size (p := (x, y)) (inR_of hRk.1) (inR_of hRk.2)
          have hts2 := tR_size HG.out t j (by rw [HL2.out]; exact hj)
          have HT := Lib.hid (tR_next (s := t) hx)
          generalize lineR (x, y) = ln at *
          generalize tR t m j = u at *
          have hadd1 := fun W : World => run_string_add_sum (P := Tryd.prog) W u ln (by omega)
          have hadd2 := fun W : World => run_string_add_sum (P := Tryd.prog) W (u ++ ln) ⟨#[10]⟩ (by rw [ByteArray.size_append]; show _ + _ + 1 ≤ _; omega)
          clear hx hRk
          go_wp2_with (go_at_call 35; refine (HCX.out _).mono ?_; rintro e w' ⟨rfl, b1⟩)
          exact ⟨⟨j + 1, by omega, by go_num, by rw [HT.out]; rfl, HBS.out.trans (b1.mono HBS.out.size)⟩, by simp [intOf]; omega⟩
        · obtain rfl : j = n2 := by omega
          have hkn : ¬ (j : Int) < (j : Int) := by omega
          go_wp2_with fail
          go_ret
          exact ⟨by rw [HTC.out]; rfl, HB0.out.trans (HBS.out.mono HB0.out.size)⟩
set_option maxRecDepth 100000 in
set_option maxHeartbeats 4000000 in
theorem spec_any (a1 a2 : Option Addr) (n1 c1 n2 c2 : Nat) (l m : List (Int × Int)) (w : World) (_ : n1 ≤ 1048576) (_ : n2 ≤ 1048576) (h1 : Holds w a1 n1 l) (h2 : Holds w a2 n2 m) :
    Calls Tryd.prog 21 #[.agg #[.slice a1 n1 c1, .slice a2 n2 c2]] w fun e w' => e = .returned (.tuple #[.string (fmtR l m).1, .bool (fmtR l m).2]) ∧ Below w.heap.size w w' := by
  have hb := below_alloc w (.cells #[.slice a1 n1 c1, .slice a2 n2 c2] 39)
  have hf := box_first w (.slice a1 n1 c1) (.slice a2 n2 c2) 39
  have hf2 := box_second w (.slice a1 n1 c1) (.slice a2 n2 c2) 39
  have hsz : w.heap.size < (w.alloc (.cells #[.slice a1 n1 c1, .slice a2 n2 c2] 39)).heap.size := by simp
  have H1 := Lib.hid (h1.below hb)
  have H2 := Lib.hid (h2.below hb)
  clear h1 h2
  go_enter Tryd.func21, Tryd.ntmps21
  go_wp2_with fail
  generalize w.alloc (.cells #[.slice a1 n1 c1, .slice a2 n2 c2] 39) = W at *
  refine (Good2.l2Good_any a1 a2 n1 c1 n2 c2 l m W H1.out H2.out).mono ?_
  rintro e w1 ⟨rfl, b1⟩
  have r1 := (b1.cell (p := ⟨w.heap.size, 0, none⟩) hsz).trans hf
  have r2 := (b1.cell (p := ⟨w.heap.size, 1, none⟩) hsz).trans hf2
  have hb1 := hb.trans (b1.mono hb.size)
  cases hg : good l m with
  | false =>
    have HF := Lib.hid (fmt_bad hg)
    clear hg
    go_wp2_with fail
    go_ret2
    exact ⟨by rw [HF.out]; rfl, hb1⟩
  | true =>
    have HF := Lib.hid (fmt_good hg)
    have HG := Lib.hid hg
    clear hg
    go_wp2_with fail
    refine (text_any a1 a2 n1 c1 n2 c2 l m w1 HG.out (H1.out.below b1) (H2.out.below b1)).mono ?_
    rintro e w2 ⟨rfl, b2⟩
    have HB2 := Lib.hid (hb1.trans (b2.mono hb1.size))
    generalize hT : tR (tC l l.length) m m.length = t
    have HT := Lib.hid hT
    clear hT
    go_wp2_with fail
    go_ret2
    exact ⟨by rw [HF.out, HT.out]; rfl, HB2.out⟩
set_option maxRecDepth 100000 in
set_option maxHeartbeats 4000000 in
theorem impl_any (a1 a2 : Option Addr) (n1 c1 n2 c2 : Nat) (l m : List (Int × Int)) (w : World) (hz1 : n1 ≤ 1048576) (hz2 : n2 ≤ 1048576) (h1 : Holds w a1 n1 l) (h2 : Holds w a2 n2 m) (hv : Vars w) :
    Calls Tryd.prog 22 #[.agg #[.slice a1 n1 c1, .slice a2 n2 c2]] w fun e w' => e = .returned (.tuple #[.string (fmtR l m).1, .bool (fmtR l m).2]) ∧ Below w.heap.size w w' := by
  have hb := below_alloc w (.cells #[.slice a1 n1 c1, .slice a2 n2 c2] 39)
  have hf := box_first w (.slice a1 n1 c1) (.slice a2 n2 c2) 39
  have hf2 := box_second w (.slice a1 n1 c1) (.slice a2 n2 c2) 39
  have hsz : w.heap.size < (w.alloc (.cells #[.slice a1 n1 c1, .slice a2 n2 c2] 39)).heap.size := by simp
  have H1 := Lib.hid (h1.below hb)
  have H2 := Lib.hid (h2.below hb)
  have HVV := Lib.hid (hv.below hb)
  clear h1 h2 hv
  go_enter Tryd.func22, Tryd.ntmps22
  go_wp2_with fail
  generalize w.alloc (.cells #[.slice a1 n1 c1, .slice a2 n2 c2] 39) = W at *
  refine (Avr.impl_any a1 a2 n1 c1 n2 c2 l m W hz1 hz2 H1.out H2.out).mono ?_
  rintro e w1 ⟨rfl, b1⟩
  have hb1 := hb.trans (b1.mono hb.size)
  cases hg : good l m with
  | false =>
    have HF := Lib.hid (fmt_bad hg)
    clear hg
    go_wp2_with fail
    go_ret2
    exact ⟨by rw [HF.out]; rfl, hb1⟩
  | true =>
    have hn1 : n1 ≤ 10 := by rw [← H1.out.1]; exact (good_few hg).1
    have hn2 : n2 ≤ 24 := by rw [← H2.out.1]; exact (good_few hg).2
    have HL1 : Hid (l.length = n1) := H1.out.1
    have HL2 : Hid (m.length = n2) := H2.out.1
    have hff := fmt_good hg
    rw [HL1.out, HL2.out] at hff
    have HF := Lib.hid hff
    have HG := Lib.hid hg
    have hsz1 : w.heap.size < w1.heap.size := Nat.lt_of_lt_of_le hsz b1.size
    have f1 := (b1.cell (p := ⟨w.heap.size, 0, none⟩) hsz).trans hf
    have f2 := (b1.cell (p := ⟨w.heap.size, 1, none⟩) hsz).trans hf2
    have HK1 := Lib.hid (H1.out.below b1)
    have HK2 := Lib.hid (H2.out.below b1)
    have HKV := Lib.hid (HVV.out.below b1)
    have HM3 : Hid (∀ wr, Below w1.heap.size w1 wr → (Holds wr a1 n1 l ∧ Holds wr a2 n2 m ∧ Vars wr) ∧ wr.cell? ⟨w.heap.size, 0, none⟩ = some (.slice a1 n1 c1) ∧ wr.cell? ⟨w.heap.size, 1, none⟩ = some (.slice a2 n2 c2)) := fun wr hwr => ⟨⟨HK1.out.below hwr, HK2.out.below hwr, HKV.out.below hwr⟩, (hwr.cell (p := ⟨w.heap.size, 0, none⟩) hsz1).trans f1, (hwr.cell (p := ⟨w.heap.size, 1, none⟩) hsz1).trans f2⟩
    have hW : Below w1.heap.size w1 (w1.alloc (.cells #[.pointer none, .slice none 0 0] 78)) := (Below.refl w1.heap.size w1).alloc (Nat.le_refl _) _
    have hB0 : IsB w1.heap.size w1.heap.size (Lib.strCells (tC l 0)) (w1.alloc (.cells #[.pointer none, .slice none 0 0] 78)) :=
      .inl ⟨Nat.le_refl _, .slice none 0 0, heap_alloc_new w1 _, World.ownsRowF_nil _ _ _ _, by simp [Value.ownBlock]⟩
    have q1 := (HM3.out _ hW).2.1
    have HW := Lib.hid hW
    have HIB0 := Lib.hid hB0
    have HBB := Lib.hid hb1
    clear hg hff hf hf2 b1 f1 f2 hW hB0 hb1
    go_wp2_with fail
    go_loopw [15] (fun s15 wr => ∃ k : Nat, k ≤ n1 ∧ s15 = .int .i64 k ∧ IsB w1.heap.size w1.heap.size (Lib.strCells (tC l k)) wr ∧ Below w1.heap.size w1 wr) (fun s15 _ => n1 - (intOf s15).toNat)
    case atStart => exact ⟨0, Nat.zero_le _, rfl, HIB0.out, HW.out⟩
    case round =>
      obtain ⟨k, hk, rfl, hIB, hbr⟩ := hrel
      clear q1
      have HIB := Lib.hid hIB
      have HBR := Lib.hid hbr
      clear hIB hbr HIB0 HW
      by_cases hlt : k < n1
      · have hkn : (k : Int) < (n1 : Int) := by omega
        have hk00 : (0 : Int) ≤ (k : Int) := by omega
        obtain ⟨⟨G1, _, GV⟩, _, _⟩ := HM3.out _ HBR.out
        obtain ⟨b, off, x, y, rfl, hx, e1, e2⟩ := G1.at k hlt
        have hRk := numK HG.out hx
        have HCX := Lib.hid (fun W (hv : Vars W) => ctx_impl x y W (inR_of hRk.1) hRk.2 hv)
        have hls := lineC_size (p := (x, y)) (inR_of hRk.1)
        have hts := tC_size HG.out k (by rw [HL1.out]; exact hk)
        have HT := Lib.hid (tC_next hx)
        generalize lineC (x, y) = ln at *
        have hl1 : (Lib.strCells (tC l k)).length ≤ 500 := by rw [Lib.strCells_length]; omega
        have hl2 : (Lib.strCells (tC l k) ++ Lib.strCells ln).length ≤ 600 := by rw [List.length_append, Lib.strCells_length ln]; omega
        have u1 := box_first wr (.int .i64 x) (.int .i64 y) 61
        have u2 := box_second wr (.int .i64 x) (.int .i64 y) 61
        have HB7 := Lib.hid (below_alloc wr (.cells #[.int .i64 x, .int .i64 y] 61))
        have HGV := Lib.hid GV
        clear hx hRk G1 GV hts
        go_wp2_with fail
        generalize wr.alloc (.cells #[.int .i64 x, .int .i64 y] 61) = W7 at *
        refine (HCX.out W7 (HGV.out.below HB7.out)).mono ?_
        rintro e w8 ⟨rfl, b8⟩
        have HB8 := Lib.hid (HB7.out.trans (b8.mono HB7.out.size))
        clear b8 u1 u2 e1 e2
        go_wp2_with fail
        refine (write_any w1.heap.size w1.heap.size _ ln _ (isB_below HIB.out HB8.out) (by omega) (Nat.le_trans HBR.out.size HB8.out.size)).mono ?_
        rintro e w9 ⟨rfl, hA9, hb9⟩
        have HA9 := Lib.hid hA9
        have HB9 := Lib.hid ((HBR.out.trans (HB8.out.mono HBR.out.size)).trans hb9)
        clear hA9 hb9
        go_wp2_with fail
        refine (byte_any w1.heap.size w1.heap.size _ _ (.inr HA9.out) (by omega) HB9.out.size).mono ?_
        rintro e w10 ⟨rfl, hA10, hb10⟩
        have HA10 := Lib.hid hA10
        have HB10 := Lib.hid (HB9.out.trans hb10)
        clear hA10 hb10
        go_wp2_with fail
        refine ⟨⟨k + 1, by omega, by go_num, ?_, HB10.out⟩, by simp [intOf]; omega⟩
        have hA := HA10.out
        rw [← nl_cells, cells_app, cells_app] at hA
        rw [HT.out]
        exact .inr hA
      · obtain rfl : k = n1 := by omega
        have hkn : ¬ (k : Int) < (k : Int) := by omega
        obtain ⟨_, _, q2⟩ := HM3.out _ HBR.out
        have hts := tC_size HG.out k (by rw [HL1.out]; omega)
        generalize hTC : tC l k = t at *
        have HTC := Lib.hid hTC
        clear hTC
        go_wp2_with fail
        go_loopw [27] (fun s27 wr => ∃ j : Nat, j ≤ n2 ∧ s27 = .int .i64 j ∧ IsB w1.heap.size w1.heap.size (Lib.strCells (tR t m j)) wr ∧ Below w1.heap.size w1 wr) (fun s27 _ => n2 - (intOf s27).toNat)
        case atStart => exact ⟨0, Nat.zero_le _, rfl, HIB.out, HBR.out⟩
        case round =>
          obtain ⟨j, hj, rfl, hIB, hbr⟩ := hrel
          clear q2 HIB HBR
          have HIB := Lib.hid hIB
          have HBR := Lib.hid hbr
          clear hIB hbr
          by_cases hlt : j < n2
          · have hkn : (j : Int) < (n2 : Int) := by omega
            have hk00 : (0 : Int) ≤ (j : Int) := by omega
            obtain ⟨⟨_, G2, GV⟩, _, _⟩ := HM3.out _ HBR.out
            obtain ⟨b, off, x, y, rfl, hx, e1, e2⟩ := G2.at j hlt
            have hRk := rels HG.out hx
            have HCX := Lib.hid (fun W (hv : Tab W) => rel_impl x y W (inR_of hRk.1) (inR_of hRk.2) hv)
            have hls := lineR_size (p := (x, y)) (inR_of hRk.1) (inR_of hRk.2)
            have hts2 := tR_size HG.out t j (by rw [HL2.out]; exact hj)
            have HT := Lib.hid (tR_next (s := t) hx)
            generalize lineR (x, y) = ln at *
            have hl1 : (Lib.strCells (tR t m j)).length ≤ 2000 := by rw [Lib.strCells_length]; omega
            have hl2 : (Lib.strCells (tR t m j) ++ Lib.strCells ln).length ≤ 2100 := by rw [List.length_append, Lib.strCells_length ln]; omega
            have u1 := box_first wr (.int .i64 x) (.int .i64 y) 63
            have u2 := box_second wr (.int .i64 x) (.int .i64 y) 63
            have HB7 := Lib.hid (below_alloc wr (.cells #[.int .i64 x, .int .i64 y] 63))
            have HGV := Lib.hid GV
            clear hx hRk G2 GV hts2
            go_wp2_with fail
            generalize wr.alloc (.cells #[.int .i64 x, .int .i64 y] 63) = W7 at *
            refine (HCX.out W7 (HGV.out.below HB7.out).1).mono ?_
            rintro e w8 ⟨rfl, b8⟩
            have HB8 := Lib.hid (HB7.out.trans (b8.mono HB7.out.size))
            clear b8 u1 u2 e1 e2
            go_wp2_with fail
            refine (write_any w1.heap.size w1.heap.size _ ln _ (isB_below HIB.out HB8.out) (by omega) (Nat.le_trans HBR.out.size HB8.out.size)).mono ?_
            rintro e w9 ⟨rfl, hA9, hb9⟩
            have HA9 := Lib.hid hA9
            have HB9 := Lib.hid ((HBR.out.trans (HB8.out.mono HBR.out.size)).trans hb9)
            clear hA9 hb9
            go_wp2_with fail
            refine (byte_any w1.heap.size w1.heap.size _ _ (.inr HA9.out) (by omega) HB9.out.size).mono ?_
            rintro e w10 ⟨rfl, hA10, hb10⟩
            have HA10 := Lib.hid hA10
            have HB10 := Lib.hid (HB9.out.trans hb10)
            clear hA10 hb10
            go_wp2_with fail
            refine ⟨⟨j + 1, by omega, by go_num, ?_, HB10.out⟩, by simp [intOf]; omega⟩
            have hA := HA10.out
            rw [← nl_cells, cells_app, cells_app] at hA
            rw [HT.out]
            exact .inr hA
          · obtain rfl : j = n2 := by omega
            have hkn : ¬ (j : Int) < (j : Int) := by omega
            go_wp2_with fail
            refine (str_any w1.heap.size w1.heap.size (tR t m j) _ HIB.out HBR.out.size).mono ?_
            rintro e w11 ⟨rfl, hb11⟩
            have HB11 := Lib.hid (HBB.out.trans ((HBR.out.trans hb11).mono HBB.out.size))
            clear hb11
            generalize hT : tR t m j = tt at *
            have HT := Lib.hid hT
            clear hT
            go_wp2_with fail
            go_ret2
            exact ⟨by rw [HF.out]; rfl, HB11.out⟩
end Go.Proofs.YtaikphcemldikaaDoor.TextR
