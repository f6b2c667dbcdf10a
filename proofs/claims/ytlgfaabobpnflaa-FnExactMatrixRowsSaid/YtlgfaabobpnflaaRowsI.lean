/- The program's MatrixRows. -/
import Derived.Test.YtlgfaabobpnflaaDepI
import Derived.Test.YtlgfaabobpnflaaRowsM
import Derived.Test.YtlgfaabobpnflaaRowsW
import Derived.Test.YtlgfaabobpnflaaFuncI
import Derived.Deep.AppendLies
namespace Go.Proofs.Ytlgfaabobpnflaa.RowsI
open Go.RowKit Go.Maps Pairs Rec Chain Find2 GoodM Keep GivesI Lows Queue From MapStep Order Idx IsLater OrdM DepM NumMap DepI LinkM RedM RowsM That RowsW
theorem infoSlice : (Try.prog.info? 27).map (fun i => (i.zero, i.size, i.bytes)) = some (some (.slice none 0 0), 1, 24) := by kernel_rfl
theorem ob_ne {a b n c : Nat} (h : a ≠ b) : (Value.slice (some ⟨a, 0, none⟩) n c).ownBlock ≠ some b := fun e => h (by simpa [Value.ownBlock] using e)
/-- MatrixRows$1: depths[n] == len(rows). -/
theorem clos_any (x : Int) (bd br g n N : Nat) (p : Option Addr) (c : Nat) (f : Int → Int) (W : World) (hc : W.cell? ⟨bd, 0, none⟩ = some (.map (some g))) (hr : W.cell? ⟨br, 0, none⟩ = some (.slice p n c)) (h : NumAt W g N f) (hx : 1 ≤ x ∧ x ≤ 999) :
    Calls Try.prog 95 #[.int .i64 x, .pointer (some ⟨bd, 0, none⟩), .pointer (some ⟨br, 0, none⟩)] W fun e w' => e = .returned (.bool (f x == (n : Int))) ∧ Below W.heap.size W w' := by
  have k1 := num_look h (x := x) (by omega)
  clear h
  go_enter Try.func95, Try.ntmps95
  go_wp2_with fail
  go_ret
  exact ⟨rfl, Below.refl _ _⟩
set_option maxRecDepth 100000 in
set_option maxHeartbeats 8000000 in
theorem impl_any : SS.Gives 37 rowsP := by
  intro a1 a2 n1 n2 l m w hz1 hz2 h1 h2
  obtain ⟨i0, hi, hy0, hy1, hy2⟩ := info_parts infoSlice
  have hb := below_alloc w (.cells #[.slice a1 n1 n1, .slice a2 n2 n2] 33)
  have hf := box_first w (.slice a1 n1 n1) (.slice a2 n2 n2) 33
  have hf2 := box_second w (.slice a1 n1 n1) (.slice a2 n2 n2) 33
  have H1 := Lib.hid (h1.below hb)
  have H2 := Lib.hid (h2.below hb)
  have HL1 := Lib.hid h1.1
  have HB := Lib.hid hb
  clear h1 h2 hb
  go_enter Try.func37, Try.ntmps37
  go_wp2_with fail
  generalize hWg : w.alloc (.cells #[.slice a1 n1 n1, .slice a2 n2 n2] 33) = W at *
  have hWs : W.heap.size = w.heap.size + 1 := by rw [← hWg]; simp
  clear hWg
  have hE := That.empty_own (T := 27) W
  have hb1 := below_alloc W (.cells #[] 27)
  have hb2 := hb1.trans ((below_alloc (W.alloc (.cells #[] 27)) (.cells #[.slice (some ⟨w.heap.size + 1, 0, none⟩) 0 0] 49)).mono hb1.size)
  have hDs : ((W.alloc (.cells #[] 27)).alloc (.cells #[.slice (some ⟨w.heap.size + 1, 0, none⟩) 0 0] 49)).heap.size = w.heap.size + 3 := by simp [hWs]
  have hbox : ((W.alloc (.cells #[] 27)).alloc (.cells #[.slice (some ⟨w.heap.size + 1, 0, none⟩) 0 0] 49)).heap[w.heap.size + 1 + 1]? = some (.cells #[.slice (some ⟨w.heap.size + 1, 0, none⟩) 0 0] 49) := by
    have h := heap_alloc_new (W.alloc (.cells #[] 27)) (.cells #[.slice (some ⟨w.heap.size + 1, 0, none⟩) 0 0] 49)
    have e : (W.alloc (.cells #[] 27)).heap.size = w.heap.size + 1 + 1 := by simp [hWs]
    rw [e] at h
    exact h
  have hown : ((W.alloc (.cells #[] 27)).alloc (.cells #[.slice (some ⟨w.heap.size + 1, 0, none⟩) 0 0] 49)).ownsRow (w.heap.size + 1) 27 1 (.slice (some ⟨w.heap.size + 1, 0, none⟩) 0 0) 0 [] := by
    rw [hWs] at hE
    exact hE.alloc _
  have K1 := Lib.hid (H1.out.below hb2)
  have K2 := Lib.hid (H2.out.below hb2)
  have HB2 := Lib.hid hb2
  have HBOX := Lib.hid hbox
  have HOWN := Lib.hid hown
  clear hE hb1 hb2 hbox hown
  generalize (W.alloc (.cells #[] 27)).alloc (.cells #[.slice (some ⟨w.heap.size + 1, 0, none⟩) 0 0] 49) = D at *
  refine (depthsOf_any a1 a2 n1 n2 l m D hz1 hz2 K1.out K2.out).mono ?_
  rintro e w1 ⟨g, N, rfl, hnum, hgl, b1⟩
  have ha := below_alloc w1 (.cells #[.map (some g)] 96)
  have b2 := b1.trans (ha.mono b1.size)
  have q3 : (w1.alloc (.cells #[.map (some g)] 96)).cell? ⟨w1.heap.size, 0, none⟩ = some (.map (some g)) := by rw [World.cell?_alloc_mark]; rfl
  have HN : Hid (ok5 l m = true → NumAt (w1.alloc (.cells #[.map (some g)] 96)) g N (depth l m)) := fun h => (hnum h).below ha
  have hs1 := b1.size
  have HBB := Lib.hid (HB2.out.trans (b2.mono HB2.out.size))
  have hbx := (b2.block (w.heap.size + 1 + 1) (by omega)).trans HBOX.out
  have c1 : (w1.alloc (.cells #[.map (some g)] 96)).cell? ⟨w.heap.size + 1 + 1, 0, none⟩ = some (.slice (some ⟨w.heap.size + 1, 0, none⟩) 0 0) := by simp [World.cell?, hbx]
  have hos : SS.OwnSS (w1.alloc (.cells #[.map (some g)] 96)) (w.heap.size + 1) (some ⟨w.heap.size + 1, 0, none⟩) 0 0 [] [] :=
    ⟨ownsRow_below HOWN.out b2, rfl, fun i r hr => by simp at hr, fun i v b hv => by simp at hv, fun i j u v b hu => by simp at hu⟩
  have HOS := Lib.hid hos
  have HBX := Lib.hid hbx
  clear b1 b2 ha hnum hos hbx
  cases hok : ok5 l m with
  | false =>
    have HE : Hid (rowsP l m = none) := by
      unfold Hid
      cases hg : good l m with
      | false => exact rows_bad hg
      | true =>
        unfold ok5 at hok
        rw [hg] at hok
        exact rows_cyc hg (by simpa using hok)
    clear hok
    go_wp2_with fail
    go_ret2
    rw [HE.out]
    refine ⟨_, _, _, [], rfl, HOS.out.base (Nat.le_succ _), by omega, by show 0 ≤ _; omega, ?_⟩
    exact HB.out.trans (HBB.out.mono HB.out.size)
  | true =>
    have hgd : good l m = true ∧ (l.any fun p => later m p.1 p.1) = false := by unfold ok5 at hok; simpa using hok
    have HE := Lib.hid (rows_yes hgd.1 hgd.2)
    have HG := Lib.hid hgd.1
    have hn1 : n1 ≤ 10 := by rw [← HL1.out]; exact (Table.good_few hgd.1).1
    have hR0 : RW W (w1.alloc (.cells #[.map (some g)] 96)) (w.heap.size + 1) (w.heap.size + 1 + 1) w1.heap.size g N (depth l m) (some ⟨w.heap.size + 1, 0, none⟩) 0 (rowsTo l m 0) [] :=
      ⟨HBX.out, HOS.out, ob_ne (by omega), (fun ⟨i, v, hv, _⟩ => by simp at hv), ob_ne (by omega), (by omega), q3, HN.out hok, ob_ne (by omega), (by omega), (by rw [← hWs]; exact HBB.out), (by omega)⟩
    have HR0 := Lib.hid hR0
    have hh := (hgt_is l m).1
    rw [HL1.out] at hh
    clear hok hgd hR0 c1 q3
    go_wp2_with fail
    generalize w1.alloc (.cells #[.map (some g)] 96) = V at *
    go_loopg [7] 11 (fun f v7 wr => ∃ (d : Nat) (p : Option Addr) (c : Nat) (vs : List Value), d ≤ hgt l m ∧ f + d = 11 ∧ Hid (RW W wr (w.heap.size + 1) (w.heap.size + 1 + 1) w1.heap.size g N (depth l m) p c (rowsTo l m d) vs))
    case atStart => exact ⟨0, _, _, _, Nat.zero_le _, rfl, HR0⟩
    case round =>
      obtain ⟨d, p, c, vs, hd, hfd, HR⟩ := hrel
      clear HR0
      have hbel : Below W.heap.size W wr := by rw [hWs]; exact HR.out.bel
      have f1 := (hbel.cell (World.block_lt_of_cell? W _ hf)).trans hf
      have f2 := (hbel.cell (World.block_lt_of_cell? W _ hf2)).trans hf2
      obtain ⟨x1, x2, x3⟩ := HR.out.cells
      have x5 := HR.out.dc
      have H1r := Lib.hid (H1.out.below hbel)
      clear hbel
      go_wp2_with fail
      refine (that_any 95 #[.pointer (some ⟨w1.heap.size, 0, none⟩), .pointer (some ⟨w.heap.size + 1 + 1, 0, none⟩)] (atD l m d) a1 a2 n1 n1 n2 n2 l wr hn1 H1r.out (fun args W => FuncI.call_enter Try.func95 (by kernel_rfl) rfl args W) (fun x wq hx hwq => ?_)).mono ?_
      · have hq := HR.out.below hwq
        have hxr : 1 ≤ x ∧ x ≤ 999 := by
          obtain ⟨i, hi⟩ := Option.isSome_iff_exists.1 (isAt_keys.2 hx)
          exact rng_at HG.out hi
        have h := clos_any x w1.heap.size (w.heap.size + 1 + 1) g (rowsTo l m d).length N p c (depth l m) wq hq.dc hq.cells.1 hq.nm hxr
        unfold atD
        rw [rowsTo_len] at h
        exact h
      rintro e w3 ⟨pr, k, dr, rfl, hown, hk, b3⟩
      have hkl : k = (RowsM.rowAt l m d).length := by have h := hown.1; rw [ints_len] at h; unfold RowsM.rowAt; omega
      subst hkl
      have HR3 := Lib.hid (HR.out.below b3)
      have HOWR := Lib.hid (show w3.ownsRow wr.heap.size 3 1 (.slice pr (RowsM.rowAt l m d).length dr) (RowsM.rowAt l m d).length (ints (RowsM.rowAt l m d)) from hown)
      have HB3 := Lib.hid b3
      have hs3 := b3.size
      obtain ⟨y1, y2, y3⟩ := HR3.out.cells
      clear hown b3 f1 f2 x1 x2 x3 x5
      have HCS : Hid (RowsM.rowAt l m d = [] ∨ 0 < (RowsM.rowAt l m d).length) := by
        unfold Hid
        cases RowsM.rowAt l m d with
        | nil => exact .inl rfl
        | cons a t => exact .inr (by simp)
      have HNE : Hid (0 < (RowsM.rowAt l m d).length → d < hgt l m) := fun h => by
        rcases Nat.lt_or_ge d (hgt l m) with h1 | h1
        · exact h1
        · have h2 := (at_hgt hd).2 (by omega)
          rw [h2] at h
          exact absurd h (Nat.lt_irrefl _)
      have HEQ : Hid (RowsM.rowAt l m d = [] → d = hgt l m) := (at_hgt hd).1
      have HNX := Lib.hid (rowsTo_next l m d)
      have hll : (RowsM.rowAt l m d).length ≤ 10 := Nat.le_trans (rowAt_len l m d) (by rw [HL1.out]; exact hn1)
      generalize RowsM.rowAt l m d = r at *
      have hRl := rowsTo_len l m d
      have HRL := Lib.hid hRl
      rcases HCS.out with hr0 | hr1
      · subst hr0
        have hdh := HEQ.out rfl
        have hBW : Below w.heap.size w w3 := HB.out.trans ((by have h := HR3.out.bel; rw [← hWs] at h; exact h : Below W.heap.size W w3).mono HB.out.size)
        have HBW := Lib.hid hBW
        clear hBW hRl
        go_wp2_with fail
        go_ret2
        rw [HE.out]
        subst hdh
        refine ⟨_, _, _, vs, rfl, HR3.out.own.base (Nat.le_succ _), by rw [rowsTo_len]; omega, ?_, HBW.out⟩
        show SS.off (rowsTo l m (hgt l m)) (rowsTo l m (hgt l m)).length ≤ 1000000
        rw [rowsTo_len]
        have := off_le l m (hgt l m)
        rw [HL1.out] at this
        omega
      · have hdl := HNE.out hr1
        have hkz : ¬ (r.length : Int) = 0 := by omega
        have hkb : ((r.length : Int) == 0) = false := by simpa using hkz
        obtain ⟨K, hK⟩ : ∃ K, r.length = K := ⟨_, rfl⟩
        generalize rowsTo l m d = R at *
        have hown3 := HR3.out.own.out
        have hge : w.heap.size + 1 ≤ w3.heap.size := by omega
        have hRb : R.length ≤ 10 := by omega
        clear HCS HNE HEQ hK hRl
        go_wp2_with (at_builtin; go_loud (refine wpList_append_lies _ rfl _ _ 49 rfl (w.heap.size + 1) 27 i0 (.slice none 0 0) 1 24 Try.underlying49 hi hy0 hy1 hy2 rfl (by decide) (.slice p R.length c) R.length vs rfl (hown3.alloc _) ⟨w3.heap.size, 0, none⟩ 1 1 [.slice pr r.length dr] rfl rfl (cell_one_new _ _ _) (by simp [Value.oneCell']) (by decide) (by unfold maxLen; omega) (by omega) (by simp <;> omega) (w3.heap.size + 1) (by simp) ?_); go_loud (intro g9 cap9 w9 hown9 hgrow9 hat9 hlt9); go_loud (have hb9 := HR3.out.after (below_alloc w3 _) hgrow9); go_loud (have hc9 : w9.cell? ⟨w.heap.size + 1 + 1, 0, none⟩ = some (.slice p R.length c) := by (simp [World.cell?, hb9])); go_loud (have hf9 : w9.frozen? ⟨w.heap.size + 1 + 1, 0, none⟩ = false := by (simp only [World.frozen?, hb9] <;> rfl)))
        have HRN := Lib.hid (HR.out.app (HB3.out.trans ((below_alloc w3 (.cells #[.slice pr r.length dr] 27)).mono HB3.out.size)) (HOWR.out.alloc _) hown9 hgrow9 (hat9.imp_right (fun e => by simp <;> omega)))
        rw [← HNX.out] at HRN
        clear hown9 hgrow9 hat9 hlt9 hb9 hc9 hf9
        go_roundg (gk - 1)
        case measure => omega
        case rel => exact ⟨d + 1, _, _, _, by omega, by omega, HRN⟩
end Go.Proofs.Ytlgfaabobpnflaa.RowsI
