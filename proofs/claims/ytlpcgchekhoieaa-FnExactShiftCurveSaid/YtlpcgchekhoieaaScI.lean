/- ShiftCurve: the mathematics and the program. -/
import Derived.Test.YtlpcgchekhoieaaCvI
import Derived.Test.YtlpcgchekhoieaaCuG
import Derived.Test.YtlpcgchekhoieaaAppT
namespace Go.Proofs.Ytlpcgchekhoieaa.ScI
open Go Go.RowKit Pairs Rec Keep GivesI Cu CvM CvI CuG AppT
set_option linter.unusedVariables false
def fw (a e : Int) (q : Dt) : Dt := (q.1, wrap64 (q.2.1 + a), wrap64 (q.2.2 + e))
def fp (a e : Int) (q : Dt) : Dt := (q.1, q.2.1 + a, q.2.2 + e)
noncomputable def shP (L : List Dt) (a e : Int) : Bool × List Dt := if cv L && cv (L.map (fw a e)) then (true, L.map (fw a e)) else (false, [])
theorem shP_no {L : List Dt} {a e : Int} (h : cv L = true → cv (L.map (fw a e)) = true → False) : shP L a e = (false, []) := by
  unfold shP
  rw [if_neg]
  intro e
  rw [Bool.and_eq_true] at e
  exact h e.1 e.2
theorem shP_yes {L : List Dt} {a e : Int} (h1 : cv L = true) (h2 : cv (L.map (fw a e)) = true) : shP L a e = (true, L.map (fw a e)) := by
  unfold shP
  rw [h1, h2]
  rfl
def Says (f : FuncId) : Prop := ∀ (a : Option Addr) (n : Nat) (L : List Dt) (u v : Int) (w : World), n ≤ 1048576 → HoldsD w a n L → -9223372036854775808 ≤ u → u ≤ 9223372036854775807 → -9223372036854775808 ≤ v → v ≤ 9223372036854775807 →
  Calls Try.prog f #[.slice a n n, .int .i64 u, .int .i64 v] w (ResC (shP L u v).1 (shP L u v).2 w)
/-- A row of points under way, of which the first i are shifted. -/
def Rw (B : Nat) (w wr : World) (p : Option Addr) (n d : Nat) (f : Dt → Dt) (L : List Dt) (i : Nat) : Prop := wr.ownsRow B 75 3 (.slice p n d) n (flatD (mid f L i)) ∧ Below B w wr
theorem row_cap {B n d : Nat} {T : TypeId} {w : World} {p : Option Addr} {xs : List Value} (h : w.ownsRow B T 3 (.slice p n d) n xs) : n ≤ d := by
  rcases h.2 with ⟨hv, hn⟩ | ⟨g, cap, cur, hv, hg, hh, hle, _⟩
  · omega
  · injection hv with _ _ hc
    omega
theorem row_ptr {B n d : Nat} {T : TypeId} {w : World} {p : Option Addr} {xs : List Value} (h : w.ownsRow B T 3 (.slice p n d) n xs) (hn : 0 < n) : ∃ g, p = some ⟨g, 0, none⟩ := by
  rcases h.2 with ⟨_, h0⟩ | ⟨g, cap, cur, hv, _⟩
  · omega
  · injection hv with hv
    exact ⟨g, hv⟩
set_option maxRecDepth 100000 in
set_option maxHeartbeats 8000000 in
theorem impl_any : ScI.Says 44 := by
  intro a n L u v w hn h ra rb rc rd
  have HL := Lib.hid h.1
  have H := Lib.hid h
  obtain ⟨r, hr⟩ : ∃ r, r = shP L u v := ⟨_, rfl⟩
  rw [← hr]
  have HR := Lib.hid hr
  clear hr h ra rb rc rd
  go_enter Try.func44, Try.ntmps44
  go_wp2_with fail
  refine (valid_any a n n L w hn (Nat.le_refl _) H.out).mono ?_
  rintro e w1 ⟨rfl, b⟩
  replace H := Lib.hid (H.out.below b)
  have HB := Lib.hid b
  clear b
  cases hu : cv L with
  | false =>
    have HF := Lib.hid (HR.out.trans (shP_no fun e _ => by rw [hu] at e; cases e))
    clear hu
    have he0 := below_alloc w1 (.cells #[] 75)
    have ho0 := AppT.empty_own w1
    go_wp2_with fail
    go_ret2
    rw [HF.out]
    exact ⟨_, _, _, rfl, Keep.ownsRow_base ho0 HB.out.size, by omega, HB.out.trans (he0.mono HB.out.size)⟩
  | true =>
    have O := Lib.hid (cv_iff.1 hu)
    have HU := Lib.hid hu
    have hn2 : 2 ≤ n := by have := O.out.lo; rw [HL.out] at this; exact this
    have hn40 : n ≤ 40 := by have := O.out.len; rw [HL.out] at this; exact this
    obtain ⟨b, off, x, y, z, rfl, hx, e1, e2, e3⟩ := H.out.at 0 (by omega)
    have HC := Lib.hid (clone_any ⟨b, off, none⟩ n n L hn w1 H.out)
    clear hu hx e1 e2 e3
    go_wp2_with fail
    refine HC.out.mono ?_
    rintro e w2 ⟨p, d, rfl, o2, b2⟩
    obtain ⟨g, rfl⟩ := row_ptr o2 (by omega)
    have hcap := row_cap o2
    have HR0 : Hid (Rw w1.heap.size w1 w2 (some ⟨g, 0, none⟩) n d (fw u v) L 0) := ⟨by rw [mid_zero]; exact o2, b2⟩
    clear o2 b2 HC
    go_wp2_with fail
    go_loopw [18] (fun s18 wr => ∃ i : Nat, i ≤ n ∧ s18 = .int .i64 i ∧ Hid (Rw w1.heap.size w1 wr (some ⟨g, 0, none⟩) n d (fw u v) L i)) (fun s18 _ => n - (intOf s18).toNat)
    case atStart => exact ⟨0, Nat.zero_le _, rfl, HR0⟩
    case round =>
      clear HR0
      obtain ⟨i, hi, rfl, HW⟩ := hrel
      by_cases hlt : i < n
      · have hin : (i : Int) < (n : Int) := by omega
        have hi0 : (0 : Int) ≤ (i : Int) := by omega
        have hiL : i < L.length := by rw [HL.out]; exact hlt
        obtain ⟨q, hq⟩ : ∃ q, L[i]? = some q := ⟨_, List.getElem?_eq_getElem hiL⟩
        obtain ⟨x0, y0, z0⟩ := q
        have hmid := mid_at (f := fw u v) hq
        have hown := HW.out.1
        have hf := flatD_get _ i x0 y0 z0 hmid
        have e1 : wr.cell? ⟨g, i * 3 + 1, none⟩ = some (.int .i64 y0) := (hown.cellAt (i * 3 + 1) (by omega)).trans hf.2.1
        have e2 : wr.cell? ⟨g, i * 3 + 2, none⟩ = some (.int .i64 z0) := (hown.cellAt (i * 3 + 2) (by omega)).trans hf.2.2
        have f1 := hown.frozenAt (i * 3 + 1)
        have f2 := hown.frozenAt (i * 3 + 2)
        have h2 := (hown.stored (i * 3 + 1) (.int .i64 (wrap64 (y0 + u)))).1
        have h3 := (h2.stored (i * 3 + 2) (.int .i64 (wrap64 (z0 + v)))).1
        rw [flatD_set _ i x0 y0 z0 _ _ hmid, show (x0, wrap64 (y0 + u), wrap64 (z0 + v)) = fw u v (x0, y0, z0) from rfl, mid_next hq] at h3
        have hgB : w1.heap.size ≤ g := (hown.lt g rfl).1
        have HW2 : Hid (Rw w1.heap.size w1 ((wr.setCell ⟨g, i * 3 + 1, none⟩ (.int .i64 (wrap64 (y0 + u)))).setCell ⟨g, i * 3 + 2, none⟩ (.int .i64 (wrap64 (z0 + v)))) (some ⟨g, 0, none⟩) n d (fw u v) L (i + 1)) := ⟨h3, (HW.out.2.setCell (p := ⟨g, i * 3 + 1, none⟩) hgB _).setCell (p := ⟨g, i * 3 + 2, none⟩) hgB _⟩
        have hid : (i : Int) < (d : Int) := by omega
        clear hq hmid hown hf h2 h3 hiL HW
        go_wp2_with fail
        exact ⟨⟨i + 1, by omega, by go_num, HW2⟩, by simp [intOf]; omega⟩
      · obtain rfl : i = n := by omega
        have hii : ¬ (i : Int) < (i : Int) := by omega
        have HO : Hid (wr.ownsRow w1.heap.size 75 3 (.slice (some ⟨g, 0, none⟩) i d) i (flatD (L.map (fw u v))) ∧ Below w1.heap.size w1 wr) := by
          have hm := mid_full (fw u v) L
          rw [HL.out] at hm
          have := HW.out
          unfold Rw at this
          rw [hm] at this
          exact this
        have HV := Lib.hid (valid_any (some ⟨g, 0, none⟩) i d (L.map (fw u v)) wr hn hcap (Cu.holds_ownD HO.out.1))
        clear HW
        go_wp2_with fail
        refine HV.out.mono ?_
        rintro e w5 ⟨rfl, b⟩
        have HO5 := Lib.hid (And.intro (ownsRow_below HO.out.1 b) (HO.out.2.trans (b.mono HO.out.2.size)))
        clear b HO
        cases hs : cv (L.map (fw u v)) with
        | false =>
          have HF := Lib.hid (HR.out.trans (shP_no fun _ e => by rw [hs] at e; cases e))
          clear hs
          have he0 := below_alloc w5 (.cells #[] 75)
          have ho0 := AppT.empty_own w5
          have hb5 := HB.out.trans (HO5.out.2.mono HB.out.size)
          go_wp2_with fail
          go_ret2
          rw [HF.out]
          exact ⟨_, _, _, rfl, Keep.ownsRow_base ho0 hb5.size, by omega, hb5.trans (he0.mono hb5.size)⟩
        | true =>
          have HF := Lib.hid (HR.out.trans (shP_yes HU.out hs))
          clear hs
          go_wp2_with fail
          go_ret2
          rw [HF.out]
          exact ⟨_, _, _, rfl, Keep.ownsRow_base HO5.out.1 HB.out.size, hn, HB.out.trans (HO5.out.2.mono HB.out.size)⟩
end Go.Proofs.Ytlpcgchekhoieaa.ScI
