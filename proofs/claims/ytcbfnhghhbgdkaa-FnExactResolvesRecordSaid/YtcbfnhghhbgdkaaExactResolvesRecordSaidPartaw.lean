/- The program's shortestChain. -/
import Derived.Test.YtcbfnhghhbgdkaaExactResolvesRecordSaidPartaq
import Derived.Test.YtcbfnhghhbgdkaaExactResolvesRecordSaidPartau
import Derived.Test.YtcbfnhghhbgdkaaExactResolvesRecordSaidPartam
import Derived.Test.YtcbfnhghhbgdkaaExactResolvesRecordSaidPartav
import Derived.Deep.AppendLies
import Derived.Test.YtcbfnhghhbgdkaaExactResolvesRecordSaidPartag
import Derived.Test.YtcbfnhghhbgdkaaExactResolvesRecordSaidPartah
namespace Go.Proofs.Ytcbfnhghhbgdkaa.ScI
open Go.RowKit Go.Maps Pairs Rec Chain Find2 GoodM Keep GivesI Lows Queue From MapStep BfsM ScM
set_option maxRecDepth 100000 in
theorem prev_look {w : World} {g : Nat} {pv : Ps} (h : Prev w g pv) (hn : (keys pv).Nodup) {x v : Int} (hm : (x, v) ∈ pv) (hx : -1000000 ≤ x ∧ x ≤ 1000000) : (Instr.lookup 80 (.map (some g)) (.int .i64 x) false).run Try.prog w = .ok (.int .i64 v) w := by
  have h' : w.ownsMap Try.prog 3 (plainElem Try.prog 3) g pv.length (mapOf pv) := h
  obtain ⟨u, ps, hrun, hu⟩ := World.ownsMap.lookup h' law Try.underlying80 (zeroI w) (zd := .lit (.int .i64 0)) (zp := []) (elem (by omega)) (keyI hx)
  rw [at_mapOf hn hm] at hu
  obtain ⟨c, rfl, e, _⟩ := plainElem_int_inv Try.underlying3 hu
  injection e with e _
  injection e with e
  injection e with _ e
  rw [hrun, e]
set_option maxRecDepth 100000 in
theorem prev_ok {w : World} {g : Nat} {pv : Ps} (h : Prev w g pv) (hn : (keys pv).Nodup) {x v : Int} (hm : (x, v) ∈ pv) (hx : -1000000 ≤ x ∧ x ≤ 1000000) : (Instr.lookup 80 (.map (some g)) (.int .i64 x) true).run Try.prog w = .ok (.tuple #[.int .i64 v, .bool true]) w := by
  have h' : w.ownsMap Try.prog 3 (plainElem Try.prog 3) g pv.length (mapOf pv) := h
  obtain ⟨u, ps2, hr2, hu⟩ := World.ownsMap.look_ok h' law (t := 80) Try.underlying80 (zeroI w) (zd := .lit (.int .i64 0)) (zp := []) (elem (by omega)) (keyI hx)
  rw [at_mapOf hn hm] at hu
  obtain ⟨c, rfl, e, _⟩ := plainElem_int_inv Try.underlying3 hu
  injection e with e _
  injection e with e
  injection e with _ e
  rw [has_mapOf, isAt_keys.2 (List.mem_map.2 ⟨_, hm, rfl⟩), ← e] at hr2
  exact hr2
theorem prev_none {w : World} {g : Nat} {pv : Ps} (h : Prev w g pv) {x : Int} (hn : x ∉ keys pv) (hx : -1000000 ≤ x ∧ x ≤ 1000000) : ∃ u : Int, (Instr.lookup 80 (.map (some g)) (.int .i64 x) true).run Try.prog w = .ok (.tuple #[.int .i64 u, .bool false]) w := by
  have h' : w.ownsMap Try.prog 3 (plainElem Try.prog 3) g pv.length (mapOf pv) := h
  obtain ⟨u, ps2, hr2, hu⟩ := World.ownsMap.look_ok h' law (t := 80) Try.underlying80 (zeroI w) (zd := .lit (.int .i64 0)) (zp := []) (elem (by omega)) (keyI hx)
  obtain ⟨c, rfl, _, _⟩ := plainElem_int_inv Try.underlying3 hu
  rw [has_mapOf] at hr2
  cases hb : (isAt pv x).isSome with
  | true => exact absurd (isAt_keys.1 hb) hn
  | false =>
    rw [hb] at hr2
    exact ⟨c, hr2⟩
/-- How many more than one context a chain that was found has. -/
theorem fin_len {m : Ps} {a : Int} {F : List (List Int)} (h : Fin m a F) : ∀ (n : Nat) (r : List Int), r.length ≤ n → r ∈ F → ∀ c, (∃ s, r = s ++ c) → 2 ≤ c.length → c ∈ F
  | 0, r, hl, hr, _, _, _ => by
    obtain ⟨x, c, rfl, _⟩ := h.par r hr
    simp at hl
  | n + 1, r, hl, hr, c, ⟨s, hs⟩, h2 => by
    cases s with
    | nil => rw [hs] at hr; exact hr
    | cons y s =>
      obtain ⟨x, d, rfl, hd', _⟩ := h.par r hr
      injection hs with _ hs
      rcases List.mem_cons.1 hd' with rfl | hd'
      · have := congrArg List.length (show [a] = s ++ c from hs)
        rw [List.length_append] at this
        simp at this
        omega
      · exact fin_len h n d (by simp at hl; omega) hd' c ⟨s, hs⟩ h2
theorem fin_nd {m : Ps} {a : Int} {F : List (List Int)} (h : Fin m a F) : ∀ (n : Nat) (r : List Int), r.length ≤ n → r ∈ F → r.dropLast.Nodup ∧ ∀ z ∈ r.dropLast, ∃ q ∈ F, hd q = z ∧ q.length ≤ r.length
  | 0, r, hl, hr => by
    obtain ⟨x, c, rfl, _⟩ := h.par r hr
    simp at hl
  | n + 1, r, hl, hr => by
    obtain ⟨x, c, rfl, hc, _⟩ := h.par r hr
    rcases List.mem_cons.1 hc with rfl | hc
    · exact ⟨by simp, fun z hz => ⟨_, hr, by have hz' : z ∈ [x] := hz; rw [List.mem_singleton] at hz'; rw [hz']; rfl, Nat.le_refl _⟩⟩
    · obtain ⟨y, d, rfl, _⟩ := h.par c hc
      have ih := fin_nd h n (y :: d) (by simp at hl ⊢; omega) hc
      have e : (x :: y :: d).dropLast = x :: (y :: d).dropLast := rfl
      rw [e]
      refine ⟨?_, fun z hz => ?_⟩
      · rw [List.nodup_cons]
        refine ⟨fun hx => ?_, ih.1⟩
        obtain ⟨q, hq, h1, h2⟩ := ih.2 x hx
        obtain rfl := h.uniq hq hr h1
        simp at h2
        omega
      · rcases List.mem_cons.1 hz with rfl | hz
        · exact ⟨_, hr, rfl, Nat.le_refl _⟩
        · obtain ⟨q, hq, h1, h2⟩ := ih.2 z hz
          exact ⟨q, hq, h1, by simp at h2 ⊢; omega⟩
theorem fin_few {m : Ps} {a : Int} {F : List (List Int)} (h : Fin m a F) {r : List Int} (hr : r ∈ F) : r.length ≤ F.length + 1 := by
  obtain ⟨h1, h2⟩ := fin_nd h r.length r (Nat.le_refl _) hr
  have h3 := nodup_le r.dropLast (F.map hd) h1 (fun z hz => by
    obtain ⟨q, hq, e, _⟩ := h2 z hz
    exact List.mem_map.2 ⟨q, hq, e⟩)
  rw [List.length_dropLast, List.length_map] at h3
  omega
def lenOf : Value → Nat
  | .slice _ n _ => n
  | _ => 0
set_option maxRecDepth 100000 in
set_option maxHeartbeats 8000000 in
theorem short_any (b0 n0 : Nat) (m : Ps) (a b : Int) (w : World) (hs : ∀ h, (lows m h).Pairwise (· < ·)) (hn : m.length ≤ 24) (hm : ∀ x y, (x, y) ∈ m → (1 ≤ x ∧ x ≤ 999) ∧ (1 ≤ y ∧ y ≤ 999)) (ha : 1 ≤ a ∧ a ≤ 999) (hb : 1 ≤ b ∧ b ≤ 999) (h : LowsAt w b0 m n0) :
    Calls Try.prog 44 #[.map (some b0), .int .i64 a, .int .i64 b] w (That.ResL (chainP m a b) w) := by
  obtain ⟨i0, hi, hy0, hy1, hy2⟩ := info_parts That.infoInt
  have HS := Lib.hid hs
  have HM := Lib.hid hm
  have HLW := Lib.hid h
  clear hs hm h
  go_enter Try.func44, Try.ntmps44
  go_wp2_with fail
  refine (from_any b0 n0 m a w hn HM.out ha HLW.out).mono ?_
  rintro e w1 ⟨g, t, pv, rfl, hst, hprev, hgl, b1⟩
  obtain ⟨F, hpv, hfin⟩ := fin_of HS.out hst
  have HF := Lib.hid hfin
  have hnd : (keys pv).Nodup := by rw [hpv, keys_entry]; exact hfin.nd
  have hinv := inv_at m a t
  rw [hst] at hinv
  have hfew := hinv.good.few
  have hin : ∀ x ∈ keys pv, 1 ≤ x ∧ x ≤ 999 := fun x hx => by
    obtain ⟨p, hp, rfl⟩ := List.mem_map.1 (hinv.good.inside x hx)
    exact (HM.out p.1 p.2 hp).2
  have HIN := Lib.hid hin
  have HND := Lib.hid hnd
  have HPV := Lib.hid hpv
  have HP := Lib.hid hprev
  have HB1 := Lib.hid b1
  have hFl : F.length ≤ 24 := by
    have h1 : pv.length = F.length := by rw [hpv]; simp
    have h2 : pv.length ≤ m.length := hfew
    omega
  by_cases hbk : b ∈ keys pv
  · have hbF : ∃ r ∈ F, hd r = b := by
      rw [hpv, keys_entry] at hbk
      obtain ⟨r, h1, h2⟩ := List.mem_map.1 hbk
      exact ⟨r, h1, h2⟩
    obtain ⟨r, hr, hrb⟩ := hbF
    obtain ⟨x, c0, hrx, _, _⟩ := hfin.par r hr
    have hxb : x = b := by rw [hrx] at hrb; exact hrb
    subst hxb
    have hbest := ScM.Fin.isBest hfin hr
    rw [hrb] at hbest
    have HE := Lib.hid (chain_yes hbest)
    have hrl := fin_few hfin hr
    have hent : (x, hd c0) ∈ pv := by
      rw [hpv]
      exact List.mem_map.2 ⟨r, hr, by rw [hrx]; rfl⟩
    have k1 := prev_ok hprev hnd hent (by omega)
    have HR := Lib.hid hr
    have hG0 : That.G1 w1.heap.size w1 (w1.alloc (.cells #[.int .i64 x] 3)) (.slice (some ⟨w1.heap.size, 0, none⟩) 1 1) [x] :=
      ⟨⟨rfl, .inr ⟨w1.heap.size, 1, #[.int .i64 x], rfl, Nat.le_refl _, heap_alloc_new w1 _, Nat.le_refl _, by unfold maxLen; omega, by simp, by simp [ints]⟩⟩, below_alloc w1 _⟩
    have HG0 := Lib.hid hG0
    have HI0 : Hid ([x] ++ c0 = r ∧ x :: c0 ∈ F ∧ lenOf (.slice (some ⟨w1.heap.size, 0, none⟩) 1 1) = 1) := ⟨by rw [hrx]; rfl, by rw [← hrx]; exact hr, rfl⟩
    clear hst hfin hnd hinv hin hprev b1 hbk hr hrb hbest hent hrx hG0 hpv
    go_wp2_with fail
    generalize w1.alloc (.cells #[.int .i64 x] 3) = V at *
    clear k1
    go_loopw [8, 10] (fun s8 s10 wr => ∃ (Lc c : List Int) (x : Int), s8 = .int .i64 (hd c) ∧ Hid (Lc ++ c = r ∧ x :: c ∈ F ∧ lenOf s10 = Lc.length) ∧ Hid (That.G1 w1.heap.size w1 wr s10 Lc)) (fun _ s10 _ => 30 - lenOf s10)
    case atStart => exact ⟨[x], c0, x, rfl, HI0, HG0⟩
    case round =>
      clear HI0 HG0
      obtain ⟨Lc, c, z, rfl, HI, HG⟩ := hrel
      obtain ⟨p, d, hv⟩ := From.own_form HG.out.1
      subst hv
      have hLr : Lc.length + c.length = r.length := by rw [← HI.out.1, List.length_append]
      have hown := HG.out.1
      have hs1 := HG.out.2.size
      by_cases hna : hd c = a
      · have hc := HF.out.mid HI.out.2.1 hna
        have hnb : (hd c == a) = true := by simpa using hna
        have hnb2 : (hd c != a) = false := by simpa using hna
        subst hc
        have HLr := Lib.hid HI.out.1
        have hy : hd [a] = a := rfl
        rw [hy] at hna hnb hnb2 ⊢
        have hl2 : Lc.length ≤ 25 := by omega
        go_wp2_with (at_builtin; go_loud (refine wpList_append_lies _ rfl _ _ 41 rfl w1.heap.size 3 i0 (.int .i64 0) 1 8 Try.underlying41 hi hy0 hy1 hy2 rfl (by decide) (.slice p Lc.length d) Lc.length (ints Lc) rfl (hown.alloc _) ⟨wr.heap.size, 0, none⟩ 1 1 [.int .i64 a] rfl rfl (cell_one_new _ _ _) (by simp [Value.oneCell']) (by decide) (by unfold maxLen; omega) (by omega) (by simp <;> omega) (wr.heap.size + 1) (by simp) ?_); go_loud (intro g9 cap9 w9 hown9 hgrow9 hat9 hlt9))
        have hB9 := (HG.out.2.trans ((below_alloc wr (.cells #[.int .i64 a] 3)).mono hs1)).grown hgrow9 (by simp <;> omega) (fun k hk => (hown.lt k hk).1)
        have HB9 := Lib.hid hB9
        have hg9 := (hown9.lt g9 rfl)
        have hrw : ints Lc ++ [.int .i64 a] = ints r := by rw [← HLr.out, That.ints_append]; rfl
        have hlr : Lc.length + 1 = r.length := by simp at hLr; omega
        rw [hrw, hlr] at hown9
        have HO9 := Lib.hid hown9
        clear hgrow9 hat9 hlt9 hrw hown9
        rw [hlr]
        clear hB9
        refine (RevI.rev_any w1.heap.size g9 r.length cap9 r w9 (by omega) HO9.out).mono ?_
        rintro e w10 ⟨rfl, hown10, hk10⟩
        have HO10 := Lib.hid hown10
        have HB10 := Lib.hid (HB9.out.trans (hk10.below (fun b hb => by subst hb; omega) HB9.out.size))
        clear hown10 hk10
        go_wp2_with fail
        go_ret
        rw [HE.out]
        exact ⟨_, r.length, _, rfl, ownsRow_base HO10.out HB1.out.size, by omega, HB1.out.trans (HB10.out.mono HB1.out.size)⟩
      · have hnb : (hd c == a) = false := by simpa using hna
        have hnb2 : (hd c != a) = true := by simpa using hna
        obtain ⟨z', c', e, hc, _⟩ := HF.out.par _ HI.out.2.1
        injection e with e1 e2
        subst e1 e2
        have hcF : c ∈ F := by
          rcases List.mem_cons.1 hc with rfl | hc
          · exact absurd rfl hna
          · exact hc
        obtain ⟨y, c2, hcy, _, _⟩ := HF.out.par c hcF
        subst hcy
        have hy : hd (y :: c2) = y := rfl
        rw [hy] at hna hnb hnb2 ⊢
        have hent : (y, hd c2) ∈ pv := by rw [HPV.out]; exact List.mem_map.2 ⟨_, hcF, rfl⟩
        have hyr := HIN.out y (List.mem_map.2 ⟨_, hent, rfl⟩)
        have HK : Hid (∀ X, Below w1.heap.size w1 X → (Instr.lookup 80 (.map (some g)) (.int .i64 y) false).run Try.prog X = .ok (.int .i64 (hd c2)) X) := fun X hX => prev_look (HP.out.below hX) HND.out hent (by omega)
        have HI2 : Hid ((Lc ++ [y]) ++ c2 = r ∧ y :: c2 ∈ F) := ⟨by rw [List.append_assoc]; exact HI.out.1, hcF⟩
        clear hc hcF hent
        have hl2 : Lc.length ≤ 25 := by omega
        have hl3 : (Lc ++ [y]).length ≤ 25 := by simp at hLr ⊢; omega
        go_wp2_with (at_builtin; go_loud (refine wpList_append_lies _ rfl _ _ 41 rfl w1.heap.size 3 i0 (.int .i64 0) 1 8 Try.underlying41 hi hy0 hy1 hy2 rfl (by decide) (.slice p Lc.length d) Lc.length (ints Lc) rfl (hown.alloc _) ⟨wr.heap.size, 0, none⟩ 1 1 [.int .i64 y] rfl rfl (cell_one_new _ _ _) (by simp [Value.oneCell']) (by decide) (by unfold maxLen; omega) (by omega) (by simp <;> omega) (wr.heap.size + 1) (by simp) ?_); go_loud (intro g9 cap9 w9 hown9 hgrow9 hat9 hlt9); go_loud (have hB9 := (HG.out.2.trans ((below_alloc wr (.cells #[.int .i64 y] 3)).mono hs1)).grown hgrow9 (by simp <;> omega) (fun k hk => (hown.lt k hk).1)); go_loud (have k2 := HK.out w9 hB9))
        have HG9 : Hid (That.G1 w1.heap.size w1 w9 (.slice (some ⟨g9, 0, none⟩) (Lc.length + 1) cap9) (Lc ++ [y])) := ⟨by rw [List.length_append, That.ints_append]; exact hown9, hB9⟩
        clear hown9 hgrow9 hat9 hlt9 k2 hB9
        exact ⟨⟨Lc ++ [y], c2, y, rfl, ⟨HI2.out.1, HI2.out.2, by simp [lenOf]⟩, HG9⟩, by simp [lenOf]; omega⟩
  · have hno : later m a b = false := by
      cases hl : later m a b with
      | false => rfl
      | true => exact absurd ((hinv.end b).2 (later_iff.1 hl)) hbk
    have HE := Lib.hid (chain_no hno)
    obtain ⟨u, k1⟩ := prev_none hprev hbk (by omega)
    clear hst hpv hfin hnd hinv hin hprev b1 hno hbk
    go_wp2_with fail
    go_ret
    rw [HE.out]
    exact ⟨_, 0, 0, rfl, ownsRow_base (That.empty_own w1) HB1.out.size, by omega, HB1.out.trans ((below_alloc _ _).mono HB1.out.size)⟩
end Go.Proofs.Ytcbfnhghhbgdkaa.ScI
/- What a function that makes a list of relations of a record is said to do. -/
namespace Go.Proofs.Ytcbfnhghhbgdkaa.GivesS
open Go.RowKit Pairs Rec Keep
def Res (ok : Bool) (L : List (Int × Int)) (w : World) (e : Ending) (w' : World) : Prop :=
  ∃ (p : Option Addr) (k d : Nat), e = .returned (.tuple #[.slice p k d, .bool ok]) ∧ w'.ownsRow w.heap.size 43 2 (.slice p k d) k (flat L) ∧ k ≤ 1048576 ∧ Below w.heap.size w w'
def Gives (f : FuncId) (x : Value) (F : List (Int × Int) → List (Int × Int) → Option (List (Int × Int))) : Prop :=
  ∀ (a1 a2 : Option Addr) (n1 c1 n2 c2 : Nat) (l m : List (Int × Int)) (w : World), n1 ≤ 1048576 → n2 ≤ 1048576 → Holds w a1 n1 l → Holds w a2 n2 m →
    Calls Try.prog f #[.agg #[.slice a1 n1 c1, .slice a2 n2 c2], x] w (Res (F l m).isSome ((F l m).getD []) w)
end Go.Proofs.Ytcbfnhghhbgdkaa.GivesS
