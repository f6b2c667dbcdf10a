/- slices.SortFunc over relations and over contexts: the shelf's contract, laid at this program. -/
import Derived.Test.YthcjembekadijaaRows
import Derived.Shelf.SlSortCmp.NoneTotal
import Derived.Test.YthcjembekadijaaRenumberSaidPartaa
import Derived.Test.YthcjembekadijaaOrderSaidPartam
import Derived.Test.YthcjembekadijaaOrderSaidPartax
import Derived.BigQuiet
import Derived.Deep.QuietTactic
import Derived.Deep.Upon
import Derived.OwnWalk
import Derived.Lib.AppendZeros
namespace Go.Proofs
open Go.Shelf
def Try.sortRel_ren : Go.Shelf.Ren := ⟨fun | 6 => 133 | 15 => 136 | 14 => 145 | 28 => 154 | 29 => 155 | 20 => 158 | 21 => 159 | 22 => 160 | 23 => 161 | 24 => 162 | 25 => 163 | 26 => 164 | 27 => 165 | 46 => 171 | 47 => 167 | 48 => 168 | 49 => 172 | 50 => 173 | 57 => 175 | n => n, fun | 22 => 25 | 24 => 39 | 25 => 106 | 3 => 3 | 39 => 119 | 0 => 0 | 53 => 161 | 55 => 78 | 4 => 4 | 46 => 155 | 45 => 154 | 50 => 61 | 5 => 5 | 9 => 9 | 66 => 170 | 70 => 174 | 76 => 178 | 77 => 179 | n => n, fun | n => n⟩
theorem Try.sortRel : Go.Proofs.SlLaysF0.n6 Try.prog Try.sortRel_ren := {
  mixed := by kernel_rfl
  f6 := ⟨Try.f133.name, by decide, Try.func133.trans (congrArg some (by kernel_rfl))⟩
  f14 := ⟨Try.f145.name, by decide, Try.func145.trans (congrArg some (by kernel_rfl))⟩
  f15 := Try.func136.trans (congrArg some (by kernel_rfl))
  f20 := ⟨Try.f158.name, by decide, Try.func158.trans (congrArg some (by kernel_rfl))⟩
  f21 := ⟨Try.f159.name, by decide, Try.func159.trans (congrArg some (by kernel_rfl))⟩
  f22 := ⟨Try.f160.name, by decide, Try.func160.trans (congrArg some (by kernel_rfl))⟩
  f23 := ⟨Try.f161.name, by decide, Try.func161.trans (congrArg some (by kernel_rfl))⟩
  f24 := ⟨Try.f162.name, by decide, Try.func162.trans (congrArg some (by kernel_rfl))⟩
  f25 := ⟨Try.f163.name, by decide, Try.func163.trans (congrArg some (by kernel_rfl))⟩
  f26 := ⟨Try.f164.name, by decide, Try.func164.trans (congrArg some (by kernel_rfl))⟩
  f27 := ⟨Try.f165.name, by decide, Try.func165.trans (congrArg some (by kernel_rfl))⟩
  f28 := Try.func154.trans (congrArg some (by kernel_rfl))
  f29 := Try.func155.trans (congrArg some (by kernel_rfl))
  f46 := ⟨Try.f171.name, by decide, Try.func171.trans (congrArg some (by kernel_rfl))⟩
  f47 := Try.func167.trans (congrArg some (by kernel_rfl))
  f48 := Try.func168.trans (congrArg some (by kernel_rfl))
  f49 := ⟨Try.f172.name, by decide, Try.func172.trans (congrArg some (by kernel_rfl))⟩
  f50 := ⟨Try.f173.name, by decide, Try.func173.trans (congrArg some (by kernel_rfl))⟩
  f57 := ⟨Try.f175.name, by decide, Try.func175.trans (congrArg some (by kernel_rfl))⟩
  t0 := Try.underlying0
  a0 := Try.isAgg0
  z0 := Try.sizeOf0
  v0 := Try.zeroValue0
  t3 := Try.underlying3
  a3 := Try.isAgg3
  z3 := Try.sizeOf3
  v3 := Try.zeroValue3
  t4 := Try.underlying4
  a4 := Try.isAgg4
  z4 := Try.sizeOf4
  v4 := Try.zeroValue4
  t5 := Try.underlying5
  a5 := Try.isAgg5
  z5 := Try.sizeOf5
  v5 := Try.zeroValue5
  t9 := Try.underlying9
  a9 := Try.isAgg9
  z9 := Try.sizeOf9
  v9 := Try.zeroValue9
  t22 := Try.underlying25
  a22 := Try.isAgg25
  z22 := Try.sizeOf25
  v22 := Try.zeroValue25
  t25 := Try.underlying106
  a25 := Try.isAgg106
  z25 := Try.sizeOf106
  v25 := Try.zeroValue106
  t39 := Try.underlying119
  a39 := Try.isAgg119
  z39 := Try.sizeOf119
  v39 := Try.zeroValue119
  t45 := Try.underlying154
  a45 := Try.isAgg154
  z45 := Try.sizeOf154
  v45 := Try.zeroValue154
  t46 := Try.underlying155
  a46 := Try.isAgg155
  z46 := Try.sizeOf155
  v46 := Try.zeroValue155
  t50 := Try.underlying61
  a50 := Try.isAgg61
  z50 := Try.sizeOf61
  v50 := Try.zeroValue61
  t53 := Try.underlying161
  a53 := Try.isAgg161
  z53 := Try.sizeOf161
  v53 := Try.zeroValue161
  t55 := Try.underlying78
  a55 := Try.isAgg78
  z55 := Try.sizeOf78
  v55 := Try.zeroValue78
  t66 := Try.underlying170
  a66 := Try.isAgg170
  z66 := Try.sizeOf170
  v66 := Try.zeroValue170
  t70 := Try.underlying174
  a70 := Try.isAgg174
  z70 := Try.sizeOf174
  v70 := Try.zeroValue174
  t76 := Try.underlying178
  a76 := Try.isAgg178
  z76 := Try.sizeOf178
  v76 := Try.zeroValue178
  t77 := Try.underlying179
  a77 := Try.isAgg179
  z77 := Try.sizeOf179
  v77 := Try.zeroValue179 }
def Try.sortCtx_ren : Go.Shelf.Ren := ⟨fun | 6 => 99 | 15 => 136 | 14 => 135 | 28 => 154 | 29 => 155 | 20 => 146 | 21 => 147 | 22 => 148 | 23 => 149 | 24 => 150 | 25 => 151 | 26 => 152 | 27 => 153 | 46 => 166 | 47 => 167 | 48 => 168 | 49 => 169 | 50 => 170 | 57 => 174 | n => n, fun | 22 => 24 | 24 => 55 | 25 => 115 | 3 => 3 | 39 => 119 | 0 => 0 | 53 => 161 | 55 => 78 | 4 => 4 | 46 => 155 | 45 => 154 | 50 => 61 | 5 => 5 | 9 => 9 | 66 => 170 | 70 => 174 | 76 => 178 | 77 => 179 | n => n, fun | n => n⟩
theorem Try.sortCtx : Go.Proofs.SlLaysF0.n6 Try.prog Try.sortCtx_ren := {
  mixed := by kernel_rfl
  f6 := ⟨Try.f99.name, by decide, Try.func99.trans (congrArg some (by kernel_rfl))⟩
  f14 := ⟨Try.f135.name, by decide, Try.func135.trans (congrArg some (by kernel_rfl))⟩
  f15 := Try.func136.trans (congrArg some (by kernel_rfl))
  f20 := ⟨Try.f146.name, by decide, Try.func146.trans (congrArg some (by kernel_rfl))⟩
  f21 := ⟨Try.f147.name, by decide, Try.func147.trans (congrArg some (by kernel_rfl))⟩
  f22 := ⟨Try.f148.name, by decide, Try.func148.trans (congrArg some (by kernel_rfl))⟩
  f23 := ⟨Try.f149.name, by decide, Try.func149.trans (congrArg some (by kernel_rfl))⟩
  f24 := ⟨Try.f150.name, by decide, Try.func150.trans (congrArg some (by kernel_rfl))⟩
  f25 := ⟨Try.f151.name, by decide, Try.func151.trans (congrArg some (by kernel_rfl))⟩
  f26 := ⟨Try.f152.name, by decide, Try.func152.trans (congrArg some (by kernel_rfl))⟩
  f27 := ⟨Try.f153.name, by decide, Try.func153.trans (congrArg some (by kernel_rfl))⟩
  f28 := Try.func154.trans (congrArg some (by kernel_rfl))
  f29 := Try.func155.trans (congrArg some (by kernel_rfl))
  f46 := ⟨Try.f166.name, by decide, Try.func166.trans (congrArg some (by kernel_rfl))⟩
  f47 := Try.func167.trans (congrArg some (by kernel_rfl))
  f48 := Try.func168.trans (congrArg some (by kernel_rfl))
  f49 := ⟨Try.f169.name, by decide, Try.func169.trans (congrArg some (by kernel_rfl))⟩
  f50 := ⟨Try.f170.name, by decide, Try.func170.trans (congrArg some (by kernel_rfl))⟩
  f57 := ⟨Try.f174.name, by decide, Try.func174.trans (congrArg some (by kernel_rfl))⟩
  t0 := Try.underlying0
  a0 := Try.isAgg0
  z0 := Try.sizeOf0
  v0 := Try.zeroValue0
  t3 := Try.underlying3
  a3 := Try.isAgg3
  z3 := Try.sizeOf3
  v3 := Try.zeroValue3
  t4 := Try.underlying4
  a4 := Try.isAgg4
  z4 := Try.sizeOf4
  v4 := Try.zeroValue4
  t5 := Try.underlying5
  a5 := Try.isAgg5
  z5 := Try.sizeOf5
  v5 := Try.zeroValue5
  t9 := Try.underlying9
  a9 := Try.isAgg9
  z9 := Try.sizeOf9
  v9 := Try.zeroValue9
  t22 := Try.underlying24
  a22 := Try.isAgg24
  z22 := Try.sizeOf24
  v22 := Try.zeroValue24
  t25 := Try.underlying115
  a25 := Try.isAgg115
  z25 := Try.sizeOf115
  v25 := Try.zeroValue115
  t39 := Try.underlying119
  a39 := Try.isAgg119
  z39 := Try.sizeOf119
  v39 := Try.zeroValue119
  t45 := Try.underlying154
  a45 := Try.isAgg154
  z45 := Try.sizeOf154
  v45 := Try.zeroValue154
  t46 := Try.underlying155
  a46 := Try.isAgg155
  z46 := Try.sizeOf155
  v46 := Try.zeroValue155
  t50 := Try.underlying61
  a50 := Try.isAgg61
  z50 := Try.sizeOf61
  v50 := Try.zeroValue61
  t53 := Try.underlying161
  a53 := Try.isAgg161
  z53 := Try.sizeOf161
  v53 := Try.zeroValue161
  t55 := Try.underlying78
  a55 := Try.isAgg78
  z55 := Try.sizeOf78
  v55 := Try.zeroValue78
  t66 := Try.underlying170
  a66 := Try.isAgg170
  z66 := Try.sizeOf170
  v66 := Try.zeroValue170
  t70 := Try.underlying174
  a70 := Try.isAgg174
  z70 := Try.sizeOf174
  v70 := Try.zeroValue174
  t76 := Try.underlying178
  a76 := Try.isAgg178
  z76 := Try.sizeOf178
  v76 := Try.zeroValue178
  t77 := Try.underlying179
  a77 := Try.isAgg179
  z77 := Try.sizeOf179
  v77 := Try.zeroValue179 }
end Go.Proofs
/- slices.SortFunc over relations. -/
namespace Go.Proofs.Ythcjembekadijaa.SortR
open Go.RowKit Pairs Rec RecEq Keep Row2 Copy Two SwapM Rw Cmp RelM
open Go.Sort (SWO grow flatK putRowK HoldsK size_flatK get_flatK putCells putRow mapBlock)
def encR (x : Int × Int) : List Value := [.int .i64 x.1, .int .i64 x.2]
theorem lt_is (x y : Int × Int) : ltOf cmpR x y = GoodM.before x y := by
  unfold ltOf
  cases h : GoodM.before x y with
  | true => exact decide_eq_true ((cmpR_lt x y).2 h)
  | false => exact decide_eq_false (fun e => by rw [(cmpR_lt x y).1 e] at h; cases h)
theorem swoR : SWO (ltOf cmpR) where
  irrefl x := by rw [lt_is]; exact before_irrefl x
  trans x y z h1 h2 := by rw [lt_is] at *; exact before_trans h1 h2
  ntrans x y z h1 h2 := by
    rw [lt_is] at *
    have n1 : ¬ GoodM.before x y = true := by simp [h1]
    have n2 : ¬ GoodM.before y z = true := by simp [h2]
    cases h : GoodM.before x z with
    | false => rfl
    | true =>
      rw [before_iff] at n1 n2 h
      omega
theorem totR (x y : Int × Int) (h1 : ltOf cmpR x y = false) (h2 : ltOf cmpR y x = false) : x = y := by
  rw [lt_is] at h1 h2
  exact before_total h1 h2
theorem le_is : (fun x y : Int × Int => !(ltOf cmpR) y x) = leR := by
  funext x y
  rw [lt_is]
  rfl
theorem grown_of {w w' : World} (hb : Below w.heap.size w w') (hd : w.drawn ≤ w'.drawn) : ∃ q os, w' = grow (w.drewN q) os := by
  obtain ⟨p, hp⟩ := regrown_of_below hb
  have hdd : w'.drawn = p.d := by rw [hp]; rfl
  refine ⟨p.d - w.drawn, p.os, ?_⟩
  rw [hp]
  have e : redrawn w p.d = w.drewN (p.d - w.drawn) := by
    unfold redrawn World.drewN
    congr 1
    omega
  rw [e]
theorem cmpLays (blk off size : Nat) (w : World) : CmpLays Try.prog 91 #[] encR 2 cmpR blk off size w :=
  fun _ _ _ _ x y => (compareRel_any x.1 x.2 y.1 y.2 _).mono fun _ _ ⟨he, hb, hd⟩ => ⟨he, grown_of hb hd⟩
variable {w0 w : World} {g n j : Nat} {P m : List (Int × Int)}
theorem flat_is {t : Nat} (ht : t < P.length * 2) : (flat P)[t]? = some ((flatK encR 2 P.toArray)[t]!) := by
  have hk : t / 2 < P.length := by omega
  have e := flat_get P (t / 2) P[t / 2].1 P[t / 2].2 (List.getElem?_eq_getElem hk)
  rw [get_flatK _ _ _ _ (by simpa using ht)]
  have hd : P.toArray[t / 2]! = P[t / 2] := by simp [hk]
  rw [hd]
  by_cases h : t = t / 2 * 2
  · have h2 : t % 2 = 0 := by omega
    rw [h2]
    conv => lhs; rw [h]
    rw [e.1]
    rfl
  · have h2 : t % 2 = 1 := by omega
    have h3 : t = t / 2 * 2 + 1 := by omega
    rw [h2]
    conv => lhs; rw [h3]
    rw [e.2]
    rfl
theorem holdsK_of (h : Rw w0 w g n P j m) : HoldsK encR 2 w g 0 P.toArray := by
  obtain ⟨ys, h1, h2, h3, h4, _, _⟩ := h
  intro t ht
  rw [size_flatK] at ht
  have ht' : t < P.length * 2 := by simpa using ht
  constructor
  · simp only [World.cell?, h1, Nat.zero_add, List.getElem?_toArray]
    rw [h4 t ht', flat_is ht']
    rfl
  · simp only [World.frozen?, h1]
    rfl
theorem rw_sorted (h : Rw w0 w g n P j m) (q : Nat) (D : List (Int × Int)) (hD : D.length = P.length) (os : Array Obj) : Rw w (sortWorldK encR 2 w g 0 q D.toArray os) g n D n [] := by
  obtain ⟨ys, h1, h2, h3, h4, _, _⟩ := h
  have hg := (Array.getElem?_eq_some_iff.1 h1).1
  have hb : (sortWorldK encR 2 w g 0 q D.toArray os).heap[g]? = some (.cells (putCells id 0 (flatK encR 2 D.toArray) ys.toArray) 39) := by
    show ((w.heap.modify g _) ++ os)[g]? = _
    rw [Array.getElem?_append_left (by simpa using hg), Array.getElem?_modify, if_pos rfl, h1]
    rfl
  refine ⟨(putCells id 0 (flatK encR 2 D.toArray) ys.toArray).toList, by rw [hb], ?_, by omega, ?_, fun t _ ht => by simp at ht, ⟨rfl, rfl, rfl, ?_, ?_⟩⟩
  · simp [putCells, h2]
  · intro t ht
    have hty : t < ys.length := by omega
    rw [flat_is ht]
    simp only [putCells, Array.getElem?_toList, Array.getElem?_mapIdx, List.getElem?_toArray]
    rw [List.getElem?_eq_getElem hty, Option.map_some, if_pos ⟨Nat.zero_le _, by rw [size_flatK]; simpa using ht⟩]
    rfl
  · show w.heap.size ≤ ((w.heap.modify g _) ++ os).size
    simp
  · intro b hb2 hne
    show ((w.heap.modify g _) ++ os)[b]? = _
    rw [Array.getElem?_append_left (by simpa using hb2), Array.getElem?_modify, if_neg (fun e => hne e.symm)]
theorem sort_any (f : Nat) (hP : P.length = f) (hf : f ≤ 1048576) (h : Rw w0 w g n P j m) :
    Calls Try.prog 133 #[.slice (some ⟨g, 0, none⟩) f n, .func (.func 91) #[] #[]] w fun e w' => e = .returned (.tuple #[]) ∧ Rw w w' g n (P.mergeSort leR) n [] := by
  by_cases hf0 : f = 0
  · subst hf0
    have hP0 : P = [] := List.eq_nil_of_length_eq_zero hP
    subst hP0
    have hcon := AnyF.slices_SortFunc_none { Try.sortRel with } (some ⟨g, 0, none⟩) n (.func (.func 91) #[] #[]) w
    refine hcon.mono ?_
    rintro e w' ⟨rfl, rfl⟩
    have h0 := h.again0
    have e0 : ([] : List (Int × Int)).mergeSort leR = [] := by simp
    rw [e0]
    exact ⟨rfl, h0.mono (Nat.zero_le _)⟩
  · have eg : ∀ args w, (callFunc 91 args).run Try.prog w = .ok (.enter 91 args) w := enters_of Try.func91 (by kernel_rfl) rfl
    have hcon := AnyQ.slices_SortFunc_total Try.sortRel 2 Try.isAgg39 Try.sizeOf39 encR (fun _ => rfl) (fun x v hv => by simp [encR] at hv; rcases hv with rfl | rfl <;> rfl) cmpR swoR 91 #[] g 0 n P.toArray w eg (cmpLays g 0 P.toArray.size w) (holdsK_of h) h.lt (by simp [hP]; omega) totR
    rw [le_is] at hcon
    simp only [List.size_toArray, hP] at hcon
    refine hcon.mono ?_
    rintro e w' ⟨rfl, q, os, rfl⟩
    exact ⟨rfl, rw_sorted h q _ (by rw [List.length_mergeSort]) os⟩
end Go.Proofs.Ythcjembekadijaa.SortR
/- slices.Compact over relations. -/
namespace Go.Proofs.Ythcjembekadijaa.CompactR
open Go.RowKit Pairs Rec RecEq Keep Row2 Copy Two SwapM Rw
theorem same_eq {x y u v : Int} (h : (x, y) = (u, v)) : (x == u && y == v) = true := by injection h with h1 h2; subst h1; subst h2; simp
theorem diff_eq {x y u v : Int} (h : (x, y) ≠ (u, v)) : (x == u && y == v) = false := by
  cases e : (x == u && y == v) with
  | false => rfl
  | true =>
    simp at e
    exact absurd (by rw [e.1, e.2]) h
theorem ct_short {L : List (Int × Int)} {f : Nat} (hL : L.length = f) (hf : f < 2) : ct L f = L := by
  match L, f, hL, hf with
  | [], 0, _, _ => rfl
  | [x], 1, _, _ => rfl
set_option maxRecDepth 100000 in
set_option maxHeartbeats 8000000 in
theorem compact_any (g f n : Nat) (L : List (Int × Int)) (hL : L.length = f) (hfn : f ≤ n) (hz : n ≤ 1048576) (w : World) (h : Rw w w g n [] 0 L) :
    Calls Try.prog 134 #[.slice (some ⟨g, 0, none⟩) f n] w fun e w' => e = .returned (.slice (some ⟨g, 0, none⟩) (ct L f).length n) ∧ ∃ j m', Rw w w' g n (ct L f) j m' := by
  by_cases hf2 : f < 2
  · have hct := ct_short hL hf2
    rw [hct, hL]
    have HR : Hid (Rw w w g n L f L) := by
      have h0 := h
      obtain ⟨ys, h1, h2, _, _, h5, h6⟩ := h0
      exact ⟨ys, h1, h2, by omega, fun t ht => h5 t (by omega) ht, fun t _ ht => h5 t (by omega) ht, h6⟩
    have hfi : (f : Int) < 2 := by omega
    clear hL hct h
    go_enter Try.func134, Try.ntmps134
    go_wp2_with fail
    go_ret
    exact ⟨rfl, f, L, HR.out⟩
  · have hfi : ¬ (f : Int) < 2 := by omega
    have HL := Lib.hid hL
    have HR0 := Lib.hid h
    clear hL h
    go_enter Try.func134, Try.ntmps134
    go_wp2_with fail
    go_loopw [3] (fun s3 wr => ∃ i : Nat, 1 ≤ i ∧ i ≤ f ∧ s3 = .int .i64 i ∧ Rw w wr g n [] 0 L ∧ Hid (ct L i = L.take i)) (fun s3 _ => f - (intOf s3).toNat)
    case atStart => exact ⟨1, by omega, by omega, rfl, HR0.out, by
      unfold Hid
      obtain ⟨x, hx⟩ : ∃ x, L[0]? = some x := ⟨_, List.getElem?_eq_getElem (by rw [HL.out]; omega)⟩
      rw [ct_new hx (.inl rfl), List.take_add_one, hx]
      rfl⟩
    case round =>
      obtain ⟨i, hi1, hi2, rfl, hR, HC⟩ := hrel
      by_cases hlt : i < f
      · obtain ⟨x, y, hx⟩ : ∃ x y, L[i]? = some (x, y) := ⟨L[i]'(by rw [HL.out]; exact hlt) |>.1, L[i]'(by rw [HL.out]; exact hlt) |>.2, List.getElem?_eq_getElem (by rw [HL.out]; exact hlt)⟩
        obtain ⟨u, v, hu⟩ : ∃ u v, L[i - 1]? = some (u, v) := ⟨L[i - 1]'(by rw [HL.out]; omega) |>.1, L[i - 1]'(by rw [HL.out]; omega) |>.2, List.getElem?_eq_getElem (by rw [HL.out]; omega)⟩
        obtain ⟨e1, e2⟩ := hR.cells (Nat.zero_le _) hx
        obtain ⟨d1, d2⟩ := hR.cells (Nat.zero_le _) hu
        obtain ⟨q, rfl⟩ : ∃ q, i = q + 1 := ⟨i - 1, by omega⟩
        rw [Nat.add_sub_cancel] at d1 d2 hu
        have HX := Lib.hid hx
        have HU := Lib.hid hu
        have HR := Lib.hid hR
        have hii : ((q + 1 : Nat) : Int) < (f : Int) := by omega
        have hwr : IntKind.i64.wrap (((q + 1 : Nat) : Int) - 1) = (q : Int) := by rw [IntKind.wrap_i64]; omega
        have hwr2 : IntKind.i64.wrap ((q : Int) + 1 - 1) = (q : Int) := by rw [IntKind.wrap_i64]; omega
        have hE := Eq2.equal2
        have hG := Eq2.guard2
        clear hx hu hR
        by_cases hxy : (x, y) = (u, v)
        · have hbo := same_eq hxy
          have HD : Hid (ct L (q + 1 + 1) = L.take (q + 1)) := by
            unfold Hid
            rw [ct_old HX.out (by rintro (h | h); · omega
                                  · exact h (by rw [Nat.add_sub_cancel, HU.out, hxy])), HC.out]
          clear hxy
          have hqn : ¬ n = q + 1 := by omega
          have hqi : (q : Int) + 1 ≤ (f : Int) := by omega
          go_wp2_with fail
          go_quiet (fail)
          clear hbo hE hG d1 d2 e1 e2
          go_wp2_with fail
          clear hwr hwr2
          have HLD : Hid ((ct L (q + 1 + 1)).length = q + 1) := by unfold Hid; rw [HD.out, List.length_take, HL.out]; omega
          have HRD : Hid (Rw w (wr.drewN nq) g n (ct L (q + 1 + 1)) (q + 1) L) := by
            unfold Hid
            rw [HD.out]
            exact (HR.out.below (Joins.below_draws _ _ _)).fill (by rw [HL.out]; omega) (by rw [HL.out]; omega)
          obtain ⟨r, hr⟩ : ∃ r, f - (q + 1) = r := ⟨_, rfl⟩
          obtain ⟨c, hc⟩ : ∃ c, n - (q + 1) = c := ⟨_, rfl⟩
          have HRR : Hid (f = q + 1 + r) := by unfold Hid; omega
          have hr1 : 1 ≤ r := by omega
          rw [hr, hc]
          clear hr hc
          go_loopw [3, 5] (fun s3 s5 wq => ∃ k : Nat, 1 ≤ k ∧ k ≤ r ∧ s5 = .int .i64 k ∧ s3 = .int .i64 ((ct L (q + 1 + k)).length : Nat) ∧ Rw w wq g n (ct L (q + 1 + k)) (q + k) L ∧ Hid ((ct L (q + 1 + k)).length ≤ q + k)) (fun _ s5 _ => r - (intOf s5).toNat)
          case atStart => exact ⟨1, Nat.le_refl _, hr1, rfl, by rw [HLD.out], HRD.out, by unfold Hid; rw [HLD.out]; omega⟩
          case round =>
            obtain ⟨k, hk1, hk2, rfl, rfl, hR2, HK⟩ := hrel
            obtain ⟨p, hp⟩ : ∃ p, (ct L (q + 1 + k)).length = p := ⟨_, rfl⟩
            have HP := Lib.hid hp
            rw [hp]
            have hpk : p ≤ q + k := by rw [← hp]; exact HK.out
            clear hp
            by_cases hlt2 : k < r
            · obtain ⟨t, rfl⟩ : ∃ t, k = t + 1 := ⟨k - 1, by omega⟩
              have hl1 : q + 1 + (t + 1) < L.length := by rw [HL.out, HRR.out]; omega
              obtain ⟨x, y, hx⟩ : ∃ x y, L[q + 1 + (t + 1)]? = some (x, y) := ⟨L[q + 1 + (t + 1)].1, L[q + 1 + (t + 1)].2, List.getElem?_eq_getElem hl1⟩
              obtain ⟨u, v, hu⟩ : ∃ u v, L[q + 1 + t]? = some (u, v) := ⟨(L[q + 1 + t]'(by omega)).1, (L[q + 1 + t]'(by omega)).2, List.getElem?_eq_getElem (by omega)⟩
              obtain ⟨e1, e2⟩ := hR2.cells (k := q + 1 + (t + 1)) (by omega) hx
              obtain ⟨d1, d2⟩ := hR2.cells (k := q + 1 + t) (by omega) hu
              rw [show (q + 1 + (t + 1)) * 2 = (q + 1) * 2 + (t + 1) * 2 by omega] at e1 e2
              rw [show (q + 1 + t) * 2 = (q + 1) * 2 + t * 2 by omega] at d1 d2
              have HX := Lib.hid hx
              have HU := Lib.hid hu
              have HR2 := Lib.hid hR2
              have hE := Eq2.differ2
              have hG := Eq2.guard2
              have hpn : p < n := by have := HRR.out; omega
              have hpf : p < f := by rw [HRR.out]; omega
              obtain ⟨⟨c0, hc0⟩, hf0⟩ := hR2.there (t := p * 2) (by omega)
              obtain ⟨⟨c1, hc1⟩, hf1⟩ := hR2.there (t := p * 2 + 1) (by omega)
              have hti : ((t + 1 : Nat) : Int) < (r : Int) := by omega
              have hpi : (p : Int) < (f : Int) := by omega
              have hti2 : (t : Int) + 1 < (r : Int) := by omega
              have htb : (t : Int) + 1 ≤ 1048576 := by have := HRR.out; omega
              have hti3 : (t : Int) < (r : Int) := by omega
              have ht0 : (0 : Int) ≤ (t : Int) + 1 := by omega
              have htn : ((t : Int) + 1).toNat = t + 1 := by omega
              have hwr : IntKind.i64.wrap (t : Int) = (t : Int) := by have := HRR.out; rw [IntKind.wrap_i64]; omega
              clear hx hu hR2
              by_cases hxy : (x, y) = (u, v)
              · have hbo := same_eq hxy
                have HD2 : Hid (ct L (q + 1 + (t + 1) + 1) = ct L (q + 1 + (t + 1))) := by
                  unfold Hid
                  rw [ct_old HX.out (by rintro (h | h); · omega
                                        · exact h (by rw [show q + 1 + (t + 1) - 1 = q + 1 + t by omega, HU.out, hxy]))]
                clear hxy hc0 hc1 hf0 hf1
                go_wp2_with fail
                go_quiet (fail)
                clear hbo hE hG d1 d2 e1 e2 hwr
                go_wp2_with fail
                clear htn ht0 htb hti2 hti3
                exact ⟨⟨t + 1 + 1, by omega, by omega, by go_num, by rw [show q + 1 + (t + 1 + 1) = q + 1 + (t + 1) + 1 by omega, HD2.out, HP.out], by rw [show q + 1 + (t + 1 + 1) = q + 1 + (t + 1) + 1 by omega, HD2.out]; exact (HR2.out.below (Joins.below_draws _ _ _)).mono (by omega), by unfold Hid; rw [show q + 1 + (t + 1 + 1) = q + 1 + (t + 1) + 1 by omega, HD2.out, HP.out]; omega⟩, by simp [intOf]; omega⟩
              · have hbo := diff_eq hxy
                have HD2 : Hid (ct L (q + 1 + (t + 1) + 1) = ct L (q + 1 + (t + 1)) ++ [(x, y)]) := by
                  unfold Hid
                  exact ct_new HX.out (.inr (by rw [show q + 1 + (t + 1) - 1 = q + 1 + t by omega, HU.out]; intro e; injection e with e; exact hxy e.symm))
                clear hxy
                go_wp2_with fail
                go_quiet (fail)
                clear hwr
                go_wp2_with fail
                clear htn ht0 htb hti2 hti3
                have hput := (HR2.out.below (Joins.below_draws _ _ nq)).put2 (j' := q + (t + 1 + 1)) (by omega) (by rw [HP.out]; omega) (by rw [HP.out]; exact hpn) x y
                rw [HP.out] at hput
                exact ⟨⟨t + 1 + 1, by omega, by omega, by go_num, by rw [show q + 1 + (t + 1 + 1) = q + 1 + (t + 1) + 1 by omega, HD2.out, List.length_append, HP.out]; go_num, by rw [show q + 1 + (t + 1 + 1) = q + 1 + (t + 1) + 1 by omega, HD2.out]; exact hput, by unfold Hid; rw [show q + 1 + (t + 1 + 1) = q + 1 + (t + 1) + 1 by omega, HD2.out, List.length_append, HP.out]; simp; omega⟩, by simp [intOf]; omega⟩
            · obtain rfl : k = r := by omega
              have hpf : p < f := by rw [HRR.out]; omega
              have hpn : ¬ n = p := by omega
              have hpi : (p : Int) ≤ (f : Int) := by omega
              have hpc : (p : Int) ≤ (n : Int) := by omega
              have hff : q + 1 + k = f := HRR.out.symm
              rw [hff] at hR2 HP
              have hcl : ∀ c ty, (Builtin.clear_ #[25] ty #[.slice (some ⟨g, p * 2, none⟩) (f - p) c]).run Try.prog wr = .ok (.tuple #[]) (wr.setCells g (p * 2) (DelF.zl (f - p))) := fun c ty =>
                DelF.run_clear2 wr _ _ ty Try.underlying25 DelF.zeroRelation g (p * 2) c (f - p) (by omega) (fun t ht => by obtain ⟨⟨v, hv⟩, _⟩ := hR2.there (t := p * 2 + t) (by omega); rw [hv]; rfl) (fun t ht => (hR2.there (t := p * 2 + t) (by omega)).2)
              have HE : Hid (Rw w (wr.setCells g (p * 2) (DelF.zl (f - p))) g n (ct L f) n []) := hR2.clear HP.out (by omega)
              have hki : ¬ (k : Int) < (k : Int) := by omega
              have hfp : ¬ f = p := by omega
              clear hR2 hff
              go_wp2_with fail
              go_ret
              exact ⟨by rw [HP.out]; rfl, n, [], HE.out⟩
        · have hbo := diff_eq hxy
          have HD : Hid (ct L (q + 1 + 1) = L.take (q + 1 + 1)) := by
            unfold Hid
            rw [ct_new HX.out (.inr (by rw [Nat.add_sub_cancel, HU.out]; intro e; injection e with e; exact hxy e.symm)), HC.out, List.take_add_one (i := q + 1), HX.out]
            rfl
          clear hxy
          go_wp2_with fail
          go_quiet (fail)
          go_wp2_with fail
          exact ⟨⟨q + 1 + 1, by omega, by omega, by go_num, HR.out.below (Joins.below_draws _ _ _), HD⟩, by simp [intOf]; omega⟩
      · obtain rfl : i = f := by omega
        have hii : ¬ (i : Int) < (i : Int) := by omega
        have HRL : Hid (∃ j m', Rw w wr g n (ct L i) j m') := by
          refine ⟨i, L, ?_⟩
          rw [HC.out]
          exact hR.fill (by rw [HL.out]; omega) (by rw [HL.out]; omega)
        have HLC : Hid ((ct L i).length = i) := by unfold Hid; rw [HC.out, List.length_take, HL.out]; omega
        go_wp2_with fail
        go_ret
        exact ⟨by rw [HLC.out]; rfl, HRL.out⟩
end Go.Proofs.Ythcjembekadijaa.CompactR
/- The program's renumberRelations: a number replaced in relations of one's own. -/
namespace Go.Proofs.Ythcjembekadijaa.Renum
open Go.RowKit Pairs Rec RecEq Keep Row2 Copy Two SwapM Rw
set_option maxRecDepth 100000 in
set_option maxHeartbeats 8000000 in
theorem renum_any (o q : Int) (g n : Nat) (m : List (Int × Int)) (hm : m.length = n) (hz : n ≤ 1048576) (w : World) (h : w.heap[g]? = some (.cells (flat m).toArray 39)) :
    Calls Try.prog 96 #[.slice (some ⟨g, 0, none⟩) n n, .int .i64 o, .int .i64 q] w fun e w' => e = .returned (.slice (some ⟨g, 0, none⟩) (swapM o q m).length n) ∧ ∃ j m', Rw w w' g n (swapM o q m) j m' := by
  have HR0 := Lib.hid (Rw.start h hm)
  have HM := Lib.hid hm
  clear h hm
  have hn0 : (0 : Int) ≤ (n : Int) := by omega
  go_enter Try.func96, Try.ntmps96
  go_wp2_with fail
  go_loopw [7, 14] (fun s7 s14 wr => ∃ k f : Nat, k ≤ n ∧ s14 = .int .i64 k ∧ s7 = .slice (some ⟨g, 0, none⟩) f n ∧ Hid ((pre o q (m.take k)).length = f) ∧ Rw w wr g n (pre o q (m.take k)) k m) (fun _ s14 _ => n - (intOf s14).toNat)
  case atStart => exact ⟨0, 0, Nat.zero_le _, rfl, by simp, rfl, HR0.out⟩
  case round =>
    obtain ⟨k, f, hk, rfl, rfl, HF, hR⟩ := hrel
    have hfk : f ≤ k := by rw [← HF.out]; exact pre_len o q m k
    by_cases hlt : k < n
    · obtain ⟨x, y, hx⟩ : ∃ x y, m[k]? = some (x, y) := ⟨(m[k]'(by rw [HM.out]; exact hlt)).1, (m[k]'(by rw [HM.out]; exact hlt)).2, List.getElem?_eq_getElem (by rw [HM.out]; exact hlt)⟩
      obtain ⟨e1, e2⟩ := hR.cells (Nat.le_refl k) hx
      have HX := Lib.hid hx
      have HR := Lib.hid hR
      have hki : (k : Int) < (n : Int) := by omega
      have hk0 : (0 : Int) ≤ (k : Int) := by omega
      have hb7 := below_alloc wr (.cells #[.int .i64 x, .int .i64 y] 39)
      have u1 := box_first wr (.int .i64 x) (.int .i64 y) 39
      have u2' := box_second wr (.int .i64 x) (.int .i64 y) 39
      have hnew := heap_alloc_new wr (.cells #[.int .i64 x, .int .i64 y] 39)
      have hsz7 : wr.heap.size < (wr.alloc (.cells #[.int .i64 x, .int .i64 y] 39)).heap.size := by simp
      have v1 : (wr.alloc (.cells #[.int .i64 x, .int .i64 y] 39)).frozen? ⟨wr.heap.size, 0, none⟩ = false := by simp only [World.frozen?, hnew]; rfl
      have v2 : (wr.alloc (.cells #[.int .i64 x, .int .i64 y] 39)).frozen? ⟨wr.heap.size, 1, none⟩ = false := by simp only [World.frozen?, hnew]; rfl
      clear hx hR hnew
      go_wp2_with fail
      generalize wr.alloc (.cells #[.int .i64 x, .int .i64 y] 39) = W7 at *
      refine (RnR.renumber_any o q x y W7).mono ?_
      rintro e w8 ⟨rfl, b8⟩
      have c1' := (b8.cell (p := ⟨wr.heap.size, 0, none⟩) hsz7).trans u1
      have c2' := (b8.cell (p := ⟨wr.heap.size, 1, none⟩) hsz7).trans u2'
      have t1 := fz b8 ⟨wr.heap.size, 0, none⟩ hsz7 v1
      have t2 := fz b8 ⟨wr.heap.size, 1, none⟩ hsz7 v2
      have HB8 := Lib.hid (hb7.trans (b8.mono hb7.size))
      clear u1 u2' v1 v2 e1 e2 hb7 b8
      have HNX : Hid (pre o q (m.take (k + 1)) = pre o q (m.take k) ++ (if nz (rnp o q (x, y)) = true then [rnp o q (x, y)] else [])) := pre_next HX.out
      obtain ⟨z1, z2⟩ := set2_cells (u := .int .i64 (rn o q x)) (v := .int .i64 (rn o q y)) c1' c2'
      have HBX : Hid (Below wr.heap.size wr ((w8.setCell ⟨wr.heap.size, 0, none⟩ (.int .i64 (rn o q x))).setCell ⟨wr.heap.size, 1, none⟩ (.int .i64 (rn o q y)))) := (HB8.out.setCell (p := ⟨wr.heap.size, 0, none⟩) (Nat.le_refl _) _).setCell (p := ⟨wr.heap.size, 1, none⟩) (Nat.le_refl _) _
      by_cases hne : rn o q x = rn o q y
      · have HNZ : Hid (nz (rnp o q (x, y)) = false) := decide_eq_false (fun h => h hne)
        rw [hne] at z1 HBX ⊢
        have HPR : Hid (pre o q (m.take (k + 1)) = pre o q (m.take k)) := by unfold Hid; rw [HNX.out, HNZ.out]; simp
        clear hne
        generalize rn o q y = p2 at *
        go_wp2_with fail
        exact ⟨⟨k + 1, f, by omega, by go_num, rfl, by unfold Hid; rw [HPR.out]; exact HF.out, by rw [HPR.out]; exact (HR.out.below HBX.out).mono (Nat.le_succ _)⟩, by simp [intOf]; omega⟩
      · have HNZ : Hid (nz (rnp o q (x, y)) = true) := decide_eq_true hne
        have hq1 : (rn o q x == rn o q y) = false := beq_false_of_ne hne
        have hq2 : (rn o q x != rn o q y) = true := by rw [bne, hq1]; rfl
        have HPR : Hid (pre o q (m.take (k + 1)) = pre o q (m.take k) ++ [(rn o q x, rn o q y)]) := by unfold Hid; rw [HNX.out, HNZ.out]; rfl
        clear hne
        have HXS : Hid (((w8.setCell ⟨wr.heap.size, 0, none⟩ (.int .i64 (rn o q x))).setCell ⟨wr.heap.size, 1, none⟩ (.int .i64 (rn o q y))).heap.size = w8.heap.size) := by unfold Hid; simp
        have hal := below_alloc ((w8.setCell ⟨wr.heap.size, 0, none⟩ (.int .i64 (rn o q x))).setCell ⟨wr.heap.size, 1, none⟩ (.int .i64 (rn o q y))) (.cells #[.int .i64 (rn o q x), .int .i64 (rn o q y)] 39)
        have hpv := heap_alloc_new ((w8.setCell ⟨wr.heap.size, 0, none⟩ (.int .i64 (rn o q x))).setCell ⟨wr.heap.size, 1, none⟩ (.int .i64 (rn o q y))) (.cells #[.int .i64 (rn o q x), .int .i64 (rn o q y)] 39)
        rw [HXS.out] at hpv
        obtain ⟨w9, hrun, hR9, -, -⟩ := (HR.out.below (HBX.out.trans (hal.mono HBX.out.size))).append (j' := k + 1) (f := f) (by omega) HF.out (by omega) (by omega) hpv 25
        have HRUN := Lib.hid hrun
        have HR9 := Lib.hid hR9
        clear hrun hR9 hpv hal
        generalize rn o q x = p1 at *
        generalize rn o q y = p2 at *
        go_wp2_with (at_builtin; refine Lib.wpList_append_run _ rfl _ _ _ _ rfl (.slice (some ⟨g, 0, none⟩) f n) (.slice (some ⟨w8.heap.size, 0, none⟩) 1 1) rfl rfl _ _ HRUN.out ?_)
        exact ⟨⟨k + 1, f + 1, by omega, by go_num, rfl, by unfold Hid; rw [HPR.out, List.length_append, HF.out]; rfl, by rw [HPR.out]; exact HR9.out⟩, by simp [intOf]; omega⟩
    · obtain rfl : k = n := by omega
      have hki : ¬ (k : Int) < (k : Int) := by omega
      have hall : m.take k = m := List.take_of_length_le (by rw [HM.out]; omega)
      rw [hall] at hR HF
      have HR := Lib.hid hR
      clear hR hall
      go_wp2_with fail
      refine (SortR.sort_any f HF.out (by omega) HR.out).mono ?_
      rintro e w5 ⟨rfl, hR5⟩
      have HR5 := Lib.hid hR5
      clear hR5
      go_wp2_with fail
      refine (CompactR.compact_any g f k ((pre o q m).mergeSort leR) (by rw [List.length_mergeSort]; exact HF.out) (by omega) hz w5 HR5.out.again0).mono ?_
      rintro e w6 ⟨rfl, j, m', hR6⟩
      have hcs := compact_sort o q m
      rw [HF.out] at hcs
      rw [hcs] at hR6 ⊢
      have HE : Hid (∃ j m', Rw w w6 g k (swapM o q m) j m') := ⟨j, m', hR6.rebase (HR.out.kept.trans HR5.out.kept)⟩
      clear hR6 hcs
      go_wp2_with fail
      go_ret
      exact ⟨rfl, HE.out⟩
end Go.Proofs.Ythcjembekadijaa.Renum
