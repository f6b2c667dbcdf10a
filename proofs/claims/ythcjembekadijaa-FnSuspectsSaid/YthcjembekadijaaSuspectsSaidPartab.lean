/- The groups part the suspects: mathematics. -/
import Derived.Test.YthcjembekadijaaSuspectsSaidPartaa
import Derived.Test.YthcjembekadijaaCycleSaidPartab
import Derived.Test.YthcjembekadijaaCycleSaidPartac
import Derived.Test.YthcjembekadijaaOrderSaidPartap
namespace Go.Proofs.Ythcjembekadijaa.SusL
open Pairs Rec Chain Find2 GoodM That IsLater Consist OrdM RedM RedOf SusI GrpM SS
theorem sum_step (q : Int → Bool) (b : Int → Nat) : ∀ l : List Int, (l.map fun p => (if q p = true then 1 else 0) + b p).sum = (l.filter q).length + (l.map b).sum
  | [] => rfl
  | p :: l => by
    have ih := sum_step q b l
    simp only [List.map_cons, List.sum_cons, List.filter_cons]
    rw [ih]
    cases q p <;> simp <;> omega
theorem sum_zero : ∀ l : List Int, (l.map fun _ => 0).sum = 0
  | [] => rfl
  | _ :: l => by simpa using sum_zero l
theorem sum_swap (r : Int → Int → Bool) (l : List Int) : ∀ F : List Int, (F.map fun f => (l.filter (r f)).length).sum = (l.map fun p => (F.filter (fun f => r f p)).length).sum
  | [] => by simpa using (sum_zero l).symm
  | f :: F => by
    have ih := sum_swap r l F
    rw [List.map_cons, List.sum_cons, ih, ← sum_step (r f)]
    congr 1
    refine List.map_congr_left fun p _ => ?_
    rw [List.filter_cons]
    cases r f p <;> simp <;> omega
theorem sum_one (q : Int → Bool) (l : List Int) : (l.map fun p => if q p = true then 1 else 0).sum = (l.filter q).length := by
  have h := sum_step q (fun _ => 0) l
  rw [sum_zero] at h
  simpa using h
theorem one_len {q : Int → Bool} {h : Int} : ∀ {L : List Int}, L.Nodup → h ∈ L → (∀ x ∈ L, q x = true ↔ x = h) → (L.filter q).length = 1 := by
  intro L hn hm hq
  have h1 : h ∈ L.filter q := List.mem_filter.2 ⟨hm, (hq h hm).2 rfl⟩
  have h2 : ∀ x ∈ L.filter q, x = h := fun x hx => (hq x (List.mem_filter.1 hx).1).1 (List.mem_filter.1 hx).2
  have h3 : (L.filter q).Nodup := List.Pairwise.filter _ hn
  match hL : L.filter q with
  | [] => rw [hL] at h1; exact absurd h1 (by simp)
  | [_] => rfl
  | a :: b :: t =>
    rw [hL] at h2 h3
    have e1 := h2 a (by simp)
    have e2 := h2 b (by simp)
    rw [e1, e2] at h3
    exact absurd h3 (by simp)
theorem sel_keys (q : Int → Bool) (l : Ps) : sel q l = (keys l).filter q := by
  unfold sel keys
  rw [List.filter_map]
  rfl
theorem grp_eq {l m : Ps} {a b : Int} (h : mtl m a b = true) : grp l m a = grp l m b := by
  unfold grp
  congr 1
  funext x
  rw [Bool.eq_iff_iff]
  exact ⟨fun k => mtl_trans (by rw [mtl_comm]; exact h) k, fun k => mtl_trans h k⟩
noncomputable def firsts (l m : Ps) : List Int := (sel (sus m) l).filter (isFst l m)
theorem firsts_nodup {l m : Ps} (hg : good l m = true) : (firsts l m).Nodup := by
  unfold firsts
  rw [sel_keys]
  refine List.Pairwise.filter _ (List.Pairwise.filter _ ?_)
  exact (CycI.keys_sorted hg).imp (fun h e => by omega)
theorem one_of {l m : Ps} (hg : good l m = true) {p : Int} (hp : p ∈ keys l) : ((firsts l m).filter (fun f => mtl m f p)).length = if sus m p = true then 1 else 0 := by
  cases hs : sus m p with
  | false =>
    rw [if_neg (by simp), List.length_eq_zero_iff, List.filter_eq_nil_iff]
    intro f _ h
    rw [mtl_comm] at h
    rw [mtl_sus h] at hs
    cases hs
  | true =>
    rw [if_pos rfl]
    obtain ⟨h, hh⟩ : ∃ h, (grp l m p)[0]? = some h := ⟨_, List.getElem?_eq_getElem (grp_ne hp hs)⟩
    have hm := mem_sel.1 (show h ∈ sel (mtl m p) l from List.mem_of_getElem? hh)
    have hgh := grp_eq (l := l) hm.2
    have hF : h ∈ firsts l m := by
      refine List.mem_filter.2 ⟨mem_sel.2 ⟨hm.1, mtl_sus (by rw [mtl_comm]; exact hm.2)⟩, ?_⟩
      unfold isFst
      rw [← hgh, hh]
      simp
    refine one_len (h := h) (firsts_nodup hg) hF (fun x hx => ⟨fun hq => ?_, fun e => ?_⟩)
    · have h1 := (List.mem_filter.1 hx).2
      unfold isFst at h1
      rw [decide_eq_true_eq, grp_eq (l := l) hq, hh] at h1
      injection h1 with h1
      exact h1.symm
    · subst e
      rw [mtl_comm]
      exact hm.2
theorem grps_sum {l m : Ps} (hg : good l m = true) : ((grps l m (sel (sus m) l)).map List.length).sum = (sel (sus m) l).length := by
  unfold grps
  rw [List.map_map]
  have e : (List.length ∘ grp l m) = fun f => ((keys l).filter (mtl m f)).length := by
    funext f
    show (sel (mtl m f) l).length = _
    rw [sel_keys]
  rw [e, sum_swap (mtl m) (keys l) ((sel (sus m) l).filter (isFst l m)), sel_keys (sus m), ← sum_one (sus m) (keys l)]
  congr 1
  refine List.map_congr_left fun p hp => ?_
  have := one_of hg hp
  unfold firsts at this
  rw [sel_keys (sus m)] at this
  exact this
theorem off_sum (R : List (List Int)) : ∀ k, off R k = ((R.take k).map List.length).sum
  | 0 => rfl
  | k + 1 => by
    show off R k + (R[k]?.getD []).length = _
    rw [off_sum R k, List.take_add_one]
    cases h : R[k]? <;> simp
theorem grps_off {l m : Ps} (hg : good l m = true) : off (grps l m (sel (sus m) l)) (grps l m (sel (sus m) l)).length = (sel (sus m) l).length := by
  rw [off_sum, List.take_length, grps_sum hg]
theorem grps_mem {l m : Ps} {i : Nat} {g : List Int} (h : (grps l m (sel (sus m) l))[i]? = some g) : ∀ x ∈ g, x ∈ sel (sus m) l := by
  intro x hx
  obtain ⟨f, _, rfl⟩ := List.mem_map.1 (List.mem_of_getElem? h)
  have h1 := mem_sel.1 (show x ∈ sel (mtl m f) l from hx)
  exact mem_sel.2 ⟨h1.1, mtl_sus (by rw [mtl_comm]; exact h1.2)⟩
end Go.Proofs.Ythcjembekadijaa.SusL
/- A row more, for rows of rows that lie in a variable. -/
namespace Go.Proofs.Ythcjembekadijaa.SSApp
open Go.RowKit Pairs Rec Keep GivesI That
theorem infoSlice : (Try.prog.info? 29).map (fun i => (i.zero, i.size, i.bytes)) = some (some (.slice none 0 0), 1, 24) := by kernel_rfl
theorem kept_row {X w1 : World} {B e s : Nat} {v : Value} {n : Nat} {xs : List Value} {row : Option Nat} (h : X.ownsRow B e s v n xs) (hg : X.grownBy w1 row) (hne : ∀ b, v.ownBlock = some b → row ≠ some b) : w1.ownsRow B e s v n xs := by
  refine World.ownsRow.kept (w := X) h hg ?_
  cases hv : v.ownBlock with
  | none => exact .inl rfl
  | some b => exact .inr (fun e => hne b hv e.symm)
/-- A row more, for rows that lie in a variable. -/
theorem ownSS_app {V X w1 : World} {B : Nat} {p : Option Addr} {d : Nat} {R : List (List Int)} {vs : List Value} (h : SS.OwnSS V B p R.length d R vs) (hB : B ≤ V.heap.size) (hX : Below V.heap.size V X) {pr : Option Addr} {dr : Nat} {r : List Int}
    (hr : X.ownsRow V.heap.size 3 1 (.slice pr r.length dr) r.length (ints r)) {g9 cap : Nat} (hown : w1.ownsRow B 29 1 (.slice (some ⟨g9, 0, none⟩) (R.length + 1) cap) (R.length + 1) (vs ++ [.slice pr r.length dr]))
    (hgrow : X.grownBy w1 (Value.slice p R.length d).ownBlock) (hat : (Value.slice p R.length d).ownBlock = some g9 ∨ X.heap.size ≤ g9) :
    SS.OwnSS w1 B (some ⟨g9, 0, none⟩) (R.length + 1) cap (R ++ [r]) (vs ++ [.slice pr r.length dr]) := by
  have hXs := hX.size
  have hg9 : ∀ b, (Value.slice (some ⟨g9, 0, none⟩) (R.length + 1) cap).ownBlock = some b → b = g9 := fun b hb => by simpa [Value.ownBlock] using hb.symm
  have hinl : ∀ b, SS.Inner vs b → b < V.heap.size := fun b hb => (h.inner hb).2
  have hrb : ∀ b, (Value.slice pr r.length dr).ownBlock = some b → V.heap.size ≤ b ∧ b < X.heap.size := fun b hb => hr.lt b hb
  have hout : ∀ b, (Value.slice p R.length d).ownBlock = some b → b < V.heap.size := fun b hb => (h.out.lt b hb).2
  have hlen : (R ++ [r]).length = R.length + 1 := by simp
  have hvl := h.vlen
  have get : ∀ (i : Nat) (v : Value), (vs ++ [Value.slice pr r.length dr])[i]? = some v → (i < R.length ∧ vs[i]? = some v) ∨ (i = R.length ∧ v = .slice pr r.length dr) := fun i v hv => by
    rcases Nat.lt_or_ge i R.length with hi | hi
    · rw [List.getElem?_append_left (by omega)] at hv
      exact .inl ⟨hi, hv⟩
    · rw [List.getElem?_append_right (by omega), hvl] at hv
      have hi2 : i < R.length + 1 := by
        rcases Nat.lt_or_ge (i - R.length) 1 with h1 | h1
        · omega
        · rw [List.getElem?_eq_none (by simpa using h1)] at hv
          cases hv
      have e : i = R.length := by omega
      subst e
      rw [Nat.sub_self] at hv
      injection hv with hv
      exact .inr ⟨rfl, hv.symm⟩
  refine ⟨hown, hlen, fun i s hs => ?_, fun i v b hv hb => ?_, fun i j u v b hu hv hbu hbv => ?_⟩
  · rcases Nat.lt_or_ge i R.length with hi | hi
    · rw [List.getElem?_append_left hi] at hs
      obtain ⟨pi, di, h1, h2⟩ := h.row i s hs
      exact ⟨pi, di, by rw [List.getElem?_append_left (by omega)]; exact h1, kept_row (ownsRow_below h2 hX) hgrow (fun b hb => h.far i _ b h1 hb)⟩
    · have hi2 : i = R.length := by
        have := (List.getElem?_eq_some_iff.1 hs).1
        rw [hlen] at this
        omega
      subst hi2
      rw [List.getElem?_append_right (Nat.le_refl _), Nat.sub_self] at hs
      injection hs with hs
      subst hs
      exact ⟨pr, dr, by rw [List.getElem?_append_right (by omega), hvl, Nat.sub_self]; rfl, kept_row (ownsRow_base hr hB) hgrow (fun b hb e => by have h1 := (hrb b hb).1; have h2 := hout b e; omega)⟩
  · intro e
    have e2 := hg9 b e
    subst e2
    rcases get i v hv with ⟨_, hv⟩ | ⟨_, hv⟩
    · rcases hat with hat | hat
      · exact h.far i v _ hv hb hat
      · have := hinl _ ⟨i, v, hv, hb⟩
        omega
    · subst hv
      have h1 := hrb _ hb
      rcases hat with hat | hat
      · have := hout _ hat
        omega
      · omega
  · rcases get i u hu with ⟨h1, hu⟩ | ⟨h1, hu⟩ <;> rcases get j v hv with ⟨h2, hv⟩ | ⟨h2, hv⟩
    · exact h.apart i j u v b hu hv hbu hbv
    · subst hv
      have e1 := hinl b ⟨i, u, hu, hbu⟩
      have e2 := (hrb b hbv).1
      omega
    · subst hu
      have e1 := hinl b ⟨j, v, hv, hbv⟩
      have e2 := (hrb b hbu).1
      omega
    · omega
theorem g1_app {B : Nat} {w wr X w9 : World} {v : Value} {L : List Int} {x : Int} {g9 cap9 : Nat} (h : That.G1 B w wr v L) (hs : B ≤ wr.heap.size) (hX : Below wr.heap.size wr X)
    (hown' : w9.ownsRow B 3 1 (.slice (some ⟨g9, 0, none⟩) (L.length + 1) cap9) (L.length + 1) (ints L ++ [.int .i64 x])) (hgrow : X.grownBy w9 v.ownBlock) : That.G1 B w w9 (.slice (some ⟨g9, 0, none⟩) (L.length + 1) cap9) (L ++ [x]) := by
  have hsx := hX.size
  refine ⟨?_, (h.2.trans (hX.mono hs)).grown hgrow (by omega) (fun j hj => (h.1.lt j hj).1)⟩
  rw [List.length_append, That.ints_append]
  exact hown'
end Go.Proofs.Ythcjembekadijaa.SSApp
/- The program's ContradictionGroups. -/
namespace Go.Proofs.Ythcjembekadijaa.GrpI
open Go.RowKit Go.Maps Pairs Rec Chain Find2 GoodM Keep GivesI Lows Order Idx That IsLater Consist OrdM RedM RedOf SusI GrpM SSApp
theorem map_ne {t : TypeId} {R : Value → Option (Dat × List MemPlace)} {g k B T s n : Nat} {D : Dat} {w : World} {v : Value} {xs : List Value} (h : w.ownsMap Try.prog t R g k D) (ho : w.ownsRow B T s v n xs) : some g ≠ v.ownBlock := by
  obtain ⟨es, clock, hb, _⟩ := h
  intro e
  rcases ho.2 with ⟨hv, _⟩ | ⟨g', cap, cur, hv, _, hh, _⟩
  · rw [hv] at e
    cases e
  · rw [hv] at e
    have e2 : g = g' := by simpa [Value.ownBlock] using e
    subst e2
    rw [hb] at hh
    cases hh
theorem ord_kept {X w9 : World} {l m : Ps} {bx B T s n : Nat} {v : Value} {xs : List Value} (h : IsOrd X l m bx) (ho : X.ownsRow B T s v n xs) (hg : X.grownBy w9 v.ownBlock) (hne : v.ownBlock ≠ some bx) : IsOrd w9 l m bx := by
  obtain ⟨bc, h1, D, hD, hk⟩ := h
  refine ⟨bc, (World.cell?_of_block (w := X) (w' := w9) (a := ⟨bx, 0, none⟩) (hg.block bx (World.block_lt_of_cell? X _ h1) (Ne.symm hne))).trans h1, D, World.ownsMap.kept hD hg (map_ne hD ho), fun x hx => ?_⟩
  obtain ⟨g, t, pv, e1, e2, e3, e4⟩ := hk x hx
  exact ⟨g, t, pv, e1, e2, e3.kept hg (map_ne e3 ho), e4⟩
structure St (B : Nat) (W wr : World) (bo bx : Nat) (l m : Ps) (ps : Option Addr) (ks ds : Nat) (L : List Int) (p : Option Addr) (D d : Nat) (R : List (List Int)) (vs : List Value) : Prop where
  own : SS.OwnSS wr B p D d R vs
  cf : wr.cell? ⟨bo, 0, none⟩ = some (.func (.func 119) #[] #[.pointer (some ⟨bx, 0, none⟩)])
  nf : (Value.slice p D d).ownBlock ≠ some bo
  ord : IsOrd wr l m bx
  nx : (Value.slice p D d).ownBlock ≠ some bx
  sp : wr.ownsRow B 3 1 (.slice ps ks ds) ks (ints L)
  ns : ∀ b, (Value.slice ps ks ds).ownBlock = some b → (Value.slice p D d).ownBlock ≠ some b
  bel : Below B W wr
  le : B ≤ wr.heap.size
theorem St.below {B : Nat} {W wr X : World} {bo bx : Nat} {l m : Ps} {ps : Option Addr} {ks ds : Nat} {L : List Int} {p : Option Addr} {D d : Nat} {R : List (List Int)} {vs : List Value} (h : St B W wr bo bx l m ps ks ds L p D d R vs) (hb : Below wr.heap.size wr X) : St B W X bo bx l m ps ks ds L p D d R vs :=
  ⟨h.own.below hb, (hb.cell (World.block_lt_of_cell? wr _ h.cf)).trans h.cf, h.nf, h.ord.below hb, h.nx, ownsRow_below h.sp hb, h.ns, h.bel.trans (hb.mono h.le), Nat.le_trans h.le hb.size⟩
theorem ord_lt {X : World} {l m : Ps} {bx : Nat} (h : IsOrd X l m bx) : bx < X.heap.size := by
  obtain ⟨bc, h1, _⟩ := h
  exact World.block_lt_of_cell? X _ h1
theorem St.app {B : Nat} {W wr X w9 : World} {bo bx : Nat} {l m : Ps} {ps : Option Addr} {ks ds : Nat} {L : List Int} {p : Option Addr} {d : Nat} {R : List (List Int)} {vs : List Value} (h : St B W wr bo bx l m ps ks ds L p R.length d R vs) (hX : Below wr.heap.size wr X) {pr : Option Addr} {dr : Nat} {r : List Int}
    (hr : X.ownsRow wr.heap.size 3 1 (.slice pr r.length dr) r.length (ints r)) {g9 cap : Nat} (hown : w9.ownsRow B 29 1 (.slice (some ⟨g9, 0, none⟩) (R.length + 1) cap) (R.length + 1) (vs ++ [.slice pr r.length dr]))
    (hgrow : X.grownBy w9 (Value.slice p R.length d).ownBlock) (hat : (Value.slice p R.length d).ownBlock = some g9 ∨ X.heap.size ≤ g9) :
    St B W w9 bo bx l m ps ks ds L (some ⟨g9, 0, none⟩) (R.length + 1) cap (R ++ [r]) (vs ++ [.slice pr r.length dr]) := by
  have hg9 : ∀ b, (Value.slice (some ⟨g9, 0, none⟩) (R.length + 1) cap).ownBlock = some b → b = g9 := fun b hb => by simpa [Value.ownBlock] using hb.symm
  have hS := h.below hX
  have off : ∀ b, (Value.slice p R.length d).ownBlock ≠ some b → b < X.heap.size → (Value.slice (some ⟨g9, 0, none⟩) (R.length + 1) cap).ownBlock ≠ some b := fun b h1 h2 e => by
    have e2 := hg9 b e
    subst e2
    rcases hat with hat | hat
    · exact h1 hat
    · omega
  refine ⟨ownSS_app h.own h.le hX hr hown hgrow hat, ?_, off bo h.nf (World.block_lt_of_cell? X _ hS.cf), ord_kept hS.ord hS.own.out hgrow h.nx, off bx h.nx (ord_lt hS.ord), kept_row hS.sp hgrow (fun b hb => h.ns b hb), fun b hb => off b (h.ns b hb) (hS.sp.lt b hb).2, hS.bel.grown hgrow hS.le (fun k hk => (hS.own.out.lt k hk).1), Nat.le_trans hS.le hgrow.size⟩
  exact (World.cell?_of_block (w := X) (w' := w9) (a := ⟨bo, 0, none⟩) (hgrow.block bo (World.block_lt_of_cell? X _ hS.cf) (Ne.symm h.nf))).trans hS.cf
theorem own_none {w : World} {B T s g : Nat} {xs : List Value} (h : w.ownsRow B T s (.slice (some ⟨g, 0, none⟩) 0 0) 0 xs) (j : Nat) : w.cell? ⟨g, j, none⟩ = none := by
  rcases h.2 with ⟨hv, _⟩ | ⟨g', cap, cur, hv, _, hh, r⟩
  · cases hv
  · injection hv with e1 _ e3
    injection e1 with e1
    injection e1 with e1 _ _
    subst e1
    subst e3
    obtain ⟨_, _, hz, _⟩ := r
    rw [cell_of_row w g j cur T (0, 0) hh]
    exact Array.getElem?_eq_none (by omega)
theorem clos_any (n x : Int) (bo bn bx : Nat) (l m : Ps) (W : World) (c1 : W.cell? ⟨bo, 0, none⟩ = some (.func (.func 119) #[] #[.pointer (some ⟨bx, 0, none⟩)])) (c2 : W.cell? ⟨bn, 0, none⟩ = some (.int .i64 n)) (h : IsOrd W l m bx) (hn : n ∈ keys l) (hx : x ∈ keys l) (hrx : -1000000 ≤ x ∧ x ≤ 1000000) (hrn : -1000000 ≤ n ∧ n ≤ 1000000) :
    Calls Try.prog 68 #[.int .i64 x, .pointer (some ⟨bo, 0, none⟩), .pointer (some ⟨bn, 0, none⟩)] W fun e w' => e = .returned (.bool (mtl m n x)) ∧ Below W.heap.size W w' := by
  have HI := Lib.hid h
  have HX := Lib.hid hx
  have HN := Lib.hid hn
  have HM : Hid (mtl m n x = (later m n x && later m x n)) := rfl
  clear h hx hn
  go_enter Try.func68, Try.ntmps68
  go_wp2_with fail
  refine (isLater_any bx l m n x W HI.out HN.out (by omega) (by omega)).mono ?_
  rintro e w' ⟨rfl, hw⟩
  have hw2 := hw.symm
  subst hw2
  clear hw
  cases h1 : later m n x with
  | false =>
    have HE : Hid (mtl m n x = false) := by unfold Hid; rw [HM.out, h1, Bool.false_and]
    clear h1
    go_wp2_with fail
    go_ret
    exact ⟨by rw [HE.out]; rfl, Below.refl _ _⟩
  | true =>
    have HE : Hid (mtl m n x = later m x n) := by unfold Hid; rw [HM.out, h1, Bool.true_and]
    clear h1
    go_wp2_with fail
    refine (isLater_any bx l m x n _ HI.out HX.out (by omega) (by omega)).mono ?_
    rintro e w' ⟨rfl, hw⟩
    have hw2 := hw.symm
    subst hw2
    clear hw
    go_wp2_with fail
    go_ret
    exact ⟨by rw [HE.out]; rfl, Below.refl _ _⟩
set_option maxRecDepth 100000 in
set_option maxHeartbeats 8000000 in
theorem impl_cap : Caps.Cap 18 fun l m w => SS.Res (grpP l m).isSome ((grpP l m).getD []) w := by
  intro a1 a2 n1 c1 n2 c2 l m w hc1 hc2 hz1 hz2 h1 h2
  obtain ⟨i0, hi, hy0, hy1, hy2⟩ := info_parts SSApp.infoSlice
  have hb := below_alloc w (.cells #[.slice a1 n1 c1, .slice a2 n2 c2] 27)
  have hf := box_first w (.slice a1 n1 c1) (.slice a2 n2 c2) 27
  have hf2 := box_second w (.slice a1 n1 c1) (.slice a2 n2 c2) 27
  have H1 := Lib.hid (h1.below hb)
  have H2 := Lib.hid (h2.below hb)
  have HL1 := Lib.hid h1.1
  have HB := Lib.hid hb
  have hsz : w.heap.size < (w.alloc (.cells #[.slice a1 n1 c1, .slice a2 n2 c2] 27)).heap.size := by simp
  have hWe : (w.alloc (.cells #[.slice a1 n1 c1, .slice a2 n2 c2] 27)).heap.size = w.heap.size + 1 := by simp
  have HWE := Lib.hid hWe
  clear h1 h2 hb hWe
  go_enter Try.func18, Try.ntmps18
  go_wp2_with fail
  generalize w.alloc (.cells #[.slice a1 n1 c1, .slice a2 n2 c2] 27) = W at *
  have hE := That.empty_own (T := 29) W
  have hbE := below_alloc W (.cells #[] 29)
  rw [HWE.out] at hE
  have HOE : Hid (SS.OwnSS (W.alloc (.cells #[] 29)) W.heap.size (some ⟨w.heap.size + 1, 0, none⟩) 0 0 [] []) := by
    rw [HWE.out]
    exact ⟨hE, rfl, fun i r hr => by simp at hr, fun i v b hv => by simp at hv, fun i j u v b hu => by simp at hu⟩
  have g1 := (hbE.cell (p := ⟨w.heap.size, 0, none⟩) hsz).trans hf
  have g2 := (hbE.cell (p := ⟨w.heap.size, 1, none⟩) hsz).trans hf2
  have hsE : (W.alloc (.cells #[] 29)).heap.size = w.heap.size + 2 := by simp [HWE.out]
  have HSE := Lib.hid hsE
  have HBE := Lib.hid hbE
  have K1 := Lib.hid (H1.out.below hbE)
  have K2 := Lib.hid (H2.out.below hbE)
  have HF := Lib.hid (And.intro hf hf2)
  clear hE hbE hf hf2 hsE
  generalize W.alloc (.cells #[] 29) = E at *
  refine (SusI.impl_cap a1 a2 n1 c1 n2 c2 l m E hc1 hc2 hz1 hz2 K1.out K2.out).mono ?_
  rintro e w1 ⟨ps, ks, ds, rfl, hos, hks, b1⟩
  have r1 := (b1.cell (p := ⟨w.heap.size, 0, none⟩) (by show w.heap.size < _; rw [HSE.out]; omega)).trans g1
  have r2 := (b1.cell (p := ⟨w.heap.size, 1, none⟩) (by show w.heap.size < _; rw [HSE.out]; omega)).trans g2
  have HB1 := Lib.hid (HBE.out.trans (b1.mono HBE.out.size))
  have HO1 := Lib.hid (HOE.out.below b1)
  have hs1 := b1.size
  rw [HSE.out] at hs1
  have HOS := Lib.hid hos
  clear g1 g2 b1 hos
  cases hg : good l m with
  | false =>
    have HE := Lib.hid (grp_bad hg)
    rw [sus_bad hg] at *
    clear hg
    go_wp2_with fail
    go_ret2
    rw [HE.out]
    exact ⟨_, _, _, [], rfl, HO1.out.base HB.out.size, by omega, by show 0 ≤ _; omega, HB.out.trans (HB1.out.mono HB.out.size)⟩
  | true =>
    have HE := Lib.hid (grp_yes hg)
    have HG := Lib.hid hg
    have hn1 : n1 ≤ 10 := by rw [← HL1.out]; exact (Table.good_few hg).1
    rw [sus_yes hg] at *
    have HKS : Hid ((sel (sus m) l).length = ks) := by
      have := HOS.out.1
      simp only [Option.getD_some] at this
      rw [ints_len] at this
      unfold Hid
      omega
    have hkl : ks ≤ n1 := by rw [← HKS.out, ← HL1.out]; exact sel_len _ l
    clear hg
    go_wp2_with fail
    refine (orderOf_any a1 a2 n1 c1 n2 c2 l m w1 HG.out (H1.out.below HB1.out) (H2.out.below HB1.out)).mono ?_
    rintro e w2 ⟨bx, rfl, ho, b2⟩
    have ha := below_alloc w2 (.cells #[.func (.func 119) #[] #[.pointer (some ⟨bx, 0, none⟩)]] 86)
    have q4 : (w2.alloc (.cells #[.func (.func 119) #[] #[.pointer (some ⟨bx, 0, none⟩)]] 86)).cell? ⟨w2.heap.size, 0, none⟩ = some (.func (.func 119) #[] #[.pointer (some ⟨bx, 0, none⟩)]) := by
      rw [World.cell?_alloc_mark]
      rfl
    have b23 := b2.trans (ha.mono b2.size)
    have hs2 := b2.size
    have HST : Hid (St W.heap.size W (w2.alloc (.cells #[.func (.func 119) #[] #[.pointer (some ⟨bx, 0, none⟩)]] 86)) w2.heap.size bx l m ps ks ds (sel (sus m) l) (some ⟨w.heap.size + 1, 0, none⟩) 0 0 (grps l m ((sel (sus m) l).take 0)) []) := by
      have hgb : ∀ b, (Value.slice (some ⟨w.heap.size + 1, 0, none⟩) 0 0).ownBlock = some b → b = w.heap.size + 1 := fun b hb => by simpa [Value.ownBlock] using hb.symm
      have hnb : w.heap.size + 1 ≠ bx := fun e => by
        obtain ⟨bc, h1, _⟩ := ho
        subst e
        rw [own_none (ownsRow_below HO1.out.out b2) 0] at h1
        cases h1
      refine ⟨(HO1.out.below b2).below ha, q4, fun e => by have := hgb _ e; omega, ho.below ha, fun e => hnb (hgb _ e).symm, ?_, fun b hb e => ?_, HB1.out.trans (b23.mono HB1.out.size), ?_⟩
      · exact ownsRow_below (ownsRow_base HOS.out (by rw [HSE.out, HWE.out]; omega)) b23
      · have h1 := (HOS.out.lt b hb).1
        rw [HSE.out] at h1
        have := hgb _ e
        omega
      · exact Nat.le_trans HB1.out.size b23.size
    have HM3 : Hid (∀ wr, Below W.heap.size W wr → Holds wr a1 n1 l ∧ wr.cell? ⟨w.heap.size, 0, none⟩ = some (.slice a1 n1 c1) ∧ wr.cell? ⟨w.heap.size, 1, none⟩ = some (.slice a2 n2 c2)) := fun wr hwr => ⟨H1.out.below hwr, (hwr.cell (p := ⟨w.heap.size, 0, none⟩) hsz).trans HF.out.1, (hwr.cell (p := ⟨w.heap.size, 1, none⟩) hsz).trans HF.out.2⟩
    clear ha q4 b23 b2 ho r1 r2
    go_wp2_with fail
    generalize w2.alloc (.cells #[.func (.func 119) #[] #[.pointer (some ⟨bx, 0, none⟩)]] 86) = V at *
    go_loopw [4, 24] (fun s4 s24 wr => ∃ (j : Nat) (p : Option Addr) (D d : Nat) (vs : List Value), j ≤ ks ∧ s24 = .int .i64 j ∧ s4 = .slice p D d ∧ D ≤ j ∧ Hid (St W.heap.size W wr w2.heap.size bx l m ps ks ds (sel (sus m) l) p D d (grps l m ((sel (sus m) l).take j)) vs)) (fun _ s24 _ => ks - (intOf s24).toNat)
    case atStart => exact ⟨0, _, 0, 0, [], Nat.zero_le _, rfl, rfl, by omega, HST⟩
    case round =>
      clear HST
      obtain ⟨j, p, D, d, vs, hj, rfl, rfl, hDj, HR⟩ := hrel
      obtain ⟨z1, p1, p2⟩ := HM3.out wr HR.out.bel
      by_cases hlt : j < ks
      · have hjn : (j : Int) < (ks : Int) := by omega
        have hj0 : (0 : Int) ≤ (j : Int) := by omega
        obtain ⟨b, off, n, hps, hx, e1⟩ := (GivesI.holds_own HR.out.sp).at j hlt
        subst hps
        have hns := mem_sel.1 (List.mem_of_getElem? hx)
        have hnr := key_rng HG.out hns.1
        have HNS := Lib.hid hns
        have HX := Lib.hid (grps_next l m hx)
        have hbn := below_alloc wr (.cells #[.int .i64 n] 3)
        have r1 := (hbn.cell (World.block_lt_of_cell? wr _ p1)).trans p1
        have r2 := (hbn.cell (World.block_lt_of_cell? wr _ p2)).trans p2
        have r3 : (wr.alloc (.cells #[.int .i64 n] 3)).cell? ⟨wr.heap.size, 0, none⟩ = some (.int .i64 n) := by
          rw [World.cell?_alloc_mark]
          rfl
        have hln : wr.heap.size < (wr.alloc (.cells #[.int .i64 n] 3)).heap.size := by simp
        have HSN := Lib.hid (HR.out.below hbn)
        have Z1 := Lib.hid (z1.below hbn)
        have HBN := Lib.hid hbn
        clear hx hns z1 hbn p1 p2
        go_wp2_with fail
        generalize wr.alloc (.cells #[.int .i64 n] 3) = Y at *
        clear e1
        refine (that_any 68 #[.pointer (some ⟨w2.heap.size, 0, none⟩), .pointer (some ⟨wr.heap.size, 0, none⟩)] (mtl m n) a1 a2 n1 c1 n2 c2 l Y hn1 Z1.out (fun args W => call_enter Try.func68 (by kernel_rfl) rfl args W) (fun x wq hx hwq => ?_)).mono ?_
        · have hxr := key_rng HG.out hx
          exact clos_any n x w2.heap.size wr.heap.size bx l m wq ((hwq.cell (World.block_lt_of_cell? Y _ HSN.out.cf)).trans HSN.out.cf) ((hwq.cell hln).trans r3) (HSN.out.ord.below hwq) HNS.out.1 hx (by omega) (by omega)
        rintro e w4 ⟨pg, kg, dg, rfl, hown, hkg, b4⟩
        have HS4 := Lib.hid (HSN.out.below b4)
        have r3' := (b4.cell hln).trans r3
        have HOW := Lib.hid (show w4.ownsRow Y.heap.size 3 1 (.slice pg kg dg) kg (ints (grp l m n)) from hown)
        have hkl : kg = (grp l m n).length := by
          have := HOW.out.1
          rw [ints_len] at this
          omega
        have hpos := grp_ne HNS.out.1 HNS.out.2
        obtain ⟨b', off', x, hpg, hx0, e0⟩ := (GivesI.holds_own HOW.out).at 0 (by omega)
        subst hpg
        clear r1 r2 r3
        have HF1 : Hid (isFst l m n = decide (x = n)) := by
          unfold Hid isFst
          rw [hx0]
          simp
        have hbo : Below wr.heap.size wr w4 := HBN.out.trans (b4.mono HBN.out.size)
        have HBO := Lib.hid hbo
        have hgl := grp_len l m n
        rw [HL1.out] at hgl
        have h44 : W.heap.size ≤ w4.heap.size := HS4.out.le
        have hYw : wr.heap.size ≤ Y.heap.size := HBN.out.size
        clear hx0 hown b4 hbo
        rw [Nat.add_zero] at e0
        have h0k : (0 : Int) < (kg : Int) := by omega
        go_wp2_with fail
        go_quiet (fail)
        have hdq : Below w4.heap.size w4 (w4.drewN nq) := ⟨rfl, rfl, rfl, Nat.le_refl _, fun _ _ => rfl⟩
        have HS5 := Lib.hid (HS4.out.below hdq)
        have HOW5 := Lib.hid (ownsRow_below HOW.out hdq)
        have HBO5 := Lib.hid (HBO.out.trans (hdq.mono HBO.out.size))
        have hs45 : w4.heap.size ≤ (w4.drewN nq).heap.size := hdq.size
        clear hdq r3' e0 HS4 HOW HBO
        generalize w4.drewN nq = w5 at *
        by_cases hxn : x = n
        · have HX2 : Hid (grps l m ((sel (sus m) l).take (j + 1)) = grps l m ((sel (sus m) l).take j) ++ [grp l m n]) := by unfold Hid; rw [HX.out, HF1.out, if_pos (by simpa using hxn)]
          have hDl := HR.out.own.len
          subst hxn
          generalize grps l m ((sel (sus m) l).take j) = R at *
          generalize grp l m x = G at *
          subst hkl
          subst hDl
          have hown3 := HS5.out.own.out
          clear HX HF1
          go_wp2_with (at_builtin; refine wpList_append_lies _ rfl _ _ 44 rfl W.heap.size 29 i0 (.slice none 0 0) 1 24 Try.underlying44 hi hy0 hy1 hy2 rfl (by decide) (.slice p R.length d) R.length vs rfl (hown3.alloc _) ⟨w5.heap.size, 0, none⟩ 1 1 [.slice (some ⟨b', off', none⟩) G.length dg] rfl rfl (cell_one_new _ _ _) (by simp [Value.oneCell']) (by decide) (by unfold maxLen; omega) (by omega) (by simp <;> omega) (w5.heap.size + 1) (by simp) ?_; intro g9 cap9 w9 hown9 hgrow9 hat9 hlt9)
          have HRN := Lib.hid (HR.out.app (HBO5.out.trans ((below_alloc w5 (.cells #[.slice (some ⟨b', off', none⟩) G.length dg] 29)).mono HBO5.out.size)) ((ownsRow_base HOW5.out hYw).alloc _) hown9 hgrow9 (hat9.imp_right (fun e => by simp <;> omega)))
          rw [← HX2.out] at HRN
          clear hown9 hgrow9 hat9 hlt9 hown3
          exact ⟨⟨j + 1, _, _, _, _, by omega, by go_num, rfl, by omega, HRN⟩, by simp [intOf]; omega⟩
        · have HX2 : Hid (grps l m ((sel (sus m) l).take (j + 1)) = grps l m ((sel (sus m) l).take j)) := by unfold Hid; rw [HX.out, HF1.out, if_neg (by simpa using hxn), List.append_nil]
          have hxb : (x == n) = false := by rw [beq_eq_false_iff_ne]; exact hxn
          clear HX HF1
          go_wp2_with fail
          rw [← HX2.out] at HS5
          exact ⟨⟨j + 1, _, _, _, _, by omega, by go_num, rfl, by omega, HS5⟩, by simp [intOf]; omega⟩
      · obtain rfl : j = ks := by omega
        have hjn : ¬ (j : Int) < (j : Int) := by omega
        have hO := HR.out.own
        have hDl := hO.len
        rw [List.take_of_length_le (by rw [HKS.out]; exact Nat.le_refl _)] at hO hDl
        have hoff := grps_off (l := l) (m := m) (sel (sus m) l)
        rw [hDl, HKS.out, HL1.out] at hoff
        have HO := Lib.hid hO
        have HBD := Lib.hid (HB.out.trans (HR.out.bel.mono HB.out.size))
        have hoff2 : SS.off (grps l m (sel (sus m) l)) D ≤ 1000000 := Nat.le_trans hoff (Nat.le_trans (Nat.mul_le_mul (show j ≤ 10 by omega) hn1) (by decide))
        have HOFF := Lib.hid hoff2
        clear hO hDl hoff hoff2 z1 p1 p2
        go_wp2_with fail
        go_ret2
        rw [HE.out]
        exact ⟨_, _, _, vs, rfl, HO.out.base HB.out.size, by omega, HOFF.out, HBD.out⟩
theorem impl_any : SS.Gives 18 grpP := Caps.ss impl_cap
end Go.Proofs.Ythcjembekadijaa.GrpI
