/- The model's FormatNumbers. -/
import Derived.Test.YtaikphcemldikaaDoorNum
import Derived.Test.YtaikphcemldikaaDoorDec
import Derived.Below
import Derived.Lib.SmallJoins
import Derived.Test.YtaikphcemldikaaDoorWords
namespace Go.Proofs.YtaikphcemldikaaDoor.ListS
open Go.RowKit Num
def itB (z : Int) : ByteArray := ⟨(Lib.itoa z).toArray⟩
def Ints (w : World) (a : Option Addr) (n : Nat) (zs : List Int) : Prop :=
  zs.length = n ∧ (n = 0 ∨ ∃ b off, a = some ⟨b, off, none⟩ ∧ b < w.heap.size ∧ ∀ i z, zs[i]? = some z → w.cell? ⟨b, off + i, none⟩ = some (.int .i64 z))
theorem Ints.below {w w' : World} {a : Option Addr} {n : Nat} {zs : List Int} (h : Ints w a n zs) (hb : Below w.heap.size w w') : Ints w' a n zs := by
  refine ⟨h.1, ?_⟩
  rcases h.2 with h0 | ⟨b, off, ha, hlt, hc⟩
  · exact .inl h0
  · exact .inr ⟨b, off, ha, Nat.lt_of_lt_of_le hlt hb.size, fun i z hz => (hb.cell (p := ⟨b, off + i, none⟩) hlt).trans (hc i z hz)⟩
theorem Ints.at {w : World} {a : Option Addr} {n : Nat} {zs : List Int} (h : Ints w a n zs) {k : Nat} (hk : k < n) : ∃ b off z, a = some ⟨b, off, none⟩ ∧ zs[k]? = some z ∧ w.cell? ⟨b, off + k, none⟩ = some (.int .i64 z) := by
  rcases h.2 with h0 | ⟨b, off, ha, _, hc⟩
  · omega
  · have hl : k < zs.length := by rw [h.1]; exact hk
    exact ⟨b, off, zs[k], ha, List.getElem?_eq_getElem hl, hc k _ (List.getElem?_eq_getElem hl)⟩
def inR (z : Int) : Prop := 0 ≤ z ∧ z ≤ 999999
def okL (zs : List Int) : Prop := zs.length ≤ 40 ∧ ∀ z ∈ zs, inR z
def okB (zs : List Int) : Bool := decide (zs.length ≤ 40) && zs.all (fun z => decide (0 ≤ z) && decide (z ≤ 999999))
theorem okB_iff (zs : List Int) : okB zs = true ↔ okL zs := by
  unfold okB okL inR
  simp
theorem okB_no {zs : List Int} (h : ¬ okL zs) : okB zs = false := by
  cases e : okB zs with
  | false => rfl
  | true => exact absurd ((okB_iff zs).1 e) h
def sepB : ByteArray := ⟨#[44, 32]⟩
def tx (zs : List Int) : Nat → ByteArray
  | 0 => ⟨#[]⟩
  | k + 1 => (if 0 < k then tx zs k ++ sepB else tx zs k) ++ itB (zs.getD k 0)
def txt (zs : List Int) : ByteArray := if zs.length = 0 then ⟨#[110, 111, 110, 101]⟩ else tx zs zs.length
theorem itB_size {z : Int} (h : inR z) : (itB z).size ≤ 20 := by
  have e : itB z = num z.toNat := by unfold itB Lib.itoa num; rw [if_neg (by have := h.1; omega)]
  rw [e]
  exact num_size _ (by have := h.1; have := h.2; omega)
theorem tx_size (zs : List Int) (h : ∀ z ∈ zs, inR z) : ∀ k, k ≤ zs.length → (tx zs k).size ≤ k * 22
  | 0, _ => Nat.le_refl _
  | k + 1, hk => by
    have ih := tx_size zs h k (by omega)
    have hz : inR (zs.getD k 0) := by
      rw [List.getD_eq_getElem?_getD, List.getElem?_eq_getElem (by omega)]
      exact h _ (List.getElem_mem _)
    have h2 := itB_size hz
    show ((if 0 < k then tx zs k ++ sepB else tx zs k) ++ itB (zs.getD k 0)).size ≤ _
    split
    · rw [ByteArray.size_append, ByteArray.size_append]
      have : sepB.size = 2 := rfl
      omega
    · rw [ByteArray.size_append]
      omega
set_option maxHeartbeats 1000000 in
theorem numbers_any (a : Option Addr) (n c : Nat) (zs : List Int) (w : World) (hn : n ≤ 1048576) (h : Ints w a n zs) :
    Calls Tryd.prog 59 #[.slice a n c] w fun e w' => e = .returned (.bool (okB zs)) ∧ w' = w := by
  have H := Lib.hid h
  clear h
  go_enter Tryd.func59, Tryd.ntmps59
  go_wp2_with fail
  go_loopw [3] (fun s3 wr => ∃ k : Nat, k ≤ n ∧ k ≤ 41 ∧ s3 = .int .i64 k ∧ wr = w ∧ Hid (∀ i z, i < k → zs[i]? = some z → inR z)) (fun s3 _ => n - (intOf s3).toNat)
  case atStart => exact ⟨0, Nat.zero_le _, by omega, rfl, rfl, fun i z hi _ => by omega⟩
  case round =>
    obtain ⟨k, hk, hk41, rfl, rfl, HP⟩ := hrel
    by_cases hlt : k < n
    · have hkn : (k : Int) < (n : Int) := by omega
      have hk0 : (0 : Int) ≤ (k : Int) := by omega
      by_cases h40 : k ≤ 40
      · have hk40 : (k : Int) ≤ 40 := by omega
        obtain ⟨b, off, z, rfl, hz, e1⟩ := H.out.at hlt
        have HZ := Lib.hid hz
        clear hz
        by_cases hr : inR z
        · have HR := Lib.hid hr
          go_wp2_with (go_at_call 63; refine (l1In_yes z 0 999999 _ HR.out.1 HR.out.2).mono ?_; rintro e w' ⟨rfl, rfl⟩)
          refine ⟨⟨k + 1, by omega, by omega, by go_num, by first | rfl | trivial, fun i y hi hy => ?_⟩, by simp [intOf]; omega⟩
          by_cases e : i = k
          · subst e
            have := HZ.out
            rw [hy] at this
            injection this with this
            subst this
            exact HR.out
          · exact HP.out i y (by omega) hy
        · have HN : Hid (¬ okL zs) := fun h => hr (h.2 z (List.mem_of_getElem? HZ.out))
          by_cases hlow : z < 0
          · go_wp2_with (go_at_call 63; refine (l1In_low z 0 999999 _ hlow).mono ?_; rintro e w' ⟨rfl, rfl⟩)
            go_ret
            exact ⟨by rw [okB_no HN.out]; rfl, rfl⟩
          · have hhi : 999999 < z := by unfold inR at hr; omega
            have h00 : 0 ≤ z := by omega
            go_wp2_with (go_at_call 63; refine (l1In_high z 0 999999 _ h00 hhi).mono ?_; rintro e w' ⟨rfl, rfl⟩)
            go_ret
            exact ⟨by rw [okB_no HN.out]; rfl, rfl⟩
      · have hk40 : ¬ (k : Int) ≤ 40 := by omega
        have hn40 : ¬ (n : Int) ≤ 40 := by omega
        have HN : Hid (¬ okL zs) := fun h => by have := h.1; have := H.out.1; omega
        go_wp2_with fail
        go_ret
        exact ⟨by rw [okB_no HN.out]; rfl, rfl⟩
    · obtain rfl : k = n := by omega
      have hkn : ¬ (k : Int) < (k : Int) := by omega
      have HA : Hid (∀ z ∈ zs, inR z) := fun z hz => by
        obtain ⟨i, hi, e⟩ := List.getElem_of_mem hz
        exact HP.out i z (by rw [← H.out.1]; exact hi) (by rw [List.getElem?_eq_getElem hi, e])
      by_cases h40 : k ≤ 40
      · have hk40 : (k : Int) ≤ 40 := by omega
        have HN : Hid (okL zs) := ⟨by rw [H.out.1]; exact h40, HA.out⟩
        go_wp2_with fail
        go_ret
        exact ⟨by rw [(okB_iff zs).2 HN.out]; rfl, rfl⟩
      · have hk40 : ¬ (k : Int) ≤ 40 := by omega
        have HN : Hid (¬ okL zs) := fun h => by have := h.1; have := H.out.1; omega
        go_wp2_with fail
        go_ret
        exact ⟨by rw [okB_no HN.out]; rfl, rfl⟩
theorem num_it (z : Int) (w : World) (h : inR z) : Calls Tryd.prog 65 #[.int .i64 z] w fun e w' => e = .returned (.string (itB z)) ∧ Below w.heap.size w w' :=
  (l1Num_any z w (by have := h.1; omega) h.2).mono fun e w' ⟨he, m, hm⟩ => ⟨he, by rw [hm]; exact Joins.below_draws _ _ _⟩
end Go.Proofs.YtaikphcemldikaaDoor.ListS
