/- Contracts of AppendChecksum, the model's and the program's: each returns what 'av' says; the program's where the library's table lies as its initialiser lays it. -/
import Derived.Test.YtkoickdndjfnhaaDoorFmt
import Derived.Test.YtkoickdndjfnhaaDoorSum
import Derived.Test.YtkoickdndjfnhaaDoorShelfS
import Derived.Test.YtkoickdndjfnhaaDoorStands
import Derived.Lib.IndexAny
namespace Go.Proofs.YtkoickdndjfnhaaDoor.Seal
open Go.RowKit Dec Stands

def hash : ByteArray := ⟨#[35]⟩
theorem hash_size : hash.size = 1 := rfl
/-- The string, the mark and the numeral of its checksum. -/
def sealB (s : ByteArray) : ByteArray := (s ++ hash) ++ itoaB (Sum.ck s.data.toList)
theorem itoaB_size (n : Int) (h0 : -9223372036854775808 ≤ n) (h1 : n ≤ 9223372036854775807) : (itoaB n).size ≤ 21 := by
  have := Lib.itoa_length_le n h0 h1
  have e : (itoaB n).size = (Lib.itoa n).length := by simp [itoaB, ByteArray.size]
  omega
/-- What AppendChecksum returns. -/
def av (s : ByteArray) : Option ByteArray :=
  if (s.size ≤ 4000 ∧ hasB s.data.toList 35 = false) ∧ (sealB s).size ≤ 4000 then some (sealB s) else none

theorem itoa_ck (s : ByteArray) : (itoaB (Sum.ck s.data.toList)).size ≤ 21 := by
  have := Sum.ck_bd s.data.toList
  exact itoaB_size _ (by omega) (by omega)

theorem num_any (n : Int) (w : World) (h0 : -999999 ≤ n) (h1 : n ≤ 999999) :
    Calls Tryd.prog 25 #[.int .i64 n] w fun e w' => e = .returned (.string (itoaB n)) ∧ ∃ m, w' = w.drewN m := Num.l1Num_any n w h0 h1
set_option maxHeartbeats 400000 in
theorem l1Seal_any (s : ByteArray) (w : World) (hs : s.size ≤ 1048576) :
    Calls Tryd.prog 34 #[.string s] w fun e w' => e = .returned (.string (sealB s)) ∧ ∃ m, w' = w.drewN m := by
  have hbd := Sum.ck_bd s.data.toList
  have hsz := itoa_ck s
  have h1 := fun W : World => run_string_add_sum (P := Tryd.prog) W s ⟨#[35]⟩ (by show _ + 1 ≤ _; omega)
  have h2 := fun W : World => run_string_add_sum (P := Tryd.prog) W (s ++ ⟨#[35]⟩) (itoaB (Sum.ck s.data.toList)) (by rw [ByteArray.size_append]; show _ + 1 + _ ≤ _; omega)
  have H2 := Lib.hid h2
  clear h2 hsz
  go_enter Tryd.func34, Tryd.ntmps34
  go_wp2_with fail
  refine (Sum.l1Sum_any s _ (by unfold maxLen; omega)).mono ?_
  rintro e w' ⟨rfl, rfl⟩
  go_wp2_with fail
  refine (num_any _ _ (by omega) (by omega)).mono ?_
  rintro e w' ⟨rfl, m, rfl⟩
  have h3 := H2.out
  go_wp2_with fail
  go_ret
  exact ⟨rfl, _, rfl⟩
end Go.Proofs.YtkoickdndjfnhaaDoor.Seal
