/- What the rows' lists of library variables give: the table of powers of ten, and the two sentinels of strconv. -/
import Derived.Test.YtaikphcemldikaaDoorParse
import Derived.Lib.LaidTab
import Derived.Stop.LaidErr
import Derived.LaidSub
namespace Go.Proofs.YtaikphcemldikaaDoor.Laid
open Go.RowKit

theorem gTabType : (Tryd.prog.globals[4]?).map (·.type) = some 149 := by kernel_rfl
theorem gSynType : (Tryd.prog.globals[2]?).map (·.type) = some 80 := by kernel_rfl
theorem gRngType : (Tryd.prog.globals[3]?).map (·.type) = some 80 := by kernel_rfl
theorem cellsE : Tryd.prog.cellsOf 147 = 1 := by kernel_rfl
theorem cellsS : Tryd.prog.cellsOf 9 = 1 := by kernel_rfl
theorem star : "*" ++ "errors.errorString" = "*errors.errorString" := by decide
theorem rowE (u : TypeId) (h : Tryd.prog.typeName? 3 u = some "*errors.errorString") : u = 145 :=
  typeName_ptr_named (nm := "errors.errorString") (by rw [star]; kernel_rfl) (by kernel_rfl) (by decide) u (by rw [star]; exact h)

theorem tab_of {W : World} (h : laidMetH Tryd.prog [("internal/strconv.uint64pow10", Lib.tabData .u64 Lib.pow10Tab)] W) : Fmt.Tab W :=
  Lib.tabIs_of_head (rest := []) Fmt.gTab gTabType Tryd.underlying149 Tryd.underlying132 (by kernel_rfl) (by kernel_rfl) h
theorem syn_of {W : World} (h : laidMetH Tryd.prog [("strconv.ErrSyntax", .iface "*errors.errorString" (.ptr (.agg [.lit (.string [105, 110, 118, 97, 108, 105, 100, 32, 115, 121, 110, 116, 97, 120])])))] W) :
    ∃ tp p, W.var? Tryd.prog "strconv.ErrSyntax" = some #[.iface tp p] := by
  have h' : laidMet Tryd.prog [("strconv.ErrSyntax", .iface "*errors.errorString" (.ptr (.agg [.lit (.string [105, 110, 118, 97, 108, 105, 100, 32, 115, 121, 110, 116, 97, 120])])))] W := h
  obtain ⟨a0, s0, hv0, -, -, -⟩ := laid_sentinel h' Parse.gSyn gSynType Tryd.underlying80 rowE Tryd.underlying145 Tryd.underlying147 rfl rfl Tryd.underlying9 cellsE cellsS
  exact ⟨_, _, hv0⟩
theorem rng_of {W : World} (h : laidMetH Tryd.prog [("strconv.ErrRange", .iface "*errors.errorString" (.ptr (.agg [.lit (.string [118, 97, 108, 117, 101, 32, 111, 117, 116, 32, 111, 102, 32, 114, 97, 110, 103, 101])])))] W) :
    ∃ tp p, W.var? Tryd.prog "strconv.ErrRange" = some #[.iface tp p] := by
  have h' : laidMet Tryd.prog [("strconv.ErrRange", .iface "*errors.errorString" (.ptr (.agg [.lit (.string [118, 97, 108, 117, 101, 32, 111, 117, 116, 32, 111, 102, 32, 114, 97, 110, 103, 101])])))] W := h
  obtain ⟨a0, s0, hv0, -, -, -⟩ := laid_sentinel h' Parse.gRng gRngType Tryd.underlying80 rowE Tryd.underlying145 Tryd.underlying147 rfl rfl Tryd.underlying9 cellsE cellsS
  exact ⟨_, _, hv0⟩

end Go.Proofs.YtaikphcemldikaaDoor.Laid
