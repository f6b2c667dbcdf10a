/- What the rows' lists of library variables give: the table of powers of ten, and the two sentinels of strconv. -/
import Derived.Test.YtkoickdndjfnhaaDoorParse
import Derived.Lib.LaidTab
import Derived.Stop.LaidErr
import Derived.LaidSub
namespace Go.Proofs.YtkoickdndjfnhaaDoor.Laid
open Go.RowKit

theorem gTabType : (Tryd.prog.globals[3]?).map (·.type) = some 80 := by kernel_rfl
theorem gSynType : (Tryd.prog.globals[0]?).map (·.type) = some 46 := by kernel_rfl
theorem gRngType : (Tryd.prog.globals[1]?).map (·.type) = some 46 := by kernel_rfl
theorem cellsE : Tryd.prog.cellsOf 88 = 1 := by kernel_rfl
theorem cellsS : Tryd.prog.cellsOf 9 = 1 := by kernel_rfl
theorem star : "*" ++ "errors.errorString" = "*errors.errorString" := by decide
theorem rowE (u : TypeId) (h : Tryd.prog.typeName? 3 u = some "*errors.errorString") : u = 86 :=
  typeName_ptr_named (nm := "errors.errorString") (by rw [star]; kernel_rfl) (by kernel_rfl) (by decide) u (by rw [star]; exact h)

theorem tab_of {W : World} (h : laidMetH Tryd.prog [("internal/strconv.uint64pow10", Lib.tabData .u64 Lib.pow10Tab)] W) : Fmt.Tab W :=
  Lib.tabIs_of_head (rest := []) Fmt.gTab gTabType Tryd.underlying80 Tryd.underlying35 (by kernel_rfl) (by kernel_rfl) h
theorem syn_of {W : World} (h : laidMetH Tryd.prog [("strconv.ErrSyntax", .iface "*errors.errorString" (.ptr (.agg [.lit (.string [105, 110, 118, 97, 108, 105, 100, 32, 115, 121, 110, 116, 97, 120])])))] W) :
    ∃ tp p, W.var? Tryd.prog "strconv.ErrSyntax" = some #[.iface tp p] := by
  have h' : laidMet Tryd.prog [("strconv.ErrSyntax", .iface "*errors.errorString" (.ptr (.agg [.lit (.string [105, 110, 118, 97, 108, 105, 100, 32, 115, 121, 110, 116, 97, 120])])))] W := h
  obtain ⟨a0, s0, hv0, -, -, -⟩ := laid_sentinel h' Parse.gSyn gSynType Tryd.underlying46 rowE Tryd.underlying86 Tryd.underlying88 rfl rfl Tryd.underlying9 cellsE cellsS
  exact ⟨_, _, hv0⟩
theorem rng_of {W : World} (h : laidMetH Tryd.prog [("strconv.ErrRange", .iface "*errors.errorString" (.ptr (.agg [.lit (.string [118, 97, 108, 117, 101, 32, 111, 117, 116, 32, 111, 102, 32, 114, 97, 110, 103, 101])])))] W) :
    ∃ tp p, W.var? Tryd.prog "strconv.ErrRange" = some #[.iface tp p] := by
  have h' : laidMet Tryd.prog [("strconv.ErrRange", .iface "*errors.errorString" (.ptr (.agg [.lit (.string [118, 97, 108, 117, 101, 32, 111, 117, 116, 32, 111, 102, 32, 114, 97, 110, 103, 101])])))] W := h
  obtain ⟨a0, s0, hv0, -, -, -⟩ := laid_sentinel h' Parse.gRng gRngType Tryd.underlying46 rowE Tryd.underlying86 Tryd.underlying88 rfl rfl Tryd.underlying9 cellsE cellsS
  exact ⟨_, _, hv0⟩

theorem tabForm {W : World} (h : laidMetH Tryd.prog Rows.fnExactFormatIntRow.laid W) : Fmt.Tab W := by
  have h1 := laidMetH.filter (fun x => x.1 == "internal/strconv.uint64pow10") h
  rw [show (Rows.fnExactFormatIntRow.laid.filter fun x => x.1 == "internal/strconv.uint64pow10") = [("internal/strconv.uint64pow10", Lib.tabData .u64 Lib.pow10Tab)] by kernel_rfl] at h1
  exact tab_of h1
theorem tabAppend {W : World} (h : laidMetH Tryd.prog Rows.fnExactAppendChecksumRow.laid W) : Fmt.Tab W := by
  have h1 := laidMetH.filter (fun x => x.1 == "internal/strconv.uint64pow10") h
  rw [show (Rows.fnExactAppendChecksumRow.laid.filter fun x => x.1 == "internal/strconv.uint64pow10") = [("internal/strconv.uint64pow10", Lib.tabData .u64 Lib.pow10Tab)] by kernel_rfl] at h1
  exact tab_of h1
theorem tabVerify {W : World} (h : laidMetH Tryd.prog Rows.fnExactVerifyChecksumRow.laid W) : Fmt.Tab W := by
  have h1 := laidMetH.filter (fun x => x.1 == "internal/strconv.uint64pow10") h
  rw [show (Rows.fnExactVerifyChecksumRow.laid.filter fun x => x.1 == "internal/strconv.uint64pow10") = [("internal/strconv.uint64pow10", Lib.tabData .u64 Lib.pow10Tab)] by kernel_rfl] at h1
  exact tab_of h1
theorem varsParse {W : World} (h : laidMetH Tryd.prog Rows.fnExactParseIntRow.laid W) : Parse.Vars W := by
  have h1 := laidMetH.filter (fun x => x.1 == "internal/strconv.uint64pow10") h
  have h2 := laidMetH.filter (fun x => x.1 == "strconv.ErrSyntax") h
  have h3 := laidMetH.filter (fun x => x.1 == "strconv.ErrRange") h
  rw [show (Rows.fnExactParseIntRow.laid.filter fun x => x.1 == "internal/strconv.uint64pow10") = [("internal/strconv.uint64pow10", Lib.tabData .u64 Lib.pow10Tab)] by kernel_rfl] at h1
  rw [show (Rows.fnExactParseIntRow.laid.filter fun x => x.1 == "strconv.ErrSyntax") = [("strconv.ErrSyntax", Rows.laid_strconv_ErrSyntax)] by kernel_rfl] at h2
  rw [show (Rows.fnExactParseIntRow.laid.filter fun x => x.1 == "strconv.ErrRange") = [("strconv.ErrRange", Rows.laid_strconv_ErrRange)] by kernel_rfl] at h3
  exact ⟨tab_of h1, syn_of h2, rng_of h3⟩
theorem varsStrings {W : World} (h : laidMetH Tryd.prog Rows.fnStringsRow.laid W) : Parse.Vars W := varsParse h
end Go.Proofs.YtkoickdndjfnhaaDoor.Laid
