/-
  From the row's condition to what the walk of CharsEscapes asks of the world: strconv.ErrSyntax holds an error. No condition beside.
-/
import Derived.Test.YtegckpkancbnmaaDoorEz
namespace Go.Proofs.YtegckpkancbnmaaDoor
open Go.RowKit

theorem gErrS : Tryd.prog.globalNamed "strconv.ErrSyntax" = some 3 := by kernel_rfl
theorem gErrSType : (Tryd.prog.globals[3]?).map (·.type) = some 49 := by kernel_rfl
theorem starErrS : "*" ++ "errors.errorString" = "*errors.errorString" := by decide
theorem rowErrS (u : TypeId) (h : Tryd.prog.typeName? 3 u = some "*errors.errorString") : u = 147 :=
  typeName_ptr_named (nm := "errors.errorString") (by rw [starErrS]; kernel_rfl) (by kernel_rfl) (by decide) u (by rw [starErrS]; exact h)
theorem cellsErrS : Tryd.prog.cellsOf 149 = 1 := by kernel_rfl
theorem cellsStr : Tryd.prog.cellsOf 9 = 1 := by kernel_rfl
theorem err_of_laid {W : World} (h : laidMetH Tryd.prog Rows.charsEscapesRow.laid W) : ErrAt W := by
  rw [MakeChecks.laidMetH_plain _ _ _ (by kernel_rfl)] at h
  have h2 := laidMet.tail (laidMet.tail (laidMet.tail (laidMet.tail h)))
  obtain ⟨a0, s0, hv0, _, _, _⟩ := laid_sentinel h2 gErrS gErrSType Tryd.underlying49 rowErrS Tryd.underlying147 Tryd.underlying149 rfl rfl Tryd.underlying9 cellsErrS cellsStr
  exact ⟨_, by simpa using World.var?_cell gErrS hv0 0, .inr ⟨_, _, rfl⟩⟩

end Go.Proofs.YtegckpkancbnmaaDoor
