/-
  From the rows' condition to the fact that strconv's table of powers of ten is as it is laid. No condition beside.
-/
import Derived.Test.YtmlifgngdilplaaDoorRows
import Derived.Test.YtmlifgngdilplaaDoorWr
import Derived.Stop.LaidErr
import Derived.Lib.LaidTab
import Derived.MakeChecks
namespace Go.Proofs.YtmlifgngdilplaaDoor
open Go.RowKit

theorem gTabType : (Tryd.prog.globals[1]?).map (·.type) = some 125 := by kernel_rfl
theorem cells125 : Tryd.prog.cellsOf 125 = 20 := by kernel_rfl
theorem cells109 : Tryd.prog.cellsOf 109 = 1 := by kernel_rfl
theorem pow10_datum {H : Type} : (Rows.laid_internal_strconv_uint64pow10 : DataW H) = Lib.tabData .u64 Lib.pow10Tab := rfl

theorem tab_of_laid {W : World} (h : laidMetH Tryd.prog Rows.numScalarsRow.laid W) : Tab W := by
  rw [MakeChecks.laidMetH_plain _ _ _ (by kernel_rfl)] at h
  have h2 := laidMet.tail (laidMet.tail h)
  rw [pow10_datum] at h2
  exact Lib.tabIs_of_head gTab gTabType Tryd.underlying125 Tryd.underlying109 cells109 cells125 h2

end Go.Proofs.YtmlifgngdilplaaDoor
