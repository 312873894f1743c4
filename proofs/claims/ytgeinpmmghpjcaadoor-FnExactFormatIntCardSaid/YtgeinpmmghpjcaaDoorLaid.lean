/-
  What the listed package-level variables give the walks.
-/
import Derived.Test.YtgeinpmmghpjcaaDoorCards
import Derived.Test.YtgeinpmmghpjcaaDoorTie
import Derived.Test.YtgeinpmmghpjcaaDoorFmtW
import Derived.Lib.LaidTab
import Derived.Lay
import Derived.LaidSub
import Derived.MakeChecks
import Derived.SevenTiedAt
import Derived.Stop.LaidErr
namespace Go.Proofs.YtgeinpmmghpjcaaDoor
open Go.RowKit

theorem gTab10 : Tryd.prog.globalNamed "internal/strconv.uint64pow10" = some 3 := by kernel_rfl

theorem gTab10Type : (Tryd.prog.globals[3]?).map (·.type) = some 73 := by kernel_rfl

theorem cellsTab10 : Tryd.prog.cellsOf 73 = 20 := by kernel_rfl

theorem cellsU64 : Tryd.prog.cellsOf 60 = 1 := by kernel_rfl

theorem tab10_of {W : World} (h : laidMetH Tryd.prog [("internal/strconv.uint64pow10", Rows.laid_internal_strconv_uint64pow10)] W) : Tab10 W := by
  rw [MakeChecks.laidMetH_plain _ _ _ (by kernel_rfl)] at h
  exact Lib.tabIs_of_head (rest := []) gTab10 gTab10Type Tryd.underlying73 Tryd.underlying60 cellsU64 cellsTab10 h

end Go.Proofs.YtgeinpmmghpjcaaDoor
