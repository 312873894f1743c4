/-
  Texts of one proof, merged: Laid.
-/
import Derived.Test.YtihhcnckoeaihaaDoorQE14
import Derived.LaidLaws
import Derived.LaidSub
import Derived.Lay
import Derived.Lib.LaidTab
import Derived.MakeChecks
import Derived.SevenTiedAt
import Derived.Stop.LaidErr
import Derived.Test.YtihhcnckoeaihaaDoorCards
import Derived.Test.YtihhcnckoeaihaaDoorTie
namespace Go.Proofs.YtihhcnckoeaihaaDoor
open Go.RowKit

theorem gTab10 : Tryd.prog.globalNamed "internal/strconv.uint64pow10" = some 1 := by kernel_rfl

theorem gTab10Type : (Tryd.prog.globals[1]?).map (·.type) = some 143 := by kernel_rfl

theorem cellsTab10 : Tryd.prog.cellsOf 143 = 20 := by kernel_rfl

theorem cellsU64 : Tryd.prog.cellsOf 132 = 1 := by kernel_rfl

theorem tab10_of {W : World} (h : laidMetH Tryd.prog [("internal/strconv.uint64pow10", Rows.laid_internal_strconv_uint64pow10)] W) : Tab10 W := by
  rw [MakeChecks.laidMetH_plain _ _ _ (by kernel_rfl)] at h
  exact Lib.tabIs_of_head (rest := []) gTab10 gTab10Type Tryd.underlying143 Tryd.underlying132 cellsU64 cellsTab10 h

end Go.Proofs.YtihhcnckoeaihaaDoor
