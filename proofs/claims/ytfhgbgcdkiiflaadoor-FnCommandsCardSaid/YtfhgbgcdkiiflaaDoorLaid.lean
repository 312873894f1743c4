/-
  What the listed package-level variables give the walks.
-/
import Derived.Test.YtfhgbgcdkiiflaaDoorCards
import Derived.Test.YtfhgbgcdkiiflaaDoorTie
import Derived.Test.YtfhgbgcdkiiflaaDoorFmtW
import Derived.Test.YtfhgbgcdkiiflaaDoorNumW
import Derived.Lib.LaidTab
import Derived.Lay
import Derived.LaidSub
import Derived.MakeChecks
import Derived.SevenTiedAt
import Derived.Stop.LaidErr
import Derived.LaidLaws
namespace Go.Proofs.YtfhgbgcdkiiflaaDoor
open Go.RowKit

theorem gTab10 : Tryd.prog.globalNamed "internal/strconv.uint64pow10" = some 1 := by kernel_rfl

theorem gTab10Type : (Tryd.prog.globals[1]?).map (·.type) = some 111 := by kernel_rfl

theorem cellsTab10 : Tryd.prog.cellsOf 111 = 20 := by kernel_rfl

theorem cellsU64 : Tryd.prog.cellsOf 99 = 1 := by kernel_rfl

theorem tab10_of {W : World} (h : laidMetH Tryd.prog [("internal/strconv.uint64pow10", Rows.laid_internal_strconv_uint64pow10)] W) : Tab10 W := by
  rw [MakeChecks.laidMetH_plain _ _ _ (by kernel_rfl)] at h
  exact Lib.tabIs_of_head (rest := []) gTab10 gTab10Type Tryd.underlying111 Tryd.underlying99 cellsU64 cellsTab10 h

theorem gES : Tryd.prog.globalNamed "strconv.ErrSyntax" = some 2 := by kernel_rfl

theorem gESType : (Tryd.prog.globals[2]?).map (·.type) = some 90 := by kernel_rfl

theorem gER : Tryd.prog.globalNamed "strconv.ErrRange" = some 3 := by kernel_rfl

theorem gERType : (Tryd.prog.globals[3]?).map (·.type) = some 90 := by kernel_rfl

theorem starES : "*" ++ "errors.errorString" = "*errors.errorString" := by decide

theorem rowES (u : TypeId) (h : Tryd.prog.typeName? 3 u = some "*errors.errorString") : u = 124 :=
  typeName_ptr_named (nm := "errors.errorString") (by rw [starES]; kernel_rfl) (by kernel_rfl) (by decide) u (by rw [starES]; exact h)

theorem cellsES : Tryd.prog.cellsOf 126 = 1 := by kernel_rfl

theorem cellsStr : Tryd.prog.cellsOf 9 = 1 := by kernel_rfl

theorem errS_of {W : World} (h : laidMetH Tryd.prog [("strconv.ErrSyntax", Rows.laid_strconv_ErrSyntax)] W) : ErrS W := by
  rw [MakeChecks.laidMetH_plain _ _ _ (by kernel_rfl)] at h
  obtain ⟨a0, s0, hv0, -, -, -⟩ := laid_sentinel h gES gESType Tryd.underlying90 rowES Tryd.underlying124 Tryd.underlying126 rfl rfl Tryd.underlying9 cellsES cellsStr
  exact ⟨_, _, hv0⟩

theorem errR_of {W : World} (h : laidMetH Tryd.prog [("strconv.ErrRange", Rows.laid_strconv_ErrRange)] W) : ErrR W := by
  rw [MakeChecks.laidMetH_plain _ _ _ (by kernel_rfl)] at h
  obtain ⟨a0, s0, hv0, -, -, -⟩ := laid_sentinel h gER gERType Tryd.underlying90 rowES Tryd.underlying124 Tryd.underlying126 rfl rfl Tryd.underlying9 cellsES cellsStr
  exact ⟨_, _, hv0⟩


end Go.Proofs.YtfhgbgcdkiiflaaDoor
