/-
  What the listed package-level variables give the walks.
-/
import Derived.Test.YtgeinpmmghpjcaaDoorCards
import Derived.Test.YtgeinpmmghpjcaaDoorTie
import Derived.Test.YtgeinpmmghpjcaaDoorFmtW
import Derived.Test.YtgeinpmmghpjcaaDoorNumW
import Derived.Lib.LaidTab
import Derived.Lay
import Derived.LaidSub
import Derived.MakeChecks
import Derived.SevenTiedAt
import Derived.Stop.LaidErr
import Derived.LaidLaws
namespace Go.Proofs.YtgeinpmmghpjcaaDoor
open Go.RowKit

theorem gTab10 : Tryd.prog.globalNamed "internal/strconv.uint64pow10" = some 3 := by kernel_rfl

theorem gTab10Type : (Tryd.prog.globals[3]?).map (·.type) = some 73 := by kernel_rfl

theorem cellsTab10 : Tryd.prog.cellsOf 73 = 20 := by kernel_rfl

theorem cellsU64 : Tryd.prog.cellsOf 60 = 1 := by kernel_rfl

theorem tab10_of {W : World} (h : laidMetH Tryd.prog [("internal/strconv.uint64pow10", Rows.laid_internal_strconv_uint64pow10)] W) : Tab10 W := by
  rw [MakeChecks.laidMetH_plain _ _ _ (by kernel_rfl)] at h
  exact Lib.tabIs_of_head (rest := []) gTab10 gTab10Type Tryd.underlying73 Tryd.underlying60 cellsU64 cellsTab10 h

theorem gES : Tryd.prog.globalNamed "strconv.ErrSyntax" = some 1 := by kernel_rfl

theorem gESType : (Tryd.prog.globals[1]?).map (·.type) = some 43 := by kernel_rfl

theorem gER : Tryd.prog.globalNamed "strconv.ErrRange" = some 2 := by kernel_rfl

theorem gERType : (Tryd.prog.globals[2]?).map (·.type) = some 43 := by kernel_rfl

theorem starES : "*" ++ "errors.errorString" = "*errors.errorString" := by decide

theorem rowES (u : TypeId) (h : Tryd.prog.typeName? 3 u = some "*errors.errorString") : u = 79 :=
  typeName_ptr_named (nm := "errors.errorString") (by rw [starES]; kernel_rfl) (by kernel_rfl) (by decide) u (by rw [starES]; exact h)

theorem cellsES : Tryd.prog.cellsOf 81 = 1 := by kernel_rfl

theorem cellsStr : Tryd.prog.cellsOf 9 = 1 := by kernel_rfl

theorem errS_of {W : World} (h : laidMetH Tryd.prog [("strconv.ErrSyntax", Rows.laid_strconv_ErrSyntax)] W) : ErrS W := by
  rw [MakeChecks.laidMetH_plain _ _ _ (by kernel_rfl)] at h
  obtain ⟨a0, s0, hv0, -, -, -⟩ := laid_sentinel h gES gESType Tryd.underlying43 rowES Tryd.underlying79 Tryd.underlying81 rfl rfl Tryd.underlying9 cellsES cellsStr
  exact ⟨_, _, hv0⟩

theorem errR_of {W : World} (h : laidMetH Tryd.prog [("strconv.ErrRange", Rows.laid_strconv_ErrRange)] W) : ErrR W := by
  rw [MakeChecks.laidMetH_plain _ _ _ (by kernel_rfl)] at h
  obtain ⟨a0, s0, hv0, -, -, -⟩ := laid_sentinel h gER gERType Tryd.underlying43 rowES Tryd.underlying79 Tryd.underlying81 rfl rfl Tryd.underlying9 cellsES cellsStr
  exact ⟨_, _, hv0⟩


end Go.Proofs.YtgeinpmmghpjcaaDoor
