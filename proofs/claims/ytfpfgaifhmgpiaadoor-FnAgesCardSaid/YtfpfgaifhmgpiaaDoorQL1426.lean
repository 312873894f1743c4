/-
  Texts of one proof, merged: CodY.
-/
import Derived.Test.YtfpfgaifhmgpiaaDoorQL1410
import Derived.Test.YtfpfgaifhmgpiaaDoorQL1418
import Derived.Test.YtfpfgaifhmgpiaaDoorQL1425
import Derived.Lib.AppendZerosOnto
import Derived.Lib.SliceRun
import Derived.Maps.Own
import Derived.Maps.OwnSet
import Derived.Maps.RangeWalk
import Derived.Maps.Views
namespace Go.Proofs.YtfpfgaifhmgpiaaDoor
open Go.RowKit Go.PlainAid

set_option linter.unusedVariables false

/-- The divisor's terms lie in the program's table. -/
def GenAt (w : World) : Prop := w.cell? ⟨1, 0, none⟩ = some (.int .i64 8) ∧ w.cell? ⟨1, 1, none⟩ = some (.int .i64 14) ∧ w.cell? ⟨1, 2, none⟩ = some (.int .i64 7)

theorem GenAt.below {w w' : World} (h : GenAt w) (hb : Below w.heap.size w w') : GenAt w' :=
  have k : ∀ {i : Nat} {v : Value}, w.cell? ⟨1, i, none⟩ = some v → w'.cell? ⟨1, i, none⟩ = some v := fun e => (hb.cell (World.block_lt_of_cell? _ _ e)).trans e
  ⟨k h.1, k h.2.1, k h.2.2⟩

end Go.Proofs.YtfpfgaifhmgpiaaDoor
