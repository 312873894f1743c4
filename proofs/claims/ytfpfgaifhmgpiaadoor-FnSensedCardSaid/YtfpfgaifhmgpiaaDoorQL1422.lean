/-
  Texts of one proof, merged: CodR.
-/
import Derived.Test.YtfpfgaifhmgpiaaDoorQL141
import Derived.Test.YtfpfgaifhmgpiaaDoorQL145
import Derived.Test.YtfpfgaifhmgpiaaDoorQL1419
import Derived.Laws.EntriesVeiled
import Derived.LoopIn
import Derived.LoopNIn
import Derived.OwnWalkIn
import Derived.RangeFuncBound
import Derived.RangeFuncCalls
import Derived.RangeFuncFrom
import Derived.RangeFuncLeaves
import Derived.RangeFuncNested
import Derived.Shelf.Abstract
import Derived.Shelf.RegionOpen
import Derived.TacticsInMore
import Derived.WalkKit
namespace Go.Proofs.YtfpfgaifhmgpiaaDoor
open Go.RowKit Go.Shelf

set_option linter.unusedVariables false
set_option linter.unusedSimpArgs false

attribute [local go_sem] Oper.semAt_some

/-- What a round must keep: all below, and the block of the iterator's own variable. -/
def KeptB (n₀ B : Nat) (W W' : World) : Prop := Below n₀ W W' ∧ W'.heap[B]? = W.heap[B]?

theorem KeptB.refl (n₀ B : Nat) (W : World) : KeptB n₀ B W W := ⟨Below.refl _ _, rfl⟩

theorem KeptB.trans {n₀ B : Nat} {A W W' : World} (h : KeptB n₀ B A W) (k : KeptB n₀ B W W') : KeptB n₀ B A W' := ⟨h.1.trans k.1, k.2.trans h.2⟩

end Go.Proofs.YtfpfgaifhmgpiaaDoor
