/-
  Texts of one proof, merged: RdyP.
-/
import Derived.Test.YtfpfgaifhmgpiaaDoorQL142
import Derived.Test.YtfpfgaifhmgpiaaDoorQL146
import Derived.Test.YtfpfgaifhmgpiaaDoorQL148
import Derived.Test.YtfpfgaifhmgpiaaDoorQL1410
import Derived.Test.YtfpfgaifhmgpiaaDoorQL1411
import Derived.Test.YtfpfgaifhmgpiaaDoorQL1412
import Derived.Test.YtfpfgaifhmgpiaaDoorQL1414
import Derived.Laws.CopyOwn
import Derived.Deep.WholeRow
import Derived.Laws.EntriesVeiled
import Derived.LoopN
namespace Go.Proofs.YtfpfgaifhmgpiaaDoor
open Go.RowKit Go.PlainAid

set_option linter.unusedVariables false

/-- Is the time of this kind allowed? -/
def KindFit (bb : Bool) (xs : List Int) (j : Nat) : Prop := xs.getD j 0 = -1 ∨ ((decide (j + 1 < 6) == bb) = true ∧ 0 ≤ xs.getD j 0 ∧ xs.getD j 0 ≤ 1000000)

instance (bb : Bool) (xs : List Int) (j : Nat) : Decidable (KindFit bb xs j) := inferInstanceAs (Decidable (_ ∨ _))

def KindsFit (bb : Bool) (xs : List Int) : Prop := ∀ j, j < 9 → KindFit bb xs j

instance (bb : Bool) (xs : List Int) : Decidable (KindsFit bb xs) := inferInstanceAs (Decidable (∀ j, j < 9 → _))

end Go.Proofs.YtfpfgaifhmgpiaaDoor
