/-
  Texts of one proof, merged: RdyP.
-/
import Derived.Test.YtpddinflkkcodaaDoorQM131
import Derived.Test.YtpddinflkkcodaaDoorQM132
import Derived.Test.YtpddinflkkcodaaDoorQM138
import Derived.Test.YtpddinflkkcodaaDoorQM139
import Derived.Test.YtpddinflkkcodaaDoorQM1310
import Derived.Test.YtpddinflkkcodaaDoorQM1312
import Derived.Laws.CopyOwn
import Derived.Deep.WholeRow
import Derived.Laws.EntriesVeiled
import Derived.LoopN
namespace Go.Proofs.YtpddinflkkcodaaDoor
open Go.RowKit Go.PlainAid

set_option linter.unusedVariables false

/-- Is the time of this kind allowed? -/
def KindFit (bb : Bool) (xs : List Int) (j : Nat) : Prop := xs.getD j 0 = -1 ∨ ((decide (j + 1 < 6) == bb) = true ∧ 0 ≤ xs.getD j 0 ∧ xs.getD j 0 ≤ 1000000)

instance (bb : Bool) (xs : List Int) (j : Nat) : Decidable (KindFit bb xs j) := inferInstanceAs (Decidable (_ ∨ _))

def KindsFit (bb : Bool) (xs : List Int) : Prop := ∀ j, j < 9 → KindFit bb xs j

instance (bb : Bool) (xs : List Int) : Decidable (KindsFit bb xs) := inferInstanceAs (Decidable (∀ j, j < 9 → _))

end Go.Proofs.YtpddinflkkcodaaDoor
