/-
  The walk of the exact statement on the times of activations.
-/
import Derived.Test.YtihhcnckoeaihaaTrcH
import Derived.Test.YtihhcnckoeaihaaTrcS
namespace Go.Proofs.Ytihhcnckoeaihaa
open Go.RowKit

set_option linter.unusedVariables false

theorem exActs_walk (a : Option Addr) (len cap : Nat) (w : World) (s : Sh.Fits w (.row (.and (.num .i64) (.and (.and (.num .i64) (.and (.num .i64) (.and (.num .i64) (.and (.num .i64) .fin)))) .fin))) [.slice a len cap]) :
    Calls Try.prog 5 #[.slice a len cap] w fun e w' => e = .returned (.bool true) ∧ Below w.heap.size w w' := exActs_of (Lib.hid implActs_is) a len cap w s

end Go.Proofs.Ytihhcnckoeaihaa
