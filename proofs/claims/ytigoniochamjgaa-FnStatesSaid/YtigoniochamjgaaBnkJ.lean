/-
  The walk of the statement on states.
-/
import Derived.Test.YtigoniochamjgaaBnkL
import Derived.Test.YtigoniochamjgaaBnkG
namespace Go.Proofs.Ytigoniochamjgaa
open Go.RowKit

set_option linter.unusedVariables false


theorem fnStates_walk (a : Option Addr) (len cap : Nat) (z : List Int) (w : World) (hr : IsRow .u8 w a len cap z) :
    Calls Try.prog 3 #[.slice a len cap] w fun e w' => e = .returned (.bool true) ∧ Below w.heap.size w w' := fnStates_of (Lib.hid implAfter_is) (Lib.hid implAllowed_is) (Lib.hid implRankOk_is) (Lib.hid implRowOf_is) a len cap z w hr


end Go.Proofs.Ytigoniochamjgaa
