/-
  The walk of the statement on opening and closing.
-/
import Derived.Test.YtigoniochamjgaaBnkO
import Derived.Test.YtigoniochamjgaaBnkG
namespace Go.Proofs.Ytigoniochamjgaa
open Go.RowKit

set_option linter.unusedVariables false


theorem fnOpened_walk (a : Option Addr) (len cap : Nat) (z : List Int) (w : World) (hr : IsRow .u8 w a len cap z) :
    Calls Try.prog 4 #[.slice a len cap] w fun e w' => e = .returned (.bool true) ∧ Below w.heap.size w w' := fnOpened_of (Lib.hid implRankNew_is) (Lib.hid implAfter_is) (Lib.hid implOpen_is) a len cap z w hr


end Go.Proofs.Ytigoniochamjgaa
