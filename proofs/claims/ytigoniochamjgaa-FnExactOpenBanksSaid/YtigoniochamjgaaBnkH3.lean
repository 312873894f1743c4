/-
  The walk of the exact statement on the open banks.
-/
import Derived.Test.YtigoniochamjgaaBnkE3
import Derived.Test.YtigoniochamjgaaBnkP
namespace Go.Proofs.Ytigoniochamjgaa
open Go.RowKit

set_option linter.unusedVariables false


theorem exOpenBanks_walk (ll : List Value) (w : World) (s : Sh.Fits w (.and (.row (.and .flag (.and (.num .i64) .fin))) (.and (.num .i64) .fin)) ll) :
    Calls Try.prog 9 #[.agg ll.toArray] w fun e w' => e = .returned (.bool true) ∧ Below w.heap.size w w' := exOpenBanks_of (Lib.hid implOpen_is) ll w s


end Go.Proofs.Ytigoniochamjgaa
