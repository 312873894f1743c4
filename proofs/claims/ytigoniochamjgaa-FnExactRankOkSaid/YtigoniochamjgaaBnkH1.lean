/-
  The walk of the exact statement on valid states.
-/
import Derived.Test.YtigoniochamjgaaBnkE1
import Derived.Test.YtigoniochamjgaaBnkQ
namespace Go.Proofs.Ytigoniochamjgaa
open Go.RowKit

set_option linter.unusedVariables false


theorem exRankOk_walk (ea eb ec ed : Int) (ll : List Value) (w : World) (_ : (Lit.int .i64 ea).wf = true) (_ : (Lit.int .i64 eb).wf = true) (_ : (Lit.int .i64 ec).wf = true) (_ : (Lit.int .i64 ed).wf = true) (s : Sh.Fits w (.and (.row (.and .flag (.and (.num .i64) .fin))) (.and (.num .i64) .fin)) ll) :
    Calls Try.prog 6 #[.agg #[.int .i64 ea, .int .i64 eb, .int .i64 ec, .int .i64 ed], .agg ll.toArray] w fun e w' => e = .returned (.bool true) ∧ Below w.heap.size w w' := exRankOk_of (Lib.hid implRankOk_is) ea eb ec ed ll w s


end Go.Proofs.Ytigoniochamjgaa
