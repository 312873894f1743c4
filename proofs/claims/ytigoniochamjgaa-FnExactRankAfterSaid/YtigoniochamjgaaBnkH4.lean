/-
  The walk of the exact statement on the state behind a command.
-/
import Derived.Test.YtigoniochamjgaaBnkE4
import Derived.Test.YtigoniochamjgaaBnkG
namespace Go.Proofs.Ytigoniochamjgaa
open Go.RowKit

set_option linter.unusedVariables false


theorem exRankAfter_walk (ea eb ec ed : Int) (ll : List Value) (k x y z : Int) (w : World) (_ : (Lit.int .i64 ea).wf = true) (_ : (Lit.int .i64 eb).wf = true) (_ : (Lit.int .i64 ec).wf = true) (_ : (Lit.int .i64 ed).wf = true) (s : Sh.Fits w (.and (.row (.and .flag (.and (.num .i64) .fin))) (.and (.num .i64) .fin)) ll) (_ : (Lit.int .i64 k).wf = true) (_ : (Lit.int .i64 x).wf = true) (_ : (Lit.int .i64 y).wf = true) (_ : (Lit.int .i64 z).wf = true) :
    Calls Try.prog 8 #[.agg #[.int .i64 ea, .int .i64 eb, .int .i64 ec, .int .i64 ed], .agg ll.toArray, .agg #[.int .i64 k, .int .i64 x, .int .i64 y, .int .i64 z]] w fun e w' => e = .returned (.bool true) ∧ Below w.heap.size w w' := exRankAfter_of (Lib.hid implAfter_is) ea eb ec ed ll k x y z w s


end Go.Proofs.Ytigoniochamjgaa
