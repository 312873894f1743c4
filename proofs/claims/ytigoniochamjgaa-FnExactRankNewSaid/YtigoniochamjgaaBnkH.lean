/-
  The walks of the exact statements on a new rank and on the row of a bank.
-/
import Derived.Test.YtigoniochamjgaaBnkE
import Derived.Test.YtigoniochamjgaaBnkP
namespace Go.Proofs.Ytigoniochamjgaa
open Go.RowKit

set_option linter.unusedVariables false


theorem exRankNew_walk (ea eb ec ed : Int) (w : World) (_ : (Lit.int .i64 ea).wf = true) (_ : (Lit.int .i64 eb).wf = true) (_ : (Lit.int .i64 ec).wf = true) (_ : (Lit.int .i64 ed).wf = true) :
    Calls Try.prog 5 #[.agg #[.int .i64 ea, .int .i64 eb, .int .i64 ec, .int .i64 ed]] w fun e w' => e = .returned (.bool true) ∧ Below w.heap.size w w' := exRankNew_of (Lib.hid implRankNew_is) ea eb ec ed w



theorem exRowOf_walk (ll : List Value) (x : Int) (w : World) (s : Sh.Fits w (.and (.row (.and .flag (.and (.num .i64) .fin))) (.and (.num .i64) .fin)) ll) (_ : (Lit.int .i64 x).wf = true) :
    Calls Try.prog 10 #[.agg ll.toArray, .int .i64 x] w fun e w' => e = .returned (.bool true) ∧ Below w.heap.size w w' := exRowOf_of (Lib.hid implRowOf_is) ll x w s


end Go.Proofs.Ytigoniochamjgaa
