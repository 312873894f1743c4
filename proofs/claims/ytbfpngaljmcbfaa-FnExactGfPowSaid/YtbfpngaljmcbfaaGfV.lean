/-
  The walks of the statements on the field, as the frames want them.
-/
import Derived.Test.YtbfpngaljmcbfaaGfE
import Derived.Test.YtbfpngaljmcbfaaGfL
import Derived.Test.YtbfpngaljmcbfaaGfS
namespace Go.Proofs.Ytbfpngaljmcbfaa
open Go.RowKit

set_option linter.unusedVariables false

theorem exGfAdd_walk (a b : Int) (w : World) (_ : (Lit.int .i64 a).wf = true) (_ : (Lit.int .i64 b).wf = true) :
    Calls Try.prog 5 #[.int .i64 a, .int .i64 b] w fun e w' => e = .returned (.bool true) ∧ Below w.heap.size w w' := exGfAdd_of (Lib.hid implGfAdd_is) a b w

theorem exGfMul_walk (a b : Int) (w : World) (_ : (Lit.int .i64 a).wf = true) (_ : (Lit.int .i64 b).wf = true) :
    Calls Try.prog 6 #[.int .i64 a, .int .i64 b] w fun e w' => e = .returned (.bool true) ∧ Below w.heap.size w w' := exGfMul_of (Lib.hid implGfMul_is) a b w

theorem exGfInv_walk (a : Int) (w : World) (_ : (Lit.int .i64 a).wf = true) :
    Calls Try.prog 7 #[.int .i64 a] w fun e w' => e = .returned (.bool true) ∧ Below w.heap.size w w' := exGfInv_of (Lib.hid implGfInv_is) a w

theorem exGfPow_walk (a b : Int) (w : World) (_ : (Lit.int .i64 a).wf = true) (_ : (Lit.int .i64 b).wf = true) :
    Calls Try.prog 8 #[.int .i64 a, .int .i64 b] w fun e w' => e = .returned (.bool true) ∧ Below w.heap.size w w' := exGfPow_of (Lib.hid implGfPow_is) a b w

theorem exGfLog_walk (a : Int) (w : World) (_ : (Lit.int .i64 a).wf = true) :
    Calls Try.prog 9 #[.int .i64 a] w fun e w' => e = .returned (.bool true) ∧ Below w.heap.size w w' := exGfLog_of (Lib.hid implGfLog_is) a w

theorem fnField_walk (a0 : Option Addr) (len cap : Nat) (zs : List Int) (w : World) (hr : IsRow .u8 w a0 len cap zs) :
    Calls Try.prog 3 #[.slice a0 len cap] w fun e w' => e = .returned (.bool true) ∧ Below w.heap.size w w' := fnField_of (Lib.hid implGfMul_is) (Lib.hid implGfAdd_is) (Lib.hid implGfInv_is) a0 len cap zs w hr

theorem fnPowers_walk (a0 : Option Addr) (len cap : Nat) (zs : List Int) (w : World) (hr : IsRow .u8 w a0 len cap zs) :
    Calls Try.prog 4 #[.slice a0 len cap] w fun e w' => e = .returned (.bool true) ∧ Below w.heap.size w w' := fnPowers_of (Lib.hid implGfMul_is) (Lib.hid implGfPow_is) (Lib.hid implGfLog_is) a0 len cap zs w hr

end Go.Proofs.Ytbfpngaljmcbfaa
