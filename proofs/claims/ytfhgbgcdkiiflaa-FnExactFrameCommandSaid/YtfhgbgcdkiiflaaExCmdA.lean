/-
  The walks of the exact statements over commands that make no text, and of the statement on one wrong bit, out of the contracts.
-/
import Derived.Test.YtfhgbgcdkiiflaaExCmdW
import Derived.Test.YtfhgbgcdkiiflaaCmdK
import Derived.Test.YtfhgbgcdkiiflaaCmdT
namespace Go.Proofs.Ytfhgbgcdkiiflaa
open Go.RowKit

set_option linter.unusedVariables false

theorem exCommandOk_walk (a b r d k x y z : Int) (w : World) (_ : (Lit.int .i64 a).wf = true) (_ : (Lit.int .i64 b).wf = true) (_ : (Lit.int .i64 r).wf = true) (_ : (Lit.int .i64 d).wf = true) (_ : (Lit.int .i64 k).wf = true) (_ : (Lit.int .i64 x).wf = true) (_ : (Lit.int .i64 y).wf = true) (_ : (Lit.int .i64 z).wf = true) :
    Calls Try.prog 4 #[.agg #[.int .i64 a, .int .i64 b, .int .i64 r, .int .i64 d], .agg #[.int .i64 k, .int .i64 x, .int .i64 y, .int .i64 z]] w fun e w' => e = .returned (.bool true) ∧ Below w.heap.size w w' :=
  exCommandOk_of a b r d k x y z _ w (fun w => specCommandOk_is a b r d k x y z _ rfl w) (fun w => implCommandOk_is a b r d k x y z _ rfl w)

theorem exPackCommand_walk (k x y z : Int) (w : World) (_ : (Lit.int .i64 k).wf = true) (_ : (Lit.int .i64 x).wf = true) (_ : (Lit.int .i64 y).wf = true) (_ : (Lit.int .i64 z).wf = true) :
    Calls Try.prog 5 #[.agg #[.int .i64 k, .int .i64 x, .int .i64 y, .int .i64 z]] w fun e w' => e = .returned (.bool true) ∧ Below w.heap.size w w' :=
  exPackCommand_of k x y z _ w (fun w => specPack_is k x y z _ rfl w) (fun w => implPack_is k x y z _ rfl w)

theorem exFrameCommand_walk (k x y z : Int) (w : World) (_ : (Lit.int .i64 k).wf = true) (_ : (Lit.int .i64 x).wf = true) (_ : (Lit.int .i64 y).wf = true) (_ : (Lit.int .i64 z).wf = true) :
    Calls Try.prog 6 #[.agg #[.int .i64 k, .int .i64 x, .int .i64 y, .int .i64 z]] w fun e w' => e = .returned (.bool true) ∧ Below w.heap.size w w' :=
  exFrameCommand_of k x y z _ w (fun w => specFrame_is k x y z _ rfl w) (fun w => implFrame_is k x y z _ rfl w)

theorem exReadFrame_walk (n : Int) (w : World) (_ : (Lit.int .i64 n).wf = true) :
    Calls Try.prog 7 #[.int .i64 n] w fun e w' => e = .returned (.bool true) ∧ Below w.heap.size w w' := by
  have hs := specRead_is n
  have hi := implRead_is n
  by_cases h : 0 ≤ n ∧ n ≤ 32767 ∧ frameF (n % 16) (n / 16 % 8) (n / 128 % 16) (n / 2048 % 8) = n
  · have e : readV n = .tuple #[.agg #[.int .i64 (n % 16), .int .i64 (n / 16 % 8), .int .i64 (n / 128 % 16), .int .i64 (n / 2048 % 8)], .bool true] := if_pos h
    rw [e] at hs hi
    exact exReadFrame_of n _ _ _ _ _ w hs hi
  · have e : readV n = .tuple #[.agg #[.int .i64 0, .int .i64 0, .int .i64 0, .int .i64 0], .bool false] := if_neg h
    rw [e] at hs hi
    exact exReadFrame_of n _ _ _ _ _ w hs hi

theorem oneBit_is (a : Option Addr) (len cap : Nat) (z : List Int) (w : World) (hr : IsRow .u8 w a len cap z) :
    Calls Try.prog 3 #[.slice a len cap] w fun e w' => e = .returned (.bool true) ∧ Below w.heap.size w w' :=
  oneBit_walk implRead_is a len cap z w hr

end Go.Proofs.Ytfhgbgcdkiiflaa
