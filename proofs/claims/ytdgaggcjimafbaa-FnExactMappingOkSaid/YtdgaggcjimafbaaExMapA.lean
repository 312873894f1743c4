/-
  The walks of the exact statements over mappings, out of the contracts.
-/
import Derived.Test.YtdgaggcjimafbaaExMapW
import Derived.Test.YtdgaggcjimafbaaImplMapW
import Derived.Test.YtdgaggcjimafbaaLineW
namespace Go.Proofs.Ytdgaggcjimafbaa
open Go.RowKit

set_option linter.unusedVariables false

theorem exMappingOk_walk (o : Int) (h : Bool) (w : World) (_ : (Lit.int .i64 o).wf = true) :
    Calls Try.prog 5 #[.agg #[.int .i64 o, .bool h]] w fun e w' => e = .returned (.bool true) ∧ Below w.heap.size w w' :=
  exMappingOk_of o h _ w (fun w => specMappingOk_is o h _ rfl w) (fun w => implMappingOk_is o h _ rfl w)

theorem exMapLine_walk (a b c d o : Int) (h : Bool) (n : Int) (w : World) (_ : (Lit.int .i64 a).wf = true) (_ : (Lit.int .i64 b).wf = true) (_ : (Lit.int .i64 c).wf = true) (_ : (Lit.int .i64 d).wf = true) (_ : (Lit.int .i64 o).wf = true) (_ : (Lit.int .i64 n).wf = true) :
    Calls Try.prog 6 #[.agg #[.int .i64 a, .int .i64 b, .int .i64 c, .int .i64 d], .agg #[.int .i64 o, .bool h], .int .i64 n] w fun e w' => e = .returned (.bool true) ∧ Below w.heap.size w w' := by
  have hs := specMapLine_is a b c d o h n
  have hi := implMapLine_is a b c d o h n
  by_cases k : (0 ≤ o ∧ o ≤ 2) ∧ LnOk a b c d n
  · rw [mapF_ok k.1 k.2] at hs hi
    exact exMapLine_of a b c d o h n _ _ _ _ w hs hi
  · rw [show mapF a b c d o h n = adV 0 0 0 false from if_neg k] at hs hi
    exact exMapLine_of a b c d o h n _ _ _ _ w hs hi

theorem exLineOf_walk (a b c d o : Int) (h : Bool) (x y z : Int) (w : World) (_ : (Lit.int .i64 a).wf = true) (_ : (Lit.int .i64 b).wf = true) (_ : (Lit.int .i64 c).wf = true) (_ : (Lit.int .i64 d).wf = true) (_ : (Lit.int .i64 o).wf = true) (_ : (Lit.int .i64 x).wf = true) (_ : (Lit.int .i64 y).wf = true) (_ : (Lit.int .i64 z).wf = true) :
    Calls Try.prog 7 #[.agg #[.int .i64 a, .int .i64 b, .int .i64 c, .int .i64 d], .agg #[.int .i64 o, .bool h], .agg #[.int .i64 x, .int .i64 y, .int .i64 z]] w fun e w' => e = .returned (.bool true) ∧ Below w.heap.size w w' :=
  exLineOf_of a b c d o h x y z _ w (specLineOf_is a b c d o h x y z) (implLineOf_is a b c d o h x y z)

end Go.Proofs.Ytdgaggcjimafbaa
