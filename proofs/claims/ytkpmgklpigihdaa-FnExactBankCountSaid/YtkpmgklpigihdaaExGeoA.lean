/-
  The walks of the exact statements over geometries and addresses, and of the two statements over draws, out of the contracts.
-/
import Derived.Test.YtkpmgklpigihdaaExGeoW
import Derived.Test.YtkpmgklpigihdaaGeoI
import Derived.Test.YtkpmgklpigihdaaAddrW
namespace Go.Proofs.Ytkpmgklpigihdaa
open Go.RowKit

set_option linter.unusedVariables false

theorem exGeometryOk_walk (a b c d : Int) (w : World) (_ : (Lit.int .i64 a).wf = true) (_ : (Lit.int .i64 b).wf = true) (_ : (Lit.int .i64 c).wf = true) (_ : (Lit.int .i64 d).wf = true) :
    Calls Try.prog 5 #[.agg #[.int .i64 a, .int .i64 b, .int .i64 c, .int .i64 d]] w fun e w' => e = .returned (.bool true) ∧ Below w.heap.size w w' :=
  exGeometryOk_of a b c d _ w (fun w => specGeoOk_is a b c d _ rfl w) (fun w => implGeoOk_is a b c d _ rfl w)

theorem exBankCount_walk (a b c d : Int) (w : World) (_ : (Lit.int .i64 a).wf = true) (_ : (Lit.int .i64 b).wf = true) (_ : (Lit.int .i64 c).wf = true) (_ : (Lit.int .i64 d).wf = true) :
    Calls Try.prog 6 #[.agg #[.int .i64 a, .int .i64 b, .int .i64 c, .int .i64 d]] w fun e w' => e = .returned (.bool true) ∧ Below w.heap.size w w' :=
  exBankCount_of a b c d _ w (fun w => specBank_is a b c d _ rfl w) (fun w => implBank_is a b c d _ rfl w)

theorem exGroupOf_walk (a b c d k : Int) (w : World) (_ : (Lit.int .i64 a).wf = true) (_ : (Lit.int .i64 b).wf = true) (_ : (Lit.int .i64 c).wf = true) (_ : (Lit.int .i64 d).wf = true) (_ : (Lit.int .i64 k).wf = true) :
    Calls Try.prog 7 #[.agg #[.int .i64 a, .int .i64 b, .int .i64 c, .int .i64 d], .int .i64 k] w fun e w' => e = .returned (.bool true) ∧ Below w.heap.size w w' :=
  exGroupOf_of a b c d k _ w (fun w => specGroup_is a b c d k _ rfl w) (fun w => implGroup_is a b c d k _ rfl w)

theorem exAddrOk_walk (a b c d x y z : Int) (w : World) (_ : (Lit.int .i64 a).wf = true) (_ : (Lit.int .i64 b).wf = true) (_ : (Lit.int .i64 c).wf = true) (_ : (Lit.int .i64 d).wf = true) (_ : (Lit.int .i64 x).wf = true) (_ : (Lit.int .i64 y).wf = true) (_ : (Lit.int .i64 z).wf = true) :
    Calls Try.prog 8 #[.agg #[.int .i64 a, .int .i64 b, .int .i64 c, .int .i64 d], .agg #[.int .i64 x, .int .i64 y, .int .i64 z]] w fun e w' => e = .returned (.bool true) ∧ Below w.heap.size w w' :=
  exAddrOk_of a b c d x y z _ w (fun w => specAddrOk_is a b c d x y z _ rfl w) (fun w => implAddrOk_is a b c d x y z _ rfl w)

theorem exLineCount_walk (a b c d : Int) (w : World) (_ : (Lit.int .i64 a).wf = true) (_ : (Lit.int .i64 b).wf = true) (_ : (Lit.int .i64 c).wf = true) (_ : (Lit.int .i64 d).wf = true) :
    Calls Try.prog 9 #[.agg #[.int .i64 a, .int .i64 b, .int .i64 c, .int .i64 d]] w fun e w' => e = .returned (.bool true) ∧ Below w.heap.size w w' :=
  exLineCount_of a b c d _ w (fun w => specLine_is a b c d _ rfl w) (fun w => implLine_is a b c d _ rfl w)

theorem exAddrIndex_walk (a b c d x y z : Int) (w : World) (_ : (Lit.int .i64 a).wf = true) (_ : (Lit.int .i64 b).wf = true) (_ : (Lit.int .i64 c).wf = true) (_ : (Lit.int .i64 d).wf = true) (_ : (Lit.int .i64 x).wf = true) (_ : (Lit.int .i64 y).wf = true) (_ : (Lit.int .i64 z).wf = true) :
    Calls Try.prog 10 #[.agg #[.int .i64 a, .int .i64 b, .int .i64 c, .int .i64 d], .agg #[.int .i64 x, .int .i64 y, .int .i64 z]] w fun e w' => e = .returned (.bool true) ∧ Below w.heap.size w w' :=
  exAddrIndex_of a b c d x y z _ w (fun w => specIndex_is a b c d x y z _ rfl w) (fun w => implIndex_is a b c d x y z _ rfl w)

theorem exAddrAt_walk (a b c d n : Int) (w : World) (_ : (Lit.int .i64 a).wf = true) (_ : (Lit.int .i64 b).wf = true) (_ : (Lit.int .i64 c).wf = true) (_ : (Lit.int .i64 d).wf = true) (_ : (Lit.int .i64 n).wf = true) :
    Calls Try.prog 11 #[.agg #[.int .i64 a, .int .i64 b, .int .i64 c, .int .i64 d], .int .i64 n] w fun e w' => e = .returned (.bool true) ∧ Below w.heap.size w w' := by
  have hs := specAt_is a b c d n
  have hi := implAt_is a b c d n
  by_cases k : LnOk a b c d n
  · rw [show atF a b c d n = adV (n / d / c) (n / d % c) (n % d) true from if_pos k] at hs hi
    exact exAddrAt_of a b c d n _ _ _ _ w hs hi
  · rw [show atF a b c d n = adV 0 0 0 false from if_neg k] at hs hi
    exact exAddrAt_of a b c d n _ _ _ _ w hs hi

theorem implGeo : ImplGeo where
  geo a b r d w := implGeoOk_is a b r d _ rfl w
  bank a b r d w := implBank_is a b r d _ rfl w
  line a b r d w := implLine_is a b r d _ rfl w
  group a b r d k w := implGroup_is a b r d k _ rfl w
  ok a b r d x y z w := implAddrOk_is a b r d x y z _ rfl w
  index a b r d x y z w := implIndex_is a b r d x y z _ rfl w
  addr a b r d n w := implAt_is a b r d n w

theorem addressesAll_walk (a : Option Addr) (len cap : Nat) (z : List Int) (w : World) (hr : IsRow .u8 w a len cap z) :
    Calls Try.prog 3 #[.slice a len cap] w fun e w' => e = .returned (.bool true) ∧ Below w.heap.size w w' :=
  addresses_walk implGeo a len cap z w hr

theorem groupsAll_walk (a : Option Addr) (len cap : Nat) (z : List Int) (w : World) (hr : IsRow .u8 w a len cap z) :
    Calls Try.prog 4 #[.slice a len cap] w fun e w' => e = .returned (.bool true) ∧ Below w.heap.size w w' :=
  groups_walk implGeo a len cap z w hr

end Go.Proofs.Ytkpmgklpigihdaa
