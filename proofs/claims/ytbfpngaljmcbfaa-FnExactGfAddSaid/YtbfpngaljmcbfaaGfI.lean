/-
  What impl's functions of the field must answer.
-/
import Derived.Test.YtbfpngaljmcbfaaGfM
import Derived.Test.YtbfpngaljmcbfaaLater
namespace Go.Proofs.Ytbfpngaljmcbfaa
open Go.RowKit

set_option linter.unusedVariables false

def IGfAdd : Prop := ∀ (a b v : Int) (hv : gfAdd a b = v) (w : World), Calls Try.prog 13 #[.int .i64 a, .int .i64 b] w (Gives (.int .i64 v) w)

def IGfMul : Prop := ∀ (a b v : Int) (hv : gfMul a b = v) (w : World), Calls Try.prog 12 #[.int .i64 a, .int .i64 b] w (Gives (.int .i64 v) w)

def IGfInv : Prop := ∀ (a v : Int) (hv : gfInv a = v) (w : World), Calls Try.prog 14 #[.int .i64 a] w (Gives (.int .i64 v) w)

def IGfPow : Prop := ∀ (a b v : Int) (hv : gfPow a b = v) (w : World), Calls Try.prog 15 #[.int .i64 a, .int .i64 b] w (Gives (.int .i64 v) w)

def IGfLog : Prop := ∀ (a v : Int) (hv : gfLog a = v) (w : World), Calls Try.prog 16 #[.int .i64 a] w (Gives (.int .i64 v) w)

end Go.Proofs.Ytbfpngaljmcbfaa
