/-
  impl.Clamp and spec.Clamp give one number: clampF.
-/
import Derived.Test.YtihhcnckoeaihaaBase
import Derived.WalkLawsBesides
namespace Go.Proofs.Ytihhcnckoeaihaa

open Go.RowKit

def clampF (n lo hi : Int) : Int := if hi < lo ∨ n < lo then lo else if n > hi then hi else n

theorem implClamp_any (n lo hi : Int) (w : World) :
    Calls Try.prog 51 #[.int .i64 n, .int .i64 lo, .int .i64 hi] w fun e w' => e = .returned (.int .i64 (clampF n lo hi)) ∧ w = w' := by
  go_enter Try.func51, Try.ntmps51
  go_wp2
  all_goals (go_ret; refine ⟨?_, rfl⟩; refine ret_i ?_; unfold clampF; repeat' split; all_goals omega)

end Go.Proofs.Ytihhcnckoeaihaa
