/-
  impl.Clamp and spec.Clamp give one number: clampF.
-/
import Derived.Test.YtigoniochamjgaaBase
import Derived.WalkLawsBesides
namespace Go.Proofs.Ytigoniochamjgaa

open Go.RowKit

def clampF (n lo hi : Int) : Int := if hi < lo ∨ n < lo then lo else if n > hi then hi else n

theorem implClamp_any (n lo hi : Int) (w : World) :
    Calls Try.prog 72 #[.int .i64 n, .int .i64 lo, .int .i64 hi] w fun e w' => e = .returned (.int .i64 (clampF n lo hi)) ∧ w = w' := by
  go_enter Try.func72, Try.ntmps72
  go_wp2
  all_goals (go_ret; refine ⟨?_, rfl⟩; refine ret_i ?_; unfold clampF; repeat' split; all_goals omega)

end Go.Proofs.Ytigoniochamjgaa
