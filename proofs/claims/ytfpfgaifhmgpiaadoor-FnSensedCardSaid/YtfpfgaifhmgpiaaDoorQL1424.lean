/-
  Texts of one proof, merged: RdyT.
-/
import Derived.Test.YtfpfgaifhmgpiaaDoorQL148
import Derived.Test.YtfpfgaifhmgpiaaDoorQL1410
import Derived.Test.YtfpfgaifhmgpiaaDoorQL1411
import Derived.Test.YtfpfgaifhmgpiaaDoorQL1414
import Derived.Test.YtfpfgaifhmgpiaaDoorQL1418
import Derived.Test.YtfpfgaifhmgpiaaDoorQL1423
namespace Go.Proofs.YtfpfgaifhmgpiaaDoor
open Go.RowKit Go.PlainAid

set_option linter.unusedVariables false

/-- What a slot holds till operation k has come up. -/
def UnlV (k : Nat) (v : Value) (listed : Array Bool) (x : Nat → Value) : Prop := listed.getD k false = false → x k = v

theorem UnlV.keep {k i : Nat} {v u : Value} {listed : Array Bool} {x : Nat → Value} (h : UnlV k v listed x) (hi : i ≠ k) : UnlV k v (listed.setIfInBounds i true) (upd x i u) := fun h1 => by
  rw [upd_other _ _ (Ne.symm hi)]
  exact h (by rwa [getD_set_ne false hi] at h1)

theorem UnlV.gone {k : Nat} {v : Value} {listed : Array Bool} {x : Nat → Value} (h : k < listed.size) : UnlV k v (listed.setIfInBounds k true) x := fun h1 => by
  rw [get_set_same false h] at h1
  cases h1

end Go.Proofs.YtfpfgaifhmgpiaaDoor
