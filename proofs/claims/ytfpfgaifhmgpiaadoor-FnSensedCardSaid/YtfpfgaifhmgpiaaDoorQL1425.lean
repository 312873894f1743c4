/-
  Texts of one proof, merged: CodT.
-/
import Derived.Test.YtfpfgaifhmgpiaaDoorQL149
import Derived.Test.YtfpfgaifhmgpiaaDoorQL1413
import Derived.Test.YtfpfgaifhmgpiaaDoorQL1415
import Derived.Test.YtfpfgaifhmgpiaaDoorQL1418
import Derived.Test.YtfpfgaifhmgpiaaDoorQL1422
import Derived.Test.YtfpfgaifhmgpiaaDoorQL1424
namespace Go.Proofs.YtfpfgaifhmgpiaaDoor
open Go.RowKit Go.PlainAid

set_option linter.unusedVariables false

theorem GivesI.toJ {w w' : World} {e : Ending} {v : List Int} {k : Nat} (hk : v.length = k) (h : GivesI v w e w') : GivesJ k v w e w' := by
  obtain ⟨a, c, rfl, own, hb⟩ := h
  subst hk
  exact ⟨a, c, rfl, own.cap_le rfl, own.toJ rfl, hb⟩

end Go.Proofs.YtfpfgaifhmgpiaaDoor
