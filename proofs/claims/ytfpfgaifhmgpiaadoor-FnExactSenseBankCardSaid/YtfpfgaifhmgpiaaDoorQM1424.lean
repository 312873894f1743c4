/-
  Texts of one proof, merged: CodT.
-/
import Derived.Test.YtfpfgaifhmgpiaaDoorQM1415
import Derived.Test.YtfpfgaifhmgpiaaDoorQM1417
import Derived.Test.YtfpfgaifhmgpiaaDoorQM1421
import Derived.Test.YtfpfgaifhmgpiaaDoorQM1423
namespace Go.Proofs.YtfpfgaifhmgpiaaDoor
open Go.RowKit Go.PlainAid

set_option linter.unusedVariables false

theorem ownJ_nil (B : Nat) (w : World) : OwnJ B (.slice none 0 0) [] w := ⟨none, 0, 0, rfl, rfl, .inl ⟨rfl, rfl, rfl⟩⟩

theorem givesJ_nil {w w' : World} {k : Nat} {v : List Int} (hv : v = []) (hk : v.length = k) (hb : Below w.heap.size w w') : GivesJ k v w (.returned (.slice none 0 0)) w' := by
  subst hv
  obtain rfl : k = 0 := hk.symm
  exact ⟨none, 0, rfl, Nat.le_refl _, ownJ_nil _ _, hb⟩

theorem GivesI.toJ {w w' : World} {e : Ending} {v : List Int} {k : Nat} (hk : v.length = k) (h : GivesI v w e w') : GivesJ k v w e w' := by
  obtain ⟨a, c, rfl, own, hb⟩ := h
  subst hk
  exact ⟨a, c, rfl, own.cap_le rfl, own.toJ rfl, hb⟩

end Go.Proofs.YtfpfgaifhmgpiaaDoor
