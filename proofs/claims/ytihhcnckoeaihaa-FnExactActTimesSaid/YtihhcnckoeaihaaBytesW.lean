/-
  Bytes of the call's own: a row of bytes that is appended to, read back as a string.
-/
import Derived.Test.YtihhcnckoeaihaaBase
import Derived.WalkLawsBesides
import Derived.BigQuiet
import Derived.Deep.QuietTactic
import Derived.Deep.AppendLies
import Derived.Deep.RegionHeld3
import Derived.Deep.RegionLaw
import Derived.Lib.UnsafeStr
import Derived.Laws.IdiomStrings
import Derived.PlainAid
namespace Go.Proofs.Ytihhcnckoeaihaa
open Go.RowKit

set_option linter.unusedVariables false

theorem infoB : (Try.prog.info? 5).map (fun i => (i.zero, i.size, i.bytes)) = some (some (.int .u8 0), 1, 1) := by kernel_rfl

/-- A row of the call's own that holds the bytes l. -/
def OwnB (B : Nat) (v : Value) (l : List UInt8) (w : World) : Prop := w.ownsRow B 5 1 v l.length (Lib.byteCells l)

/-- One byte more. -/
theorem own_more {B : Nat} {v : Value} {l : List UInt8} {x : Int} {b : UInt8} {w : World} (h : w.ownsRow B 5 1 v (l.length + 1) (Lib.byteCells l ++ [.int .u8 x])) (hx : x = (b.toNat : Int)) : OwnB B v (l ++ [b]) w := by
  subst hx
  unfold OwnB
  rw [show (l ++ [b]).length = l.length + 1 by simp, show Lib.byteCells (l ++ [b]) = Lib.byteCells l ++ [.int .u8 b.toNat] by simp [Lib.byteCells]]
  exact h

end Go.Proofs.Ytihhcnckoeaihaa
