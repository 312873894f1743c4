/-
  Texts of one proof, merged: CmdP.
-/
import Derived.Test.YtihhcnckoeaihaaDoorQE2
import Derived.Test.YtihhcnckoeaihaaDoorQE7
namespace Go.Proofs.YtihhcnckoeaihaaDoor

set_option linter.unusedVariables false

/-- The word of a kind. -/
def wordL : Nat → List UInt8
  | 1 => [97, 99, 116]
  | 2 => [114, 101, 97, 100]
  | 3 => [119, 114, 105, 116, 101]
  | 4 => [112, 114, 101]
  | 5 => [114, 101, 102]
  | 6 => [100, 111, 119, 110]
  | 7 => [117, 112]
  | 8 => [115, 108, 101, 101, 112]
  | 9 => [119, 97, 107, 101]
  | _ => []

/-- The figures of a number below 16. -/
def figL (x : Nat) : List UInt8 := if x < 10 then [UInt8.ofNat (48 + x)] else [49, UInt8.ofNat (38 + x)]

theorem fig_dec {x : Nat} (h : x < 16) : Lib.decDigits x = figL x := by
  unfold figL
  by_cases h1 : x < 10
  · rw [Lib.decDigits, dif_pos h1, if_pos h1]
  · rw [Lib.decDigits, dif_neg h1, if_neg h1, Lib.decDigits, dif_pos (by omega), show x / 10 = 1 by omega, show x % 10 = x - 10 by omega, show 48 + (x - 10) = 38 + x by omega]
    rfl

/-- A field: a space and the number. -/
def fldL (use : Bool) (x : Nat) : List UInt8 := if use then 32 :: figL x else []

/-- A command as text: its kind and fields as they stand. -/
def txtL (k b r c : Nat) : List UInt8 := wordL k ++ fldL (decide (k ≤ 5)) b ++ fldL (decide (k = 1)) r ++ fldL (decide (k = 2) || decide (k = 3)) c

end Go.Proofs.YtihhcnckoeaihaaDoor
