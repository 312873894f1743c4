/-
  Texts of one proof, merged: BytesW, LinM.
-/
import Derived.Test.YtfpfgaifhmgpiaaDoorQM141
import Derived.Test.YtfpfgaifhmgpiaaDoorQM142
import Derived.BigQuiet
import Derived.Deep.AppendLies
import Derived.Deep.QuietTactic
import Derived.Deep.RegionHeld3
import Derived.Deep.RegionLaw
import Derived.Laws.IdiomStrings
import Derived.Lib.UnsafeStr
import Derived.PlainAid
import Derived.WalkLawsBesides
namespace Go.Proofs.YtfpfgaifhmgpiaaDoor
open Go.RowKit

set_option linter.unusedVariables false

/-- A row of the call's own that holds the bytes l. -/
def OwnB (B : Nat) (v : Value) (l : List UInt8) (w : World) : Prop := w.ownsRow B 5 1 v l.length (Lib.byteCells l)

/-- 'string(v)' of such a row. -/
theorem OwnB.conv {B : Nat} {v : Value} {l : List UInt8} {w : World} (h : OwnB B v l w) :
    (convert 22 9 v).run Tryd.prog w = .ok (.string ⟨l.toArray⟩) w := by
  rcases h.2 with ⟨rfl, h0⟩ | ⟨g, cap, cur, rfl, _⟩
  · obtain rfl : l = [] := List.eq_nil_of_length_eq_zero h0
    rw [run_convert_bytes_string w 22 9 5 none 0 0 Tryd.underlying22 Tryd.underlying5 Tryd.underlying9]; rfl
  · exact run_convert_bytes_back (P := Tryd.prog) w 22 9 5 ⟨g, 0, none⟩ cap l Tryd.underlying22 Tryd.underlying5 Tryd.underlying9 (fun j hj => World.ownsRow.cells h (g := g) rfl j _ (by simp [Lib.byteCells, hj]))

end Go.Proofs.YtfpfgaifhmgpiaaDoor

namespace Go.Proofs.YtfpfgaifhmgpiaaDoor

open Go.RowKit Go.PlainAid

set_option linter.unusedVariables false

/-- The first n groups of four bits of x. -/
def grp (x : Nat) (n : Nat) : List Nat := (List.range n).map (fun i => x / 16 ^ i % 16)

theorem grp_length (x n : Nat) : (grp x n).length = n := by unfold grp; simp

theorem grp_succ (x n : Nat) : grp x (n + 1) = grp x n ++ [x / 16 ^ n % 16] := by
  unfold grp
  rw [List.range_succ, List.map_append]
  rfl

/-- A word's symbols. -/
def symW (x : Int) : List Int := if Wd x then ints (grp x.toNat 8) else []

theorem symW_no {x : Int} (h : ¬ Wd x) : symW x = [] := if_neg h

theorem symW_nat {x : Nat} (h : Wd (x : Int)) : symW (x : Int) = ints (grp x 8) := by
  unfold symW
  rw [if_pos h, Int.toNat_natCast]

theorem symW_len {x : Int} (h : Wd x) : (symW x).length = 8 := by
  unfold symW
  rw [if_pos h, ints_length, grp_length]

theorem symW_le (x : Int) : (symW x).length ≤ 8 := by
  by_cases h : Wd x
  · rw [symW_len h]; exact Nat.le_refl _
  · rw [symW_no h]; exact Nat.zero_le _

/-- The groups that a loop over the bits of x appends. -/
theorem grp_step (x k : Nat) : ints (grp x k) ++ [((x / 16 ^ k % 16 : Nat) : Int)] = ints (grp x (k + 1)) := by
  rw [grp_succ]
  unfold ints
  rw [List.map_append]
  rfl

end Go.Proofs.YtfpfgaifhmgpiaaDoor
