/-
  Texts of one proof, merged: AddrW.
-/
import Derived.Test.YtfpfgaifhmgpiaaQL146
import Derived.Test.YtfpfgaifhmgpiaaQL149
import Derived.Test.YtfpfgaifhmgpiaaQL1410
namespace Go.Proofs.Ytfpfgaifhmgpiaa
open Go.RowKit

set_option linter.unusedVariables false

theorem line_addr {a b r d n : Int} (h : LnOk a b r d n) : AdOk a b r d (n / d / r) (n / d % r) (n % d) := by
  obtain ⟨_, _, ⟨g0, g1⟩, ⟨g2, g3⟩⟩ := h.geo
  obtain ⟨h0, h1⟩ := h
  have q0 : 0 ≤ n / d := Int.ediv_nonneg h0 (by omega)
  have q1 : n / d < bankN a b r d * r := Int.ediv_lt_of_lt_mul (by omega) (by unfold lineN at h1; omega)
  refine ⟨⟨Int.ediv_nonneg q0 (by omega), ?_⟩, ⟨Int.emod_nonneg _ (by omega), ?_⟩, ⟨Int.emod_nonneg _ (by omega), ?_⟩⟩
  · have := Int.ediv_lt_of_lt_mul (show 0 < r by omega) q1
    omega
  · have := Int.emod_lt_of_pos (n / d) (show 0 < r by omega)
    omega
  · have := Int.emod_lt_of_pos n (show 0 < d by omega)
    omega

theorem line_index {a b r d n : Int} (h : LnOk a b r d n) : idxF a b r d (n / d / r) (n / d % r) (n % d) = n := by
  unfold idxF
  rw [if_pos (line_addr h)]
  have e1 := Int.mul_ediv_add_emod (n / d) r
  have e2 := Int.mul_ediv_add_emod n d
  rw [Int.mul_comm (n / d / r) r, e1, Int.mul_comm (n / d) d, e2]

end Go.Proofs.Ytfpfgaifhmgpiaa
