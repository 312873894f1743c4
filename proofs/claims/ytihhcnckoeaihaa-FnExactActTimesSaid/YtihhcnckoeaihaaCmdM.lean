/-
  Commands: well-formed; as text, as a word, as a word with parity, and back.
-/
import Derived.Test.YtihhcnckoeaihaaNumM
import Derived.Test.YtihhcnckoeaihaaBitsM
namespace Go.Proofs.Ytihhcnckoeaihaa

set_option linter.unusedVariables false

/-- A well-formed command: its fields are in range, and those that its kind does not use are 0. -/
def CmOk (k b r c : Int) : Prop := (1 ≤ k ∧ k ≤ 9) ∧ (0 ≤ b ∧ b ≤ 7) ∧ (0 ≤ r ∧ r ≤ 15) ∧ (0 ≤ c ∧ c ≤ 7) ∧ (k ≤ 5 ∨ b = 0) ∧ (k = 1 ∨ r = 0) ∧ (k = 2 ∨ k = 3 ∨ c = 0)

instance (k b r c : Int) : Decidable (CmOk k b r c) := inferInstanceAs (Decidable (_ ∧ _))

/-- A command as a word. -/
def packF (k b r c : Int) : Int := if CmOk k b r c then k + 16 * b + 128 * r + 2048 * c else -1

theorem packF_range {k b r c : Int} (h : CmOk k b r c) : 1 ≤ packF k b r c ∧ packF k b r c ≤ 16383 := by
  unfold packF
  rw [if_pos h]
  obtain ⟨h1, h2, h3, h4, h5, h6, h7⟩ := h
  omega

end Go.Proofs.Ytihhcnckoeaihaa
