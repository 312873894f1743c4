/-
  Words with parity: the frame of a command, the command of a frame, and one wrong bit.
-/
import Derived.Test.YtihhcnckoeaihaaCmdM
import Derived.Test.YtihhcnckoeaihaaBitsW
namespace Go.Proofs.Ytihhcnckoeaihaa
open Go.RowKit

set_option linter.unusedVariables false

/-- One bit turned. -/
theorem cnt_flip (w i : Nat) (hw : w < 2 ^ 32) (hi : i < 32) : ∀ k, k ≤ 32 → cntTo ((w ^^^ 2 ^ i : Nat) : Int) k = (if i < k then cntTo w k + 1 - 2 * ((w.testBit i).toNat : Int) else cntTo w k) := by
  have h2 : w ^^^ 2 ^ i < 2 ^ 32 := Nat.xor_lt_two_pow hw (Nat.pow_lt_pow_right (by decide) hi)
  intro k
  induction k with
  | zero => intro _; rw [if_neg (Nat.not_lt_zero _)]; rfl
  | succ k ih =>
    intro hk
    have ih := ih (by omega)
    show cntTo _ k + bitF _ k = _
    rw [ih, bitF_nat _ k h2 (by omega), Nat.testBit_xor, Nat.testBit_two_pow]
    have e : cntTo (w : Int) (k + 1) = cntTo w k + ((w.testBit k).toNat : Int) := by
      show cntTo w k + bitF w k = _
      rw [bitF_nat w k hw (by omega)]
    rw [e]
    by_cases h1 : i = k
    · subst h1
      rw [if_neg (by omega), if_pos (by omega)]
      cases w.testBit i <;> simp <;> omega
    · by_cases h3 : i < k
      · rw [if_pos h3, if_pos (by omega)]
        simp [h1]
        omega
      · rw [if_neg h3, if_neg (by omega)]
        simp [h1]

theorem par_flip (w i : Nat) (hw : w < 2 ^ 32) (hi : i < 32) : parF ((w ^^^ 2 ^ i : Nat) : Int) = 1 - parF w := by
  unfold parF
  rw [cnt_flip w i hw hi 32 (Nat.le_refl _), if_pos hi]
  have := (cntTo_range (w : Int) 32)
  cases w.testBit i <;> simp <;> omega

theorem parF_range (x : Int) : 0 ≤ parF x ∧ parF x ≤ 1 := by unfold parF; omega

theorem add_high (a k : Nat) (h : a < 2 ^ k) : a + 2 ^ k = a ^^^ 2 ^ k := by
  have h1 := Nat.two_pow_add_eq_or_of_lt h 1
  rw [Nat.mul_one] at h1
  rw [Nat.add_comm, h1]
  apply Nat.eq_of_testBit_eq
  intro j
  rw [Nat.testBit_or, Nat.testBit_xor, Nat.testBit_two_pow]
  by_cases hj : k = j
  · subst hj
    simp [Nat.testBit_lt_two_pow h]
  · simp [hj]

/-- A command as a word of even parity. -/
def frameF (k b r c : Int) : Int := if CmOk k b r c then packF k b r c + 16384 * parF (packF k b r c) else -1

theorem frame_even {k b r c : Int} (h : CmOk k b r c) : parF (frameF k b r c) = 0 := by
  have hp := packF_range h
  unfold frameF
  rw [if_pos h]
  obtain ⟨p, hpe⟩ := Int.eq_ofNat_of_zero_le (show 0 ≤ packF k b r c by omega)
  rw [hpe] at hp ⊢
  have hr := parF_range (p : Int)
  rcases (show parF (p : Int) = 0 ∨ parF (p : Int) = 1 by omega) with e | e
  · rw [e]; simpa using e
  · rw [e]
    have h1 := add_high p 14 (by omega)
    have h2 := par_flip p 14 (by omega) (by decide)
    rw [← h1] at h2
    rw [show (p : Int) + 16384 * 1 = ((p + 2 ^ 14 : Nat) : Int) by simp, h2, e]
    rfl

theorem frame_range {k b r c : Int} (h : CmOk k b r c) : 1 ≤ frameF k b r c ∧ frameF k b r c ≤ 32767 := by
  have hp := packF_range h
  have hr := parF_range (packF k b r c)
  unfold frameF
  rw [if_pos h]
  omega

/-- The command of a word: its fields as they stand. -/
def readV (w : Int) : Value :=
  if 0 ≤ w ∧ w ≤ 32767 ∧ frameF (w % 16) (w / 16 % 8) (w / 128 % 16) (w / 2048 % 8) = w then .tuple #[.agg #[.int .i64 (w % 16), .int .i64 (w / 16 % 8), .int .i64 (w / 128 % 16), .int .i64 (w / 2048 % 8)], .bool true]
  else .tuple #[.agg #[.int .i64 0, .int .i64 0, .int .i64 0, .int .i64 0], .bool false]

theorem frame_fields {k b r c : Int} (h : CmOk k b r c) : frameF k b r c % 16 = k ∧ frameF k b r c / 16 % 8 = b ∧ frameF k b r c / 128 % 16 = r ∧ frameF k b r c / 2048 % 8 = c := by
  have hr := parF_range (packF k b r c)
  unfold frameF
  rw [if_pos h]
  have hp : packF k b r c = k + 16 * b + 128 * r + 2048 * c := if_pos h
  obtain ⟨h1, h2, h3, h4, _⟩ := h
  generalize parF (packF k b r c) = q at hr
  rw [hp]
  omega

theorem read_frame {k b r c : Int} (h : CmOk k b r c) : readV (frameF k b r c) = .tuple #[.agg #[.int .i64 k, .int .i64 b, .int .i64 r, .int .i64 c], .bool true] := by
  obtain ⟨e1, e2, e3, e4⟩ := frame_fields h
  have hr := frame_range h
  unfold readV
  rw [e1, e2, e3, e4, if_pos ⟨by omega, hr.2, rfl⟩]

theorem frame_form {k b r c : Int} (h : 0 ≤ frameF k b r c) : CmOk k b r c := by
  unfold frameF at h
  split at h
  · assumption
  · omega

theorem read_odd {w : Int} (h : parF w = 1) : readV w = .tuple #[.agg #[.int .i64 0, .int .i64 0, .int .i64 0, .int .i64 0], .bool false] := by
  refine if_neg fun ⟨h1, h2, h3⟩ => ?_
  have hf := frame_form (k := w % 16) (b := w / 16 % 8) (r := w / 128 % 16) (c := w / 2048 % 8) (by rw [h3]; exact h1)
  have := frame_even hf
  rw [h3, h] at this
  omega

/-- One wrong bit. -/
theorem read_flip {k b r c : Int} (h : CmOk k b r c) (w i : Nat) (hw : frameF k b r c = (w : Int)) (hi : i < 32) : readV ((w ^^^ 2 ^ i : Nat) : Int) = .tuple #[.agg #[.int .i64 0, .int .i64 0, .int .i64 0, .int .i64 0], .bool false] := by
  have hr := frame_range h
  have he := frame_even h
  rw [hw] at hr he
  refine read_odd ?_
  rw [par_flip w i (by omega) hi, he]
  rfl

end Go.Proofs.Ytihhcnckoeaihaa
