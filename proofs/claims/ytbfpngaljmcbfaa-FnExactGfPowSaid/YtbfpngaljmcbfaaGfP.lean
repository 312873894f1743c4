/-
  The field of 16 elements as impl computes it: the four multiples of a factor, added up by the bits of the other one.
-/
import Derived.Test.YtbfpngaljmcbfaaGfM
import Derived.Test.YtbfpngaljmcbfaaBitsM
namespace Go.Proofs.Ytbfpngaljmcbfaa
open Go.RowKit

set_option linter.unusedVariables false

/-- The multiple by x. -/
def gtX (a : Nat) : Nat := if 16 ≤ 2 * a then (2 * a) ^^^ 19 else 2 * a

/-- The multiple by the k-th power of x. -/
def gX (a : Nat) : Nat → Nat
  | 0 => a
  | k + 1 => gtX (gX a k)

/-- The sum of the multiples by the first i bits. -/
def gQ (a b : Nat) : Nat → Nat
  | 0 => 0
  | i + 1 => gQ a b i ^^^ (gX a i * ((b >>> i) % 2))

theorem gQ_four : ∀ a b : Fin 16, gQ a.1 b.1 4 = gm a.1 b.1 := by decide +kernel

theorem gX_all : ∀ a : Fin 16, ∀ i : Fin 5, gX a.1 i.1 < 16 := by decide +kernel

theorem gX_lt {a i : Nat} (ha : a < 16) (hi : i ≤ 4) : gX a i < 16 := gX_all ⟨a, ha⟩ ⟨i, by omega⟩

theorem gQ_all : ∀ a b : Fin 16, ∀ i : Fin 5, gQ a.1 b.1 i.1 < 16 := by decide +kernel

theorem gQ_lt {a b i : Nat} (ha : a < 16) (hb : b < 16) (hi : i ≤ 4) : gQ a b i < 16 := gQ_all ⟨a, ha⟩ ⟨b, hb⟩ ⟨i, by omega⟩

theorem bit_all : ∀ b : Fin 16, ∀ i : Fin 4, bitF (b.1 : Int) (i.1 : Int) = (((b.1 >>> i.1) % 2 : Nat) : Int) := by decide +kernel

theorem inv_at : ∀ a k : Fin 16, gm a.1 k.1 = 1 → gfInv (a.1 : Int) = (k.1 : Int) := by decide +kernel

theorem inv_none : ∀ a : Fin 16, (∀ k : Fin 16, gm a.1 k.1 ≠ 1) → gfInv (a.1 : Int) = -1 := by decide +kernel

theorem log_at : ∀ n : Fin 15, gfLog ((gp 2 n.1 : Nat) : Int) = (n.1 : Int) := by decide +kernel

theorem fnd_none (p : Int → Bool) : ∀ (k : Nat) (lo : Int), (∀ i : Nat, i < k → p (lo + i) = false) → fnd p lo k = -1
  | 0, _, _ => rfl
  | k + 1, lo, h => by
    have h0 := h 0 (by omega)
    rw [show lo + ((0 : Nat) : Int) = lo by omega] at h0
    unfold fnd
    rw [h0]
    exact fnd_none p k (lo + 1) (fun i hi => by have := h (i + 1) (by omega); rwa [show lo + ((i + 1 : Nat) : Int) = lo + 1 + (i : Int) by omega] at this)

theorem log_none {a : Int} (h : ∀ n, n < 15 → ((gp 2 n : Nat) : Int) ≠ a) : gfLog a = -1 := by
  unfold gfLog
  refine fnd_none _ 15 0 (fun i hi => ?_)
  have := gfPow_nat (a := 2) (n := i) (by decide) (by omega)
  rw [show (0 : Int) + (i : Int) = (i : Int) by omega]
  show (gfPow 2 (i : Int) == a) = false
  rw [show (2 : Int) = ((2 : Nat) : Int) from rfl, this, beq_eq_false_iff_ne]
  exact h i hi

theorem gp_next {a : Nat} (ha : a < 16) (n : Nat) : gm a (gp a n) = gp a (n + 1) := gm_comm ha (gp_lt ha n)

theorem gm_none : ∀ a : Fin 16, gm a.1 0 ≠ 1 := by decide +kernel

end Go.Proofs.Ytbfpngaljmcbfaa
