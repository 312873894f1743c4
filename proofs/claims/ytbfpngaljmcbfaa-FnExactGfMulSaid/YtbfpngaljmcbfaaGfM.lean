/-
  The field of 16 elements: sums, products, inverses, powers, logarithms; its laws.
-/
import Derived.Test.YtbfpngaljmcbfaaBase
namespace Go.Proofs.Ytbfpngaljmcbfaa

set_option linter.unusedVariables false

/-- The sum of the shifted factors of the first i bits. -/
def gA (a b : Nat) : Nat → Nat
  | 0 => 0
  | i + 1 => if (b >>> i) &&& 1 = 1 then gA a b i ^^^ (a <<< i) else gA a b i

/-- A bit taken away by the polynomial. -/
def gR (x i : Nat) : Nat := if (x >>> i) &&& 1 = 1 then x ^^^ (19 <<< (i - 4)) else x

/-- The product of two elements. -/
def gm (a b : Nat) : Nat := gR (gR (gR (gA a b 4) 6) 5) 4

/-- A power of an element. -/
def gp (a : Nat) : Nat → Nat
  | 0 => 1
  | n + 1 => gm (gp a n) a

theorem gm_two : ∀ a b : Fin 16, gm a.1 b.1 < 16 ∧ gm a.1 b.1 = gm b.1 a.1 ∧ gm a.1 1 = a.1 := by decide +kernel

theorem gm_three : ∀ a b c : Fin 16, gm a.1 (b.1 ^^^ c.1) = (gm a.1 b.1) ^^^ (gm a.1 c.1) ∧ gm (gm a.1 b.1) c.1 = gm a.1 (gm b.1 c.1) := by decide +kernel

theorem xor_lt {a b : Nat} (ha : a < 16) (hb : b < 16) : a ^^^ b < 16 := Nat.xor_lt_two_pow (n := 4) ha hb

theorem gm_lt {a b : Nat} (ha : a < 16) (hb : b < 16) : gm a b < 16 := (gm_two ⟨a, ha⟩ ⟨b, hb⟩).1

theorem gm_comm {a b : Nat} (ha : a < 16) (hb : b < 16) : gm a b = gm b a := (gm_two ⟨a, ha⟩ ⟨b, hb⟩).2.1

theorem gm_one {a : Nat} (ha : a < 16) : gm a 1 = a := (gm_two ⟨a, ha⟩ ⟨a, ha⟩).2.2

theorem gm_xor {a b c : Nat} (ha : a < 16) (hb : b < 16) (hc : c < 16) : gm a (b ^^^ c) = (gm a b) ^^^ (gm a c) := (gm_three ⟨a, ha⟩ ⟨b, hb⟩ ⟨c, hc⟩).1

theorem gm_assoc {a b c : Nat} (ha : a < 16) (hb : b < 16) (hc : c < 16) : gm (gm a b) c = gm a (gm b c) := (gm_three ⟨a, ha⟩ ⟨b, hb⟩ ⟨c, hc⟩).2

theorem gp_lt {a : Nat} (ha : a < 16) : ∀ n, gp a n < 16
  | 0 => by unfold gp; decide
  | n + 1 => gm_lt (gp_lt ha n) ha

theorem gp_add {a : Nat} (ha : a < 16) (m : Nat) : ∀ n, gp a (m + n) = gm (gp a m) (gp a n)
  | 0 => (gm_one (gp_lt ha m)).symm
  | n + 1 => by
    show gm (gp a (m + n)) a = gm (gp a m) (gm (gp a n) a)
    rw [gp_add ha m n, gm_assoc (gp_lt ha m) (gp_lt ha n) ha]

theorem gp_fifteen : ∀ a : Fin 16, a.1 ≠ 0 → gp a.1 15 = 1 := by decide +kernel

def El (a : Int) : Prop := 0 ≤ a ∧ a ≤ 15

instance (a : Int) : Decidable (El a) := inferInstanceAs (Decidable (_ ∧ _))

def gfAdd (a b : Int) : Int := if El a ∧ El b then ((a.toNat ^^^ b.toNat : Nat) : Int) else -1

def gfMul (a b : Int) : Int := if El a ∧ El b then ((gm a.toNat b.toNat : Nat) : Int) else -1

def gfPow (a n : Int) : Int := if El a ∧ 0 ≤ n ∧ n ≤ 1000 then ((gp a.toNat n.toNat : Nat) : Int) else -1

/-- The first number from lo on, of so many, for which p holds. -/
def fnd (p : Int → Bool) (lo : Int) : Nat → Int
  | 0 => -1
  | k + 1 => if p lo = true then lo else fnd p (lo + 1) k

def gfInv (a : Int) : Int := fnd (fun b => gfMul a b == 1) 1 15

def gfLog (a : Int) : Int := fnd (fun n => gfPow 2 n == a) 0 15

theorem gfMul_nat {a b : Nat} (ha : a < 16) (hb : b < 16) : gfMul (a : Int) (b : Int) = ((gm a b : Nat) : Int) := by
  unfold gfMul El
  rw [if_pos (by omega)]
  simp

theorem gfAdd_nat {a b : Nat} (ha : a < 16) (hb : b < 16) : gfAdd (a : Int) (b : Int) = ((a ^^^ b : Nat) : Int) := by
  unfold gfAdd El
  rw [if_pos (by omega)]
  simp

theorem gfPow_nat {a n : Nat} (ha : a < 16) (hn : n ≤ 1000) : gfPow (a : Int) (n : Int) = ((gp a n : Nat) : Int) := by
  unfold gfPow El
  rw [if_pos (by omega)]
  simp

theorem gfInv_all : ∀ a : Fin 16, (a.1 = 0 → gfInv (a.1 : Int) = -1) ∧ (a.1 ≠ 0 → gfMul (a.1 : Int) (gfInv (a.1 : Int)) = 1) := by decide +kernel

theorem gfLog_all : ∀ a : Fin 16, (a.1 = 0 → gfLog (a.1 : Int) = -1) ∧ (a.1 ≠ 0 → gfPow 2 (gfLog (a.1 : Int)) = (a.1 : Int)) := by decide +kernel

end Go.Proofs.Ytbfpngaljmcbfaa
