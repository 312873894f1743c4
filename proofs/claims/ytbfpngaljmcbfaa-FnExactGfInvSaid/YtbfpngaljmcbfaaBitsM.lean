/-
  Facts of whole numbers that the walks over words of 32 bits rest on: masks, single bits, the sum of neighbouring groups, and the mixing of a word.
-/
import Derived.Test.YtbfpngaljmcbfaaBase
namespace Go.Proofs.Ytbfpngaljmcbfaa
open Go.RowKit

theorem ofInt_nat64 (a : Nat) (h : a < 2 ^ 63) : (BitVec.ofInt 64 (a : Int)).toNat = a := by
  rw [BitVec.toNat_ofInt]
  omega

theorem wrap_nat64 (a : Nat) (h : a < 2 ^ 63) : IntKind.i64.wrap (a : Int) = (a : Int) := by
  rw [IntKind.wrap_i64]; omega

theorem i64_and_nat (a b : Nat) (ha : a < 2 ^ 63) (hb : b < 2 ^ 63) : bits .and .i64 (a : Int) (b : Int) = ((a &&& b : Nat) : Int) := by
  show IntKind.i64.wrap ((BitVec.ofInt 64 (a : Int) &&& BitVec.ofInt 64 (b : Int)).toNat : Nat) = _
  rw [BitVec.toNat_and, ofInt_nat64 a ha, ofInt_nat64 b hb, wrap_nat64 _ (Nat.and_lt_two_pow _ hb)]

theorem i64_or_nat (a b : Nat) (ha : a < 2 ^ 63) (hb : b < 2 ^ 63) : bits .or .i64 (a : Int) (b : Int) = ((a ||| b : Nat) : Int) := by
  show IntKind.i64.wrap ((BitVec.ofInt 64 (a : Int) ||| BitVec.ofInt 64 (b : Int)).toNat : Nat) = _
  rw [BitVec.toNat_or, ofInt_nat64 a ha, ofInt_nat64 b hb, wrap_nat64 _ (Nat.or_lt_two_pow ha hb)]

theorem i64_xor_nat (a b : Nat) (ha : a < 2 ^ 63) (hb : b < 2 ^ 63) : bits .xor .i64 (a : Int) (b : Int) = ((a ^^^ b : Nat) : Int) := by
  show IntKind.i64.wrap ((BitVec.ofInt 64 (a : Int) ^^^ BitVec.ofInt 64 (b : Int)).toNat : Nat) = _
  rw [BitVec.toNat_xor, ofInt_nat64 a ha, ofInt_nat64 b hb, wrap_nat64 _ (Nat.xor_lt_two_pow ha hb)]

theorem i64_andNot_nat (a b : Nat) (ha : a < 2 ^ 63) (hb : b < 2 ^ 63) : bits .andNot .i64 (a : Int) (b : Int) = ((a ^^^ (a &&& b) : Nat) : Int) := by
  show IntKind.i64.wrap ((BitVec.ofInt 64 (a : Int) &&& ~~~ BitVec.ofInt 64 (b : Int)).toNat : Nat) = _
  have key : (BitVec.ofInt 64 (a : Int) &&& ~~~ BitVec.ofInt 64 (b : Int)).toNat = a ^^^ (a &&& b) := by
    apply Nat.eq_of_testBit_eq
    intro k
    rw [BitVec.testBit_toNat, BitVec.getLsbD_and, BitVec.getLsbD_not, ← BitVec.testBit_toNat, ← BitVec.testBit_toNat, ofInt_nat64 a ha, ofInt_nat64 b hb, Nat.testBit_xor, Nat.testBit_and]
    by_cases hk : k < 64
    · simp [hk]
      cases a.testBit k <;> cases b.testBit k <;> rfl
    · have : a.testBit k = false := Nat.testBit_lt_two_pow (Nat.lt_of_lt_of_le ha (Nat.pow_le_pow_right (by decide) (by omega)))
      simp [this]
  rw [key, wrap_nat64 _ (Nat.xor_lt_two_pow ha (Nat.and_lt_two_pow _ hb))]

theorem i64_and32 (n : Int) : bits .and .i64 n 4294967295 = n % 4294967296 := by
  have h127 : (BitVec.ofInt 64 4294967295).toNat = 2 ^ 32 - 1 := by decide
  have key : (BitVec.ofInt 64 n &&& BitVec.ofInt 64 4294967295).toNat = (n % ((2 ^ 64 : Nat) : Int)).toNat % 2 ^ 32 := by
    rw [BitVec.toNat_and, BitVec.toNat_ofInt, h127, Nat.and_two_pow_sub_one_eq_mod]
  show IntKind.i64.wrap ((BitVec.ofInt 64 n &&& BitVec.ofInt 64 4294967295).toNat : Nat) = n % 4294967296
  rw [key, IntKind.wrap_i64]
  omega

theorem i64_and1 (n : Int) : bits .and .i64 n 1 = n % 2 := by
  have h127 : (BitVec.ofInt 64 1).toNat = 2 ^ 1 - 1 := by decide
  have key : (BitVec.ofInt 64 n &&& BitVec.ofInt 64 1).toNat = (n % ((2 ^ 64 : Nat) : Int)).toNat % 2 ^ 1 := by
    rw [BitVec.toNat_and, BitVec.toNat_ofInt, h127, Nat.and_two_pow_sub_one_eq_mod]
  show IntKind.i64.wrap ((BitVec.ofInt 64 n &&& BitVec.ofInt 64 1).toNat : Nat) = n % 2
  rw [key, IntKind.wrap_i64]
  omega

/-- A word. -/
def Wd (x : Int) : Prop := 0 ≤ x ∧ x ≤ 4294967295

instance (x : Int) : Decidable (Wd x) := inferInstanceAs (Decidable (_ ∧ _))

/-- The number of a bit. -/
def Bn (i : Int) : Prop := 0 ≤ i ∧ i ≤ 31

instance (x : Int) : Decidable (Bn x) := inferInstanceAs (Decidable (_ ∧ _))

/-- Bit i of x, as the chapter says it. -/
def bitF (x i : Int) : Int := if Wd x ∧ Bn i then x / 2 ^ i.toNat % 2 else 0

theorem bitF_range (x i : Int) : 0 ≤ bitF x i ∧ bitF x i ≤ 1 := by unfold bitF; split <;> omega

theorem bitF_nat (x i : Nat) (hx : x < 2 ^ 32) (hi : i < 32) : bitF x i = ((x.testBit i).toNat : Int) := by
  unfold bitF Wd Bn
  rw [if_pos (by omega), Nat.toNat_testBit, Int.toNat_natCast]
  simp

/-- x with bit i set to b. -/
def setN (x i b : Nat) : Nat := (x ^^^ (x &&& 2 ^ i)) ||| (b * 2 ^ i)

theorem setN_bit (x i b k : Nat) (hb : b ≤ 1) : (setN x i b).testBit k = if k = i then decide (b = 1) else x.testBit k := by
  unfold setN
  rw [Nat.testBit_or, Nat.testBit_xor, Nat.testBit_and, Nat.testBit_two_pow]
  have hb' : b = 0 ∨ b = 1 := by omega
  by_cases hk : k = i
  · subst hk
    rcases hb' with rfl | rfl
    · simp
    · simp
  · have : ¬ i = k := fun h => hk h.symm
    rcases hb' with rfl | rfl
    · simp [hk, this]
    · simp [hk, this]

theorem setN_lt (x i b : Nat) (hx : x < 2 ^ 32) (hi : i < 32) (hb : b ≤ 1) : setN x i b < 2 ^ 32 := by
  unfold setN
  have hp : 2 ^ i < 2 ^ 32 := Nat.pow_lt_pow_of_lt (by decide) hi
  refine Nat.or_lt_two_pow (Nat.xor_lt_two_pow hx (Nat.and_lt_two_pow _ hp)) ?_
  have hb' : b = 0 ∨ b = 1 := by omega
  rcases hb' with rfl | rfl <;> simp <;> exact hp

theorem setN_one (x i : Nat) : setN x i 1 = x ||| 2 ^ i := by
  apply Nat.eq_of_testBit_eq
  intro k
  rw [setN_bit x i 1 k (Nat.le_refl _), Nat.testBit_or, Nat.testBit_two_pow]
  by_cases hk : k = i
  · subst hk; simp
  · have : ¬ i = k := fun h => hk h.symm
    simp [hk, this]

theorem setN_zero (x i : Nat) : setN x i 0 = x ^^^ (x &&& 2 ^ i) := by unfold setN; simp

/-- x with bit i set to b, as the chapter says it. -/
def setF (x i b : Int) : Int := if Wd x ∧ Bn i ∧ (b = 0 ∨ b = 1) then ((setN x.toNat i.toNat b.toNat : Nat) : Int) else x

/-- The sum of the bits below bit k. -/
def cntTo (x : Int) : Nat → Int
  | 0 => 0
  | k + 1 => cntTo x k + bitF x k

theorem cntTo_range (x : Int) (k : Nat) : 0 ≤ cntTo x k ∧ cntTo x k ≤ (k : Int) := by
  induction k with
  | zero => simp [cntTo]
  | succ k ih => have := bitF_range x k; simp only [cntTo]; omega

theorem cntTo_non (x : Int) (h : ¬ Wd x) (k : Nat) : cntTo x k = 0 := by
  induction k with
  | zero => rfl
  | succ k ih => simp only [cntTo, ih]; unfold bitF; rw [if_neg (fun hh => h hh.1)]; rfl

/-- The sum of the n lowest groups of k bits. -/
def gsum (k : Nat) : Nat → Nat → Nat
  | 0, _ => 0
  | n + 1, x => x % 2 ^ k + gsum k n (x / 2 ^ k)

theorem gsum_snoc (n x : Nat) : gsum 1 (n + 1) x = gsum 1 n x + x / 2 ^ n % 2 := by
  induction n generalizing x with
  | zero => simp [gsum]
  | succ n ih =>
    rw [show gsum 1 (n + 1 + 1) x = x % 2 ^ 1 + gsum 1 (n + 1) (x / 2 ^ 1) from rfl, ih, show gsum 1 (n + 1) x = x % 2 ^ 1 + gsum 1 n (x / 2 ^ 1) from rfl, Nat.div_div_eq_div_mul, ← Nat.pow_add, Nat.add_comm 1 n, Nat.add_assoc]

theorem cntTo_gsum (x : Nat) (hx : x < 2 ^ 32) (n : Nat) (hn : n ≤ 32) : cntTo x n = ((gsum 1 n x : Nat) : Int) := by
  induction n with
  | zero => rfl
  | succ n ih =>
    rw [show cntTo x (n + 1) = cntTo x n + bitF x n from rfl, ih (by omega), gsum_snoc, bitF_nat x n hx (by omega), Nat.toNat_testBit]
    simp

/-- The mask that keeps every second group of k bits, n of them. -/
def maskN (k : Nat) : Nat → Nat
  | 0 => 0
  | n + 1 => 2 ^ (2 * k) * maskN k n + (2 ^ k - 1)

/-- The sums of neighbouring groups of k bits, n of them. -/
def pairs (k : Nat) : Nat → Nat → Nat
  | 0, _ => 0
  | n + 1, x => 2 ^ (2 * k) * pairs k n (x / 2 ^ (2 * k)) + (x % 2 ^ k + x / 2 ^ k % 2 ^ k)

theorem pow_lt_double (k : Nat) : 2 ^ k ≤ 2 ^ (2 * k) := Nat.pow_le_pow_right (by decide) (by omega)

theorem and_mask (k n x : Nat) : x &&& maskN k (n + 1) = 2 ^ (2 * k) * ((x / 2 ^ (2 * k)) &&& maskN k n) + x % 2 ^ k := by
  have hk := pow_lt_double k
  have h0 : 0 < 2 ^ k := Nat.two_pow_pos k
  have h1 : x % 2 ^ k < 2 ^ k := Nat.mod_lt _ h0
  apply Nat.eq_of_testBit_eq
  intro j
  rw [Nat.testBit_and, show maskN k (n + 1) = 2 ^ (2 * k) * maskN k n + (2 ^ k - 1) from rfl, Nat.testBit_two_pow_mul_add _ (by omega), Nat.testBit_two_pow_mul_add _ (by omega)]
  by_cases hj : j < 2 * k
  · rw [if_pos hj, if_pos hj, Nat.testBit_two_pow_sub_one, Nat.testBit_mod_two_pow, Bool.and_comm]
  · rw [if_neg hj, if_neg hj, Nat.testBit_and, Nat.testBit_div_two_pow, show j - 2 * k + 2 * k = j by omega]

theorem pairs_step (k n x : Nat) : (x &&& maskN k n) + ((x / 2 ^ k) &&& maskN k n) = pairs k n x := by
  induction n generalizing x with
  | zero => simp [maskN, pairs]
  | succ n ih =>
    rw [and_mask, and_mask, show pairs k (n + 1) x = 2 ^ (2 * k) * pairs k n (x / 2 ^ (2 * k)) + (x % 2 ^ k + x / 2 ^ k % 2 ^ k) from rfl, ← ih]
    rw [show x / 2 ^ k / 2 ^ (2 * k) = x / 2 ^ (2 * k) / 2 ^ k by rw [Nat.div_div_eq_div_mul, Nat.div_div_eq_div_mul, Nat.mul_comm], Nat.mul_add]
    omega

theorem gsum_pairs (k : Nat) (hk : 0 < k) (n x : Nat) : gsum (2 * k) n (pairs k n x) = gsum k (2 * n) x := by
  have h0 : 0 < 2 ^ k := Nat.two_pow_pos k
  have h2 : 2 * 2 ^ k ≤ 2 ^ (2 * k) := by
    rw [show 2 * k = k + k by omega, Nat.pow_add]
    refine Nat.mul_le_mul_right _ ?_
    calc 2 = 2 ^ 1 := rfl
      _ ≤ 2 ^ k := Nat.pow_le_pow_right (by decide) hk
  induction n generalizing x with
  | zero => rfl
  | succ n ih =>
    have ha : x % 2 ^ k < 2 ^ k := Nat.mod_lt _ h0
    have hb : x / 2 ^ k % 2 ^ k < 2 ^ k := Nat.mod_lt _ h0
    have hs : x % 2 ^ k + x / 2 ^ k % 2 ^ k < 2 ^ (2 * k) := by omega
    rw [show 2 * (n + 1) = 2 * n + 1 + 1 by omega]
    rw [show gsum (2 * k) (n + 1) (pairs k (n + 1) x) = pairs k (n + 1) x % 2 ^ (2 * k) + gsum (2 * k) n (pairs k (n + 1) x / 2 ^ (2 * k)) from rfl]
    rw [show pairs k (n + 1) x = 2 ^ (2 * k) * pairs k n (x / 2 ^ (2 * k)) + (x % 2 ^ k + x / 2 ^ k % 2 ^ k) from rfl]
    rw [Nat.mul_add_mod, Nat.mod_eq_of_lt hs, Nat.mul_add_div (Nat.two_pow_pos _), Nat.div_eq_of_lt hs, Nat.add_zero, ih]
    rw [show gsum k (2 * n + 1 + 1) x = x % 2 ^ k + (x / 2 ^ k % 2 ^ k + gsum k (2 * n) (x / 2 ^ k / 2 ^ k)) from rfl]
    rw [Nat.div_div_eq_div_mul, ← Nat.pow_add, show k + k = 2 * k by omega]
    omega

theorem pairs_lt (k n x : Nat) (hk : 0 < k) : pairs k n x < 2 ^ (2 * k * n) := by
  have h0 : 0 < 2 ^ k := Nat.two_pow_pos k
  have h2 : 2 * 2 ^ k ≤ 2 ^ (2 * k) := by
    rw [show 2 * k = k + k by omega, Nat.pow_add]
    refine Nat.mul_le_mul_right _ ?_
    calc 2 = 2 ^ 1 := rfl
      _ ≤ 2 ^ k := Nat.pow_le_pow_right (by decide) hk
  induction n generalizing x with
  | zero => simp [pairs]
  | succ n ih =>
    have ha : x % 2 ^ k < 2 ^ k := Nat.mod_lt _ h0
    have hb : x / 2 ^ k % 2 ^ k < 2 ^ k := Nat.mod_lt _ h0
    have hs : x % 2 ^ k + x / 2 ^ k % 2 ^ k < 2 ^ (2 * k) := by omega
    have hi := ih (x / 2 ^ (2 * k))
    have hm : 2 ^ (2 * k) * (pairs k n (x / 2 ^ (2 * k)) + 1) ≤ 2 ^ (2 * k) * 2 ^ (2 * k * n) := Nat.mul_le_mul_left _ hi
    rw [Nat.mul_add, Nat.mul_one] at hm
    rw [show 2 * k * (n + 1) = 2 * k + 2 * k * n by rw [Nat.mul_add]; omega, Nat.pow_add]
    show 2 ^ (2 * k) * pairs k n (x / 2 ^ (2 * k)) + (x % 2 ^ k + x / 2 ^ k % 2 ^ k) < _
    omega

theorem pairs_last (x : Nat) : gsum 32 1 (pairs 16 1 x) = pairs 16 1 x := by
  simp only [gsum, pairs]
  omega

/-- Neighbouring groups of bits added, five times. -/
def swar (x : Nat) : Nat := pairs 16 1 (pairs 8 2 (pairs 4 4 (pairs 2 8 (pairs 1 16 x))))

theorem swar_is (x : Nat) (hx : x < 2 ^ 32) : ((swar x : Nat) : Int) = cntTo x 32 := by
  rw [cntTo_gsum x hx 32 (Nat.le_refl _), ← gsum_pairs 1 (by decide) 16 x, ← gsum_pairs 2 (by decide) 8, ← gsum_pairs 4 (by decide) 4, ← gsum_pairs 8 (by decide) 2, ← gsum_pairs 16 (by decide) 1]
  rw [pairs_last]
  rfl

/-- The upper half laid over the lower one. -/
def foldN (x : Nat) : Nat := x ^^^ (x / 65536)

theorem foldN_lt (x : Nat) (h : x < 2 ^ 32) : foldN x < 2 ^ 32 := Nat.xor_lt_two_pow h (by omega)

theorem foldN_again (x : Nat) (h : x < 2 ^ 32) : foldN (foldN x) = x := by
  have e : foldN x / 65536 = x / 65536 := by
    show (x ^^^ (x / 2 ^ 16)) / 2 ^ 16 = x / 2 ^ 16
    rw [Nat.xor_div_two_pow, Nat.div_div_eq_div_mul, show x / (2 ^ 16 * 2 ^ 16) = 0 from Nat.div_eq_of_lt (by omega), Nat.xor_zero]
  show foldN x ^^^ (foldN x / 65536) = x
  rw [e]
  show x ^^^ (x / 65536) ^^^ (x / 65536) = x
  rw [Nat.xor_assoc, Nat.xor_self, Nat.xor_zero]

theorem foldN_inj {x y : Nat} (hx : x < 2 ^ 32) (hy : y < 2 ^ 32) (h : foldN x = foldN y) : x = y := by
  rw [← foldN_again x hx, h, foldN_again y hy]

theorem mul_inj {x y : Nat} (hx : x < 2 ^ 32) (hy : y < 2 ^ 32) (h : x * 73244475 % 4294967296 = y * 73244475 % 4294967296) : x = y := by
  have key : ∀ z : Nat, z < 2 ^ 32 → z * 73244475 % 4294967296 * 295559667 % 4294967296 = z := by
    intro z hz
    rw [Nat.mod_mul_mod, Nat.mul_assoc, show 73244475 * 295559667 = 1 + 4294967296 * 5040344 from rfl, Nat.mul_add, Nat.mul_one, ← Nat.mul_assoc, Nat.mul_comm z 4294967296, Nat.mul_assoc, Nat.add_mul_mod_self_left]
    exact Nat.mod_eq_of_lt hz
  rw [← key x hx, h, key y hy]

/-- One round of the mixing. -/
def turnN (x : Nat) : Nat := foldN x * 73244475 % 4294967296

theorem turnN_lt (x : Nat) : turnN x < 2 ^ 32 := Nat.mod_lt _ (by decide)

theorem turnN_inj {x y : Nat} (hx : x < 2 ^ 32) (hy : y < 2 ^ 32) (h : turnN x = turnN y) : x = y :=
  foldN_inj hx hy (mul_inj (foldN_lt x hx) (foldN_lt y hy) h)

/-- k rounds of the mixing. -/
def turnTo (x : Nat) : Nat → Nat
  | 0 => x
  | k + 1 => turnN (turnTo x k)

theorem turnTo_lt (x : Nat) (hx : x < 2 ^ 32) (k : Nat) : turnTo x k < 2 ^ 32 := by
  cases k with
  | zero => exact hx
  | succ k => exact turnN_lt _

def mixN (x : Nat) : Nat := foldN (turnN (turnN x))

theorem mixN_lt (x : Nat) : mixN x < 2 ^ 32 := foldN_lt _ (turnN_lt _)

theorem mixN_inj {x y : Nat} (hx : x < 2 ^ 32) (hy : y < 2 ^ 32) (h : mixN x = mixN y) : x = y :=
  turnN_inj hx hy (turnN_inj (turnN_lt _) (turnN_lt _) (foldN_inj (turnN_lt _) (turnN_lt _) h))

/-- What Mix answers, as the chapter says it. -/
def mixF (x : Int) : Int := if Wd x then ((mixN x.toNat : Nat) : Int) else 0

end Go.Proofs.Ytbfpngaljmcbfaa
