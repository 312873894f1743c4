/-
  Geometries and addresses: what the copying and comparing words of the laws give, and the model's functions over them.
-/
import Derived.Test.YtbfpngaljmcbfaaOpen
import Derived.Test.YtbfpngaljmcbfaaLater
namespace Go.Proofs.Ytbfpngaljmcbfaa
open Go.RowKit

set_option linter.unusedVariables false

theorem specIn_is (x lo hi : Int) (v : Bool) (h : decide (lo ≤ x ∧ x ≤ hi) = v) (w : World) :
    Calls Try.prog 27 #[.int .i64 x, .int .i64 lo, .int .i64 hi] w fun e w' => e = .returned (.bool v) ∧ w = w' := by
  subst h
  go_enter Try.func27, Try.ntmps27
  by_cases h0 : lo ≤ x <;> by_cases h1 : x ≤ hi
  all_goals (go_wp2; go_ret; refine ⟨?_, rfl⟩; simp [h0, h1])

def GeoOk (a b c d : Int) : Prop := (1 ≤ a ∧ a ≤ 2) ∧ (1 ≤ b ∧ b ≤ 4) ∧ (2 ≤ c ∧ c ≤ 16) ∧ (1 ≤ d ∧ d ≤ 8)

instance (a b c d : Int) : Decidable (GeoOk a b c d) := inferInstanceAs (Decidable (_ ∧ _))

/-- The number of banks. -/
def bankN (a b c d : Int) : Int := if GeoOk a b c d then a * b else 0

theorem bankN_range (a b c d : Int) : 0 ≤ bankN a b c d ∧ bankN a b c d ≤ 8 := by
  unfold bankN
  split
  · rename_i h
    obtain ⟨⟨h1, h2⟩, ⟨h3, h4⟩, _⟩ := h
    have : a = 1 ∨ a = 2 := by omega
    rcases this with rfl | rfl <;> omega
  · omega

/-- An address of the geometry. -/
def AdOk (a b c d x y z : Int) : Prop := (0 ≤ x ∧ x ≤ bankN a b c d - 1) ∧ (0 ≤ y ∧ y ≤ c - 1) ∧ (0 ≤ z ∧ z ≤ d - 1)

instance (a b c d x y z : Int) : Decidable (AdOk a b c d x y z) := inferInstanceAs (Decidable (_ ∧ _))

theorem geo_of_bank {a b c d x : Int} (h : 0 ≤ x ∧ x ≤ bankN a b c d - 1) : GeoOk a b c d := by
  unfold bankN at h
  split at h
  · assumption
  · omega

/-- The group of a bank. -/
def groupF (a b c d k : Int) : Int := if 0 ≤ k ∧ k ≤ bankN a b c d - 1 then k / b else -1

/-- The number of lines. -/
def lineN (a b c d : Int) : Int := bankN a b c d * c * d

theorem lineN_non {a b c d : Int} (h : ¬ GeoOk a b c d) : lineN a b c d = 0 := by
  unfold lineN bankN
  rw [if_neg h, Int.zero_mul, Int.zero_mul]

theorem lineN_range (a b c d : Int) : 0 ≤ lineN a b c d ∧ lineN a b c d ≤ 1024 := by
  by_cases h : GeoOk a b c d
  · have hb := bankN_range a b c d
    obtain ⟨_, _, ⟨h1, h2⟩, ⟨h3, h4⟩⟩ := h
    unfold lineN
    have p1 : 0 ≤ bankN a b c d * c := Int.mul_nonneg hb.1 (by omega)
    have p2 : bankN a b c d * c ≤ 8 * 16 := Int.mul_le_mul hb.2 h2 (by omega) (by omega)
    exact ⟨Int.mul_nonneg p1 (by omega), Int.mul_le_mul p2 h4 (by omega) (by omega)⟩
  · rw [lineN_non h]; omega

/-- The index of an address. -/
def idxF (a b c d x y z : Int) : Int := if AdOk a b c d x y z then (x * c + y) * d + z else -1

theorem idx_bounds {a b c d x y z : Int} (h : AdOk a b c d x y z) : 0 ≤ x * c ∧ x * c + y ≤ 8 * 16 ∧ 0 ≤ (x * c + y) * d ∧ (x * c + y) * d + z ≤ 2000 := by
  obtain ⟨h1, h2, h3⟩ := h
  obtain ⟨_, _, ⟨g0, g1⟩, ⟨g2, g3⟩⟩ := geo_of_bank h1
  have hb := bankN_range a b c d
  have p1 : 0 ≤ x * c := Int.mul_nonneg h1.1 (by omega)
  have p2 : x * c ≤ 7 * 16 := Int.mul_le_mul (by omega) g1 (by omega) (by omega)
  have p3 : 0 ≤ (x * c + y) * d := Int.mul_nonneg (by omega) (by omega)
  have p4 : (x * c + y) * d ≤ 128 * 8 := Int.mul_le_mul (by omega) g3 (by omega) (by omega)
  omega

/-- The number of a line. -/
def LnOk (a b c d n : Int) : Prop := 0 ≤ n ∧ n ≤ lineN a b c d - 1

instance (a b c d n : Int) : Decidable (LnOk a b c d n) := inferInstanceAs (Decidable (_ ∧ _))

theorem LnOk.geo {a b c d n : Int} (h : LnOk a b c d n) : GeoOk a b c d := by
  by_cases k : GeoOk a b c d
  · exact k
  · have := lineN_non k
    obtain ⟨h1, h2⟩ := h
    omega

def adV (x y z : Int) (t : Bool) : Value := .tuple #[.agg #[.int .i64 x, .int .i64 y, .int .i64 z], .bool t]

/-- The address of a line, in the order of the indices. -/
def atF (a b c d n : Int) : Value := if LnOk a b c d n then adV (n / d / c) (n / d % c) (n % d) true else adV 0 0 0 false

end Go.Proofs.Ytbfpngaljmcbfaa
