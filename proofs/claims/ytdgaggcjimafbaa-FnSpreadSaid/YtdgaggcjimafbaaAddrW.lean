/-
  FnAddresses' and FnGroups' walks, out of the contracts of impl's functions over geometries.
-/
import Derived.Test.YtdgaggcjimafbaaDrawGeoW
import Derived.Test.YtdgaggcjimafbaaMade
import Derived.Test.YtdgaggcjimafbaaIntsW
namespace Go.Proofs.Ytdgaggcjimafbaa
open Go.RowKit

set_option linter.unusedVariables false

def geoV (a b r d : Int) : Value := .agg #[.int .i64 a, .int .i64 b, .int .i64 r, .int .i64 d]

theorem line_addr {a b r d n : Int} (h : LnOk a b r d n) : AdOk a b r d (n / d / r) (n / d % r) (n % d) := by
  obtain ⟨_, _, ⟨g0, g1⟩, ⟨g2, g3⟩⟩ := h.geo
  obtain ⟨h0, h1⟩ := h
  have q0 : 0 ≤ n / d := Int.ediv_nonneg h0 (by omega)
  have q1 : n / d < bankN a b r d * r := Int.ediv_lt_of_lt_mul (by omega) (by unfold lineN at h1; omega)
  refine ⟨⟨Int.ediv_nonneg q0 (by omega), ?_⟩, ⟨Int.emod_nonneg _ (by omega), ?_⟩, ⟨Int.emod_nonneg _ (by omega), ?_⟩⟩
  · have := Int.ediv_lt_of_lt_mul (show 0 < r by omega) q1
    omega
  · have := Int.emod_lt_of_pos (n / d) (show 0 < r by omega)
    omega
  · have := Int.emod_lt_of_pos n (show 0 < d by omega)
    omega

theorem line_index {a b r d n : Int} (h : LnOk a b r d n) : idxF a b r d (n / d / r) (n / d % r) (n % d) = n := by
  unfold idxF
  rw [if_pos (line_addr h)]
  have e1 := Int.mul_ediv_add_emod (n / d) r
  have e2 := Int.mul_ediv_add_emod n d
  rw [Int.mul_comm (n / d / r) r, e1, Int.mul_comm (n / d) d, e2]

/-- How many of the first j banks lie in group i. -/
def cntG (b i j : Int) : Int := if j ≤ i * b then 0 else if (i + 1) * b ≤ j then b else j - i * b

theorem cntG_same {b j : Int} (hb : 0 < b) : cntG b (j / b) (j + 1) = cntG b (j / b) j + 1 := by
  have h1 := Int.mul_ediv_add_emod j b
  have h2 := Int.emod_nonneg j (show b ≠ 0 by omega)
  have h3 := Int.emod_lt_of_pos j hb
  obtain ⟨q, hq⟩ : ∃ q, j / b = q := ⟨_, rfl⟩
  rw [hq, Int.mul_comm] at h1
  rw [hq]
  unfold cntG
  rw [Int.add_mul, Int.one_mul]
  repeat' split
  all_goals omega

theorem cntG_other {b i j : Int} (hb : 0 < b) (h : i ≠ j / b) : cntG b i (j + 1) = cntG b i j := by
  have h1 := Int.mul_ediv_add_emod j b
  have h2 := Int.emod_nonneg j (show b ≠ 0 by omega)
  have h3 := Int.emod_lt_of_pos j hb
  obtain ⟨q, hq⟩ : ∃ q, j / b = q := ⟨_, rfl⟩
  rw [hq] at h
  rw [hq, Int.mul_comm] at h1
  unfold cntG
  rw [Int.add_mul, Int.one_mul]
  rcases Int.lt_or_gt_of_ne h with hl | hl
  · have h4 : (i + 1) * b ≤ q * b := Int.mul_le_mul_of_nonneg_right (by omega) (by omega)
    rw [Int.add_mul, Int.one_mul] at h4
    repeat' split
    all_goals omega
  · have h4 : (q + 1) * b ≤ i * b := Int.mul_le_mul_of_nonneg_right (by omega) (by omega)
    rw [Int.add_mul, Int.one_mul] at h4
    repeat' split
    all_goals omega

theorem cntG_range {b i j : Int} (hb : 0 < b) : 0 ≤ cntG b i j ∧ cntG b i j ≤ b := by
  unfold cntG
  rw [Int.add_mul, Int.one_mul]
  repeat' split
  all_goals omega

theorem cntG_all {b i g : Int} (hb : 0 < b) (h : i < g) : cntG b i (g * b) = b := by
  have h4 : (i + 1) * b ≤ g * b := Int.mul_le_mul_of_nonneg_right (by omega) (by omega)
  unfold cntG
  rw [Int.add_mul, Int.one_mul] at h4 ⊢
  repeat' split
  all_goals omega

/-- The counts of the groups when j banks have been looked at. -/
def cntsG (b : Int) (G : Nat) (j : Int) : List Int := (List.range G).map fun (i : Nat) => cntG b (i : Int) j

theorem cntsG_length (b : Int) (G : Nat) (j : Int) : (cntsG b G j).length = G := by simp [cntsG]

theorem cntsG_get (b : Int) (G : Nat) (j : Int) (i : Nat) (h : i < (cntsG b G j).length) : (cntsG b G j)[i] = cntG b (i : Int) j := by simp [cntsG]

theorem cntsG_zero (b : Int) (hb : 0 < b) (G : Nat) : cntsG b G 0 = List.replicate G 0 := by
  apply List.ext_getElem
  · simp [cntsG]
  · intro i h1 h2
    rw [cntsG_get, List.getElem_replicate]
    have : 0 ≤ (i : Int) * b := Int.mul_nonneg (by omega) (by omega)
    unfold cntG
    rw [if_pos this]

theorem cntsG_step {b : Int} (hb : 0 < b) (G : Nat) (j : Int) (q : Nat) (hq : (q : Int) = j / b) (hqG : q < G) :
    cntsG b G (j + 1) = (cntsG b G j).set q (cntG b (q : Int) j + 1) := by
  apply List.ext_getElem
  · simp [cntsG]
  · intro i h1 h2
    rw [cntsG_get, List.getElem_set]
    split
    · rename_i e
      subst e
      rw [hq]; exact cntG_same hb
    · rename_i e
      rw [cntsG_get]
      exact cntG_other hb (fun e2 => e (by rw [← hq] at e2; omega))

end Go.Proofs.Ytdgaggcjimafbaa
