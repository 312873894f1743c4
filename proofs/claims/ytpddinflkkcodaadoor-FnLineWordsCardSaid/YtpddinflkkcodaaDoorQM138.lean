/-
  Texts of one proof, merged: GeoW, GfW.
-/
import Derived.Test.YtpddinflkkcodaaDoorQM131
import Derived.Test.YtpddinflkkcodaaDoorQM132
import Derived.Test.YtpddinflkkcodaaDoorQM135
import Derived.Test.YtpddinflkkcodaaDoorQM137
namespace Go.Proofs.YtpddinflkkcodaaDoor
open Go.RowKit

set_option linter.unusedVariables false

theorem specIn_is (x lo hi : Int) (v : Bool) (h : decide (lo ≤ x ∧ x ≤ hi) = v) (w : World) :
    Calls Tryd.prog 49 #[.int .i64 x, .int .i64 lo, .int .i64 hi] w fun e w' => e = .returned (.bool v) ∧ w = w' := by
  subst h
  go_enter Tryd.func49, Tryd.ntmps49
  by_cases h0 : lo ≤ x <;> by_cases h1 : x ≤ hi
  all_goals (go_wp2; go_ret; refine ⟨?_, rfl⟩; simp [h0, h1])

def GeoOk (a b c d : Int) : Prop := (1 ≤ a ∧ a ≤ 2) ∧ (1 ≤ b ∧ b ≤ 4) ∧ (2 ≤ c ∧ c ≤ 16) ∧ (1 ≤ d ∧ d ≤ 8)

instance (a b c d : Int) : Decidable (GeoOk a b c d) := inferInstanceAs (Decidable (_ ∧ _))

/-- The number of banks. -/
def bankN (a b c d : Int) : Int := if GeoOk a b c d then a * b else 0

/-- An address of the geometry. -/
def AdOk (a b c d x y z : Int) : Prop := (0 ≤ x ∧ x ≤ bankN a b c d - 1) ∧ (0 ≤ y ∧ y ≤ c - 1) ∧ (0 ≤ z ∧ z ≤ d - 1)

instance (a b c d x y z : Int) : Decidable (AdOk a b c d x y z) := inferInstanceAs (Decidable (_ ∧ _))

/-- The number of lines. -/
def lineN (a b c d : Int) : Int := bankN a b c d * c * d

/-- The number of a line. -/
def LnOk (a b c d n : Int) : Prop := 0 ≤ n ∧ n ≤ lineN a b c d - 1

instance (a b c d n : Int) : Decidable (LnOk a b c d n) := inferInstanceAs (Decidable (_ ∧ _))

end Go.Proofs.YtpddinflkkcodaaDoor

namespace Go.Proofs.YtpddinflkkcodaaDoor
open Go.RowKit

set_option linter.unusedVariables false

theorem specIs_is (a : Int) (v : Bool) (hv : decide (El a) = v) (w : World) :
    Calls Tryd.prog 48 #[.int .i64 a] w (Says (.bool v) w) := by
  have h' : Hid (decide (0 ≤ a ∧ a ≤ 15) = v) := hv
  clear hv
  go_enter Tryd.func48, Tryd.ntmps48
  go_wp2_with fail
  refine (specIn_is a 0 15 v h'.out w).mono ?_
  rintro e w' ⟨rfl, rfl⟩
  go_wp2
  go_ret
  exact ⟨rfl, rfl⟩

theorem bit_is (y k : Nat) (hy : y < 2 ^ 62) : (bits .and .i64 ((y : Int) / 2 ^ k) 1 == 1) = decide ((y >>> k) &&& 1 = 1) := by
  have e : (y : Int) / 2 ^ k = ((y >>> k : Nat) : Int) := by rw [Nat.shiftRight_eq_div_pow]; simp
  have h : y >>> k < 2 ^ 63 := by rw [Nat.shiftRight_eq_div_pow]; exact Nat.lt_of_le_of_lt (Nat.div_le_self _ _) (by omega)
  rw [e, show (1 : Int) = ((1 : Nat) : Int) from rfl, i64_and_nat _ 1 h (by decide)]
  by_cases hb : (y >>> k) &&& 1 = 1
  · rw [hb]; decide
  · rw [decide_eq_false hb, beq_eq_false_iff_ne]
    intro hh
    exact hb (by omega)

theorem gA_all : ∀ a b : Fin 16, ∀ i : Fin 5, gA a.1 b.1 i.1 < 256 := by decide +kernel

theorem gA_lt {a b i : Nat} (ha : a < 16) (hb : b < 16) (hi : i ≤ 4) : gA a b i < 256 := gA_all ⟨a, ha⟩ ⟨b, hb⟩ ⟨i, by omega⟩

/-- The product behind so many reductions. -/
def gS (x y : Nat) : Nat → Nat
  | 0 => gA x y 4
  | j + 1 => gR (gS x y j) (6 - j)

theorem gS_all : ∀ a b : Fin 16, ∀ i : Fin 4, gS a.1 b.1 i.1 < 256 := by decide +kernel

theorem gS_lt {a b i : Nat} (ha : a < 16) (hb : b < 16) (hi : i ≤ 3) : gS a b i < 256 := gS_all ⟨a, ha⟩ ⟨b, hb⟩ ⟨i, by omega⟩

theorem xs_is (P x k : Nat) (hP : P < 256) (hx : x < 32) (hk : k < 4) : bits .xor .i64 (P : Int) (wrap64 ((x : Int) * 2 ^ k)) = ((P ^^^ (x <<< k) : Nat) : Int) := by
  have h1 : x <<< k < 256 := by
    rw [Nat.shiftLeft_eq]
    have : 2 ^ k ≤ 8 := by
      have : k = 0 ∨ k = 1 ∨ k = 2 ∨ k = 3 := by omega
      rcases this with rfl | rfl | rfl | rfl <;> decide
    calc x * 2 ^ k ≤ 31 * 8 := Nat.mul_le_mul (by omega) this
      _ < 256 := by decide
  have e : (x : Int) * 2 ^ k = ((x <<< k : Nat) : Int) := by rw [Nat.shiftLeft_eq]; simp
  rw [e]
  generalize x <<< k = S at h1
  have w : wrap64 (S : Int) = (S : Int) := by rw [← IntWalk.i64_left]; exact IntWalk.i64_in _ (by omega)
  rw [w, i64_xor_nat P S (by omega) (by omega)]

set_option maxHeartbeats 4000000 in
set_option maxRecDepth 100000 in
theorem specGfMul_in (x y : Nat) (hx : x < 16) (hy : y < 16) (w : World) :
    Calls Tryd.prog 39 #[.int .i64 (x : Int), .int .i64 (y : Int)] w (Says (.int .i64 ((gm x y : Nat) : Int)) w) := by
  have KA : Hid (decide (El (x : Int)) = true) := decide_eq_true ⟨by omega, by omega⟩
  have KB : Hid (decide (El (y : Int)) = true) := decide_eq_true ⟨by omega, by omega⟩
  go_enter Tryd.func39, Tryd.ntmps39
  go_wp2_with fail
  refine (specIs_is (x : Int) true KA.out _).mono ?_
  rintro e w2 ⟨rfl, rfl⟩
  go_wp2_with fail
  refine (specIs_is (y : Int) true KB.out _).mono ?_
  rintro e w3 ⟨rfl, rfl⟩
  go_wp2_with fail
  go_loopw [5, 6] (fun o i wr => ∃ k : Nat, k ≤ 4 ∧ i = .int .i64 k ∧ o = .int .i64 ((gA x y k : Nat) : Int) ∧ wr = w) (fun _ i _ => 5 - (intOf i).toNat)
  case atStart => exact ⟨0, by omega, rfl, rfl, rfl⟩
  case round =>
    obtain ⟨k, hk, rfl, rfl, rfl⟩ := hrel
    by_cases hlt : k < 4
    case neg =>
      obtain rfl : k = 4 := by omega
      (try rw [show ((4 : Nat) : Int) = 4 from rfl])
      go_wp2_with fail
      go_loopw [5, 7] (fun o i wv => ∃ j : Nat, j ≤ 3 ∧ i = .int .i64 ((6 - j : Nat) : Int) ∧ o = .int .i64 ((gS x y j : Nat) : Int) ∧ wv = wr) (fun _ i _ => (intOf i).toNat)
      case atStart => exact ⟨0, by omega, rfl, rfl, by trivial⟩
      case round =>
        obtain ⟨j, hj, rfl, rfl, rfl⟩ := hrel
        obtain ⟨i, hi⟩ : ∃ i, 6 - j = i := ⟨_, rfl⟩
        rw [hi]
        by_cases hltj : j < 3
        case neg =>
          obtain rfl : j = 3 := by omega
          obtain rfl : i = 3 := by omega
          have t3 : decide ((4 : Int) ≤ ((3 : Nat) : Int)) = false := by decide
          clear hi
          go_wp2_with fail
          go_ret
          exact ⟨rfl, rfl⟩
        have t3 : decide ((4 : Int) ≤ (i : Int)) = true := decide_eq_true (by omega)
        have t3' : decide (4 ≤ i) = true := decide_eq_true (by omega)
        have u2 : IntKind.u64.wrap (i : Int) = (i : Int) := IntWalk.u64_in _ (by omega)
        have u3 : IntKind.i64.wrap ((i : Int) - 1) = ((i - 1 : Nat) : Int) := by rw [IntWalk.i64_in _ (by omega)]; omega
        have u4 : IntKind.i64.wrap ((i : Int) - 4) = ((i - 4 : Nat) : Int) := by rw [IntWalk.i64_in _ (by omega)]; omega
        have u5 : IntKind.u64.wrap ((i - 4 : Nat) : Int) = ((i - 4 : Nat) : Int) := IntWalk.u64_in _ (by omega)
        obtain ⟨P, hP⟩ : ∃ P, gS x y j = P := ⟨_, rfl⟩
        have hPl : P < 256 := by rw [← hP]; exact gS_lt hx hy (by omega)
        have HN : Hid (gS x y (j + 1) = gR P i) := by show gR (gS x y j) (6 - j) = _; rw [hP, hi]
        have HI := Lib.hid hi
        have hi4 : 4 ≤ i ∧ i ≤ 6 := by omega
        have hm1 : min i 64 = i := Nat.min_eq_left (by omega)
        have hm2 : min (i - 4) 64 = i - 4 := Nat.min_eq_left (by omega)
        rw [hP]
        have F := Lib.hid (bit_is P i (by omega))
        clear hi hP
        by_cases hbit : (P >>> i) &&& 1 = 1
        case neg =>
          have t1 : (bits .and .i64 ((P : Int) / 2 ^ i) 1 == 1) = false := by rw [F.out]; exact decide_eq_false hbit
          have HG : Hid (gR P i = P) := if_neg hbit
          clear hbit
          go_wp2_with fail
          go_roundw
          case rel => exact ⟨j + 1, by omega, by have := HI.out; congr 1; omega, by rw [HN.out, HG.out], by trivial⟩
          case measure => simp [intOf]; omega
        have t1 : (bits .and .i64 ((P : Int) / 2 ^ i) 1 == 1) = true := by rw [F.out]; exact decide_eq_true hbit
        have HG : Hid (gR P i = P ^^^ (19 <<< (i - 4))) := if_pos hbit
        have X := Lib.hid (xs_is P 19 (i - 4) (by omega) (by omega) (by omega))
        clear hbit
        go_wp2_with fail
        go_roundw
        case rel => exact ⟨j + 1, by omega, by have := HI.out; congr 1; omega, by rw [HN.out, HG.out, ← X.out]; rfl, by trivial⟩
        case measure => simp [intOf]; omega
    have t0 : decide ((k : Int) < 4) = true := decide_eq_true (by omega)
    have hI : (k : Int) < 4 := by omega
    have u0 : IntKind.u64.wrap (k : Int) = (k : Int) := IntWalk.u64_in _ (by omega)
    have u1 : IntKind.i64.wrap ((k : Int) + 1) = (k : Int) + 1 := IntWalk.i64_in _ (by omega)
    have F := Lib.hid (bit_is y k (by omega))
    by_cases hbit : (y >>> k) &&& 1 = 1
    case neg =>
      have t1 : (bits .and .i64 ((y : Int) / 2 ^ k) 1 == 1) = false := by rw [F.out]; exact decide_eq_false hbit
      have HG : Hid (gA x y (k + 1) = gA x y k) := if_neg hbit
      clear hbit
      go_wp2_with fail
      go_roundw
      case rel => exact ⟨k + 1, by omega, by go_num, by rw [HG.out], by trivial⟩
      case measure => simp [intOf]; omega
    have t1 : (bits .and .i64 ((y : Int) / 2 ^ k) 1 == 1) = true := by rw [F.out]; exact decide_eq_true hbit
    have HG : Hid (gA x y (k + 1) = gA x y k ^^^ (x <<< k)) := if_pos hbit
    clear hbit
    have X := Lib.hid (xs_is (gA x y k) x k (gA_lt hx hy hk) (by omega) (by omega))
    go_wp2_with fail
    go_roundw
    case rel => exact ⟨k + 1, by omega, by go_num, by rw [HG.out, ← X.out], by trivial⟩
    case measure => simp [intOf]; omega

theorem specGfMul_is (a b v : Int) (hv : gfMul a b = v) (w : World) :
    Calls Tryd.prog 39 #[.int .i64 a, .int .i64 b] w (Says (.int .i64 v) w) := by
  by_cases ha : El a
  case neg =>
    have HE : Hid (-1 = v) := by show _ = _; rw [← hv]; exact (if_neg (fun h => ha h.1)).symm
    have KA := Lib.hid (decide_eq_false ha)
    clear ha hv
    go_enter Tryd.func39, Tryd.ntmps39
    go_wp2_with fail
    refine (specIs_is a false KA.out _).mono ?_
    rintro e w2 ⟨rfl, rfl⟩
    go_wp2_with fail
    go_ret
    exact ⟨ret_i HE.out, rfl⟩
  have KA := Lib.hid (decide_eq_true ha)
  by_cases hb : El b
  case neg =>
    have HE : Hid (-1 = v) := by show _ = _; rw [← hv]; exact (if_neg (fun h => hb h.2)).symm
    have KB := Lib.hid (decide_eq_false hb)
    clear ha hb hv
    go_enter Tryd.func39, Tryd.ntmps39
    go_wp2_with fail
    refine (specIs_is a true KA.out _).mono ?_
    rintro e w2 ⟨rfl, rfl⟩
    go_wp2_with fail
    refine (specIs_is b false KB.out _).mono ?_
    rintro e w3 ⟨rfl, rfl⟩
    go_wp2_with fail
    go_ret
    exact ⟨ret_i HE.out, rfl⟩
  obtain ⟨x, rfl⟩ := Int.eq_ofNat_of_zero_le ha.1
  obtain ⟨y, rfl⟩ := Int.eq_ofNat_of_zero_le hb.1
  have hx : x < 16 := by have := ha.2; omega
  have hy : y < 16 := by have := hb.2; omega
  rw [← hv, gfMul_nat hx hy]
  exact specGfMul_in x y hx hy w

set_option maxHeartbeats 2000000 in
set_option maxRecDepth 100000 in
theorem specGfPow_is (a n v : Int) (hv : gfPow a n = v) (w : World) :
    Calls Tryd.prog 40 #[.int .i64 a, .int .i64 n] w (Says (.int .i64 v) w) := by
  by_cases ha : El a
  case neg =>
    have HE : Hid (-1 = v) := by show _ = _; rw [← hv]; exact (if_neg (fun h => ha h.1)).symm
    have KA := Lib.hid (decide_eq_false ha)
    clear ha hv
    go_enter Tryd.func40, Tryd.ntmps40
    go_wp2_with fail
    refine (specIs_is a false KA.out _).mono ?_
    rintro e w2 ⟨rfl, rfl⟩
    go_wp2_with fail
    go_ret
    exact ⟨ret_i HE.out, rfl⟩
  have KA := Lib.hid (decide_eq_true ha)
  by_cases hn : 0 ≤ n ∧ n ≤ 1000
  case neg =>
    have HE : Hid (-1 = v) := by show _ = _; rw [← hv]; exact (if_neg (fun h => hn h.2)).symm
    have KB := Lib.hid (decide_eq_false hn)
    clear ha hn hv
    go_enter Tryd.func40, Tryd.ntmps40
    go_wp2_with fail
    refine (specIs_is a true KA.out _).mono ?_
    rintro e w2 ⟨rfl, rfl⟩
    go_wp2_with fail
    refine (specIn_is n 0 1000 false KB.out _).mono ?_
    rintro e w3 ⟨rfl, rfl⟩
    go_wp2_with fail
    go_ret
    exact ⟨ret_i HE.out, rfl⟩
  have KB := Lib.hid (decide_eq_true hn)
  obtain ⟨x, rfl⟩ := Int.eq_ofNat_of_zero_le ha.1
  obtain ⟨m, rfl⟩ := Int.eq_ofNat_of_zero_le hn.1
  have hx : x < 16 := by have := ha.2; omega
  have hm : m ≤ 1000 := by omega
  have HE : Hid (((gp x m : Nat) : Int) = v) := by show _ = _; rw [← hv]; exact (gfPow_nat hx hm).symm
  clear ha hn hv
  go_enter Tryd.func40, Tryd.ntmps40
  go_wp2_with fail
  refine (specIs_is (x : Int) true KA.out _).mono ?_
  rintro e w2 ⟨rfl, rfl⟩
  go_wp2_with fail
  refine (specIn_is (m : Int) 0 1000 true KB.out _).mono ?_
  rintro e w3 ⟨rfl, rfl⟩
  go_wp2_with fail
  go_loopw [5, 6] (fun o i wr => ∃ k : Nat, k ≤ m ∧ i = .int .i64 k ∧ o = .int .i64 ((gp x k : Nat) : Int) ∧ wr = w) (fun _ i _ => m - (intOf i).toNat)
  case atStart => exact ⟨0, by omega, rfl, rfl, rfl⟩
  case round =>
    obtain ⟨k, hk, rfl, rfl, rfl⟩ := hrel
    by_cases hlt : k < m
    case neg =>
      obtain rfl : k = m := by omega
      go_wp2_with fail
      go_ret
      exact ⟨ret_i HE.out, rfl⟩
    have t0 : decide ((k : Int) < (m : Int)) = true := decide_eq_true (by omega)
    have u1 : IntKind.i64.wrap ((k : Int) + 1) = (k : Int) + 1 := IntWalk.i64_in _ (by omega)
    obtain ⟨Q, hQ⟩ : ∃ Q, gp x k = Q := ⟨_, rfl⟩
    have hQl : Q < 16 := by rw [← hQ]; exact gp_lt hx k
    have HN : Hid (gp x (k + 1) = gm Q x) := by show gm (gp x k) x = _; rw [hQ]
    have HM : Hid (gfMul (Q : Int) (x : Int) = ((gm Q x : Nat) : Int)) := gfMul_nat hQl hx
    rw [hQ]
    clear hQ
    go_wp2_with fail
    refine (specGfMul_is (Q : Int) (x : Int) _ HM.out _).mono ?_
    rintro e w2 ⟨rfl, rfl⟩
    go_wp2_with fail
    go_roundw
    case rel => exact ⟨k + 1, by omega, by go_num, by rw [HN.out], by trivial⟩
    case measure => simp [intOf]; omega

end Go.Proofs.YtpddinflkkcodaaDoor
