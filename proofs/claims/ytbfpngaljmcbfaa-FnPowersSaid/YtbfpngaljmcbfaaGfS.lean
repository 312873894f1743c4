/-
  impl's sums, products, inverses, powers and logarithms.
-/
import Derived.Test.YtbfpngaljmcbfaaGfR
namespace Go.Proofs.Ytbfpngaljmcbfaa
open Go.RowKit

set_option linter.unusedVariables false

theorem el_nat {a : Int} (h : El a) : ∃ n : Nat, a = (n : Int) ∧ n < 16 := ⟨a.toNat, by have := h.1; omega, by have := h.2; omega⟩

theorem implGfAdd_is : IGfAdd := by
  intro a b v hv w
  by_cases ha : El a
  case neg =>
    have HE : Hid (-1 = v) := by show _ = _; rw [← hv]; exact (if_neg (fun h => ha h.1)).symm
    have KA := Lib.hid (decide_eq_false ha)
    clear ha hv
    go_enter Try.func13, Try.ntmps13
    go_wp2_with fail
    refine (implIsEl_is a false KA.out _).mono ?_
    rintro e w2 ⟨rfl, rfl⟩
    go_wp2_with fail
    go_ret
    exact ⟨ret_i HE.out, Below.refl _ _⟩
  have KA := Lib.hid (decide_eq_true ha)
  by_cases hb : El b
  case neg =>
    have HE : Hid (-1 = v) := by show _ = _; rw [← hv]; exact (if_neg (fun h => hb h.2)).symm
    have KB := Lib.hid (decide_eq_false hb)
    clear ha hb hv
    go_enter Try.func13, Try.ntmps13
    go_wp2_with fail
    refine (implIsEl_is a true KA.out _).mono ?_
    rintro e w2 ⟨rfl, rfl⟩
    go_wp2_with fail
    refine (implIsEl_is b false KB.out _).mono ?_
    rintro e w3 ⟨rfl, rfl⟩
    go_wp2_with fail
    go_ret
    exact ⟨ret_i HE.out, Below.refl _ _⟩
  have KB := Lib.hid (decide_eq_true hb)
  obtain ⟨x, rfl, hx⟩ := el_nat ha
  obtain ⟨y, rfl, hy⟩ := el_nat hb
  have HE : Hid (bits .xor .i64 (x : Int) (y : Int) = v) := by
    show _ = _
    rw [← hv, i64_xor_nat x y (by omega) (by omega)]
    exact (gfAdd_nat hx hy).symm
  clear ha hb hv
  go_enter Try.func13, Try.ntmps13
  go_wp2_with fail
  refine (implIsEl_is (x : Int) true KA.out _).mono ?_
  rintro e w2 ⟨rfl, rfl⟩
  go_wp2_with fail
  refine (implIsEl_is (y : Int) true KB.out _).mono ?_
  rintro e w3 ⟨rfl, rfl⟩
  go_wp2_with fail
  go_ret
  exact ⟨ret_i HE.out, Below.refl _ _⟩

theorem implGfMul_is : IGfMul := by
  intro a b v hv w
  by_cases ha : El a
  case neg =>
    have HE : Hid (-1 = v) := by show _ = _; rw [← hv]; exact (if_neg (fun h => ha h.1)).symm
    have KA := Lib.hid (decide_eq_false ha)
    clear ha hv
    go_enter Try.func12, Try.ntmps12
    go_wp2_with fail
    refine (implIsEl_is a false KA.out _).mono ?_
    rintro e w2 ⟨rfl, rfl⟩
    go_wp2_with fail
    go_ret
    exact ⟨ret_i HE.out, Below.refl _ _⟩
  have KA := Lib.hid (decide_eq_true ha)
  by_cases hb : El b
  case neg =>
    have HE : Hid (-1 = v) := by show _ = _; rw [← hv]; exact (if_neg (fun h => hb h.2)).symm
    have KB := Lib.hid (decide_eq_false hb)
    clear ha hb hv
    go_enter Try.func12, Try.ntmps12
    go_wp2_with fail
    refine (implIsEl_is a true KA.out _).mono ?_
    rintro e w2 ⟨rfl, rfl⟩
    go_wp2_with fail
    refine (implIsEl_is b false KB.out _).mono ?_
    rintro e w3 ⟨rfl, rfl⟩
    go_wp2_with fail
    go_ret
    exact ⟨ret_i HE.out, Below.refl _ _⟩
  have KB := Lib.hid (decide_eq_true hb)
  obtain ⟨x, rfl, hx⟩ := el_nat ha
  obtain ⟨y, rfl, hy⟩ := el_nat hb
  have HE : Hid (((gm x y : Nat) : Int) = v) := by show _ = _; rw [← hv]; exact (gfMul_nat hx hy).symm
  have HX := Lib.hid hx
  have HY := Lib.hid hy
  clear ha hb hv hx hy
  go_enter Try.func12, Try.ntmps12
  go_wp2_with fail
  refine (implIsEl_is (x : Int) true KA.out _).mono ?_
  rintro e w2 ⟨rfl, rfl⟩
  go_wp2_with fail
  refine (implIsEl_is (y : Int) true KB.out _).mono ?_
  rintro e w3 ⟨rfl, rfl⟩
  go_wp2_with fail
  refine (implMultiplierBy_is x HX.out _).mono ?_
  rintro e w4 ⟨g, rfl, hm, hb4⟩
  have HM := Lib.hid hm
  have HB4 := Lib.hid hb4
  clear hm hb4
  go_wp2_with fail
  refine (implBy_is x y HX.out HY.out g _ HM.out).mono ?_
  rintro e w5 ⟨rfl, rfl⟩
  go_wp2_with fail
  go_ret
  exact ⟨ret_i HE.out, HB4.out⟩

theorem implGfInv_is : IGfInv := by
  intro a v hv w
  by_cases ha : El a
  case neg =>
    have HE : Hid (-1 = v) := by
      show _ = _
      rw [← hv]
      unfold gfInv
      refine (fnd_none _ 15 1 (fun i hi => ?_)).symm
      show (gfMul a _ == 1) = false
      unfold gfMul
      rw [if_neg (fun h => ha h.1)]
      rfl
    have KA := Lib.hid (decide_eq_false ha)
    clear ha hv
    go_enter Try.func14, Try.ntmps14
    go_wp2_with fail
    refine (implIsEl_is a false KA.out _).mono ?_
    rintro e w2 ⟨rfl, rfl⟩
    go_wp2_with fail
    go_ret
    exact ⟨ret_i HE.out, Below.refl _ _⟩
  have KA := Lib.hid (decide_eq_true ha)
  obtain ⟨x, rfl, hx⟩ := el_nat ha
  have HX := Lib.hid hx
  have HAT : Hid (∀ k, k < 16 → gm x k = 1 → (k : Int) = v) := fun k hk h => by rw [← hv]; exact (inv_at ⟨x, hx⟩ ⟨k, hk⟩ h).symm
  have HNO : Hid ((∀ k, k < 16 → gm x k ≠ 1) → -1 = v) := fun h => by rw [← hv]; exact (inv_none ⟨x, hx⟩ (fun k => h k.1 k.2)).symm
  clear ha hv hx
  go_enter Try.func14, Try.ntmps14
  go_wp2_with fail
  refine (implIsEl_is (x : Int) true KA.out _).mono ?_
  rintro e w2 ⟨rfl, rfl⟩
  go_wp2_with fail
  refine (implMultiplierBy_is x HX.out _).mono ?_
  rintro e w4 ⟨g, rfl, hm, hb4⟩
  have HM := Lib.hid hm
  have HB4 := Lib.hid hb4
  clear hm hb4
  go_wp2_with fail
  go_loopw [10] (fun i wr => ∃ k : Nat, k ≤ 16 ∧ i = .int .i64 k ∧ wr = w4 ∧ ∀ m, m < k → gm x m ≠ 1) (fun i _ => 17 - (intOf i).toNat)
  case atStart => exact ⟨0, by omega, rfl, rfl, fun m hm => absurd hm (Nat.not_lt_zero _)⟩
  case round =>
    obtain ⟨k, hk, rfl, rfl, hno⟩ := hrel
    have HN := Lib.hid hno
    clear hno
    by_cases hlt : k < 16
    case neg =>
      obtain rfl : k = 16 := by omega
      (try rw [show ((16 : Nat) : Int) = 16 from rfl])
      have HE := Lib.hid (HNO.out HN.out)
      go_wp2_with fail
      go_ret
      exact ⟨ret_i HE.out, HB4.out⟩
    have hI : decide ((k : Int) < 16) = true := decide_eq_true (by omega)
    have hI' : (k : Int) < 16 := by omega
    have wk : IntKind.i64.wrap ((k : Int) + 1) = (k : Int) + 1 := IntWalk.i64_in _ (by omega)
    go_wp2_with fail
    refine (implBy_is x k HX.out hlt g _ HM.out).mono ?_
    rintro e w5 ⟨rfl, rfl⟩
    by_cases h1 : gm x k = 1
    case pos =>
      have HE := Lib.hid (HAT.out k hlt h1)
      rw [h1, show ((1 : Nat) : Int) = 1 from rfl]
      clear h1
      go_wp2_with fail
      go_ret
      exact ⟨ret_i HE.out, HB4.out⟩
    have HG : Hid (∀ m, m < k + 1 → gm x m ≠ 1) := fun m hm => by
      rcases Nat.lt_succ_iff_lt_or_eq.1 hm with h | rfl
      · exact HN.out m h
      · exact h1
    have t1 : (((gm x k : Nat) : Int) == 1) = false := by rw [beq_eq_false_iff_ne]; omega
    have t2 : (gm x k == 1) = false := by rw [beq_eq_false_iff_ne]; omega
    clear h1
    go_wp2_with fail
    go_roundw
    case rel => exact ⟨k + 1, by omega, by go_num, by trivial, HG.out⟩
    case measure => simp [intOf]; omega

theorem implGfPow_is : IGfPow := by
  intro a n v hv w
  by_cases ha : El a
  case neg =>
    have HE : Hid (-1 = v) := by show _ = _; rw [← hv]; exact (if_neg (fun h => ha h.1)).symm
    have KA := Lib.hid (decide_eq_false ha)
    clear ha hv
    go_enter Try.func15, Try.ntmps15
    go_wp2_with fail
    refine (implIsEl_is a false KA.out _).mono ?_
    rintro e w2 ⟨rfl, rfl⟩
    go_wp2_with fail
    go_ret
    exact ⟨ret_i HE.out, Below.refl _ _⟩
  have KA := Lib.hid (decide_eq_true ha)
  by_cases h0 : n < 0
  case pos =>
    have HE : Hid (-1 = v) := by show _ = _; rw [← hv]; exact (if_neg (fun h => by omega)).symm
    have t0 : decide (n < 0) = true := decide_eq_true h0
    clear ha h0 hv
    go_enter Try.func15, Try.ntmps15
    go_wp2_with fail
    refine (implIsEl_is a true KA.out _).mono ?_
    rintro e w2 ⟨rfl, rfl⟩
    go_wp2_with fail
    go_ret
    exact ⟨ret_i HE.out, Below.refl _ _⟩
  have t0 : decide (n < 0) = false := decide_eq_false h0
  by_cases h1 : 1000 < n
  case pos =>
    have HE : Hid (-1 = v) := by show _ = _; rw [← hv]; exact (if_neg (fun h => by omega)).symm
    have t1 : decide (1000 < n) = true := decide_eq_true h1
    clear ha h0 h1 hv
    go_enter Try.func15, Try.ntmps15
    go_wp2_with fail
    refine (implIsEl_is a true KA.out _).mono ?_
    rintro e w2 ⟨rfl, rfl⟩
    go_wp2_with fail
    go_ret
    exact ⟨ret_i HE.out, Below.refl _ _⟩
  have t1 : decide (1000 < n) = false := decide_eq_false h1
  obtain ⟨x, rfl, hx⟩ := el_nat ha
  obtain ⟨N, hN⟩ : ∃ N : Nat, n = (N : Int) := ⟨n.toNat, by omega⟩
  have hN1 : N ≤ 1000 := by omega
  have HE : Hid (((gp x N : Nat) : Int) = v) := by show _ = _; rw [← hv, hN]; exact (gfPow_nat hx hN1).symm
  subst hN
  have HX := Lib.hid hx
  clear ha h0 h1 hv hx
  go_enter Try.func15, Try.ntmps15
  go_wp2_with fail
  refine (implIsEl_is (x : Int) true KA.out _).mono ?_
  rintro e w2 ⟨rfl, rfl⟩
  go_wp2_with fail
  refine (implMultiplierBy_is x HX.out _).mono ?_
  rintro e w4 ⟨g, rfl, hm, hb4⟩
  have HM := Lib.hid hm
  have HB4 := Lib.hid hb4
  clear hm hb4
  go_wp2_with fail
  go_loopw [6, 21] (fun p i wr => ∃ k : Nat, k ≤ N ∧ i = .int .i64 k ∧ p = .int .i64 ((gp x k : Nat) : Int) ∧ wr = w4) (fun _ i _ => N + 1 - (intOf i).toNat)
  case atStart => exact ⟨0, by omega, rfl, rfl, by trivial⟩
  case round =>
    obtain ⟨k, hk, rfl, rfl, rfl⟩ := hrel
    by_cases hlt : k < N
    case neg =>
      obtain rfl : k = N := by omega
      have hI : decide ((k : Int) < (k : Int)) = false := decide_eq_false (by omega)
      go_wp2_with fail
      go_ret
      exact ⟨ret_i HE.out, HB4.out⟩
    have hI : decide ((k : Int) < (N : Int)) = true := decide_eq_true (by omega)
    have hI' : (k : Int) < (N : Int) := by omega
    have wk : IntKind.i64.wrap ((k : Int) + 1) = (k : Int) + 1 := IntWalk.i64_in _ (by omega)
    have HL : Hid (gp x k < 16) := gp_lt HX.out k
    have HG : Hid (gm x (gp x k) = gp x (k + 1)) := gp_next HX.out k
    go_wp2_with fail
    refine (implBy_is x (gp x k) HX.out HL.out g _ HM.out).mono ?_
    rintro e w5 ⟨rfl, rfl⟩
    rw [HG.out]
    go_wp2_with fail
    go_roundw
    case rel => exact ⟨k + 1, by omega, by go_num, by trivial, by trivial⟩
    case measure => simp [intOf]; omega

theorem implGfLog_is : IGfLog := by
  intro a v hv w
  have HAT : Hid (∀ k, k < 15 → ((gp 2 k : Nat) : Int) = a → (k : Int) = v) := fun k hk h => by rw [← hv, ← h]; exact (log_at ⟨k, hk⟩).symm
  have HNO : Hid ((∀ k, k < 15 → ((gp 2 k : Nat) : Int) ≠ a) → -1 = v) := fun h => by rw [← hv]; exact (log_none h).symm
  have H2 : Hid (2 < 16) := by show 2 < 16; decide
  clear hv
  go_enter Try.func16, Try.ntmps16
  go_wp2_with fail
  refine (implMultiplierBy_is 2 H2.out _).mono ?_
  rintro e w4 ⟨g, rfl, hm, hb4⟩
  have HM := Lib.hid hm
  have HB4 := Lib.hid hb4
  clear hm hb4
  go_wp2_with fail
  go_loopw [4, 7] (fun p i wr => ∃ k : Nat, k ≤ 15 ∧ i = .int .i64 k ∧ p = .int .i64 ((gp 2 k : Nat) : Int) ∧ wr = w4 ∧ ∀ m, m < k → ((gp 2 m : Nat) : Int) ≠ a) (fun _ i _ => 16 - (intOf i).toNat)
  case atStart => exact ⟨0, by omega, rfl, rfl, by trivial, fun m hm => absurd hm (Nat.not_lt_zero _)⟩
  case round =>
    obtain ⟨k, hk, rfl, rfl, rfl, hno⟩ := hrel
    have HN := Lib.hid hno
    clear hno
    by_cases hlt : k < 15
    case neg =>
      obtain rfl : k = 15 := by omega
      (try rw [show ((15 : Nat) : Int) = 15 from rfl])
      have HE := Lib.hid (HNO.out HN.out)
      go_wp2_with fail
      go_ret
      exact ⟨ret_i HE.out, HB4.out⟩
    have hI : decide ((k : Int) < 15) = true := decide_eq_true (by omega)
    have hI' : (k : Int) < 15 := by omega
    have wk : IntKind.i64.wrap ((k : Int) + 1) = (k : Int) + 1 := IntWalk.i64_in _ (by omega)
    by_cases h1 : ((gp 2 k : Nat) : Int) = a
    case pos =>
      have HE := Lib.hid (HAT.out k hlt h1)
      have t1 : (((gp 2 k : Nat) : Int) == a) = true := beq_iff_eq.2 h1
      clear h1
      go_wp2_with fail
      go_ret
      exact ⟨ret_i HE.out, HB4.out⟩
    have HG : Hid (∀ m, m < k + 1 → ((gp 2 m : Nat) : Int) ≠ a) := fun m hm => by
      rcases Nat.lt_succ_iff_lt_or_eq.1 hm with h | rfl
      · exact HN.out m h
      · exact h1
    have t1 : (((gp 2 k : Nat) : Int) == a) = false := beq_eq_false_iff_ne.2 h1
    clear h1
    have HL : Hid (gp 2 k < 16) := gp_lt (by decide) k
    have HG2 : Hid (gm 2 (gp 2 k) = gp 2 (k + 1)) := gp_next (by decide) k
    go_wp2_with fail
    refine (implBy_is 2 (gp 2 k) H2.out HL.out g _ HM.out).mono ?_
    rintro e w5 ⟨rfl, rfl⟩
    rw [HG2.out]
    go_wp2_with fail
    go_roundw
    case rel => exact ⟨k + 1, by omega, by go_num, by trivial, by trivial, HG.out⟩
    case measure => simp [intOf]; omega

end Go.Proofs.Ytbfpngaljmcbfaa
