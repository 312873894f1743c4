/-
  The model's commands: uses, forms, words and frames.
-/
import Derived.Test.YtihhcnckoeaihaaCmdF
import Derived.Test.YtihhcnckoeaihaaGeoW
import Derived.Test.YtihhcnckoeaihaaGivesI
namespace Go.Proofs.Ytihhcnckoeaihaa
open Go.RowKit

set_option linter.unusedVariables false

theorem i64_and15 (n : Int) : bits .and .i64 n 15 = n % 16 := by
  have h127 : (BitVec.ofInt 64 15).toNat = 2 ^ 4 - 1 := by decide
  have key : (BitVec.ofInt 64 n &&& BitVec.ofInt 64 15).toNat = (n % ((2 ^ 64 : Nat) : Int)).toNat % 2 ^ 4 := by
    rw [BitVec.toNat_and, BitVec.toNat_ofInt, h127, Nat.and_two_pow_sub_one_eq_mod]
  show IntKind.i64.wrap ((BitVec.ofInt 64 n &&& BitVec.ofInt 64 15).toNat : Nat) = n % 16
  rw [key, IntKind.wrap_i64]
  omega

theorem i64_and7 (n : Int) : bits .and .i64 n 7 = n % 8 := by
  have h127 : (BitVec.ofInt 64 7).toNat = 2 ^ 3 - 1 := by decide
  have key : (BitVec.ofInt 64 n &&& BitVec.ofInt 64 7).toNat = (n % ((2 ^ 64 : Nat) : Int)).toNat % 2 ^ 3 := by
    rw [BitVec.toNat_and, BitVec.toNat_ofInt, h127, Nat.and_two_pow_sub_one_eq_mod]
  show IntKind.i64.wrap ((BitVec.ofInt 64 n &&& BitVec.ofInt 64 7).toNat : Nat) = n % 8
  rw [key, IntKind.wrap_i64]
  omega

theorem specUses_is (k : Int) (B R K : Bool) (hB : decide (1 ≤ k ∧ k ≤ 5) = B) (hR : decide (k = 1) = R) (hK : decide (k = 2 ∨ k = 3) = K) (w : World) :
    Calls Try.prog 64 #[.int .i64 k] w (Says (.tuple #[.bool B, .bool R, .bool K]) w) := by
  have HB := Lib.hid hB
  have tR : (k == 1) = R := by rw [← hR]; by_cases h : k = 1 <;> simp [h]
  clear hB hR
  by_cases h2 : k = 2
  · have tk : (k == 2) = true := by simpa using h2
    obtain rfl : K = true := by rw [← hK]; exact decide_eq_true (.inl h2)
    clear hK h2
    go_enter Try.func64, Try.ntmps64
    go_wp2_with fail
    refine (specIn_is _ _ _ _ HB.out _).mono ?_
    rintro e w' ⟨rfl, rfl⟩
    go_wp2
    go_ret3
    exact ⟨rfl, rfl⟩
  · have tk : (k == 2) = false := by simpa using h2
    have t3 : (k == 3) = K := by
      rw [← hK]
      by_cases h : k = 3
      · subst h; rfl
      · simp [h, h2]
    clear hK h2
    go_enter Try.func64, Try.ntmps64
    go_wp2_with fail
    refine (specIn_is _ _ _ _ HB.out _).mono ?_
    rintro e w' ⟨rfl, rfl⟩
    go_wp2
    go_ret3
    exact ⟨rfl, rfl⟩

set_option maxHeartbeats 4000000 in
theorem specForm_is (k b r c : Int) (v : Bool) (hv : decide (CmOk k b r c) = v) (w : World) :
    Calls Try.prog 46 #[.agg #[.int .i64 k, .int .i64 b, .int .i64 r, .int .i64 c]] w (Gives (.bool v) w) := by
  obtain ⟨w1, hw1⟩ : ∃ u, w.alloc (.cells #[.int .i64 k, .int .i64 b, .int .i64 r, .int .i64 c] 56) = u := ⟨_, rfl⟩
  have HB1 : Hid (Below w.heap.size w w1) := by subst hw1; exact (Below.refl _ _).alloc (Nat.le_refl _) _
  have p1 : w1.heap[w.heap.size]? = some (.cells #[.int .i64 k, .int .i64 b, .int .i64 r, .int .i64 c] 56) := by subst hw1; exact heap_alloc_new _ _
  obtain ⟨c0, c1, c2, c3⟩ := cells4 p1
  have cls : k = 1 ∨ (k = 2 ∨ k = 3) ∨ (k = 4 ∨ k = 5) ∨ ¬ (1 ≤ k ∧ k ≤ 5) := by omega
  rcases cls with hk | hk | hk | hk
  · have US := Lib.hid (fun w => specUses_is k true true false (decide_eq_true (by omega)) (decide_eq_true (by omega)) (decide_eq_false (by omega)) w)
    by_cases hc : c = 0
    · have tc : (c != 0) = false := by simp; omega
      by_cases h1 : 0 ≤ b ∧ b ≤ 7
      · by_cases h2 : 0 ≤ r ∧ r ≤ 15
        · by_cases h3 : 0 ≤ c ∧ c ≤ 7
          · have HE : Hid (v = true) := by show _ = _; rw [← hv]; exact decide_eq_true (by unfold CmOk; omega)
            have KK := Lib.hid (decide_eq_true (show (1 ≤ k ∧ k ≤ 9) by omega))
            have KB := Lib.hid (decide_eq_true (show (0 ≤ b ∧ b ≤ 7) by omega))
            have KR := Lib.hid (decide_eq_true (show (0 ≤ r ∧ r ≤ 15) by omega))
            have KC := Lib.hid (decide_eq_true (show (0 ≤ c ∧ c ≤ 7) by omega))
            clear hv hk
            (try clear hb)
            (try clear hr)
            (try clear hc)
            (try clear h1)
            (try clear h2)
            (try clear h3)
            (try clear h9)
            go_enter Try.func46, Try.ntmps46
            go_wp2_with fail
            refine (US.out _).mono ?_
            rintro e w' ⟨rfl, rfl⟩
            go_wp2_with fail
            refine (specIn_is k 1 9 _ KK.out _).mono ?_
            rintro e w' ⟨rfl, rfl⟩
            go_wp2_with fail
            refine (specIn_is b 0 7 _ KB.out _).mono ?_
            rintro e w' ⟨rfl, rfl⟩
            go_wp2_with fail
            refine (specIn_is r 0 15 _ KR.out _).mono ?_
            rintro e w' ⟨rfl, rfl⟩
            go_wp2_with fail
            refine (specIn_is c 0 7 _ KC.out _).mono ?_
            rintro e w' ⟨rfl, rfl⟩
            go_wp2_with fail
            go_ret
            exact ⟨ret_b HE.out.symm, HB1.out⟩
          · have HE : Hid (v = false) := by show _ = _; rw [← hv]; exact decide_eq_false fun h => by unfold CmOk at h; omega
            have KK := Lib.hid (decide_eq_true (show (1 ≤ k ∧ k ≤ 9) by omega))
            have KB := Lib.hid (decide_eq_true (show (0 ≤ b ∧ b ≤ 7) by omega))
            have KR := Lib.hid (decide_eq_true (show (0 ≤ r ∧ r ≤ 15) by omega))
            have KC := Lib.hid (decide_eq_false (show ¬ (0 ≤ c ∧ c ≤ 7) by omega))
            clear hv hk
            (try clear hb)
            (try clear hr)
            (try clear hc)
            (try clear h1)
            (try clear h2)
            (try clear h3)
            (try clear h9)
            go_enter Try.func46, Try.ntmps46
            go_wp2_with fail
            refine (US.out _).mono ?_
            rintro e w' ⟨rfl, rfl⟩
            go_wp2_with fail
            refine (specIn_is k 1 9 _ KK.out _).mono ?_
            rintro e w' ⟨rfl, rfl⟩
            go_wp2_with fail
            refine (specIn_is b 0 7 _ KB.out _).mono ?_
            rintro e w' ⟨rfl, rfl⟩
            go_wp2_with fail
            refine (specIn_is r 0 15 _ KR.out _).mono ?_
            rintro e w' ⟨rfl, rfl⟩
            go_wp2_with fail
            refine (specIn_is c 0 7 _ KC.out _).mono ?_
            rintro e w' ⟨rfl, rfl⟩
            go_wp2_with fail
            go_ret
            exact ⟨ret_b HE.out.symm, HB1.out⟩
        · have HE : Hid (v = false) := by show _ = _; rw [← hv]; exact decide_eq_false fun h => by unfold CmOk at h; omega
          have KK := Lib.hid (decide_eq_true (show (1 ≤ k ∧ k ≤ 9) by omega))
          have KB := Lib.hid (decide_eq_true (show (0 ≤ b ∧ b ≤ 7) by omega))
          have KR := Lib.hid (decide_eq_false (show ¬ (0 ≤ r ∧ r ≤ 15) by omega))
          clear hv hk
          (try clear hb)
          (try clear hr)
          (try clear hc)
          (try clear h1)
          (try clear h2)
          (try clear h3)
          (try clear h9)
          go_enter Try.func46, Try.ntmps46
          go_wp2_with fail
          refine (US.out _).mono ?_
          rintro e w' ⟨rfl, rfl⟩
          go_wp2_with fail
          refine (specIn_is k 1 9 _ KK.out _).mono ?_
          rintro e w' ⟨rfl, rfl⟩
          go_wp2_with fail
          refine (specIn_is b 0 7 _ KB.out _).mono ?_
          rintro e w' ⟨rfl, rfl⟩
          go_wp2_with fail
          refine (specIn_is r 0 15 _ KR.out _).mono ?_
          rintro e w' ⟨rfl, rfl⟩
          go_wp2_with fail
          go_ret
          exact ⟨ret_b HE.out.symm, HB1.out⟩
      · have HE : Hid (v = false) := by show _ = _; rw [← hv]; exact decide_eq_false fun h => by unfold CmOk at h; omega
        have KK := Lib.hid (decide_eq_true (show (1 ≤ k ∧ k ≤ 9) by omega))
        have KB := Lib.hid (decide_eq_false (show ¬ (0 ≤ b ∧ b ≤ 7) by omega))
        clear hv hk
        (try clear hb)
        (try clear hr)
        (try clear hc)
        (try clear h1)
        (try clear h2)
        (try clear h3)
        (try clear h9)
        go_enter Try.func46, Try.ntmps46
        go_wp2_with fail
        refine (US.out _).mono ?_
        rintro e w' ⟨rfl, rfl⟩
        go_wp2_with fail
        refine (specIn_is k 1 9 _ KK.out _).mono ?_
        rintro e w' ⟨rfl, rfl⟩
        go_wp2_with fail
        refine (specIn_is b 0 7 _ KB.out _).mono ?_
        rintro e w' ⟨rfl, rfl⟩
        go_wp2_with fail
        go_ret
        exact ⟨ret_b HE.out.symm, HB1.out⟩
    · have tc : (c != 0) = true := by simp; omega
      have HE : Hid (v = false) := by show _ = _; rw [← hv]; exact decide_eq_false fun h => by unfold CmOk at h; omega
      clear hv hk
      (try clear hb)
      (try clear hr)
      (try clear hc)
      (try clear h1)
      (try clear h2)
      (try clear h3)
      (try clear h9)
      go_enter Try.func46, Try.ntmps46
      go_wp2_with fail
      refine (US.out _).mono ?_
      rintro e w' ⟨rfl, rfl⟩
      go_wp2_with fail
      go_ret
      exact ⟨ret_b HE.out.symm, HB1.out⟩
  · have US := Lib.hid (fun w => specUses_is k true false true (decide_eq_true (by omega)) (decide_eq_false (by omega)) (decide_eq_true (by omega)) w)
    by_cases hr : r = 0
    · have tr : (r != 0) = false := by simp; omega
      by_cases h1 : 0 ≤ b ∧ b ≤ 7
      · by_cases h2 : 0 ≤ r ∧ r ≤ 15
        · by_cases h3 : 0 ≤ c ∧ c ≤ 7
          · have HE : Hid (v = true) := by show _ = _; rw [← hv]; exact decide_eq_true (by unfold CmOk; omega)
            have KK := Lib.hid (decide_eq_true (show (1 ≤ k ∧ k ≤ 9) by omega))
            have KB := Lib.hid (decide_eq_true (show (0 ≤ b ∧ b ≤ 7) by omega))
            have KR := Lib.hid (decide_eq_true (show (0 ≤ r ∧ r ≤ 15) by omega))
            have KC := Lib.hid (decide_eq_true (show (0 ≤ c ∧ c ≤ 7) by omega))
            clear hv hk
            (try clear hb)
            (try clear hr)
            (try clear hc)
            (try clear h1)
            (try clear h2)
            (try clear h3)
            (try clear h9)
            go_enter Try.func46, Try.ntmps46
            go_wp2_with fail
            refine (US.out _).mono ?_
            rintro e w' ⟨rfl, rfl⟩
            go_wp2_with fail
            refine (specIn_is k 1 9 _ KK.out _).mono ?_
            rintro e w' ⟨rfl, rfl⟩
            go_wp2_with fail
            refine (specIn_is b 0 7 _ KB.out _).mono ?_
            rintro e w' ⟨rfl, rfl⟩
            go_wp2_with fail
            refine (specIn_is r 0 15 _ KR.out _).mono ?_
            rintro e w' ⟨rfl, rfl⟩
            go_wp2_with fail
            refine (specIn_is c 0 7 _ KC.out _).mono ?_
            rintro e w' ⟨rfl, rfl⟩
            go_wp2_with fail
            go_ret
            exact ⟨ret_b HE.out.symm, HB1.out⟩
          · have HE : Hid (v = false) := by show _ = _; rw [← hv]; exact decide_eq_false fun h => by unfold CmOk at h; omega
            have KK := Lib.hid (decide_eq_true (show (1 ≤ k ∧ k ≤ 9) by omega))
            have KB := Lib.hid (decide_eq_true (show (0 ≤ b ∧ b ≤ 7) by omega))
            have KR := Lib.hid (decide_eq_true (show (0 ≤ r ∧ r ≤ 15) by omega))
            have KC := Lib.hid (decide_eq_false (show ¬ (0 ≤ c ∧ c ≤ 7) by omega))
            clear hv hk
            (try clear hb)
            (try clear hr)
            (try clear hc)
            (try clear h1)
            (try clear h2)
            (try clear h3)
            (try clear h9)
            go_enter Try.func46, Try.ntmps46
            go_wp2_with fail
            refine (US.out _).mono ?_
            rintro e w' ⟨rfl, rfl⟩
            go_wp2_with fail
            refine (specIn_is k 1 9 _ KK.out _).mono ?_
            rintro e w' ⟨rfl, rfl⟩
            go_wp2_with fail
            refine (specIn_is b 0 7 _ KB.out _).mono ?_
            rintro e w' ⟨rfl, rfl⟩
            go_wp2_with fail
            refine (specIn_is r 0 15 _ KR.out _).mono ?_
            rintro e w' ⟨rfl, rfl⟩
            go_wp2_with fail
            refine (specIn_is c 0 7 _ KC.out _).mono ?_
            rintro e w' ⟨rfl, rfl⟩
            go_wp2_with fail
            go_ret
            exact ⟨ret_b HE.out.symm, HB1.out⟩
        · have HE : Hid (v = false) := by show _ = _; rw [← hv]; exact decide_eq_false fun h => by unfold CmOk at h; omega
          have KK := Lib.hid (decide_eq_true (show (1 ≤ k ∧ k ≤ 9) by omega))
          have KB := Lib.hid (decide_eq_true (show (0 ≤ b ∧ b ≤ 7) by omega))
          have KR := Lib.hid (decide_eq_false (show ¬ (0 ≤ r ∧ r ≤ 15) by omega))
          clear hv hk
          (try clear hb)
          (try clear hr)
          (try clear hc)
          (try clear h1)
          (try clear h2)
          (try clear h3)
          (try clear h9)
          go_enter Try.func46, Try.ntmps46
          go_wp2_with fail
          refine (US.out _).mono ?_
          rintro e w' ⟨rfl, rfl⟩
          go_wp2_with fail
          refine (specIn_is k 1 9 _ KK.out _).mono ?_
          rintro e w' ⟨rfl, rfl⟩
          go_wp2_with fail
          refine (specIn_is b 0 7 _ KB.out _).mono ?_
          rintro e w' ⟨rfl, rfl⟩
          go_wp2_with fail
          refine (specIn_is r 0 15 _ KR.out _).mono ?_
          rintro e w' ⟨rfl, rfl⟩
          go_wp2_with fail
          go_ret
          exact ⟨ret_b HE.out.symm, HB1.out⟩
      · have HE : Hid (v = false) := by show _ = _; rw [← hv]; exact decide_eq_false fun h => by unfold CmOk at h; omega
        have KK := Lib.hid (decide_eq_true (show (1 ≤ k ∧ k ≤ 9) by omega))
        have KB := Lib.hid (decide_eq_false (show ¬ (0 ≤ b ∧ b ≤ 7) by omega))
        clear hv hk
        (try clear hb)
        (try clear hr)
        (try clear hc)
        (try clear h1)
        (try clear h2)
        (try clear h3)
        (try clear h9)
        go_enter Try.func46, Try.ntmps46
        go_wp2_with fail
        refine (US.out _).mono ?_
        rintro e w' ⟨rfl, rfl⟩
        go_wp2_with fail
        refine (specIn_is k 1 9 _ KK.out _).mono ?_
        rintro e w' ⟨rfl, rfl⟩
        go_wp2_with fail
        refine (specIn_is b 0 7 _ KB.out _).mono ?_
        rintro e w' ⟨rfl, rfl⟩
        go_wp2_with fail
        go_ret
        exact ⟨ret_b HE.out.symm, HB1.out⟩
    · have tr : (r != 0) = true := by simp; omega
      have HE : Hid (v = false) := by show _ = _; rw [← hv]; exact decide_eq_false fun h => by unfold CmOk at h; omega
      clear hv hk
      (try clear hb)
      (try clear hr)
      (try clear hc)
      (try clear h1)
      (try clear h2)
      (try clear h3)
      (try clear h9)
      go_enter Try.func46, Try.ntmps46
      go_wp2_with fail
      refine (US.out _).mono ?_
      rintro e w' ⟨rfl, rfl⟩
      go_wp2_with fail
      go_ret
      exact ⟨ret_b HE.out.symm, HB1.out⟩
  · have US := Lib.hid (fun w => specUses_is k true false false (decide_eq_true (by omega)) (decide_eq_false (by omega)) (decide_eq_false (by omega)) w)
    by_cases hr : r = 0
    · have tr : (r != 0) = false := by simp; omega
      by_cases hc : c = 0
      · have tc : (c != 0) = false := by simp; omega
        by_cases h1 : 0 ≤ b ∧ b ≤ 7
        · by_cases h2 : 0 ≤ r ∧ r ≤ 15
          · by_cases h3 : 0 ≤ c ∧ c ≤ 7
            · have HE : Hid (v = true) := by show _ = _; rw [← hv]; exact decide_eq_true (by unfold CmOk; omega)
              have KK := Lib.hid (decide_eq_true (show (1 ≤ k ∧ k ≤ 9) by omega))
              have KB := Lib.hid (decide_eq_true (show (0 ≤ b ∧ b ≤ 7) by omega))
              have KR := Lib.hid (decide_eq_true (show (0 ≤ r ∧ r ≤ 15) by omega))
              have KC := Lib.hid (decide_eq_true (show (0 ≤ c ∧ c ≤ 7) by omega))
              clear hv hk
              (try clear hb)
              (try clear hr)
              (try clear hc)
              (try clear h1)
              (try clear h2)
              (try clear h3)
              (try clear h9)
              go_enter Try.func46, Try.ntmps46
              go_wp2_with fail
              refine (US.out _).mono ?_
              rintro e w' ⟨rfl, rfl⟩
              go_wp2_with fail
              refine (specIn_is k 1 9 _ KK.out _).mono ?_
              rintro e w' ⟨rfl, rfl⟩
              go_wp2_with fail
              refine (specIn_is b 0 7 _ KB.out _).mono ?_
              rintro e w' ⟨rfl, rfl⟩
              go_wp2_with fail
              refine (specIn_is r 0 15 _ KR.out _).mono ?_
              rintro e w' ⟨rfl, rfl⟩
              go_wp2_with fail
              refine (specIn_is c 0 7 _ KC.out _).mono ?_
              rintro e w' ⟨rfl, rfl⟩
              go_wp2_with fail
              go_ret
              exact ⟨ret_b HE.out.symm, HB1.out⟩
            · have HE : Hid (v = false) := by show _ = _; rw [← hv]; exact decide_eq_false fun h => by unfold CmOk at h; omega
              have KK := Lib.hid (decide_eq_true (show (1 ≤ k ∧ k ≤ 9) by omega))
              have KB := Lib.hid (decide_eq_true (show (0 ≤ b ∧ b ≤ 7) by omega))
              have KR := Lib.hid (decide_eq_true (show (0 ≤ r ∧ r ≤ 15) by omega))
              have KC := Lib.hid (decide_eq_false (show ¬ (0 ≤ c ∧ c ≤ 7) by omega))
              clear hv hk
              (try clear hb)
              (try clear hr)
              (try clear hc)
              (try clear h1)
              (try clear h2)
              (try clear h3)
              (try clear h9)
              go_enter Try.func46, Try.ntmps46
              go_wp2_with fail
              refine (US.out _).mono ?_
              rintro e w' ⟨rfl, rfl⟩
              go_wp2_with fail
              refine (specIn_is k 1 9 _ KK.out _).mono ?_
              rintro e w' ⟨rfl, rfl⟩
              go_wp2_with fail
              refine (specIn_is b 0 7 _ KB.out _).mono ?_
              rintro e w' ⟨rfl, rfl⟩
              go_wp2_with fail
              refine (specIn_is r 0 15 _ KR.out _).mono ?_
              rintro e w' ⟨rfl, rfl⟩
              go_wp2_with fail
              refine (specIn_is c 0 7 _ KC.out _).mono ?_
              rintro e w' ⟨rfl, rfl⟩
              go_wp2_with fail
              go_ret
              exact ⟨ret_b HE.out.symm, HB1.out⟩
          · have HE : Hid (v = false) := by show _ = _; rw [← hv]; exact decide_eq_false fun h => by unfold CmOk at h; omega
            have KK := Lib.hid (decide_eq_true (show (1 ≤ k ∧ k ≤ 9) by omega))
            have KB := Lib.hid (decide_eq_true (show (0 ≤ b ∧ b ≤ 7) by omega))
            have KR := Lib.hid (decide_eq_false (show ¬ (0 ≤ r ∧ r ≤ 15) by omega))
            clear hv hk
            (try clear hb)
            (try clear hr)
            (try clear hc)
            (try clear h1)
            (try clear h2)
            (try clear h3)
            (try clear h9)
            go_enter Try.func46, Try.ntmps46
            go_wp2_with fail
            refine (US.out _).mono ?_
            rintro e w' ⟨rfl, rfl⟩
            go_wp2_with fail
            refine (specIn_is k 1 9 _ KK.out _).mono ?_
            rintro e w' ⟨rfl, rfl⟩
            go_wp2_with fail
            refine (specIn_is b 0 7 _ KB.out _).mono ?_
            rintro e w' ⟨rfl, rfl⟩
            go_wp2_with fail
            refine (specIn_is r 0 15 _ KR.out _).mono ?_
            rintro e w' ⟨rfl, rfl⟩
            go_wp2_with fail
            go_ret
            exact ⟨ret_b HE.out.symm, HB1.out⟩
        · have HE : Hid (v = false) := by show _ = _; rw [← hv]; exact decide_eq_false fun h => by unfold CmOk at h; omega
          have KK := Lib.hid (decide_eq_true (show (1 ≤ k ∧ k ≤ 9) by omega))
          have KB := Lib.hid (decide_eq_false (show ¬ (0 ≤ b ∧ b ≤ 7) by omega))
          clear hv hk
          (try clear hb)
          (try clear hr)
          (try clear hc)
          (try clear h1)
          (try clear h2)
          (try clear h3)
          (try clear h9)
          go_enter Try.func46, Try.ntmps46
          go_wp2_with fail
          refine (US.out _).mono ?_
          rintro e w' ⟨rfl, rfl⟩
          go_wp2_with fail
          refine (specIn_is k 1 9 _ KK.out _).mono ?_
          rintro e w' ⟨rfl, rfl⟩
          go_wp2_with fail
          refine (specIn_is b 0 7 _ KB.out _).mono ?_
          rintro e w' ⟨rfl, rfl⟩
          go_wp2_with fail
          go_ret
          exact ⟨ret_b HE.out.symm, HB1.out⟩
      · have tc : (c != 0) = true := by simp; omega
        have HE : Hid (v = false) := by show _ = _; rw [← hv]; exact decide_eq_false fun h => by unfold CmOk at h; omega
        clear hv hk
        (try clear hb)
        (try clear hr)
        (try clear hc)
        (try clear h1)
        (try clear h2)
        (try clear h3)
        (try clear h9)
        go_enter Try.func46, Try.ntmps46
        go_wp2_with fail
        refine (US.out _).mono ?_
        rintro e w' ⟨rfl, rfl⟩
        go_wp2_with fail
        go_ret
        exact ⟨ret_b HE.out.symm, HB1.out⟩
    · have tr : (r != 0) = true := by simp; omega
      have HE : Hid (v = false) := by show _ = _; rw [← hv]; exact decide_eq_false fun h => by unfold CmOk at h; omega
      clear hv hk
      (try clear hb)
      (try clear hr)
      (try clear hc)
      (try clear h1)
      (try clear h2)
      (try clear h3)
      (try clear h9)
      go_enter Try.func46, Try.ntmps46
      go_wp2_with fail
      refine (US.out _).mono ?_
      rintro e w' ⟨rfl, rfl⟩
      go_wp2_with fail
      go_ret
      exact ⟨ret_b HE.out.symm, HB1.out⟩
  · have US := Lib.hid (fun w => specUses_is k false false false (decide_eq_false (by omega)) (decide_eq_false (by omega)) (decide_eq_false (by omega)) w)
    by_cases hb : b = 0
    · have tb : (b != 0) = false := by simp; omega
      by_cases hr : r = 0
      · have tr : (r != 0) = false := by simp; omega
        by_cases hc : c = 0
        · have tc : (c != 0) = false := by simp; omega
          by_cases h9 : 1 ≤ k ∧ k ≤ 9
          · have HE : Hid (v = true) := by show _ = _; rw [← hv]; exact decide_eq_true (by unfold CmOk; omega)
            have KK := Lib.hid (decide_eq_true (show (1 ≤ k ∧ k ≤ 9) by omega))
            have KB := Lib.hid (decide_eq_true (show (0 ≤ b ∧ b ≤ 7) by omega))
            have KR := Lib.hid (decide_eq_true (show (0 ≤ r ∧ r ≤ 15) by omega))
            have KC := Lib.hid (decide_eq_true (show (0 ≤ c ∧ c ≤ 7) by omega))
            clear hv hk
            (try clear hb)
            (try clear hr)
            (try clear hc)
            (try clear h1)
            (try clear h2)
            (try clear h3)
            (try clear h9)
            go_enter Try.func46, Try.ntmps46
            go_wp2_with fail
            refine (US.out _).mono ?_
            rintro e w' ⟨rfl, rfl⟩
            go_wp2_with fail
            refine (specIn_is k 1 9 _ KK.out _).mono ?_
            rintro e w' ⟨rfl, rfl⟩
            go_wp2_with fail
            refine (specIn_is b 0 7 _ KB.out _).mono ?_
            rintro e w' ⟨rfl, rfl⟩
            go_wp2_with fail
            refine (specIn_is r 0 15 _ KR.out _).mono ?_
            rintro e w' ⟨rfl, rfl⟩
            go_wp2_with fail
            refine (specIn_is c 0 7 _ KC.out _).mono ?_
            rintro e w' ⟨rfl, rfl⟩
            go_wp2_with fail
            go_ret
            exact ⟨ret_b HE.out.symm, HB1.out⟩
          · have HE : Hid (v = false) := by show _ = _; rw [← hv]; exact decide_eq_false fun h => by unfold CmOk at h; omega
            have KK := Lib.hid (decide_eq_false (show ¬ (1 ≤ k ∧ k ≤ 9) by omega))
            clear hv hk
            (try clear hb)
            (try clear hr)
            (try clear hc)
            (try clear h1)
            (try clear h2)
            (try clear h3)
            (try clear h9)
            go_enter Try.func46, Try.ntmps46
            go_wp2_with fail
            refine (US.out _).mono ?_
            rintro e w' ⟨rfl, rfl⟩
            go_wp2_with fail
            refine (specIn_is k 1 9 _ KK.out _).mono ?_
            rintro e w' ⟨rfl, rfl⟩
            go_wp2_with fail
            go_ret
            exact ⟨ret_b HE.out.symm, HB1.out⟩
        · have tc : (c != 0) = true := by simp; omega
          have HE : Hid (v = false) := by show _ = _; rw [← hv]; exact decide_eq_false fun h => by unfold CmOk at h; omega
          clear hv hk
          (try clear hb)
          (try clear hr)
          (try clear hc)
          (try clear h1)
          (try clear h2)
          (try clear h3)
          (try clear h9)
          go_enter Try.func46, Try.ntmps46
          go_wp2_with fail
          refine (US.out _).mono ?_
          rintro e w' ⟨rfl, rfl⟩
          go_wp2_with fail
          go_ret
          exact ⟨ret_b HE.out.symm, HB1.out⟩
      · have tr : (r != 0) = true := by simp; omega
        have HE : Hid (v = false) := by show _ = _; rw [← hv]; exact decide_eq_false fun h => by unfold CmOk at h; omega
        clear hv hk
        (try clear hb)
        (try clear hr)
        (try clear hc)
        (try clear h1)
        (try clear h2)
        (try clear h3)
        (try clear h9)
        go_enter Try.func46, Try.ntmps46
        go_wp2_with fail
        refine (US.out _).mono ?_
        rintro e w' ⟨rfl, rfl⟩
        go_wp2_with fail
        go_ret
        exact ⟨ret_b HE.out.symm, HB1.out⟩
    · have tb : (b != 0) = true := by simp; omega
      have HE : Hid (v = false) := by show _ = _; rw [← hv]; exact decide_eq_false fun h => by unfold CmOk at h; omega
      clear hv hk
      (try clear hb)
      (try clear hr)
      (try clear hc)
      (try clear h1)
      (try clear h2)
      (try clear h3)
      (try clear h9)
      go_enter Try.func46, Try.ntmps46
      go_wp2_with fail
      refine (US.out _).mono ?_
      rintro e w' ⟨rfl, rfl⟩
      go_wp2_with fail
      go_ret
      exact ⟨ret_b HE.out.symm, HB1.out⟩

end Go.Proofs.Ytihhcnckoeaihaa
