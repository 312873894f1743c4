/-
  Texts of one proof, merged: CmdW, CmdW2, BnkM, BnkN, TrcM, TrcR, BnkR.
-/
import Derived.Test.YthplhjdfajhmpaaQR2
import Derived.Test.YthplhjdfajhmpaaQR6
import Derived.Test.YthplhjdfajhmpaaQR8
import Derived.Test.YthplhjdfajhmpaaQR11
import Derived.Test.YthplhjdfajhmpaaQR12
namespace Go.Proofs.Ythplhjdfajhmpaa
open Go.RowKit

set_option linter.unusedVariables false

theorem specUses_is (k : Int) (B R K : Bool) (hB : decide (1 ≤ k ∧ k ≤ 5) = B) (hR : decide (k = 1) = R) (hK : decide (k = 2 ∨ k = 3) = K) (w : World) :
    Calls Try.prog 111 #[.int .i64 k] w (Says (.tuple #[.bool B, .bool R, .bool K]) w) := by
  have HB := Lib.hid hB
  have tR : (k == 1) = R := by rw [← hR]; by_cases h : k = 1 <;> simp [h]
  clear hB hR
  by_cases h2 : k = 2
  · have tk : (k == 2) = true := by simpa using h2
    obtain rfl : K = true := by rw [← hK]; exact decide_eq_true (.inl h2)
    clear hK h2
    go_enter Try.func111, Try.ntmps111
    go_wp2_with fail
    refine (specIn_is _ _ _ _ HB.out _).mono ?_
    rintro e w' ⟨rfl, rfl⟩
    go_wp2
    go_ret3
    exact ⟨rfl, rfl⟩
  · have tk : (k == 2) = false := by simpa using h2
    have t3 : (k == 3) = K := by
      rw [← hK]
      by_cases h : k = 3
      · subst h; rfl
      · simp [h, h2]
    clear hK h2
    go_enter Try.func111, Try.ntmps111
    go_wp2_with fail
    refine (specIn_is _ _ _ _ HB.out _).mono ?_
    rintro e w' ⟨rfl, rfl⟩
    go_wp2
    go_ret3
    exact ⟨rfl, rfl⟩

set_option maxHeartbeats 4000000 in
theorem specForm_is (k b r c : Int) (v : Bool) (hv : decide (CmOk k b r c) = v) (w : World) :
    Calls Try.prog 86 #[.agg #[.int .i64 k, .int .i64 b, .int .i64 r, .int .i64 c]] w (Gives (.bool v) w) := by
  obtain ⟨w1, hw1⟩ : ∃ u, w.alloc (.cells #[.int .i64 k, .int .i64 b, .int .i64 r, .int .i64 c] 39) = u := ⟨_, rfl⟩
  have HB1 : Hid (Below w.heap.size w w1) := by subst hw1; exact (Below.refl _ _).alloc (Nat.le_refl _) _
  have p1 : w1.heap[w.heap.size]? = some (.cells #[.int .i64 k, .int .i64 b, .int .i64 r, .int .i64 c] 39) := by subst hw1; exact heap_alloc_new _ _
  obtain ⟨c0, c1, c2, c3⟩ := cells4 p1
  have cls : k = 1 ∨ (k = 2 ∨ k = 3) ∨ (k = 4 ∨ k = 5) ∨ ¬ (1 ≤ k ∧ k ≤ 5) := by omega
  rcases cls with hk | hk | hk | hk
  · have US := Lib.hid (fun w => specUses_is k true true false (decide_eq_true (by omega)) (decide_eq_true (by omega)) (decide_eq_false (by omega)) w)
    by_cases hc : c = 0
    · have tc : (c != 0) = false := by simp; omega
      by_cases h1 : 0 ≤ b ∧ b ≤ 7
      · by_cases h2 : 0 ≤ r ∧ r ≤ 15
        · by_cases h3 : 0 ≤ c ∧ c ≤ 7
          · have HE : Hid (v = true) := by show _ = _; rw [← hv]; exact decide_eq_true (by unfold CmOk; omega)
            have KK := Lib.hid (decide_eq_true (show (1 ≤ k ∧ k ≤ 9) by omega))
            have KB := Lib.hid (decide_eq_true (show (0 ≤ b ∧ b ≤ 7) by omega))
            have KR := Lib.hid (decide_eq_true (show (0 ≤ r ∧ r ≤ 15) by omega))
            have KC := Lib.hid (decide_eq_true (show (0 ≤ c ∧ c ≤ 7) by omega))
            clear hv hk
            (try clear hb)
            (try clear hr)
            (try clear hc)
            (try clear h1)
            (try clear h2)
            (try clear h3)
            (try clear h9)
            go_enter Try.func86, Try.ntmps86
            go_wp2_with fail
            refine (US.out _).mono ?_
            rintro e w' ⟨rfl, rfl⟩
            go_wp2_with fail
            refine (specIn_is k 1 9 _ KK.out _).mono ?_
            rintro e w' ⟨rfl, rfl⟩
            go_wp2_with fail
            refine (specIn_is b 0 7 _ KB.out _).mono ?_
            rintro e w' ⟨rfl, rfl⟩
            go_wp2_with fail
            refine (specIn_is r 0 15 _ KR.out _).mono ?_
            rintro e w' ⟨rfl, rfl⟩
            go_wp2_with fail
            refine (specIn_is c 0 7 _ KC.out _).mono ?_
            rintro e w' ⟨rfl, rfl⟩
            go_wp2_with fail
            go_ret
            exact ⟨ret_b HE.out.symm, HB1.out⟩
          · have HE : Hid (v = false) := by show _ = _; rw [← hv]; exact decide_eq_false fun h => by unfold CmOk at h; omega
            have KK := Lib.hid (decide_eq_true (show (1 ≤ k ∧ k ≤ 9) by omega))
            have KB := Lib.hid (decide_eq_true (show (0 ≤ b ∧ b ≤ 7) by omega))
            have KR := Lib.hid (decide_eq_true (show (0 ≤ r ∧ r ≤ 15) by omega))
            have KC := Lib.hid (decide_eq_false (show ¬ (0 ≤ c ∧ c ≤ 7) by omega))
            clear hv hk
            (try clear hb)
            (try clear hr)
            (try clear hc)
            (try clear h1)
            (try clear h2)
            (try clear h3)
            (try clear h9)
            go_enter Try.func86, Try.ntmps86
            go_wp2_with fail
            refine (US.out _).mono ?_
            rintro e w' ⟨rfl, rfl⟩
            go_wp2_with fail
            refine (specIn_is k 1 9 _ KK.out _).mono ?_
            rintro e w' ⟨rfl, rfl⟩
            go_wp2_with fail
            refine (specIn_is b 0 7 _ KB.out _).mono ?_
            rintro e w' ⟨rfl, rfl⟩
            go_wp2_with fail
            refine (specIn_is r 0 15 _ KR.out _).mono ?_
            rintro e w' ⟨rfl, rfl⟩
            go_wp2_with fail
            refine (specIn_is c 0 7 _ KC.out _).mono ?_
            rintro e w' ⟨rfl, rfl⟩
            go_wp2_with fail
            go_ret
            exact ⟨ret_b HE.out.symm, HB1.out⟩
        · have HE : Hid (v = false) := by show _ = _; rw [← hv]; exact decide_eq_false fun h => by unfold CmOk at h; omega
          have KK := Lib.hid (decide_eq_true (show (1 ≤ k ∧ k ≤ 9) by omega))
          have KB := Lib.hid (decide_eq_true (show (0 ≤ b ∧ b ≤ 7) by omega))
          have KR := Lib.hid (decide_eq_false (show ¬ (0 ≤ r ∧ r ≤ 15) by omega))
          clear hv hk
          (try clear hb)
          (try clear hr)
          (try clear hc)
          (try clear h1)
          (try clear h2)
          (try clear h3)
          (try clear h9)
          go_enter Try.func86, Try.ntmps86
          go_wp2_with fail
          refine (US.out _).mono ?_
          rintro e w' ⟨rfl, rfl⟩
          go_wp2_with fail
          refine (specIn_is k 1 9 _ KK.out _).mono ?_
          rintro e w' ⟨rfl, rfl⟩
          go_wp2_with fail
          refine (specIn_is b 0 7 _ KB.out _).mono ?_
          rintro e w' ⟨rfl, rfl⟩
          go_wp2_with fail
          refine (specIn_is r 0 15 _ KR.out _).mono ?_
          rintro e w' ⟨rfl, rfl⟩
          go_wp2_with fail
          go_ret
          exact ⟨ret_b HE.out.symm, HB1.out⟩
      · have HE : Hid (v = false) := by show _ = _; rw [← hv]; exact decide_eq_false fun h => by unfold CmOk at h; omega
        have KK := Lib.hid (decide_eq_true (show (1 ≤ k ∧ k ≤ 9) by omega))
        have KB := Lib.hid (decide_eq_false (show ¬ (0 ≤ b ∧ b ≤ 7) by omega))
        clear hv hk
        (try clear hb)
        (try clear hr)
        (try clear hc)
        (try clear h1)
        (try clear h2)
        (try clear h3)
        (try clear h9)
        go_enter Try.func86, Try.ntmps86
        go_wp2_with fail
        refine (US.out _).mono ?_
        rintro e w' ⟨rfl, rfl⟩
        go_wp2_with fail
        refine (specIn_is k 1 9 _ KK.out _).mono ?_
        rintro e w' ⟨rfl, rfl⟩
        go_wp2_with fail
        refine (specIn_is b 0 7 _ KB.out _).mono ?_
        rintro e w' ⟨rfl, rfl⟩
        go_wp2_with fail
        go_ret
        exact ⟨ret_b HE.out.symm, HB1.out⟩
    · have tc : (c != 0) = true := by simp; omega
      have HE : Hid (v = false) := by show _ = _; rw [← hv]; exact decide_eq_false fun h => by unfold CmOk at h; omega
      clear hv hk
      (try clear hb)
      (try clear hr)
      (try clear hc)
      (try clear h1)
      (try clear h2)
      (try clear h3)
      (try clear h9)
      go_enter Try.func86, Try.ntmps86
      go_wp2_with fail
      refine (US.out _).mono ?_
      rintro e w' ⟨rfl, rfl⟩
      go_wp2_with fail
      go_ret
      exact ⟨ret_b HE.out.symm, HB1.out⟩
  · have US := Lib.hid (fun w => specUses_is k true false true (decide_eq_true (by omega)) (decide_eq_false (by omega)) (decide_eq_true (by omega)) w)
    by_cases hr : r = 0
    · have tr : (r != 0) = false := by simp; omega
      by_cases h1 : 0 ≤ b ∧ b ≤ 7
      · by_cases h2 : 0 ≤ r ∧ r ≤ 15
        · by_cases h3 : 0 ≤ c ∧ c ≤ 7
          · have HE : Hid (v = true) := by show _ = _; rw [← hv]; exact decide_eq_true (by unfold CmOk; omega)
            have KK := Lib.hid (decide_eq_true (show (1 ≤ k ∧ k ≤ 9) by omega))
            have KB := Lib.hid (decide_eq_true (show (0 ≤ b ∧ b ≤ 7) by omega))
            have KR := Lib.hid (decide_eq_true (show (0 ≤ r ∧ r ≤ 15) by omega))
            have KC := Lib.hid (decide_eq_true (show (0 ≤ c ∧ c ≤ 7) by omega))
            clear hv hk
            (try clear hb)
            (try clear hr)
            (try clear hc)
            (try clear h1)
            (try clear h2)
            (try clear h3)
            (try clear h9)
            go_enter Try.func86, Try.ntmps86
            go_wp2_with fail
            refine (US.out _).mono ?_
            rintro e w' ⟨rfl, rfl⟩
            go_wp2_with fail
            refine (specIn_is k 1 9 _ KK.out _).mono ?_
            rintro e w' ⟨rfl, rfl⟩
            go_wp2_with fail
            refine (specIn_is b 0 7 _ KB.out _).mono ?_
            rintro e w' ⟨rfl, rfl⟩
            go_wp2_with fail
            refine (specIn_is r 0 15 _ KR.out _).mono ?_
            rintro e w' ⟨rfl, rfl⟩
            go_wp2_with fail
            refine (specIn_is c 0 7 _ KC.out _).mono ?_
            rintro e w' ⟨rfl, rfl⟩
            go_wp2_with fail
            go_ret
            exact ⟨ret_b HE.out.symm, HB1.out⟩
          · have HE : Hid (v = false) := by show _ = _; rw [← hv]; exact decide_eq_false fun h => by unfold CmOk at h; omega
            have KK := Lib.hid (decide_eq_true (show (1 ≤ k ∧ k ≤ 9) by omega))
            have KB := Lib.hid (decide_eq_true (show (0 ≤ b ∧ b ≤ 7) by omega))
            have KR := Lib.hid (decide_eq_true (show (0 ≤ r ∧ r ≤ 15) by omega))
            have KC := Lib.hid (decide_eq_false (show ¬ (0 ≤ c ∧ c ≤ 7) by omega))
            clear hv hk
            (try clear hb)
            (try clear hr)
            (try clear hc)
            (try clear h1)
            (try clear h2)
            (try clear h3)
            (try clear h9)
            go_enter Try.func86, Try.ntmps86
            go_wp2_with fail
            refine (US.out _).mono ?_
            rintro e w' ⟨rfl, rfl⟩
            go_wp2_with fail
            refine (specIn_is k 1 9 _ KK.out _).mono ?_
            rintro e w' ⟨rfl, rfl⟩
            go_wp2_with fail
            refine (specIn_is b 0 7 _ KB.out _).mono ?_
            rintro e w' ⟨rfl, rfl⟩
            go_wp2_with fail
            refine (specIn_is r 0 15 _ KR.out _).mono ?_
            rintro e w' ⟨rfl, rfl⟩
            go_wp2_with fail
            refine (specIn_is c 0 7 _ KC.out _).mono ?_
            rintro e w' ⟨rfl, rfl⟩
            go_wp2_with fail
            go_ret
            exact ⟨ret_b HE.out.symm, HB1.out⟩
        · have HE : Hid (v = false) := by show _ = _; rw [← hv]; exact decide_eq_false fun h => by unfold CmOk at h; omega
          have KK := Lib.hid (decide_eq_true (show (1 ≤ k ∧ k ≤ 9) by omega))
          have KB := Lib.hid (decide_eq_true (show (0 ≤ b ∧ b ≤ 7) by omega))
          have KR := Lib.hid (decide_eq_false (show ¬ (0 ≤ r ∧ r ≤ 15) by omega))
          clear hv hk
          (try clear hb)
          (try clear hr)
          (try clear hc)
          (try clear h1)
          (try clear h2)
          (try clear h3)
          (try clear h9)
          go_enter Try.func86, Try.ntmps86
          go_wp2_with fail
          refine (US.out _).mono ?_
          rintro e w' ⟨rfl, rfl⟩
          go_wp2_with fail
          refine (specIn_is k 1 9 _ KK.out _).mono ?_
          rintro e w' ⟨rfl, rfl⟩
          go_wp2_with fail
          refine (specIn_is b 0 7 _ KB.out _).mono ?_
          rintro e w' ⟨rfl, rfl⟩
          go_wp2_with fail
          refine (specIn_is r 0 15 _ KR.out _).mono ?_
          rintro e w' ⟨rfl, rfl⟩
          go_wp2_with fail
          go_ret
          exact ⟨ret_b HE.out.symm, HB1.out⟩
      · have HE : Hid (v = false) := by show _ = _; rw [← hv]; exact decide_eq_false fun h => by unfold CmOk at h; omega
        have KK := Lib.hid (decide_eq_true (show (1 ≤ k ∧ k ≤ 9) by omega))
        have KB := Lib.hid (decide_eq_false (show ¬ (0 ≤ b ∧ b ≤ 7) by omega))
        clear hv hk
        (try clear hb)
        (try clear hr)
        (try clear hc)
        (try clear h1)
        (try clear h2)
        (try clear h3)
        (try clear h9)
        go_enter Try.func86, Try.ntmps86
        go_wp2_with fail
        refine (US.out _).mono ?_
        rintro e w' ⟨rfl, rfl⟩
        go_wp2_with fail
        refine (specIn_is k 1 9 _ KK.out _).mono ?_
        rintro e w' ⟨rfl, rfl⟩
        go_wp2_with fail
        refine (specIn_is b 0 7 _ KB.out _).mono ?_
        rintro e w' ⟨rfl, rfl⟩
        go_wp2_with fail
        go_ret
        exact ⟨ret_b HE.out.symm, HB1.out⟩
    · have tr : (r != 0) = true := by simp; omega
      have HE : Hid (v = false) := by show _ = _; rw [← hv]; exact decide_eq_false fun h => by unfold CmOk at h; omega
      clear hv hk
      (try clear hb)
      (try clear hr)
      (try clear hc)
      (try clear h1)
      (try clear h2)
      (try clear h3)
      (try clear h9)
      go_enter Try.func86, Try.ntmps86
      go_wp2_with fail
      refine (US.out _).mono ?_
      rintro e w' ⟨rfl, rfl⟩
      go_wp2_with fail
      go_ret
      exact ⟨ret_b HE.out.symm, HB1.out⟩
  · have US := Lib.hid (fun w => specUses_is k true false false (decide_eq_true (by omega)) (decide_eq_false (by omega)) (decide_eq_false (by omega)) w)
    by_cases hr : r = 0
    · have tr : (r != 0) = false := by simp; omega
      by_cases hc : c = 0
      · have tc : (c != 0) = false := by simp; omega
        by_cases h1 : 0 ≤ b ∧ b ≤ 7
        · by_cases h2 : 0 ≤ r ∧ r ≤ 15
          · by_cases h3 : 0 ≤ c ∧ c ≤ 7
            · have HE : Hid (v = true) := by show _ = _; rw [← hv]; exact decide_eq_true (by unfold CmOk; omega)
              have KK := Lib.hid (decide_eq_true (show (1 ≤ k ∧ k ≤ 9) by omega))
              have KB := Lib.hid (decide_eq_true (show (0 ≤ b ∧ b ≤ 7) by omega))
              have KR := Lib.hid (decide_eq_true (show (0 ≤ r ∧ r ≤ 15) by omega))
              have KC := Lib.hid (decide_eq_true (show (0 ≤ c ∧ c ≤ 7) by omega))
              clear hv hk
              (try clear hb)
              (try clear hr)
              (try clear hc)
              (try clear h1)
              (try clear h2)
              (try clear h3)
              (try clear h9)
              go_enter Try.func86, Try.ntmps86
              go_wp2_with fail
              refine (US.out _).mono ?_
              rintro e w' ⟨rfl, rfl⟩
              go_wp2_with fail
              refine (specIn_is k 1 9 _ KK.out _).mono ?_
              rintro e w' ⟨rfl, rfl⟩
              go_wp2_with fail
              refine (specIn_is b 0 7 _ KB.out _).mono ?_
              rintro e w' ⟨rfl, rfl⟩
              go_wp2_with fail
              refine (specIn_is r 0 15 _ KR.out _).mono ?_
              rintro e w' ⟨rfl, rfl⟩
              go_wp2_with fail
              refine (specIn_is c 0 7 _ KC.out _).mono ?_
              rintro e w' ⟨rfl, rfl⟩
              go_wp2_with fail
              go_ret
              exact ⟨ret_b HE.out.symm, HB1.out⟩
            · have HE : Hid (v = false) := by show _ = _; rw [← hv]; exact decide_eq_false fun h => by unfold CmOk at h; omega
              have KK := Lib.hid (decide_eq_true (show (1 ≤ k ∧ k ≤ 9) by omega))
              have KB := Lib.hid (decide_eq_true (show (0 ≤ b ∧ b ≤ 7) by omega))
              have KR := Lib.hid (decide_eq_true (show (0 ≤ r ∧ r ≤ 15) by omega))
              have KC := Lib.hid (decide_eq_false (show ¬ (0 ≤ c ∧ c ≤ 7) by omega))
              clear hv hk
              (try clear hb)
              (try clear hr)
              (try clear hc)
              (try clear h1)
              (try clear h2)
              (try clear h3)
              (try clear h9)
              go_enter Try.func86, Try.ntmps86
              go_wp2_with fail
              refine (US.out _).mono ?_
              rintro e w' ⟨rfl, rfl⟩
              go_wp2_with fail
              refine (specIn_is k 1 9 _ KK.out _).mono ?_
              rintro e w' ⟨rfl, rfl⟩
              go_wp2_with fail
              refine (specIn_is b 0 7 _ KB.out _).mono ?_
              rintro e w' ⟨rfl, rfl⟩
              go_wp2_with fail
              refine (specIn_is r 0 15 _ KR.out _).mono ?_
              rintro e w' ⟨rfl, rfl⟩
              go_wp2_with fail
              refine (specIn_is c 0 7 _ KC.out _).mono ?_
              rintro e w' ⟨rfl, rfl⟩
              go_wp2_with fail
              go_ret
              exact ⟨ret_b HE.out.symm, HB1.out⟩
          · have HE : Hid (v = false) := by show _ = _; rw [← hv]; exact decide_eq_false fun h => by unfold CmOk at h; omega
            have KK := Lib.hid (decide_eq_true (show (1 ≤ k ∧ k ≤ 9) by omega))
            have KB := Lib.hid (decide_eq_true (show (0 ≤ b ∧ b ≤ 7) by omega))
            have KR := Lib.hid (decide_eq_false (show ¬ (0 ≤ r ∧ r ≤ 15) by omega))
            clear hv hk
            (try clear hb)
            (try clear hr)
            (try clear hc)
            (try clear h1)
            (try clear h2)
            (try clear h3)
            (try clear h9)
            go_enter Try.func86, Try.ntmps86
            go_wp2_with fail
            refine (US.out _).mono ?_
            rintro e w' ⟨rfl, rfl⟩
            go_wp2_with fail
            refine (specIn_is k 1 9 _ KK.out _).mono ?_
            rintro e w' ⟨rfl, rfl⟩
            go_wp2_with fail
            refine (specIn_is b 0 7 _ KB.out _).mono ?_
            rintro e w' ⟨rfl, rfl⟩
            go_wp2_with fail
            refine (specIn_is r 0 15 _ KR.out _).mono ?_
            rintro e w' ⟨rfl, rfl⟩
            go_wp2_with fail
            go_ret
            exact ⟨ret_b HE.out.symm, HB1.out⟩
        · have HE : Hid (v = false) := by show _ = _; rw [← hv]; exact decide_eq_false fun h => by unfold CmOk at h; omega
          have KK := Lib.hid (decide_eq_true (show (1 ≤ k ∧ k ≤ 9) by omega))
          have KB := Lib.hid (decide_eq_false (show ¬ (0 ≤ b ∧ b ≤ 7) by omega))
          clear hv hk
          (try clear hb)
          (try clear hr)
          (try clear hc)
          (try clear h1)
          (try clear h2)
          (try clear h3)
          (try clear h9)
          go_enter Try.func86, Try.ntmps86
          go_wp2_with fail
          refine (US.out _).mono ?_
          rintro e w' ⟨rfl, rfl⟩
          go_wp2_with fail
          refine (specIn_is k 1 9 _ KK.out _).mono ?_
          rintro e w' ⟨rfl, rfl⟩
          go_wp2_with fail
          refine (specIn_is b 0 7 _ KB.out _).mono ?_
          rintro e w' ⟨rfl, rfl⟩
          go_wp2_with fail
          go_ret
          exact ⟨ret_b HE.out.symm, HB1.out⟩
      · have tc : (c != 0) = true := by simp; omega
        have HE : Hid (v = false) := by show _ = _; rw [← hv]; exact decide_eq_false fun h => by unfold CmOk at h; omega
        clear hv hk
        (try clear hb)
        (try clear hr)
        (try clear hc)
        (try clear h1)
        (try clear h2)
        (try clear h3)
        (try clear h9)
        go_enter Try.func86, Try.ntmps86
        go_wp2_with fail
        refine (US.out _).mono ?_
        rintro e w' ⟨rfl, rfl⟩
        go_wp2_with fail
        go_ret
        exact ⟨ret_b HE.out.symm, HB1.out⟩
    · have tr : (r != 0) = true := by simp; omega
      have HE : Hid (v = false) := by show _ = _; rw [← hv]; exact decide_eq_false fun h => by unfold CmOk at h; omega
      clear hv hk
      (try clear hb)
      (try clear hr)
      (try clear hc)
      (try clear h1)
      (try clear h2)
      (try clear h3)
      (try clear h9)
      go_enter Try.func86, Try.ntmps86
      go_wp2_with fail
      refine (US.out _).mono ?_
      rintro e w' ⟨rfl, rfl⟩
      go_wp2_with fail
      go_ret
      exact ⟨ret_b HE.out.symm, HB1.out⟩
  · have US := Lib.hid (fun w => specUses_is k false false false (decide_eq_false (by omega)) (decide_eq_false (by omega)) (decide_eq_false (by omega)) w)
    by_cases hb : b = 0
    · have tb : (b != 0) = false := by simp; omega
      by_cases hr : r = 0
      · have tr : (r != 0) = false := by simp; omega
        by_cases hc : c = 0
        · have tc : (c != 0) = false := by simp; omega
          by_cases h9 : 1 ≤ k ∧ k ≤ 9
          · have HE : Hid (v = true) := by show _ = _; rw [← hv]; exact decide_eq_true (by unfold CmOk; omega)
            have KK := Lib.hid (decide_eq_true (show (1 ≤ k ∧ k ≤ 9) by omega))
            have KB := Lib.hid (decide_eq_true (show (0 ≤ b ∧ b ≤ 7) by omega))
            have KR := Lib.hid (decide_eq_true (show (0 ≤ r ∧ r ≤ 15) by omega))
            have KC := Lib.hid (decide_eq_true (show (0 ≤ c ∧ c ≤ 7) by omega))
            clear hv hk
            (try clear hb)
            (try clear hr)
            (try clear hc)
            (try clear h1)
            (try clear h2)
            (try clear h3)
            (try clear h9)
            go_enter Try.func86, Try.ntmps86
            go_wp2_with fail
            refine (US.out _).mono ?_
            rintro e w' ⟨rfl, rfl⟩
            go_wp2_with fail
            refine (specIn_is k 1 9 _ KK.out _).mono ?_
            rintro e w' ⟨rfl, rfl⟩
            go_wp2_with fail
            refine (specIn_is b 0 7 _ KB.out _).mono ?_
            rintro e w' ⟨rfl, rfl⟩
            go_wp2_with fail
            refine (specIn_is r 0 15 _ KR.out _).mono ?_
            rintro e w' ⟨rfl, rfl⟩
            go_wp2_with fail
            refine (specIn_is c 0 7 _ KC.out _).mono ?_
            rintro e w' ⟨rfl, rfl⟩
            go_wp2_with fail
            go_ret
            exact ⟨ret_b HE.out.symm, HB1.out⟩
          · have HE : Hid (v = false) := by show _ = _; rw [← hv]; exact decide_eq_false fun h => by unfold CmOk at h; omega
            have KK := Lib.hid (decide_eq_false (show ¬ (1 ≤ k ∧ k ≤ 9) by omega))
            clear hv hk
            (try clear hb)
            (try clear hr)
            (try clear hc)
            (try clear h1)
            (try clear h2)
            (try clear h3)
            (try clear h9)
            go_enter Try.func86, Try.ntmps86
            go_wp2_with fail
            refine (US.out _).mono ?_
            rintro e w' ⟨rfl, rfl⟩
            go_wp2_with fail
            refine (specIn_is k 1 9 _ KK.out _).mono ?_
            rintro e w' ⟨rfl, rfl⟩
            go_wp2_with fail
            go_ret
            exact ⟨ret_b HE.out.symm, HB1.out⟩
        · have tc : (c != 0) = true := by simp; omega
          have HE : Hid (v = false) := by show _ = _; rw [← hv]; exact decide_eq_false fun h => by unfold CmOk at h; omega
          clear hv hk
          (try clear hb)
          (try clear hr)
          (try clear hc)
          (try clear h1)
          (try clear h2)
          (try clear h3)
          (try clear h9)
          go_enter Try.func86, Try.ntmps86
          go_wp2_with fail
          refine (US.out _).mono ?_
          rintro e w' ⟨rfl, rfl⟩
          go_wp2_with fail
          go_ret
          exact ⟨ret_b HE.out.symm, HB1.out⟩
      · have tr : (r != 0) = true := by simp; omega
        have HE : Hid (v = false) := by show _ = _; rw [← hv]; exact decide_eq_false fun h => by unfold CmOk at h; omega
        clear hv hk
        (try clear hb)
        (try clear hr)
        (try clear hc)
        (try clear h1)
        (try clear h2)
        (try clear h3)
        (try clear h9)
        go_enter Try.func86, Try.ntmps86
        go_wp2_with fail
        refine (US.out _).mono ?_
        rintro e w' ⟨rfl, rfl⟩
        go_wp2_with fail
        go_ret
        exact ⟨ret_b HE.out.symm, HB1.out⟩
    · have tb : (b != 0) = true := by simp; omega
      have HE : Hid (v = false) := by show _ = _; rw [← hv]; exact decide_eq_false fun h => by unfold CmOk at h; omega
      clear hv hk
      (try clear hb)
      (try clear hr)
      (try clear hc)
      (try clear h1)
      (try clear h2)
      (try clear h3)
      (try clear h9)
      go_enter Try.func86, Try.ntmps86
      go_wp2_with fail
      refine (US.out _).mono ?_
      rintro e w' ⟨rfl, rfl⟩
      go_wp2_with fail
      go_ret
      exact ⟨ret_b HE.out.symm, HB1.out⟩

end Go.Proofs.Ythplhjdfajhmpaa

namespace Go.Proofs.Ythplhjdfajhmpaa
open Go.RowKit

set_option linter.unusedVariables false

theorem specCommandOk_is (a b r d k x y z : Int) (v : Bool) (hv : decide (CmOk k x y z ∧ AdOk a b r d x y z) = v) (w : World) :
    Calls Try.prog 50 #[.agg #[.int .i64 a, .int .i64 b, .int .i64 r, .int .i64 d], .agg #[.int .i64 k, .int .i64 x, .int .i64 y, .int .i64 z]] w (Gives (.bool v) w) := by
  obtain ⟨w1, hw1⟩ : ∃ u, (w.alloc (.cells #[.int .i64 a, .int .i64 b, .int .i64 r, .int .i64 d] 25)).alloc (.cells #[.int .i64 k, .int .i64 x, .int .i64 y, .int .i64 z] 39) = u := ⟨_, rfl⟩
  have HB1 : Hid (Below w.heap.size w w1) := by subst hw1; exact ((Below.refl _ _).alloc (Nat.le_refl _) _).alloc (by simp) _
  have g1 : w1.heap[w.heap.size]? = some (.cells #[.int .i64 a, .int .i64 b, .int .i64 r, .int .i64 d] 25) := by subst hw1; exact heap_alloc2_old _ _ _
  have p1 : w1.heap[w.heap.size + 1]? = some (.cells #[.int .i64 k, .int .i64 x, .int .i64 y, .int .i64 z] 39) := by subst hw1; exact heap_alloc2_new _ _ _
  obtain ⟨c0, c1, c2, c3⟩ := cells4 p1
  by_cases h : CmOk k x y z
  · have K := Lib.hid (decide_eq_true h)
    obtain ⟨u, hu⟩ : ∃ u, decide (AdOk a b r d x y z) = u := ⟨_, rfl⟩
    have KA := Lib.hid hu
    have HE : Hid (v = u) := by
      show _ = _
      rw [← hv, ← hu, Bool.eq_iff_iff]
      simp only [decide_eq_true_eq]
      exact ⟨fun hh => hh.2, fun hh => ⟨h, hh⟩⟩
    clear hv h hu
    go_enter Try.func50, Try.ntmps50
    go_wp2_with fail
    refine (specForm_is _ _ _ _ _ K.out _).mono ?_
    rintro e w2 ⟨rfl, hb2⟩
    have g2 := keep_block hb2 g1 (lt_of_block g1)
    have p2 := keep_block hb2 p1 (lt_of_block p1)
    have HB2 : Hid (Below w.heap.size w w2) := HB1.out.trans (hb2.mono HB1.out.size)
    clear hb2 p1 g1 HB1 hw1 c0 c1 c2 c3
    obtain ⟨c0, c1, c2, c3⟩ := cells4 p2
    obtain ⟨e0, e1, e2, e3⟩ := cells4 g2
    go_wp2_with fail
    refine (specAddrOk_is _ _ _ _ _ _ _ _ KA.out _).mono ?_
    rintro e w3 ⟨rfl, hb3⟩
    have HB3 : Hid (Below w.heap.size w w3) := HB2.out.trans (hb3.mono HB2.out.size)
    clear hb3
    go_wp2
    go_ret
    exact ⟨ret_b HE.out.symm, HB3.out⟩
  · have K := Lib.hid (decide_eq_false h)
    have HE : Hid (v = false) := by show _ = _; rw [← hv]; exact decide_eq_false (fun hh => h hh.1)
    clear hv h
    go_enter Try.func50, Try.ntmps50
    go_wp2_with fail
    refine (specForm_is _ _ _ _ _ K.out _).mono ?_
    rintro e w2 ⟨rfl, hb2⟩
    have HB2 : Hid (Below w.heap.size w w2) := HB1.out.trans (hb2.mono HB1.out.size)
    clear hb2
    go_wp2
    go_ret
    exact ⟨ret_b HE.out.symm, HB2.out⟩

end Go.Proofs.Ythplhjdfajhmpaa

namespace Go.Proofs.Ythplhjdfajhmpaa

set_option linter.unusedVariables false

/-- A bank's state. -/
structure Bk where
  op : Bool
  row : Int

def Bk.vs (b : Bk) : List Value := [.bool b.op, .int .i64 b.row]

/-- A closed bank. -/
def bk0 : Bk := ⟨false, 0⟩

/-- A bank's state that is valid under a number of rows and a power. -/
def BkOk (rows pw : Int) (b : Bk) : Prop := (0 ≤ b.row ∧ b.row ≤ rows - 1) ∧ (b.op = true ∨ b.row = 0) ∧ (b.op = false ∨ pw ≠ 2)

instance (rows pw : Int) (b : Bk) : Decidable (BkOk rows pw b) := inferInstanceAs (Decidable (_ ∧ _))

/-- A valid state of a rank. -/
def RkOk (g0 B g2 g3 : Int) (l : List Bk) (pw : Int) : Prop := GeoOk g0 B g2 g3 ∧ (l.length : Int) = bankN g0 B g2 g3 ∧ (0 ≤ pw ∧ pw ≤ 2) ∧ ∀ b ∈ l, BkOk g2 pw b

instance (g0 B g2 g3 : Int) (l : List Bk) (pw : Int) : Decidable (RkOk g0 B g2 g3 l pw) := inferInstanceAs (Decidable (_ ∧ _))

/-- Is a valid command allowed in a valid state? -/
def mayR (l : List Bk) (pw k x : Int) : Bool :=
  if k = 1 ∨ k = 5 then decide (pw = 0) && !(l.getD x.toNat bk0).op
  else if k = 2 ∨ k = 3 ∨ k = 4 then decide (pw = 0) && (l.getD x.toNat bk0).op
  else if k = 6 then decide (pw = 0)
  else if k = 8 then decide (pw = 0) && l.all (fun b => !b.op)
  else if k = 7 then decide (pw = 1)
  else decide (pw = 2)

/-- Is a command allowed in a state? -/
def allowR (g0 B g2 g3 : Int) (l : List Bk) (pw k x y z : Int) : Bool :=
  decide (RkOk g0 B g2 g3 l pw ∧ CmOk k x y z ∧ AdOk g0 B g2 g3 x y z) && mayR l pw k x

/-- The banks and the power behind a command that is allowed. -/
def doL (l : List Bk) (k x y : Int) : List Bk := if k = 1 then l.set x.toNat ⟨true, y⟩ else if k = 4 then l.set x.toNat bk0 else l

def doP (pw k : Int) : Int := if k = 6 then 1 else if k = 8 then 2 else if k = 7 ∨ k = 9 then 0 else pw

theorem doL_length (l : List Bk) (k x y : Int) : (doL l k x y).length = l.length := by
  unfold doL
  split
  · simp
  · split <;> simp

/-- The state behind a command. -/
def afterL (g0 B g2 g3 : Int) (l : List Bk) (pw k x y z : Int) : List Bk := if allowR g0 B g2 g3 l pw k x y z = true then doL l k x y else l

def afterP (g0 B g2 g3 : Int) (l : List Bk) (pw k x y z : Int) : Int := if allowR g0 B g2 g3 l pw k x y z = true then doP pw k else pw

/-- The open ones among the banks, from the index i on. -/
def openF : Nat → List Bk → List Int
  | _, [] => []
  | i, b :: l => if b.op = true then (i : Int) :: openF (i + 1) l else openF (i + 1) l

/-- The open ones among the first k banks. -/
theorem openF_append (i : Nat) (l m : List Bk) : openF i (l ++ m) = openF i l ++ openF (i + l.length) m := by
  induction l generalizing i with
  | nil => simp [openF]
  | cons b l ih =>
    have e : i + 1 + l.length = i + (b :: l).length := by simp; omega
    simp only [List.cons_append, openF, ih, e]
    split <;> rfl

theorem openF_step {l : List Bk} {k : Nat} (hk : k < l.length) : openF 0 (l.take (k + 1)) = if (l.getD k bk0).op = true then openF 0 (l.take k) ++ [(k : Int)] else openF 0 (l.take k) := by
  have hl : (l.take k).length = k := by rw [List.length_take]; omega
  have h1 : l.take (k + 1) = l.take k ++ [l.getD k bk0] := by
    rw [List.take_add_one, List.getD_eq_getElem?_getD, List.getElem?_eq_getElem hk]
    rfl
  rw [h1, openF_append, hl]
  simp only [openF, Nat.zero_add]
  split <;> simp

theorem openF_length (i : Nat) (l : List Bk) : (openF i l).length ≤ l.length := by
  induction l generalizing i with
  | nil => simp [openF]
  | cons b l ih =>
    have := ih (i + 1)
    simp only [openF]
    split <;> simp <;> omega

theorem openF_none (i : Nat) (l : List Bk) : decide ((openF i l).length = 0) = l.all (fun b => !b.op) := by
  induction l generalizing i with
  | nil => simp [openF]
  | cons b l ih =>
    rw [List.all_cons, ← ih (i + 1)]
    simp only [openF]
    obtain ⟨o, r⟩ := b
    cases o <;> simp

end Go.Proofs.Ythplhjdfajhmpaa

namespace Go.Proofs.Ythplhjdfajhmpaa

set_option linter.unusedVariables false

theorem allow_parts {g0 B g2 g3 : Int} {l : List Bk} {pw k x y z : Int} (h : allowR g0 B g2 g3 l pw k x y z = true) : RkOk g0 B g2 g3 l pw ∧ CmOk k x y z ∧ AdOk g0 B g2 g3 x y z ∧ mayR l pw k x = true := by
  unfold allowR at h
  rw [Bool.and_eq_true, decide_eq_true_eq] at h
  exact ⟨h.1.1, h.1.2.1, h.1.2.2, h.2⟩

theorem may_kind' {k : Int} (h : 1 ≤ k ∧ k ≤ 9) : k = 1 ∨ k = 2 ∨ k = 3 ∨ k = 4 ∨ k = 5 ∨ k = 6 ∨ k = 7 ∨ k = 8 ∨ k = 9 := by omega

theorem do_ok {g0 B g2 g3 : Int} {l : List Bk} {pw k x y z : Int} (h : allowR g0 B g2 g3 l pw k x y z = true) : RkOk g0 B g2 g3 (doL l k x y) (doP pw k) := by
  obtain ⟨⟨hg, hn, hp, hall⟩, hc, ha, hm⟩ := allow_parts h
  refine ⟨hg, by rw [doL_length]; exact hn, ?_, ?_⟩
  · unfold doP
    split
    · omega
    · split
      · omega
      · split <;> omega
  · have hk := may_kind' hc.1
    have hrow := ha.2.1
    have hg2 := hg.2.2.1
    clear h hc ha
    rcases hk with rfl | rfl | rfl | rfl | rfl | rfl | rfl | rfl | rfl
    · have hp0 : pw = 0 := by
        have : (decide (pw = 0) && !(l.getD x.toNat bk0).op) = true := hm
        rw [Bool.and_eq_true, decide_eq_true_eq] at this
        exact this.1
      intro b hb
      have hb' : b ∈ l.set x.toNat ⟨true, y⟩ := hb
      show BkOk g2 pw b
      rcases List.mem_or_eq_of_mem_set hb' with hb | rfl
      · exact hall b hb
      · exact ⟨hrow, .inl rfl, .inr (by omega)⟩
    · exact fun b hb => hall b hb
    · exact fun b hb => hall b hb
    · intro b hb
      have hb' : b ∈ l.set x.toNat bk0 := hb
      show BkOk g2 pw b
      rcases List.mem_or_eq_of_mem_set hb' with hb | rfl
      · exact hall b hb
      · exact ⟨⟨by show (0 : Int) ≤ 0; omega, by show (0 : Int) ≤ g2 - 1; omega⟩, .inr rfl, .inl rfl⟩
    · exact fun b hb => hall b hb
    · exact fun b hb => ⟨(hall b hb).1, (hall b hb).2.1, .inr (show (1 : Int) ≠ 2 by decide)⟩
    · exact fun b hb => ⟨(hall b hb).1, (hall b hb).2.1, .inr (show (0 : Int) ≠ 2 by decide)⟩
    · intro b hb
      have hm' : (decide (pw = 0) && l.all (fun b => !b.op)) = true := hm
      rw [Bool.and_eq_true, List.all_eq_true] at hm'
      refine ⟨(hall b hb).1, (hall b hb).2.1, .inl ?_⟩
      have := hm'.2 b hb
      simpa using this
    · exact fun b hb => ⟨(hall b hb).1, (hall b hb).2.1, .inr (show (0 : Int) ≠ 2 by decide)⟩

/-- A new rank is valid. -/
theorem new_ok {g0 B g2 g3 : Int} {n : Nat} (hg : GeoOk g0 B g2 g3) (hn : bankN g0 B g2 g3 = (n : Int)) : RkOk g0 B g2 g3 (List.replicate n bk0) 0 := by
  refine ⟨hg, by rw [List.length_replicate, hn], by omega, fun b hb => ?_⟩
  obtain ⟨_, rfl⟩ := List.mem_replicate.1 hb
  have := hg.2.2.1
  exact ⟨⟨by show (0 : Int) ≤ 0; omega, by show (0 : Int) ≤ g2 - 1; omega⟩, .inr rfl, .inl rfl⟩

end Go.Proofs.Ythplhjdfajhmpaa

namespace Go.Proofs.Ythplhjdfajhmpaa

set_option linter.unusedVariables false

/-- An event: when, and which command. -/
structure Ev where
  t : Int
  k : Int
  x : Int
  y : Int
  z : Int

def Ev.vs (e : Ev) : List Value := [.int .i64 e.t, .int .i64 e.k, .int .i64 e.x, .int .i64 e.y, .int .i64 e.z]

def ev0 : Ev := ⟨0, 0, 0, 0, 0⟩

/-- The banks and the power behind events. -/
def stL (n : Nat) (L : List Ev) : List Bk := L.foldl (fun l e => doL l e.k e.x e.y) (List.replicate n bk0)

def stP (L : List Ev) : Int := L.foldl (fun p e => doP p e.k) 0

/-- When rows were activated. -/
def actsT (L : List Ev) : List Int := (L.filter (fun e => decide (e.k = 1))).map Ev.t

theorem stL_snoc (n : Nat) (P : List Ev) (e : Ev) : stL n (P ++ [e]) = doL (stL n P) e.k e.x e.y := by simp [stL]

theorem stP_snoc (P : List Ev) (e : Ev) : stP (P ++ [e]) = doP (stP P) e.k := by simp [stP]

theorem actsT_snoc (P : List Ev) (e : Ev) : actsT (P ++ [e]) = if e.k = 1 then actsT P ++ [e.t] else actsT P := by
  unfold actsT
  rw [List.filter_append, List.map_append]
  by_cases h : e.k = 1
  · simp [h]
  · simp [h]

theorem stL_length (n : Nat) (L : List Ev) : (stL n L).length = n := by
  unfold stL
  suffices h : ∀ (L : List Ev) (l : List Bk), (L.foldl (fun l e => doL l e.k e.x e.y) l).length = l.length by rw [h, List.length_replicate]
  intro L
  induction L with
  | nil => intro l; rfl
  | cons e L ih => intro l; rw [List.foldl_cons, ih, doL_length]

theorem actsT_length (L : List Ev) : (actsT L).length ≤ L.length := by
  unfold actsT
  rw [List.length_map]
  exact List.length_filter_le _ _

theorem take_snoc {L : List Ev} {i : Nat} (hi : i < L.length) : L.take (i + 1) = L.take i ++ [L.getD i ev0] := by
  rw [List.take_add_one, List.getD_eq_getElem?_getD, List.getElem?_eq_getElem hi]
  rfl

theorem drop_cons {L : List Ev} {i : Nat} (hi : i < L.length) : L.drop i = L.getD i ev0 :: L.drop (i + 1) := by
  rw [List.drop_eq_getElem_cons hi, List.getD_eq_getElem?_getD, List.getElem?_eq_getElem hi]
  rfl

/-- Does an event come too early behind one of these? -/
def closeE (B : Int) (t : Tm) (L : List Ev) (e : Ev) : Bool := L.any (fun d => decide (e.t - d.t < gapR B t d.k d.x e.k e.x))

def CmdIn (g0 B g2 g3 : Int) (e : Ev) : Prop := CmOk e.k e.x e.y e.z ∧ AdOk g0 B g2 g3 e.x e.y e.z

instance (g0 B g2 g3 : Int) (e : Ev) : Decidable (CmdIn g0 B g2 g3 e) := inferInstanceAs (Decidable (_ ∧ _))

/-- Later than the last of these? -/
def Past (P : List Ev) (e : Ev) : Prop := P = [] ∨ (P.getLastD ev0).t < e.t

instance (P : List Ev) (e : Ev) : Decidable (Past P e) := by
  unfold Past
  cases P with
  | nil => exact .isTrue (.inl rfl)
  | cons a b => exact decidable_of_iff (((a :: b).getLastD ev0).t < e.t) ⟨.inr, fun h => h.elim (fun h => by cases h) id⟩

def FormE (g0 B g2 g3 : Int) (P : List Ev) (e : Ev) : Prop := CmdIn g0 B g2 g3 e ∧ (0 ≤ e.t ∧ e.t ≤ 1000000) ∧ Past P e

instance (g0 B g2 g3 : Int) (P : List Ev) (e : Ev) : Decidable (FormE g0 B g2 g3 P e) := inferInstanceAs (Decidable (_ ∧ _))

/-- Is this a fifth activation within FAW? -/
def FawE (faw : Int) (P : List Ev) (e : Ev) : Prop := e.k = 1 ∧ 4 ≤ (actsT P).length ∧ e.t - (actsT P).getD ((actsT P).length - 4) 0 < faw

instance (faw : Int) (P : List Ev) (e : Ev) : Decidable (FawE faw P e) := inferInstanceAs (Decidable (_ ∧ _))

/-- The fault of an event behind a trace without faults; 0 if there is none. -/
def evF (g0 B g2 g3 : Int) (t : Tm) (n : Nat) (P : List Ev) (e : Ev) : Int :=
  if ¬ FormE g0 B g2 g3 P e then 1
  else if mayR (stL n P) (stP P) e.k e.x = false then 2
  else if closeE B t P e = true then 3
  else if FawE t.faw P e then 4 else 0

theorem evF_zero {g0 B g2 g3 : Int} {t : Tm} {n : Nat} {P : List Ev} {e : Ev} : evF g0 B g2 g3 t n P e = 0 ↔ FormE g0 B g2 g3 P e ∧ mayR (stL n P) (stP P) e.k e.x = true ∧ closeE B t P e = false ∧ ¬ FawE t.faw P e := by
  unfold evF
  by_cases h1 : FormE g0 B g2 g3 P e
  · rw [if_neg (by simpa using h1)]
    by_cases h2 : mayR (stL n P) (stP P) e.k e.x = true
    · rw [if_neg (by rw [h2]; simp)]
      by_cases h3 : closeE B t P e = true
      · rw [if_pos h3]
        simp [h3]
      · rw [if_neg h3]
        by_cases h4 : FawE t.faw P e
        · rw [if_pos h4]; simp [h4]
        · rw [if_neg h4]; simp [h1, h2, h3, h4]
    · rw [if_pos (by simpa using h2)]
      simp [h2]
  · rw [if_pos h1]
    simp [h1]

/-- The first fault and its index, from these events on. -/
def fstF (f : List Ev → Ev → Int) : List Ev → List Ev → Int × Int
  | _, [] => (0, -1)
  | P, e :: Q => if f P e = 0 then fstF f (P ++ [e]) Q else (f P e, (P.length : Int))

def traceF (g0 B g2 g3 : Int) (t : Tm) (n : Nat) (L : List Ev) : Int × Int :=
  if GeoOk g0 B g2 g3 ∧ TimOk t ∧ L.length ≤ 2000 then fstF (evF g0 B g2 g3 t n) [] L else (1, -1)

theorem fstF_step {f : List Ev → Ev → Int} {L : List Ev} {i : Nat} (hi : i < L.length) :
    fstF f (L.take i) (L.drop i) = if f (L.take i) (L.getD i ev0) = 0 then fstF f (L.take (i + 1)) (L.drop (i + 1)) else (f (L.take i) (L.getD i ev0), (i : Int)) := by
  rw [drop_cons hi, take_snoc hi]
  show (if f (L.take i) (L.getD i ev0) = 0 then _ else _) = _
  rw [List.length_take, Nat.min_eq_left (Nat.le_of_lt hi)]

theorem fstF_append {f : List Ev → Ev → Int} : ∀ {P Q R : List Ev}, (fstF f P Q).1 = 0 → fstF f P (Q ++ R) = fstF f (P ++ Q) R := by
  intro P Q R
  induction Q generalizing P with
  | nil => intro _; simp
  | cons e Q ih =>
    intro h
    unfold fstF at h
    by_cases h0 : f P e = 0
    · rw [if_pos h0] at h
      show fstF f P (e :: (Q ++ R)) = _
      have e1 : fstF f P (e :: (Q ++ R)) = fstF f (P ++ [e]) (Q ++ R) := by
        rw [fstF, if_pos h0]
      rw [e1, ih h]
      simp only [List.append_assoc, List.singleton_append]
    · rw [if_neg h0] at h
      exact absurd h h0

theorem fstF_none {f : List Ev → Ev → Int} : ∀ {P Q : List Ev}, (fstF f P Q).1 = 0 → fstF f P Q = (0, -1) := by
  intro P Q
  induction Q generalizing P with
  | nil => intro _; rfl
  | cons e Q ih =>
    intro h
    unfold fstF at h ⊢
    by_cases h0 : f P e = 0
    · rw [if_pos h0] at h ⊢
      exact ih h
    · rw [if_neg h0] at h
      exact absurd h h0

theorem fstF_pre {f : List Ev → Ev → Int} : ∀ {P Q R : List Ev}, (fstF f P (Q ++ R)).1 = 0 → (fstF f P Q).1 = 0 := by
  intro P Q R
  induction Q generalizing P with
  | nil => intro _; rfl
  | cons e Q ih =>
    intro h
    rw [List.cons_append] at h
    unfold fstF at h ⊢
    by_cases h0 : f P e = 0
    · rw [if_pos h0] at h ⊢
      exact ih h
    · rw [if_neg h0] at h
      exact absurd h h0

/-- A trace without faults. -/
def TrOk (g0 B g2 g3 : Int) (t : Tm) (n : Nat) (L : List Ev) : Prop := (fstF (evF g0 B g2 g3 t n) [] L).1 = 0

theorem TrOk.nil {g0 B g2 g3 : Int} {t : Tm} {n : Nat} : TrOk g0 B g2 g3 t n [] := rfl

theorem TrOk.snoc {g0 B g2 g3 : Int} {t : Tm} {n : Nat} {L : List Ev} {e : Ev} (h : TrOk g0 B g2 g3 t n L) : fstF (evF g0 B g2 g3 t n) [] (L ++ [e]) = if evF g0 B g2 g3 t n L e = 0 then (0, -1) else (evF g0 B g2 g3 t n L e, (L.length : Int)) := by
  rw [fstF_append h]
  rfl

theorem TrOk.more {g0 B g2 g3 : Int} {t : Tm} {n : Nat} {L : List Ev} {e : Ev} (h : TrOk g0 B g2 g3 t n L) (he : evF g0 B g2 g3 t n L e = 0) : TrOk g0 B g2 g3 t n (L ++ [e]) := by
  unfold TrOk
  rw [h.snoc, if_pos he]

theorem TrOk.take {g0 B g2 g3 : Int} {t : Tm} {n : Nat} {L : List Ev} (h : TrOk g0 B g2 g3 t n L) (i : Nat) : TrOk g0 B g2 g3 t n (L.take i) :=
  fstF_pre (R := L.drop i) (by rw [List.take_append_drop]; exact h)

theorem TrOk.back {g0 B g2 g3 : Int} {t : Tm} {n : Nat} {L : List Ev} {e : Ev} (h : TrOk g0 B g2 g3 t n (L ++ [e])) : TrOk g0 B g2 g3 t n L ∧ evF g0 B g2 g3 t n L e = 0 := by
  have h1 : TrOk g0 B g2 g3 t n L := fstF_pre h
  refine ⟨h1, ?_⟩
  unfold TrOk at h
  rw [h1.snoc] at h
  by_cases h0 : evF g0 B g2 g3 t n L e = 0
  · exact h0
  · rw [if_neg h0] at h; exact absurd h h0

/-- Are all commands allowed, each behind the ones ahead of it? -/
def endF (f : List Ev → Ev → Bool) : List Ev → List Ev → Bool
  | _, [] => true
  | P, e :: Q => f P e && endF f (P ++ [e]) Q

def endOk (g0 B g2 g3 : Int) (n : Nat) (L : List Ev) : Bool := endF (fun P e => allowR g0 B g2 g3 (stL n P) (stP P) e.k e.x e.y e.z) [] L

theorem endF_append {f : List Ev → Ev → Bool} : ∀ {P Q R : List Ev}, endF f P (Q ++ R) = (endF f P Q && endF f (P ++ Q) R) := by
  intro P Q R
  induction Q generalizing P with
  | nil => simp [endF]
  | cons e Q ih =>
    show (f P e && endF f (P ++ [e]) (Q ++ R)) = ((f P e && endF f (P ++ [e]) Q) && _)
    rw [ih, Bool.and_assoc]
    simp only [List.append_assoc, List.singleton_append]

theorem st_ok {g0 B g2 g3 : Int} {t : Tm} {n : Nat} (hg : GeoOk g0 B g2 g3) (hn : bankN g0 B g2 g3 = (n : Int)) : ∀ {L : List Ev}, TrOk g0 B g2 g3 t n L → RkOk g0 B g2 g3 (stL n L) (stP L) ∧ endOk g0 B g2 g3 n L = true := by
  intro L
  suffices h : ∀ m (L : List Ev), L.length = m → TrOk g0 B g2 g3 t n L → RkOk g0 B g2 g3 (stL n L) (stP L) ∧ endOk g0 B g2 g3 n L = true from h _ L rfl
  intro m
  induction m with
  | zero =>
    intro L hL _
    obtain rfl := List.length_eq_zero_iff.1 hL
    exact ⟨new_ok hg hn, rfl⟩
  | succ m ih =>
    intro L hL h
    obtain ⟨P, e, rfl⟩ : ∃ P e, L = P ++ [e] := ⟨L.dropLast, L.getLast (fun h0 => by rw [h0] at hL; cases hL), (List.dropLast_concat_getLast _).symm⟩
    obtain ⟨h1, h2⟩ := h.back
    obtain ⟨hr, he⟩ := ih P (by simpa using hL) h1
    obtain ⟨hf, hm, _, _⟩ := evF_zero.1 h2
    have ha : allowR g0 B g2 g3 (stL n P) (stP P) e.k e.x e.y e.z = true := by
      unfold allowR
      rw [hm, decide_eq_true ⟨hr, hf.1.1, hf.1.2⟩]
      rfl
    refine ⟨?_, ?_⟩
    · rw [stL_snoc, stP_snoc]
      exact do_ok ha
    · unfold endOk at he ⊢
      rw [endF_append, he]
      show (true && (allowR g0 B g2 g3 (stL n ([] ++ P)) (stP ([] ++ P)) e.k e.x e.y e.z && true)) = true
      rw [List.nil_append, ha]
      rfl

/-- The earliest time that the distances leave. -/
def gapT (B : Int) (t : Tm) (L : List Ev) (k x : Int) : Int := L.foldl (fun m e => max m (e.t + gapR B t e.k e.x k x)) 0

theorem gapT_snoc (B : Int) (t : Tm) (P : List Ev) (e : Ev) (k x : Int) : gapT B t (P ++ [e]) k x = max (gapT B t P k x) (e.t + gapR B t e.k e.x k x) := by simp [gapT]

def nextT (B : Int) (t : Tm) (L : List Ev) (k x : Int) : Int :=
  if k = 1 ∧ 4 ≤ (actsT L).length then max (gapT B t L k x) ((actsT L).getD ((actsT L).length - 4) 0 + t.faw) else gapT B t L k x

def earlyF (g0 B g2 g3 : Int) (t : Tm) (n : Nat) (L : List Ev) (k x y z : Int) : Int :=
  if ((traceF g0 B g2 g3 t n L).1 = 0 ∧ allowR g0 B g2 g3 (stL n L) (stP L) k x y z = true ∧ L.length < 2000) ∧ nextT B t L k x ≤ 1000000 then nextT B t L k x else -1

theorem gapT_le {B : Int} {t : Tm} {L : List Ev} {k x : Int} : 0 ≤ gapT B t L k x ∧ ∀ e ∈ L, e.t + gapR B t e.k e.x k x ≤ gapT B t L k x := by
  suffices h : ∀ (L : List Ev) (m : Int), m ≤ L.foldl (fun m e => max m (e.t + gapR B t e.k e.x k x)) m ∧ ∀ e ∈ L, e.t + gapR B t e.k e.x k x ≤ L.foldl (fun m e => max m (e.t + gapR B t e.k e.x k x)) m from h L 0
  intro L
  induction L with
  | nil => intro m; exact ⟨Int.le_refl _, fun e he => by cases he⟩
  | cons d L ih =>
    intro m
    obtain ⟨h1, h2⟩ := ih (max m (d.t + gapR B t d.k d.x k x))
    refine ⟨Int.le_trans (Int.le_max_left _ _) h1, fun e he => ?_⟩
    rcases List.mem_cons.1 he with rfl | he
    · exact Int.le_trans (Int.le_max_right _ _) h1
    · exact h2 e he

theorem gapT_is {B : Int} {t : Tm} {L : List Ev} {k x : Int} : gapT B t L k x = 0 ∨ ∃ e ∈ L, gapT B t L k x = e.t + gapR B t e.k e.x k x := by
  suffices h : ∀ (L : List Ev) (m : Int), L.foldl (fun m e => max m (e.t + gapR B t e.k e.x k x)) m = m ∨ ∃ e ∈ L, L.foldl (fun m e => max m (e.t + gapR B t e.k e.x k x)) m = e.t + gapR B t e.k e.x k x from h L 0
  intro L
  induction L with
  | nil => intro m; exact .inl rfl
  | cons d L ih =>
    intro m
    rcases ih (max m (d.t + gapR B t d.k d.x k x)) with h | ⟨e, he, h⟩
    · rw [List.foldl_cons, h]
      by_cases hm : m ≤ d.t + gapR B t d.k d.x k x
      · exact .inr ⟨d, List.mem_cons_self, by omega⟩
      · exact .inl (by omega)
    · exact .inr ⟨e, List.mem_cons_of_mem _ he, h⟩

/-- At its earliest time and later an allowed command makes no fault; ahead of it, it does. -/
theorem next_ok {g0 B g2 g3 : Int} {t : Tm} {n : Nat} {L : List Ev} {k x y z at' : Int} (ha : allowR g0 B g2 g3 (stL n L) (stP L) k x y z = true) (h : nextT B t L k x ≤ at') (h1 : at' ≤ 1000000) : evF g0 B g2 g3 t n L ⟨at', k, x, y, z⟩ = 0 := by
  obtain ⟨_, hc, hd, hm⟩ := allow_parts ha
  obtain ⟨hg0, hg1⟩ := gapT_le (B := B) (t := t) (L := L) (k := k) (x := x)
  have hg : gapT B t L k x ≤ nextT B t L k x := by
    unfold nextT
    split <;> omega
  refine evF_zero.2 ⟨⟨⟨hc, hd⟩, ⟨by show 0 ≤ at'; omega, h1⟩, ?_⟩, hm, ?_, ?_⟩
  · cases L with
    | nil => exact .inl rfl
    | cons a L =>
      refine .inr ?_
      have hmem : (a :: L).getLastD ev0 ∈ a :: L := by
        rw [List.getLastD_cons]
        cases L with
        | nil => exact List.mem_cons_self
        | cons b L => exact List.mem_cons_of_mem _ (by rw [List.getLastD_eq_getLast?]; simp [List.getLast?_eq_some_getLast])
      have := hg1 _ hmem
      have hr := gapR_range B t ((a :: L).getLastD ev0).k ((a :: L).getLastD ev0).x k x
      show _ < at'
      omega
  · unfold closeE
    rw [List.any_eq_false]
    intro e he
    have := hg1 e he
    simp only [decide_eq_true_eq]
    omega
  · rintro ⟨hk, h4, hf⟩
    have hn : nextT B t L k x = max (gapT B t L k x) ((actsT L).getD ((actsT L).length - 4) 0 + t.faw) := if_pos ⟨hk, h4⟩
    have : at' - (actsT L).getD ((actsT L).length - 4) 0 < t.faw := hf
    omega

theorem nextT_nonneg {B : Int} {t : Tm} {L : List Ev} {k x : Int} : 0 ≤ nextT B t L k x := by
  have := (gapT_le (B := B) (t := t) (L := L) (k := k) (x := x)).1
  unfold nextT
  split <;> omega

theorem TrOk.at {g0 B g2 g3 : Int} {t : Tm} {n : Nat} {L : List Ev} (h : TrOk g0 B g2 g3 t n L) {i : Nat} (hi : i < L.length) : evF g0 B g2 g3 t n (L.take i) (L.getD i ev0) = 0 := by
  have h2 := h.take (i + 1)
  rw [take_snoc hi] at h2
  exact h2.back.2

/-- An event whose bank is one, at a time that there is. -/
def EvIn (e : Ev) : Prop := (0 ≤ e.t ∧ e.t ≤ 1000000) ∧ 0 ≤ e.x ∧ e.x ≤ 7

theorem FormE.isIn {g0 B g2 g3 : Int} {P : List Ev} {e : Ev} (h : FormE g0 B g2 g3 P e) : EvIn e := ⟨h.2.1, h.1.1.2.1⟩

theorem TrOk.isIn {g0 B g2 g3 : Int} {t : Tm} {n : Nat} {L : List Ev} (h : TrOk g0 B g2 g3 t n L) {i : Nat} (hi : i < L.length) : EvIn (L.getD i ev0) := (evF_zero.1 (h.at hi)).1.isIn

theorem fst_at {f : List Ev → Ev → Int} {L : List Ev} {k : Nat} (h : (fstF f [] (L.take k)).1 = 0) : fstF f [] L = fstF f (L.take k) (L.drop k) := by
  have := fstF_append (R := L.drop k) h
  rw [List.take_append_drop, List.nil_append] at this
  exact this

theorem fst_bad {g0 B g2 g3 : Int} {t : Tm} {n : Nat} {L : List Ev} {k : Nat} {c : Int} (h : TrOk g0 B g2 g3 t n (L.take k)) (hk : k < L.length) (hc : evF g0 B g2 g3 t n (L.take k) (L.getD k ev0) = c) (h0 : c ≠ 0) : fstF (evF g0 B g2 g3 t n) [] L = (c, (k : Int)) := by
  rw [fst_at h, fstF_step hk, hc, if_neg h0]

theorem TrOk.next {g0 B g2 g3 : Int} {t : Tm} {n : Nat} {L : List Ev} {k : Nat} (h : TrOk g0 B g2 g3 t n (L.take k)) (hk : k < L.length) (hc : evF g0 B g2 g3 t n (L.take k) (L.getD k ev0) = 0) : TrOk g0 B g2 g3 t n (L.take (k + 1)) := by
  rw [take_snoc hk]
  exact h.more hc

theorem take_last {L : List Ev} {k : Nat} (h0 : 0 < k) (hk : k ≤ L.length) : (L.take k).getLastD ev0 = L.getD (k - 1) ev0 := by
  obtain ⟨m, rfl⟩ : ∃ m, k = m + 1 := ⟨k - 1, by omega⟩
  rw [take_snoc (by omega), List.getLastD_concat]
  rfl

theorem past_zero {L : List Ev} {e : Ev} : Past (L.take 0) e := .inl rfl

theorem past_iff {L : List Ev} {k : Nat} {e : Ev} (h0 : 0 < k) (hk : k ≤ L.length) : Past (L.take k) e ↔ (L.getD (k - 1) ev0).t < e.t := by
  unfold Past
  rw [take_last h0 hk]
  constructor
  · rintro (h | h)
    · have : (L.take k).length = 0 := by rw [h]; rfl
      rw [List.length_take] at this
      omega
    · exact h
  · exact .inr

theorem evF_form {g0 B g2 g3 : Int} {t : Tm} {n : Nat} {P : List Ev} {e : Ev} (h : ¬ FormE g0 B g2 g3 P e) : evF g0 B g2 g3 t n P e = 1 := if_pos h

theorem evF_may {g0 B g2 g3 : Int} {t : Tm} {n : Nat} {P : List Ev} {e : Ev} (h : FormE g0 B g2 g3 P e) (hm : mayR (stL n P) (stP P) e.k e.x = false) : evF g0 B g2 g3 t n P e = 2 := by
  unfold evF
  rw [if_neg (by simpa using h), if_pos hm]

theorem evF_gap {g0 B g2 g3 : Int} {t : Tm} {n : Nat} {P : List Ev} {e : Ev} (h : FormE g0 B g2 g3 P e) (hm : mayR (stL n P) (stP P) e.k e.x = true) (hc : closeE B t P e = true) : evF g0 B g2 g3 t n P e = 3 := by
  unfold evF
  rw [if_neg (by simpa using h), if_neg (by rw [hm]; simp), if_pos hc]

theorem evF_faw {g0 B g2 g3 : Int} {t : Tm} {n : Nat} {P : List Ev} {e : Ev} (h : FormE g0 B g2 g3 P e) (hm : mayR (stL n P) (stP P) e.k e.x = true) (hc : closeE B t P e = false) (hf : FawE t.faw P e) : evF g0 B g2 g3 t n P e = 4 := by
  unfold evF
  rw [if_neg (by simpa using h), if_neg (by rw [hm]; simp), if_neg (by rw [hc]; simp), if_pos hf]

theorem TrOk.mem {g0 B g2 g3 : Int} {t : Tm} {n : Nat} {L : List Ev} (h : TrOk g0 B g2 g3 t n L) {e : Ev} (he : e ∈ L) : EvIn e := by
  obtain ⟨i, hi, rfl⟩ := List.getElem_of_mem he
  have := h.isIn hi
  rwa [List.getD_eq_getElem?_getD, List.getElem?_eq_getElem hi] at this

theorem TrOk.acts {g0 B g2 g3 : Int} {t : Tm} {n : Nat} {L : List Ev} (h : TrOk g0 B g2 g3 t n L) {j : Nat} (hj : j < (actsT L).length) : 0 ≤ (actsT L).getD j 0 ∧ (actsT L).getD j 0 ≤ 1000000 := by
  rw [List.getD_eq_getElem?_getD, List.getElem?_eq_getElem hj]
  have hm : (actsT L)[j] ∈ actsT L := List.getElem_mem hj
  unfold actsT at hm
  obtain ⟨e, he, hx⟩ := List.mem_map.1 hm
  have := (h.mem (List.mem_filter.1 he).1).1
  show 0 ≤ (actsT L)[j] ∧ (actsT L)[j] ≤ 1000000
  unfold actsT
  rw [← hx]
  exact this

end Go.Proofs.Ythplhjdfajhmpaa

namespace Go.Proofs.Ythplhjdfajhmpaa
open Go.RowKit Go.PlainAid

set_option linter.unusedVariables false

/-- Events as elements of rows. -/
def evK : Kd Ev := ⟨Ev.vs, ev0, 5, fun _ => rfl, by decide⟩

theorem infoE : (Try.prog.info? 41).map (fun i => (i.zero, i.size, i.bytes)) = some (some (.agg #[.int .i64 0, .int .i64 0, .int .i64 0, .int .i64 0, .int .i64 0]), 5, 40) := by kernel_rfl

/-- The five cells of an event in a row. -/
theorem ev_cells {w : World} {b o : Nat} {e : Ev} (h : ∀ j, j < evK.K → w.cell? ⟨b, o + j, none⟩ = (evK.vs e)[j]?) :
    w.cell? ⟨b, o, none⟩ = some (.int .i64 e.t) ∧ w.cell? ⟨b, o + 1, none⟩ = some (.int .i64 e.k) ∧ w.cell? ⟨b, o + 2, none⟩ = some (.int .i64 e.x) ∧ w.cell? ⟨b, o + 3, none⟩ = some (.int .i64 e.y) ∧ w.cell? ⟨b, o + 4, none⟩ = some (.int .i64 e.z) :=
  ⟨h 0 (by decide), h 1 (by decide), h 2 (by decide), h 3 (by decide), h 4 (by decide)⟩

theorem ev_at {w : World} {a : Option Addr} {l : List Ev} (h : evK.Row w a l) {i : Nat} (hi : i < l.length) :
    ∃ b off, a = some ⟨b, off, none⟩ ∧ w.cell? ⟨b, off + i * 5, none⟩ = some (.int .i64 (l.getD i ev0).t) ∧ w.cell? ⟨b, off + i * 5 + 1, none⟩ = some (.int .i64 (l.getD i ev0).k) ∧ w.cell? ⟨b, off + i * 5 + 2, none⟩ = some (.int .i64 (l.getD i ev0).x) ∧ w.cell? ⟨b, off + i * 5 + 3, none⟩ = some (.int .i64 (l.getD i ev0).y) ∧ w.cell? ⟨b, off + i * 5 + 4, none⟩ = some (.int .i64 (l.getD i ev0).z) := by
  obtain ⟨b, off, rfl, hc⟩ := h.at hi
  exact ⟨b, off, rfl, ev_cells hc⟩

end Go.Proofs.Ythplhjdfajhmpaa

namespace Go.Proofs.Ythplhjdfajhmpaa
open Go.RowKit Go.PlainAid

set_option linter.unusedVariables false

theorem vs_length (l : List Bk) : (l.flatMap Bk.vs).length = l.length * 2 := by
  induction l with
  | nil => rfl
  | cons b l ih => simp only [List.flatMap_cons, List.length_append, ih, List.length_cons, Bk.vs, List.length_nil]; omega

theorem vs_at (l : List Bk) : ∀ i, i < l.length → (l.flatMap Bk.vs)[i * 2]? = some (.bool (l.getD i bk0).op) ∧ (l.flatMap Bk.vs)[i * 2 + 1]? = some (.int .i64 (l.getD i bk0).row) := by
  induction l with
  | nil => intro i hi; exact absurd hi (Nat.not_lt_zero _)
  | cons b l ih =>
    intro i hi
    cases i with
    | zero => exact ⟨rfl, rfl⟩
    | succ i =>
      have h := ih i (by simpa using hi)
      rw [show (i + 1) * 2 = i * 2 + 1 + 1 by omega]
      exact h

theorem vs_set0 (l : List Bk) (o : Bool) : ∀ i, (l.flatMap Bk.vs).set (i * 2) (.bool o) = (l.set i ⟨o, (l.getD i bk0).row⟩).flatMap Bk.vs := by
  induction l with
  | nil => intro i; rfl
  | cons b l ih =>
    intro i
    cases i with
    | zero => rfl
    | succ i =>
      rw [show (i + 1) * 2 = i * 2 + 1 + 1 by omega]
      exact congrArg (fun z => Value.bool b.op :: Value.int .i64 b.row :: z) (ih i)

theorem vs_set1 (l : List Bk) (r : Int) : ∀ i, (l.flatMap Bk.vs).set (i * 2 + 1) (.int .i64 r) = (l.set i ⟨(l.getD i bk0).op, r⟩).flatMap Bk.vs := by
  induction l with
  | nil => intro i; rfl
  | cons b l ih =>
    intro i
    cases i with
    | zero => rfl
    | succ i =>
      rw [show (i + 1) * 2 + 1 = i * 2 + 1 + 1 + 1 by omega]
      exact congrArg (fun z => Value.bool b.op :: Value.int .i64 b.row :: z) (ih i)

/-- A slice at this address shows these banks. -/
def RowB (w : World) (a : Option Addr) (l : List Bk) : Prop :=
  l = [] ∨ ∃ b off, a = some ⟨b, off, none⟩ ∧ ∀ i, i < l.length → w.cell? ⟨b, off + i * 2, none⟩ = some (.bool (l.getD i bk0).op) ∧ w.cell? ⟨b, off + i * 2 + 1, none⟩ = some (.int .i64 (l.getD i bk0).row)

theorem RowB.at {w : World} {a : Option Addr} {l : List Bk} (h : RowB w a l) {k : Nat} (hk : k < l.length) : ∃ b off, a = some ⟨b, off, none⟩ ∧ w.cell? ⟨b, off + k * 2, none⟩ = some (.bool (l.getD k bk0).op) ∧ w.cell? ⟨b, off + k * 2 + 1, none⟩ = some (.int .i64 (l.getD k bk0).row) := by
  rcases h with rfl | ⟨b, off, rfl, h⟩
  · exact absurd hk (Nat.not_lt_zero _)
  · exact ⟨b, off, rfl, h k hk⟩

theorem RowB.below {w w' : World} {a : Option Addr} {l : List Bk} (h : RowB w a l) (hb : Below w.heap.size w w') : RowB w' a l := by
  rcases h with h | ⟨b, off, rfl, h⟩
  · exact .inl h
  · exact .inr ⟨b, off, rfl, fun i hi => ⟨(hb.cell (World.block_lt_of_cell? _ _ (h i hi).1)).trans (h i hi).1, (hb.cell (World.block_lt_of_cell? _ _ (h i hi).2)).trans (h i hi).2⟩⟩

/-- The cells of a row that is read, one behind the other. -/
theorem RowB.flat {w : World} {b off : Nat} {l : List Bk} (h : ∀ i, i < l.length → w.cell? ⟨b, off + i * 2, none⟩ = some (.bool (l.getD i bk0).op) ∧ w.cell? ⟨b, off + i * 2 + 1, none⟩ = some (.int .i64 (l.getD i bk0).row)) :
    ∀ j u, (l.flatMap Bk.vs)[j]? = some u → w.cell? ((⟨b, off, none⟩ : Addr).add j) = some u := by
  intro j u hu
  have hj : j < l.length * 2 := by
    rw [← vs_length]
    by_cases hlt : j < (l.flatMap Bk.vs).length
    · exact hlt
    · rw [List.getElem?_eq_none (by omega)] at hu; cases hu
  rw [Addr.add_lit]
  have hi : j / 2 < l.length := by omega
  rcases Nat.mod_two_eq_zero_or_one j with h0 | h0
  · have e : j = j / 2 * 2 := by omega
    rw [e] at hu ⊢
    rw [(vs_at l _ hi).1] at hu
    rw [(h _ hi).1, hu]
  · have e : j = j / 2 * 2 + 1 := by omega
    rw [e] at hu ⊢
    rw [(vs_at l _ hi).2] at hu
    rw [← Nat.add_assoc, (h _ hi).2, hu]

theorem vs_oneCell (l : List Bk) : ∀ u ∈ l.flatMap Bk.vs, u.oneCell' = true := by
  intro u hu
  obtain ⟨b, _, hb⟩ := List.mem_flatMap.1 hu
  simp only [Bk.vs, List.mem_cons, List.not_mem_nil, or_false] at hb
  rcases hb with rfl | rfl <;> rfl

/-- A row of the call's own that holds banks. -/
def OwnK (B : Nat) (v : Value) (l : List Bk) (w : World) : Prop := w.ownsRow B 121 2 v l.length (l.flatMap Bk.vs)

theorem infoK : (Try.prog.info? 121).map (fun i => (i.zero, i.size, i.bytes)) = some (some (.agg #[.bool false, .int .i64 0]), 2, 16) := by kernel_rfl

theorem OwnK.below {B : Nat} {v : Value} {l : List Bk} {w w' : World} (h : OwnK B v l w) (hb : Below w.heap.size w w') : OwnK B v l w' := by
  refine ⟨h.1, ?_⟩
  rcases h.2 with hv | ⟨b, cap, cur, hv, hB, hh, r⟩
  · exact .inl hv
  · exact .inr ⟨b, cap, cur, hv, hB, by rw [hb.block b (lt_of_block hh)]; exact hh, r⟩

theorem OwnK.only {B c : Nat} {v : Value} {l : List Bk} {w w' : World} (h : OwnK B v l w) (ho : Only c w w') (hc : c < B) : OwnK B v l w' := by
  refine ⟨h.1, ?_⟩
  rcases h.2 with hv | ⟨b, cap, cur, hv, hB, hh, r⟩
  · exact .inl hv
  · exact .inr ⟨b, cap, cur, hv, hB, by rw [ho.block b (lt_of_block hh) (by omega)]; exact hh, r⟩

theorem OwnK.mono {B C : Nat} {v : Value} {l : List Bk} {w : World} (h : OwnK B v l w) (hC : C ≤ B) : OwnK C v l w := by
  refine ⟨h.1, ?_⟩
  rcases h.2 with hv | ⟨b, cap, cur, hv, hB, r⟩
  · exact .inl hv
  · exact .inr ⟨b, cap, cur, hv, by omega, r⟩

theorem OwnK.shape {B : Nat} {v : Value} {l : List Bk} {w : World} (h : OwnK B v l w) : ∃ a cap, v = .slice a l.length cap := by
  rcases h.2 with ⟨rfl, h0⟩ | ⟨g, cap, cur, rfl, _⟩
  · exact ⟨none, 0, by rw [h0]⟩
  · exact ⟨_, cap, rfl⟩

theorem OwnK.lo {B c n : Nat} {a : Option Addr} {l : List Bk} {w : World} (h : OwnK B (.slice a n c) l w) : ∀ x, a = some x → B ≤ x.block ∧ x.block < w.heap.size := by
  rintro x rfl
  exact World.ownsRow.lt h x.block rfl

theorem OwnK.keep {B c n : Nat} {a : Option Addr} {l : List Bk} {w w' : World} {g : Nat} (h : OwnK B (.slice a n c) l w) (ho : Only g w w') (hne : ∀ x, a = some x → x.block ≠ g) : OwnK B (.slice a n c) l w' := by
  refine ⟨h.1, ?_⟩
  rcases h.2 with ⟨hv, h0⟩ | ⟨b, cap, cur, hv, hB, hh, r⟩
  · exact .inl ⟨hv, h0⟩
  · cases hv
    exact .inr ⟨b, c, cur, rfl, hB, by rw [ho.block b (lt_of_block hh) (hne _ rfl)]; exact hh, r⟩

/-- A cell of another block is written. -/
theorem OwnK.setCell {B c n : Nat} {a : Option Addr} {l : List Bk} {w : World} (h : OwnK B (.slice a n c) l w) {p : Addr} (hne : ∀ x, a = some x → x.block ≠ p.block) (u : Value) : OwnK B (.slice a n c) l (w.setCell p u) := by
  refine ⟨h.1, ?_⟩
  rcases h.2 with ⟨hv, h0⟩ | ⟨b, cap, cur, hv, hB, hh, r⟩
  · exact .inl ⟨hv, h0⟩
  · cases hv
    exact .inr ⟨b, c, cur, rfl, hB, (Below.heap_setCell _ _ _ _ (hne _ rfl)).trans hh, r⟩

/-- A row of banks of the call's own, at an index. -/
theorem OwnK.at {B n c : Nat} {a : Option Addr} {l : List Bk} {w : World} (h : OwnK B (.slice a n c) l w) {k : Nat} (hk : k < l.length) :
    ∃ g, a = some ⟨g, 0, none⟩ ∧ w.cell? ⟨g, k * 2, none⟩ = some (.bool (l.getD k bk0).op) ∧ w.cell? ⟨g, k * 2 + 1, none⟩ = some (.int .i64 (l.getD k bk0).row) ∧ (∀ j, w.frozen? ⟨g, j, none⟩ = false) ∧ B ≤ g ∧ g < w.heap.size := by
  have hc := fun g hg => World.ownsRow.cells h (g := g) hg
  rcases h.2 with ⟨_, h0⟩ | ⟨g, cap, cur, hv, hB, hh, _⟩
  · omega
  · cases hv
    have h0 := hc g rfl _ _ (vs_at l k hk).1
    have h1 := hc g rfl _ _ (vs_at l k hk).2
    rw [Addr.add_lit, Nat.zero_add] at h0 h1
    exact ⟨g, rfl, h0, h1, fun j => by simp [World.frozen?, hh], hB, lt_of_block hh⟩

theorem OwnK.row {B n c : Nat} {a : Option Addr} {l : List Bk} {w : World} (h : OwnK B (.slice a n c) l w) : RowB w a l := by
  rcases h.2 with ⟨hv, h0⟩ | ⟨g, cap, cur, hv, hB, hh, r⟩
  · cases hv
    exact .inl (List.length_eq_zero_iff.1 h0)
  · cases hv
    refine .inr ⟨g, 0, rfl, fun i hi => ?_⟩
    obtain ⟨g', hg, h1, h2, _⟩ := h.at hi
    cases hg
    rw [Nat.zero_add]
    exact ⟨h1, h2⟩

theorem OwnK.stored0 {B n c g : Nat} {l : List Bk} {w : World} (h : OwnK B (.slice (some ⟨g, 0, none⟩) n c) l w) (hl : l.length = n) (k : Nat) (o : Bool) : OwnK B (.slice (some ⟨g, 0, none⟩) n c) (l.set k ⟨o, (l.getD k bk0).row⟩) (w.setCell ⟨g, k * 2, none⟩ (.bool o)) := by
  unfold OwnK at h ⊢
  rw [hl] at h
  rw [List.length_set, ← vs_set0, hl]
  exact (World.ownsRow.stored h (k * 2) (.bool o)).1

theorem OwnK.stored1 {B n c g : Nat} {l : List Bk} {w : World} (h : OwnK B (.slice (some ⟨g, 0, none⟩) n c) l w) (hl : l.length = n) (k : Nat) (r : Int) : OwnK B (.slice (some ⟨g, 0, none⟩) n c) (l.set k ⟨(l.getD k bk0).op, r⟩) (w.setCell ⟨g, k * 2 + 1, none⟩ (.int .i64 r)) := by
  unfold OwnK at h ⊢
  rw [hl] at h
  rw [List.length_set, ← vs_set1, hl]
  exact (World.ownsRow.stored h (k * 2 + 1) (.int .i64 r)).1

theorem OwnK.stored {B n c g : Nat} {l : List Bk} {w : World} (h : OwnK B (.slice (some ⟨g, 0, none⟩) n c) l w) (hl : l.length = n) {k : Nat} (hk : k < l.length) (b : Bk) : OwnK B (.slice (some ⟨g, 0, none⟩) n c) (l.set k b) ((w.setCell ⟨g, k * 2, none⟩ (.bool b.op)).setCell ⟨g, k * 2 + 1, none⟩ (.int .i64 b.row)) := by
  have h2 := (h.stored0 hl k b.op).stored1 (by rw [List.length_set]; exact hl) k b.row
  rw [List.set_set] at h2
  have e : ((l.set k ⟨b.op, (l.getD k bk0).row⟩).getD k bk0).op = b.op := by rw [List.getD_eq_getElem?_getD, List.getElem?_set_self hk]; rfl
  rw [e] at h2
  exact h2

/-- A call that answers a rank with a row of its own of n banks. -/
def GivesK (n : Nat) (l : List Bk) (pw : Int) (w : World) (e : Ending) (w' : World) : Prop :=
  ∃ a cap, e = .returned (.agg #[.slice a n cap, .int .i64 pw]) ∧ OwnK w.heap.size (.slice a n cap) l w' ∧ Below w.heap.size w w'

theorem made_bank (n : Nat) : (madeCells #[.bool false, .int .i64 0] (n * 2)).toList = (List.replicate n bk0).flatMap Bk.vs := by
  have hl : (List.replicate n bk0).length = n := List.length_replicate
  apply List.ext_getElem?
  intro i
  by_cases hi : i < n * 2
  · have hd : ∀ j, j < n → (List.replicate n bk0).getD j bk0 = bk0 := fun j hj => by rw [List.getD_eq_getElem?_getD, List.getElem?_replicate, if_pos hj]; rfl
    have e0 : (madeCells #[.bool false, .int .i64 0] (n * 2)).toList[i]? = some ((#[.bool false, .int .i64 0] : Array Value)[i % 2]!) := by
      simp [madeCells, hi]
    rw [e0]
    rcases Nat.mod_two_eq_zero_or_one i with h0 | h0
    · have e : i = i / 2 * 2 := by omega
      have h2 := (vs_at (List.replicate n bk0) (i / 2) (by omega)).1
      rw [← e, hd _ (by omega)] at h2
      rw [h2, h0]
      rfl
    · have e : i = i / 2 * 2 + 1 := by omega
      have h2 := (vs_at (List.replicate n bk0) (i / 2) (by omega)).2
      rw [← e, hd _ (by omega)] at h2
      rw [h2, h0]
      rfl
  · rw [List.getElem?_eq_none (by simp [size_madeCells]; omega), List.getElem?_eq_none (by rw [vs_length, hl]; omega)]

theorem OwnK.none {B n c : Nat} {a : Option Addr} {l : List Bk} {w : World} (h : OwnK B (.slice a n c) l w) : a = none → c = 0 := by
  rintro rfl
  rcases h.2 with ⟨hv, _⟩ | ⟨g, cap, cur, hv, _⟩ <;> cases hv
  rfl

end Go.Proofs.Ythplhjdfajhmpaa
