/-
  The model's distance of two commands of a rank.
-/
import Derived.Test.YtihhcnckoeaihaaTimW
namespace Go.Proofs.Ytihhcnckoeaihaa
open Go.RowKit

set_option linter.unusedVariables false

set_option maxHeartbeats 16000000 in
theorem specRankGap_is (t : Tm) (a b : Int) (n : Bool) (v : Int) (hv : rankG t a b n = v) (w : World) :
    Calls Try.prog 65 #[.agg #[.int .i64 t.rcd, .int .i64 t.rp, .int .i64 t.ras, .int .i64 t.rrds, .int .i64 t.rrdl, .int .i64 t.faw, .int .i64 t.ccds, .int .i64 t.ccdl, .int .i64 t.rtp, .int .i64 t.wr, .int .i64 t.wtrs, .int .i64 t.wtrl, .int .i64 t.rtw, .int .i64 t.rfc, .int .i64 t.cke, .int .i64 t.xp, .int .i64 t.xs], .int .i64 a, .int .i64 b, .bool n] w (Gives (.int .i64 v) w) := by
  obtain ⟨w1, hw1⟩ : ∃ u, w.alloc (.cells #[.int .i64 t.rcd, .int .i64 t.rp, .int .i64 t.ras, .int .i64 t.rrds, .int .i64 t.rrdl, .int .i64 t.faw, .int .i64 t.ccds, .int .i64 t.ccdl, .int .i64 t.rtp, .int .i64 t.wr, .int .i64 t.wtrs, .int .i64 t.wtrl, .int .i64 t.rtw, .int .i64 t.rfc, .int .i64 t.cke, .int .i64 t.xp, .int .i64 t.xs] 32) = u := ⟨_, rfl⟩
  have HB1 : Hid (Below w.heap.size w w1) := by subst hw1; exact (Below.refl _ _).alloc (Nat.le_refl _) _
  have p1 : w1.heap[w.heap.size]? = some (.cells #[.int .i64 t.rcd, .int .i64 t.rp, .int .i64 t.ras, .int .i64 t.rrds, .int .i64 t.rrdl, .int .i64 t.faw, .int .i64 t.ccds, .int .i64 t.ccdl, .int .i64 t.rtp, .int .i64 t.wr, .int .i64 t.wtrs, .int .i64 t.wtrl, .int .i64 t.rtw, .int .i64 t.rfc, .int .i64 t.cke, .int .i64 t.xp, .int .i64 t.xs] 32) := by subst hw1; exact heap_alloc_new _ _
  by_cases h : TimOk t
  case neg =>
    have K := Lib.hid (decide_eq_false h)
    have HE : Hid (v = 0) := by show _ = _; rw [← hv]; exact if_neg (fun hh => h hh.1)
    clear hv h
    go_enter Try.func65, Try.ntmps65
    go_wp2_with (first | ((with_reducible refine ld_tm ?_ ?_ p1 ?_); kernel_rfl; kernel_rfl; go_simp))
    refine (specTimOk_is t _ K.out _).mono ?_
    rintro e w2 ⟨rfl, hb2⟩
    have p2 := keep_block hb2 p1 (lt_of_block p1)
    have HB2 : Hid (Below w.heap.size w w2) := HB1.out.trans (hb2.mono HB1.out.size)
    clear hb2 p1 HB1
    go_wp2
    go_ret
    exact ⟨ret_i HE.out.symm, HB2.out⟩
  have K := Lib.hid (decide_eq_true h)
  by_cases ha : 1 ≤ a ∧ a ≤ 9
  case neg =>
    have KA := Lib.hid (decide_eq_false ha)
    have HE : Hid (v = 0) := by show _ = _; rw [← hv]; exact if_neg (fun hh => ha hh.2.1)
    clear hv h ha
    go_enter Try.func65, Try.ntmps65
    go_wp2_with (first | ((with_reducible refine ld_tm ?_ ?_ p1 ?_); kernel_rfl; kernel_rfl; go_simp))
    refine (specTimOk_is t _ K.out _).mono ?_
    rintro e w2 ⟨rfl, hb2⟩
    have p2 := keep_block hb2 p1 (lt_of_block p1)
    have HB2 : Hid (Below w.heap.size w w2) := HB1.out.trans (hb2.mono HB1.out.size)
    clear hb2 p1 HB1
    go_wp2_with fail
    refine (specIn_is _ _ _ _ KA.out _).mono ?_
    rintro e w' ⟨rfl, rfl⟩
    go_wp2
    go_ret
    exact ⟨ret_i HE.out.symm, HB2.out⟩
  have KA := Lib.hid (decide_eq_true ha)
  by_cases hb : 1 ≤ b ∧ b ≤ 9
  case neg =>
    have KB := Lib.hid (decide_eq_false hb)
    have HE : Hid (v = 0) := by show _ = _; rw [← hv]; exact if_neg (fun hh => hb hh.2.2)
    clear hv h ha hb
    go_enter Try.func65, Try.ntmps65
    go_wp2_with (first | ((with_reducible refine ld_tm ?_ ?_ p1 ?_); kernel_rfl; kernel_rfl; go_simp))
    refine (specTimOk_is t _ K.out _).mono ?_
    rintro e w2 ⟨rfl, hb2⟩
    have p2 := keep_block hb2 p1 (lt_of_block p1)
    have HB2 : Hid (Below w.heap.size w w2) := HB1.out.trans (hb2.mono HB1.out.size)
    clear hb2 p1 HB1
    go_wp2_with fail
    refine (specIn_is _ _ _ _ KA.out _).mono ?_
    rintro e w' ⟨rfl, rfl⟩
    go_wp2_with fail
    refine (specIn_is _ _ _ _ KB.out _).mono ?_
    rintro e w' ⟨rfl, rfl⟩
    go_wp2
    go_ret
    exact ⟨ret_i HE.out.symm, HB2.out⟩
  have KB := Lib.hid (decide_eq_true hb)
  have HR : Hid (v = rankR t a b n) := by show _ = _; rw [← hv]; exact if_pos ⟨h, ha, hb⟩
  have HG : Hid (∀ x, bankG t x 1 = bankR t x 1) := fun x => if_pos h
  clear hv h
  go_enter Try.func65, Try.ntmps65
  go_wp2_with (first | ((with_reducible refine ld_tm ?_ ?_ p1 ?_); kernel_rfl; kernel_rfl; go_simp))
  refine (specTimOk_is t _ K.out _).mono ?_
  rintro e w2 ⟨rfl, hb2⟩
  have p2 := keep_block hb2 p1 (lt_of_block p1)
  have HB2 : Hid (Below w.heap.size w w2) := HB1.out.trans (hb2.mono HB1.out.size)
  clear hb2 p1 HB1
  go_wp2_with fail
  refine (specIn_is _ _ _ _ KA.out _).mono ?_
  rintro e w' ⟨rfl, rfl⟩
  go_wp2_with fail
  refine (specIn_is _ _ _ _ KB.out _).mono ?_
  rintro e w' ⟨rfl, rfl⟩
  obtain ⟨c0, c1, c2, c3, c4, c5, c6, c7, c8, c9, c10, c11, c12, c13, c14, c15, c16⟩ := tm_cells p2
  clear hw1 K KA KB
  rcases (show a = 1 ∨ a = 2 ∨ a = 3 ∨ a = 4 ∨ a = 5 ∨ a = 6 ∨ a = 7 ∨ a = 8 ∨ a = 9 by omega) with ha | ha | ha | ha | ha | ha | ha | ha | ha
  · subst ha
    rcases (show b = 1 ∨ b = 6 ∨ b = 8 ∨ ¬ (b = 1 ∨ b = 6 ∨ b = 8) by omega) with hb | hb | hb | hb
    · subst hb
      have HE : Hid (v = nearI n t.rrdl t.rrds) := by show _ = _; rw [HR.out]; rfl
      clear HR
      go_wp2_with fail
      refine (specNear_is _ _ _ _ HE.out.symm _).mono ?_
      rintro e w' ⟨rfl, rfl⟩
      go_wp2
      go_ret
      exact ⟨rfl, HB2.out⟩
    · subst hb
      have HE : Hid (v = 0) := by show _ = _; rw [HR.out]; rfl
      clear HR
      go_wp2
      go_ret
      exact ⟨ret_i HE.out.symm, HB2.out⟩
    · subst hb
      have HE : Hid (bankG t 1 1 = v) := by show _ = _; rw [HR.out, HG.out]; rfl
      clear HR HG
      go_wp2_with (first | ((with_reducible refine ld_tm ?_ ?_ p2 ?_); kernel_rfl; kernel_rfl; go_simp))
      refine (specBankGap_is t _ _ _ HE.out _).mono ?_
      rintro e w3 ⟨rfl, hb3⟩
      have p3 := keep_block hb3 p2 (lt_of_block p2)
      have HB3 : Hid (Below w.heap.size w w3) := HB2.out.trans (hb3.mono HB2.out.size)
      clear hb3 p2 HB2
      go_wp2
      go_ret
      exact ⟨rfl, HB3.out⟩
    · have t1 : ((b : Int) == 1) = false := by simp only [beq_eq_false_iff_ne]; omega
      have t6 : ((b : Int) == 6) = false := by simp only [beq_eq_false_iff_ne]; omega
      have t8 : ((b : Int) == 8) = false := by simp only [beq_eq_false_iff_ne]; omega
      have u : ((1 : Int) == b) = false := by simp only [beq_eq_false_iff_ne]; omega
      have HE : Hid (v = 0) := by
        show _ = _
        rw [HR.out]
        unfold rankR
        iterate 11 rw [if_neg (by omega)]
      clear HR hb
      go_wp2
      go_ret
      exact ⟨ret_i HE.out.symm, HB2.out⟩
  · subst ha
    rcases (show b = 2 ∨ b = 3 ∨ b = 6 ∨ b = 8 ∨ ¬ (b = 2 ∨ b = 3 ∨ b = 6 ∨ b = 8) by omega) with hb | hb | hb | hb | hb
    · subst hb
      have HE : Hid (v = nearI n t.ccdl t.ccds) := by show _ = _; rw [HR.out]; rfl
      clear HR
      go_wp2_with fail
      refine (specNear_is _ _ _ _ HE.out.symm _).mono ?_
      rintro e w' ⟨rfl, rfl⟩
      go_wp2
      go_ret
      exact ⟨rfl, HB2.out⟩
    · subst hb
      have HE : Hid (v = t.rtw) := by show _ = _; rw [HR.out]; rfl
      clear HR
      go_wp2
      go_ret
      exact ⟨ret_i HE.out.symm, HB2.out⟩
    · subst hb
      have HE : Hid (v = t.rtp) := by show _ = _; rw [HR.out]; rfl
      clear HR
      go_wp2
      go_ret
      exact ⟨ret_i HE.out.symm, HB2.out⟩
    · subst hb
      have HE : Hid (bankG t 2 1 = v) := by show _ = _; rw [HR.out, HG.out]; rfl
      clear HR HG
      go_wp2_with (first | ((with_reducible refine ld_tm ?_ ?_ p2 ?_); kernel_rfl; kernel_rfl; go_simp))
      refine (specBankGap_is t _ _ _ HE.out _).mono ?_
      rintro e w3 ⟨rfl, hb3⟩
      have p3 := keep_block hb3 p2 (lt_of_block p2)
      have HB3 : Hid (Below w.heap.size w w3) := HB2.out.trans (hb3.mono HB2.out.size)
      clear hb3 p2 HB2
      go_wp2
      go_ret
      exact ⟨rfl, HB3.out⟩
    · have t2 : ((b : Int) == 2) = false := by simp only [beq_eq_false_iff_ne]; omega
      have t3 : ((b : Int) == 3) = false := by simp only [beq_eq_false_iff_ne]; omega
      have t6 : ((b : Int) == 6) = false := by simp only [beq_eq_false_iff_ne]; omega
      have t8 : ((b : Int) == 8) = false := by simp only [beq_eq_false_iff_ne]; omega
      have u : ((2 : Int) == b) = false := by simp only [beq_eq_false_iff_ne]; omega
      have HE : Hid (v = 0) := by
        show _ = _
        rw [HR.out]
        unfold rankR
        iterate 11 rw [if_neg (by omega)]
      clear HR hb
      go_wp2
      go_ret
      exact ⟨ret_i HE.out.symm, HB2.out⟩
  · subst ha
    rcases (show b = 2 ∨ b = 3 ∨ b = 6 ∨ b = 8 ∨ ¬ (b = 2 ∨ b = 3 ∨ b = 6 ∨ b = 8) by omega) with hb | hb | hb | hb | hb
    · subst hb
      have HE : Hid (v = nearI n t.wtrl t.wtrs) := by show _ = _; rw [HR.out]; rfl
      clear HR
      go_wp2_with fail
      refine (specNear_is _ _ _ _ HE.out.symm _).mono ?_
      rintro e w' ⟨rfl, rfl⟩
      go_wp2
      go_ret
      exact ⟨rfl, HB2.out⟩
    · subst hb
      have HE : Hid (v = nearI n t.ccdl t.ccds) := by show _ = _; rw [HR.out]; rfl
      clear HR
      go_wp2_with fail
      refine (specNear_is _ _ _ _ HE.out.symm _).mono ?_
      rintro e w' ⟨rfl, rfl⟩
      go_wp2
      go_ret
      exact ⟨rfl, HB2.out⟩
    · subst hb
      have HE : Hid (v = t.wr) := by show _ = _; rw [HR.out]; rfl
      clear HR
      go_wp2
      go_ret
      exact ⟨ret_i HE.out.symm, HB2.out⟩
    · subst hb
      have HE : Hid (bankG t 3 1 = v) := by show _ = _; rw [HR.out, HG.out]; rfl
      clear HR HG
      go_wp2_with (first | ((with_reducible refine ld_tm ?_ ?_ p2 ?_); kernel_rfl; kernel_rfl; go_simp))
      refine (specBankGap_is t _ _ _ HE.out _).mono ?_
      rintro e w3 ⟨rfl, hb3⟩
      have p3 := keep_block hb3 p2 (lt_of_block p2)
      have HB3 : Hid (Below w.heap.size w w3) := HB2.out.trans (hb3.mono HB2.out.size)
      clear hb3 p2 HB2
      go_wp2
      go_ret
      exact ⟨rfl, HB3.out⟩
    · have t2 : ((b : Int) == 2) = false := by simp only [beq_eq_false_iff_ne]; omega
      have t3 : ((b : Int) == 3) = false := by simp only [beq_eq_false_iff_ne]; omega
      have t6 : ((b : Int) == 6) = false := by simp only [beq_eq_false_iff_ne]; omega
      have t8 : ((b : Int) == 8) = false := by simp only [beq_eq_false_iff_ne]; omega
      have u : ((3 : Int) == b) = false := by simp only [beq_eq_false_iff_ne]; omega
      have HE : Hid (v = 0) := by
        show _ = _
        rw [HR.out]
        unfold rankR
        iterate 11 rw [if_neg (by omega)]
      clear HR hb
      go_wp2
      go_ret
      exact ⟨ret_i HE.out.symm, HB2.out⟩
  · subst ha
    rcases (show b = 4 ∨ b = 6 ∨ b = 8 ∨ ¬ (b = 4 ∨ b = 6 ∨ b = 8) by omega) with hb | hb | hb | hb
    · subst hb
      have HE : Hid (v = 0) := by show _ = _; rw [HR.out]; rfl
      clear HR
      go_wp2
      go_ret
      exact ⟨ret_i HE.out.symm, HB2.out⟩
    · subst hb
      have HE : Hid (v = 0) := by show _ = _; rw [HR.out]; rfl
      clear HR
      go_wp2
      go_ret
      exact ⟨ret_i HE.out.symm, HB2.out⟩
    · subst hb
      have HE : Hid (bankG t 4 1 = v) := by show _ = _; rw [HR.out, HG.out]; rfl
      clear HR HG
      go_wp2_with (first | ((with_reducible refine ld_tm ?_ ?_ p2 ?_); kernel_rfl; kernel_rfl; go_simp))
      refine (specBankGap_is t _ _ _ HE.out _).mono ?_
      rintro e w3 ⟨rfl, hb3⟩
      have p3 := keep_block hb3 p2 (lt_of_block p2)
      have HB3 : Hid (Below w.heap.size w w3) := HB2.out.trans (hb3.mono HB2.out.size)
      clear hb3 p2 HB2
      go_wp2
      go_ret
      exact ⟨rfl, HB3.out⟩
    · have t4 : ((b : Int) == 4) = false := by simp only [beq_eq_false_iff_ne]; omega
      have t6 : ((b : Int) == 6) = false := by simp only [beq_eq_false_iff_ne]; omega
      have t8 : ((b : Int) == 8) = false := by simp only [beq_eq_false_iff_ne]; omega
      have u : ((4 : Int) == b) = false := by simp only [beq_eq_false_iff_ne]; omega
      have HE : Hid (v = 0) := by
        show _ = _
        rw [HR.out]
        unfold rankR
        iterate 11 rw [if_neg (by omega)]
      clear HR hb
      go_wp2
      go_ret
      exact ⟨ret_i HE.out.symm, HB2.out⟩
  · subst ha
    rcases (show b = 5 ∨ b = 6 ∨ b = 8 ∨ ¬ (b = 5 ∨ b = 6 ∨ b = 8) by omega) with hb | hb | hb | hb
    · subst hb
      have HE : Hid (v = t.rrdl) := by show _ = _; rw [HR.out]; rfl
      clear HR
      go_wp2
      go_ret
      exact ⟨ret_i HE.out.symm, HB2.out⟩
    · subst hb
      have HE : Hid (v = 0) := by show _ = _; rw [HR.out]; rfl
      clear HR
      go_wp2
      go_ret
      exact ⟨ret_i HE.out.symm, HB2.out⟩
    · subst hb
      have HE : Hid (bankG t 5 1 = v) := by show _ = _; rw [HR.out, HG.out]; rfl
      clear HR HG
      go_wp2_with (first | ((with_reducible refine ld_tm ?_ ?_ p2 ?_); kernel_rfl; kernel_rfl; go_simp))
      refine (specBankGap_is t _ _ _ HE.out _).mono ?_
      rintro e w3 ⟨rfl, hb3⟩
      have p3 := keep_block hb3 p2 (lt_of_block p2)
      have HB3 : Hid (Below w.heap.size w w3) := HB2.out.trans (hb3.mono HB2.out.size)
      clear hb3 p2 HB2
      go_wp2
      go_ret
      exact ⟨rfl, HB3.out⟩
    · have t5 : ((b : Int) == 5) = false := by simp only [beq_eq_false_iff_ne]; omega
      have t6 : ((b : Int) == 6) = false := by simp only [beq_eq_false_iff_ne]; omega
      have t8 : ((b : Int) == 8) = false := by simp only [beq_eq_false_iff_ne]; omega
      have u : ((5 : Int) == b) = false := by simp only [beq_eq_false_iff_ne]; omega
      have HE : Hid (v = 0) := by
        show _ = _
        rw [HR.out]
        unfold rankR
        iterate 11 rw [if_neg (by omega)]
      clear HR hb
      go_wp2
      go_ret
      exact ⟨ret_i HE.out.symm, HB2.out⟩
  · subst ha
    rcases (show b = 6 ∨ b = 7 ∨ b = 8 ∨ ¬ (b = 6 ∨ b = 7 ∨ b = 8) by omega) with hb | hb | hb | hb
    · subst hb
      have HE : Hid (v = 0) := by show _ = _; rw [HR.out]; rfl
      clear HR
      go_wp2
      go_ret
      exact ⟨ret_i HE.out.symm, HB2.out⟩
    · subst hb
      have HE : Hid (v = t.cke) := by show _ = _; rw [HR.out]; rfl
      clear HR
      go_wp2
      go_ret
      exact ⟨ret_i HE.out.symm, HB2.out⟩
    · subst hb
      have HE : Hid (bankG t 6 1 = v) := by show _ = _; rw [HR.out, HG.out]; rfl
      clear HR HG
      go_wp2_with (first | ((with_reducible refine ld_tm ?_ ?_ p2 ?_); kernel_rfl; kernel_rfl; go_simp))
      refine (specBankGap_is t _ _ _ HE.out _).mono ?_
      rintro e w3 ⟨rfl, hb3⟩
      have p3 := keep_block hb3 p2 (lt_of_block p2)
      have HB3 : Hid (Below w.heap.size w w3) := HB2.out.trans (hb3.mono HB2.out.size)
      clear hb3 p2 HB2
      go_wp2
      go_ret
      exact ⟨rfl, HB3.out⟩
    · have t6 : ((b : Int) == 6) = false := by simp only [beq_eq_false_iff_ne]; omega
      have t7 : ((b : Int) == 7) = false := by simp only [beq_eq_false_iff_ne]; omega
      have t8 : ((b : Int) == 8) = false := by simp only [beq_eq_false_iff_ne]; omega
      have u : ((6 : Int) == b) = false := by simp only [beq_eq_false_iff_ne]; omega
      have HE : Hid (v = 0) := by
        show _ = _
        rw [HR.out]
        unfold rankR
        iterate 11 rw [if_neg (by omega)]
      clear HR hb
      go_wp2
      go_ret
      exact ⟨ret_i HE.out.symm, HB2.out⟩
  · subst ha
    have HE : Hid (v = t.xp) := by show _ = _; rw [HR.out]; rfl
    clear HR
    go_wp2
    go_ret
    exact ⟨ret_i HE.out.symm, HB2.out⟩
  · subst ha
    rcases (show b = 6 ∨ b = 8 ∨ b = 9 ∨ ¬ (b = 6 ∨ b = 8 ∨ b = 9) by omega) with hb | hb | hb | hb
    · subst hb
      have HE : Hid (v = 0) := by show _ = _; rw [HR.out]; rfl
      clear HR
      go_wp2
      go_ret
      exact ⟨ret_i HE.out.symm, HB2.out⟩
    · subst hb
      have HE : Hid (bankG t 8 1 = v) := by show _ = _; rw [HR.out, HG.out]; rfl
      clear HR HG
      go_wp2_with (first | ((with_reducible refine ld_tm ?_ ?_ p2 ?_); kernel_rfl; kernel_rfl; go_simp))
      refine (specBankGap_is t _ _ _ HE.out _).mono ?_
      rintro e w3 ⟨rfl, hb3⟩
      have p3 := keep_block hb3 p2 (lt_of_block p2)
      have HB3 : Hid (Below w.heap.size w w3) := HB2.out.trans (hb3.mono HB2.out.size)
      clear hb3 p2 HB2
      go_wp2
      go_ret
      exact ⟨rfl, HB3.out⟩
    · subst hb
      have HE : Hid (v = t.cke) := by show _ = _; rw [HR.out]; rfl
      clear HR
      go_wp2
      go_ret
      exact ⟨ret_i HE.out.symm, HB2.out⟩
    · have t6 : ((b : Int) == 6) = false := by simp only [beq_eq_false_iff_ne]; omega
      have t8 : ((b : Int) == 8) = false := by simp only [beq_eq_false_iff_ne]; omega
      have t9 : ((b : Int) == 9) = false := by simp only [beq_eq_false_iff_ne]; omega
      have u : ((8 : Int) == b) = false := by simp only [beq_eq_false_iff_ne]; omega
      have HE : Hid (v = 0) := by
        show _ = _
        rw [HR.out]
        unfold rankR
        iterate 11 rw [if_neg (by omega)]
      clear HR hb
      go_wp2
      go_ret
      exact ⟨ret_i HE.out.symm, HB2.out⟩
  · subst ha
    have HE : Hid (v = t.xs) := by show _ = _; rw [HR.out]; rfl
    clear HR
    go_wp2
    go_ret
    exact ⟨ret_i HE.out.symm, HB2.out⟩

end Go.Proofs.Ytihhcnckoeaihaa
