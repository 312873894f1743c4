/-
  The model's timings: their numbers in a row, valid ones, the distances of two commands of a bank.
-/
import Derived.Test.YtihhcnckoeaihaaTimC
namespace Go.Proofs.Ytihhcnckoeaihaa
open Go.RowKit

set_option linter.unusedVariables false

theorem specList_is (t : Tm) (w : World) :
    Calls Try.prog 44 #[.agg #[.int .i64 t.rcd, .int .i64 t.rp, .int .i64 t.ras, .int .i64 t.rrds, .int .i64 t.rrdl, .int .i64 t.faw, .int .i64 t.ccds, .int .i64 t.ccdl, .int .i64 t.rtp, .int .i64 t.wr, .int .i64 t.wtrs, .int .i64 t.wtrl, .int .i64 t.rtw, .int .i64 t.rfc, .int .i64 t.cke, .int .i64 t.xp, .int .i64 t.xs]] w fun e w' => ∃ g, e = .returned (.slice (some ⟨g, 0, none⟩) 17 17) ∧ w'.heap[g]? = some (.cells #[.int .i64 t.rcd, .int .i64 t.rp, .int .i64 t.ras, .int .i64 t.rrds, .int .i64 t.rrdl, .int .i64 t.faw, .int .i64 t.ccds, .int .i64 t.ccdl, .int .i64 t.rtp, .int .i64 t.wr, .int .i64 t.wtrs, .int .i64 t.wtrl, .int .i64 t.rtw, .int .i64 t.rfc, .int .i64 t.cke, .int .i64 t.xp, .int .i64 t.xs] 3) ∧ Below w.heap.size w w' := by
  obtain ⟨w1, hw1⟩ : ∃ u, w.alloc (.cells #[.int .i64 t.rcd, .int .i64 t.rp, .int .i64 t.ras, .int .i64 t.rrds, .int .i64 t.rrdl, .int .i64 t.faw, .int .i64 t.ccds, .int .i64 t.ccdl, .int .i64 t.rtp, .int .i64 t.wr, .int .i64 t.wtrs, .int .i64 t.wtrl, .int .i64 t.rtw, .int .i64 t.rfc, .int .i64 t.cke, .int .i64 t.xp, .int .i64 t.xs] 32) = u := ⟨_, rfl⟩
  have HB1 : Hid (Below w.heap.size w w1) := by subst hw1; exact (Below.refl _ _).alloc (Nat.le_refl _) _
  have p1 : w1.heap[w.heap.size]? = some (.cells #[.int .i64 t.rcd, .int .i64 t.rp, .int .i64 t.ras, .int .i64 t.rrds, .int .i64 t.rrdl, .int .i64 t.faw, .int .i64 t.ccds, .int .i64 t.ccdl, .int .i64 t.rtp, .int .i64 t.wr, .int .i64 t.wtrs, .int .i64 t.wtrl, .int .i64 t.rtw, .int .i64 t.rfc, .int .i64 t.cke, .int .i64 t.xp, .int .i64 t.xs] 32) := by subst hw1; exact heap_alloc_new _ _
  obtain ⟨c0, c1, c2, c3, c4, c5, c6, c7, c8, c9, c10, c11, c12, c13, c14, c15, c16⟩ := tm_cells p1
  clear p1
  go_enter Try.func44, Try.ntmps44
  go_wp2
  go_ret
  exact ⟨_, rfl, heap_alloc_new _ _, HB1.out.alloc HB1.out.size _⟩

set_option maxHeartbeats 4000000 in
theorem specTimOk_is (t : Tm) (v : Bool) (hv : decide (TimOk t) = v) (w : World) :
    Calls Try.prog 25 #[.agg #[.int .i64 t.rcd, .int .i64 t.rp, .int .i64 t.ras, .int .i64 t.rrds, .int .i64 t.rrdl, .int .i64 t.faw, .int .i64 t.ccds, .int .i64 t.ccdl, .int .i64 t.rtp, .int .i64 t.wr, .int .i64 t.wtrs, .int .i64 t.wtrl, .int .i64 t.rtw, .int .i64 t.rfc, .int .i64 t.cke, .int .i64 t.xp, .int .i64 t.xs]] w (Gives (.bool v) w) := by
  have HV := Lib.hid hv
  obtain ⟨w1, hw1⟩ : ∃ u, w.alloc (.cells #[.int .i64 t.rcd, .int .i64 t.rp, .int .i64 t.ras, .int .i64 t.rrds, .int .i64 t.rrdl, .int .i64 t.faw, .int .i64 t.ccds, .int .i64 t.ccdl, .int .i64 t.rtp, .int .i64 t.wr, .int .i64 t.wtrs, .int .i64 t.wtrl, .int .i64 t.rtw, .int .i64 t.rfc, .int .i64 t.cke, .int .i64 t.xp, .int .i64 t.xs] 32) = u := ⟨_, rfl⟩
  have HB1 : Hid (Below w.heap.size w w1) := by subst hw1; exact (Below.refl _ _).alloc (Nat.le_refl _) _
  have p1 : w1.heap[w.heap.size]? = some (.cells #[.int .i64 t.rcd, .int .i64 t.rp, .int .i64 t.ras, .int .i64 t.rrds, .int .i64 t.rrdl, .int .i64 t.faw, .int .i64 t.ccds, .int .i64 t.ccdl, .int .i64 t.rtp, .int .i64 t.wr, .int .i64 t.wtrs, .int .i64 t.wtrl, .int .i64 t.rtw, .int .i64 t.rfc, .int .i64 t.cke, .int .i64 t.xp, .int .i64 t.xs] 32) := by subst hw1; exact heap_alloc_new _ _
  clear hv
  go_enter Try.func25, Try.ntmps25
  go_wp2_with (first | ((with_reducible refine ld_tm ?_ ?_ p1 ?_); kernel_rfl; kernel_rfl; go_simp))
  refine (specList_is t _).mono ?_
  rintro e w2 ⟨g, rfl, hg, hb2⟩
  have p2 := keep_block hb2 p1 (lt_of_block p1)
  have HB2 : Hid (Below w.heap.size w w2) := HB1.out.trans (hb2.mono HB1.out.size)
  have ROW := Lib.hid (tm_row hg)
  clear hb2 p1 HB1 hw1 hg
  go_wp2_with fail
  go_loop [4] (fun i => ∃ j : Nat, j ≤ 17 ∧ i = .int .i64 (j : Int) ∧ ∀ m, m < j → In64 (t.l.getD m 0)) (fun i => 18 - (intOf i).toNat)
  case atStart => exact ⟨0, by omega, rfl, fun m hm => absurd hm (Nat.not_lt_zero _)⟩
  case round =>
    obtain ⟨j, hj, rfl, hok⟩ := hrel
    have HOK := Lib.hid hok
    clear hok
    by_cases hlt : j < 17
    · have hI : (j : Int) < 17 := by omega
      have cj := ROW.out j hlt
      obtain ⟨x, hx⟩ : ∃ x, t.l.getD j 0 = x := ⟨_, rfl⟩
      rw [hx] at cj
      have HX := Lib.hid hx
      clear hx
      by_cases hin : In64 x
      · have KI : Hid (decide (1 ≤ x ∧ x ≤ 64) = true) := decide_eq_true hin
        have HOK2 : Hid (∀ m, m < j + 1 → In64 (t.l.getD m 0)) := fun m hm => by
          rcases Nat.lt_succ_iff_lt_or_eq.1 hm with h | h
          · exact HOK.out m h
          · subst h; rw [HX.out]; exact hin
        clear hin
        go_wp2_with fail
        refine (specIn_is _ _ _ _ KI.out _).mono ?_
        rintro e w' ⟨rfl, rfl⟩
        go_wp2
        go_round
        case rel => exact ⟨j + 1, by omega, by go_num, HOK2.out⟩
        case measure => simp [intOf]; omega
      · have KI : Hid (decide (1 ≤ x ∧ x ≤ 64) = false) := decide_eq_false hin
        have HE : Hid (v = false) := by
          show _ = _
          rw [← HV.out]
          exact decide_eq_false fun h => hin (by rw [← HX.out]; exact tm_all.1 h.1 j hlt)
        clear hin
        go_wp2_with fail
        refine (specIn_is _ _ _ _ KI.out _).mono ?_
        rintro e w' ⟨rfl, rfl⟩
        go_wp2
        go_ret
        exact ⟨ret_b HE.out.symm, HB2.out⟩
    · obtain rfl : j = 17 := by omega
      (try rw [show ((17 : Nat) : Int) = 17 from rfl])
      obtain ⟨c0, _, c2, c3, c4, _, c6, c7, _, _, c10, c11, _⟩ := tm_cells p2
      have HE : Hid (v = (decide (t.rcd ≤ t.ras) && (decide (t.rrds ≤ t.rrdl) && (decide (t.ccds ≤ t.ccdl) && decide (t.wtrs ≤ t.wtrl))))) := by
        show _ = _
        rw [← HV.out, Bool.eq_iff_iff]
        simp only [Bool.and_eq_true, decide_eq_true_eq]
        exact ⟨fun h => ⟨h.2.1, h.2.2.1, h.2.2.2.1, h.2.2.2.2⟩, fun h => ⟨tm_all.2 HOK.out, h⟩⟩
      obtain ⟨q0, hq0⟩ : ∃ q, decide (t.rcd ≤ t.ras) = q := ⟨_, rfl⟩
      obtain ⟨q1, hq1⟩ : ∃ q, decide (t.rrds ≤ t.rrdl) = q := ⟨_, rfl⟩
      obtain ⟨q2, hq2⟩ : ∃ q, decide (t.ccds ≤ t.ccdl) = q := ⟨_, rfl⟩
      obtain ⟨q3, hq3⟩ : ∃ q, decide (t.wtrs ≤ t.wtrl) = q := ⟨_, rfl⟩
      rw [hq0, hq1, hq2, hq3] at HE
      clear p2 ROW HOK hj hlt
      cases q0
      · go_wp2
        go_ret
        exact ⟨ret_b HE.out.symm, HB2.out⟩
      cases q1
      · go_wp2
        go_ret
        exact ⟨ret_b HE.out.symm, HB2.out⟩
      cases q2
      · go_wp2
        go_ret
        exact ⟨ret_b HE.out.symm, HB2.out⟩
      go_wp2
      go_ret
      exact ⟨ret_b HE.out.symm, HB2.out⟩

def fastV : Value := .agg #[.int .i64 3, .int .i64 3, .int .i64 7, .int .i64 2, .int .i64 3, .int .i64 10, .int .i64 2, .int .i64 3, .int .i64 3, .int .i64 6, .int .i64 4, .int .i64 5, .int .i64 4, .int .i64 12, .int .i64 3, .int .i64 4, .int .i64 16]

set_option maxHeartbeats 16000000 in
theorem specBankGap_is (t : Tm) (a b v : Int) (hv : bankG t a b = v) (w : World) :
    Calls Try.prog 66 #[.agg #[.int .i64 t.rcd, .int .i64 t.rp, .int .i64 t.ras, .int .i64 t.rrds, .int .i64 t.rrdl, .int .i64 t.faw, .int .i64 t.ccds, .int .i64 t.ccdl, .int .i64 t.rtp, .int .i64 t.wr, .int .i64 t.wtrs, .int .i64 t.wtrl, .int .i64 t.rtw, .int .i64 t.rfc, .int .i64 t.cke, .int .i64 t.xp, .int .i64 t.xs], .int .i64 a, .int .i64 b] w (Gives (.int .i64 v) w) := by
  obtain ⟨w1, hw1⟩ : ∃ u, w.alloc (.cells #[.int .i64 t.rcd, .int .i64 t.rp, .int .i64 t.ras, .int .i64 t.rrds, .int .i64 t.rrdl, .int .i64 t.faw, .int .i64 t.ccds, .int .i64 t.ccdl, .int .i64 t.rtp, .int .i64 t.wr, .int .i64 t.wtrs, .int .i64 t.wtrl, .int .i64 t.rtw, .int .i64 t.rfc, .int .i64 t.cke, .int .i64 t.xp, .int .i64 t.xs] 32) = u := ⟨_, rfl⟩
  have HB1 : Hid (Below w.heap.size w w1) := by subst hw1; exact (Below.refl _ _).alloc (Nat.le_refl _) _
  have p1 : w1.heap[w.heap.size]? = some (.cells #[.int .i64 t.rcd, .int .i64 t.rp, .int .i64 t.ras, .int .i64 t.rrds, .int .i64 t.rrdl, .int .i64 t.faw, .int .i64 t.ccds, .int .i64 t.ccdl, .int .i64 t.rtp, .int .i64 t.wr, .int .i64 t.wtrs, .int .i64 t.wtrl, .int .i64 t.rtw, .int .i64 t.rfc, .int .i64 t.cke, .int .i64 t.xp, .int .i64 t.xs] 32) := by subst hw1; exact heap_alloc_new _ _
  by_cases h : TimOk t
  case neg =>
    have K := Lib.hid (decide_eq_false h)
    have HE : Hid (v = 0) := by show _ = _; rw [← hv]; exact if_neg h
    clear hv h
    go_enter Try.func66, Try.ntmps66
    go_wp2_with (first | ((with_reducible refine ld_tm ?_ ?_ p1 ?_); kernel_rfl; kernel_rfl; go_simp))
    refine (specTimOk_is t _ K.out _).mono ?_
    rintro e w2 ⟨rfl, hb2⟩
    have HB2 : Hid (Below w.heap.size w w2) := HB1.out.trans (hb2.mono HB1.out.size)
    clear hb2
    go_wp2
    go_ret
    exact ⟨ret_i HE.out.symm, HB2.out⟩
  have K := Lib.hid (decide_eq_true h)
  have HR : Hid (v = bankR t a b) := by show _ = _; rw [← hv]; exact if_pos h
  obtain ⟨n0, n1, n2, n3, n4, n5, n6, n7, n8, n9, n10, n11, n12, n13, n14, n15, n16⟩ := h.nums
  unfold In64 at *
  have e1 : IntKind.i64.wrap (t.ras + t.rp) = t.ras + t.rp := IntWalk.i64_in _ ⟨by omega, by omega⟩
  have e2 : IntKind.i64.wrap (t.rtp + t.rp) = t.rtp + t.rp := IntWalk.i64_in _ ⟨by omega, by omega⟩
  have e3 : IntKind.i64.wrap (t.wr + t.rp) = t.wr + t.rp := IntWalk.i64_in _ ⟨by omega, by omega⟩
  clear hv h n0 n1 n2 n3 n4 n5 n6 n7 n8 n9 n10 n11 n12 n13 n14 n15 n16
  go_enter Try.func66, Try.ntmps66
  go_wp2_with (first | ((with_reducible refine ld_tm ?_ ?_ p1 ?_); kernel_rfl; kernel_rfl; go_simp))
  refine (specTimOk_is t _ K.out _).mono ?_
  rintro e w2 ⟨rfl, hb2⟩
  have p2 := keep_block hb2 p1 (lt_of_block p1)
  have HB2 : Hid (Below w.heap.size w w2) := HB1.out.trans (hb2.mono HB1.out.size)
  clear hb2 p1 HB1 hw1
  obtain ⟨c0, c1, c2, _, _, _, _, _, c8, c9, _, _, _, c13, _⟩ := tm_cells p2
  clear p2
  rcases (show a = 1 ∨ a = 2 ∨ a = 3 ∨ a = 4 ∨ a = 5 ∨ ¬ (1 ≤ a ∧ a ≤ 5) by omega) with ha | ha | ha | ha | ha | ha
  · subst ha
    rcases (show b = 1 ∨ b = 2 ∨ b = 3 ∨ b = 4 ∨ b = 5 ∨ ¬ (1 ≤ b ∧ b ≤ 5) by omega) with hb | hb | hb | hb | hb | hb
    · subst hb
      have HE : Hid (v = t.ras + t.rp) := by show _ = _; rw [HR.out]; simp [bankR]
      clear HR
      go_wp2
      go_ret
      exact ⟨ret_i HE.out.symm, HB2.out⟩
    · subst hb
      have HE : Hid (v = t.rcd) := by show _ = _; rw [HR.out]; simp [bankR]
      clear HR
      go_wp2
      go_ret
      exact ⟨ret_i HE.out.symm, HB2.out⟩
    · subst hb
      have HE : Hid (v = t.rcd) := by show _ = _; rw [HR.out]; simp [bankR]
      clear HR
      go_wp2
      go_ret
      exact ⟨ret_i HE.out.symm, HB2.out⟩
    · subst hb
      have HE : Hid (v = t.ras) := by show _ = _; rw [HR.out]; simp [bankR]
      clear HR
      go_wp2
      go_ret
      exact ⟨ret_i HE.out.symm, HB2.out⟩
    · subst hb
      have HE : Hid (v = t.ras + t.rp) := by show _ = _; rw [HR.out]; simp [bankR]
      clear HR
      go_wp2
      go_ret
      exact ⟨ret_i HE.out.symm, HB2.out⟩
    · have t1 : ((b : Int) == 1) = false := by simp only [beq_eq_false_iff_ne]; omega
      have t2 : ((b : Int) == 2) = false := by simp only [beq_eq_false_iff_ne]; omega
      have t3 : ((b : Int) == 3) = false := by simp only [beq_eq_false_iff_ne]; omega
      have t4 : ((b : Int) == 4) = false := by simp only [beq_eq_false_iff_ne]; omega
      have t5 : ((b : Int) == 5) = false := by simp only [beq_eq_false_iff_ne]; omega
      have HR0 : Hid (v = 0) := by
        show _ = _
        rw [HR.out]
        unfold bankR
        simp only [show ¬ b = 1 by omega, show ¬ b = 2 by omega, show ¬ b = 3 by omega, show ¬ b = 4 by omega, show ¬ b = 5 by omega, or_self, if_false]
        decide
      clear hb HR
      go_wp2
      go_ret
      exact ⟨ret_i HR0.out.symm, HB2.out⟩
  · subst ha
    rcases (show b = 1 ∨ b = 2 ∨ b = 3 ∨ b = 4 ∨ b = 5 ∨ ¬ (1 ≤ b ∧ b ≤ 5) by omega) with hb | hb | hb | hb | hb | hb
    · subst hb
      have HE : Hid (v = t.rtp + t.rp) := by show _ = _; rw [HR.out]; simp [bankR]
      clear HR
      go_wp2
      go_ret
      exact ⟨ret_i HE.out.symm, HB2.out⟩
    · subst hb
      have HE : Hid (v = 0) := by show _ = _; rw [HR.out]; simp [bankR]
      clear HR
      go_wp2
      go_ret
      exact ⟨ret_i HE.out.symm, HB2.out⟩
    · subst hb
      have HE : Hid (v = 0) := by show _ = _; rw [HR.out]; simp [bankR]
      clear HR
      go_wp2
      go_ret
      exact ⟨ret_i HE.out.symm, HB2.out⟩
    · subst hb
      have HE : Hid (v = t.rtp) := by show _ = _; rw [HR.out]; simp [bankR]
      clear HR
      go_wp2
      go_ret
      exact ⟨ret_i HE.out.symm, HB2.out⟩
    · subst hb
      have HE : Hid (v = t.rtp + t.rp) := by show _ = _; rw [HR.out]; simp [bankR]
      clear HR
      go_wp2
      go_ret
      exact ⟨ret_i HE.out.symm, HB2.out⟩
    · have t1 : ((b : Int) == 1) = false := by simp only [beq_eq_false_iff_ne]; omega
      have t2 : ((b : Int) == 2) = false := by simp only [beq_eq_false_iff_ne]; omega
      have t3 : ((b : Int) == 3) = false := by simp only [beq_eq_false_iff_ne]; omega
      have t4 : ((b : Int) == 4) = false := by simp only [beq_eq_false_iff_ne]; omega
      have t5 : ((b : Int) == 5) = false := by simp only [beq_eq_false_iff_ne]; omega
      have HR0 : Hid (v = 0) := by
        show _ = _
        rw [HR.out]
        unfold bankR
        simp only [show ¬ b = 1 by omega, show ¬ b = 2 by omega, show ¬ b = 3 by omega, show ¬ b = 4 by omega, show ¬ b = 5 by omega, or_self, if_false]
        decide
      clear hb HR
      go_wp2
      go_ret
      exact ⟨ret_i HR0.out.symm, HB2.out⟩
  · subst ha
    rcases (show b = 1 ∨ b = 2 ∨ b = 3 ∨ b = 4 ∨ b = 5 ∨ ¬ (1 ≤ b ∧ b ≤ 5) by omega) with hb | hb | hb | hb | hb | hb
    · subst hb
      have HE : Hid (v = t.wr + t.rp) := by show _ = _; rw [HR.out]; simp [bankR]
      clear HR
      go_wp2
      go_ret
      exact ⟨ret_i HE.out.symm, HB2.out⟩
    · subst hb
      have HE : Hid (v = 0) := by show _ = _; rw [HR.out]; simp [bankR]
      clear HR
      go_wp2
      go_ret
      exact ⟨ret_i HE.out.symm, HB2.out⟩
    · subst hb
      have HE : Hid (v = 0) := by show _ = _; rw [HR.out]; simp [bankR]
      clear HR
      go_wp2
      go_ret
      exact ⟨ret_i HE.out.symm, HB2.out⟩
    · subst hb
      have HE : Hid (v = t.wr) := by show _ = _; rw [HR.out]; simp [bankR]
      clear HR
      go_wp2
      go_ret
      exact ⟨ret_i HE.out.symm, HB2.out⟩
    · subst hb
      have HE : Hid (v = t.wr + t.rp) := by show _ = _; rw [HR.out]; simp [bankR]
      clear HR
      go_wp2
      go_ret
      exact ⟨ret_i HE.out.symm, HB2.out⟩
    · have t1 : ((b : Int) == 1) = false := by simp only [beq_eq_false_iff_ne]; omega
      have t2 : ((b : Int) == 2) = false := by simp only [beq_eq_false_iff_ne]; omega
      have t3 : ((b : Int) == 3) = false := by simp only [beq_eq_false_iff_ne]; omega
      have t4 : ((b : Int) == 4) = false := by simp only [beq_eq_false_iff_ne]; omega
      have t5 : ((b : Int) == 5) = false := by simp only [beq_eq_false_iff_ne]; omega
      have HR0 : Hid (v = 0) := by
        show _ = _
        rw [HR.out]
        unfold bankR
        simp only [show ¬ b = 1 by omega, show ¬ b = 2 by omega, show ¬ b = 3 by omega, show ¬ b = 4 by omega, show ¬ b = 5 by omega, or_self, if_false]
        decide
      clear hb HR
      go_wp2
      go_ret
      exact ⟨ret_i HR0.out.symm, HB2.out⟩
  · subst ha
    rcases (show b = 1 ∨ b = 2 ∨ b = 3 ∨ b = 4 ∨ b = 5 ∨ ¬ (1 ≤ b ∧ b ≤ 5) by omega) with hb | hb | hb | hb | hb | hb
    · subst hb
      have HE : Hid (v = t.rp) := by show _ = _; rw [HR.out]; simp [bankR]
      clear HR
      go_wp2
      go_ret
      exact ⟨ret_i HE.out.symm, HB2.out⟩
    · subst hb
      have HE : Hid (v = 0) := by show _ = _; rw [HR.out]; simp [bankR]
      clear HR
      go_wp2
      go_ret
      exact ⟨ret_i HE.out.symm, HB2.out⟩
    · subst hb
      have HE : Hid (v = 0) := by show _ = _; rw [HR.out]; simp [bankR]
      clear HR
      go_wp2
      go_ret
      exact ⟨ret_i HE.out.symm, HB2.out⟩
    · subst hb
      have HE : Hid (v = 0) := by show _ = _; rw [HR.out]; simp [bankR]
      clear HR
      go_wp2
      go_ret
      exact ⟨ret_i HE.out.symm, HB2.out⟩
    · subst hb
      have HE : Hid (v = t.rp) := by show _ = _; rw [HR.out]; simp [bankR]
      clear HR
      go_wp2
      go_ret
      exact ⟨ret_i HE.out.symm, HB2.out⟩
    · have t1 : ((b : Int) == 1) = false := by simp only [beq_eq_false_iff_ne]; omega
      have t2 : ((b : Int) == 2) = false := by simp only [beq_eq_false_iff_ne]; omega
      have t3 : ((b : Int) == 3) = false := by simp only [beq_eq_false_iff_ne]; omega
      have t4 : ((b : Int) == 4) = false := by simp only [beq_eq_false_iff_ne]; omega
      have t5 : ((b : Int) == 5) = false := by simp only [beq_eq_false_iff_ne]; omega
      have HR0 : Hid (v = 0) := by
        show _ = _
        rw [HR.out]
        unfold bankR
        simp only [show ¬ b = 1 by omega, show ¬ b = 2 by omega, show ¬ b = 3 by omega, show ¬ b = 4 by omega, show ¬ b = 5 by omega, or_self, if_false]
        decide
      clear hb HR
      go_wp2
      go_ret
      exact ⟨ret_i HR0.out.symm, HB2.out⟩
  · subst ha
    rcases (show b = 1 ∨ b = 2 ∨ b = 3 ∨ b = 4 ∨ b = 5 ∨ ¬ (1 ≤ b ∧ b ≤ 5) by omega) with hb | hb | hb | hb | hb | hb
    · subst hb
      have HE : Hid (v = t.rfc) := by show _ = _; rw [HR.out]; simp [bankR]
      clear HR
      go_wp2
      go_ret
      exact ⟨ret_i HE.out.symm, HB2.out⟩
    · subst hb
      have HE : Hid (v = 0) := by show _ = _; rw [HR.out]; simp [bankR]
      clear HR
      go_wp2
      go_ret
      exact ⟨ret_i HE.out.symm, HB2.out⟩
    · subst hb
      have HE : Hid (v = 0) := by show _ = _; rw [HR.out]; simp [bankR]
      clear HR
      go_wp2
      go_ret
      exact ⟨ret_i HE.out.symm, HB2.out⟩
    · subst hb
      have HE : Hid (v = 0) := by show _ = _; rw [HR.out]; simp [bankR]
      clear HR
      go_wp2
      go_ret
      exact ⟨ret_i HE.out.symm, HB2.out⟩
    · subst hb
      have HE : Hid (v = t.rfc) := by show _ = _; rw [HR.out]; simp [bankR]
      clear HR
      go_wp2
      go_ret
      exact ⟨ret_i HE.out.symm, HB2.out⟩
    · have t1 : ((b : Int) == 1) = false := by simp only [beq_eq_false_iff_ne]; omega
      have t2 : ((b : Int) == 2) = false := by simp only [beq_eq_false_iff_ne]; omega
      have t3 : ((b : Int) == 3) = false := by simp only [beq_eq_false_iff_ne]; omega
      have t4 : ((b : Int) == 4) = false := by simp only [beq_eq_false_iff_ne]; omega
      have t5 : ((b : Int) == 5) = false := by simp only [beq_eq_false_iff_ne]; omega
      have HR0 : Hid (v = 0) := by
        show _ = _
        rw [HR.out]
        unfold bankR
        simp only [show ¬ b = 1 by omega, show ¬ b = 2 by omega, show ¬ b = 3 by omega, show ¬ b = 4 by omega, show ¬ b = 5 by omega, or_self, if_false]
        decide
      clear hb HR
      go_wp2
      go_ret
      exact ⟨ret_i HR0.out.symm, HB2.out⟩
  · have s1 : ((a : Int) == 1) = false := by simp only [beq_eq_false_iff_ne]; omega
    have s2 : ((a : Int) == 2) = false := by simp only [beq_eq_false_iff_ne]; omega
    have s3 : ((a : Int) == 3) = false := by simp only [beq_eq_false_iff_ne]; omega
    have s4 : ((a : Int) == 4) = false := by simp only [beq_eq_false_iff_ne]; omega
    have s5 : ((a : Int) == 5) = false := by simp only [beq_eq_false_iff_ne]; omega
    have HE : Hid (v = 0) := by
      show _ = _
      rw [HR.out]
      unfold bankR
      rw [if_neg (by omega), if_neg (by omega), if_neg (by omega), if_neg (by omega), if_neg (by omega)]
    clear ha HR
    by_cases hb : b = 1
    · subst hb
      go_wp2
      go_ret
      exact ⟨ret_i HE.out.symm, HB2.out⟩
    · have t1 : ((b : Int) == 1) = false := by simp only [beq_eq_false_iff_ne]; exact hb
      clear hb
      go_wp2
      go_ret
      exact ⟨ret_i HE.out.symm, HB2.out⟩

theorem specNear_is (n : Bool) (x y v : Int) (hv : nearI n x y = v) (w : World) :
    Calls Try.prog 76 #[.bool n, .int .i64 x, .int .i64 y] w (Says (.int .i64 v) w) := by
  have HV := Lib.hid hv
  clear hv
  cases n
  · go_enter Try.func76, Try.ntmps76
    go_wp2
    go_ret
    exact ⟨ret_i HV.out, rfl⟩
  · go_enter Try.func76, Try.ntmps76
    go_wp2
    go_ret
    exact ⟨ret_i HV.out, rfl⟩

end Go.Proofs.Ytihhcnckoeaihaa
