/-
  impl's valid timings and the distances of two commands of a bank and of a rank.
-/
import Derived.Test.YtihhcnckoeaihaaTimU
namespace Go.Proofs.Ytihhcnckoeaihaa
open Go.RowKit

set_option linter.unusedVariables false

theorem implKindOk_is (k : Int) (v : Bool) (hv : decide (1 ≤ k ∧ k ≤ 9) = v) (w : World) : Calls Try.prog 87 #[.int .i64 k] w (Says (.bool v) w) := by
  by_cases h0 : 1 ≤ k
  · by_cases h1 : k ≤ 9
    · have HE : Hid (v = true) := by show _ = _; rw [← hv]; exact decide_eq_true ⟨h0, h1⟩
      clear hv
      go_enter Try.func87, Try.ntmps87
      go_wp2
      go_ret
      exact ⟨ret_b HE.out.symm, rfl⟩
    · have HE : Hid (v = false) := by show _ = _; rw [← hv]; exact decide_eq_false (by omega)
      clear hv
      go_enter Try.func87, Try.ntmps87
      go_wp2
      go_ret
      exact ⟨ret_b HE.out.symm, rfl⟩
  · have HE : Hid (v = false) := by show _ = _; rw [← hv]; exact decide_eq_false (by omega)
    clear hv
    go_enter Try.func87, Try.ntmps87
    go_wp2
    go_ret
    exact ⟨ret_b HE.out.symm, rfl⟩

theorem implUses_is (k : Int) (v : Bool) (hv : decide (k < 6) = v) (w : World) : Calls Try.prog 90 #[.int .i64 k] w (Says (.bool v) w) := by
  have HV := Lib.hid hv
  clear hv
  go_enter Try.func90, Try.ntmps90
  go_wp2
  go_ret
  exact ⟨ret_b HV.out, rfl⟩

theorem implNums_is (t : Tm) (w : World) : Calls Try.prog 52 #[.agg #[.int .i64 t.rcd, .int .i64 t.rp, .int .i64 t.ras, .int .i64 t.rrds, .int .i64 t.rrdl, .int .i64 t.faw, .int .i64 t.ccds, .int .i64 t.ccdl, .int .i64 t.rtp, .int .i64 t.wr, .int .i64 t.wtrs, .int .i64 t.wtrl, .int .i64 t.rtw, .int .i64 t.rfc, .int .i64 t.cke, .int .i64 t.xp, .int .i64 t.xs]] w (Gives (.agg #[.int .i64 t.rcd, .int .i64 t.rp, .int .i64 t.ras, .int .i64 t.rrds, .int .i64 t.rrdl, .int .i64 t.faw, .int .i64 t.ccds, .int .i64 t.ccdl, .int .i64 t.rtp, .int .i64 t.wr, .int .i64 t.wtrs, .int .i64 t.wtrl, .int .i64 t.rtw, .int .i64 t.rfc, .int .i64 t.cke, .int .i64 t.xp, .int .i64 t.xs]) w) := by
  obtain ⟨w1, hw1⟩ : ∃ u, (w.alloc (.cells #[.int .i64 t.rcd, .int .i64 t.rp, .int .i64 t.ras, .int .i64 t.rrds, .int .i64 t.rrdl, .int .i64 t.faw, .int .i64 t.ccds, .int .i64 t.ccdl, .int .i64 t.rtp, .int .i64 t.wr, .int .i64 t.wtrs, .int .i64 t.wtrl, .int .i64 t.rtw, .int .i64 t.rfc, .int .i64 t.cke, .int .i64 t.xp, .int .i64 t.xs] 32)).alloc (.cells #[.int .i64 0, .int .i64 0, .int .i64 0, .int .i64 0, .int .i64 0, .int .i64 0, .int .i64 0, .int .i64 0, .int .i64 0, .int .i64 0, .int .i64 0, .int .i64 0, .int .i64 0, .int .i64 0, .int .i64 0, .int .i64 0, .int .i64 0] 87) = u := ⟨_, rfl⟩
  have HB1 : Hid (Below w.heap.size w w1) := by subst hw1; exact ((Below.refl _ _).alloc (Nat.le_refl _) _).alloc (by simp) _
  have p1 : w1.heap[w.heap.size]? = some (.cells #[.int .i64 t.rcd, .int .i64 t.rp, .int .i64 t.ras, .int .i64 t.rrds, .int .i64 t.rrdl, .int .i64 t.faw, .int .i64 t.ccds, .int .i64 t.ccdl, .int .i64 t.rtp, .int .i64 t.wr, .int .i64 t.wtrs, .int .i64 t.wtrl, .int .i64 t.rtw, .int .i64 t.rfc, .int .i64 t.cke, .int .i64 t.xp, .int .i64 t.xs] 32) := by subst hw1; exact heap_alloc2_old _ _ _
  have z1 : w1.heap[w.heap.size + 1]? = some (.cells #[.int .i64 0, .int .i64 0, .int .i64 0, .int .i64 0, .int .i64 0, .int .i64 0, .int .i64 0, .int .i64 0, .int .i64 0, .int .i64 0, .int .i64 0, .int .i64 0, .int .i64 0, .int .i64 0, .int .i64 0, .int .i64 0, .int .i64 0] 87) := by subst hw1; exact heap_alloc2_new _ _ _
  obtain ⟨c0, c1, c2, c3, c4, c5, c6, c7, c8, c9, c10, c11, c12, c13, c14, c15, c16⟩ := tm_cells p1
  clear p1
  go_enter Try.func52, Try.ntmps52
  go_wp2_with (first | ((with_reducible refine build_list 37 #[.int .i64 t.rcd, .int .i64 t.rp, .int .i64 t.ras, .int .i64 t.rrds, .int .i64 t.rrdl, .int .i64 t.faw, .int .i64 t.ccds, .int .i64 t.ccdl, .int .i64 t.rtp, .int .i64 t.wr, .int .i64 t.wtrs, .int .i64 t.wtrl, .int .i64 t.rtw, .int .i64 t.rfc, .int .i64 t.cke, .int .i64 t.xp, .int .i64 t.xs] ?_ ?_); kernel_rfl; go_simp) | ((with_reducible refine store_list (cells := #[.int .i64 t.rcd, .int .i64 t.rp, .int .i64 t.ras, .int .i64 t.rrds, .int .i64 t.rrdl, .int .i64 t.faw, .int .i64 t.ccds, .int .i64 t.ccdl, .int .i64 t.rtp, .int .i64 t.wr, .int .i64 t.wtrs, .int .i64 t.wtrl, .int .i64 t.rtw, .int .i64 t.rfc, .int .i64 t.cke, .int .i64 t.xp, .int .i64 t.xs]) z1 ?_ ?_ ?_ ?_ ?_ ?_); kernel_rfl; kernel_rfl; kernel_rfl; kernel_rfl; kernel_rfl))
  have hr := setRow_same _ _ #[.int .i64 t.rcd, .int .i64 t.rp, .int .i64 t.ras, .int .i64 t.rrds, .int .i64 t.rrdl, .int .i64 t.faw, .int .i64 t.ccds, .int .i64 t.ccdl, .int .i64 t.rtp, .int .i64 t.wr, .int .i64 t.wtrs, .int .i64 t.wtrl, .int .i64 t.rtw, .int .i64 t.rfc, .int .i64 t.cke, .int .i64 t.xp, .int .i64 t.xs] _ _ z1
  refine bodyPost_ret (v := .agg #[.int .i64 t.rcd, .int .i64 t.rp, .int .i64 t.ras, .int .i64 t.rrds, .int .i64 t.rrdl, .int .i64 t.faw, .int .i64 t.ccds, .int .i64 t.ccdl, .int .i64 t.rtp, .int .i64 t.wr, .int .i64 t.wtrs, .int .i64 t.wtrl, .int .i64 t.rtw, .int .i64 t.rfc, .int .i64 t.cke, .int .i64 t.xp, .int .i64 t.xs]) (results_cell_row rfl _ _ (w.heap.size + 1) 87 #[.int .i64 t.rcd, .int .i64 t.rp, .int .i64 t.ras, .int .i64 t.rrds, .int .i64 t.rrdl, .int .i64 t.faw, .int .i64 t.ccds, .int .i64 t.ccdl, .int .i64 t.rtp, .int .i64 t.wr, .int .i64 t.wtrs, .int .i64 t.wtrl, .int .i64 t.rtw, .int .i64 t.rfc, .int .i64 t.cke, .int .i64 t.xp, .int .i64 t.xs] (0, 0) _ rfl hr Try.underlying87 rfl (by kernel_rfl)) rfl ⟨rfl, ?_⟩
  exact below_setRow HB1.out (by omega) _

theorem nums_ix0 (t : Tm) (w : World) : (Instr.index 87 (.agg #[.int .i64 t.rcd, .int .i64 t.rp, .int .i64 t.ras, .int .i64 t.rrds, .int .i64 t.rrdl, .int .i64 t.faw, .int .i64 t.ccds, .int .i64 t.ccdl, .int .i64 t.rtp, .int .i64 t.wr, .int .i64 t.wtrs, .int .i64 t.wtrl, .int .i64 t.rtw, .int .i64 t.rfc, .int .i64 t.cke, .int .i64 t.xp, .int .i64 t.xs]) (.int .i64 0)).run Try.prog w = .ok (.int .i64 t.rcd) w := by kernel_rfl

theorem nums_ix1 (t : Tm) (w : World) : (Instr.index 87 (.agg #[.int .i64 t.rcd, .int .i64 t.rp, .int .i64 t.ras, .int .i64 t.rrds, .int .i64 t.rrdl, .int .i64 t.faw, .int .i64 t.ccds, .int .i64 t.ccdl, .int .i64 t.rtp, .int .i64 t.wr, .int .i64 t.wtrs, .int .i64 t.wtrl, .int .i64 t.rtw, .int .i64 t.rfc, .int .i64 t.cke, .int .i64 t.xp, .int .i64 t.xs]) (.int .i64 1)).run Try.prog w = .ok (.int .i64 t.rp) w := by kernel_rfl

theorem nums_ix2 (t : Tm) (w : World) : (Instr.index 87 (.agg #[.int .i64 t.rcd, .int .i64 t.rp, .int .i64 t.ras, .int .i64 t.rrds, .int .i64 t.rrdl, .int .i64 t.faw, .int .i64 t.ccds, .int .i64 t.ccdl, .int .i64 t.rtp, .int .i64 t.wr, .int .i64 t.wtrs, .int .i64 t.wtrl, .int .i64 t.rtw, .int .i64 t.rfc, .int .i64 t.cke, .int .i64 t.xp, .int .i64 t.xs]) (.int .i64 2)).run Try.prog w = .ok (.int .i64 t.ras) w := by kernel_rfl

theorem nums_ix3 (t : Tm) (w : World) : (Instr.index 87 (.agg #[.int .i64 t.rcd, .int .i64 t.rp, .int .i64 t.ras, .int .i64 t.rrds, .int .i64 t.rrdl, .int .i64 t.faw, .int .i64 t.ccds, .int .i64 t.ccdl, .int .i64 t.rtp, .int .i64 t.wr, .int .i64 t.wtrs, .int .i64 t.wtrl, .int .i64 t.rtw, .int .i64 t.rfc, .int .i64 t.cke, .int .i64 t.xp, .int .i64 t.xs]) (.int .i64 3)).run Try.prog w = .ok (.int .i64 t.rrds) w := by kernel_rfl

theorem nums_ix4 (t : Tm) (w : World) : (Instr.index 87 (.agg #[.int .i64 t.rcd, .int .i64 t.rp, .int .i64 t.ras, .int .i64 t.rrds, .int .i64 t.rrdl, .int .i64 t.faw, .int .i64 t.ccds, .int .i64 t.ccdl, .int .i64 t.rtp, .int .i64 t.wr, .int .i64 t.wtrs, .int .i64 t.wtrl, .int .i64 t.rtw, .int .i64 t.rfc, .int .i64 t.cke, .int .i64 t.xp, .int .i64 t.xs]) (.int .i64 4)).run Try.prog w = .ok (.int .i64 t.rrdl) w := by kernel_rfl

theorem nums_ix5 (t : Tm) (w : World) : (Instr.index 87 (.agg #[.int .i64 t.rcd, .int .i64 t.rp, .int .i64 t.ras, .int .i64 t.rrds, .int .i64 t.rrdl, .int .i64 t.faw, .int .i64 t.ccds, .int .i64 t.ccdl, .int .i64 t.rtp, .int .i64 t.wr, .int .i64 t.wtrs, .int .i64 t.wtrl, .int .i64 t.rtw, .int .i64 t.rfc, .int .i64 t.cke, .int .i64 t.xp, .int .i64 t.xs]) (.int .i64 5)).run Try.prog w = .ok (.int .i64 t.faw) w := by kernel_rfl

theorem nums_ix6 (t : Tm) (w : World) : (Instr.index 87 (.agg #[.int .i64 t.rcd, .int .i64 t.rp, .int .i64 t.ras, .int .i64 t.rrds, .int .i64 t.rrdl, .int .i64 t.faw, .int .i64 t.ccds, .int .i64 t.ccdl, .int .i64 t.rtp, .int .i64 t.wr, .int .i64 t.wtrs, .int .i64 t.wtrl, .int .i64 t.rtw, .int .i64 t.rfc, .int .i64 t.cke, .int .i64 t.xp, .int .i64 t.xs]) (.int .i64 6)).run Try.prog w = .ok (.int .i64 t.ccds) w := by kernel_rfl

theorem nums_ix7 (t : Tm) (w : World) : (Instr.index 87 (.agg #[.int .i64 t.rcd, .int .i64 t.rp, .int .i64 t.ras, .int .i64 t.rrds, .int .i64 t.rrdl, .int .i64 t.faw, .int .i64 t.ccds, .int .i64 t.ccdl, .int .i64 t.rtp, .int .i64 t.wr, .int .i64 t.wtrs, .int .i64 t.wtrl, .int .i64 t.rtw, .int .i64 t.rfc, .int .i64 t.cke, .int .i64 t.xp, .int .i64 t.xs]) (.int .i64 7)).run Try.prog w = .ok (.int .i64 t.ccdl) w := by kernel_rfl

theorem nums_ix8 (t : Tm) (w : World) : (Instr.index 87 (.agg #[.int .i64 t.rcd, .int .i64 t.rp, .int .i64 t.ras, .int .i64 t.rrds, .int .i64 t.rrdl, .int .i64 t.faw, .int .i64 t.ccds, .int .i64 t.ccdl, .int .i64 t.rtp, .int .i64 t.wr, .int .i64 t.wtrs, .int .i64 t.wtrl, .int .i64 t.rtw, .int .i64 t.rfc, .int .i64 t.cke, .int .i64 t.xp, .int .i64 t.xs]) (.int .i64 8)).run Try.prog w = .ok (.int .i64 t.rtp) w := by kernel_rfl

theorem nums_ix9 (t : Tm) (w : World) : (Instr.index 87 (.agg #[.int .i64 t.rcd, .int .i64 t.rp, .int .i64 t.ras, .int .i64 t.rrds, .int .i64 t.rrdl, .int .i64 t.faw, .int .i64 t.ccds, .int .i64 t.ccdl, .int .i64 t.rtp, .int .i64 t.wr, .int .i64 t.wtrs, .int .i64 t.wtrl, .int .i64 t.rtw, .int .i64 t.rfc, .int .i64 t.cke, .int .i64 t.xp, .int .i64 t.xs]) (.int .i64 9)).run Try.prog w = .ok (.int .i64 t.wr) w := by kernel_rfl

theorem nums_ix10 (t : Tm) (w : World) : (Instr.index 87 (.agg #[.int .i64 t.rcd, .int .i64 t.rp, .int .i64 t.ras, .int .i64 t.rrds, .int .i64 t.rrdl, .int .i64 t.faw, .int .i64 t.ccds, .int .i64 t.ccdl, .int .i64 t.rtp, .int .i64 t.wr, .int .i64 t.wtrs, .int .i64 t.wtrl, .int .i64 t.rtw, .int .i64 t.rfc, .int .i64 t.cke, .int .i64 t.xp, .int .i64 t.xs]) (.int .i64 10)).run Try.prog w = .ok (.int .i64 t.wtrs) w := by kernel_rfl

theorem nums_ix11 (t : Tm) (w : World) : (Instr.index 87 (.agg #[.int .i64 t.rcd, .int .i64 t.rp, .int .i64 t.ras, .int .i64 t.rrds, .int .i64 t.rrdl, .int .i64 t.faw, .int .i64 t.ccds, .int .i64 t.ccdl, .int .i64 t.rtp, .int .i64 t.wr, .int .i64 t.wtrs, .int .i64 t.wtrl, .int .i64 t.rtw, .int .i64 t.rfc, .int .i64 t.cke, .int .i64 t.xp, .int .i64 t.xs]) (.int .i64 11)).run Try.prog w = .ok (.int .i64 t.wtrl) w := by kernel_rfl

theorem nums_ix12 (t : Tm) (w : World) : (Instr.index 87 (.agg #[.int .i64 t.rcd, .int .i64 t.rp, .int .i64 t.ras, .int .i64 t.rrds, .int .i64 t.rrdl, .int .i64 t.faw, .int .i64 t.ccds, .int .i64 t.ccdl, .int .i64 t.rtp, .int .i64 t.wr, .int .i64 t.wtrs, .int .i64 t.wtrl, .int .i64 t.rtw, .int .i64 t.rfc, .int .i64 t.cke, .int .i64 t.xp, .int .i64 t.xs]) (.int .i64 12)).run Try.prog w = .ok (.int .i64 t.rtw) w := by kernel_rfl

theorem nums_ix13 (t : Tm) (w : World) : (Instr.index 87 (.agg #[.int .i64 t.rcd, .int .i64 t.rp, .int .i64 t.ras, .int .i64 t.rrds, .int .i64 t.rrdl, .int .i64 t.faw, .int .i64 t.ccds, .int .i64 t.ccdl, .int .i64 t.rtp, .int .i64 t.wr, .int .i64 t.wtrs, .int .i64 t.wtrl, .int .i64 t.rtw, .int .i64 t.rfc, .int .i64 t.cke, .int .i64 t.xp, .int .i64 t.xs]) (.int .i64 13)).run Try.prog w = .ok (.int .i64 t.rfc) w := by kernel_rfl

theorem nums_ix14 (t : Tm) (w : World) : (Instr.index 87 (.agg #[.int .i64 t.rcd, .int .i64 t.rp, .int .i64 t.ras, .int .i64 t.rrds, .int .i64 t.rrdl, .int .i64 t.faw, .int .i64 t.ccds, .int .i64 t.ccdl, .int .i64 t.rtp, .int .i64 t.wr, .int .i64 t.wtrs, .int .i64 t.wtrl, .int .i64 t.rtw, .int .i64 t.rfc, .int .i64 t.cke, .int .i64 t.xp, .int .i64 t.xs]) (.int .i64 14)).run Try.prog w = .ok (.int .i64 t.cke) w := by kernel_rfl

theorem nums_ix15 (t : Tm) (w : World) : (Instr.index 87 (.agg #[.int .i64 t.rcd, .int .i64 t.rp, .int .i64 t.ras, .int .i64 t.rrds, .int .i64 t.rrdl, .int .i64 t.faw, .int .i64 t.ccds, .int .i64 t.ccdl, .int .i64 t.rtp, .int .i64 t.wr, .int .i64 t.wtrs, .int .i64 t.wtrl, .int .i64 t.rtw, .int .i64 t.rfc, .int .i64 t.cke, .int .i64 t.xp, .int .i64 t.xs]) (.int .i64 15)).run Try.prog w = .ok (.int .i64 t.xp) w := by kernel_rfl

theorem nums_ix16 (t : Tm) (w : World) : (Instr.index 87 (.agg #[.int .i64 t.rcd, .int .i64 t.rp, .int .i64 t.ras, .int .i64 t.rrds, .int .i64 t.rrdl, .int .i64 t.faw, .int .i64 t.ccds, .int .i64 t.ccdl, .int .i64 t.rtp, .int .i64 t.wr, .int .i64 t.wtrs, .int .i64 t.wtrl, .int .i64 t.rtw, .int .i64 t.rfc, .int .i64 t.cke, .int .i64 t.xp, .int .i64 t.xs]) (.int .i64 16)).run Try.prog w = .ok (.int .i64 t.xs) w := by kernel_rfl

theorem nums_ix (t : Tm) (j : Nat) (hj : j < 17) (w : World) : (Instr.index 87 (.agg #[.int .i64 t.rcd, .int .i64 t.rp, .int .i64 t.ras, .int .i64 t.rrds, .int .i64 t.rrdl, .int .i64 t.faw, .int .i64 t.ccds, .int .i64 t.ccdl, .int .i64 t.rtp, .int .i64 t.wr, .int .i64 t.wtrs, .int .i64 t.wtrl, .int .i64 t.rtw, .int .i64 t.rfc, .int .i64 t.cke, .int .i64 t.xp, .int .i64 t.xs]) (.int .i64 (j : Int))).run Try.prog w = .ok (.int .i64 (t.l.getD j 0)) w := by
  match j, hj with
  | 0, _ => exact nums_ix0 t w
  | 1, _ => exact nums_ix1 t w
  | 2, _ => exact nums_ix2 t w
  | 3, _ => exact nums_ix3 t w
  | 4, _ => exact nums_ix4 t w
  | 5, _ => exact nums_ix5 t w
  | 6, _ => exact nums_ix6 t w
  | 7, _ => exact nums_ix7 t w
  | 8, _ => exact nums_ix8 t w
  | 9, _ => exact nums_ix9 t w
  | 10, _ => exact nums_ix10 t w
  | 11, _ => exact nums_ix11 t w
  | 12, _ => exact nums_ix12 t w
  | 13, _ => exact nums_ix13 t w
  | 14, _ => exact nums_ix14 t w
  | 15, _ => exact nums_ix15 t w
  | 16, _ => exact nums_ix16 t w
  | n + 17, hn => exact absurd hn (by omega)

set_option maxHeartbeats 4000000 in
theorem implTimOk_is (t : Tm) (v : Bool) (hv : decide (TimOk t) = v) (w : World) : Calls Try.prog 34 #[.agg #[.int .i64 t.rcd, .int .i64 t.rp, .int .i64 t.ras, .int .i64 t.rrds, .int .i64 t.rrdl, .int .i64 t.faw, .int .i64 t.ccds, .int .i64 t.ccdl, .int .i64 t.rtp, .int .i64 t.wr, .int .i64 t.wtrs, .int .i64 t.wtrl, .int .i64 t.rtw, .int .i64 t.rfc, .int .i64 t.cke, .int .i64 t.xp, .int .i64 t.xs]] w (Gives (.bool v) w) := by
  have HV := Lib.hid hv
  obtain ⟨w1, hw1⟩ : ∃ u, w.alloc (.cells #[.int .i64 t.rcd, .int .i64 t.rp, .int .i64 t.ras, .int .i64 t.rrds, .int .i64 t.rrdl, .int .i64 t.faw, .int .i64 t.ccds, .int .i64 t.ccdl, .int .i64 t.rtp, .int .i64 t.wr, .int .i64 t.wtrs, .int .i64 t.wtrl, .int .i64 t.rtw, .int .i64 t.rfc, .int .i64 t.cke, .int .i64 t.xp, .int .i64 t.xs] 32) = u := ⟨_, rfl⟩
  have HB1 : Hid (Below w.heap.size w w1) := by subst hw1; exact (Below.refl _ _).alloc (Nat.le_refl _) _
  have p1 : w1.heap[w.heap.size]? = some (.cells #[.int .i64 t.rcd, .int .i64 t.rp, .int .i64 t.ras, .int .i64 t.rrds, .int .i64 t.rrdl, .int .i64 t.faw, .int .i64 t.ccds, .int .i64 t.ccdl, .int .i64 t.rtp, .int .i64 t.wr, .int .i64 t.wtrs, .int .i64 t.wtrl, .int .i64 t.rtw, .int .i64 t.rfc, .int .i64 t.cke, .int .i64 t.xp, .int .i64 t.xs] 32) := by subst hw1; exact heap_alloc_new _ _
  clear hv
  go_enter Try.func34, Try.ntmps34
  go_wp2_with (first | ((with_reducible refine ld_tm ?_ ?_ p1 ?_); kernel_rfl; kernel_rfl; go_simp))
  refine (implNums_is t _).mono ?_
  rintro e w2 ⟨rfl, hb2⟩
  have p2 := keep_block hb2 p1 (lt_of_block p1)
  have HB2 : Hid (Below w.heap.size w w2) := HB1.out.trans (hb2.mono HB1.out.size)
  have ROW := Lib.hid (nums_ix t)
  clear hb2 p1 HB1 hw1
  go_wp2_with fail
  go_loop [7] (fun i => ∃ j : Nat, j ≤ 17 ∧ i = .int .i64 (j : Int) ∧ ∀ m, m < j → In64 (t.l.getD m 0)) (fun i => 18 - (intOf i).toNat)
  case atStart => exact ⟨0, by omega, rfl, fun m hm => absurd hm (Nat.not_lt_zero _)⟩
  case round =>
    obtain ⟨j, hj, rfl, hok⟩ := hrel
    have HOK := Lib.hid hok
    clear hok
    by_cases hlt : j < 17
    · have hI : (j : Int) < 17 := by omega
      have cj := ROW.out j hlt
      obtain ⟨x, hx⟩ : ∃ x, t.l.getD j 0 = x := ⟨_, rfl⟩
      rw [hx] at cj
      have HX := Lib.hid hx
      clear hx
      by_cases hin : In64 x
      · have HOK2 : Hid (∀ m, m < j + 1 → In64 (t.l.getD m 0)) := fun m hm => by
          rcases Nat.lt_succ_iff_lt_or_eq.1 hm with h | h
          · exact HOK.out m h
          · subst h; rw [HX.out]; exact hin
        have s0 : decide (x < 1) = false := decide_eq_false (by have := hin.1; omega)
        have s1 : decide (64 < x) = false := decide_eq_false (by have := hin.2; omega)
        clear hin
        go_wp2
        go_round
        case rel => exact ⟨j + 1, by omega, by go_num, HOK2.out⟩
        case measure => simp [intOf]; omega
      · have HE : Hid (v = false) := by
          show _ = _
          rw [← HV.out]
          exact decide_eq_false fun h => hin (by rw [← HX.out]; exact tm_all.1 h.1 j hlt)
        by_cases hs : x < 1
        · have s0 : decide (x < 1) = true := decide_eq_true hs
          clear hin hs
          go_wp2
          go_ret
          exact ⟨ret_b HE.out.symm, HB2.out⟩
        · have s0 : decide (x < 1) = false := decide_eq_false hs
          have s1 : decide (64 < x) = true := decide_eq_true (by unfold In64 at hin; omega)
          clear hin hs
          go_wp2
          go_ret
          exact ⟨ret_b HE.out.symm, HB2.out⟩
    · obtain rfl : j = 17 := by omega
      (try rw [show ((17 : Nat) : Int) = 17 from rfl])
      obtain ⟨c0, _, c2, c3, c4, _, c6, c7, _, _, c10, c11, _⟩ := tm_cells p2
      have HE : Hid (v = (decide (t.rcd ≤ t.ras) && (decide (t.rrds ≤ t.rrdl) && (decide (t.ccds ≤ t.ccdl) && decide (t.wtrs ≤ t.wtrl))))) := by
        show _ = _
        rw [← HV.out, Bool.eq_iff_iff]
        simp only [Bool.and_eq_true, decide_eq_true_eq]
        exact ⟨fun h => ⟨h.2.1, h.2.2.1, h.2.2.2.1, h.2.2.2.2⟩, fun h => ⟨tm_all.2 HOK.out, h⟩⟩
      obtain ⟨q0, hq0⟩ : ∃ q, decide (t.rcd ≤ t.ras) = q := ⟨_, rfl⟩
      obtain ⟨q1, hq1⟩ : ∃ q, decide (t.rrds ≤ t.rrdl) = q := ⟨_, rfl⟩
      obtain ⟨q2, hq2⟩ : ∃ q, decide (t.ccds ≤ t.ccdl) = q := ⟨_, rfl⟩
      obtain ⟨q3, hq3⟩ : ∃ q, decide (t.wtrs ≤ t.wtrl) = q := ⟨_, rfl⟩
      rw [hq0, hq1, hq2, hq3] at HE
      clear p2 ROW HOK hj hlt
      cases q0
      · go_wp2
        go_ret
        exact ⟨ret_b HE.out.symm, HB2.out⟩
      cases q1
      · go_wp2
        go_ret
        exact ⟨ret_b HE.out.symm, HB2.out⟩
      cases q2
      · go_wp2
        go_ret
        exact ⟨ret_b HE.out.symm, HB2.out⟩
      go_wp2
      go_ret
      exact ⟨ret_b HE.out.symm, HB2.out⟩

end Go.Proofs.Ytihhcnckoeaihaa
