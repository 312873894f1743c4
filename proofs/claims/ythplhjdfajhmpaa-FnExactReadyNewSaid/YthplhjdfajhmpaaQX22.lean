/-
  Texts of one proof, merged: TimU, TimJ, RdyP, RdyR, RdyS, TimK, TimH, TimX, TrcG, TrcU, RdyK.
-/
import Derived.Test.YthplhjdfajhmpaaQX6
import Derived.Test.YthplhjdfajhmpaaQX9
import Derived.Test.YthplhjdfajhmpaaQX10
import Derived.Test.YthplhjdfajhmpaaQX14
import Derived.Test.YthplhjdfajhmpaaQX15
import Derived.Test.YthplhjdfajhmpaaQX16
import Derived.Test.YthplhjdfajhmpaaQX17
import Derived.Test.YthplhjdfajhmpaaQX20
import Derived.Test.YthplhjdfajhmpaaQX21
import Derived.Deep.WholeRow
import Derived.Laws.CopyOwn
import Derived.LoopN
namespace Go.Proofs.Ythplhjdfajhmpaa
open Go.RowKit

set_option linter.unusedVariables false

def nils : Array Value := #[.nilFunc, .nilFunc, .nilFunc, .nilFunc, .nilFunc, .nilFunc, .nilFunc, .nilFunc, .nilFunc, .nilFunc, .nilFunc, .nilFunc, .nilFunc, .nilFunc, .nilFunc, .nilFunc, .nilFunc, .nilFunc, .nilFunc, .nilFunc, .nilFunc, .nilFunc, .nilFunc, .nilFunc, .nilFunc, .nilFunc, .nilFunc, .nilFunc, .nilFunc, .nilFunc, .nilFunc, .nilFunc, .nilFunc, .nilFunc, .nilFunc, .nilFunc, .nilFunc, .nilFunc, .nilFunc, .nilFunc, .nilFunc, .nilFunc, .nilFunc, .nilFunc, .nilFunc, .nilFunc, .nilFunc, .nilFunc, .nilFunc, .nilFunc, .nilFunc, .nilFunc, .nilFunc, .nilFunc, .nilFunc, .nilFunc, .nilFunc, .nilFunc, .nilFunc, .nilFunc, .nilFunc, .nilFunc, .nilFunc, .nilFunc, .nilFunc, .nilFunc, .nilFunc, .nilFunc, .nilFunc, .nilFunc, .nilFunc, .nilFunc, .nilFunc, .nilFunc, .nilFunc, .nilFunc, .nilFunc, .nilFunc, .nilFunc, .nilFunc, .nilFunc, .nilFunc, .nilFunc, .nilFunc, .nilFunc, .nilFunc, .nilFunc, .nilFunc, .nilFunc, .nilFunc, .nilFunc, .nilFunc, .nilFunc, .nilFunc, .nilFunc, .nilFunc, .nilFunc, .nilFunc, .nilFunc, .nilFunc]

set_option maxHeartbeats 4000000 in
theorem implBankT_is (w : World) : Calls Try.prog 135 #[] w (Gives (.agg bankCells) w) := by
  have hn := heap_alloc_new w (.cells nils 179)
  go_enter Try.func135, Try.ntmps135
  go_wp2_with (first | ((with_reducible refine build_list 1 bankRow1 ?_ ?_); kernel_rfl; go_simp) | ((with_reducible refine build_list 2 bankRow2 ?_ ?_); kernel_rfl; go_simp) | ((with_reducible refine build_list 3 bankRow3 ?_ ?_); kernel_rfl; go_simp) | ((with_reducible refine build_list 4 bankRow4 ?_ ?_); kernel_rfl; go_simp) | ((with_reducible refine build_list 5 bankRow5 ?_ ?_); kernel_rfl; go_simp) | ((with_reducible refine build_list 6 bankCells ?_ ?_); kernel_rfl; go_simp) | ((with_reducible refine store_list (cells := bankCells) hn ?_ ?_ ?_ ?_ ?_ ?_); kernel_rfl; kernel_rfl; kernel_rfl; kernel_rfl; kernel_rfl))
  have hr := setRow_same _ _ bankCells _ _ hn
  refine bodyPost_ret (v := .agg bankCells) (results_cell_row rfl _ _ w.heap.size 179 bankCells (0, 0) _ rfl hr Try.underlying179 rfl (by kernel_rfl)) rfl ⟨rfl, ?_⟩
  exact below_setRow ((Below.refl _ _).alloc (Nat.le_refl _) _) (Nat.le_refl _) _

set_option maxHeartbeats 4000000 in
theorem implEvery_is (n : Nat) (w : World) : Calls Try.prog 155 #[.func (.func n) #[] #[]] w (Gives (.agg #[.nilFunc, .func (.func n) #[] #[], .func (.func n) #[] #[], .func (.func n) #[] #[], .func (.func n) #[] #[], .func (.func n) #[] #[], .func (.func n) #[] #[], .func (.func n) #[] #[], .func (.func n) #[] #[], .func (.func n) #[] #[]]) w) := by
  go_enter Try.func155, Try.ntmps155
  go_wp2_with fail
  refine wp_loop_rounds 10 ?_
  rw [rounds_succ]
  go_wp2
  (try simp only [Exit.then])
  rw [rounds_succ]
  go_wp2
  (try simp only [Exit.then])
  rw [rounds_succ]
  go_wp2
  (try simp only [Exit.then])
  rw [rounds_succ]
  go_wp2
  (try simp only [Exit.then])
  rw [rounds_succ]
  go_wp2
  (try simp only [Exit.then])
  rw [rounds_succ]
  go_wp2
  (try simp only [Exit.then])
  rw [rounds_succ]
  go_wp2
  (try simp only [Exit.then])
  rw [rounds_succ]
  go_wp2
  (try simp only [Exit.then])
  rw [rounds_succ]
  go_wp2
  (try simp only [Exit.then])
  rw [rounds_succ]
  go_wp2
  refine bodyPost_ret (v := .agg #[.nilFunc, .func (.func n) #[] #[], .func (.func n) #[] #[], .func (.func n) #[] #[], .func (.func n) #[] #[], .func (.func n) #[] #[], .func (.func n) #[] #[], .func (.func n) #[] #[], .func (.func n) #[] #[], .func (.func n) #[] #[]]) (results_cell_row rfl _ _ w.heap.size 177 #[.nilFunc, .func (.func n) #[] #[], .func (.func n) #[] #[], .func (.func n) #[] #[], .func (.func n) #[] #[], .func (.func n) #[] #[], .func (.func n) #[] #[], .func (.func n) #[] #[], .func (.func n) #[] #[], .func (.func n) #[] #[]] (0, 0) _ rfl (heap_alloc2_old _ _ _) Try.underlying177 rfl (by kernel_rfl)) rfl ⟨rfl, ?_⟩
  exact ((Below.refl _ _).alloc (by simp) _).alloc (by simp) _

set_option maxHeartbeats 4000000 in
theorem implRankT_is (w : World) : Calls Try.prog 133 #[.bool true] w (Gives (.agg rankTCells) w) := by
  obtain ⟨w1, hw1⟩ : ∃ u, w.alloc (.cells Try.zeroCells179 179) = u := ⟨_, rfl⟩
  have HB1 : Hid (Below w.heap.size w w1) := by subst hw1; exact (Below.refl _ _).alloc (Nat.le_refl _) _
  have p1 : w1.heap[w.heap.size]? = some (.cells Try.zeroCells179 179) := by subst hw1; exact heap_alloc_new _ _
  go_enter Try.func133, Try.ntmps133
  go_wp2_with (first | ((with_reducible refine build_list 8 rankTRow1 ?_ ?_); kernel_rfl; go_simp) | ((with_reducible refine build_list 10 rankTRow2 ?_ ?_); kernel_rfl; go_simp) | ((with_reducible refine build_list 13 rankTRow3 ?_ ?_); kernel_rfl; go_simp) | ((with_reducible refine build_list 14 rankTRow4 ?_ ?_); kernel_rfl; go_simp) | ((with_reducible refine build_list 15 rankTRow5 ?_ ?_); kernel_rfl; go_simp) | ((with_reducible refine build_list 16 rankTRow6 ?_ ?_); kernel_rfl; go_simp) | ((with_reducible refine build_list 17 rankTRow8 ?_ ?_); kernel_rfl; go_simp))
  refine (implEvery_is _ _).mono ?_
  rintro e w2 ⟨rfl, hb2⟩
  have p2 := keep_block hb2 p1 (lt_of_block p1)
  have HB2 : Hid (Below w.heap.size w w2) := HB1.out.trans (hb2.mono HB1.out.size)
  clear hb2 p1 HB1 hw1
  go_wp2_with fail
  refine (implEvery_is _ _).mono ?_
  rintro e w3 ⟨rfl, hb3⟩
  have p3 := keep_block hb3 p2 (lt_of_block p2)
  have HB3 : Hid (Below w.heap.size w w3) := HB2.out.trans (hb3.mono HB2.out.size)
  clear hb3 p2 HB2
  go_wp2_with (first | ((with_reducible refine build_list 20 rankTCells ?_ ?_); kernel_rfl; go_simp) | ((with_reducible refine store_list (cells := rankTCells) p3 ?_ ?_ ?_ ?_ ?_ ?_); kernel_rfl; kernel_rfl; kernel_rfl; kernel_rfl; kernel_rfl))
  have hr := setRow_same _ _ rankTCells _ _ p3
  refine bodyPost_ret (v := .agg rankTCells) (results_cell_row rfl _ _ w.heap.size 179 rankTCells (0, 0) _ rfl hr Try.underlying179 rfl (by kernel_rfl)) rfl ⟨rfl, ?_⟩
  exact below_setRow HB3.out (Nat.le_refl _) _

set_option maxHeartbeats 4000000 in
theorem implRankF_is (w : World) : Calls Try.prog 133 #[.bool false] w (Gives (.agg rankFCells) w) := by
  obtain ⟨w1, hw1⟩ : ∃ u, w.alloc (.cells Try.zeroCells179 179) = u := ⟨_, rfl⟩
  have HB1 : Hid (Below w.heap.size w w1) := by subst hw1; exact (Below.refl _ _).alloc (Nat.le_refl _) _
  have p1 : w1.heap[w.heap.size]? = some (.cells Try.zeroCells179 179) := by subst hw1; exact heap_alloc_new _ _
  go_enter Try.func133, Try.ntmps133
  go_wp2_with (first | ((with_reducible refine build_list 8 rankFRow1 ?_ ?_); kernel_rfl; go_simp) | ((with_reducible refine build_list 10 rankFRow2 ?_ ?_); kernel_rfl; go_simp) | ((with_reducible refine build_list 13 rankFRow3 ?_ ?_); kernel_rfl; go_simp) | ((with_reducible refine build_list 14 rankFRow4 ?_ ?_); kernel_rfl; go_simp) | ((with_reducible refine build_list 15 rankFRow5 ?_ ?_); kernel_rfl; go_simp) | ((with_reducible refine build_list 16 rankFRow6 ?_ ?_); kernel_rfl; go_simp) | ((with_reducible refine build_list 17 rankFRow8 ?_ ?_); kernel_rfl; go_simp))
  refine (implEvery_is _ _).mono ?_
  rintro e w2 ⟨rfl, hb2⟩
  have p2 := keep_block hb2 p1 (lt_of_block p1)
  have HB2 : Hid (Below w.heap.size w w2) := HB1.out.trans (hb2.mono HB1.out.size)
  clear hb2 p1 HB1 hw1
  go_wp2_with fail
  refine (implEvery_is _ _).mono ?_
  rintro e w3 ⟨rfl, hb3⟩
  have p3 := keep_block hb3 p2 (lt_of_block p2)
  have HB3 : Hid (Below w.heap.size w w3) := HB2.out.trans (hb3.mono HB2.out.size)
  clear hb3 p2 HB2
  go_wp2_with (first | ((with_reducible refine build_list 20 rankFCells ?_ ?_); kernel_rfl; go_simp) | ((with_reducible refine store_list (cells := rankFCells) p3 ?_ ?_ ?_ ?_ ?_ ?_); kernel_rfl; kernel_rfl; kernel_rfl; kernel_rfl; kernel_rfl))
  have hr := setRow_same _ _ rankFCells _ _ p3
  refine bodyPost_ret (v := .agg rankFCells) (results_cell_row rfl _ _ w.heap.size 179 rankFCells (0, 0) _ rfl hr Try.underlying179 rfl (by kernel_rfl)) rfl ⟨rfl, ?_⟩
  exact below_setRow HB3.out (Nat.le_refl _) _

end Go.Proofs.Ythplhjdfajhmpaa

namespace Go.Proofs.Ythplhjdfajhmpaa
open Go.RowKit

set_option linter.unusedVariables false

theorem implKindOk_is (k : Int) (v : Bool) (hv : decide (1 ≤ k ∧ k ≤ 9) = v) (w : World) : Calls Try.prog 131 #[.int .i64 k] w (Says (.bool v) w) := by
  by_cases h0 : 1 ≤ k
  · by_cases h1 : k ≤ 9
    · have HE : Hid (v = true) := by show _ = _; rw [← hv]; exact decide_eq_true ⟨h0, h1⟩
      clear hv
      go_enter Try.func131, Try.ntmps131
      go_wp2
      go_ret
      exact ⟨ret_b HE.out.symm, rfl⟩
    · have HE : Hid (v = false) := by show _ = _; rw [← hv]; exact decide_eq_false (by omega)
      clear hv
      go_enter Try.func131, Try.ntmps131
      go_wp2
      go_ret
      exact ⟨ret_b HE.out.symm, rfl⟩
  · have HE : Hid (v = false) := by show _ = _; rw [← hv]; exact decide_eq_false (by omega)
    clear hv
    go_enter Try.func131, Try.ntmps131
    go_wp2
    go_ret
    exact ⟨ret_b HE.out.symm, rfl⟩

theorem implUses_is (k : Int) (v : Bool) (hv : decide (k < 6) = v) (w : World) : Calls Try.prog 84 #[.int .i64 k] w (Says (.bool v) w) := by
  have HV := Lib.hid hv
  clear hv
  go_enter Try.func84, Try.ntmps84
  go_wp2
  go_ret
  exact ⟨ret_b HV.out, rfl⟩

theorem implNums_is (t : Tm) (w : World) : Calls Try.prog 90 #[.agg #[.int .i64 t.rcd, .int .i64 t.rp, .int .i64 t.ras, .int .i64 t.rrds, .int .i64 t.rrdl, .int .i64 t.faw, .int .i64 t.ccds, .int .i64 t.ccdl, .int .i64 t.rtp, .int .i64 t.wr, .int .i64 t.wtrs, .int .i64 t.wtrl, .int .i64 t.rtw, .int .i64 t.rfc, .int .i64 t.cke, .int .i64 t.xp, .int .i64 t.xs]] w (Gives (.agg #[.int .i64 t.rcd, .int .i64 t.rp, .int .i64 t.ras, .int .i64 t.rrds, .int .i64 t.rrdl, .int .i64 t.faw, .int .i64 t.ccds, .int .i64 t.ccdl, .int .i64 t.rtp, .int .i64 t.wr, .int .i64 t.wtrs, .int .i64 t.wtrl, .int .i64 t.rtw, .int .i64 t.rfc, .int .i64 t.cke, .int .i64 t.xp, .int .i64 t.xs]) w) := by
  obtain ⟨w1, hw1⟩ : ∃ u, (w.alloc (.cells #[.int .i64 t.rcd, .int .i64 t.rp, .int .i64 t.ras, .int .i64 t.rrds, .int .i64 t.rrdl, .int .i64 t.faw, .int .i64 t.ccds, .int .i64 t.ccdl, .int .i64 t.rtp, .int .i64 t.wr, .int .i64 t.wtrs, .int .i64 t.wtrl, .int .i64 t.rtw, .int .i64 t.rfc, .int .i64 t.cke, .int .i64 t.xp, .int .i64 t.xs] 27)).alloc (.cells #[.int .i64 0, .int .i64 0, .int .i64 0, .int .i64 0, .int .i64 0, .int .i64 0, .int .i64 0, .int .i64 0, .int .i64 0, .int .i64 0, .int .i64 0, .int .i64 0, .int .i64 0, .int .i64 0, .int .i64 0, .int .i64 0, .int .i64 0] 124) = u := ⟨_, rfl⟩
  have HB1 : Hid (Below w.heap.size w w1) := by subst hw1; exact ((Below.refl _ _).alloc (Nat.le_refl _) _).alloc (by simp) _
  have p1 : w1.heap[w.heap.size]? = some (.cells #[.int .i64 t.rcd, .int .i64 t.rp, .int .i64 t.ras, .int .i64 t.rrds, .int .i64 t.rrdl, .int .i64 t.faw, .int .i64 t.ccds, .int .i64 t.ccdl, .int .i64 t.rtp, .int .i64 t.wr, .int .i64 t.wtrs, .int .i64 t.wtrl, .int .i64 t.rtw, .int .i64 t.rfc, .int .i64 t.cke, .int .i64 t.xp, .int .i64 t.xs] 27) := by subst hw1; exact heap_alloc2_old _ _ _
  have z1 : w1.heap[w.heap.size + 1]? = some (.cells #[.int .i64 0, .int .i64 0, .int .i64 0, .int .i64 0, .int .i64 0, .int .i64 0, .int .i64 0, .int .i64 0, .int .i64 0, .int .i64 0, .int .i64 0, .int .i64 0, .int .i64 0, .int .i64 0, .int .i64 0, .int .i64 0, .int .i64 0] 124) := by subst hw1; exact heap_alloc2_new _ _ _
  obtain ⟨c0, c1, c2, c3, c4, c5, c6, c7, c8, c9, c10, c11, c12, c13, c14, c15, c16⟩ := tm_cells p1
  clear p1
  go_enter Try.func90, Try.ntmps90
  go_wp2_with (first | ((with_reducible refine build_list 37 #[.int .i64 t.rcd, .int .i64 t.rp, .int .i64 t.ras, .int .i64 t.rrds, .int .i64 t.rrdl, .int .i64 t.faw, .int .i64 t.ccds, .int .i64 t.ccdl, .int .i64 t.rtp, .int .i64 t.wr, .int .i64 t.wtrs, .int .i64 t.wtrl, .int .i64 t.rtw, .int .i64 t.rfc, .int .i64 t.cke, .int .i64 t.xp, .int .i64 t.xs] ?_ ?_); kernel_rfl; go_simp) | ((with_reducible refine store_list (cells := #[.int .i64 t.rcd, .int .i64 t.rp, .int .i64 t.ras, .int .i64 t.rrds, .int .i64 t.rrdl, .int .i64 t.faw, .int .i64 t.ccds, .int .i64 t.ccdl, .int .i64 t.rtp, .int .i64 t.wr, .int .i64 t.wtrs, .int .i64 t.wtrl, .int .i64 t.rtw, .int .i64 t.rfc, .int .i64 t.cke, .int .i64 t.xp, .int .i64 t.xs]) z1 ?_ ?_ ?_ ?_ ?_ ?_); kernel_rfl; kernel_rfl; kernel_rfl; kernel_rfl; kernel_rfl))
  have hr := setRow_same _ _ #[.int .i64 t.rcd, .int .i64 t.rp, .int .i64 t.ras, .int .i64 t.rrds, .int .i64 t.rrdl, .int .i64 t.faw, .int .i64 t.ccds, .int .i64 t.ccdl, .int .i64 t.rtp, .int .i64 t.wr, .int .i64 t.wtrs, .int .i64 t.wtrl, .int .i64 t.rtw, .int .i64 t.rfc, .int .i64 t.cke, .int .i64 t.xp, .int .i64 t.xs] _ _ z1
  refine bodyPost_ret (v := .agg #[.int .i64 t.rcd, .int .i64 t.rp, .int .i64 t.ras, .int .i64 t.rrds, .int .i64 t.rrdl, .int .i64 t.faw, .int .i64 t.ccds, .int .i64 t.ccdl, .int .i64 t.rtp, .int .i64 t.wr, .int .i64 t.wtrs, .int .i64 t.wtrl, .int .i64 t.rtw, .int .i64 t.rfc, .int .i64 t.cke, .int .i64 t.xp, .int .i64 t.xs]) (results_cell_row rfl _ _ (w.heap.size + 1) 124 #[.int .i64 t.rcd, .int .i64 t.rp, .int .i64 t.ras, .int .i64 t.rrds, .int .i64 t.rrdl, .int .i64 t.faw, .int .i64 t.ccds, .int .i64 t.ccdl, .int .i64 t.rtp, .int .i64 t.wr, .int .i64 t.wtrs, .int .i64 t.wtrl, .int .i64 t.rtw, .int .i64 t.rfc, .int .i64 t.cke, .int .i64 t.xp, .int .i64 t.xs] (0, 0) _ rfl hr Try.underlying124 rfl (by kernel_rfl)) rfl ⟨rfl, ?_⟩
  exact below_setRow HB1.out (by omega) _

theorem nums_ix0 (t : Tm) (w : World) : (Instr.index 124 (.agg #[.int .i64 t.rcd, .int .i64 t.rp, .int .i64 t.ras, .int .i64 t.rrds, .int .i64 t.rrdl, .int .i64 t.faw, .int .i64 t.ccds, .int .i64 t.ccdl, .int .i64 t.rtp, .int .i64 t.wr, .int .i64 t.wtrs, .int .i64 t.wtrl, .int .i64 t.rtw, .int .i64 t.rfc, .int .i64 t.cke, .int .i64 t.xp, .int .i64 t.xs]) (.int .i64 0)).run Try.prog w = .ok (.int .i64 t.rcd) w := by kernel_rfl

theorem nums_ix1 (t : Tm) (w : World) : (Instr.index 124 (.agg #[.int .i64 t.rcd, .int .i64 t.rp, .int .i64 t.ras, .int .i64 t.rrds, .int .i64 t.rrdl, .int .i64 t.faw, .int .i64 t.ccds, .int .i64 t.ccdl, .int .i64 t.rtp, .int .i64 t.wr, .int .i64 t.wtrs, .int .i64 t.wtrl, .int .i64 t.rtw, .int .i64 t.rfc, .int .i64 t.cke, .int .i64 t.xp, .int .i64 t.xs]) (.int .i64 1)).run Try.prog w = .ok (.int .i64 t.rp) w := by kernel_rfl

theorem nums_ix2 (t : Tm) (w : World) : (Instr.index 124 (.agg #[.int .i64 t.rcd, .int .i64 t.rp, .int .i64 t.ras, .int .i64 t.rrds, .int .i64 t.rrdl, .int .i64 t.faw, .int .i64 t.ccds, .int .i64 t.ccdl, .int .i64 t.rtp, .int .i64 t.wr, .int .i64 t.wtrs, .int .i64 t.wtrl, .int .i64 t.rtw, .int .i64 t.rfc, .int .i64 t.cke, .int .i64 t.xp, .int .i64 t.xs]) (.int .i64 2)).run Try.prog w = .ok (.int .i64 t.ras) w := by kernel_rfl

theorem nums_ix3 (t : Tm) (w : World) : (Instr.index 124 (.agg #[.int .i64 t.rcd, .int .i64 t.rp, .int .i64 t.ras, .int .i64 t.rrds, .int .i64 t.rrdl, .int .i64 t.faw, .int .i64 t.ccds, .int .i64 t.ccdl, .int .i64 t.rtp, .int .i64 t.wr, .int .i64 t.wtrs, .int .i64 t.wtrl, .int .i64 t.rtw, .int .i64 t.rfc, .int .i64 t.cke, .int .i64 t.xp, .int .i64 t.xs]) (.int .i64 3)).run Try.prog w = .ok (.int .i64 t.rrds) w := by kernel_rfl

theorem nums_ix4 (t : Tm) (w : World) : (Instr.index 124 (.agg #[.int .i64 t.rcd, .int .i64 t.rp, .int .i64 t.ras, .int .i64 t.rrds, .int .i64 t.rrdl, .int .i64 t.faw, .int .i64 t.ccds, .int .i64 t.ccdl, .int .i64 t.rtp, .int .i64 t.wr, .int .i64 t.wtrs, .int .i64 t.wtrl, .int .i64 t.rtw, .int .i64 t.rfc, .int .i64 t.cke, .int .i64 t.xp, .int .i64 t.xs]) (.int .i64 4)).run Try.prog w = .ok (.int .i64 t.rrdl) w := by kernel_rfl

theorem nums_ix5 (t : Tm) (w : World) : (Instr.index 124 (.agg #[.int .i64 t.rcd, .int .i64 t.rp, .int .i64 t.ras, .int .i64 t.rrds, .int .i64 t.rrdl, .int .i64 t.faw, .int .i64 t.ccds, .int .i64 t.ccdl, .int .i64 t.rtp, .int .i64 t.wr, .int .i64 t.wtrs, .int .i64 t.wtrl, .int .i64 t.rtw, .int .i64 t.rfc, .int .i64 t.cke, .int .i64 t.xp, .int .i64 t.xs]) (.int .i64 5)).run Try.prog w = .ok (.int .i64 t.faw) w := by kernel_rfl

theorem nums_ix6 (t : Tm) (w : World) : (Instr.index 124 (.agg #[.int .i64 t.rcd, .int .i64 t.rp, .int .i64 t.ras, .int .i64 t.rrds, .int .i64 t.rrdl, .int .i64 t.faw, .int .i64 t.ccds, .int .i64 t.ccdl, .int .i64 t.rtp, .int .i64 t.wr, .int .i64 t.wtrs, .int .i64 t.wtrl, .int .i64 t.rtw, .int .i64 t.rfc, .int .i64 t.cke, .int .i64 t.xp, .int .i64 t.xs]) (.int .i64 6)).run Try.prog w = .ok (.int .i64 t.ccds) w := by kernel_rfl

theorem nums_ix7 (t : Tm) (w : World) : (Instr.index 124 (.agg #[.int .i64 t.rcd, .int .i64 t.rp, .int .i64 t.ras, .int .i64 t.rrds, .int .i64 t.rrdl, .int .i64 t.faw, .int .i64 t.ccds, .int .i64 t.ccdl, .int .i64 t.rtp, .int .i64 t.wr, .int .i64 t.wtrs, .int .i64 t.wtrl, .int .i64 t.rtw, .int .i64 t.rfc, .int .i64 t.cke, .int .i64 t.xp, .int .i64 t.xs]) (.int .i64 7)).run Try.prog w = .ok (.int .i64 t.ccdl) w := by kernel_rfl

theorem nums_ix8 (t : Tm) (w : World) : (Instr.index 124 (.agg #[.int .i64 t.rcd, .int .i64 t.rp, .int .i64 t.ras, .int .i64 t.rrds, .int .i64 t.rrdl, .int .i64 t.faw, .int .i64 t.ccds, .int .i64 t.ccdl, .int .i64 t.rtp, .int .i64 t.wr, .int .i64 t.wtrs, .int .i64 t.wtrl, .int .i64 t.rtw, .int .i64 t.rfc, .int .i64 t.cke, .int .i64 t.xp, .int .i64 t.xs]) (.int .i64 8)).run Try.prog w = .ok (.int .i64 t.rtp) w := by kernel_rfl

theorem nums_ix9 (t : Tm) (w : World) : (Instr.index 124 (.agg #[.int .i64 t.rcd, .int .i64 t.rp, .int .i64 t.ras, .int .i64 t.rrds, .int .i64 t.rrdl, .int .i64 t.faw, .int .i64 t.ccds, .int .i64 t.ccdl, .int .i64 t.rtp, .int .i64 t.wr, .int .i64 t.wtrs, .int .i64 t.wtrl, .int .i64 t.rtw, .int .i64 t.rfc, .int .i64 t.cke, .int .i64 t.xp, .int .i64 t.xs]) (.int .i64 9)).run Try.prog w = .ok (.int .i64 t.wr) w := by kernel_rfl

theorem nums_ix10 (t : Tm) (w : World) : (Instr.index 124 (.agg #[.int .i64 t.rcd, .int .i64 t.rp, .int .i64 t.ras, .int .i64 t.rrds, .int .i64 t.rrdl, .int .i64 t.faw, .int .i64 t.ccds, .int .i64 t.ccdl, .int .i64 t.rtp, .int .i64 t.wr, .int .i64 t.wtrs, .int .i64 t.wtrl, .int .i64 t.rtw, .int .i64 t.rfc, .int .i64 t.cke, .int .i64 t.xp, .int .i64 t.xs]) (.int .i64 10)).run Try.prog w = .ok (.int .i64 t.wtrs) w := by kernel_rfl

theorem nums_ix11 (t : Tm) (w : World) : (Instr.index 124 (.agg #[.int .i64 t.rcd, .int .i64 t.rp, .int .i64 t.ras, .int .i64 t.rrds, .int .i64 t.rrdl, .int .i64 t.faw, .int .i64 t.ccds, .int .i64 t.ccdl, .int .i64 t.rtp, .int .i64 t.wr, .int .i64 t.wtrs, .int .i64 t.wtrl, .int .i64 t.rtw, .int .i64 t.rfc, .int .i64 t.cke, .int .i64 t.xp, .int .i64 t.xs]) (.int .i64 11)).run Try.prog w = .ok (.int .i64 t.wtrl) w := by kernel_rfl

theorem nums_ix12 (t : Tm) (w : World) : (Instr.index 124 (.agg #[.int .i64 t.rcd, .int .i64 t.rp, .int .i64 t.ras, .int .i64 t.rrds, .int .i64 t.rrdl, .int .i64 t.faw, .int .i64 t.ccds, .int .i64 t.ccdl, .int .i64 t.rtp, .int .i64 t.wr, .int .i64 t.wtrs, .int .i64 t.wtrl, .int .i64 t.rtw, .int .i64 t.rfc, .int .i64 t.cke, .int .i64 t.xp, .int .i64 t.xs]) (.int .i64 12)).run Try.prog w = .ok (.int .i64 t.rtw) w := by kernel_rfl

theorem nums_ix13 (t : Tm) (w : World) : (Instr.index 124 (.agg #[.int .i64 t.rcd, .int .i64 t.rp, .int .i64 t.ras, .int .i64 t.rrds, .int .i64 t.rrdl, .int .i64 t.faw, .int .i64 t.ccds, .int .i64 t.ccdl, .int .i64 t.rtp, .int .i64 t.wr, .int .i64 t.wtrs, .int .i64 t.wtrl, .int .i64 t.rtw, .int .i64 t.rfc, .int .i64 t.cke, .int .i64 t.xp, .int .i64 t.xs]) (.int .i64 13)).run Try.prog w = .ok (.int .i64 t.rfc) w := by kernel_rfl

theorem nums_ix14 (t : Tm) (w : World) : (Instr.index 124 (.agg #[.int .i64 t.rcd, .int .i64 t.rp, .int .i64 t.ras, .int .i64 t.rrds, .int .i64 t.rrdl, .int .i64 t.faw, .int .i64 t.ccds, .int .i64 t.ccdl, .int .i64 t.rtp, .int .i64 t.wr, .int .i64 t.wtrs, .int .i64 t.wtrl, .int .i64 t.rtw, .int .i64 t.rfc, .int .i64 t.cke, .int .i64 t.xp, .int .i64 t.xs]) (.int .i64 14)).run Try.prog w = .ok (.int .i64 t.cke) w := by kernel_rfl

theorem nums_ix15 (t : Tm) (w : World) : (Instr.index 124 (.agg #[.int .i64 t.rcd, .int .i64 t.rp, .int .i64 t.ras, .int .i64 t.rrds, .int .i64 t.rrdl, .int .i64 t.faw, .int .i64 t.ccds, .int .i64 t.ccdl, .int .i64 t.rtp, .int .i64 t.wr, .int .i64 t.wtrs, .int .i64 t.wtrl, .int .i64 t.rtw, .int .i64 t.rfc, .int .i64 t.cke, .int .i64 t.xp, .int .i64 t.xs]) (.int .i64 15)).run Try.prog w = .ok (.int .i64 t.xp) w := by kernel_rfl

theorem nums_ix16 (t : Tm) (w : World) : (Instr.index 124 (.agg #[.int .i64 t.rcd, .int .i64 t.rp, .int .i64 t.ras, .int .i64 t.rrds, .int .i64 t.rrdl, .int .i64 t.faw, .int .i64 t.ccds, .int .i64 t.ccdl, .int .i64 t.rtp, .int .i64 t.wr, .int .i64 t.wtrs, .int .i64 t.wtrl, .int .i64 t.rtw, .int .i64 t.rfc, .int .i64 t.cke, .int .i64 t.xp, .int .i64 t.xs]) (.int .i64 16)).run Try.prog w = .ok (.int .i64 t.xs) w := by kernel_rfl

theorem nums_ix (t : Tm) (j : Nat) (hj : j < 17) (w : World) : (Instr.index 124 (.agg #[.int .i64 t.rcd, .int .i64 t.rp, .int .i64 t.ras, .int .i64 t.rrds, .int .i64 t.rrdl, .int .i64 t.faw, .int .i64 t.ccds, .int .i64 t.ccdl, .int .i64 t.rtp, .int .i64 t.wr, .int .i64 t.wtrs, .int .i64 t.wtrl, .int .i64 t.rtw, .int .i64 t.rfc, .int .i64 t.cke, .int .i64 t.xp, .int .i64 t.xs]) (.int .i64 (j : Int))).run Try.prog w = .ok (.int .i64 (t.l.getD j 0)) w := by
  match j, hj with
  | 0, _ => exact nums_ix0 t w
  | 1, _ => exact nums_ix1 t w
  | 2, _ => exact nums_ix2 t w
  | 3, _ => exact nums_ix3 t w
  | 4, _ => exact nums_ix4 t w
  | 5, _ => exact nums_ix5 t w
  | 6, _ => exact nums_ix6 t w
  | 7, _ => exact nums_ix7 t w
  | 8, _ => exact nums_ix8 t w
  | 9, _ => exact nums_ix9 t w
  | 10, _ => exact nums_ix10 t w
  | 11, _ => exact nums_ix11 t w
  | 12, _ => exact nums_ix12 t w
  | 13, _ => exact nums_ix13 t w
  | 14, _ => exact nums_ix14 t w
  | 15, _ => exact nums_ix15 t w
  | 16, _ => exact nums_ix16 t w
  | n + 17, hn => exact absurd hn (by omega)

set_option maxHeartbeats 4000000 in
theorem implTimOk_is (t : Tm) (v : Bool) (hv : decide (TimOk t) = v) (w : World) : Calls Try.prog 55 #[.agg #[.int .i64 t.rcd, .int .i64 t.rp, .int .i64 t.ras, .int .i64 t.rrds, .int .i64 t.rrdl, .int .i64 t.faw, .int .i64 t.ccds, .int .i64 t.ccdl, .int .i64 t.rtp, .int .i64 t.wr, .int .i64 t.wtrs, .int .i64 t.wtrl, .int .i64 t.rtw, .int .i64 t.rfc, .int .i64 t.cke, .int .i64 t.xp, .int .i64 t.xs]] w (Gives (.bool v) w) := by
  have HV := Lib.hid hv
  obtain ⟨w1, hw1⟩ : ∃ u, w.alloc (.cells #[.int .i64 t.rcd, .int .i64 t.rp, .int .i64 t.ras, .int .i64 t.rrds, .int .i64 t.rrdl, .int .i64 t.faw, .int .i64 t.ccds, .int .i64 t.ccdl, .int .i64 t.rtp, .int .i64 t.wr, .int .i64 t.wtrs, .int .i64 t.wtrl, .int .i64 t.rtw, .int .i64 t.rfc, .int .i64 t.cke, .int .i64 t.xp, .int .i64 t.xs] 27) = u := ⟨_, rfl⟩
  have HB1 : Hid (Below w.heap.size w w1) := by subst hw1; exact (Below.refl _ _).alloc (Nat.le_refl _) _
  have p1 : w1.heap[w.heap.size]? = some (.cells #[.int .i64 t.rcd, .int .i64 t.rp, .int .i64 t.ras, .int .i64 t.rrds, .int .i64 t.rrdl, .int .i64 t.faw, .int .i64 t.ccds, .int .i64 t.ccdl, .int .i64 t.rtp, .int .i64 t.wr, .int .i64 t.wtrs, .int .i64 t.wtrl, .int .i64 t.rtw, .int .i64 t.rfc, .int .i64 t.cke, .int .i64 t.xp, .int .i64 t.xs] 27) := by subst hw1; exact heap_alloc_new _ _
  clear hv
  go_enter Try.func55, Try.ntmps55
  go_wp2_with (first | ((with_reducible refine ld_tm ?_ ?_ p1 ?_); kernel_rfl; kernel_rfl; go_simp))
  refine (implNums_is t _).mono ?_
  rintro e w2 ⟨rfl, hb2⟩
  have p2 := keep_block hb2 p1 (lt_of_block p1)
  have HB2 : Hid (Below w.heap.size w w2) := HB1.out.trans (hb2.mono HB1.out.size)
  have ROW := Lib.hid (nums_ix t)
  clear hb2 p1 HB1 hw1
  go_wp2_with fail
  go_loop [7] (fun i => ∃ j : Nat, j ≤ 17 ∧ i = .int .i64 (j : Int) ∧ ∀ m, m < j → In64 (t.l.getD m 0)) (fun i => 18 - (intOf i).toNat)
  case atStart => exact ⟨0, by omega, rfl, fun m hm => absurd hm (Nat.not_lt_zero _)⟩
  case round =>
    obtain ⟨j, hj, rfl, hok⟩ := hrel
    have HOK := Lib.hid hok
    clear hok
    by_cases hlt : j < 17
    · have hI : (j : Int) < 17 := by omega
      have cj := ROW.out j hlt
      obtain ⟨x, hx⟩ : ∃ x, t.l.getD j 0 = x := ⟨_, rfl⟩
      rw [hx] at cj
      have HX := Lib.hid hx
      clear hx
      by_cases hin : In64 x
      · have HOK2 : Hid (∀ m, m < j + 1 → In64 (t.l.getD m 0)) := fun m hm => by
          rcases Nat.lt_succ_iff_lt_or_eq.1 hm with h | h
          · exact HOK.out m h
          · subst h; rw [HX.out]; exact hin
        have s0 : decide (x < 1) = false := decide_eq_false (by have := hin.1; omega)
        have s1 : decide (64 < x) = false := decide_eq_false (by have := hin.2; omega)
        clear hin
        go_wp2
        go_round
        case rel => exact ⟨j + 1, by omega, by go_num, HOK2.out⟩
        case measure => simp [intOf]; omega
      · have HE : Hid (v = false) := by
          show _ = _
          rw [← HV.out]
          exact decide_eq_false fun h => hin (by rw [← HX.out]; exact tm_all.1 h.1 j hlt)
        by_cases hs : x < 1
        · have s0 : decide (x < 1) = true := decide_eq_true hs
          clear hin hs
          go_wp2
          go_ret
          exact ⟨ret_b HE.out.symm, HB2.out⟩
        · have s0 : decide (x < 1) = false := decide_eq_false hs
          have s1 : decide (64 < x) = true := decide_eq_true (by unfold In64 at hin; omega)
          clear hin hs
          go_wp2
          go_ret
          exact ⟨ret_b HE.out.symm, HB2.out⟩
    · obtain rfl : j = 17 := by omega
      (try rw [show ((17 : Nat) : Int) = 17 from rfl])
      obtain ⟨c0, _, c2, c3, c4, _, c6, c7, _, _, c10, c11, _⟩ := tm_cells p2
      have HE : Hid (v = (decide (t.rcd ≤ t.ras) && (decide (t.rrds ≤ t.rrdl) && (decide (t.ccds ≤ t.ccdl) && decide (t.wtrs ≤ t.wtrl))))) := by
        show _ = _
        rw [← HV.out, Bool.eq_iff_iff]
        simp only [Bool.and_eq_true, decide_eq_true_eq]
        exact ⟨fun h => ⟨h.2.1, h.2.2.1, h.2.2.2.1, h.2.2.2.2⟩, fun h => ⟨tm_all.2 HOK.out, h⟩⟩
      obtain ⟨q0, hq0⟩ : ∃ q, decide (t.rcd ≤ t.ras) = q := ⟨_, rfl⟩
      obtain ⟨q1, hq1⟩ : ∃ q, decide (t.rrds ≤ t.rrdl) = q := ⟨_, rfl⟩
      obtain ⟨q2, hq2⟩ : ∃ q, decide (t.ccds ≤ t.ccdl) = q := ⟨_, rfl⟩
      obtain ⟨q3, hq3⟩ : ∃ q, decide (t.wtrs ≤ t.wtrl) = q := ⟨_, rfl⟩
      rw [hq0, hq1, hq2, hq3] at HE
      clear p2 ROW HOK hj hlt
      cases q0
      · go_wp2
        go_ret
        exact ⟨ret_b HE.out.symm, HB2.out⟩
      cases q1
      · go_wp2
        go_ret
        exact ⟨ret_b HE.out.symm, HB2.out⟩
      cases q2
      · go_wp2
        go_ret
        exact ⟨ret_b HE.out.symm, HB2.out⟩
      go_wp2
      go_ret
      exact ⟨ret_b HE.out.symm, HB2.out⟩

end Go.Proofs.Ythplhjdfajhmpaa

namespace Go.Proofs.Ythplhjdfajhmpaa
open Go.RowKit Go.PlainAid

set_option linter.unusedVariables false

/-- Is the time of this kind allowed? -/
def KindFit (bb : Bool) (xs : List Int) (j : Nat) : Prop := xs.getD j 0 = -1 ∨ ((decide (j + 1 < 6) == bb) = true ∧ 0 ≤ xs.getD j 0 ∧ xs.getD j 0 ≤ 1000000)

instance (bb : Bool) (xs : List Int) (j : Nat) : Decidable (KindFit bb xs j) := inferInstanceAs (Decidable (_ ∨ _))

def KindsFit (bb : Bool) (xs : List Int) : Prop := ∀ j, j < 9 → KindFit bb xs j

instance (bb : Bool) (xs : List Int) : Decidable (KindsFit bb xs) := inferInstanceAs (Decidable (∀ j, j < 9 → _))

theorem times_index (x0 x1 x2 x3 x4 x5 x6 x7 x8 : Int) (j : Nat) (hj : j < 9) (w : World) : (Instr.index 133 (.agg #[.int .i64 x0, .int .i64 x1, .int .i64 x2, .int .i64 x3, .int .i64 x4, .int .i64 x5, .int .i64 x6, .int .i64 x7, .int .i64 x8]) (.int .i64 (j : Int))).run Try.prog w = .ok (.int .i64 ([x0, x1, x2, x3, x4, x5, x6, x7, x8].getD j 0)) w :=
  match j, hj with
  | 0, _ => by kernel_rfl
  | 1, _ => by kernel_rfl
  | 2, _ => by kernel_rfl
  | 3, _ => by kernel_rfl
  | 4, _ => by kernel_rfl
  | 5, _ => by kernel_rfl
  | 6, _ => by kernel_rfl
  | 7, _ => by kernel_rfl
  | 8, _ => by kernel_rfl
  | n + 9, h => absurd h (by omega)

set_option maxHeartbeats 4000000 in
set_option maxRecDepth 100000 in
theorem implFit_is (x0 x1 x2 x3 x4 x5 x6 x7 x8 : Int) (bb : Bool) (v : Bool) (hv : decide (KindsFit bb [x0, x1, x2, x3, x4, x5, x6, x7, x8]) = v) (w : World) :
    Calls Try.prog 98 #[.agg #[.int .i64 x0, .int .i64 x1, .int .i64 x2, .int .i64 x3, .int .i64 x4, .int .i64 x5, .int .i64 x6, .int .i64 x7, .int .i64 x8], .bool bb] w (Gives (.bool v) w) := by
  have HV := Lib.hid hv
  have IX := Lib.hid (times_index x0 x1 x2 x3 x4 x5 x6 x7 x8)
  clear hv
  go_enter Try.func98, Try.ntmps98
  go_wp2_with fail
  obtain ⟨w1, hw1⟩ : ∃ u, w.alloc (.cells #[.int .i64 x0, .int .i64 x1, .int .i64 x2, .int .i64 x3, .int .i64 x4, .int .i64 x5, .int .i64 x6, .int .i64 x7, .int .i64 x8] 133) = u := ⟨_, rfl⟩
  have HB1 : Hid (Below w.heap.size w w1) := by subst hw1; exact (Below.refl _ _).alloc (Nat.le_refl _) _
  (try simp only [hw1])
  clear hw1
  go_loopw [9] (fun i wr => ∃ j : Nat, j ≤ 9 ∧ i = .int .i64 j ∧ wr = w1 ∧ ∀ m, m < j → KindFit bb [x0, x1, x2, x3, x4, x5, x6, x7, x8] m) (fun i _ => 10 - (intOf i).toNat)
  case atStart => exact ⟨0, by omega, rfl, rfl, fun m hm => absurd hm (Nat.not_lt_zero _)⟩
  case round =>
    obtain ⟨j, hj, rfl, rfl, hno⟩ := hrel
    have HNO := Lib.hid hno
    clear hno
    by_cases hlt : j < 9
    case neg =>
      obtain rfl : j = 9 := by omega
      (try rw [show ((9 : Nat) : Int) = 9 from rfl])
      have HE : Hid (true = v) := by show _ = _; rw [← HV.out]; exact (decide_eq_true (fun m hm => HNO.out m hm)).symm
      go_wp2_with fail
      go_ret
      exact ⟨ret_b HE.out, HB1.out⟩
    have hI : decide ((j : Int) < 9) = true := decide_eq_true (by omega)
    have hI' : (j : Int) < 9 := by omega
    have ix := IX.out j hlt
    obtain ⟨x, hx⟩ : ∃ x, [x0, x1, x2, x3, x4, x5, x6, x7, x8].getD j 0 = x := ⟨_, rfl⟩
    rw [hx] at ix
    have HX := Lib.hid hx
    have wj : IntKind.i64.wrap ((j : Int) + 1) = (j : Int) + 1 := IntWalk.i64_in _ (by omega)
    obtain ⟨uv, huv⟩ : ∃ uv, decide ((j : Int) + 1 < 6) = uv := ⟨_, rfl⟩
    have HUV := Lib.hid huv
    have HF : Hid (KindFit bb [x0, x1, x2, x3, x4, x5, x6, x7, x8] j ↔ (x = -1 ∨ ((uv == bb) = true ∧ 0 ≤ x ∧ x ≤ 1000000))) := by
      show _ ↔ _
      unfold KindFit
      rw [hx, ← huv, show decide (j + 1 < 6) = decide ((j : Int) + 1 < 6) from decide_eq_decide.2 (by omega)]
    have BAD : Hid (¬ KindFit bb [x0, x1, x2, x3, x4, x5, x6, x7, x8] j → false = v) := fun h => by rw [← HV.out]; exact (decide_eq_false (fun hh => h (hh j hlt))).symm
    have GOOD : Hid (KindFit bb [x0, x1, x2, x3, x4, x5, x6, x7, x8] j → ∀ m, m < j + 1 → KindFit bb [x0, x1, x2, x3, x4, x5, x6, x7, x8] m) := fun h m hm => by
      rcases Nat.lt_succ_iff_lt_or_eq.1 hm with h1 | h1
      · exact HNO.out m h1
      · subst h1; exact h
    clear hx huv
    by_cases h1 : x = -1
    case pos =>
      subst h1
      have HG := Lib.hid (GOOD.out (HF.out.2 (.inl rfl)))
      clear HF BAD GOOD
      go_wp2_with fail
      refine (implUses_is _ _ HUV.out _).mono ?_
      rintro e w2 ⟨rfl, rfl⟩
      go_wp2_with fail
      go_roundw
      case rel => exact ⟨j + 1, by omega, by go_num, by trivial, HG.out⟩
      case measure => simp [intOf]; omega
    have t1 : (x != -1) = true := by simp [h1]
    by_cases hG : (uv == bb) = true ∧ 0 ≤ x ∧ x ≤ 1000000
    case pos =>
      have HG := Lib.hid (GOOD.out (HF.out.2 (.inr hG)))
      have t2 : decide (x < 0) = false := decide_eq_false (by omega)
      have t3 : decide (1000000 < x) = false := decide_eq_false (by omega)
      have t4 : (uv == bb) = true := hG.1
      clear HF BAD GOOD hG h1
      go_wp2_with fail
      refine (implUses_is _ _ HUV.out _).mono ?_
      rintro e w2 ⟨rfl, rfl⟩
      go_wp2_with fail
      go_roundw
      case rel => exact ⟨j + 1, by omega, by go_num, by trivial, HG.out⟩
      case measure => simp [intOf]; omega
    have HE := Lib.hid (BAD.out (fun h => by rcases HF.out.1 h with h2 | h2; exact h1 h2; exact hG h2))
    clear HF BAD GOOD
    by_cases hu : (uv == bb) = true
    case neg =>
      have t4 : (uv == bb) = false := by simpa using hu
      clear hu hG h1
      go_wp2_with fail
      refine (implUses_is _ _ HUV.out _).mono ?_
      rintro e w2 ⟨rfl, rfl⟩
      go_wp2_with fail
      go_ret
      exact ⟨ret_b HE.out, HB1.out⟩
    by_cases h0 : x < 0
    case pos =>
      have t2 : decide (x < 0) = true := decide_eq_true h0
      clear hG h1 h0
      go_wp2_with fail
      refine (implUses_is _ _ HUV.out _).mono ?_
      rintro e w2 ⟨rfl, rfl⟩
      go_wp2_with fail
      go_ret
      exact ⟨ret_b HE.out, HB1.out⟩
    have t2 : decide (x < 0) = false := decide_eq_false h0
    have t3 : decide (1000000 < x) = true := decide_eq_true (by have : ¬ (0 ≤ x ∧ x ≤ 1000000) := fun h => hG ⟨hu, h⟩; omega)
    clear hG h1 h0
    go_wp2_with fail
    refine (implUses_is _ _ HUV.out _).mono ?_
    rintro e w2 ⟨rfl, rfl⟩
    go_wp2_with fail
    go_ret
    exact ⟨ret_b HE.out, HB1.out⟩

end Go.Proofs.Ythplhjdfajhmpaa

namespace Go.Proofs.Ythplhjdfajhmpaa
open Go.RowKit Go.PlainAid

set_option linter.unusedVariables false

theorem lastOk_is {N : Nat} {la : List Int} (hl : la.length = 9 * (N + 1)) : LastOk N la ↔ ∀ b, b < N + 1 → KindsFit (decide (b < N)) (blkL la b) := by
  have key : ∀ b j, j < 9 → (blkL la b).getD j 0 = la.getD (9 * b + j) 0 := fun b j hj => by
    match j, hj with
    | 0, _ => rfl
    | 1, _ => rfl
    | 2, _ => rfl
    | 3, _ => rfl
    | 4, _ => rfl
    | 5, _ => rfl
    | 6, _ => rfl
    | 7, _ => rfl
    | 8, _ => rfl
    | n + 9, h => exact absurd h (by omega)
  have us : ∀ b j, j < 9 → usedI N (9 * b + j) = (decide (j + 1 < 6) == decide (b < N)) := fun b j hj => by
    unfold usedI
    rw [show (9 * b + j) % 9 = j by omega, show (9 * b + j) / 9 = b by omega, show decide (j + 1 ≤ 5) = decide (j + 1 < 6) from decide_eq_decide.2 (by omega)]
  constructor
  · intro h b hb j hj
    have := h (9 * b + j) (by omega)
    unfold KindFit
    rw [key b j hj, ← us b j hj]
    rcases this with ⟨⟨h1, h2⟩, h3⟩
    by_cases h4 : la.getD (9 * b + j) 0 = -1
    · exact .inl h4
    · rcases h3 with h3 | h3
      · exact .inr ⟨h3, by omega, h2⟩
      · exact absurd h3 h4
  · intro h i hi
    have hd : i = 9 * (i / 9) + i % 9 := by omega
    have hj : i % 9 < 9 := by omega
    have := h (i / 9) (by omega) (i % 9) hj
    unfold KindFit at this
    rw [key _ _ hj, ← us _ _ hj, ← hd] at this
    rcases this with h1 | ⟨h1, h2, h3⟩
    · rw [h1]; exact ⟨by decide, .inr rfl⟩
    · exact ⟨⟨by omega, h3⟩, .inl h1⟩

set_option maxHeartbeats 2000000 in
theorem implBlocks_is (g0 B g2 g3 : Int) (N : Nat) (hN : bankN g0 B g2 g3 = (N : Int)) (w : World) :
    Calls Try.prog 82 #[.agg #[.int .i64 g0, .int .i64 B, .int .i64 g2, .int .i64 g3]] w (Gives (.int .i64 ((N + 1 : Nat) : Int)) w) := by
  obtain ⟨w1, hw1⟩ : ∃ u, w.alloc (.cells #[.int .i64 g0, .int .i64 B, .int .i64 g2, .int .i64 g3] 25) = u := ⟨_, rfl⟩
  have HB1 : Hid (Below w.heap.size w w1) := by subst hw1; exact (Below.refl _ _).alloc (Nat.le_refl _) _
  have g1 : w1.heap[w.heap.size]? = some (.cells #[.int .i64 g0, .int .i64 B, .int .i64 g2, .int .i64 g3] 25) := by subst hw1; exact heap_alloc_new _ _
  obtain ⟨c0, c1, c2, c3⟩ := cells4 g1
  have hr := bankN_range g0 B g2 g3
  have HN := Lib.hid hN
  have wn : IntKind.i64.wrap ((N : Int) + 1) = (N : Int) + 1 := IntWalk.i64_in _ (by omega)
  clear hr hN
  go_enter Try.func82, Try.ntmps82
  go_wp2_with fail
  refine (implBank_is _ _ _ _ _ HN.out _).mono ?_
  rintro e w2 ⟨rfl, hb2⟩
  have HB2 : Hid (Below w.heap.size w w2) := HB1.out.trans (hb2.mono HB1.out.size)
  clear hb2
  go_wp2_with fail
  go_ret
  exact ⟨rfl, HB2.out⟩

set_option maxHeartbeats 2000000 in
theorem implLastLen_is (g0 B g2 g3 : Int) (N : Nat) (hN : bankN g0 B g2 g3 = (N : Int)) (w : World) :
    Calls Try.prog 43 #[.agg #[.int .i64 g0, .int .i64 B, .int .i64 g2, .int .i64 g3]] w (Gives (.int .i64 ((9 * (N + 1) : Nat) : Int)) w) := by
  obtain ⟨w1, hw1⟩ : ∃ u, w.alloc (.cells #[.int .i64 g0, .int .i64 B, .int .i64 g2, .int .i64 g3] 25) = u := ⟨_, rfl⟩
  have HB1 : Hid (Below w.heap.size w w1) := by subst hw1; exact (Below.refl _ _).alloc (Nat.le_refl _) _
  have g1 : w1.heap[w.heap.size]? = some (.cells #[.int .i64 g0, .int .i64 B, .int .i64 g2, .int .i64 g3] 25) := by subst hw1; exact heap_alloc_new _ _
  obtain ⟨c0, c1, c2, c3⟩ := cells4 g1
  have hr := bankN_range g0 B g2 g3
  have HN := Lib.hid hN
  obtain ⟨M, hM⟩ : ∃ M, N + 1 = M := ⟨_, rfl⟩
  have HC : Hid (∀ u, Calls Try.prog 82 #[.agg #[.int .i64 g0, .int .i64 B, .int .i64 g2, .int .i64 g3]] u (Gives (.int .i64 (M : Int)) u)) := fun u => by rw [← hM]; exact implBlocks_is _ _ _ _ N HN.out u
  have wn : IntKind.i64.wrap (9 * (M : Int)) = ((9 * M : Nat) : Int) := by rw [IntWalk.i64_in _ (by omega)]; omega
  rw [hM]
  clear hr hN hM
  go_enter Try.func43, Try.ntmps43
  go_wp2_with fail
  refine (HC.out _).mono ?_
  rintro e w2 ⟨rfl, hb2⟩
  have HB2 : Hid (Below w.heap.size w w2) := HB1.out.trans (hb2.mono HB1.out.size)
  clear hb2
  go_wp2_with fail
  go_ret
  exact ⟨by first | rfl | (rw [wn]; rfl) | simp, HB2.out⟩

set_option maxHeartbeats 8000000 in
set_option maxRecDepth 100000 in
theorem implLastFits_is (g0 B g2 g3 : Int) (N : Nat) (hN : bankN g0 B g2 g3 = (N : Int)) (a1 : Option Addr) (n1 c1 : Nat) (la : List Int) (a2 : Option Addr) (n2 c2 : Nat) (v : Bool) (hv : decide (∀ b, b < N + 1 → KindsFit (decide (b < N)) (blkL la b)) = v) (hl : la.length = n1) (hn : n1 = 9 * (N + 1)) (hc1 : n1 ≤ c1) (w : World) (hr1 : RowI w a1 la) :
    Calls Try.prog 67 #[.agg #[.slice a1 n1 c1, .slice a2 n2 c2], .agg #[.int .i64 g0, .int .i64 B, .int .i64 g2, .int .i64 g3]] w (Gives (.bool v) w) := by
  obtain ⟨w1, hw1⟩ : ∃ u, (w.alloc (.cells #[.slice a1 n1 c1, .slice a2 n2 c2] 33)).alloc (.cells #[.int .i64 g0, .int .i64 B, .int .i64 g2, .int .i64 g3] 25) = u := ⟨_, rfl⟩
  have HB1 : Hid (Below w.heap.size w w1) := by subst hw1; exact ((Below.refl _ _).alloc (Nat.le_refl _) _).alloc (by simp) _
  have p1 : w1.heap[w.heap.size]? = some (.cells #[.slice a1 n1 c1, .slice a2 n2 c2] 33) := by subst hw1; exact heap_alloc2_old _ _ _
  have g1 : w1.heap[w.heap.size + 1]? = some (.cells #[.int .i64 g0, .int .i64 B, .int .i64 g2, .int .i64 g3] 25) := by subst hw1; exact heap_alloc2_new _ _ _
  have HR := Lib.hid (hr1.below HB1.out)
  have hrg := bankN_range g0 B g2 g3
  have hN8 : N ≤ 8 := by omega
  have HN := Lib.hid hN
  have HV := Lib.hid hv
  have HL := Lib.hid hl
  obtain ⟨c0, c1', c2', c3⟩ := cells4 g1
  obtain ⟨M, hM⟩ : ∃ M, N + 1 = M := ⟨_, rfl⟩
  have HC : Hid (∀ u, Calls Try.prog 82 #[.agg #[.int .i64 g0, .int .i64 B, .int .i64 g2, .int .i64 g3]] u (Gives (.int .i64 (M : Int)) u)) := fun u => by rw [← hM]; exact implBlocks_is _ _ _ _ N HN.out u
  have hn9 : 9 * M ≤ n1 := by omega
  have hn3 : n1 ≤ 3000000 := by omega
  have HM := Lib.hid hM
  clear hrg hN hv hl hr1 hn hM
  go_enter Try.func67, Try.ntmps67
  go_wp2_with fail
  refine (HC.out _).mono ?_
  rintro e w2 ⟨rfl, hb2⟩
  have p2 := keep_block hb2 p1 (lt_of_block p1)
  have g2' := keep_block hb2 g1 (lt_of_block g1)
  have HB2 : Hid (Below w.heap.size w w2) := HB1.out.trans (hb2.mono HB1.out.size)
  have HR2 := Lib.hid (HR.out.below hb2)
  clear hb2 c0 c1' c2' c3 p1 g1 HB1 HR hw1
  go_wp2_with fail
  go_loopw [8] (fun i wr => ∃ b : Nat, b ≤ M ∧ i = .int .i64 b ∧ Below w2.heap.size w2 wr ∧ ∀ m, m < b → KindsFit (decide (m < N)) (blkL la m)) (fun i _ => M - (intOf i).toNat)
  case atStart => exact ⟨0, by omega, rfl, Below.refl _ _, fun m hm => absurd hm (Nat.not_lt_zero _)⟩
  case round =>
    obtain ⟨b, hbM, rfl, hbr, hno⟩ := hrel
    have HNO := Lib.hid hno
    have HBW : Hid (Below w.heap.size w wr) := HB2.out.trans (hbr.mono HB2.out.size)
    have HBR := Lib.hid hbr
    have pr := keep_block hbr p2 (lt_of_block p2)
    have gr := keep_block hbr g2' (lt_of_block g2')
    have HRR := Lib.hid (HR2.out.below hbr)
    clear hno hbr
    by_cases hlt : b < M
    case neg =>
      obtain rfl : b = M := by omega
      have HE : Hid (true = v) := by show _ = _; rw [← HV.out]; exact (decide_eq_true (fun m hm => HNO.out m (by have := HM.out; omega))).symm
      clear HNO
      go_wp2_with fail
      go_ret
      exact ⟨ret_b HE.out, HBW.out⟩
    have hb9 : 9 * b + 9 ≤ n1 := by omega
    obtain ⟨bb, hbb⟩ : ∃ bb, decide ((b : Int) < (N : Int)) = bb := ⟨_, rfl⟩
    have hbb' : decide (b < N) = bb := by rw [← hbb]; exact decide_eq_decide.2 (by omega)
    obtain ⟨x0, x1, x2, x3, x4, x5, x6, x7, x8, hx⟩ : ∃ x0 x1 x2 x3 x4 x5 x6 x7 x8, blkL la b = [x0, x1, x2, x3, x4, x5, x6, x7, x8] := ⟨_, _, _, _, _, _, _, _, _, rfl⟩
    have HX := Lib.hid hx
    obtain ⟨fv, hfv⟩ : ∃ fv, decide (KindsFit bb (blkL la b)) = fv := ⟨_, rfl⟩
    have HFV : Hid (decide (KindsFit bb [x0, x1, x2, x3, x4, x5, x6, x7, x8]) = fv) := by show _ = _; rw [← hx]; exact hfv
    clear hx
    have BAD : Hid (fv = false → false = v) := fun h => by rw [← HV.out]; exact (decide_eq_false (fun hh => of_decide_eq_false (hfv.trans h) (hbb' ▸ hh b (by have := HM.out; omega)))).symm
    have GOOD : Hid (fv = true → ∀ m, m < b + 1 → KindsFit (decide (m < N)) (blkL la m)) := fun h m hm => by
      rcases Nat.lt_succ_iff_lt_or_eq.1 hm with h1 | h1
      · exact HNO.out m h1
      · subst h1; rw [hbb']; exact of_decide_eq_true (hfv.trans h)
    obtain ⟨d0, d1⟩ := cells2 pr
    obtain ⟨c0, c1', c2', c3⟩ := cells4 gr
    have zd0 := fun q : Later wr => q.cell d0
    have zd1 := fun q : Later wr => q.cell d1
    have zc0 := fun q : Later wr => q.cell c0
    have zc1 := fun q : Later wr => q.cell c1'
    have zc2 := fun q : Later wr => q.cell c2'
    have zc3 := fun q : Later wr => q.cell c3
    clear hfv d0 d1 c0 c1' c2' c3
    have hno : decide ((b : Int) < (M : Int)) = true := decide_eq_true (by omega)
    go_wp2_with fail
    refine wp_region_later (by kernel_rfl) (by kernel_rfl) ?_
    repeat (go_big_quiet_step (first | (go_at_call 97; exact Gives.later _ (implTimesOf_at _ n1 _ la _ _ _ b hb9 HL.out hn3 hc1 x0 x1 x2 x3 x4 x5 x6 x7 x8 HX.out _ (HRR.out.below (Later.ok _)))) | (go_at_call 83; exact Gives.later _ (implBank_is _ _ _ _ _ HN.out _)) | (go_at_call 98; exact Gives.later _ (implFit_is x0 x1 x2 x3 x4 x5 x6 x7 x8 bb fv HFV.out _))))
    refine wpQuiet_nil ?_
    rintro wz ⟨zz, hzz⟩
    have hbz : Below wr.heap.size wr wz := hzz ▸ zz.ok
    have HBZ : Hid (Below w2.heap.size w2 wz) := HBR.out.trans (hbz.mono HBR.out.size)
    have HBY : Hid (Below w.heap.size w wz) := HBW.out.trans (hbz.mono HBW.out.size)
    clear hzz zz hbz zd0 zd1 zc0 zc1 zc2 zc3
    cases fv
    case false =>
      have HE := Lib.hid (BAD.out rfl)
      go_wp2_with fail
      go_ret
      exact ⟨ret_b HE.out, HBY.out⟩
    case true =>
      have HG := Lib.hid (GOOD.out rfl)
      have wb : IntKind.i64.wrap ((b : Int) + 1) = (b : Int) + 1 := IntWalk.i64_in _ (by omega)
      clear BAD GOOD
      go_wp2_with fail
      go_roundw
      case rel => exact ⟨b + 1, by omega, by go_num, HBZ.out, HG.out⟩
      case measure => simp [intOf]; omega

set_option maxHeartbeats 8000000 in
set_option maxRecDepth 100000 in
theorem implActsFit_is (a : Option Addr) (n c : Nat) (ac : List Int) (v : Bool) (hv : decide (ac.length ≤ 4 ∧ ActsOk ac) = v) (hl : ac.length = n) (h1 : n ≤ 3000000) (w : World) (hr : RowI w a ac) :
    Calls Try.prog 68 #[.slice a n c] w (Gives (.bool v) w) := by
  have HR := Lib.hid hr
  have HV := Lib.hid hv
  have HL := Lib.hid hl
  clear hv hl hr
  go_enter Try.func68, Try.ntmps68
  go_wp2_with fail
  go_loopw [7] (fun i wr => ∃ k : Nat, k ≤ n ∧ i = .int .i64 k ∧ wr = w ∧ ∀ m, m < k → ((0 ≤ ac.getD m 0 ∧ ac.getD m 0 ≤ 1000000) ∧ (0 < m → ac.getD (m - 1) 0 < ac.getD m 0))) (fun i _ => n - (intOf i).toNat)
  case atStart => exact ⟨0, by omega, rfl, rfl, fun m hm => absurd hm (Nat.not_lt_zero _)⟩
  case round =>
    obtain ⟨k, hk, rfl, rfl, hno⟩ := hrel
    have HNO := Lib.hid hno
    clear hno
    by_cases hlt : k < n
    case neg =>
      obtain rfl : k = n := by omega
      have HA : Hid (ActsOk ac) := fun i hi => HNO.out i (by have := HL.out; omega)
      have HE : Hid (decide ((k : Int) ≤ 4) = v) := by show _ = _; rw [← HV.out]; exact decide_eq_decide.2 ⟨fun h => ⟨by have := HL.out; omega, HA.out⟩, fun h => by have := HL.out; have := h.1; omega⟩
      have HE2 : Hid (decide (k ≤ 4) = v) := by show _ = _; rw [← HE.out]; exact decide_eq_decide.2 (by omega)
      clear HNO
      go_wp2_with fail
      go_ret
      exact ⟨by first | exact ret_b HE.out | exact ret_b HE2.out, Below.refl _ _⟩
    have hno : decide ((k : Int) < (n : Int)) = true := decide_eq_true (by omega)
    obtain ⟨b, off, rfl, hcell⟩ := HR.out.at (k := k) (by rw [HL.out]; exact hlt)
    obtain ⟨x, hx⟩ : ∃ x, ac.getD k 0 = x := ⟨_, rfl⟩
    rw [hx] at hcell
    have BAD : Hid (¬ ((0 ≤ x ∧ x ≤ 1000000) ∧ (0 < k → ac.getD (k - 1) 0 < x)) → false = v) := fun h => by rw [← HV.out]; exact (decide_eq_false (fun hh => h (hx ▸ hh.2 k (by rw [HL.out]; exact hlt)))).symm
    have GOOD : Hid (((0 ≤ x ∧ x ≤ 1000000) ∧ (0 < k → ac.getD (k - 1) 0 < x)) → ∀ m, m < k + 1 → ((0 ≤ ac.getD m 0 ∧ ac.getD m 0 ≤ 1000000) ∧ (0 < m → ac.getD (m - 1) 0 < ac.getD m 0))) := fun h m hm => by
      rcases Nat.lt_succ_iff_lt_or_eq.1 hm with h1 | h1
      · exact HNO.out m h1
      · subst h1; rw [hx]; exact h
    have wk : IntKind.i64.wrap ((k : Int) + 1) = (k : Int) + 1 := IntWalk.i64_in _ (by omega)
    by_cases h0 : x < 0
    case pos =>
      have t0 : decide (x < 0) = true := decide_eq_true h0
      have HE := Lib.hid (BAD.out (fun h => by omega))
      clear BAD GOOD hx h0
      go_wp2_with fail
      go_ret
      exact ⟨ret_b HE.out, Below.refl _ _⟩
    have t0 : decide (x < 0) = false := decide_eq_false h0
    by_cases h2 : 1000000 < x
    case pos =>
      have t2 : decide (1000000 < x) = true := decide_eq_true h2
      have HE := Lib.hid (BAD.out (fun h => by omega))
      clear BAD GOOD hx h0 h2
      go_wp2_with fail
      go_ret
      exact ⟨ret_b HE.out, Below.refl _ _⟩
    have t2 : decide (1000000 < x) = false := decide_eq_false h2
    by_cases hk0 : k = 0
    case pos =>
      have t3 : decide ((0 : Int) < (k : Int)) = false := decide_eq_false (by omega)
      have t3' : decide (0 < k) = false := decide_eq_false (by omega)
      have HG := Lib.hid (GOOD.out ⟨⟨by omega, by omega⟩, fun h => by omega⟩)
      clear BAD GOOD hx h0 h2 hk0
      go_wp2_with fail
      go_roundw
      case rel => exact ⟨k + 1, by omega, by go_num, by trivial, HG.out⟩
      case measure => simp [intOf]; omega
    have t3 : decide ((0 : Int) < (k : Int)) = true := decide_eq_true (by omega)
    have t3' : decide (0 < k) = true := decide_eq_true (by omega)
    have wk1 : IntKind.i64.wrap ((k : Int) - 1) = ((k - 1 : Nat) : Int) := by rw [IntWalk.i64_in _ (by omega)]; omega
    have hk1 : k - 1 < n := by omega
    obtain ⟨b', off', hbb, hcell'⟩ := HR.out.at (k := k - 1) (by rw [HL.out]; exact hk1)
    cases hbb
    obtain ⟨y, hy⟩ : ∃ y, ac.getD (k - 1) 0 = y := ⟨_, rfl⟩
    rw [hy] at hcell' BAD GOOD
    by_cases h3 : x ≤ y
    case pos =>
      have t4 : decide (x ≤ y) = true := decide_eq_true h3
      have HE := Lib.hid (BAD.out (fun h => by have := h.2 (by omega); omega))
      clear BAD GOOD hx hy h0 h2 h3
      go_wp2_with fail
      go_ret
      exact ⟨ret_b HE.out, Below.refl _ _⟩
    have t4 : decide (x ≤ y) = false := decide_eq_false h3
    have HG := Lib.hid (GOOD.out ⟨⟨by omega, by omega⟩, fun h => by omega⟩)
    clear BAD GOOD hx hy h0 h2 h3
    go_wp2_with fail
    go_roundw
    case rel => exact ⟨k + 1, by omega, by go_num, by trivial, HG.out⟩
    case measure => simp [intOf]; omega

end Go.Proofs.Ythplhjdfajhmpaa

namespace Go.Proofs.Ythplhjdfajhmpaa
open Go.RowKit Go.PlainAid

set_option linter.unusedVariables false

set_option maxHeartbeats 8000000 in
set_option maxRecDepth 100000 in
theorem implReadyOk_is (g0 B g2 g3 : Int) (N : Nat) (hN : bankN g0 B g2 g3 = (N : Int)) (a1 : Option Addr) (n1 c1 : Nat) (la : List Int) (a2 : Option Addr) (n2 c2 : Nat) (ac : List Int) (v : Bool) (hv : decide (RdOk g0 B g2 g3 N la ac) = v) (hl1 : la.length = n1) (h1 : n1 ≤ 3000000) (hl2 : ac.length = n2) (h2 : n2 ≤ 3000000) (hc1 : n1 ≤ c1) (w : World) (hr1 : RowI w a1 la) (hr2 : RowI w a2 ac) :
    Calls Try.prog 31 #[.agg #[.int .i64 g0, .int .i64 B, .int .i64 g2, .int .i64 g3], .agg #[.slice a1 n1 c1, .slice a2 n2 c2]] w (Gives (.bool v) w) := by
  obtain ⟨w1, hw1⟩ : ∃ u, (w.alloc (.cells #[.int .i64 g0, .int .i64 B, .int .i64 g2, .int .i64 g3] 25)).alloc (.cells #[.slice a1 n1 c1, .slice a2 n2 c2] 33) = u := ⟨_, rfl⟩
  have HB1 : Hid (Below w.heap.size w w1) := by subst hw1; exact ((Below.refl _ _).alloc (Nat.le_refl _) _).alloc (by simp) _
  have g1 : w1.heap[w.heap.size]? = some (.cells #[.int .i64 g0, .int .i64 B, .int .i64 g2, .int .i64 g3] 25) := by subst hw1; exact heap_alloc2_old _ _ _
  have p1 : w1.heap[w.heap.size + 1]? = some (.cells #[.slice a1 n1 c1, .slice a2 n2 c2] 33) := by subst hw1; exact heap_alloc2_new _ _ _
  have HR1 := Lib.hid (hr1.below HB1.out)
  have HR2 := Lib.hid (hr2.below HB1.out)
  have hrg := bankN_range g0 B g2 g3
  have hN8 : N ≤ 8 := by omega
  have HN := Lib.hid hN
  have HV := Lib.hid hv
  have HL1 := Lib.hid hl1
  have HL2 := Lib.hid hl2
  obtain ⟨M, hM⟩ : ∃ M, 9 * (N + 1) = M := ⟨_, rfl⟩
  have HM := Lib.hid hM
  have HLL : Hid (∀ u, Calls Try.prog 43 #[.agg #[.int .i64 g0, .int .i64 B, .int .i64 g2, .int .i64 g3]] u (Gives (.int .i64 (M : Int)) u)) := fun u => by rw [← hM]; exact implLastLen_is _ _ _ _ N HN.out u
  obtain ⟨c0, c1', c2', c3⟩ := cells4 g1
  obtain ⟨d0, d1⟩ := cells2 p1
  have z0 := fun q : Later w1 => q.cell c0
  have z1 := fun q : Later w1 => q.cell c1'
  have z2 := fun q : Later w1 => q.cell c2'
  have z3 := fun q : Later w1 => q.cell c3
  have y0 := fun q : Later w1 => q.cell d0
  have y1 := fun q : Later w1 => q.cell d1
  clear hr1 hr2 hv hN hrg c0 c1' c2' c3 d0 d1 hM hl1 hl2
  by_cases hg : GeoOk g0 B g2 g3
  case neg =>
    have HE : Hid (false = v) := by show _ = _; rw [← HV.out]; exact (decide_eq_false (fun h => hg h.1)).symm
    have K := Lib.hid (decide_eq_false hg)
    clear hg
    go_enter Try.func31, Try.ntmps31
    go_wp2_with fail
    refine wp_region_later (by kernel_rfl) (by kernel_rfl) ?_
    repeat (go_big_quiet_step (first | (go_at_call 41; exact Gives.later _ (implGeoOk_is _ _ _ _ _ K.out _))))
    refine wpQuiet_nil ?_
    rintro w2 ⟨zz, hz⟩
    have HB2 : Hid (Below w.heap.size w w2) := HB1.out.trans ((hz ▸ zz.ok : Below w1.heap.size w1 w2).mono HB1.out.size)
    go_wp2
    go_ret
    exact ⟨ret_b HE.out, HB2.out⟩
  have K := Lib.hid (decide_eq_true hg)
  by_cases hnm : n1 = M
  case neg =>
    have HE : Hid (false = v) := by show _ = _; rw [← HV.out]; exact (decide_eq_false (fun h => hnm (by have := h.2.1; have := HL1.out; have := HM.out; omega))).symm
    have t1 : ((n1 : Int) == (M : Int)) = false := by rw [beq_eq_false_iff_ne]; omega
    have t1' : (n1 == M) = false := by rw [beq_eq_false_iff_ne]; exact hnm
    clear hg hnm
    go_enter Try.func31, Try.ntmps31
    go_wp2_with fail
    refine wp_region_later (by kernel_rfl) (by kernel_rfl) ?_
    repeat (go_big_quiet_step (first | (go_at_call 41; exact Gives.later _ (implGeoOk_is _ _ _ _ _ K.out _)) | (go_at_call 43; exact Gives.later _ (HLL.out _))))
    refine wpQuiet_nil ?_
    rintro w2 ⟨zz, hz⟩
    have HB2 : Hid (Below w.heap.size w w2) := HB1.out.trans ((hz ▸ zz.ok : Below w1.heap.size w1 w2).mono HB1.out.size)
    go_wp2
    go_ret
    exact ⟨ret_b HE.out, HB2.out⟩
  have t1 : ((n1 : Int) == (M : Int)) = true := by rw [hnm]; exact beq_self_eq_true _
  have t1' : (n1 == M) = true := by rw [hnm]; exact beq_self_eq_true _
  have HN9 : Hid (n1 = 9 * (N + 1)) := by show _ = _; rw [hnm]; exact HM.out.symm
  have HG := Lib.hid hg
  clear hg hnm
  obtain ⟨lv, hlv⟩ : ∃ lv, decide (∀ b, b < N + 1 → KindsFit (decide (b < N)) (blkL la b)) = lv := ⟨_, rfl⟩
  have HLV := Lib.hid hlv
  have HLK : Hid (decide (LastOk N la) = lv) := by show _ = _; rw [← hlv]; exact decide_eq_decide.2 (lastOk_is (by rw [HL1.out]; exact HN9.out))
  clear hlv
  cases lv
  case false =>
    have HE : Hid (false = v) := by show _ = _; rw [← HV.out]; exact (decide_eq_false (fun h => of_decide_eq_false HLK.out h.2.2.2.1)).symm
    go_enter Try.func31, Try.ntmps31
    go_wp2_with fail
    refine wp_region_later (by kernel_rfl) (by kernel_rfl) ?_
    repeat (go_big_quiet_step (first | (go_at_call 41; exact Gives.later _ (implGeoOk_is _ _ _ _ _ K.out _)) | (go_at_call 43; exact Gives.later _ (HLL.out _)) | (go_at_call 67; exact Gives.later _ (implLastFits_is _ _ _ _ N HN.out a1 n1 _ la _ _ _ false HLV.out HL1.out HN9.out hc1 _ (HR1.out.below (Later.ok _))))))
    refine wpQuiet_nil ?_
    rintro w2 ⟨zz, hz⟩
    have HB2 : Hid (Below w.heap.size w w2) := HB1.out.trans ((hz ▸ zz.ok : Below w1.heap.size w1 w2).mono HB1.out.size)
    go_wp2
    go_ret
    exact ⟨ret_b HE.out, HB2.out⟩
  obtain ⟨av, hav⟩ : ∃ av, decide (ac.length ≤ 4 ∧ ActsOk ac) = av := ⟨_, rfl⟩
  have HAV := Lib.hid hav
  have HE : Hid (av = v) := by
    show _ = _
    rw [← HV.out, ← hav]
    exact decide_eq_decide.2 ⟨fun h => ⟨HG.out, by rw [HL1.out]; exact HN9.out, h.1, of_decide_eq_true HLK.out, h.2⟩, fun h => ⟨h.2.2.1, h.2.2.2.2⟩⟩
  clear hav
  go_enter Try.func31, Try.ntmps31
  go_wp2_with fail
  refine wp_region_later (by kernel_rfl) (by kernel_rfl) ?_
  repeat (go_big_quiet_step (first | (go_at_call 41; exact Gives.later _ (implGeoOk_is _ _ _ _ _ K.out _)) | (go_at_call 43; exact Gives.later _ (HLL.out _)) | (go_at_call 67; exact Gives.later _ (implLastFits_is _ _ _ _ N HN.out a1 n1 _ la _ _ _ true HLV.out HL1.out HN9.out hc1 _ (HR1.out.below (Later.ok _)))) | (go_at_call 68; exact Gives.later _ (implActsFit_is _ _ _ ac av HAV.out HL2.out h2 _ (HR2.out.below (Later.ok _))))))
  refine wpQuiet_nil ?_
  rintro w2 ⟨zz, hz⟩
  have HB2 : Hid (Below w.heap.size w w2) := HB1.out.trans ((hz ▸ zz.ok : Below w1.heap.size w1 w2).mono HB1.out.size)
  go_wp2
  go_ret
  exact ⟨ret_b HE.out, HB2.out⟩

end Go.Proofs.Ythplhjdfajhmpaa

namespace Go.Proofs.Ythplhjdfajhmpaa
open Go.RowKit

set_option linter.unusedVariables false

theorem bankR_out {t : Tm} {a b : Int} (h : ¬ ((1 ≤ a ∧ a ≤ 9) ∧ (1 ≤ b ∧ b ≤ 9))) : bankR t a b = 0 := by
  unfold bankR
  repeat' (first | rfl | omega | split)

set_option maxHeartbeats 8000000 in
theorem implBankGap_is (t : Tm) (a b : Int) (v : Int) (hv : bankG t a b = v) (w : World) :
    Calls Try.prog 122 #[.agg #[.int .i64 t.rcd, .int .i64 t.rp, .int .i64 t.ras, .int .i64 t.rrds, .int .i64 t.rrdl, .int .i64 t.faw, .int .i64 t.ccds, .int .i64 t.ccdl, .int .i64 t.rtp, .int .i64 t.wr, .int .i64 t.wtrs, .int .i64 t.wtrl, .int .i64 t.rtw, .int .i64 t.rfc, .int .i64 t.cke, .int .i64 t.xp, .int .i64 t.xs], .int .i64 a, .int .i64 b] w (Gives (.int .i64 v) w) := by
  obtain ⟨w1, hw1⟩ : ∃ u, w.alloc (.cells #[.int .i64 t.rcd, .int .i64 t.rp, .int .i64 t.ras, .int .i64 t.rrds, .int .i64 t.rrdl, .int .i64 t.faw, .int .i64 t.ccds, .int .i64 t.ccdl, .int .i64 t.rtp, .int .i64 t.wr, .int .i64 t.wtrs, .int .i64 t.wtrl, .int .i64 t.rtw, .int .i64 t.rfc, .int .i64 t.cke, .int .i64 t.xp, .int .i64 t.xs] 27) = u := ⟨_, rfl⟩
  have HB1 : Hid (Below w.heap.size w w1) := by subst hw1; exact (Below.refl _ _).alloc (Nat.le_refl _) _
  have p1 : w1.heap[w.heap.size]? = some (.cells #[.int .i64 t.rcd, .int .i64 t.rp, .int .i64 t.ras, .int .i64 t.rrds, .int .i64 t.rrdl, .int .i64 t.faw, .int .i64 t.ccds, .int .i64 t.ccdl, .int .i64 t.rtp, .int .i64 t.wr, .int .i64 t.wtrs, .int .i64 t.wtrl, .int .i64 t.rtw, .int .i64 t.rfc, .int .i64 t.cke, .int .i64 t.xp, .int .i64 t.xs] 27) := by subst hw1; exact heap_alloc_new _ _
  by_cases h : TimOk t
  case neg =>
    have K := Lib.hid (decide_eq_false h)
    have HE : Hid (v = 0) := by show _ = _; rw [← hv]; exact if_neg h
    clear hv h
    go_enter Try.func122, Try.ntmps122
    go_wp2_with (first | ((with_reducible refine ld_tm ?_ ?_ p1 ?_); kernel_rfl; kernel_rfl; go_simp))
    refine (implTimOk_is t _ K.out _).mono ?_
    rintro e w2 ⟨rfl, hb2⟩
    have p2 := keep_block hb2 p1 (lt_of_block p1)
    have HB2 : Hid (Below w.heap.size w w2) := HB1.out.trans (hb2.mono HB1.out.size)
    clear hb2 p1 HB1
    go_wp2
    go_ret
    exact ⟨ret_i HE.out.symm, HB2.out⟩
  have K := Lib.hid (decide_eq_true h)
  by_cases ha : 1 ≤ a ∧ a ≤ 9
  case neg =>
    have KA := Lib.hid (decide_eq_false ha)
    have HE : Hid (v = 0) := by show _ = _; rw [← hv]; exact (if_pos h).trans (bankR_out (fun hh => ha hh.1))
    clear hv h ha
    go_enter Try.func122, Try.ntmps122
    go_wp2_with (first | ((with_reducible refine ld_tm ?_ ?_ p1 ?_); kernel_rfl; kernel_rfl; go_simp))
    refine (implTimOk_is t _ K.out _).mono ?_
    rintro e w2 ⟨rfl, hb2⟩
    have p2 := keep_block hb2 p1 (lt_of_block p1)
    have HB2 : Hid (Below w.heap.size w w2) := HB1.out.trans (hb2.mono HB1.out.size)
    clear hb2 p1 HB1
    go_wp2_with fail
    refine (implKindOk_is _ _ KA.out _).mono ?_
    rintro e w' ⟨rfl, rfl⟩
    go_wp2
    go_ret
    exact ⟨ret_i HE.out.symm, HB2.out⟩
  have KA := Lib.hid (decide_eq_true ha)
  by_cases hb : 1 ≤ b ∧ b ≤ 9
  case neg =>
    have KB := Lib.hid (decide_eq_false hb)
    have HE : Hid (v = 0) := by show _ = _; rw [← hv]; exact (if_pos h).trans (bankR_out (fun hh => hb hh.2))
    clear hv h ha hb
    go_enter Try.func122, Try.ntmps122
    go_wp2_with (first | ((with_reducible refine ld_tm ?_ ?_ p1 ?_); kernel_rfl; kernel_rfl; go_simp))
    refine (implTimOk_is t _ K.out _).mono ?_
    rintro e w2 ⟨rfl, hb2⟩
    have p2 := keep_block hb2 p1 (lt_of_block p1)
    have HB2 : Hid (Below w.heap.size w w2) := HB1.out.trans (hb2.mono HB1.out.size)
    clear hb2 p1 HB1
    go_wp2_with fail
    refine (implKindOk_is _ _ KA.out _).mono ?_
    rintro e w' ⟨rfl, rfl⟩
    go_wp2_with fail
    refine (implKindOk_is _ _ KB.out _).mono ?_
    rintro e w' ⟨rfl, rfl⟩
    go_wp2
    go_ret
    exact ⟨ret_i HE.out.symm, HB2.out⟩
  have KB := Lib.hid (decide_eq_true hb)
  have HE : Hid (v = bankR t a b) := by show _ = _; rw [← hv]; exact if_pos h
  obtain ⟨rv, ru, ix1, ix2, hd⟩ := bank_rule t h a b ha hb
  have HD := Lib.hid hd
  obtain ⟨TT, hT⟩ : ∃ TT, (.agg bankCells : Value) = TT := ⟨_, rfl⟩
  rw [hT] at ix1
  have HT : Hid (∀ w, Calls Try.prog 135 #[] w (Gives TT w)) := fun w => by rw [← hT]; exact implBankT_is w
  clear hv h ha hb hd hT
  go_enter Try.func122, Try.ntmps122
  go_wp2_with (first | ((with_reducible refine ld_tm ?_ ?_ p1 ?_); kernel_rfl; kernel_rfl; go_simp))
  refine (implTimOk_is t _ K.out _).mono ?_
  rintro e w2 ⟨rfl, hb2⟩
  have p2 := keep_block hb2 p1 (lt_of_block p1)
  have HB2 : Hid (Below w.heap.size w w2) := HB1.out.trans (hb2.mono HB1.out.size)
  clear hb2 p1 HB1
  go_wp2_with fail
  refine (implKindOk_is _ _ KA.out _).mono ?_
  rintro e w' ⟨rfl, rfl⟩
  go_wp2_with fail
  refine (implKindOk_is _ _ KB.out _).mono ?_
  rintro e w' ⟨rfl, rfl⟩
  clear hw1 K KA KB
  go_wp2_with fail
  refine wp_region_later (by kernel_rfl) (by kernel_rfl) ?_
  repeat (first | ((with_reducible refine ld_later ?_ ?_ p2 ?_); kernel_rfl; kernel_rfl; go_simp) | go_big_quiet_step (first | (go_at_call 135; exact Gives.later _ (HT.out _)) | (go_at_call 132; exact Gives.later _ (HD.out _))))
  refine wpQuiet_nil ?_
  intro zz
  go_wp2
  go_ret
  exact ⟨ret_i HE.out.symm, HB2.out.trans (zz.ok.mono HB2.out.size)⟩

set_option maxHeartbeats 8000000 in
theorem implRankGap_is (t : Tm) (a b : Int) (n : Bool) (v : Int) (hv : rankG t a b n = v) (w : World) :
    Calls Try.prog 119 #[.agg #[.int .i64 t.rcd, .int .i64 t.rp, .int .i64 t.ras, .int .i64 t.rrds, .int .i64 t.rrdl, .int .i64 t.faw, .int .i64 t.ccds, .int .i64 t.ccdl, .int .i64 t.rtp, .int .i64 t.wr, .int .i64 t.wtrs, .int .i64 t.wtrl, .int .i64 t.rtw, .int .i64 t.rfc, .int .i64 t.cke, .int .i64 t.xp, .int .i64 t.xs], .int .i64 a, .int .i64 b, .bool n] w (Gives (.int .i64 v) w) := by
  obtain ⟨w1, hw1⟩ : ∃ u, w.alloc (.cells #[.int .i64 t.rcd, .int .i64 t.rp, .int .i64 t.ras, .int .i64 t.rrds, .int .i64 t.rrdl, .int .i64 t.faw, .int .i64 t.ccds, .int .i64 t.ccdl, .int .i64 t.rtp, .int .i64 t.wr, .int .i64 t.wtrs, .int .i64 t.wtrl, .int .i64 t.rtw, .int .i64 t.rfc, .int .i64 t.cke, .int .i64 t.xp, .int .i64 t.xs] 27) = u := ⟨_, rfl⟩
  have HB1 : Hid (Below w.heap.size w w1) := by subst hw1; exact (Below.refl _ _).alloc (Nat.le_refl _) _
  have p1 : w1.heap[w.heap.size]? = some (.cells #[.int .i64 t.rcd, .int .i64 t.rp, .int .i64 t.ras, .int .i64 t.rrds, .int .i64 t.rrdl, .int .i64 t.faw, .int .i64 t.ccds, .int .i64 t.ccdl, .int .i64 t.rtp, .int .i64 t.wr, .int .i64 t.wtrs, .int .i64 t.wtrl, .int .i64 t.rtw, .int .i64 t.rfc, .int .i64 t.cke, .int .i64 t.xp, .int .i64 t.xs] 27) := by subst hw1; exact heap_alloc_new _ _
  by_cases h : TimOk t
  case neg =>
    have K := Lib.hid (decide_eq_false h)
    have HE : Hid (v = 0) := by show _ = _; rw [← hv]; exact if_neg (fun hh => h hh.1)
    clear hv h
    go_enter Try.func119, Try.ntmps119
    go_wp2_with (first | ((with_reducible refine ld_tm ?_ ?_ p1 ?_); kernel_rfl; kernel_rfl; go_simp))
    refine (implTimOk_is t _ K.out _).mono ?_
    rintro e w2 ⟨rfl, hb2⟩
    have p2 := keep_block hb2 p1 (lt_of_block p1)
    have HB2 : Hid (Below w.heap.size w w2) := HB1.out.trans (hb2.mono HB1.out.size)
    clear hb2 p1 HB1
    go_wp2
    go_ret
    exact ⟨ret_i HE.out.symm, HB2.out⟩
  have K := Lib.hid (decide_eq_true h)
  by_cases ha : 1 ≤ a ∧ a ≤ 9
  case neg =>
    have KA := Lib.hid (decide_eq_false ha)
    have HE : Hid (v = 0) := by show _ = _; rw [← hv]; exact if_neg (fun hh => ha hh.2.1)
    clear hv h ha
    go_enter Try.func119, Try.ntmps119
    go_wp2_with (first | ((with_reducible refine ld_tm ?_ ?_ p1 ?_); kernel_rfl; kernel_rfl; go_simp))
    refine (implTimOk_is t _ K.out _).mono ?_
    rintro e w2 ⟨rfl, hb2⟩
    have p2 := keep_block hb2 p1 (lt_of_block p1)
    have HB2 : Hid (Below w.heap.size w w2) := HB1.out.trans (hb2.mono HB1.out.size)
    clear hb2 p1 HB1
    go_wp2_with fail
    refine (implKindOk_is _ _ KA.out _).mono ?_
    rintro e w' ⟨rfl, rfl⟩
    go_wp2
    go_ret
    exact ⟨ret_i HE.out.symm, HB2.out⟩
  have KA := Lib.hid (decide_eq_true ha)
  by_cases hb : 1 ≤ b ∧ b ≤ 9
  case neg =>
    have KB := Lib.hid (decide_eq_false hb)
    have HE : Hid (v = 0) := by show _ = _; rw [← hv]; exact if_neg (fun hh => hb hh.2.2)
    clear hv h ha hb
    go_enter Try.func119, Try.ntmps119
    go_wp2_with (first | ((with_reducible refine ld_tm ?_ ?_ p1 ?_); kernel_rfl; kernel_rfl; go_simp))
    refine (implTimOk_is t _ K.out _).mono ?_
    rintro e w2 ⟨rfl, hb2⟩
    have p2 := keep_block hb2 p1 (lt_of_block p1)
    have HB2 : Hid (Below w.heap.size w w2) := HB1.out.trans (hb2.mono HB1.out.size)
    clear hb2 p1 HB1
    go_wp2_with fail
    refine (implKindOk_is _ _ KA.out _).mono ?_
    rintro e w' ⟨rfl, rfl⟩
    go_wp2_with fail
    refine (implKindOk_is _ _ KB.out _).mono ?_
    rintro e w' ⟨rfl, rfl⟩
    go_wp2
    go_ret
    exact ⟨ret_i HE.out.symm, HB2.out⟩
  have KB := Lib.hid (decide_eq_true hb)
  have HE : Hid (v = rankR t a b n) := by show _ = _; rw [← hv]; exact if_pos ⟨h, ha, hb⟩
  cases n
  · obtain ⟨rv, ru, ix1, ix2, hd⟩ := rankF_rule t h a b ha hb
    have HD := Lib.hid hd
    obtain ⟨TT, hT⟩ : ∃ TT, (.agg rankFCells : Value) = TT := ⟨_, rfl⟩
    rw [hT] at ix1
    have HT : Hid (∀ w, Calls Try.prog 133 #[.bool false] w (Gives TT w)) := fun w => by rw [← hT]; exact implRankF_is w
    clear hv h ha hb hd hT
    go_enter Try.func119, Try.ntmps119
    go_wp2_with (first | ((with_reducible refine ld_tm ?_ ?_ p1 ?_); kernel_rfl; kernel_rfl; go_simp))
    refine (implTimOk_is t _ K.out _).mono ?_
    rintro e w2 ⟨rfl, hb2⟩
    have p2 := keep_block hb2 p1 (lt_of_block p1)
    have HB2 : Hid (Below w.heap.size w w2) := HB1.out.trans (hb2.mono HB1.out.size)
    clear hb2 p1 HB1
    go_wp2_with fail
    refine (implKindOk_is _ _ KA.out _).mono ?_
    rintro e w' ⟨rfl, rfl⟩
    go_wp2_with fail
    refine (implKindOk_is _ _ KB.out _).mono ?_
    rintro e w' ⟨rfl, rfl⟩
    clear hw1 K KA KB
    go_wp2_with fail
    refine wp_region_later (by kernel_rfl) (by kernel_rfl) ?_
    repeat (first | ((with_reducible refine ld_later ?_ ?_ p2 ?_); kernel_rfl; kernel_rfl; go_simp) | go_big_quiet_step (first | (go_at_call 133; exact Gives.later _ (HT.out _)) | (go_at_call 132; exact Gives.later _ (HD.out _))))
    refine wpQuiet_nil ?_
    intro zz
    go_wp2
    go_ret
    exact ⟨ret_i HE.out.symm, HB2.out.trans (zz.ok.mono HB2.out.size)⟩
  · obtain ⟨rv, ru, ix1, ix2, hd⟩ := rankT_rule t h a b ha hb
    have HD := Lib.hid hd
    obtain ⟨TT, hT⟩ : ∃ TT, (.agg rankTCells : Value) = TT := ⟨_, rfl⟩
    rw [hT] at ix1
    have HT : Hid (∀ w, Calls Try.prog 133 #[.bool true] w (Gives TT w)) := fun w => by rw [← hT]; exact implRankT_is w
    clear hv h ha hb hd hT
    go_enter Try.func119, Try.ntmps119
    go_wp2_with (first | ((with_reducible refine ld_tm ?_ ?_ p1 ?_); kernel_rfl; kernel_rfl; go_simp))
    refine (implTimOk_is t _ K.out _).mono ?_
    rintro e w2 ⟨rfl, hb2⟩
    have p2 := keep_block hb2 p1 (lt_of_block p1)
    have HB2 : Hid (Below w.heap.size w w2) := HB1.out.trans (hb2.mono HB1.out.size)
    clear hb2 p1 HB1
    go_wp2_with fail
    refine (implKindOk_is _ _ KA.out _).mono ?_
    rintro e w' ⟨rfl, rfl⟩
    go_wp2_with fail
    refine (implKindOk_is _ _ KB.out _).mono ?_
    rintro e w' ⟨rfl, rfl⟩
    clear hw1 K KA KB
    go_wp2_with fail
    refine wp_region_later (by kernel_rfl) (by kernel_rfl) ?_
    repeat (first | ((with_reducible refine ld_later ?_ ?_ p2 ?_); kernel_rfl; kernel_rfl; go_simp) | go_big_quiet_step (first | (go_at_call 133; exact Gives.later _ (HT.out _)) | (go_at_call 132; exact Gives.later _ (HD.out _))))
    refine wpQuiet_nil ?_
    intro zz
    go_wp2
    go_ret
    exact ⟨ret_i HE.out.symm, HB2.out.trans (zz.ok.mono HB2.out.size)⟩

end Go.Proofs.Ythplhjdfajhmpaa

namespace Go.Proofs.Ythplhjdfajhmpaa
open Go.RowKit

set_option linter.unusedVariables false

set_option maxHeartbeats 4000000 in
theorem implNearB_is (g0 B g2 g3 ka xa ya za kb xb yb zb : Int) (hB : 1 ≤ B) (hxa : 0 ≤ xa ∧ xa ≤ bankN g0 B g2 g3 - 1) (hxb : 0 ≤ xb ∧ xb ≤ bankN g0 B g2 g3 - 1) (v : Bool) (hv : nearP B ka xa kb xb = v) (w : World) :
    Calls Try.prog 120 #[.agg #[.int .i64 g0, .int .i64 B, .int .i64 g2, .int .i64 g3], .agg #[.int .i64 ka, .int .i64 xa, .int .i64 ya, .int .i64 za], .agg #[.int .i64 kb, .int .i64 xb, .int .i64 yb, .int .i64 zb]] w (Gives (.bool v) w) := by
  obtain ⟨w1, hw1⟩ : ∃ u, ((w.alloc (.cells #[.int .i64 g0, .int .i64 B, .int .i64 g2, .int .i64 g3] 25)).alloc (.cells #[.int .i64 ka, .int .i64 xa, .int .i64 ya, .int .i64 za] 39)).alloc (.cells #[.int .i64 kb, .int .i64 xb, .int .i64 yb, .int .i64 zb] 39) = u := ⟨_, rfl⟩
  have HB1 : Hid (Below w.heap.size w w1) := by subst hw1; exact (((Below.refl _ _).alloc (by simp) _).alloc (by simp) _).alloc (by simp; omega) _
  have g1 : w1.heap[w.heap.size]? = some (.cells #[.int .i64 g0, .int .i64 B, .int .i64 g2, .int .i64 g3] 25) := by subst hw1; exact box3_0 _ _ _ _
  have a1 : w1.heap[w.heap.size + 1]? = some (.cells #[.int .i64 ka, .int .i64 xa, .int .i64 ya, .int .i64 za] 39) := by subst hw1; exact box3_1 _ _ _ _
  have b1 : w1.heap[w.heap.size + 1 + 1]? = some (.cells #[.int .i64 kb, .int .i64 xb, .int .i64 yb, .int .i64 zb] 39) := by subst hw1; exact box3_2 _ _ _ _
  obtain ⟨x0, x1, x2, x3⟩ := cells4 g1
  obtain ⟨y0, y1, y2, y3⟩ := cells4 a1
  obtain ⟨z0, z1, z2, z3⟩ := cells4 b1
  have zzx0 := fun q : Later w1 => q.cell x0
  have zzx1 := fun q : Later w1 => q.cell x1
  have zzx2 := fun q : Later w1 => q.cell x2
  have zzx3 := fun q : Later w1 => q.cell x3
  have zzy0 := fun q : Later w1 => q.cell y0
  have zzy1 := fun q : Later w1 => q.cell y1
  have zzz0 := fun q : Later w1 => q.cell z0
  have zzz1 := fun q : Later w1 => q.cell z1
  clear x0 x1 x2 x3 y0 y1 y2 y3 z0 z1 z2 z3
  obtain ⟨u, hu⟩ : ∃ u, decide (ka < 6) = u := ⟨_, rfl⟩
  have U := Lib.hid hu
  obtain ⟨u', hu'⟩ : ∃ u, decide (kb < 6) = u := ⟨_, rfl⟩
  have U' := Lib.hid hu'
  have HA : Hid (groupF g0 B g2 g3 xa = xa / B) := if_pos hxa
  have HB : Hid (groupF g0 B g2 g3 xb = xb / B) := if_pos hxb
  have HV : Hid (v = (u && (u' && (xa / B == xb / B)))) := by
    show _ = _
    rw [← hv, ← hu, ← hu']
    unfold nearP
    rw [Bool.eq_iff_iff]
    simp only [decide_eq_true_eq, Bool.and_eq_true, beq_iff_eq]
    exact ⟨fun h => ⟨by omega, by omega, h.2⟩, fun h => ⟨⟨by omega, by omega⟩, h.2.2⟩⟩
  clear hv hu hu' hxa hxb hB
  cases u
  · go_enter Try.func120, Try.ntmps120
    go_wp2_with fail
    refine wp_region_later (by kernel_rfl) (by kernel_rfl) ?_
    repeat (go_big_quiet_step (first | (go_at_call_of 84 ka; exact Gives.later_same _ (implUses_is ka _ U.out _)) | (go_at_call_of 84 kb; exact Gives.later_same _ (implUses_is kb _ U'.out _)) | (go_at_call_of 134 xa; exact Gives.later _ (implGroup_is _ _ _ _ xa _ HA.out _)) | (go_at_call_of 134 xb; exact Gives.later _ (implGroup_is _ _ _ _ xb _ HB.out _))))
    refine wpQuiet_nil ?_
    rintro w3 ⟨zz, rfl⟩
    go_wp2
    go_ret
    exact ⟨ret_b HV.out.symm, HB1.out.trans (zz.ok.mono HB1.out.size)⟩
  cases u'
  · go_enter Try.func120, Try.ntmps120
    go_wp2_with fail
    refine wp_region_later (by kernel_rfl) (by kernel_rfl) ?_
    repeat (go_big_quiet_step (first | (go_at_call_of 84 ka; exact Gives.later_same _ (implUses_is ka _ U.out _)) | (go_at_call_of 84 kb; exact Gives.later_same _ (implUses_is kb _ U'.out _)) | (go_at_call_of 134 xa; exact Gives.later _ (implGroup_is _ _ _ _ xa _ HA.out _)) | (go_at_call_of 134 xb; exact Gives.later _ (implGroup_is _ _ _ _ xb _ HB.out _))))
    refine wpQuiet_nil ?_
    rintro w3 ⟨zz, rfl⟩
    go_wp2
    go_ret
    exact ⟨ret_b HV.out.symm, HB1.out.trans (zz.ok.mono HB1.out.size)⟩
  go_enter Try.func120, Try.ntmps120
  go_wp2_with fail
  refine wp_region_later (by kernel_rfl) (by kernel_rfl) ?_
  repeat (go_big_quiet_step (first | (go_at_call_of 84 ka; exact Gives.later_same _ (implUses_is ka _ U.out _)) | (go_at_call_of 84 kb; exact Gives.later_same _ (implUses_is kb _ U'.out _)) | (go_at_call_of 134 xa; exact Gives.later _ (implGroup_is _ _ _ _ xa _ HA.out _)) | (go_at_call_of 134 xb; exact Gives.later _ (implGroup_is _ _ _ _ xb _ HB.out _))))
  refine wpQuiet_nil ?_
  rintro w3 ⟨zz, rfl⟩
  go_wp2
  go_ret
  exact ⟨ret_b HV.out.symm, HB1.out.trans (zz.ok.mono HB1.out.size)⟩

set_option maxHeartbeats 4000000 in
theorem implSame_is (ka xa ya za kb xb yb zb : Int) (v : Bool) (hv : sameP ka xa kb xb = v) (w : World) :
    Calls Try.prog 121 #[.agg #[.int .i64 ka, .int .i64 xa, .int .i64 ya, .int .i64 za], .agg #[.int .i64 kb, .int .i64 xb, .int .i64 yb, .int .i64 zb]] w (Gives (.bool v) w) := by
  obtain ⟨w1, hw1⟩ : ∃ u, (w.alloc (.cells #[.int .i64 ka, .int .i64 xa, .int .i64 ya, .int .i64 za] 39)).alloc (.cells #[.int .i64 kb, .int .i64 xb, .int .i64 yb, .int .i64 zb] 39) = u := ⟨_, rfl⟩
  have HB1 : Hid (Below w.heap.size w w1) := by subst hw1; exact ((Below.refl _ _).alloc (by simp) _).alloc (by simp) _
  have a1 : w1.heap[w.heap.size]? = some (.cells #[.int .i64 ka, .int .i64 xa, .int .i64 ya, .int .i64 za] 39) := by subst hw1; exact heap_alloc2_old _ _ _
  have b1 : w1.heap[w.heap.size + 1]? = some (.cells #[.int .i64 kb, .int .i64 xb, .int .i64 yb, .int .i64 zb] 39) := by subst hw1; exact heap_alloc2_new _ _ _
  obtain ⟨y0, y1, y2, y3⟩ := cells4 a1
  obtain ⟨z0, z1, z2, z3⟩ := cells4 b1
  clear a1 b1
  obtain ⟨u, hu⟩ : ∃ u, decide (ka < 6) = u := ⟨_, rfl⟩
  have U := Lib.hid hu
  obtain ⟨u', hu'⟩ : ∃ u, decide (kb < 6) = u := ⟨_, rfl⟩
  have U' := Lib.hid hu'
  have HV : Hid (v = (u && (u' && (xa == xb)))) := by
    show _ = _
    rw [← hv, ← hu, ← hu']
    unfold sameP
    rw [Bool.eq_iff_iff]
    simp only [decide_eq_true_eq, Bool.and_eq_true, beq_iff_eq]
    exact ⟨fun h => ⟨by omega, by omega, h.2⟩, fun h => ⟨⟨by omega, by omega⟩, h.2.2⟩⟩
  clear hv hu hu'
  cases u
  · go_enter Try.func121, Try.ntmps121
    go_wp2_with fail
    refine (implUses_is _ _ U.out _).mono ?_
    rintro e w' ⟨rfl, rfl⟩
    go_wp2
    go_ret
    exact ⟨ret_b HV.out.symm, HB1.out⟩
  cases u'
  · go_enter Try.func121, Try.ntmps121
    go_wp2_with fail
    refine (implUses_is _ _ U.out _).mono ?_
    rintro e w' ⟨rfl, rfl⟩
    go_wp2_with fail
    refine (implUses_is _ _ U'.out _).mono ?_
    rintro e w' ⟨rfl, rfl⟩
    go_wp2
    go_ret
    exact ⟨ret_b HV.out.symm, HB1.out⟩
  go_enter Try.func121, Try.ntmps121
  go_wp2_with fail
  refine (implUses_is _ _ U.out _).mono ?_
  rintro e w' ⟨rfl, rfl⟩
  go_wp2_with fail
  refine (implUses_is _ _ U'.out _).mono ?_
  rintro e w' ⟨rfl, rfl⟩
  go_wp2
  go_ret
  exact ⟨ret_b HV.out.symm, HB1.out⟩

set_option maxHeartbeats 8000000 in
theorem implGap_is (t : Tm) (g0 B g2 g3 ka xa ya za kb xb yb zb : Int) (v : Int) (hv : gapG t g0 B g2 g3 ka xa ya za kb xb yb zb = v) (w : World) :
    Calls Try.prog 102 #[.agg #[.int .i64 g0, .int .i64 B, .int .i64 g2, .int .i64 g3], .agg #[.int .i64 t.rcd, .int .i64 t.rp, .int .i64 t.ras, .int .i64 t.rrds, .int .i64 t.rrdl, .int .i64 t.faw, .int .i64 t.ccds, .int .i64 t.ccdl, .int .i64 t.rtp, .int .i64 t.wr, .int .i64 t.wtrs, .int .i64 t.wtrl, .int .i64 t.rtw, .int .i64 t.rfc, .int .i64 t.cke, .int .i64 t.xp, .int .i64 t.xs], .agg #[.int .i64 ka, .int .i64 xa, .int .i64 ya, .int .i64 za], .agg #[.int .i64 kb, .int .i64 xb, .int .i64 yb, .int .i64 zb]] w (Gives (.int .i64 v) w) := by
  obtain ⟨w1, hw1⟩ : ∃ u, (((w.alloc (.cells #[.int .i64 g0, .int .i64 B, .int .i64 g2, .int .i64 g3] 25)).alloc (.cells #[.int .i64 t.rcd, .int .i64 t.rp, .int .i64 t.ras, .int .i64 t.rrds, .int .i64 t.rrdl, .int .i64 t.faw, .int .i64 t.ccds, .int .i64 t.ccdl, .int .i64 t.rtp, .int .i64 t.wr, .int .i64 t.wtrs, .int .i64 t.wtrl, .int .i64 t.rtw, .int .i64 t.rfc, .int .i64 t.cke, .int .i64 t.xp, .int .i64 t.xs] 27)).alloc (.cells #[.int .i64 ka, .int .i64 xa, .int .i64 ya, .int .i64 za] 39)).alloc (.cells #[.int .i64 kb, .int .i64 xb, .int .i64 yb, .int .i64 zb] 39) = u := ⟨_, rfl⟩
  have HB1 : Hid (Below w.heap.size w w1) := by subst hw1; exact ((((Below.refl _ _).alloc (by simp) _).alloc (by simp) _).alloc (by simp; omega) _).alloc (by simp; omega) _
  have g1 : w1.heap[w.heap.size]? = some (.cells #[.int .i64 g0, .int .i64 B, .int .i64 g2, .int .i64 g3] 25) := by subst hw1; exact box4_0 _ _ _ _ _
  have p1 : w1.heap[w.heap.size + 1]? = some (.cells #[.int .i64 t.rcd, .int .i64 t.rp, .int .i64 t.ras, .int .i64 t.rrds, .int .i64 t.rrdl, .int .i64 t.faw, .int .i64 t.ccds, .int .i64 t.ccdl, .int .i64 t.rtp, .int .i64 t.wr, .int .i64 t.wtrs, .int .i64 t.wtrl, .int .i64 t.rtw, .int .i64 t.rfc, .int .i64 t.cke, .int .i64 t.xp, .int .i64 t.xs] 27) := by subst hw1; exact box4_1 _ _ _ _ _
  have a1 : w1.heap[w.heap.size + 1 + 1]? = some (.cells #[.int .i64 ka, .int .i64 xa, .int .i64 ya, .int .i64 za] 39) := by subst hw1; exact box4_2 _ _ _ _ _
  have b1 : w1.heap[w.heap.size + 1 + 1 + 1]? = some (.cells #[.int .i64 kb, .int .i64 xb, .int .i64 yb, .int .i64 zb] 39) := by subst hw1; exact box4_3 _ _ _ _ _
  by_cases h : TimOk t
  case neg =>
    have K := Lib.hid (decide_eq_false h)
    have HE : Hid (v = 0) := by show _ = _; rw [← hv]; exact if_neg (fun hh => h hh.1)
    clear hv h
    go_enter Try.func102, Try.ntmps102
    obtain ⟨x0, x1, x2, x3⟩ := cells4 g1
    obtain ⟨y0, y1, y2, y3⟩ := cells4 a1
    obtain ⟨z0, z1, z2, z3⟩ := cells4 b1
    go_wp2_with (first | ((with_reducible refine ld_tm ?_ ?_ p1 ?_); kernel_rfl; kernel_rfl; go_simp))
    refine (implTimOk_is t _ K.out _).mono ?_
    rintro e w2 ⟨rfl, hb2⟩
    have g2 := keep_block hb2 g1 (lt_of_block g1)
    have p2 := keep_block hb2 p1 (lt_of_block p1)
    have a2 := keep_block hb2 a1 (lt_of_block a1)
    have b2 := keep_block hb2 b1 (lt_of_block b1)
    have HB2 : Hid (Below w.heap.size w w2) := HB1.out.trans (hb2.mono HB1.out.size)
    clear hb2 g1 p1 a1 b1 HB1
    clear x0 x1 x2 x3 y0 y1 y2 y3 z0 z1 z2 z3
    go_wp2
    go_ret
    exact ⟨ret_i HE.out.symm, HB2.out⟩
  have K := Lib.hid (decide_eq_true h)
  by_cases ha : CmOk ka xa ya za ∧ AdOk g0 B g2 g3 xa ya za
  case neg =>
    have KA := Lib.hid (decide_eq_false ha)
    have HE : Hid (v = 0) := by show _ = _; rw [← hv]; exact if_neg (fun hh => ha hh.2.1)
    clear hv h ha
    go_enter Try.func102, Try.ntmps102
    obtain ⟨x0, x1, x2, x3⟩ := cells4 g1
    obtain ⟨y0, y1, y2, y3⟩ := cells4 a1
    obtain ⟨z0, z1, z2, z3⟩ := cells4 b1
    go_wp2_with (first | ((with_reducible refine ld_tm ?_ ?_ p1 ?_); kernel_rfl; kernel_rfl; go_simp))
    refine (implTimOk_is t _ K.out _).mono ?_
    rintro e w2 ⟨rfl, hb2⟩
    have g2 := keep_block hb2 g1 (lt_of_block g1)
    have p2 := keep_block hb2 p1 (lt_of_block p1)
    have a2 := keep_block hb2 a1 (lt_of_block a1)
    have b2 := keep_block hb2 b1 (lt_of_block b1)
    have HB2 : Hid (Below w.heap.size w w2) := HB1.out.trans (hb2.mono HB1.out.size)
    clear hb2 g1 p1 a1 b1 HB1
    clear x0 x1 x2 x3 y0 y1 y2 y3 z0 z1 z2 z3
    obtain ⟨x0, x1, x2, x3⟩ := cells4 g2
    obtain ⟨y0, y1, y2, y3⟩ := cells4 a2
    obtain ⟨z0, z1, z2, z3⟩ := cells4 b2
    go_wp2_with fail
    refine (implCommandOk_is _ _ _ _ _ _ _ _ _ KA.out _).mono ?_
    rintro e w3 ⟨rfl, hb3⟩
    have g3 := keep_block hb3 g2 (lt_of_block g2)
    have p3 := keep_block hb3 p2 (lt_of_block p2)
    have a3 := keep_block hb3 a2 (lt_of_block a2)
    have b3 := keep_block hb3 b2 (lt_of_block b2)
    have HB3 : Hid (Below w.heap.size w w3) := HB2.out.trans (hb3.mono HB2.out.size)
    clear hb3 g2 p2 a2 b2 HB2
    clear x0 x1 x2 x3 y0 y1 y2 y3 z0 z1 z2 z3
    go_wp2
    go_ret
    exact ⟨ret_i HE.out.symm, HB3.out⟩
  have KA := Lib.hid (decide_eq_true ha)
  by_cases hb : CmOk kb xb yb zb ∧ AdOk g0 B g2 g3 xb yb zb
  case neg =>
    have KB := Lib.hid (decide_eq_false hb)
    have HE : Hid (v = 0) := by show _ = _; rw [← hv]; exact if_neg (fun hh => hb hh.2.2)
    clear hv h ha hb
    go_enter Try.func102, Try.ntmps102
    obtain ⟨x0, x1, x2, x3⟩ := cells4 g1
    obtain ⟨y0, y1, y2, y3⟩ := cells4 a1
    obtain ⟨z0, z1, z2, z3⟩ := cells4 b1
    go_wp2_with (first | ((with_reducible refine ld_tm ?_ ?_ p1 ?_); kernel_rfl; kernel_rfl; go_simp))
    refine (implTimOk_is t _ K.out _).mono ?_
    rintro e w2 ⟨rfl, hb2⟩
    have g2 := keep_block hb2 g1 (lt_of_block g1)
    have p2 := keep_block hb2 p1 (lt_of_block p1)
    have a2 := keep_block hb2 a1 (lt_of_block a1)
    have b2 := keep_block hb2 b1 (lt_of_block b1)
    have HB2 : Hid (Below w.heap.size w w2) := HB1.out.trans (hb2.mono HB1.out.size)
    clear hb2 g1 p1 a1 b1 HB1
    clear x0 x1 x2 x3 y0 y1 y2 y3 z0 z1 z2 z3
    obtain ⟨x0, x1, x2, x3⟩ := cells4 g2
    obtain ⟨y0, y1, y2, y3⟩ := cells4 a2
    obtain ⟨z0, z1, z2, z3⟩ := cells4 b2
    go_wp2_with fail
    refine (implCommandOk_is _ _ _ _ _ _ _ _ _ KA.out _).mono ?_
    rintro e w3 ⟨rfl, hb3⟩
    have g3 := keep_block hb3 g2 (lt_of_block g2)
    have p3 := keep_block hb3 p2 (lt_of_block p2)
    have a3 := keep_block hb3 a2 (lt_of_block a2)
    have b3 := keep_block hb3 b2 (lt_of_block b2)
    have HB3 : Hid (Below w.heap.size w w3) := HB2.out.trans (hb3.mono HB2.out.size)
    clear hb3 g2 p2 a2 b2 HB2
    clear x0 x1 x2 x3 y0 y1 y2 y3 z0 z1 z2 z3
    obtain ⟨x0, x1, x2, x3⟩ := cells4 g3
    obtain ⟨y0, y1, y2, y3⟩ := cells4 a3
    obtain ⟨z0, z1, z2, z3⟩ := cells4 b3
    go_wp2_with fail
    refine (implCommandOk_is _ _ _ _ _ _ _ _ _ KB.out _).mono ?_
    rintro e w4 ⟨rfl, hb4⟩
    have g4 := keep_block hb4 g3 (lt_of_block g3)
    have p4 := keep_block hb4 p3 (lt_of_block p3)
    have a4 := keep_block hb4 a3 (lt_of_block a3)
    have b4 := keep_block hb4 b3 (lt_of_block b3)
    have HB4 : Hid (Below w.heap.size w w4) := HB3.out.trans (hb4.mono HB3.out.size)
    clear hb4 g3 p3 a3 b3 HB3
    clear x0 x1 x2 x3 y0 y1 y2 y3 z0 z1 z2 z3
    go_wp2
    go_ret
    exact ⟨ret_i HE.out.symm, HB4.out⟩
  have KB := Lib.hid (decide_eq_true hb)
  have HE : Hid (gapR B t ka xa kb xb = v) := by show _ = _; rw [← hv]; exact (if_pos ⟨h, ha, hb⟩).symm
  have HB0 : Hid (1 ≤ B) := (geo_of_bank ha.2.1).2.1.1
  have HXA := Lib.hid ha.2.1
  have HXB := Lib.hid hb.2.1
  obtain ⟨q, hq⟩ : ∃ q, nearP B ka xa kb xb = q := ⟨_, rfl⟩
  have HNQ := Lib.hid hq
  obtain ⟨N, hN⟩ : ∃ N, rankG t ka kb q = N := ⟨_, rfl⟩
  have HRN := Lib.hid hN
  have rN := rankG_range t ka kb q
  rw [hN] at rN
  clear hv h ha hb hq hN
  go_enter Try.func102, Try.ntmps102
  obtain ⟨x0, x1, x2, x3⟩ := cells4 g1
  obtain ⟨y0, y1, y2, y3⟩ := cells4 a1
  obtain ⟨z0, z1, z2, z3⟩ := cells4 b1
  go_wp2_with (first | ((with_reducible refine ld_tm ?_ ?_ p1 ?_); kernel_rfl; kernel_rfl; go_simp))
  refine (implTimOk_is t _ K.out _).mono ?_
  rintro e w2 ⟨rfl, hb2⟩
  have g2 := keep_block hb2 g1 (lt_of_block g1)
  have p2 := keep_block hb2 p1 (lt_of_block p1)
  have a2 := keep_block hb2 a1 (lt_of_block a1)
  have b2 := keep_block hb2 b1 (lt_of_block b1)
  have HB2 : Hid (Below w.heap.size w w2) := HB1.out.trans (hb2.mono HB1.out.size)
  clear hb2 g1 p1 a1 b1 HB1
  clear x0 x1 x2 x3 y0 y1 y2 y3 z0 z1 z2 z3
  obtain ⟨x0, x1, x2, x3⟩ := cells4 g2
  obtain ⟨y0, y1, y2, y3⟩ := cells4 a2
  obtain ⟨z0, z1, z2, z3⟩ := cells4 b2
  go_wp2_with fail
  refine (implCommandOk_is _ _ _ _ _ _ _ _ _ KA.out _).mono ?_
  rintro e w3 ⟨rfl, hb3⟩
  have g3 := keep_block hb3 g2 (lt_of_block g2)
  have p3 := keep_block hb3 p2 (lt_of_block p2)
  have a3 := keep_block hb3 a2 (lt_of_block a2)
  have b3 := keep_block hb3 b2 (lt_of_block b2)
  have HB3 : Hid (Below w.heap.size w w3) := HB2.out.trans (hb3.mono HB2.out.size)
  clear hb3 g2 p2 a2 b2 HB2
  clear x0 x1 x2 x3 y0 y1 y2 y3 z0 z1 z2 z3
  obtain ⟨x0, x1, x2, x3⟩ := cells4 g3
  obtain ⟨y0, y1, y2, y3⟩ := cells4 a3
  obtain ⟨z0, z1, z2, z3⟩ := cells4 b3
  go_wp2_with fail
  refine (implCommandOk_is _ _ _ _ _ _ _ _ _ KB.out _).mono ?_
  rintro e w4 ⟨rfl, hb4⟩
  have g4 := keep_block hb4 g3 (lt_of_block g3)
  have p4 := keep_block hb4 p3 (lt_of_block p3)
  have a4 := keep_block hb4 a3 (lt_of_block a3)
  have b4 := keep_block hb4 b3 (lt_of_block b3)
  have HB4 : Hid (Below w.heap.size w w4) := HB3.out.trans (hb4.mono HB3.out.size)
  clear hb4 g3 p3 a3 b3 HB3
  clear x0 x1 x2 x3 y0 y1 y2 y3 z0 z1 z2 z3
  clear hw1 K KA KB
  obtain ⟨x0, x1, x2, x3⟩ := cells4 g4
  obtain ⟨y0, y1, y2, y3⟩ := cells4 a4
  obtain ⟨z0, z1, z2, z3⟩ := cells4 b4
  have zzx0 := fun q : Later w4 => q.cell x0
  have zzx1 := fun q : Later w4 => q.cell x1
  have zzx2 := fun q : Later w4 => q.cell x2
  have zzx3 := fun q : Later w4 => q.cell x3
  have zzy0 := fun q : Later w4 => q.cell y0
  have zzy1 := fun q : Later w4 => q.cell y1
  have zzy2 := fun q : Later w4 => q.cell y2
  have zzy3 := fun q : Later w4 => q.cell y3
  have zzz0 := fun q : Later w4 => q.cell z0
  have zzz1 := fun q : Later w4 => q.cell z1
  have zzz2 := fun q : Later w4 => q.cell z2
  have zzz3 := fun q : Later w4 => q.cell z3
  clear x0 x1 x2 x3 y0 y1 y2 y3 z0 z1 z2 z3
  cases hs : sameP ka xa kb xb
  · have HS : sameP ka xa kb xb = false := hs
    have HHS := Lib.hid HS
    have HE2 : Hid (v = max (max N 0) 1) := by show _ = _; rw [← HE.out]; unfold gapR; rw [HNQ.out, HS, HRN.out]; rfl
    clear HS hs
    by_cases hn : 1 < N
    · go_wp2_with fail
      refine wp_region_later (by kernel_rfl) (by kernel_rfl) ?_
      repeat (first | ((with_reducible refine ld_later ?_ ?_ p4 ?_); kernel_rfl; kernel_rfl; go_simp) | go_big_quiet_step (first | (go_at_call 120; exact Gives.later _ (implNearB_is _ _ _ _ _ _ _ _ _ _ _ _ HB0.out HXA.out HXB.out _ HNQ.out _)) | (go_at_call 119; exact Gives.later _ (implRankGap_is _ _ _ _ _ HRN.out _))))
      refine wpQuiet_nil ?_
      intro zz
      have HB5 : Hid (Below w.heap.size w zz.to) := HB4.out.trans (zz.ok.mono HB4.out.size)
      have p5 := zz.block p4
      have a5 := zz.block a4
      have b5 := zz.block b4
      obtain ⟨y0, y1, y2, y3⟩ := cells4 a5
      obtain ⟨z0, z1, z2, z3⟩ := cells4 b5
      go_wp2_with fail
      refine (implSame_is _ _ _ _ _ _ _ _ _ HHS.out _).mono ?_
      rintro e w6 ⟨rfl, hb6⟩
      have HB6 : Hid (Below w.heap.size w w6) := HB5.out.trans (hb6.mono HB5.out.size)
      clear hb6
      go_wp2
      go_ret
      exact ⟨ret_i (by rw [HE2.out]; omega), HB6.out⟩
    · go_wp2_with fail
      refine wp_region_later (by kernel_rfl) (by kernel_rfl) ?_
      repeat (first | ((with_reducible refine ld_later ?_ ?_ p4 ?_); kernel_rfl; kernel_rfl; go_simp) | go_big_quiet_step (first | (go_at_call 120; exact Gives.later _ (implNearB_is _ _ _ _ _ _ _ _ _ _ _ _ HB0.out HXA.out HXB.out _ HNQ.out _)) | (go_at_call 119; exact Gives.later _ (implRankGap_is _ _ _ _ _ HRN.out _))))
      refine wpQuiet_nil ?_
      intro zz
      have HB5 : Hid (Below w.heap.size w zz.to) := HB4.out.trans (zz.ok.mono HB4.out.size)
      have p5 := zz.block p4
      have a5 := zz.block a4
      have b5 := zz.block b4
      obtain ⟨y0, y1, y2, y3⟩ := cells4 a5
      obtain ⟨z0, z1, z2, z3⟩ := cells4 b5
      go_wp2_with fail
      refine (implSame_is _ _ _ _ _ _ _ _ _ HHS.out _).mono ?_
      rintro e w6 ⟨rfl, hb6⟩
      have HB6 : Hid (Below w.heap.size w w6) := HB5.out.trans (hb6.mono HB5.out.size)
      clear hb6
      go_wp2
      go_ret
      exact ⟨ret_i (by rw [HE2.out]; omega), HB6.out⟩
  · have HS : sameP ka xa kb xb = true := hs
    have HHS := Lib.hid HS
    obtain ⟨M, hM⟩ : ∃ M, bankG t ka kb = M := ⟨_, rfl⟩
    have HRM := Lib.hid hM
    have HE2 : Hid (v = max (max N M) 1) := by show _ = _; rw [← HE.out]; unfold gapR; rw [HNQ.out, HS, HRN.out, hM]; rfl
    clear HS hs hM
    by_cases hn : 1 < N
    · go_wp2_with fail
      refine wp_region_later (by kernel_rfl) (by kernel_rfl) ?_
      repeat (first | ((with_reducible refine ld_later ?_ ?_ p4 ?_); kernel_rfl; kernel_rfl; go_simp) | go_big_quiet_step (first | (go_at_call 120; exact Gives.later _ (implNearB_is _ _ _ _ _ _ _ _ _ _ _ _ HB0.out HXA.out HXB.out _ HNQ.out _)) | (go_at_call 119; exact Gives.later _ (implRankGap_is _ _ _ _ _ HRN.out _))))
      refine wpQuiet_nil ?_
      intro zz
      have HB5 : Hid (Below w.heap.size w zz.to) := HB4.out.trans (zz.ok.mono HB4.out.size)
      have p5 := zz.block p4
      have a5 := zz.block a4
      have b5 := zz.block b4
      obtain ⟨y0, y1, y2, y3⟩ := cells4 a5
      obtain ⟨z0, z1, z2, z3⟩ := cells4 b5
      go_wp2_with fail
      refine (implSame_is _ _ _ _ _ _ _ _ _ HHS.out _).mono ?_
      rintro e w6 ⟨rfl, hb6⟩
      have HB6 : Hid (Below w.heap.size w w6) := HB5.out.trans (hb6.mono HB5.out.size)
      have p6 := keep_block hb6 p5 (lt_of_block p5)
      have a6 := keep_block hb6 a5 (lt_of_block a5)
      have b6 := keep_block hb6 b5 (lt_of_block b5)
      clear hb6 y0 y1 y2 y3 z0 z1 z2 z3
      obtain ⟨y0, _, _, _⟩ := cells4 a6
      obtain ⟨z0, _, _, _⟩ := cells4 b6
      go_wp2_with (first | ((with_reducible refine ld_tm ?_ ?_ p6 ?_); kernel_rfl; kernel_rfl; go_simp))
      refine (implBankGap_is t _ _ _ HRM.out _).mono ?_
      rintro e w7 ⟨rfl, hb7⟩
      have HB7 : Hid (Below w.heap.size w w7) := HB6.out.trans (hb7.mono HB6.out.size)
      clear hb7
      by_cases hm : N < M
      · go_wp2
        go_ret
        exact ⟨ret_i (by rw [HE2.out]; omega), HB7.out⟩
      · go_wp2
        go_ret
        exact ⟨ret_i (by rw [HE2.out]; omega), HB7.out⟩
    · go_wp2_with fail
      refine wp_region_later (by kernel_rfl) (by kernel_rfl) ?_
      repeat (first | ((with_reducible refine ld_later ?_ ?_ p4 ?_); kernel_rfl; kernel_rfl; go_simp) | go_big_quiet_step (first | (go_at_call 120; exact Gives.later _ (implNearB_is _ _ _ _ _ _ _ _ _ _ _ _ HB0.out HXA.out HXB.out _ HNQ.out _)) | (go_at_call 119; exact Gives.later _ (implRankGap_is _ _ _ _ _ HRN.out _))))
      refine wpQuiet_nil ?_
      intro zz
      have HB5 : Hid (Below w.heap.size w zz.to) := HB4.out.trans (zz.ok.mono HB4.out.size)
      have p5 := zz.block p4
      have a5 := zz.block a4
      have b5 := zz.block b4
      obtain ⟨y0, y1, y2, y3⟩ := cells4 a5
      obtain ⟨z0, z1, z2, z3⟩ := cells4 b5
      go_wp2_with fail
      refine (implSame_is _ _ _ _ _ _ _ _ _ HHS.out _).mono ?_
      rintro e w6 ⟨rfl, hb6⟩
      have HB6 : Hid (Below w.heap.size w w6) := HB5.out.trans (hb6.mono HB5.out.size)
      have p6 := keep_block hb6 p5 (lt_of_block p5)
      have a6 := keep_block hb6 a5 (lt_of_block a5)
      have b6 := keep_block hb6 b5 (lt_of_block b5)
      clear hb6 y0 y1 y2 y3 z0 z1 z2 z3
      obtain ⟨y0, _, _, _⟩ := cells4 a6
      obtain ⟨z0, _, _, _⟩ := cells4 b6
      go_wp2_with (first | ((with_reducible refine ld_tm ?_ ?_ p6 ?_); kernel_rfl; kernel_rfl; go_simp))
      refine (implBankGap_is t _ _ _ HRM.out _).mono ?_
      rintro e w7 ⟨rfl, hb7⟩
      have HB7 : Hid (Below w.heap.size w w7) := HB6.out.trans (hb7.mono HB6.out.size)
      clear hb7
      by_cases hm : 1 < M
      · go_wp2
        go_ret
        exact ⟨ret_i (by rw [HE2.out]; omega), HB7.out⟩
      · go_wp2
        go_ret
        exact ⟨ret_i (by rw [HE2.out]; omega), HB7.out⟩

end Go.Proofs.Ythplhjdfajhmpaa

namespace Go.Proofs.Ythplhjdfajhmpaa
open Go.RowKit

set_option linter.unusedVariables false

set_option maxHeartbeats 4000000 in
theorem toTiming_is (t : Tm) (w : World) : Calls Try.prog 20 #[.agg #[.int .i64 t.rcd, .int .i64 t.rp, .int .i64 t.ras, .int .i64 t.rrds, .int .i64 t.rrdl, .int .i64 t.faw, .int .i64 t.ccds, .int .i64 t.ccdl, .int .i64 t.rtp, .int .i64 t.wr, .int .i64 t.wtrs, .int .i64 t.wtrl, .int .i64 t.rtw, .int .i64 t.rfc, .int .i64 t.cke, .int .i64 t.xp, .int .i64 t.xs]] w (Gives (.agg #[.int .i64 t.rcd, .int .i64 t.rp, .int .i64 t.ras, .int .i64 t.rrds, .int .i64 t.rrdl, .int .i64 t.faw, .int .i64 t.ccds, .int .i64 t.ccdl, .int .i64 t.rtp, .int .i64 t.wr, .int .i64 t.wtrs, .int .i64 t.wtrl, .int .i64 t.rtw, .int .i64 t.rfc, .int .i64 t.cke, .int .i64 t.xp, .int .i64 t.xs]) w) := by
  have h3 := box3_2 w (.cells #[.int .i64 t.rcd, .int .i64 t.rp, .int .i64 t.ras, .int .i64 t.rrds, .int .i64 t.rrdl, .int .i64 t.faw, .int .i64 t.ccds, .int .i64 t.ccdl, .int .i64 t.rtp, .int .i64 t.wr, .int .i64 t.wtrs, .int .i64 t.wtrl, .int .i64 t.rtw, .int .i64 t.rfc, .int .i64 t.cke, .int .i64 t.xp, .int .i64 t.xs] 44) (.cells #[.int .i64 0, .int .i64 0, .int .i64 0, .int .i64 0, .int .i64 0, .int .i64 0, .int .i64 0, .int .i64 0, .int .i64 0, .int .i64 0, .int .i64 0, .int .i64 0, .int .i64 0, .int .i64 0, .int .i64 0, .int .i64 0, .int .i64 0] 27) (.cells #[.int .i64 t.rcd, .int .i64 t.rp, .int .i64 t.ras, .int .i64 t.rrds, .int .i64 t.rrdl, .int .i64 t.faw, .int .i64 t.ccds, .int .i64 t.ccdl, .int .i64 t.rtp, .int .i64 t.wr, .int .i64 t.wtrs, .int .i64 t.wtrl, .int .i64 t.rtw, .int .i64 t.rfc, .int .i64 t.cke, .int .i64 t.xp, .int .i64 t.xs] 27)
  have h2 := box3_1 w (.cells #[.int .i64 t.rcd, .int .i64 t.rp, .int .i64 t.ras, .int .i64 t.rrds, .int .i64 t.rrdl, .int .i64 t.faw, .int .i64 t.ccds, .int .i64 t.ccdl, .int .i64 t.rtp, .int .i64 t.wr, .int .i64 t.wtrs, .int .i64 t.wtrl, .int .i64 t.rtw, .int .i64 t.rfc, .int .i64 t.cke, .int .i64 t.xp, .int .i64 t.xs] 44) (.cells #[.int .i64 0, .int .i64 0, .int .i64 0, .int .i64 0, .int .i64 0, .int .i64 0, .int .i64 0, .int .i64 0, .int .i64 0, .int .i64 0, .int .i64 0, .int .i64 0, .int .i64 0, .int .i64 0, .int .i64 0, .int .i64 0, .int .i64 0] 27) (.cells #[.int .i64 t.rcd, .int .i64 t.rp, .int .i64 t.ras, .int .i64 t.rrds, .int .i64 t.rrdl, .int .i64 t.faw, .int .i64 t.ccds, .int .i64 t.ccdl, .int .i64 t.rtp, .int .i64 t.wr, .int .i64 t.wtrs, .int .i64 t.wtrl, .int .i64 t.rtw, .int .i64 t.rfc, .int .i64 t.cke, .int .i64 t.xp, .int .i64 t.xs] 27)
  go_enter Try.func20, Try.ntmps20
  go_wp2_with (first | (first | ((with_reducible refine ld_tm ?_ ?_ h3 ?_); kernel_rfl; kernel_rfl; go_simp)) | ((with_reducible refine store_list (cells := #[.int .i64 t.rcd, .int .i64 t.rp, .int .i64 t.ras, .int .i64 t.rrds, .int .i64 t.rrdl, .int .i64 t.faw, .int .i64 t.ccds, .int .i64 t.ccdl, .int .i64 t.rtp, .int .i64 t.wr, .int .i64 t.wtrs, .int .i64 t.wtrl, .int .i64 t.rtw, .int .i64 t.rfc, .int .i64 t.cke, .int .i64 t.xp, .int .i64 t.xs]) h2 ?_ ?_ ?_ ?_ ?_ ?_); kernel_rfl; kernel_rfl; kernel_rfl; kernel_rfl; kernel_rfl))
  have hr := setRow_same _ _ #[.int .i64 t.rcd, .int .i64 t.rp, .int .i64 t.ras, .int .i64 t.rrds, .int .i64 t.rrdl, .int .i64 t.faw, .int .i64 t.ccds, .int .i64 t.ccdl, .int .i64 t.rtp, .int .i64 t.wr, .int .i64 t.wtrs, .int .i64 t.wtrl, .int .i64 t.rtw, .int .i64 t.rfc, .int .i64 t.cke, .int .i64 t.xp, .int .i64 t.xs] _ _ h2
  refine bodyPost_ret (v := .agg #[.int .i64 t.rcd, .int .i64 t.rp, .int .i64 t.ras, .int .i64 t.rrds, .int .i64 t.rrdl, .int .i64 t.faw, .int .i64 t.ccds, .int .i64 t.ccdl, .int .i64 t.rtp, .int .i64 t.wr, .int .i64 t.wtrs, .int .i64 t.wtrl, .int .i64 t.rtw, .int .i64 t.rfc, .int .i64 t.cke, .int .i64 t.xp, .int .i64 t.xs]) (results_cell_row rfl _ _ (w.heap.size + 1) 27 #[.int .i64 t.rcd, .int .i64 t.rp, .int .i64 t.ras, .int .i64 t.rrds, .int .i64 t.rrdl, .int .i64 t.faw, .int .i64 t.ccds, .int .i64 t.ccdl, .int .i64 t.rtp, .int .i64 t.wr, .int .i64 t.wtrs, .int .i64 t.wtrl, .int .i64 t.rtw, .int .i64 t.rfc, .int .i64 t.cke, .int .i64 t.xp, .int .i64 t.xs] (0, 0) _ rfl hr Try.underlying27 rfl (by kernel_rfl)) rfl ⟨rfl, ?_⟩
  exact below_setRow ((((Below.refl _ _).alloc (by simp) _).alloc (by simp) _).alloc (by simp; omega) _) (by omega) _

end Go.Proofs.Ythplhjdfajhmpaa

namespace Go.Proofs.Ythplhjdfajhmpaa
open Go.RowKit Go.PlainAid

set_option linter.unusedVariables false

theorem ld_tmL {ops : Array Oper} {rest : List Oper} {a : Act} {w : World} {Q : Exit → Act → World → Prop} {d : Tmp} {x : Operand} {y : TypeId} {p : String} {af : Array Edge} {gd : Option (Nat × Bool)} {c : Nat} {t : Tm} {ty : TypeId} {fr : Nat × Nat}
    (hw : Region.wanted ⟨some d, .load 44 x, y, p, af, gd⟩ (yielded ops a.tmps) = true) (hx : a.eval x = .pointer (some ⟨c, 0, none⟩)) (h : w.heap[c]? = some (.cells #[.int .i64 t.rcd, .int .i64 t.rp, .int .i64 t.ras, .int .i64 t.rrds, .int .i64 t.rrdl, .int .i64 t.faw, .int .i64 t.ccds, .int .i64 t.ccdl, .int .i64 t.rtp, .int .i64 t.wr, .int .i64 t.wtrs, .int .i64 t.wtrl, .int .i64 t.rtw, .int .i64 t.rfc, .int .i64 t.cke, .int .i64 t.xp, .int .i64 t.xs] ty fr))
    (k : wpList Try.prog ops Q rest (a.put (some d) (.agg #[.int .i64 t.rcd, .int .i64 t.rp, .int .i64 t.ras, .int .i64 t.rrds, .int .i64 t.rrdl, .int .i64 t.faw, .int .i64 t.ccds, .int .i64 t.ccdl, .int .i64 t.rtp, .int .i64 t.wr, .int .i64 t.wtrs, .int .i64 t.wtrl, .int .i64 t.rtw, .int .i64 t.rfc, .int .i64 t.cke, .int .i64 t.xp, .int .i64 t.xs])) w) : wpList Try.prog ops Q (⟨some d, .load 44 x, y, p, af, gd⟩ :: rest) a w :=
  load_list Try.underlying44 rfl (by kernel_rfl) hw hx h k

theorem ld_laterL {ops : Array Oper} {rest : List Oper} {a : Act} {w : World} {Q : Act → Prop} {d : Tmp} {x : Operand} {y : TypeId} {p : String} {af : Array Edge} {gd : Option (Nat × Bool)} {c : Nat} {t : Tm} {ty : TypeId} {fr : Nat × Nat}
    (hw : Region.wanted ⟨some d, .load 44 x, y, p, af, gd⟩ (yielded ops a.tmps) = true) (hx : a.eval x = .pointer (some ⟨c, 0, none⟩)) (h : w.heap[c]? = some (.cells #[.int .i64 t.rcd, .int .i64 t.rp, .int .i64 t.ras, .int .i64 t.rrds, .int .i64 t.rrdl, .int .i64 t.faw, .int .i64 t.ccds, .int .i64 t.ccdl, .int .i64 t.rtp, .int .i64 t.wr, .int .i64 t.wtrs, .int .i64 t.wtrl, .int .i64 t.rtw, .int .i64 t.rfc, .int .i64 t.cke, .int .i64 t.xp, .int .i64 t.xs] ty fr))
    (k : wpQuiet Try.prog ops (fun w' => ∃ z : Later w, w' = z.to) Q rest (a.put (some d) (.agg #[.int .i64 t.rcd, .int .i64 t.rp, .int .i64 t.ras, .int .i64 t.rrds, .int .i64 t.rrdl, .int .i64 t.faw, .int .i64 t.ccds, .int .i64 t.ccdl, .int .i64 t.rtp, .int .i64 t.wr, .int .i64 t.wtrs, .int .i64 t.wtrl, .int .i64 t.rtw, .int .i64 t.rfc, .int .i64 t.cke, .int .i64 t.xp, .int .i64 t.xs]))) : wpQuiet Try.prog ops (fun w' => ∃ z : Later w, w' = z.to) Q (⟨some d, .load 44 x, y, p, af, gd⟩ :: rest) a :=
  load_quiet Try.underlying44 rfl (by kernel_rfl) hw hx (fun _ ⟨z, hz⟩ => ⟨ty, fr, hz ▸ z.block h⟩) k

end Go.Proofs.Ythplhjdfajhmpaa

namespace Go.Proofs.Ythplhjdfajhmpaa
open Go.RowKit Go.PlainAid

set_option linter.unusedVariables false

set_option maxHeartbeats 8000000 in
set_option maxRecDepth 100000 in
theorem implGapTime_is (t : Tm) (g0 B g2 g3 : Int) (a : Option Addr) (n c : Nat) (R : List Ev) (k x y z : Int) (v : Int) (hv : gapW g0 B g2 g3 t R k x y z = v) (hl : R.length = n) (h1 : n ≤ 3000000) (w : World) (hr : evK.Row w a R) :
    Calls Try.prog 73 #[.agg #[.int .i64 g0, .int .i64 B, .int .i64 g2, .int .i64 g3], .agg #[.int .i64 t.rcd, .int .i64 t.rp, .int .i64 t.ras, .int .i64 t.rrds, .int .i64 t.rrdl, .int .i64 t.faw, .int .i64 t.ccds, .int .i64 t.ccdl, .int .i64 t.rtp, .int .i64 t.wr, .int .i64 t.wtrs, .int .i64 t.wtrl, .int .i64 t.rtw, .int .i64 t.rfc, .int .i64 t.cke, .int .i64 t.xp, .int .i64 t.xs], .slice a n c, .agg #[.int .i64 k, .int .i64 x, .int .i64 y, .int .i64 z]] w (Gives (.int .i64 v) w) := by
  obtain ⟨w2, hw1⟩ : ∃ u, ((w.alloc (.cells #[.int .i64 g0, .int .i64 B, .int .i64 g2, .int .i64 g3] 25)).alloc (.cells #[.int .i64 t.rcd, .int .i64 t.rp, .int .i64 t.ras, .int .i64 t.rrds, .int .i64 t.rrdl, .int .i64 t.faw, .int .i64 t.ccds, .int .i64 t.ccdl, .int .i64 t.rtp, .int .i64 t.wr, .int .i64 t.wtrs, .int .i64 t.wtrl, .int .i64 t.rtw, .int .i64 t.rfc, .int .i64 t.cke, .int .i64 t.xp, .int .i64 t.xs] 27)).alloc (.cells #[.int .i64 k, .int .i64 x, .int .i64 y, .int .i64 z] 39) = u := ⟨_, rfl⟩
  have HB2 : Hid (Below w.heap.size w w2) := by subst hw1; exact (((Below.refl _ _).alloc (Nat.le_refl _) _).alloc (by simp) _).alloc (by simp; omega) _
  have g2' : w2.heap[w.heap.size]? = some (.cells #[.int .i64 g0, .int .i64 B, .int .i64 g2, .int .i64 g3] 25) := by subst hw1; exact box3_0 _ _ _ _
  have p2 : w2.heap[w.heap.size + 1]? = some (.cells #[.int .i64 t.rcd, .int .i64 t.rp, .int .i64 t.ras, .int .i64 t.rrds, .int .i64 t.rrdl, .int .i64 t.faw, .int .i64 t.ccds, .int .i64 t.ccdl, .int .i64 t.rtp, .int .i64 t.wr, .int .i64 t.wtrs, .int .i64 t.wtrl, .int .i64 t.rtw, .int .i64 t.rfc, .int .i64 t.cke, .int .i64 t.xp, .int .i64 t.xs] 27) := by subst hw1; exact box3_1 _ _ _ _
  have q2 : w2.heap[w.heap.size + 1 + 1]? = some (.cells #[.int .i64 k, .int .i64 x, .int .i64 y, .int .i64 z] 39) := by subst hw1; exact box3_2 _ _ _ _
  have HRR := Lib.hid (hr.below HB2.out)
  have HRL := Lib.hid hl
  have HV := Lib.hid hv
  clear hr hl hv
  go_enter Try.func73, Try.ntmps73
  go_wp2_with fail
  go_loopw [9, 14] (fun u i wr => ∃ m : Nat, m ≤ n ∧ i = .int .i64 m ∧ u = .int .i64 (gapW g0 B g2 g3 t (R.take m) k x y z) ∧ Below w2.heap.size w2 wr) (fun _ i _ => n - (intOf i).toNat)
  case atStart => exact ⟨0, Nat.zero_le _, rfl, rfl, Below.refl _ _⟩
  case round =>
    obtain ⟨m, hm, rfl, rfl, hbr⟩ := hrel
    have HBR := Lib.hid hbr
    have HBW : Hid (Below w.heap.size w wr) := HB2.out.trans (hbr.mono HB2.out.size)
    have gr := keep_block hbr g2' (lt_of_block g2')
    have pr := keep_block hbr p2 (lt_of_block p2)
    have qr := keep_block hbr q2 (lt_of_block q2)
    have HRW := Lib.hid (HRR.out.below hbr)
    clear hbr
    by_cases hlt : m < n
    case neg =>
      obtain rfl : m = n := by omega
      have HE : Hid (gapW g0 B g2 g3 t (R.take m) k x y z = v) := by show _ = _; rw [List.take_of_length_le (by rw [HRL.out]; exact Nat.le_refl _)]; exact HV.out
      generalize gapW g0 B g2 g3 t (R.take m) k x y z = M at HE ⊢
      go_wp2_with fail
      go_ret
      exact ⟨ret_i HE.out, HBW.out⟩
    have hml : m < R.length := by rw [HRL.out]; exact hlt
    have HT := Lib.hid (take_snoc hml)
    obtain ⟨b, off, rfl, a0, a1, a2, a3, a4⟩ := ev_at HRW.out (i := m) hml
    obtain ⟨d, hd⟩ : ∃ d, R.getD m ev0 = d := ⟨_, rfl⟩
    rw [hd] at a0 a1 a2 a3 a4 HT
    clear hd
    obtain ⟨wn, hwn⟩ : ∃ u, wr.alloc (.cells #[.int .i64 d.t, .int .i64 d.k, .int .i64 d.x, .int .i64 d.y, .int .i64 d.z] 41) = u := ⟨_, rfl⟩
    have hbn : Below wr.heap.size wr wn := by subst hwn; exact (Below.refl _ _).alloc (Nat.le_refl _) _
    have dn : wn.heap[wr.heap.size]? = some (.cells #[.int .i64 d.t, .int .i64 d.k, .int .i64 d.x, .int .i64 d.y, .int .i64 d.z] 41) := by subst hwn; exact heap_alloc_new _ _
    have gn := keep_block hbn gr (lt_of_block gr)
    have pn := keep_block hbn pr (lt_of_block pr)
    have qn := keep_block hbn qr (lt_of_block qr)
    have HBN : Hid (Below w2.heap.size w2 wn) := HBR.out.trans (hbn.mono HBR.out.size)
    obtain ⟨c0, c1, c2, c3⟩ := cells4 gn
    obtain ⟨e0, e1, e2, e3⟩ := cells4 qn
    obtain ⟨d0, d1, d2, d3, d4⟩ := cells5 dn
    have zg0 := fun q : Later wn => q.cell c0
    have zg1 := fun q : Later wn => q.cell c1
    have zg2 := fun q : Later wn => q.cell c2
    have zg3 := fun q : Later wn => q.cell c3
    have ze0 := fun q : Later wn => q.cell e0
    have ze1 := fun q : Later wn => q.cell e1
    have ze2 := fun q : Later wn => q.cell e2
    have ze3 := fun q : Later wn => q.cell e3
    have zd0 := fun q : Later wn => q.cell d0
    have zd1 := fun q : Later wn => q.cell d1
    have zd2 := fun q : Later wn => q.cell d2
    have zd3 := fun q : Later wn => q.cell d3
    have zd4 := fun q : Later wn => q.cell d4
    obtain ⟨G, hG⟩ : ∃ G, gapG t g0 B g2 g3 d.k d.x d.y d.z k x y z = G := ⟨_, rfl⟩
    have HG := Lib.hid hG
    obtain ⟨M, hM⟩ : ∃ M, gapW g0 B g2 g3 t (R.take m) k x y z = M := ⟨_, rfl⟩
    rw [hM]
    obtain ⟨S, hS⟩ : ∃ S, IntKind.i64.wrap (d.t + G) = S := ⟨_, rfl⟩
    have HM : Hid (gapW g0 B g2 g3 t (R.take (m + 1)) k x y z = max M S) := by show _ = _; rw [HT.out, gapW_snoc, hM, hG, hS]
    clear c0 c1 c2 c3 e0 e1 e2 e3 d0 d1 d2 d3 d4 hG hM hbn
    by_cases hx : M < S
    all_goals
      go_wp2_with fail
      refine wp_region_later (by kernel_rfl) (by kernel_rfl) ?_
      repeat (first | ((with_reducible refine ld_later ?_ ?_ pn ?_); kernel_rfl; kernel_rfl; go_simp) | go_big_quiet_step ((go_at_call 102; exact Gives.later _ (implGap_is t g0 B g2 g3 d.k d.x d.y d.z k x y z G HG.out _))))
      refine wpQuiet_nil ?_
      intro zz
      have HB6 : Hid (Below w2.heap.size w2 zz.to) := HBN.out.trans (zz.ok.mono HBN.out.size)
      clear zg0 zg1 zg2 zg3 ze0 ze1 ze2 ze3 zd0 zd1 zd2 zd3 zd4 a0 a1 a2 a3 a4
      go_wp2_with fail
      go_roundw
      case rel => exact ⟨m + 1, by omega, by go_num, by rw [HM.out]; congr 1; omega, HB6.out⟩
      case measure => simp [intOf]; omega

set_option maxHeartbeats 8000000 in
set_option maxRecDepth 100000 in
theorem implFawTime_is (t : Tm) (a : Option Addr) (al c : Nat) (A0 : List Int) (k x y z : Int) (v : Int) (hv : fawA t.faw A0 k = v) (hl : A0.length = al) (h1 : al ≤ 3000000) (w : World) (hr : RowI w a A0) :
    Calls Try.prog 75 #[.agg #[.int .i64 t.rcd, .int .i64 t.rp, .int .i64 t.ras, .int .i64 t.rrds, .int .i64 t.rrdl, .int .i64 t.faw, .int .i64 t.ccds, .int .i64 t.ccdl, .int .i64 t.rtp, .int .i64 t.wr, .int .i64 t.wtrs, .int .i64 t.wtrl, .int .i64 t.rtw, .int .i64 t.rfc, .int .i64 t.cke, .int .i64 t.xp, .int .i64 t.xs], .slice a al c, .agg #[.int .i64 k, .int .i64 x, .int .i64 y, .int .i64 z]] w (Gives (.int .i64 v) w) := by
  obtain ⟨w3, hw1⟩ : ∃ u, (w.alloc (.cells #[.int .i64 t.rcd, .int .i64 t.rp, .int .i64 t.ras, .int .i64 t.rrds, .int .i64 t.rrdl, .int .i64 t.faw, .int .i64 t.ccds, .int .i64 t.ccdl, .int .i64 t.rtp, .int .i64 t.wr, .int .i64 t.wtrs, .int .i64 t.wtrl, .int .i64 t.rtw, .int .i64 t.rfc, .int .i64 t.cke, .int .i64 t.xp, .int .i64 t.xs] 27)).alloc (.cells #[.int .i64 k, .int .i64 x, .int .i64 y, .int .i64 z] 39) = u := ⟨_, rfl⟩
  have HB3 : Hid (Below w.heap.size w w3) := by subst hw1; exact ((Below.refl _ _).alloc (Nat.le_refl _) _).alloc (by simp) _
  have p3 : w3.heap[w.heap.size]? = some (.cells #[.int .i64 t.rcd, .int .i64 t.rp, .int .i64 t.ras, .int .i64 t.rrds, .int .i64 t.rrdl, .int .i64 t.faw, .int .i64 t.ccds, .int .i64 t.ccdl, .int .i64 t.rtp, .int .i64 t.wr, .int .i64 t.wtrs, .int .i64 t.wtrl, .int .i64 t.rtw, .int .i64 t.rfc, .int .i64 t.cke, .int .i64 t.xp, .int .i64 t.xs] 27) := by subst hw1; exact heap_alloc2_old _ _ _
  have q3 : w3.heap[w.heap.size + 1]? = some (.cells #[.int .i64 k, .int .i64 x, .int .i64 y, .int .i64 z] 39) := by subst hw1; exact heap_alloc2_new _ _ _
  have HR := Lib.hid (hr.below HB3.out)
  have HAL := Lib.hid hl
  have HV := Lib.hid hv
  clear hr hl hv
  go_enter Try.func75, Try.ntmps75
  obtain ⟨e0, e1, e2, e3⟩ := cells4 q3
  by_cases hk1 : k = 1
  case neg =>
    have tk : (k != 1) = true := by simp [hk1]
    have HE : Hid (0 = v) := by show _ = _; rw [← HV.out]; exact (if_neg (fun h => hk1 h.1)).symm
    clear hk1
    go_wp2_with fail
    go_ret
    exact ⟨ret_i HE.out, HB3.out⟩
  have tk : (k != 1) = false := by simp [hk1]
  by_cases h4 : 4 ≤ al
  case neg =>
    have wl : IntKind.i64.wrap ((al : Int) - 4) = (al : Int) - 4 := IntWalk.i64_in _ (by omega)
    have t4 : decide ((al : Int) - 4 < 0) = true := decide_eq_true (by omega)
    have HE : Hid (0 = v) := by show _ = _; rw [← HV.out]; exact (if_neg (fun h => h4 (by rw [← HAL.out]; exact h.2))).symm
    clear hk1 h4
    go_wp2_with fail
    go_ret
    exact ⟨ret_i HE.out, HB3.out⟩
  have wl : IntKind.i64.wrap ((al : Int) - 4) = ((al - 4 : Nat) : Int) := by rw [IntWalk.i64_in _ (by omega)]; omega
  have t4 : decide (((al - 4 : Nat) : Int) < 0) = false := decide_eq_false (by omega)
  have hl4 : al - 4 < al := by omega
  obtain ⟨A, hA⟩ : ∃ A, A0.getD (al - 4) 0 = A := ⟨_, rfl⟩
  obtain ⟨ga, off, rfl, hcA⟩ := HR.out.at (k := al - 4) (by rw [HAL.out]; omega)
  rw [hA] at hcA
  have za := fun q : Later w3 => q.cell hcA
  obtain ⟨_, _, _, _, _, fw, _⟩ := tm_cells p3
  have zf := fun q : Later w3 => q.cell fw
  have HE : Hid (IntKind.i64.wrap (A + t.faw) = v) := by
    show _ = _
    rw [← HV.out, ← hA, ← HAL.out]
    unfold fawA
    rw [if_pos ⟨hk1, by rw [HAL.out]; exact h4⟩]
  obtain ⟨S, hS⟩ : ∃ S, IntKind.i64.wrap (A + t.faw) = S := ⟨_, rfl⟩
  rw [hS] at HE
  clear hk1 hA hcA
  go_wp2_with fail
  refine wp_region_later (by kernel_rfl) (by kernel_rfl) ?_
  repeat (go_big_quiet_step (fail))
  refine wpQuiet_nil ?_
  rintro w8 ⟨zz, rfl⟩
  have HB8 : Hid (Below w.heap.size w zz.to) := HB3.out.trans (zz.ok.mono HB3.out.size)
  clear za zf fw
  go_wp2_with fail
  go_ret
  exact ⟨ret_i HE.out, HB8.out⟩

end Go.Proofs.Ythplhjdfajhmpaa

namespace Go.Proofs.Ythplhjdfajhmpaa
open Go.RowKit Go.PlainAid

set_option linter.unusedVariables false

theorem blkL_get (la : List Int) (b : Nat) {j : Nat} (hj : j < 9) : (blkL la b).getD j 0 = la.getD (9 * b + j) 0 := by
  match j, hj with
  | 0, _ => rfl
  | 1, _ => rfl
  | 2, _ => rfl
  | 3, _ => rfl
  | 4, _ => rfl
  | 5, _ => rfl
  | 6, _ => rfl
  | 7, _ => rfl
  | 8, _ => rfl
  | n + 9, h => exact absurd h (by omega)

/-- The command of an index of a summary. -/
def evI (N : Nat) (la : List Int) (i : Nat) : Ev := ⟨la.getD i 0, kindI i, if i / 9 < N then ((i / 9 : Nat) : Int) else 0, 0, 0⟩

/-- The commands of the first m indices. -/
def lastE (N : Nat) (la : List Int) : Nat → List Ev
  | 0 => []
  | m + 1 => if la.getD m 0 = -1 then lastE N la m else lastE N la m ++ [evI N la m]

theorem lastE_len (N : Nat) (la : List Int) : ∀ m, (lastE N la m).length ≤ m
  | 0 => Nat.le_refl _
  | m + 1 => by
    have := lastE_len N la m
    unfold lastE
    split
    · omega
    · rw [List.length_append, List.length_singleton]; omega

/-- Their earliest time is that by the summary. -/
theorem lastE_gap {g0 B g2 g3 : Int} {t : Tm} {N : Nat} (hN : bankN g0 B g2 g3 = (N : Int)) {la ac : List Int} (hr : RdOk g0 B g2 g3 N la ac) (ht : TimOk t) {k x y z : Int} (hc : CmOk k x y z ∧ AdOk g0 B g2 g3 x y z) : ∀ m, m ≤ la.length → gapW g0 B g2 g3 t (lastE N la m) k x y z = atM B t la k x m
  | 0, _ => rfl
  | m + 1, hm => by
    have ih := lastE_gap hN hr ht hc m (by omega)
    have hlo := hr.2.2.2.1 m (by omega)
    have hg := hr.1
    have hb := bankN_range g0 B g2 g3
    have hlen := hr.2.1
    unfold lastE atM
    by_cases h1 : la.getD m 0 = -1
    · rw [if_pos h1, if_pos (by omega), ih]
    · rw [if_neg h1, if_neg (by omega), gapW_snoc, ih]
      have hu : usedI N m = true := by
        rcases hlo.2 with h | h
        · exact h
        · exact absurd h h1
      have hu' : (m % 9 + 1 ≤ 5 ↔ m / 9 < N) := by
        unfold usedI at hu
        rw [beq_iff_eq, decide_eq_decide] at hu
        exact hu
      have eb : (evI N la m).x = bankI m := by
        show (if m / 9 < N then ((m / 9 : Nat) : Int) else 0) = bankI m
        unfold bankI
        by_cases h : m / 9 < N
        · rw [if_pos h, if_pos (hu'.2 h)]
        · rw [if_neg h, if_neg (fun h' => h (hu'.1 h'))]
      have hv : CmOk (kindI m) (bankI m) 0 0 ∧ AdOk g0 B g2 g3 (bankI m) 0 0 := by
        have hkr : 1 ≤ kindI m ∧ kindI m ≤ 9 := by unfold kindI; omega
        have hbr : 0 ≤ bankI m ∧ bankI m ≤ bankN g0 B g2 g3 - 1 := by
          unfold bankI
          split
          · rename_i h; have := hu'.1 h; omega
          · have : 0 < bankN g0 B g2 g3 := by unfold bankN; rw [if_pos hg]; exact Int.mul_pos (by have := hg.1; omega) (by have := hg.2.1; omega)
            omega
        refine ⟨⟨hkr, ⟨hbr.1, by omega⟩, by decide, by decide, ?_, .inr rfl, .inr (.inr rfl)⟩, hbr, ⟨by decide, by have := hg.2.2.1; omega⟩, ⟨by decide, by have := hg.2.2.2; omega⟩⟩
        unfold kindI bankI
        by_cases h : m % 9 + 1 ≤ 5
        · exact .inl (by omega)
        · exact .inr (if_neg h)
      have eg : gapG t g0 B g2 g3 (evI N la m).k (evI N la m).x (evI N la m).y (evI N la m).z k x y z = gapR B t (kindI m) (bankI m) k x := by
        rw [eb]
        exact if_pos ⟨ht, hv, hc⟩
      rw [eg]
      have h2 := gapR_range B t (kindI m) (bankI m) k x
      have et : (evI N la m).t = la.getD m 0 := rfl
      rw [et, IntWalk.i64_in _ (by omega)]

set_option maxHeartbeats 4000000 in
theorem implCmdBlock_is (g0 B g2 g3 : Int) (N : Nat) (hN : bankN g0 B g2 g3 = (N : Int)) (b : Nat) (kd bk : Int) (hbk : (if b < N then (b : Int) else 0) = bk) (w : World) :
    Calls Try.prog 103 #[.agg #[.int .i64 g0, .int .i64 B, .int .i64 g2, .int .i64 g3], .int .i64 (b : Int), .int .i64 kd] w (Gives (.agg #[.int .i64 kd, .int .i64 bk, .int .i64 0, .int .i64 0]) w) := by
  obtain ⟨w1, hw1⟩ : ∃ u, (w.alloc (.cells #[.int .i64 g0, .int .i64 B, .int .i64 g2, .int .i64 g3] 25)).alloc (.cells #[.int .i64 0, .int .i64 0, .int .i64 0, .int .i64 0] 39) = u := ⟨_, rfl⟩
  have HB1 : Hid (Below w.heap.size w w1) := by subst hw1; exact ((Below.refl _ _).alloc (Nat.le_refl _) _).alloc (by simp) _
  have g1 : w1.heap[w.heap.size]? = some (.cells #[.int .i64 g0, .int .i64 B, .int .i64 g2, .int .i64 g3] 25) := by subst hw1; exact heap_alloc2_old _ _ _
  have t1 : w1.heap[w.heap.size + 1]? = some (.cells #[.int .i64 0, .int .i64 0, .int .i64 0, .int .i64 0] 39) := by subst hw1; exact heap_alloc2_new _ _ _
  obtain ⟨c0, c1, c2, c3⟩ := cells4 g1
  have HN := Lib.hid hN
  by_cases hlt : b < N
  case pos =>
    have t0 : decide ((b : Int) < (N : Int)) = true := decide_eq_true (by omega)
    have t0' : decide (b < N) = true := decide_eq_true (by omega)
    obtain rfl : (b : Int) = bk := by rw [← hbk, if_pos hlt]
    clear hbk hN hlt
    go_enter Try.func103, Try.ntmps103
    go_wp2_with fail
    refine (implBank_is _ _ _ _ _ HN.out _).mono ?_
    rintro e w2 ⟨rfl, hb2⟩
    have t2 := keep_block hb2 t1 (lt_of_block t1)
    have HB2 : Hid (Below w.heap.size w w2) := HB1.out.trans (hb2.mono HB1.out.size)
    obtain ⟨x0, x1, x2, x3⟩ := cells4 t2
    have f0 := thawed t2 0
    have f1 := thawed t2 1
    have f2 := thawed t2 2
    have f3 := thawed t2 3
    clear hb2 c0 c1 c2 c3 g1 t1 HB1 hw1
    go_wp2_with fail
    (try simp only [Exit.inBlock, Exit.then])
    refine bodyPost_ret (v := .agg #[.int .i64 kd, .int .i64 (b : Int), .int .i64 0, .int .i64 0]) (by simp [results, Try.results103, go_sem, x0, x1, x2, x3]) rfl ⟨rfl, ?_⟩
    repeat' (first | exact HB2.out | refine Below.drew ?_ | refine Below.setCell ?_ (by simp <;> omega) _)
  case neg =>
    have t0 : decide ((b : Int) < (N : Int)) = false := decide_eq_false (by omega)
    have t0' : decide (b < N) = false := decide_eq_false (by omega)
    obtain rfl : (0 : Int) = bk := by rw [← hbk, if_neg hlt]
    clear hbk hN hlt
    go_enter Try.func103, Try.ntmps103
    go_wp2_with fail
    refine (implBank_is _ _ _ _ _ HN.out _).mono ?_
    rintro e w2 ⟨rfl, hb2⟩
    have t2 := keep_block hb2 t1 (lt_of_block t1)
    have HB2 : Hid (Below w.heap.size w w2) := HB1.out.trans (hb2.mono HB1.out.size)
    obtain ⟨x0, x1, x2, x3⟩ := cells4 t2
    have f0 := thawed t2 0
    have f1 := thawed t2 1
    have f2 := thawed t2 2
    have f3 := thawed t2 3
    clear hb2 c0 c1 c2 c3 g1 t1 HB1 hw1
    go_wp2_with fail
    (try simp only [Exit.inBlock, Exit.then])
    refine bodyPost_ret (v := .agg #[.int .i64 kd, .int .i64 0, .int .i64 0, .int .i64 0]) (by simp [results, Try.results103, go_sem, x0, x1, x2, x3]) rfl ⟨rfl, ?_⟩
    repeat' (first | exact HB2.out | refine Below.drew ?_ | refine Below.setCell ?_ (by simp <;> omega) _)

theorem ev_src5 {w : World} {g : Nat} {v0 v1 v2 v3 v4 : Value} {ty : TypeId} {fr : Nat × Nat} (h : w.heap[g]? = some (.cells #[v0, v1, v2, v3, v4] ty fr)) : ∀ j u, [v0, v1, v2, v3, v4][j]? = some u → w.cell? ((⟨g, 0, none⟩ : Addr).add j) = some u := by
  obtain ⟨h0, h1, h2, h3, h4⟩ := cells5 h
  intro j u hu
  rw [Addr.add_lit, Nat.zero_add]
  match j, hu with
  | 0, hu => rw [h0]; exact hu
  | 1, hu => rw [h1]; exact hu
  | 2, hu => rw [h2]; exact hu
  | 3, hu => rw [h3]; exact hu
  | 4, hu => rw [h4]; exact hu
  | j + 5, hu => simp at hu

/-- A call that answers a row of events of its own. -/
def GivesEw (l : List Ev) (w : World) (e : Ending) (w' : World) : Prop :=
  ∃ a c, e = .returned (.slice a l.length c) ∧ evK.Own 41 w.heap.size (.slice a l.length c) l w' ∧ Below w.heap.size w w'

set_option maxHeartbeats 16000000 in
set_option maxRecDepth 100000 in
theorem implLastEvents_is (g0 B g2 g3 : Int) (N : Nat) (hN : bankN g0 B g2 g3 = (N : Int)) (a1 : Option Addr) (n1 c1 : Nat) (la : List Int) (a2 : Option Addr) (n2 c2 : Nat) (hl : la.length = n1) (hn : n1 = 9 * (N + 1)) (hc1 : n1 ≤ c1) (w : World) (hr1 : RowI w a1 la) :
    Calls Try.prog 74 #[.agg #[.slice a1 n1 c1, .slice a2 n2 c2], .agg #[.int .i64 g0, .int .i64 B, .int .i64 g2, .int .i64 g3]] w (GivesEw (lastE N la (9 * (N + 1))) w) := by
  obtain ⟨i0, hi, hz0, hz1, hz2⟩ := info_parts infoE
  obtain ⟨w1, hw1⟩ : ∃ u, (w.alloc (.cells #[.slice a1 n1 c1, .slice a2 n2 c2] 33)).alloc (.cells #[.int .i64 g0, .int .i64 B, .int .i64 g2, .int .i64 g3] 25) = u := ⟨_, rfl⟩
  have HB1 : Hid (Below w.heap.size w w1) := by subst hw1; exact ((Below.refl _ _).alloc (Nat.le_refl _) _).alloc (by simp) _
  have p1 : w1.heap[w.heap.size]? = some (.cells #[.slice a1 n1 c1, .slice a2 n2 c2] 33) := by subst hw1; exact heap_alloc2_old _ _ _
  have g1 : w1.heap[w.heap.size + 1]? = some (.cells #[.int .i64 g0, .int .i64 B, .int .i64 g2, .int .i64 g3] 25) := by subst hw1; exact heap_alloc2_new _ _ _
  have HR := Lib.hid (hr1.below HB1.out)
  have hrg := bankN_range g0 B g2 g3
  have hN8 : N ≤ 8 := by omega
  have HN := Lib.hid hN
  have HL := Lib.hid hl
  obtain ⟨c0, c1', c2', c3⟩ := cells4 g1
  obtain ⟨M, hM⟩ : ∃ M, N + 1 = M := ⟨_, rfl⟩
  have HC : Hid (∀ u, Calls Try.prog 82 #[.agg #[.int .i64 g0, .int .i64 B, .int .i64 g2, .int .i64 g3]] u (Gives (.int .i64 (M : Int)) u)) := fun u => by rw [← hM]; exact implBlocks_is _ _ _ _ N HN.out u
  have hn9 : 9 * M ≤ n1 := by omega
  have hn3 : n1 ≤ 81 := by omega
  have hM9 : M ≤ 9 := by omega
  rw [hM]
  clear hrg hN hl hr1 hn hM
  go_enter Try.func74, Try.ntmps74
  go_wp2_with fail
  refine (HC.out _).mono ?_
  rintro e w2 ⟨rfl, hb2⟩
  have p2 := keep_block hb2 p1 (lt_of_block p1)
  have g2' := keep_block hb2 g1 (lt_of_block g1)
  have HB2 : Hid (Below w.heap.size w w2) := HB1.out.trans (hb2.mono HB1.out.size)
  have HR2 := Lib.hid (HR.out.below hb2)
  clear hb2 c0 c1' c2' c3 p1 g1 HB1 HR hw1
  go_wp2_with fail
  go_loopw [5, 11] (fun v i wr => ∃ b : Nat, b ≤ M ∧ i = .int .i64 b ∧ evK.Own 41 w2.heap.size v (lastE N la (9 * b)) wr ∧ Below w2.heap.size w2 wr) (fun _ i _ => M - (intOf i).toNat)
  case atStart => exact ⟨0, by omega, rfl, World.ownsRow_nil _ _ _ _, Below.refl _ _⟩
  case round =>
    obtain ⟨b, hbM, rfl, hown, hbr⟩ := hrel
    have HBW : Hid (Below w.heap.size w wr) := HB2.out.trans (hbr.mono HB2.out.size)
    have HBR := Lib.hid hbr
    have HO := Lib.hid hown
    have pr := keep_block hbr p2 (lt_of_block p2)
    have gr := keep_block hbr g2' (lt_of_block g2')
    have HRR := Lib.hid (HR2.out.below hbr)
    clear hbr hown
    by_cases hlt : b < M
    case neg =>
      obtain rfl : b = M := by omega
      obtain ⟨va, vc, hv⟩ := HO.out.shape
      subst hv
      have HO2 := Lib.hid (HO.out)
      clear HO
      go_wp2_with fail
      go_ret
      exact ⟨va, vc, rfl, Kd.Own.mono HO2.out HB2.out.size, HBW.out⟩
    have hb9 : 9 * b + 9 ≤ n1 := by omega
    have hn3' : n1 ≤ 3000000 := by omega
    have hno : decide ((b : Int) < (M : Int)) = true := decide_eq_true (by omega)
    obtain ⟨x0, x1, x2, x3, x4, x5, x6, x7, x8, hx⟩ : ∃ x0 x1 x2 x3 x4 x5 x6 x7 x8, blkL la b = [x0, x1, x2, x3, x4, x5, x6, x7, x8] := ⟨_, _, _, _, _, _, _, _, _, rfl⟩
    have HX := Lib.hid hx
    have HGET : Hid (∀ j, j < 9 → [x0, x1, x2, x3, x4, x5, x6, x7, x8].getD j 0 = la.getD (9 * b + j) 0) := fun j hj => by rw [← hx]; exact blkL_get la b hj
    have IX := Lib.hid (times_index x0 x1 x2 x3 x4 x5 x6 x7 x8)
    obtain ⟨d0, d1⟩ := cells2 pr
    clear hx
    go_wp2_with fail
    refine (implTimesOf_at _ n1 _ la _ _ _ b hb9 HL.out hn3' hc1 x0 x1 x2 x3 x4 x5 x6 x7 x8 HX.out _ HRR.out).mono ?_
    rintro e w3 ⟨rfl, hb3⟩
    have HB3 : Hid (Below w2.heap.size w2 w3) := HBR.out.trans (hb3.mono HBR.out.size)
    have HO3 := Lib.hid (HO.out.below hb3)
    clear hb3 d0 d1 pr gr HBR HRR HO HBW
    go_wp2_with fail
    go_loopw [5, 17] (fun v i wr => ∃ j : Nat, j ≤ 9 ∧ i = .int .i64 j ∧ evK.Own 41 w2.heap.size v (lastE N la (9 * b + j)) wr ∧ Below w2.heap.size w2 wr) (fun _ i _ => 9 - (intOf i).toNat)
    case atStart => exact ⟨0, by omega, rfl, HO3.out, HB3.out⟩
    case round =>
      obtain ⟨j, hj, rfl, hown, hbr⟩ := hrel
      have HBR := Lib.hid hbr
      have HO := Lib.hid hown
      have gr := keep_block hbr g2' (lt_of_block g2')
      clear hbr hown
      by_cases hltj : j < 9
      case neg =>
        obtain rfl : j = 9 := by omega
        (try rw [show ((9 : Nat) : Int) = 9 from rfl])
        have HBZ := HBR
        have wb : IntKind.i64.wrap ((b : Int) + 1) = (b : Int) + 1 := IntWalk.i64_in _ (by omega)
        have HF : Hid (evK.Own 41 w2.heap.size u5 (lastE N la (9 * (b + 1))) wr) := HO.out
        go_wp2_with fail
        go_roundw
        case rel => exact ⟨b + 1, by omega, by go_num, HF.out, HBZ.out⟩
        case measure => simp [intOf]; omega
      have hI : decide ((j : Int) < 9) = true := decide_eq_true (by omega)
      have hI' : (j : Int) < 9 := by omega
      have ix := IX.out j hltj
      obtain ⟨x, hx⟩ : ∃ x, [x0, x1, x2, x3, x4, x5, x6, x7, x8].getD j 0 = x := ⟨_, rfl⟩
      have hxl : la.getD (9 * b + j) 0 = x := by rw [← HGET.out j hltj]; exact hx
      rw [hx] at ix
      have wj : IntKind.i64.wrap ((j : Int) + 1) = (j : Int) + 1 := IntWalk.i64_in _ (by omega)
      have HXL := Lib.hid hxl
      have hll : (lastE N la (9 * b + j)).length ≤ 81 := by have := lastE_len N la (9 * b + j); omega
      clear hx hxl
      by_cases h1 : x = -1
      case pos =>
        subst h1
        have HF : Hid (lastE N la (9 * b + (j + 1)) = lastE N la (9 * b + j)) := if_pos HXL.out
        go_wp2_with fail
        go_roundw
        case rel => exact ⟨j + 1, by omega, by go_num, by rw [HF.out]; exact HO.out, HBR.out⟩
        case measure => simp [intOf]; omega
      have t1 : (x != -1) = true := by simp [h1]
      obtain ⟨bk, hbk⟩ : ∃ bk : Int, (if b < N then (b : Int) else 0) = bk := ⟨_, rfl⟩
      have HBK := Lib.hid hbk
      obtain ⟨kd, hkd⟩ : ∃ kd : Int, (j : Int) + 1 = kd := ⟨_, rfl⟩
      have HF : Hid (lastE N la (9 * b + (j + 1)) = lastE N la (9 * b + j) ++ [⟨x, kd, bk, 0, 0⟩]) := by
        show lastE N la (9 * b + j + 1) = _
        have e1 : kindI (9 * b + j) = kd := by unfold kindI; omega
        have e2 : (9 * b + j) / 9 = b := by omega
        have e3 : evI N la (9 * b + j) = ⟨x, kd, bk, 0, 0⟩ := by unfold evI; rw [HXL.out, e1, e2, hbk]
        conv => lhs; unfold lastE
        rw [if_neg (by rw [HXL.out]; exact h1), e3]
      have wk : IntKind.i64.wrap ((j : Int) + 1) = kd := by rw [wj]; exact hkd
      obtain ⟨c0, c1', c2', c3⟩ := cells4 gr
      obtain ⟨L, hL⟩ : ∃ L, lastE N la (9 * b + j) = L := ⟨_, rfl⟩
      rw [hL] at HO HF hll
      clear hbk h1 wj HXL hL hkd
      go_wp2_with fail
      refine (implCmdBlock_is g0 B g2 g3 N HN.out b _ bk HBK.out _).mono ?_
      rintro e w5 ⟨rfl, hb5⟩
      have HB5 : Hid (Below w2.heap.size w2 w5) := HBR.out.trans (hb5.mono HBR.out.size)
      have HO5 := HO.out.below hb5
      clear hb5 c0 c1' c2' c3 gr HBR HO
      have hcn : (w5.alloc (.cells #[.int .i64 x, .int .i64 kd, .int .i64 bk, .int .i64 0, .int .i64 0] 41)).heap[w5.heap.size]? = some (.cells #[.int .i64 x, .int .i64 kd, .int .i64 bk, .int .i64 0, .int .i64 0] 41) := heap_alloc_new _ _
      have hown' := World.ownsRow.alloc HO5 (.cells #[.int .i64 x, .int .i64 kd, .int .i64 bk, .int .i64 0, .int .i64 0] 41)
      have hsz : w2.heap.size ≤ (w5.alloc (.cells #[.int .i64 x, .int .i64 kd, .int .i64 bk, .int .i64 0, .int .i64 0] 41)).heap.size := by have := HB5.out.size; simp; omega
      go_wp2_with (at_builtin; refine wpList_append_own _ rfl _ _ 28 rfl w2.heap.size 41 i0 (.agg #[.int .i64 0, .int .i64 0, .int .i64 0, .int .i64 0, .int .i64 0]) 5 40 Try.underlying28 hi hz0 hz1 hz2 rfl (by decide) _ _ _ rfl hown' ⟨w5.heap.size, 0, none⟩ 1 1 [.int .i64 x, .int .i64 kd, .int .i64 bk, .int .i64 0, .int .i64 0] rfl rfl (ev_src5 hcn) (by intro v hv; simp only [List.mem_cons, List.not_mem_nil, or_false] at hv; rcases hv with rfl | rfl | rfl | rfl | rfl <;> rfl) (by unfold maxLen; omega) (by omega) hsz ?_)
      intro v' w6 hown6 hgrow _
      have R : Hid (evK.Own 41 w2.heap.size v' (lastE N la (9 * b + (j + 1))) w6) := by show evK.Own _ _ _ _ _; rw [HF.out]; exact Kd.Own.more hown6
      have HB6 : Hid (Below w2.heap.size w2 w6) := (HB5.out.alloc HB5.out.size _).grown hgrow hsz (fun i h => (World.ownsRow.lt hown' i h).1)
      have wj : IntKind.i64.wrap ((j : Int) + 1) = (j : Int) + 1 := IntWalk.i64_in _ (by omega)
      clear hown6 hgrow hown' hcn hsz HO5 HB5 ix
      go_wp2_with fail
      go_roundw
      case rel => exact ⟨j + 1, by omega, by go_num, R.out, HB6.out⟩
      case measure => simp [intOf]; omega

end Go.Proofs.Ythplhjdfajhmpaa
