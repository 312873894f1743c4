/-
  impl's tables of rules are built so.
-/
import Derived.Test.YtihhcnckoeaihaaTimT
import Derived.LoopN
import Derived.Deep.WholeRow
namespace Go.Proofs.Ytihhcnckoeaihaa
open Go.RowKit

set_option linter.unusedVariables false

def nils : Array Value := #[.nilFunc, .nilFunc, .nilFunc, .nilFunc, .nilFunc, .nilFunc, .nilFunc, .nilFunc, .nilFunc, .nilFunc, .nilFunc, .nilFunc, .nilFunc, .nilFunc, .nilFunc, .nilFunc, .nilFunc, .nilFunc, .nilFunc, .nilFunc, .nilFunc, .nilFunc, .nilFunc, .nilFunc, .nilFunc, .nilFunc, .nilFunc, .nilFunc, .nilFunc, .nilFunc, .nilFunc, .nilFunc, .nilFunc, .nilFunc, .nilFunc, .nilFunc, .nilFunc, .nilFunc, .nilFunc, .nilFunc, .nilFunc, .nilFunc, .nilFunc, .nilFunc, .nilFunc, .nilFunc, .nilFunc, .nilFunc, .nilFunc, .nilFunc, .nilFunc, .nilFunc, .nilFunc, .nilFunc, .nilFunc, .nilFunc, .nilFunc, .nilFunc, .nilFunc, .nilFunc, .nilFunc, .nilFunc, .nilFunc, .nilFunc, .nilFunc, .nilFunc, .nilFunc, .nilFunc, .nilFunc, .nilFunc, .nilFunc, .nilFunc, .nilFunc, .nilFunc, .nilFunc, .nilFunc, .nilFunc, .nilFunc, .nilFunc, .nilFunc, .nilFunc, .nilFunc, .nilFunc, .nilFunc, .nilFunc, .nilFunc, .nilFunc, .nilFunc, .nilFunc, .nilFunc, .nilFunc, .nilFunc, .nilFunc, .nilFunc, .nilFunc, .nilFunc, .nilFunc, .nilFunc, .nilFunc, .nilFunc]

set_option maxHeartbeats 4000000 in
theorem implBankT_is (w : World) : Calls Try.prog 92 #[] w (Gives (.agg bankCells) w) := by
  have hn := heap_alloc_new w (.cells nils 128)
  go_enter Try.func92, Try.ntmps92
  go_wp2_with (first | ((with_reducible refine build_list 1 bankRow1 ?_ ?_); kernel_rfl; go_simp) | ((with_reducible refine build_list 2 bankRow2 ?_ ?_); kernel_rfl; go_simp) | ((with_reducible refine build_list 3 bankRow3 ?_ ?_); kernel_rfl; go_simp) | ((with_reducible refine build_list 4 bankRow4 ?_ ?_); kernel_rfl; go_simp) | ((with_reducible refine build_list 5 bankRow5 ?_ ?_); kernel_rfl; go_simp) | ((with_reducible refine build_list 6 bankCells ?_ ?_); kernel_rfl; go_simp) | ((with_reducible refine store_list (cells := bankCells) hn ?_ ?_ ?_ ?_ ?_ ?_); kernel_rfl; kernel_rfl; kernel_rfl; kernel_rfl; kernel_rfl))
  have hr := setRow_same _ _ bankCells _ _ hn
  refine bodyPost_ret (v := .agg bankCells) (results_cell_row rfl _ _ w.heap.size 128 bankCells (0, 0) _ rfl hr Try.underlying128 rfl (by kernel_rfl)) rfl ⟨rfl, ?_⟩
  exact below_setRow ((Below.refl _ _).alloc (Nat.le_refl _) _) (Nat.le_refl _) _

set_option maxHeartbeats 4000000 in
theorem implEvery_is (n : Nat) (w : World) : Calls Try.prog 110 #[.func (.func n) #[] #[]] w (Gives (.agg #[.nilFunc, .func (.func n) #[] #[], .func (.func n) #[] #[], .func (.func n) #[] #[], .func (.func n) #[] #[], .func (.func n) #[] #[], .func (.func n) #[] #[], .func (.func n) #[] #[], .func (.func n) #[] #[], .func (.func n) #[] #[]]) w) := by
  go_enter Try.func110, Try.ntmps110
  go_wp2_with fail
  refine wp_loop_rounds 10 ?_
  rw [rounds_succ]
  go_wp2
  (try simp only [Exit.then])
  rw [rounds_succ]
  go_wp2
  (try simp only [Exit.then])
  rw [rounds_succ]
  go_wp2
  (try simp only [Exit.then])
  rw [rounds_succ]
  go_wp2
  (try simp only [Exit.then])
  rw [rounds_succ]
  go_wp2
  (try simp only [Exit.then])
  rw [rounds_succ]
  go_wp2
  (try simp only [Exit.then])
  rw [rounds_succ]
  go_wp2
  (try simp only [Exit.then])
  rw [rounds_succ]
  go_wp2
  (try simp only [Exit.then])
  rw [rounds_succ]
  go_wp2
  (try simp only [Exit.then])
  rw [rounds_succ]
  go_wp2
  refine bodyPost_ret (v := .agg #[.nilFunc, .func (.func n) #[] #[], .func (.func n) #[] #[], .func (.func n) #[] #[], .func (.func n) #[] #[], .func (.func n) #[] #[], .func (.func n) #[] #[], .func (.func n) #[] #[], .func (.func n) #[] #[], .func (.func n) #[] #[]]) (results_cell_row rfl _ _ w.heap.size 126 #[.nilFunc, .func (.func n) #[] #[], .func (.func n) #[] #[], .func (.func n) #[] #[], .func (.func n) #[] #[], .func (.func n) #[] #[], .func (.func n) #[] #[], .func (.func n) #[] #[], .func (.func n) #[] #[], .func (.func n) #[] #[]] (0, 0) _ rfl (heap_alloc2_old _ _ _) Try.underlying126 rfl (by kernel_rfl)) rfl ⟨rfl, ?_⟩
  exact ((Below.refl _ _).alloc (by simp) _).alloc (by simp) _

set_option maxHeartbeats 4000000 in
theorem implRankT_is (w : World) : Calls Try.prog 89 #[.bool true] w (Gives (.agg rankTCells) w) := by
  obtain ⟨w1, hw1⟩ : ∃ u, w.alloc (.cells Try.zeroCells128 128) = u := ⟨_, rfl⟩
  have HB1 : Hid (Below w.heap.size w w1) := by subst hw1; exact (Below.refl _ _).alloc (Nat.le_refl _) _
  have p1 : w1.heap[w.heap.size]? = some (.cells Try.zeroCells128 128) := by subst hw1; exact heap_alloc_new _ _
  go_enter Try.func89, Try.ntmps89
  go_wp2_with (first | ((with_reducible refine build_list 8 rankTRow1 ?_ ?_); kernel_rfl; go_simp) | ((with_reducible refine build_list 10 rankTRow2 ?_ ?_); kernel_rfl; go_simp) | ((with_reducible refine build_list 13 rankTRow3 ?_ ?_); kernel_rfl; go_simp) | ((with_reducible refine build_list 14 rankTRow4 ?_ ?_); kernel_rfl; go_simp) | ((with_reducible refine build_list 15 rankTRow5 ?_ ?_); kernel_rfl; go_simp) | ((with_reducible refine build_list 16 rankTRow6 ?_ ?_); kernel_rfl; go_simp) | ((with_reducible refine build_list 17 rankTRow8 ?_ ?_); kernel_rfl; go_simp))
  refine (implEvery_is _ _).mono ?_
  rintro e w2 ⟨rfl, hb2⟩
  have p2 := keep_block hb2 p1 (lt_of_block p1)
  have HB2 : Hid (Below w.heap.size w w2) := HB1.out.trans (hb2.mono HB1.out.size)
  clear hb2 p1 HB1 hw1
  go_wp2_with fail
  refine (implEvery_is _ _).mono ?_
  rintro e w3 ⟨rfl, hb3⟩
  have p3 := keep_block hb3 p2 (lt_of_block p2)
  have HB3 : Hid (Below w.heap.size w w3) := HB2.out.trans (hb3.mono HB2.out.size)
  clear hb3 p2 HB2
  go_wp2_with (first | ((with_reducible refine build_list 20 rankTCells ?_ ?_); kernel_rfl; go_simp) | ((with_reducible refine store_list (cells := rankTCells) p3 ?_ ?_ ?_ ?_ ?_ ?_); kernel_rfl; kernel_rfl; kernel_rfl; kernel_rfl; kernel_rfl))
  have hr := setRow_same _ _ rankTCells _ _ p3
  refine bodyPost_ret (v := .agg rankTCells) (results_cell_row rfl _ _ w.heap.size 128 rankTCells (0, 0) _ rfl hr Try.underlying128 rfl (by kernel_rfl)) rfl ⟨rfl, ?_⟩
  exact below_setRow HB3.out (Nat.le_refl _) _

set_option maxHeartbeats 4000000 in
theorem implRankF_is (w : World) : Calls Try.prog 89 #[.bool false] w (Gives (.agg rankFCells) w) := by
  obtain ⟨w1, hw1⟩ : ∃ u, w.alloc (.cells Try.zeroCells128 128) = u := ⟨_, rfl⟩
  have HB1 : Hid (Below w.heap.size w w1) := by subst hw1; exact (Below.refl _ _).alloc (Nat.le_refl _) _
  have p1 : w1.heap[w.heap.size]? = some (.cells Try.zeroCells128 128) := by subst hw1; exact heap_alloc_new _ _
  go_enter Try.func89, Try.ntmps89
  go_wp2_with (first | ((with_reducible refine build_list 8 rankFRow1 ?_ ?_); kernel_rfl; go_simp) | ((with_reducible refine build_list 10 rankFRow2 ?_ ?_); kernel_rfl; go_simp) | ((with_reducible refine build_list 13 rankFRow3 ?_ ?_); kernel_rfl; go_simp) | ((with_reducible refine build_list 14 rankFRow4 ?_ ?_); kernel_rfl; go_simp) | ((with_reducible refine build_list 15 rankFRow5 ?_ ?_); kernel_rfl; go_simp) | ((with_reducible refine build_list 16 rankFRow6 ?_ ?_); kernel_rfl; go_simp) | ((with_reducible refine build_list 17 rankFRow8 ?_ ?_); kernel_rfl; go_simp))
  refine (implEvery_is _ _).mono ?_
  rintro e w2 ⟨rfl, hb2⟩
  have p2 := keep_block hb2 p1 (lt_of_block p1)
  have HB2 : Hid (Below w.heap.size w w2) := HB1.out.trans (hb2.mono HB1.out.size)
  clear hb2 p1 HB1 hw1
  go_wp2_with fail
  refine (implEvery_is _ _).mono ?_
  rintro e w3 ⟨rfl, hb3⟩
  have p3 := keep_block hb3 p2 (lt_of_block p2)
  have HB3 : Hid (Below w.heap.size w w3) := HB2.out.trans (hb3.mono HB2.out.size)
  clear hb3 p2 HB2
  go_wp2_with (first | ((with_reducible refine build_list 20 rankFCells ?_ ?_); kernel_rfl; go_simp) | ((with_reducible refine store_list (cells := rankFCells) p3 ?_ ?_ ?_ ?_ ?_ ?_); kernel_rfl; kernel_rfl; kernel_rfl; kernel_rfl; kernel_rfl))
  have hr := setRow_same _ _ rankFCells _ _ p3
  refine bodyPost_ret (v := .agg rankFCells) (results_cell_row rfl _ _ w.heap.size 128 rankFCells (0, 0) _ rfl hr Try.underlying128 rfl (by kernel_rfl)) rfl ⟨rfl, ?_⟩
  exact below_setRow HB3.out (Nat.le_refl _) _

end Go.Proofs.Ytihhcnckoeaihaa
