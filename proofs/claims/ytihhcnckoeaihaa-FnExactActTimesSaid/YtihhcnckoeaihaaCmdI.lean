/-
  impl's operations (interface values of four types), the commands that they give back, and well-formed commands.
-/
import Derived.Test.YtihhcnckoeaihaaGeoI
import Derived.Test.YtihhcnckoeaihaaFloat
import Derived.Test.YtihhcnckoeaihaaCmdM
import Derived.Laws.StructEq
namespace Go.Proofs.Ytihhcnckoeaihaa
open Go.RowKit

set_option linter.unusedVariables false

/-- The operation of a command, as an interface value. -/
def opV (k b r c : Int) : Value :=
  if k = 1 then .iface 114 (.agg #[.int .i64 k, .int .i64 b, .int .i64 r])
  else if k = 2 ∨ k = 3 then .iface 116 (.agg #[.int .i64 k, .int .i64 b, .int .i64 c])
  else if k = 4 ∨ k = 5 then .iface 118 (.agg #[.int .i64 k, .int .i64 b])
  else if 6 ≤ k ∧ k ≤ 9 then .iface 120 (.agg #[.int .i64 k])
  else .nilIface

set_option maxHeartbeats 2000000 in
theorem implOpOf_is (k b r c : Int) (v : Value) (hv : opV k b r c = v) (w : World) :
    Calls Try.prog 77 #[.agg #[.int .i64 k, .int .i64 b, .int .i64 r, .int .i64 c]] w (Gives v w) := by
  obtain ⟨w1, hw1⟩ : ∃ u, w.alloc (.cells #[.int .i64 k, .int .i64 b, .int .i64 r, .int .i64 c] 56) = u := ⟨_, rfl⟩
  have HB1 : Hid (Below w.heap.size w w1) := by subst hw1; exact (Below.refl _ _).alloc (Nat.le_refl _) _
  have p1 : w1.heap[w.heap.size]? = some (.cells #[.int .i64 k, .int .i64 b, .int .i64 r, .int .i64 c] 56) := by subst hw1; exact heap_alloc_new _ _
  obtain ⟨c0, c1, c2, c3⟩ := cells4 p1
  clear p1
  rcases (show k = 1 ∨ k = 2 ∨ k = 3 ∨ k = 4 ∨ k = 5 ∨ k = 6 ∨ k = 7 ∨ k = 8 ∨ k = 9 ∨ ¬ (1 ≤ k ∧ k ≤ 9) by omega) with hk | hk | hk | hk | hk | hk | hk | hk | hk | hk
  · subst hk
    have HE : Hid (v = .iface 114 (.agg #[.int .i64 1, .int .i64 b, .int .i64 r])) := by show _ = _; rw [← hv]; simp [opV]
    clear hv
    go_enter Try.func77, Try.ntmps77
    go_wp2
    go_ret
    exact ⟨congrArg Ending.returned HE.out.symm, HB1.out⟩
  · subst hk
    have HE : Hid (v = .iface 116 (.agg #[.int .i64 2, .int .i64 b, .int .i64 c])) := by show _ = _; rw [← hv]; simp [opV]
    clear hv
    go_enter Try.func77, Try.ntmps77
    go_wp2
    go_ret
    exact ⟨congrArg Ending.returned HE.out.symm, HB1.out⟩
  · subst hk
    have HE : Hid (v = .iface 116 (.agg #[.int .i64 3, .int .i64 b, .int .i64 c])) := by show _ = _; rw [← hv]; simp [opV]
    clear hv
    go_enter Try.func77, Try.ntmps77
    go_wp2
    go_ret
    exact ⟨congrArg Ending.returned HE.out.symm, HB1.out⟩
  · subst hk
    have HE : Hid (v = .iface 118 (.agg #[.int .i64 4, .int .i64 b])) := by show _ = _; rw [← hv]; simp [opV]
    clear hv
    go_enter Try.func77, Try.ntmps77
    go_wp2
    go_ret
    exact ⟨congrArg Ending.returned HE.out.symm, HB1.out⟩
  · subst hk
    have HE : Hid (v = .iface 118 (.agg #[.int .i64 5, .int .i64 b])) := by show _ = _; rw [← hv]; simp [opV]
    clear hv
    go_enter Try.func77, Try.ntmps77
    go_wp2
    go_ret
    exact ⟨congrArg Ending.returned HE.out.symm, HB1.out⟩
  · subst hk
    have HE : Hid (v = .iface 120 (.agg #[.int .i64 6])) := by show _ = _; rw [← hv]; simp [opV]
    clear hv
    go_enter Try.func77, Try.ntmps77
    go_wp2
    go_ret
    exact ⟨congrArg Ending.returned HE.out.symm, HB1.out⟩
  · subst hk
    have HE : Hid (v = .iface 120 (.agg #[.int .i64 7])) := by show _ = _; rw [← hv]; simp [opV]
    clear hv
    go_enter Try.func77, Try.ntmps77
    go_wp2
    go_ret
    exact ⟨congrArg Ending.returned HE.out.symm, HB1.out⟩
  · subst hk
    have HE : Hid (v = .iface 120 (.agg #[.int .i64 8])) := by show _ = _; rw [← hv]; simp [opV]
    clear hv
    go_enter Try.func77, Try.ntmps77
    go_wp2
    go_ret
    exact ⟨congrArg Ending.returned HE.out.symm, HB1.out⟩
  · subst hk
    have HE : Hid (v = .iface 120 (.agg #[.int .i64 9])) := by show _ = _; rw [← hv]; simp [opV]
    clear hv
    go_enter Try.func77, Try.ntmps77
    go_wp2
    go_ret
    exact ⟨congrArg Ending.returned HE.out.symm, HB1.out⟩
  · have HE : Hid (v = .nilIface) := by show _ = _; rw [← hv]; simp only [opV]; rw [if_neg (by omega), if_neg (by omega), if_neg (by omega), if_neg (by omega)]
    have t1 : ((k : Int) == 1) = false := by simp only [beq_eq_false_iff_ne]; omega
    have t2 : ((k : Int) == 2) = false := by simp only [beq_eq_false_iff_ne]; omega
    have t3 : ((k : Int) == 3) = false := by simp only [beq_eq_false_iff_ne]; omega
    have t4 : ((k : Int) == 4) = false := by simp only [beq_eq_false_iff_ne]; omega
    have t5 : ((k : Int) == 5) = false := by simp only [beq_eq_false_iff_ne]; omega
    have t6 : ((k : Int) == 6) = false := by simp only [beq_eq_false_iff_ne]; omega
    have t7 : ((k : Int) == 7) = false := by simp only [beq_eq_false_iff_ne]; omega
    have t8 : ((k : Int) == 8) = false := by simp only [beq_eq_false_iff_ne]; omega
    have t9 : ((k : Int) == 9) = false := by simp only [beq_eq_false_iff_ne]; omega
    clear hv hk
    go_enter Try.func77, Try.ntmps77
    go_wp2
    go_ret
    exact ⟨congrArg Ending.returned HE.out.symm, HB1.out⟩

theorem implPlace_is (k b r c : Int) (w : World) :
    Calls Try.prog 69 #[.agg #[.int .i64 k, .int .i64 b, .int .i64 r, .int .i64 c]] w (Gives (.agg #[.int .i64 b, .int .i64 r, .int .i64 c]) w) := by
  go_enter Try.func69, Try.ntmps69
  go_wp2
  (try simp only [Exit.inBlock, Exit.then])
  refine bodyPost_ret (v := .agg #[.int .i64 b, .int .i64 r, .int .i64 c]) ?_ rfl ⟨rfl, ?_⟩
  · rw [results_cell1 rfl]
    go_simp
  · repeat' (first | exact Below.refl _ _ | refine Below.drew ?_ | refine Below.alloc ?_ (by simp <;> omega) _ | refine Below.setCell ?_ (by simp <;> omega) _)

theorem implRowCmd_is (k b r c : Int) (w : World) :
    Calls Try.prog 130 #[.agg #[.int .i64 k, .int .i64 b, .int .i64 r]] w (Gives (.agg #[.int .i64 k, .int .i64 b, .int .i64 r, .int .i64 0]) w) := by
  go_enter Try.func130, Try.ntmps130
  go_wp2
  (try simp only [Exit.inBlock, Exit.then])
  refine bodyPost_ret (v := .agg #[.int .i64 k, .int .i64 b, .int .i64 r, .int .i64 0]) ?_ rfl ⟨rfl, ?_⟩
  · rw [results_cell1 rfl]
    go_simp
  · repeat' (first | exact Below.refl _ _ | refine Below.drew ?_ | refine Below.alloc ?_ (by simp <;> omega) _ | refine Below.setCell ?_ (by simp <;> omega) _)

theorem implColCmd_is (k b r c : Int) (w : World) :
    Calls Try.prog 131 #[.agg #[.int .i64 k, .int .i64 b, .int .i64 c]] w (Gives (.agg #[.int .i64 k, .int .i64 b, .int .i64 0, .int .i64 c]) w) := by
  go_enter Try.func131, Try.ntmps131
  go_wp2
  (try simp only [Exit.inBlock, Exit.then])
  refine bodyPost_ret (v := .agg #[.int .i64 k, .int .i64 b, .int .i64 0, .int .i64 c]) ?_ rfl ⟨rfl, ?_⟩
  · rw [results_cell1 rfl]
    go_simp
  · repeat' (first | exact Below.refl _ _ | refine Below.drew ?_ | refine Below.alloc ?_ (by simp <;> omega) _ | refine Below.setCell ?_ (by simp <;> omega) _)

theorem implBankCmd_is (k b r c : Int) (w : World) :
    Calls Try.prog 132 #[.agg #[.int .i64 k, .int .i64 b]] w (Gives (.agg #[.int .i64 k, .int .i64 b, .int .i64 0, .int .i64 0]) w) := by
  go_enter Try.func132, Try.ntmps132
  go_wp2
  (try simp only [Exit.inBlock, Exit.then])
  refine bodyPost_ret (v := .agg #[.int .i64 k, .int .i64 b, .int .i64 0, .int .i64 0]) ?_ rfl ⟨rfl, ?_⟩
  · rw [results_cell1 rfl]
    go_simp
  · repeat' (first | exact Below.refl _ _ | refine Below.drew ?_ | refine Below.alloc ?_ (by simp <;> omega) _ | refine Below.setCell ?_ (by simp <;> omega) _)

theorem implRankCmd_is (k b r c : Int) (w : World) :
    Calls Try.prog 133 #[.agg #[.int .i64 k]] w (Gives (.agg #[.int .i64 k, .int .i64 0, .int .i64 0, .int .i64 0]) w) := by
  go_enter Try.func133, Try.ntmps133
  go_wp2
  (try simp only [Exit.inBlock, Exit.then])
  refine bodyPost_ret (v := .agg #[.int .i64 k, .int .i64 0, .int .i64 0, .int .i64 0]) ?_ rfl ⟨rfl, ?_⟩
  · rw [results_cell1 rfl]
    go_simp
  · repeat' (first | exact Below.refl _ _ | refine Below.drew ?_ | refine Below.alloc ?_ (by simp <;> omega) _ | refine Below.setCell ?_ (by simp <;> omega) _)

end Go.Proofs.Ytihhcnckoeaihaa
