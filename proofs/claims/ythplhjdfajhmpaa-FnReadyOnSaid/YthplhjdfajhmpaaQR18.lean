/-
  Texts of one proof, merged: CmdI, CmdJ, CmdK.
-/
import Derived.Test.YthplhjdfajhmpaaQR2
import Derived.Test.YthplhjdfajhmpaaQR9
import Derived.Test.YthplhjdfajhmpaaQR10
import Derived.Test.YthplhjdfajhmpaaQR11
import Derived.Laws.StructEq
namespace Go.Proofs.Ythplhjdfajhmpaa
open Go.RowKit

set_option linter.unusedVariables false

/-- The operation of a command, as an interface value. -/
def opV (k b r c : Int) : Value :=
  if k = 1 then .iface 166 (.agg #[.int .i64 k, .int .i64 b, .int .i64 r])
  else if k = 2 ∨ k = 3 then .iface 168 (.agg #[.int .i64 k, .int .i64 b, .int .i64 c])
  else if k = 4 ∨ k = 5 then .iface 170 (.agg #[.int .i64 k, .int .i64 b])
  else if 6 ≤ k ∧ k ≤ 9 then .iface 172 (.agg #[.int .i64 k])
  else .nilIface

set_option maxHeartbeats 2000000 in
theorem implOpOf_is (k b r c : Int) (v : Value) (hv : opV k b r c = v) (w : World) :
    Calls Try.prog 117 #[.agg #[.int .i64 k, .int .i64 b, .int .i64 r, .int .i64 c]] w (Gives v w) := by
  obtain ⟨w1, hw1⟩ : ∃ u, w.alloc (.cells #[.int .i64 k, .int .i64 b, .int .i64 r, .int .i64 c] 39) = u := ⟨_, rfl⟩
  have HB1 : Hid (Below w.heap.size w w1) := by subst hw1; exact (Below.refl _ _).alloc (Nat.le_refl _) _
  have p1 : w1.heap[w.heap.size]? = some (.cells #[.int .i64 k, .int .i64 b, .int .i64 r, .int .i64 c] 39) := by subst hw1; exact heap_alloc_new _ _
  obtain ⟨c0, c1, c2, c3⟩ := cells4 p1
  clear p1
  rcases (show k = 1 ∨ k = 2 ∨ k = 3 ∨ k = 4 ∨ k = 5 ∨ k = 6 ∨ k = 7 ∨ k = 8 ∨ k = 9 ∨ ¬ (1 ≤ k ∧ k ≤ 9) by omega) with hk | hk | hk | hk | hk | hk | hk | hk | hk | hk
  · subst hk
    have HE : Hid (v = .iface 166 (.agg #[.int .i64 1, .int .i64 b, .int .i64 r])) := by show _ = _; rw [← hv]; simp [opV]
    clear hv
    go_enter Try.func117, Try.ntmps117
    go_wp2
    go_ret
    exact ⟨congrArg Ending.returned HE.out.symm, HB1.out⟩
  · subst hk
    have HE : Hid (v = .iface 168 (.agg #[.int .i64 2, .int .i64 b, .int .i64 c])) := by show _ = _; rw [← hv]; simp [opV]
    clear hv
    go_enter Try.func117, Try.ntmps117
    go_wp2
    go_ret
    exact ⟨congrArg Ending.returned HE.out.symm, HB1.out⟩
  · subst hk
    have HE : Hid (v = .iface 168 (.agg #[.int .i64 3, .int .i64 b, .int .i64 c])) := by show _ = _; rw [← hv]; simp [opV]
    clear hv
    go_enter Try.func117, Try.ntmps117
    go_wp2
    go_ret
    exact ⟨congrArg Ending.returned HE.out.symm, HB1.out⟩
  · subst hk
    have HE : Hid (v = .iface 170 (.agg #[.int .i64 4, .int .i64 b])) := by show _ = _; rw [← hv]; simp [opV]
    clear hv
    go_enter Try.func117, Try.ntmps117
    go_wp2
    go_ret
    exact ⟨congrArg Ending.returned HE.out.symm, HB1.out⟩
  · subst hk
    have HE : Hid (v = .iface 170 (.agg #[.int .i64 5, .int .i64 b])) := by show _ = _; rw [← hv]; simp [opV]
    clear hv
    go_enter Try.func117, Try.ntmps117
    go_wp2
    go_ret
    exact ⟨congrArg Ending.returned HE.out.symm, HB1.out⟩
  · subst hk
    have HE : Hid (v = .iface 172 (.agg #[.int .i64 6])) := by show _ = _; rw [← hv]; simp [opV]
    clear hv
    go_enter Try.func117, Try.ntmps117
    go_wp2
    go_ret
    exact ⟨congrArg Ending.returned HE.out.symm, HB1.out⟩
  · subst hk
    have HE : Hid (v = .iface 172 (.agg #[.int .i64 7])) := by show _ = _; rw [← hv]; simp [opV]
    clear hv
    go_enter Try.func117, Try.ntmps117
    go_wp2
    go_ret
    exact ⟨congrArg Ending.returned HE.out.symm, HB1.out⟩
  · subst hk
    have HE : Hid (v = .iface 172 (.agg #[.int .i64 8])) := by show _ = _; rw [← hv]; simp [opV]
    clear hv
    go_enter Try.func117, Try.ntmps117
    go_wp2
    go_ret
    exact ⟨congrArg Ending.returned HE.out.symm, HB1.out⟩
  · subst hk
    have HE : Hid (v = .iface 172 (.agg #[.int .i64 9])) := by show _ = _; rw [← hv]; simp [opV]
    clear hv
    go_enter Try.func117, Try.ntmps117
    go_wp2
    go_ret
    exact ⟨congrArg Ending.returned HE.out.symm, HB1.out⟩
  · have HE : Hid (v = .nilIface) := by show _ = _; rw [← hv]; simp only [opV]; rw [if_neg (by omega), if_neg (by omega), if_neg (by omega), if_neg (by omega)]
    have t1 : ((k : Int) == 1) = false := by simp only [beq_eq_false_iff_ne]; omega
    have t2 : ((k : Int) == 2) = false := by simp only [beq_eq_false_iff_ne]; omega
    have t3 : ((k : Int) == 3) = false := by simp only [beq_eq_false_iff_ne]; omega
    have t4 : ((k : Int) == 4) = false := by simp only [beq_eq_false_iff_ne]; omega
    have t5 : ((k : Int) == 5) = false := by simp only [beq_eq_false_iff_ne]; omega
    have t6 : ((k : Int) == 6) = false := by simp only [beq_eq_false_iff_ne]; omega
    have t7 : ((k : Int) == 7) = false := by simp only [beq_eq_false_iff_ne]; omega
    have t8 : ((k : Int) == 8) = false := by simp only [beq_eq_false_iff_ne]; omega
    have t9 : ((k : Int) == 9) = false := by simp only [beq_eq_false_iff_ne]; omega
    clear hv hk
    go_enter Try.func117, Try.ntmps117
    go_wp2
    go_ret
    exact ⟨congrArg Ending.returned HE.out.symm, HB1.out⟩

theorem implPlace_is (k b r c : Int) (w : World) :
    Calls Try.prog 101 #[.agg #[.int .i64 k, .int .i64 b, .int .i64 r, .int .i64 c]] w (Gives (.agg #[.int .i64 b, .int .i64 r, .int .i64 c]) w) := by
  go_enter Try.func101, Try.ntmps101
  go_wp2
  (try simp only [Exit.inBlock, Exit.then])
  refine bodyPost_ret (v := .agg #[.int .i64 b, .int .i64 r, .int .i64 c]) ?_ rfl ⟨rfl, ?_⟩
  · rw [results_cell1 rfl]
    go_simp
  · repeat' (first | exact Below.refl _ _ | refine Below.drew ?_ | refine Below.alloc ?_ (by simp <;> omega) _ | refine Below.setCell ?_ (by simp <;> omega) _)

theorem implRowCmd_is (k b r c : Int) (w : World) :
    Calls Try.prog 177 #[.agg #[.int .i64 k, .int .i64 b, .int .i64 r]] w (Gives (.agg #[.int .i64 k, .int .i64 b, .int .i64 r, .int .i64 0]) w) := by
  go_enter Try.func177, Try.ntmps177
  go_wp2
  (try simp only [Exit.inBlock, Exit.then])
  refine bodyPost_ret (v := .agg #[.int .i64 k, .int .i64 b, .int .i64 r, .int .i64 0]) ?_ rfl ⟨rfl, ?_⟩
  · rw [results_cell1 rfl]
    go_simp
  · repeat' (first | exact Below.refl _ _ | refine Below.drew ?_ | refine Below.alloc ?_ (by simp <;> omega) _ | refine Below.setCell ?_ (by simp <;> omega) _)

theorem implColCmd_is (k b r c : Int) (w : World) :
    Calls Try.prog 178 #[.agg #[.int .i64 k, .int .i64 b, .int .i64 c]] w (Gives (.agg #[.int .i64 k, .int .i64 b, .int .i64 0, .int .i64 c]) w) := by
  go_enter Try.func178, Try.ntmps178
  go_wp2
  (try simp only [Exit.inBlock, Exit.then])
  refine bodyPost_ret (v := .agg #[.int .i64 k, .int .i64 b, .int .i64 0, .int .i64 c]) ?_ rfl ⟨rfl, ?_⟩
  · rw [results_cell1 rfl]
    go_simp
  · repeat' (first | exact Below.refl _ _ | refine Below.drew ?_ | refine Below.alloc ?_ (by simp <;> omega) _ | refine Below.setCell ?_ (by simp <;> omega) _)

theorem implBankCmd_is (k b r c : Int) (w : World) :
    Calls Try.prog 179 #[.agg #[.int .i64 k, .int .i64 b]] w (Gives (.agg #[.int .i64 k, .int .i64 b, .int .i64 0, .int .i64 0]) w) := by
  go_enter Try.func179, Try.ntmps179
  go_wp2
  (try simp only [Exit.inBlock, Exit.then])
  refine bodyPost_ret (v := .agg #[.int .i64 k, .int .i64 b, .int .i64 0, .int .i64 0]) ?_ rfl ⟨rfl, ?_⟩
  · rw [results_cell1 rfl]
    go_simp
  · repeat' (first | exact Below.refl _ _ | refine Below.drew ?_ | refine Below.alloc ?_ (by simp <;> omega) _ | refine Below.setCell ?_ (by simp <;> omega) _)

theorem implRankCmd_is (k b r c : Int) (w : World) :
    Calls Try.prog 180 #[.agg #[.int .i64 k]] w (Gives (.agg #[.int .i64 k, .int .i64 0, .int .i64 0, .int .i64 0]) w) := by
  go_enter Try.func180, Try.ntmps180
  go_wp2
  (try simp only [Exit.inBlock, Exit.then])
  refine bodyPost_ret (v := .agg #[.int .i64 k, .int .i64 0, .int .i64 0, .int .i64 0]) ?_ rfl ⟨rfl, ?_⟩
  · rw [results_cell1 rfl]
    go_simp
  · repeat' (first | exact Below.refl _ _ | refine Below.drew ?_ | refine Below.alloc ?_ (by simp <;> omega) _ | refine Below.setCell ?_ (by simp <;> omega) _)

end Go.Proofs.Ythplhjdfajhmpaa

namespace Go.Proofs.Ythplhjdfajhmpaa
open Go.RowKit

set_option linter.unusedVariables false

theorem largest_is (b r c : Int) : AdOk 2 4 16 8 b r c ↔ (0 ≤ b ∧ b ≤ 7) ∧ (0 ≤ r ∧ r ≤ 15) ∧ (0 ≤ c ∧ c ≤ 7) := by
  unfold AdOk
  have h : bankN 2 4 16 8 = 8 := by decide
  rw [h]
  omega

theorem row_nil (k b r c : Int) (n : Nat) (w : World) : (nilAhead (n + 1) 166 (.agg #[.int .i64 k, .int .i64 b, .int .i64 r]) "loop.example/g00977/impl.command").run Try.prog w = .ok (some false) w := by kernel_rfl

theorem row_meth (k b r c : Int) (n : Nat) (w : World) : (method (n + 1) 166 (.agg #[.int .i64 k, .int .i64 b, .int .i64 r]) "loop.example/g00977/impl.command").run Try.prog w = .ok (177, .agg #[.int .i64 k, .int .i64 b, .int .i64 r]) w := by kernel_rfl

set_option maxHeartbeats 4000000 in
theorem wellRow_is (k b r c : Int) (hk : k = 1) (v : Bool) (hv : decide (CmOk k b r c) = v) (w : World) :
    Calls Try.prog 99 #[.agg #[.int .i64 k, .int .i64 b, .int .i64 r, .int .i64 c]] w (Gives (.bool v) w) := by
  obtain ⟨w1, hw1⟩ : ∃ u, (w.alloc (.cells #[.int .i64 k, .int .i64 b, .int .i64 r, .int .i64 c] 39)).alloc (.cells #[.int .i64 2, .int .i64 4, .int .i64 16, .int .i64 8] 25) = u := ⟨_, rfl⟩
  have HB1 : Hid (Below w.heap.size w w1) := by subst hw1; exact ((Below.refl _ _).alloc (Nat.le_refl _) _).alloc (by simp) _
  have p1 : Hid (w1.heap[w.heap.size]? = some (.cells #[.int .i64 k, .int .i64 b, .int .i64 r, .int .i64 c] 39)) := by subst hw1; exact heap_alloc2_old _ _ _
  have g1 : Hid (w1.heap[w.heap.size + 1]? = some (.cells #[.int .i64 2, .int .i64 4, .int .i64 16, .int .i64 8] 25)) := by subst hw1; exact heap_alloc2_new _ _ _
  obtain ⟨c0, c1, c2, c3⟩ := cells4 p1.out
  have OV : Hid (opV k b r c = .iface 166 (.agg #[.int .i64 k, .int .i64 b, .int .i64 r])) := by
    show _ = _
    simp only [opV]
    rw [if_pos hk]
  obtain ⟨ad, had⟩ : ∃ u, decide (AdOk 2 4 16 8 b r c) = u := ⟨_, rfl⟩
  have AD := Lib.hid had
  have HE : Hid (v = (((0 : Int) == c) && ad)) := by
    show _ = _
    rw [← hv, ← had, Bool.eq_iff_iff]
    simp only [Bool.and_eq_true, decide_eq_true_eq, beq_iff_eq, largest_is]
    unfold CmOk
    omega
  have NA := row_nil k b r c
  have ME := row_meth k b r c
  clear hv hk had
  obtain ⟨p0, hp0⟩ : ∃ p, ((0 : Int) == c) = p := ⟨_, rfl⟩
  rw [hp0] at HE
  cases p0
  case false =>
    rw [Bool.false_and] at HE
    go_enter Try.func99, Try.ntmps99
    go_wp2_with fail
    refine (implOpOf_is _ _ _ _ _ OV.out _).mono ?_
    rintro e w2 ⟨rfl, hb2⟩
    have g2 := keep_block hb2 g1.out (lt_of_block g1.out)
    have p2 := keep_block hb2 p1.out (lt_of_block p1.out)
    have HB2 : Hid (Below w.heap.size w w2) := HB1.out.trans (hb2.mono HB1.out.size)
    clear hb2 hw1 g1 p1 HB1 c0 c1 c2 c3
    obtain ⟨a0, a1, a2, a3⟩ := cells4 g2
    obtain ⟨c0, c1, c2, c3⟩ := cells4 p2
    have za0 := fun zz : Later w2 => zz.cell a0
    have za1 := fun zz : Later w2 => zz.cell a1
    have za2 := fun zz : Later w2 => zz.cell a2
    have za3 := fun zz : Later w2 => zz.cell a3
    have zc0 := fun zz : Later w2 => zz.cell c0
    have zc1 := fun zz : Later w2 => zz.cell c1
    have zc2 := fun zz : Later w2 => zz.cell c2
    have zc3 := fun zz : Later w2 => zz.cell c3
    clear g2 p2 a0 a1 a2 a3 c0 c1 c2 c3
    go_wp2_with fail
    refine wp_region_later (by kernel_rfl) (by kernel_rfl) ?_
    repeat (go_big_quiet_step (first | (go_at_call 177; exact Gives.later _ (implRowCmd_is k b r c _))))
    refine wpQuiet_nil ?_
    rintro w3 ⟨zz, rfl⟩
    go_wp2
    go_ret
    exact ⟨ret_b HE.out.symm, HB2.out.trans (zz.ok.mono HB2.out.size)⟩
  rw [Bool.true_and] at HE
  go_enter Try.func99, Try.ntmps99
  go_wp2_with fail
  refine (implOpOf_is _ _ _ _ _ OV.out _).mono ?_
  rintro e w2 ⟨rfl, hb2⟩
  have g2 := keep_block hb2 g1.out (lt_of_block g1.out)
  have p2 := keep_block hb2 p1.out (lt_of_block p1.out)
  have HB2 : Hid (Below w.heap.size w w2) := HB1.out.trans (hb2.mono HB1.out.size)
  clear hb2 hw1 g1 p1 HB1 c0 c1 c2 c3
  obtain ⟨a0, a1, a2, a3⟩ := cells4 g2
  obtain ⟨c0, c1, c2, c3⟩ := cells4 p2
  have za0 := fun zz : Later w2 => zz.cell a0
  have za1 := fun zz : Later w2 => zz.cell a1
  have za2 := fun zz : Later w2 => zz.cell a2
  have za3 := fun zz : Later w2 => zz.cell a3
  have zc0 := fun zz : Later w2 => zz.cell c0
  have zc1 := fun zz : Later w2 => zz.cell c1
  have zc2 := fun zz : Later w2 => zz.cell c2
  have zc3 := fun zz : Later w2 => zz.cell c3
  clear g2 p2 a0 a1 a2 a3 c0 c1 c2 c3
  go_wp2_with fail
  refine wp_region_later (by kernel_rfl) (by kernel_rfl) ?_
  repeat (go_big_quiet_step (first | (go_at_call 177; exact Gives.later _ (implRowCmd_is k b r c _)) | (go_at_call 101; exact Gives.later _ (implPlace_is _ _ _ _ _)) | (go_at_call 100; exact Gives.later _ (implAddrOk_is _ _ _ _ _ _ _ _ AD.out _))))
  refine wpQuiet_nil ?_
  rintro w3 ⟨zz, rfl⟩
  go_wp2
  go_ret
  exact ⟨ret_b HE.out.symm, HB2.out.trans (zz.ok.mono HB2.out.size)⟩

theorem col_nil (k b r c : Int) (n : Nat) (w : World) : (nilAhead (n + 1) 168 (.agg #[.int .i64 k, .int .i64 b, .int .i64 c]) "loop.example/g00977/impl.command").run Try.prog w = .ok (some false) w := by kernel_rfl

theorem col_meth (k b r c : Int) (n : Nat) (w : World) : (method (n + 1) 168 (.agg #[.int .i64 k, .int .i64 b, .int .i64 c]) "loop.example/g00977/impl.command").run Try.prog w = .ok (178, .agg #[.int .i64 k, .int .i64 b, .int .i64 c]) w := by kernel_rfl

set_option maxHeartbeats 4000000 in
theorem wellCol_is (k b r c : Int) (hk : k = 2 ∨ k = 3) (v : Bool) (hv : decide (CmOk k b r c) = v) (w : World) :
    Calls Try.prog 99 #[.agg #[.int .i64 k, .int .i64 b, .int .i64 r, .int .i64 c]] w (Gives (.bool v) w) := by
  obtain ⟨w1, hw1⟩ : ∃ u, (w.alloc (.cells #[.int .i64 k, .int .i64 b, .int .i64 r, .int .i64 c] 39)).alloc (.cells #[.int .i64 2, .int .i64 4, .int .i64 16, .int .i64 8] 25) = u := ⟨_, rfl⟩
  have HB1 : Hid (Below w.heap.size w w1) := by subst hw1; exact ((Below.refl _ _).alloc (Nat.le_refl _) _).alloc (by simp) _
  have p1 : Hid (w1.heap[w.heap.size]? = some (.cells #[.int .i64 k, .int .i64 b, .int .i64 r, .int .i64 c] 39)) := by subst hw1; exact heap_alloc2_old _ _ _
  have g1 : Hid (w1.heap[w.heap.size + 1]? = some (.cells #[.int .i64 2, .int .i64 4, .int .i64 16, .int .i64 8] 25)) := by subst hw1; exact heap_alloc2_new _ _ _
  obtain ⟨c0, c1, c2, c3⟩ := cells4 p1.out
  have OV : Hid (opV k b r c = .iface 168 (.agg #[.int .i64 k, .int .i64 b, .int .i64 c])) := by
    show _ = _
    simp only [opV]
    rw [if_neg (by omega)]
    rw [if_pos hk]
  obtain ⟨ad, had⟩ : ∃ u, decide (AdOk 2 4 16 8 b r c) = u := ⟨_, rfl⟩
  have AD := Lib.hid had
  have HE : Hid (v = (((0 : Int) == r) && ad)) := by
    show _ = _
    rw [← hv, ← had, Bool.eq_iff_iff]
    simp only [Bool.and_eq_true, decide_eq_true_eq, beq_iff_eq, largest_is]
    unfold CmOk
    omega
  have NA := col_nil k b r c
  have ME := col_meth k b r c
  clear hv hk had
  obtain ⟨p0, hp0⟩ : ∃ p, ((0 : Int) == r) = p := ⟨_, rfl⟩
  rw [hp0] at HE
  cases p0
  case false =>
    rw [Bool.false_and] at HE
    go_enter Try.func99, Try.ntmps99
    go_wp2_with fail
    refine (implOpOf_is _ _ _ _ _ OV.out _).mono ?_
    rintro e w2 ⟨rfl, hb2⟩
    have g2 := keep_block hb2 g1.out (lt_of_block g1.out)
    have p2 := keep_block hb2 p1.out (lt_of_block p1.out)
    have HB2 : Hid (Below w.heap.size w w2) := HB1.out.trans (hb2.mono HB1.out.size)
    clear hb2 hw1 g1 p1 HB1 c0 c1 c2 c3
    obtain ⟨a0, a1, a2, a3⟩ := cells4 g2
    obtain ⟨c0, c1, c2, c3⟩ := cells4 p2
    have za0 := fun zz : Later w2 => zz.cell a0
    have za1 := fun zz : Later w2 => zz.cell a1
    have za2 := fun zz : Later w2 => zz.cell a2
    have za3 := fun zz : Later w2 => zz.cell a3
    have zc0 := fun zz : Later w2 => zz.cell c0
    have zc1 := fun zz : Later w2 => zz.cell c1
    have zc2 := fun zz : Later w2 => zz.cell c2
    have zc3 := fun zz : Later w2 => zz.cell c3
    clear g2 p2 a0 a1 a2 a3 c0 c1 c2 c3
    go_wp2_with fail
    refine wp_region_later (by kernel_rfl) (by kernel_rfl) ?_
    repeat (go_big_quiet_step (first | (go_at_call 178; exact Gives.later _ (implColCmd_is k b r c _))))
    refine wpQuiet_nil ?_
    rintro w3 ⟨zz, rfl⟩
    go_wp2
    go_ret
    exact ⟨ret_b HE.out.symm, HB2.out.trans (zz.ok.mono HB2.out.size)⟩
  rw [Bool.true_and] at HE
  go_enter Try.func99, Try.ntmps99
  go_wp2_with fail
  refine (implOpOf_is _ _ _ _ _ OV.out _).mono ?_
  rintro e w2 ⟨rfl, hb2⟩
  have g2 := keep_block hb2 g1.out (lt_of_block g1.out)
  have p2 := keep_block hb2 p1.out (lt_of_block p1.out)
  have HB2 : Hid (Below w.heap.size w w2) := HB1.out.trans (hb2.mono HB1.out.size)
  clear hb2 hw1 g1 p1 HB1 c0 c1 c2 c3
  obtain ⟨a0, a1, a2, a3⟩ := cells4 g2
  obtain ⟨c0, c1, c2, c3⟩ := cells4 p2
  have za0 := fun zz : Later w2 => zz.cell a0
  have za1 := fun zz : Later w2 => zz.cell a1
  have za2 := fun zz : Later w2 => zz.cell a2
  have za3 := fun zz : Later w2 => zz.cell a3
  have zc0 := fun zz : Later w2 => zz.cell c0
  have zc1 := fun zz : Later w2 => zz.cell c1
  have zc2 := fun zz : Later w2 => zz.cell c2
  have zc3 := fun zz : Later w2 => zz.cell c3
  clear g2 p2 a0 a1 a2 a3 c0 c1 c2 c3
  go_wp2_with fail
  refine wp_region_later (by kernel_rfl) (by kernel_rfl) ?_
  repeat (go_big_quiet_step (first | (go_at_call 178; exact Gives.later _ (implColCmd_is k b r c _)) | (go_at_call 101; exact Gives.later _ (implPlace_is _ _ _ _ _)) | (go_at_call 100; exact Gives.later _ (implAddrOk_is _ _ _ _ _ _ _ _ AD.out _))))
  refine wpQuiet_nil ?_
  rintro w3 ⟨zz, rfl⟩
  go_wp2
  go_ret
  exact ⟨ret_b HE.out.symm, HB2.out.trans (zz.ok.mono HB2.out.size)⟩

theorem bank_nil (k b r c : Int) (n : Nat) (w : World) : (nilAhead (n + 1) 170 (.agg #[.int .i64 k, .int .i64 b]) "loop.example/g00977/impl.command").run Try.prog w = .ok (some false) w := by kernel_rfl

theorem bank_meth (k b r c : Int) (n : Nat) (w : World) : (method (n + 1) 170 (.agg #[.int .i64 k, .int .i64 b]) "loop.example/g00977/impl.command").run Try.prog w = .ok (179, .agg #[.int .i64 k, .int .i64 b]) w := by kernel_rfl

set_option maxHeartbeats 4000000 in
theorem wellBank_is (k b r c : Int) (hk : k = 4 ∨ k = 5) (v : Bool) (hv : decide (CmOk k b r c) = v) (w : World) :
    Calls Try.prog 99 #[.agg #[.int .i64 k, .int .i64 b, .int .i64 r, .int .i64 c]] w (Gives (.bool v) w) := by
  obtain ⟨w1, hw1⟩ : ∃ u, (w.alloc (.cells #[.int .i64 k, .int .i64 b, .int .i64 r, .int .i64 c] 39)).alloc (.cells #[.int .i64 2, .int .i64 4, .int .i64 16, .int .i64 8] 25) = u := ⟨_, rfl⟩
  have HB1 : Hid (Below w.heap.size w w1) := by subst hw1; exact ((Below.refl _ _).alloc (Nat.le_refl _) _).alloc (by simp) _
  have p1 : Hid (w1.heap[w.heap.size]? = some (.cells #[.int .i64 k, .int .i64 b, .int .i64 r, .int .i64 c] 39)) := by subst hw1; exact heap_alloc2_old _ _ _
  have g1 : Hid (w1.heap[w.heap.size + 1]? = some (.cells #[.int .i64 2, .int .i64 4, .int .i64 16, .int .i64 8] 25)) := by subst hw1; exact heap_alloc2_new _ _ _
  obtain ⟨c0, c1, c2, c3⟩ := cells4 p1.out
  have OV : Hid (opV k b r c = .iface 170 (.agg #[.int .i64 k, .int .i64 b])) := by
    show _ = _
    simp only [opV]
    rw [if_neg (by omega)]
    rw [if_neg (by omega)]
    rw [if_pos hk]
  obtain ⟨ad, had⟩ : ∃ u, decide (AdOk 2 4 16 8 b r c) = u := ⟨_, rfl⟩
  have AD := Lib.hid had
  have HE : Hid (v = (((0 : Int) == r) && (((0 : Int) == c) && ad))) := by
    show _ = _
    rw [← hv, ← had, Bool.eq_iff_iff]
    simp only [Bool.and_eq_true, decide_eq_true_eq, beq_iff_eq, largest_is]
    unfold CmOk
    omega
  have NA := bank_nil k b r c
  have ME := bank_meth k b r c
  clear hv hk had
  obtain ⟨p0, hp0⟩ : ∃ p, ((0 : Int) == r) = p := ⟨_, rfl⟩
  rw [hp0] at HE
  cases p0
  case false =>
    rw [Bool.false_and] at HE
    go_enter Try.func99, Try.ntmps99
    go_wp2_with fail
    refine (implOpOf_is _ _ _ _ _ OV.out _).mono ?_
    rintro e w2 ⟨rfl, hb2⟩
    have g2 := keep_block hb2 g1.out (lt_of_block g1.out)
    have p2 := keep_block hb2 p1.out (lt_of_block p1.out)
    have HB2 : Hid (Below w.heap.size w w2) := HB1.out.trans (hb2.mono HB1.out.size)
    clear hb2 hw1 g1 p1 HB1 c0 c1 c2 c3
    obtain ⟨a0, a1, a2, a3⟩ := cells4 g2
    obtain ⟨c0, c1, c2, c3⟩ := cells4 p2
    have za0 := fun zz : Later w2 => zz.cell a0
    have za1 := fun zz : Later w2 => zz.cell a1
    have za2 := fun zz : Later w2 => zz.cell a2
    have za3 := fun zz : Later w2 => zz.cell a3
    have zc0 := fun zz : Later w2 => zz.cell c0
    have zc1 := fun zz : Later w2 => zz.cell c1
    have zc2 := fun zz : Later w2 => zz.cell c2
    have zc3 := fun zz : Later w2 => zz.cell c3
    clear g2 p2 a0 a1 a2 a3 c0 c1 c2 c3
    go_wp2_with fail
    refine wp_region_later (by kernel_rfl) (by kernel_rfl) ?_
    repeat (go_big_quiet_step (first | (go_at_call 179; exact Gives.later _ (implBankCmd_is k b r c _))))
    refine wpQuiet_nil ?_
    rintro w3 ⟨zz, rfl⟩
    go_wp2
    go_ret
    exact ⟨ret_b HE.out.symm, HB2.out.trans (zz.ok.mono HB2.out.size)⟩
  rw [Bool.true_and] at HE
  obtain ⟨p1, hp1⟩ : ∃ p, ((0 : Int) == c) = p := ⟨_, rfl⟩
  rw [hp1] at HE
  cases p1
  case false =>
    rw [Bool.false_and] at HE
    go_enter Try.func99, Try.ntmps99
    go_wp2_with fail
    refine (implOpOf_is _ _ _ _ _ OV.out _).mono ?_
    rintro e w2 ⟨rfl, hb2⟩
    have g2 := keep_block hb2 g1.out (lt_of_block g1.out)
    have p2 := keep_block hb2 p1.out (lt_of_block p1.out)
    have HB2 : Hid (Below w.heap.size w w2) := HB1.out.trans (hb2.mono HB1.out.size)
    clear hb2 hw1 g1 p1 HB1 c0 c1 c2 c3
    obtain ⟨a0, a1, a2, a3⟩ := cells4 g2
    obtain ⟨c0, c1, c2, c3⟩ := cells4 p2
    have za0 := fun zz : Later w2 => zz.cell a0
    have za1 := fun zz : Later w2 => zz.cell a1
    have za2 := fun zz : Later w2 => zz.cell a2
    have za3 := fun zz : Later w2 => zz.cell a3
    have zc0 := fun zz : Later w2 => zz.cell c0
    have zc1 := fun zz : Later w2 => zz.cell c1
    have zc2 := fun zz : Later w2 => zz.cell c2
    have zc3 := fun zz : Later w2 => zz.cell c3
    clear g2 p2 a0 a1 a2 a3 c0 c1 c2 c3
    go_wp2_with fail
    refine wp_region_later (by kernel_rfl) (by kernel_rfl) ?_
    repeat (go_big_quiet_step (first | (go_at_call 179; exact Gives.later _ (implBankCmd_is k b r c _))))
    refine wpQuiet_nil ?_
    rintro w3 ⟨zz, rfl⟩
    go_wp2
    go_ret
    exact ⟨ret_b HE.out.symm, HB2.out.trans (zz.ok.mono HB2.out.size)⟩
  rw [Bool.true_and] at HE
  go_enter Try.func99, Try.ntmps99
  go_wp2_with fail
  refine (implOpOf_is _ _ _ _ _ OV.out _).mono ?_
  rintro e w2 ⟨rfl, hb2⟩
  have g2 := keep_block hb2 g1.out (lt_of_block g1.out)
  have p2 := keep_block hb2 p1.out (lt_of_block p1.out)
  have HB2 : Hid (Below w.heap.size w w2) := HB1.out.trans (hb2.mono HB1.out.size)
  clear hb2 hw1 g1 p1 HB1 c0 c1 c2 c3
  obtain ⟨a0, a1, a2, a3⟩ := cells4 g2
  obtain ⟨c0, c1, c2, c3⟩ := cells4 p2
  have za0 := fun zz : Later w2 => zz.cell a0
  have za1 := fun zz : Later w2 => zz.cell a1
  have za2 := fun zz : Later w2 => zz.cell a2
  have za3 := fun zz : Later w2 => zz.cell a3
  have zc0 := fun zz : Later w2 => zz.cell c0
  have zc1 := fun zz : Later w2 => zz.cell c1
  have zc2 := fun zz : Later w2 => zz.cell c2
  have zc3 := fun zz : Later w2 => zz.cell c3
  clear g2 p2 a0 a1 a2 a3 c0 c1 c2 c3
  go_wp2_with fail
  refine wp_region_later (by kernel_rfl) (by kernel_rfl) ?_
  repeat (go_big_quiet_step (first | (go_at_call 179; exact Gives.later _ (implBankCmd_is k b r c _)) | (go_at_call 101; exact Gives.later _ (implPlace_is _ _ _ _ _)) | (go_at_call 100; exact Gives.later _ (implAddrOk_is _ _ _ _ _ _ _ _ AD.out _))))
  refine wpQuiet_nil ?_
  rintro w3 ⟨zz, rfl⟩
  go_wp2
  go_ret
  exact ⟨ret_b HE.out.symm, HB2.out.trans (zz.ok.mono HB2.out.size)⟩

theorem rank_nil (k b r c : Int) (n : Nat) (w : World) : (nilAhead (n + 1) 172 (.agg #[.int .i64 k]) "loop.example/g00977/impl.command").run Try.prog w = .ok (some false) w := by kernel_rfl

theorem rank_meth (k b r c : Int) (n : Nat) (w : World) : (method (n + 1) 172 (.agg #[.int .i64 k]) "loop.example/g00977/impl.command").run Try.prog w = .ok (180, .agg #[.int .i64 k]) w := by kernel_rfl

set_option maxHeartbeats 4000000 in
theorem wellRank_is (k b r c : Int) (hk : 6 ≤ k ∧ k ≤ 9) (v : Bool) (hv : decide (CmOk k b r c) = v) (w : World) :
    Calls Try.prog 99 #[.agg #[.int .i64 k, .int .i64 b, .int .i64 r, .int .i64 c]] w (Gives (.bool v) w) := by
  obtain ⟨w1, hw1⟩ : ∃ u, (w.alloc (.cells #[.int .i64 k, .int .i64 b, .int .i64 r, .int .i64 c] 39)).alloc (.cells #[.int .i64 2, .int .i64 4, .int .i64 16, .int .i64 8] 25) = u := ⟨_, rfl⟩
  have HB1 : Hid (Below w.heap.size w w1) := by subst hw1; exact ((Below.refl _ _).alloc (Nat.le_refl _) _).alloc (by simp) _
  have p1 : Hid (w1.heap[w.heap.size]? = some (.cells #[.int .i64 k, .int .i64 b, .int .i64 r, .int .i64 c] 39)) := by subst hw1; exact heap_alloc2_old _ _ _
  have g1 : Hid (w1.heap[w.heap.size + 1]? = some (.cells #[.int .i64 2, .int .i64 4, .int .i64 16, .int .i64 8] 25)) := by subst hw1; exact heap_alloc2_new _ _ _
  obtain ⟨c0, c1, c2, c3⟩ := cells4 p1.out
  have OV : Hid (opV k b r c = .iface 172 (.agg #[.int .i64 k])) := by
    show _ = _
    simp only [opV]
    rw [if_neg (by omega)]
    rw [if_neg (by omega)]
    rw [if_neg (by omega)]
    rw [if_pos hk]
  obtain ⟨ad, had⟩ : ∃ u, decide (AdOk 2 4 16 8 b r c) = u := ⟨_, rfl⟩
  have AD := Lib.hid had
  have HE : Hid (v = (((0 : Int) == b) && (((0 : Int) == r) && (((0 : Int) == c) && ad)))) := by
    show _ = _
    rw [← hv, ← had, Bool.eq_iff_iff]
    simp only [Bool.and_eq_true, decide_eq_true_eq, beq_iff_eq, largest_is]
    unfold CmOk
    omega
  have NA := rank_nil k b r c
  have ME := rank_meth k b r c
  clear hv hk had
  obtain ⟨p0, hp0⟩ : ∃ p, ((0 : Int) == b) = p := ⟨_, rfl⟩
  rw [hp0] at HE
  cases p0
  case false =>
    rw [Bool.false_and] at HE
    go_enter Try.func99, Try.ntmps99
    go_wp2_with fail
    refine (implOpOf_is _ _ _ _ _ OV.out _).mono ?_
    rintro e w2 ⟨rfl, hb2⟩
    have g2 := keep_block hb2 g1.out (lt_of_block g1.out)
    have p2 := keep_block hb2 p1.out (lt_of_block p1.out)
    have HB2 : Hid (Below w.heap.size w w2) := HB1.out.trans (hb2.mono HB1.out.size)
    clear hb2 hw1 g1 p1 HB1 c0 c1 c2 c3
    obtain ⟨a0, a1, a2, a3⟩ := cells4 g2
    obtain ⟨c0, c1, c2, c3⟩ := cells4 p2
    have za0 := fun zz : Later w2 => zz.cell a0
    have za1 := fun zz : Later w2 => zz.cell a1
    have za2 := fun zz : Later w2 => zz.cell a2
    have za3 := fun zz : Later w2 => zz.cell a3
    have zc0 := fun zz : Later w2 => zz.cell c0
    have zc1 := fun zz : Later w2 => zz.cell c1
    have zc2 := fun zz : Later w2 => zz.cell c2
    have zc3 := fun zz : Later w2 => zz.cell c3
    clear g2 p2 a0 a1 a2 a3 c0 c1 c2 c3
    go_wp2_with fail
    refine wp_region_later (by kernel_rfl) (by kernel_rfl) ?_
    repeat (go_big_quiet_step (first | (go_at_call 180; exact Gives.later _ (implRankCmd_is k b r c _))))
    refine wpQuiet_nil ?_
    rintro w3 ⟨zz, rfl⟩
    go_wp2
    go_ret
    exact ⟨ret_b HE.out.symm, HB2.out.trans (zz.ok.mono HB2.out.size)⟩
  rw [Bool.true_and] at HE
  obtain ⟨p1, hp1⟩ : ∃ p, ((0 : Int) == r) = p := ⟨_, rfl⟩
  rw [hp1] at HE
  cases p1
  case false =>
    rw [Bool.false_and] at HE
    go_enter Try.func99, Try.ntmps99
    go_wp2_with fail
    refine (implOpOf_is _ _ _ _ _ OV.out _).mono ?_
    rintro e w2 ⟨rfl, hb2⟩
    have g2 := keep_block hb2 g1.out (lt_of_block g1.out)
    have p2 := keep_block hb2 p1.out (lt_of_block p1.out)
    have HB2 : Hid (Below w.heap.size w w2) := HB1.out.trans (hb2.mono HB1.out.size)
    clear hb2 hw1 g1 p1 HB1 c0 c1 c2 c3
    obtain ⟨a0, a1, a2, a3⟩ := cells4 g2
    obtain ⟨c0, c1, c2, c3⟩ := cells4 p2
    have za0 := fun zz : Later w2 => zz.cell a0
    have za1 := fun zz : Later w2 => zz.cell a1
    have za2 := fun zz : Later w2 => zz.cell a2
    have za3 := fun zz : Later w2 => zz.cell a3
    have zc0 := fun zz : Later w2 => zz.cell c0
    have zc1 := fun zz : Later w2 => zz.cell c1
    have zc2 := fun zz : Later w2 => zz.cell c2
    have zc3 := fun zz : Later w2 => zz.cell c3
    clear g2 p2 a0 a1 a2 a3 c0 c1 c2 c3
    go_wp2_with fail
    refine wp_region_later (by kernel_rfl) (by kernel_rfl) ?_
    repeat (go_big_quiet_step (first | (go_at_call 180; exact Gives.later _ (implRankCmd_is k b r c _))))
    refine wpQuiet_nil ?_
    rintro w3 ⟨zz, rfl⟩
    go_wp2
    go_ret
    exact ⟨ret_b HE.out.symm, HB2.out.trans (zz.ok.mono HB2.out.size)⟩
  rw [Bool.true_and] at HE
  obtain ⟨p2, hp2⟩ : ∃ p, ((0 : Int) == c) = p := ⟨_, rfl⟩
  rw [hp2] at HE
  cases p2
  case false =>
    rw [Bool.false_and] at HE
    go_enter Try.func99, Try.ntmps99
    go_wp2_with fail
    refine (implOpOf_is _ _ _ _ _ OV.out _).mono ?_
    rintro e w2 ⟨rfl, hb2⟩
    have g2 := keep_block hb2 g1.out (lt_of_block g1.out)
    have p2 := keep_block hb2 p1.out (lt_of_block p1.out)
    have HB2 : Hid (Below w.heap.size w w2) := HB1.out.trans (hb2.mono HB1.out.size)
    clear hb2 hw1 g1 p1 HB1 c0 c1 c2 c3
    obtain ⟨a0, a1, a2, a3⟩ := cells4 g2
    obtain ⟨c0, c1, c2, c3⟩ := cells4 p2
    have za0 := fun zz : Later w2 => zz.cell a0
    have za1 := fun zz : Later w2 => zz.cell a1
    have za2 := fun zz : Later w2 => zz.cell a2
    have za3 := fun zz : Later w2 => zz.cell a3
    have zc0 := fun zz : Later w2 => zz.cell c0
    have zc1 := fun zz : Later w2 => zz.cell c1
    have zc2 := fun zz : Later w2 => zz.cell c2
    have zc3 := fun zz : Later w2 => zz.cell c3
    clear g2 p2 a0 a1 a2 a3 c0 c1 c2 c3
    go_wp2_with fail
    refine wp_region_later (by kernel_rfl) (by kernel_rfl) ?_
    repeat (go_big_quiet_step (first | (go_at_call 180; exact Gives.later _ (implRankCmd_is k b r c _))))
    refine wpQuiet_nil ?_
    rintro w3 ⟨zz, rfl⟩
    go_wp2
    go_ret
    exact ⟨ret_b HE.out.symm, HB2.out.trans (zz.ok.mono HB2.out.size)⟩
  rw [Bool.true_and] at HE
  go_enter Try.func99, Try.ntmps99
  go_wp2_with fail
  refine (implOpOf_is _ _ _ _ _ OV.out _).mono ?_
  rintro e w2 ⟨rfl, hb2⟩
  have g2 := keep_block hb2 g1.out (lt_of_block g1.out)
  have p2 := keep_block hb2 p1.out (lt_of_block p1.out)
  have HB2 : Hid (Below w.heap.size w w2) := HB1.out.trans (hb2.mono HB1.out.size)
  clear hb2 hw1 g1 p1 HB1 c0 c1 c2 c3
  obtain ⟨a0, a1, a2, a3⟩ := cells4 g2
  obtain ⟨c0, c1, c2, c3⟩ := cells4 p2
  have za0 := fun zz : Later w2 => zz.cell a0
  have za1 := fun zz : Later w2 => zz.cell a1
  have za2 := fun zz : Later w2 => zz.cell a2
  have za3 := fun zz : Later w2 => zz.cell a3
  have zc0 := fun zz : Later w2 => zz.cell c0
  have zc1 := fun zz : Later w2 => zz.cell c1
  have zc2 := fun zz : Later w2 => zz.cell c2
  have zc3 := fun zz : Later w2 => zz.cell c3
  clear g2 p2 a0 a1 a2 a3 c0 c1 c2 c3
  go_wp2_with fail
  refine wp_region_later (by kernel_rfl) (by kernel_rfl) ?_
  repeat (go_big_quiet_step (first | (go_at_call 180; exact Gives.later _ (implRankCmd_is k b r c _)) | (go_at_call 101; exact Gives.later _ (implPlace_is _ _ _ _ _)) | (go_at_call 100; exact Gives.later _ (implAddrOk_is _ _ _ _ _ _ _ _ AD.out _))))
  refine wpQuiet_nil ?_
  rintro w3 ⟨zz, rfl⟩
  go_wp2
  go_ret
  exact ⟨ret_b HE.out.symm, HB2.out.trans (zz.ok.mono HB2.out.size)⟩

set_option maxHeartbeats 4000000 in
theorem wellNone_is (k b r c : Int) (hk : ¬ (1 ≤ k ∧ k ≤ 9)) (v : Bool) (hv : decide (CmOk k b r c) = v) (w : World) :
    Calls Try.prog 99 #[.agg #[.int .i64 k, .int .i64 b, .int .i64 r, .int .i64 c]] w (Gives (.bool v) w) := by
  obtain ⟨w1, hw1⟩ : ∃ u, (w.alloc (.cells #[.int .i64 k, .int .i64 b, .int .i64 r, .int .i64 c] 39)).alloc (.cells #[.int .i64 2, .int .i64 4, .int .i64 16, .int .i64 8] 25) = u := ⟨_, rfl⟩
  have HB1 : Hid (Below w.heap.size w w1) := by subst hw1; exact ((Below.refl _ _).alloc (Nat.le_refl _) _).alloc (by simp) _
  have p1 : Hid (w1.heap[w.heap.size]? = some (.cells #[.int .i64 k, .int .i64 b, .int .i64 r, .int .i64 c] 39)) := by subst hw1; exact heap_alloc2_old _ _ _
  have g1 : Hid (w1.heap[w.heap.size + 1]? = some (.cells #[.int .i64 2, .int .i64 4, .int .i64 16, .int .i64 8] 25)) := by subst hw1; exact heap_alloc2_new _ _ _
  obtain ⟨c0, c1, c2, c3⟩ := cells4 p1.out
  have OV : Hid (opV k b r c = .nilIface) := by
    show _ = _
    simp only [opV]
    rw [if_neg (by omega), if_neg (by omega), if_neg (by omega), if_neg (by omega)]
  have HE : Hid (v = false) := by
    show _ = _
    rw [← hv]
    exact decide_eq_false fun h => hk h.1
  clear hv hk
  go_enter Try.func99, Try.ntmps99
  go_wp2_with fail
  refine (implOpOf_is _ _ _ _ _ OV.out _).mono ?_
  rintro e w2 ⟨rfl, hb2⟩
  have g2 := keep_block hb2 g1.out (lt_of_block g1.out)
  have p2 := keep_block hb2 p1.out (lt_of_block p1.out)
  have HB2 : Hid (Below w.heap.size w w2) := HB1.out.trans (hb2.mono HB1.out.size)
  clear hb2 hw1 g1 p1 HB1 c0 c1 c2 c3
  obtain ⟨a0, a1, a2, a3⟩ := cells4 g2
  obtain ⟨c0, c1, c2, c3⟩ := cells4 p2
  have za0 := fun zz : Later w2 => zz.cell a0
  have za1 := fun zz : Later w2 => zz.cell a1
  have za2 := fun zz : Later w2 => zz.cell a2
  have za3 := fun zz : Later w2 => zz.cell a3
  have zc0 := fun zz : Later w2 => zz.cell c0
  have zc1 := fun zz : Later w2 => zz.cell c1
  have zc2 := fun zz : Later w2 => zz.cell c2
  have zc3 := fun zz : Later w2 => zz.cell c3
  clear g2 p2 a0 a1 a2 a3 c0 c1 c2 c3
  go_wp2_with fail
  refine wp_region_later (by kernel_rfl) (by kernel_rfl) ?_
  repeat (go_big_quiet_step (first | fail))
  refine wpQuiet_nil ?_
  rintro w3 ⟨zz, rfl⟩
  go_wp2
  go_ret
  exact ⟨ret_b HE.out.symm, HB2.out.trans (zz.ok.mono HB2.out.size)⟩

theorem implWell_is (k b r c : Int) (v : Bool) (hv : decide (CmOk k b r c) = v) (w : World) :
    Calls Try.prog 99 #[.agg #[.int .i64 k, .int .i64 b, .int .i64 r, .int .i64 c]] w (Gives (.bool v) w) := by
  by_cases h1 : k = 1
  · exact wellRow_is k b r c h1 v hv w
  by_cases h2 : k = 2 ∨ k = 3
  · exact wellCol_is k b r c h2 v hv w
  by_cases h3 : k = 4 ∨ k = 5
  · exact wellBank_is k b r c h3 v hv w
  by_cases h4 : 6 ≤ k ∧ k ≤ 9
  · exact wellRank_is k b r c h4 v hv w
  exact wellNone_is k b r c (by omega) v hv w

end Go.Proofs.Ythplhjdfajhmpaa

namespace Go.Proofs.Ythplhjdfajhmpaa
open Go.RowKit

set_option linter.unusedVariables false

set_option maxHeartbeats 2000000 in
theorem implCommandOk_is (a b r d k x y z : Int) (v : Bool) (hv : decide (CmOk k x y z ∧ AdOk a b r d x y z) = v) (w : World) :
    Calls Try.prog 72 #[.agg #[.int .i64 a, .int .i64 b, .int .i64 r, .int .i64 d], .agg #[.int .i64 k, .int .i64 x, .int .i64 y, .int .i64 z]] w (Gives (.bool v) w) := by
  obtain ⟨w1, hw1⟩ : ∃ u, (w.alloc (.cells #[.int .i64 a, .int .i64 b, .int .i64 r, .int .i64 d] 25)).alloc (.cells #[.int .i64 k, .int .i64 x, .int .i64 y, .int .i64 z] 39) = u := ⟨_, rfl⟩
  have HB1 : Hid (Below w.heap.size w w1) := by subst hw1; exact ((Below.refl _ _).alloc (Nat.le_refl _) _).alloc (by simp) _
  have g1 : w1.heap[w.heap.size]? = some (.cells #[.int .i64 a, .int .i64 b, .int .i64 r, .int .i64 d] 25) := by subst hw1; exact heap_alloc2_old _ _ _
  have p1 : w1.heap[w.heap.size + 1]? = some (.cells #[.int .i64 k, .int .i64 x, .int .i64 y, .int .i64 z] 39) := by subst hw1; exact heap_alloc2_new _ _ _
  obtain ⟨a0, a1, a2, a3⟩ := cells4 g1
  obtain ⟨c0, c1, c2, c3⟩ := cells4 p1
  have za0 := fun zz : Later w1 => zz.cell a0
  have za1 := fun zz : Later w1 => zz.cell a1
  have za2 := fun zz : Later w1 => zz.cell a2
  have za3 := fun zz : Later w1 => zz.cell a3
  have zc0 := fun zz : Later w1 => zz.cell c0
  have zc1 := fun zz : Later w1 => zz.cell c1
  have zc2 := fun zz : Later w1 => zz.cell c2
  have zc3 := fun zz : Later w1 => zz.cell c3
  clear g1 p1 a0 a1 a2 a3 c0 c1 c2 c3
  by_cases h : CmOk k x y z
  · have K := Lib.hid (decide_eq_true h)
    obtain ⟨u, hu⟩ : ∃ u, decide (AdOk a b r d x y z) = u := ⟨_, rfl⟩
    have KA := Lib.hid hu
    have HE : Hid (v = u) := by
      show _ = _
      rw [← hv, ← hu, Bool.eq_iff_iff]
      simp only [decide_eq_true_eq]
      exact ⟨fun hh => hh.2, fun hh => ⟨h, hh⟩⟩
    clear hv h hu
    go_enter Try.func72, Try.ntmps72
    go_wp2_with fail
    refine wp_region_later (by kernel_rfl) (by kernel_rfl) ?_
    repeat (go_big_quiet_step (first | (go_at_call 99; exact Gives.later _ (implWell_is _ _ _ _ _ K.out _)) | (go_at_call 101; exact Gives.later _ (implPlace_is _ _ _ _ _)) | (go_at_call 100; exact Gives.later _ (implAddrOk_is _ _ _ _ _ _ _ _ KA.out _))))
    refine wpQuiet_nil ?_
    rintro w3 ⟨zz, rfl⟩
    go_wp2
    go_ret
    exact ⟨ret_b HE.out.symm, HB1.out.trans (zz.ok.mono HB1.out.size)⟩
  · have K := Lib.hid (decide_eq_false h)
    have HE : Hid (v = false) := by show _ = _; rw [← hv]; exact decide_eq_false (fun hh => h hh.1)
    clear hv h
    go_enter Try.func72, Try.ntmps72
    go_wp2_with fail
    refine wp_region_later (by kernel_rfl) (by kernel_rfl) ?_
    repeat (go_big_quiet_step (first | (go_at_call 99; exact Gives.later _ (implWell_is _ _ _ _ _ K.out _))))
    refine wpQuiet_nil ?_
    rintro w3 ⟨zz, rfl⟩
    go_wp2
    go_ret
    exact ⟨ret_b HE.out.symm, HB1.out.trans (zz.ok.mono HB1.out.size)⟩

end Go.Proofs.Ythplhjdfajhmpaa
