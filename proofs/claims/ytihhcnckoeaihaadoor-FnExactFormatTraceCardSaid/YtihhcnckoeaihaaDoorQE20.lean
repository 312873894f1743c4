/-
  Texts of one proof, merged: CmdL.
-/
import Derived.Test.YtihhcnckoeaihaaDoorQE16
import Derived.Test.YtihhcnckoeaihaaDoorQE19
import Derived.LoopN
namespace Go.Proofs.YtihhcnckoeaihaaDoor
open Go.RowKit

set_option linter.unusedVariables false

/-- The words of all kinds lie in the program's table. -/
def WordsVar (w : World) : Prop := WordsAt w 0

theorem WordsVar.below {w w' : World} (h : WordsVar w) (hb : Below w.heap.size w w') : WordsVar w' := WordsAt.below h hb

/-- A call that answers a row of two numbers, of one, of none, and leaves all old blocks. -/
def Nums2 (x y : Int) (w : World) (e : Ending) (w' : World) : Prop := ∃ g, e = .returned (.slice (some ⟨g, 0, none⟩) 2 2) ∧ w'.cell? ⟨g, 0, none⟩ = some (.int .i64 x) ∧ w'.cell? ⟨g, 1, none⟩ = some (.int .i64 y) ∧ Below w.heap.size w w'
def Nums1 (x : Int) (w : World) (e : Ending) (w' : World) : Prop := ∃ g, e = .returned (.slice (some ⟨g, 0, none⟩) 1 1) ∧ w'.cell? ⟨g, 0, none⟩ = some (.int .i64 x) ∧ Below w.heap.size w w'
def Nums0 (w : World) (e : Ending) (w' : World) : Prop := e = .returned (.slice none 0 0) ∧ Below w.heap.size w w'

theorem as_row_row (k b r c : Int) (w : World) : (Instr.typeAssert (.iface 101 (.agg #[.int .i64 k, .int .i64 b, .int .i64 r])) 71 101 true).run Tryd.prog w = .ok (.tuple #[.agg #[.int .i64 k, .int .i64 b, .int .i64 r], .bool true]) w := by kernel_rfl

set_option maxHeartbeats 1000000 in
theorem implNumsRow_is (k b r c : Int) (w : World) :
    Calls Tryd.prog 30 #[.iface 101 (.agg #[.int .i64 k, .int .i64 b, .int .i64 r])] w (Nums2 b r w) := by
  have t_row := as_row_row k b r c
  go_enter Tryd.func30, Tryd.ntmps30
  go_wp2
  go_ret
  have h1 := heap_alloc2_new w (.cells #[.int .i64 k, .int .i64 b, .int .i64 r] 101) (.cells #[.int .i64 b, .int .i64 r] 3)
  exact ⟨_, rfl, (cells2 h1).1, (cells2 h1).2, ((Below.refl _ _).alloc (Nat.le_refl _) _).alloc (by simp) _⟩

theorem as_col_row (k b r c : Int) (w : World) : (Instr.typeAssert (.iface 103 (.agg #[.int .i64 k, .int .i64 b, .int .i64 c])) 71 101 true).run Tryd.prog w = .ok (.tuple #[.agg #[.int .i64 0, .int .i64 0, .int .i64 0], .bool false]) w := by kernel_rfl

theorem as_col_col (k b r c : Int) (w : World) : (Instr.typeAssert (.iface 103 (.agg #[.int .i64 k, .int .i64 b, .int .i64 c])) 71 103 true).run Tryd.prog w = .ok (.tuple #[.agg #[.int .i64 k, .int .i64 b, .int .i64 c], .bool true]) w := by kernel_rfl

set_option maxHeartbeats 1000000 in
theorem implNumsCol_is (k b r c : Int) (w : World) :
    Calls Tryd.prog 30 #[.iface 103 (.agg #[.int .i64 k, .int .i64 b, .int .i64 c])] w (Nums2 b c w) := by
  have t_row := as_col_row k b r c
  have t_col := as_col_col k b r c
  go_enter Tryd.func30, Tryd.ntmps30
  go_wp2
  go_ret
  have h1 := heap_alloc2_new w (.cells #[.int .i64 k, .int .i64 b, .int .i64 c] 103) (.cells #[.int .i64 b, .int .i64 c] 3)
  exact ⟨_, rfl, (cells2 h1).1, (cells2 h1).2, ((Below.refl _ _).alloc (Nat.le_refl _) _).alloc (by simp) _⟩

theorem as_bank_row (k b r c : Int) (w : World) : (Instr.typeAssert (.iface 105 (.agg #[.int .i64 k, .int .i64 b])) 71 101 true).run Tryd.prog w = .ok (.tuple #[.agg #[.int .i64 0, .int .i64 0, .int .i64 0], .bool false]) w := by kernel_rfl

theorem as_bank_col (k b r c : Int) (w : World) : (Instr.typeAssert (.iface 105 (.agg #[.int .i64 k, .int .i64 b])) 71 103 true).run Tryd.prog w = .ok (.tuple #[.agg #[.int .i64 0, .int .i64 0, .int .i64 0], .bool false]) w := by kernel_rfl

theorem as_bank_bank (k b r c : Int) (w : World) : (Instr.typeAssert (.iface 105 (.agg #[.int .i64 k, .int .i64 b])) 71 105 true).run Tryd.prog w = .ok (.tuple #[.agg #[.int .i64 k, .int .i64 b], .bool true]) w := by kernel_rfl

set_option maxHeartbeats 1000000 in
theorem implNumsBank_is (k b r c : Int) (w : World) :
    Calls Tryd.prog 30 #[.iface 105 (.agg #[.int .i64 k, .int .i64 b])] w (Nums1 b w) := by
  have t_row := as_bank_row k b r c
  have t_col := as_bank_col k b r c
  have t_bank := as_bank_bank k b r c
  go_enter Tryd.func30, Tryd.ntmps30
  go_wp2
  go_ret
  have h1 := heap_alloc2_new w (.cells #[.int .i64 k, .int .i64 b] 105) (.cells #[.int .i64 b] 3)
  exact ⟨_, rfl, cell1 h1, ((Below.refl _ _).alloc (Nat.le_refl _) _).alloc (by simp) _⟩

theorem as_rank_row (k b r c : Int) (w : World) : (Instr.typeAssert (.iface 107 (.agg #[.int .i64 k])) 71 101 true).run Tryd.prog w = .ok (.tuple #[.agg #[.int .i64 0, .int .i64 0, .int .i64 0], .bool false]) w := by kernel_rfl

theorem as_rank_col (k b r c : Int) (w : World) : (Instr.typeAssert (.iface 107 (.agg #[.int .i64 k])) 71 103 true).run Tryd.prog w = .ok (.tuple #[.agg #[.int .i64 0, .int .i64 0, .int .i64 0], .bool false]) w := by kernel_rfl

theorem as_rank_bank (k b r c : Int) (w : World) : (Instr.typeAssert (.iface 107 (.agg #[.int .i64 k])) 71 105 true).run Tryd.prog w = .ok (.tuple #[.agg #[.int .i64 0, .int .i64 0], .bool false]) w := by kernel_rfl

set_option maxHeartbeats 1000000 in
theorem implNumsRank_is (k b r c : Int) (w : World) :
    Calls Tryd.prog 30 #[.iface 107 (.agg #[.int .i64 k])] w (Nums0 w) := by
  have t_row := as_rank_row k b r c
  have t_col := as_rank_col k b r c
  have t_bank := as_rank_bank k b r c
  go_enter Tryd.func30, Tryd.ntmps30
  go_wp2
  go_ret
  exact ⟨rfl, Below.refl _ _⟩

set_option maxHeartbeats 4000000 in
theorem fmtRow_is (k : Nat) (b r c : Int) (hk : k = 1) (h : CmOk k b r c) (w : World) (ht : Tab10 w) (hw : WordsVar w) :
    Calls Tryd.prog 17 #[.agg #[.int .i64 (k : Int), .int .i64 b, .int .i64 r, .int .i64 c]] w (Gives (.string ⟨(txtL k b.toNat r.toNat c.toNat).toArray⟩) w) := by
  have HT := Lib.hid (Lib.tabBelow_of_tabIs ht)
  obtain ⟨w1, hw1⟩ : ∃ u, w.alloc (.cells #[.int .i64 (k : Int), .int .i64 b, .int .i64 r, .int .i64 c] 35) = u := ⟨_, rfl⟩
  have HB1 : Hid (Below w.heap.size w w1) := by subst hw1; exact (Below.refl _ _).alloc (Nat.le_refl _) _
  have p1 : w1.heap[w.heap.size]? = some (.cells #[.int .i64 (k : Int), .int .i64 b, .int .i64 r, .int .i64 c] 35) := by subst hw1; exact heap_alloc_new _ _
  obtain ⟨c0, c1, c2, c3⟩ := cells4 p1
  have KW := Lib.hid (decide_eq_true h)
  have OV : Hid (opV k b r c = .iface 101 (.agg #[.int .i64 (k : Int), .int .i64 b, .int .i64 r])) := by
    show _ = _
    simp only [opV]
    rw [if_pos (by omega)]
  have HT2 : Hid (txtL k b.toNat r.toNat c.toNat = wordL k ++ (32 :: figL b.toNat) ++ (32 :: figL r.toNat)) := by
    show _ = _
    unfold txtL
    rw [show decide (k ≤ 5) = true from decide_eq_true (by omega), show decide (k = 1) = true from decide_eq_true (by omega)]
    rw [show (decide (k = 2) || decide (k = 3)) = false by simp; omega]
    simp [fldL]
  obtain ⟨⟨hk0, hk9⟩, hb, hr, hc, _⟩ := h
  obtain ⟨S0, hS0⟩ : ∃ S, (⟨(wordL k).toArray⟩ : ByteArray) = S := ⟨_, rfl⟩
  have HS0 := Lib.hid hS0
  have z0 : S0.size ≤ 5 := by rw [← hS0]; exact word_size k (by omega)
  have HW : Hid (w.cell? ⟨0, k, none⟩ = some (.string S0)) := by rw [← hS0]; exact hw k (by omega)
  clear hS0 hw ht hk
  go_enter Tryd.func17, Tryd.ntmps17
  go_wp2_with fail
  refine (implWell_is _ _ _ _ _ KW.out _).mono ?_
  rintro e w2 ⟨rfl, hb2⟩
  have p2 := keep_block hb2 p1 (lt_of_block p1)
  have HB2 : Hid (Below w.heap.size w w2) := HB1.out.trans (hb2.mono HB1.out.size)
  clear hb2 p1 HB1 hw1 c0 c1 c2 c3
  obtain ⟨c0, c1, c2, c3⟩ := cells4 p2
  have hword := keep_cell HB2.out HW.out (World.block_lt_of_cell? _ _ HW.out)
  have hk10 : k < 10 := by omega
  go_wp2_with fail
  refine (implOpOf_is _ _ _ _ _ OV.out _).mono ?_
  rintro e w3 ⟨rfl, hb3⟩
  have HB3 : Hid (Below w.heap.size w w3) := HB2.out.trans (hb3.mono HB2.out.size)
  clear hb3 c0 c1 c2 c3 p2 hword hk10
  go_wp2_with fail
  refine (implNumsRow_is _ b r 0 _).mono ?_
  rintro e w4 ⟨g, rfl, n0, n1, hb4⟩
  have HB4 : Hid (Below w.heap.size w w4) := HB3.out.trans (hb4.mono HB3.out.size)
  clear hb4
  go_wp2_with fail
  refine wp_loop_rounds 3 ?_
  rw [rounds_succ]
  go_wp2_with fail
  refine (implFormat_any b (by omega) (by omega) _ (HT.out.on HB4.out).here).mono ?_
  rintro e w5 ⟨rfl, hb5⟩
  have HB5 : Hid (Below w.heap.size w w5) := HB4.out.trans (hb5.mono HB4.out.size)
  replace n0 := keep_cell hb5 n0 (World.block_lt_of_cell? _ _ n0)
  replace n1 := keep_cell hb5 n1 (World.block_lt_of_cell? _ _ n1)
  obtain ⟨D0, hD0⟩ : ∃ D, (⟨(Lib.itoa b).toArray⟩ : ByteArray) = D := ⟨_, rfl⟩
  have HD0 := Lib.hid hD0
  have y0 : D0.size ≤ 2 := by rw [← hD0, itoa_fig (x := b) (by omega)]; exact fig_size b.toNat
  have q0 : ¬ 9223372036854775807 < 1 + D0.size := by omega
  have r0 : ¬ 9223372036854775807 < S0.size + (1 + D0.size) := by omega
  (try simp only [hD0])
  clear hD0 hb5
  go_wp2_with fail
  (try simp only [Exit.then])
  rw [rounds_succ]
  go_wp2_with fail
  refine (implFormat_any r (by omega) (by omega) _ (HT.out.on HB5.out).here).mono ?_
  rintro e w6 ⟨rfl, hb6⟩
  have HB6 : Hid (Below w.heap.size w w6) := HB5.out.trans (hb6.mono HB5.out.size)
  replace n1 := keep_cell hb6 n1 (World.block_lt_of_cell? _ _ n1)
  obtain ⟨D1, hD1⟩ : ∃ D, (⟨(Lib.itoa r).toArray⟩ : ByteArray) = D := ⟨_, rfl⟩
  have HD1 := Lib.hid hD1
  have y1 : D1.size ≤ 2 := by rw [← hD1, itoa_fig (x := r) (by omega)]; exact fig_size r.toNat
  have q1 : ¬ 9223372036854775807 < 1 + D1.size := by omega
  have r1 : ¬ 9223372036854775807 < S0.size + (1 + D0.size) + (1 + D1.size) := by omega
  (try simp only [hD1])
  clear hD1 hb6
  go_wp2_with fail
  (try simp only [Exit.then])
  rw [rounds_succ]
  go_wp2
  go_ret
  refine ⟨?_, HB6.out⟩
  rw [HT2.out]
  show Ending.returned (Value.string _) = _
  rw [← HS0.out, ← HD0.out, itoa_fig (x := b) (by omega), ← HD1.out, itoa_fig (x := r) (by omega)]
  all_goals congr 2
  all_goals first | rfl | (have e32 : (⟨#[32]⟩ : ByteArray) = ⟨[32].toArray⟩ := rfl; rw [e32]; simp only [cat_lists, List.append_assoc, List.cons_append, List.nil_append])

set_option maxHeartbeats 4000000 in
theorem fmtCol_is (k : Nat) (b r c : Int) (hk : k = 2 ∨ k = 3) (h : CmOk k b r c) (w : World) (ht : Tab10 w) (hw : WordsVar w) :
    Calls Tryd.prog 17 #[.agg #[.int .i64 (k : Int), .int .i64 b, .int .i64 r, .int .i64 c]] w (Gives (.string ⟨(txtL k b.toNat r.toNat c.toNat).toArray⟩) w) := by
  have HT := Lib.hid (Lib.tabBelow_of_tabIs ht)
  obtain ⟨w1, hw1⟩ : ∃ u, w.alloc (.cells #[.int .i64 (k : Int), .int .i64 b, .int .i64 r, .int .i64 c] 35) = u := ⟨_, rfl⟩
  have HB1 : Hid (Below w.heap.size w w1) := by subst hw1; exact (Below.refl _ _).alloc (Nat.le_refl _) _
  have p1 : w1.heap[w.heap.size]? = some (.cells #[.int .i64 (k : Int), .int .i64 b, .int .i64 r, .int .i64 c] 35) := by subst hw1; exact heap_alloc_new _ _
  obtain ⟨c0, c1, c2, c3⟩ := cells4 p1
  have KW := Lib.hid (decide_eq_true h)
  have OV : Hid (opV k b r c = .iface 103 (.agg #[.int .i64 (k : Int), .int .i64 b, .int .i64 c])) := by
    show _ = _
    simp only [opV]
    rw [if_neg (by omega)]
    rw [if_pos (by omega)]
  have HT2 : Hid (txtL k b.toNat r.toNat c.toNat = wordL k ++ (32 :: figL b.toNat) ++ (32 :: figL c.toNat)) := by
    show _ = _
    unfold txtL
    rw [show decide (k ≤ 5) = true from decide_eq_true (by omega), show decide (k = 1) = false from decide_eq_false (by omega)]
    rw [show (decide (k = 2) || decide (k = 3)) = true by simp; omega]
    simp [fldL]
  obtain ⟨⟨hk0, hk9⟩, hb, hr, hc, _⟩ := h
  obtain ⟨S0, hS0⟩ : ∃ S, (⟨(wordL k).toArray⟩ : ByteArray) = S := ⟨_, rfl⟩
  have HS0 := Lib.hid hS0
  have z0 : S0.size ≤ 5 := by rw [← hS0]; exact word_size k (by omega)
  have HW : Hid (w.cell? ⟨0, k, none⟩ = some (.string S0)) := by rw [← hS0]; exact hw k (by omega)
  clear hS0 hw ht hk
  go_enter Tryd.func17, Tryd.ntmps17
  go_wp2_with fail
  refine (implWell_is _ _ _ _ _ KW.out _).mono ?_
  rintro e w2 ⟨rfl, hb2⟩
  have p2 := keep_block hb2 p1 (lt_of_block p1)
  have HB2 : Hid (Below w.heap.size w w2) := HB1.out.trans (hb2.mono HB1.out.size)
  clear hb2 p1 HB1 hw1 c0 c1 c2 c3
  obtain ⟨c0, c1, c2, c3⟩ := cells4 p2
  have hword := keep_cell HB2.out HW.out (World.block_lt_of_cell? _ _ HW.out)
  have hk10 : k < 10 := by omega
  go_wp2_with fail
  refine (implOpOf_is _ _ _ _ _ OV.out _).mono ?_
  rintro e w3 ⟨rfl, hb3⟩
  have HB3 : Hid (Below w.heap.size w w3) := HB2.out.trans (hb3.mono HB2.out.size)
  clear hb3 c0 c1 c2 c3 p2 hword hk10
  go_wp2_with fail
  refine (implNumsCol_is _ b 0 c _).mono ?_
  rintro e w4 ⟨g, rfl, n0, n1, hb4⟩
  have HB4 : Hid (Below w.heap.size w w4) := HB3.out.trans (hb4.mono HB3.out.size)
  clear hb4
  go_wp2_with fail
  refine wp_loop_rounds 3 ?_
  rw [rounds_succ]
  go_wp2_with fail
  refine (implFormat_any b (by omega) (by omega) _ (HT.out.on HB4.out).here).mono ?_
  rintro e w5 ⟨rfl, hb5⟩
  have HB5 : Hid (Below w.heap.size w w5) := HB4.out.trans (hb5.mono HB4.out.size)
  replace n0 := keep_cell hb5 n0 (World.block_lt_of_cell? _ _ n0)
  replace n1 := keep_cell hb5 n1 (World.block_lt_of_cell? _ _ n1)
  obtain ⟨D0, hD0⟩ : ∃ D, (⟨(Lib.itoa b).toArray⟩ : ByteArray) = D := ⟨_, rfl⟩
  have HD0 := Lib.hid hD0
  have y0 : D0.size ≤ 2 := by rw [← hD0, itoa_fig (x := b) (by omega)]; exact fig_size b.toNat
  have q0 : ¬ 9223372036854775807 < 1 + D0.size := by omega
  have r0 : ¬ 9223372036854775807 < S0.size + (1 + D0.size) := by omega
  (try simp only [hD0])
  clear hD0 hb5
  go_wp2_with fail
  (try simp only [Exit.then])
  rw [rounds_succ]
  go_wp2_with fail
  refine (implFormat_any c (by omega) (by omega) _ (HT.out.on HB5.out).here).mono ?_
  rintro e w6 ⟨rfl, hb6⟩
  have HB6 : Hid (Below w.heap.size w w6) := HB5.out.trans (hb6.mono HB5.out.size)
  replace n1 := keep_cell hb6 n1 (World.block_lt_of_cell? _ _ n1)
  obtain ⟨D1, hD1⟩ : ∃ D, (⟨(Lib.itoa c).toArray⟩ : ByteArray) = D := ⟨_, rfl⟩
  have HD1 := Lib.hid hD1
  have y1 : D1.size ≤ 2 := by rw [← hD1, itoa_fig (x := c) (by omega)]; exact fig_size c.toNat
  have q1 : ¬ 9223372036854775807 < 1 + D1.size := by omega
  have r1 : ¬ 9223372036854775807 < S0.size + (1 + D0.size) + (1 + D1.size) := by omega
  (try simp only [hD1])
  clear hD1 hb6
  go_wp2_with fail
  (try simp only [Exit.then])
  rw [rounds_succ]
  go_wp2
  go_ret
  refine ⟨?_, HB6.out⟩
  rw [HT2.out]
  show Ending.returned (Value.string _) = _
  rw [← HS0.out, ← HD0.out, itoa_fig (x := b) (by omega), ← HD1.out, itoa_fig (x := c) (by omega)]
  all_goals congr 2
  all_goals first | rfl | (have e32 : (⟨#[32]⟩ : ByteArray) = ⟨[32].toArray⟩ := rfl; rw [e32]; simp only [cat_lists, List.append_assoc, List.cons_append, List.nil_append])

set_option maxHeartbeats 4000000 in
theorem fmtBank_is (k : Nat) (b r c : Int) (hk : k = 4 ∨ k = 5) (h : CmOk k b r c) (w : World) (ht : Tab10 w) (hw : WordsVar w) :
    Calls Tryd.prog 17 #[.agg #[.int .i64 (k : Int), .int .i64 b, .int .i64 r, .int .i64 c]] w (Gives (.string ⟨(txtL k b.toNat r.toNat c.toNat).toArray⟩) w) := by
  have HT := Lib.hid (Lib.tabBelow_of_tabIs ht)
  obtain ⟨w1, hw1⟩ : ∃ u, w.alloc (.cells #[.int .i64 (k : Int), .int .i64 b, .int .i64 r, .int .i64 c] 35) = u := ⟨_, rfl⟩
  have HB1 : Hid (Below w.heap.size w w1) := by subst hw1; exact (Below.refl _ _).alloc (Nat.le_refl _) _
  have p1 : w1.heap[w.heap.size]? = some (.cells #[.int .i64 (k : Int), .int .i64 b, .int .i64 r, .int .i64 c] 35) := by subst hw1; exact heap_alloc_new _ _
  obtain ⟨c0, c1, c2, c3⟩ := cells4 p1
  have KW := Lib.hid (decide_eq_true h)
  have OV : Hid (opV k b r c = .iface 105 (.agg #[.int .i64 (k : Int), .int .i64 b])) := by
    show _ = _
    simp only [opV]
    rw [if_neg (by omega)]
    rw [if_neg (by omega)]
    rw [if_pos (by omega)]
  have HT2 : Hid (txtL k b.toNat r.toNat c.toNat = wordL k ++ (32 :: figL b.toNat)) := by
    show _ = _
    unfold txtL
    rw [show decide (k ≤ 5) = true from decide_eq_true (by omega), show decide (k = 1) = false from decide_eq_false (by omega)]
    rw [show (decide (k = 2) || decide (k = 3)) = false by simp; omega]
    simp [fldL]
  obtain ⟨⟨hk0, hk9⟩, hb, hr, hc, _⟩ := h
  obtain ⟨S0, hS0⟩ : ∃ S, (⟨(wordL k).toArray⟩ : ByteArray) = S := ⟨_, rfl⟩
  have HS0 := Lib.hid hS0
  have z0 : S0.size ≤ 5 := by rw [← hS0]; exact word_size k (by omega)
  have HW : Hid (w.cell? ⟨0, k, none⟩ = some (.string S0)) := by rw [← hS0]; exact hw k (by omega)
  clear hS0 hw ht hk
  go_enter Tryd.func17, Tryd.ntmps17
  go_wp2_with fail
  refine (implWell_is _ _ _ _ _ KW.out _).mono ?_
  rintro e w2 ⟨rfl, hb2⟩
  have p2 := keep_block hb2 p1 (lt_of_block p1)
  have HB2 : Hid (Below w.heap.size w w2) := HB1.out.trans (hb2.mono HB1.out.size)
  clear hb2 p1 HB1 hw1 c0 c1 c2 c3
  obtain ⟨c0, c1, c2, c3⟩ := cells4 p2
  have hword := keep_cell HB2.out HW.out (World.block_lt_of_cell? _ _ HW.out)
  have hk10 : k < 10 := by omega
  go_wp2_with fail
  refine (implOpOf_is _ _ _ _ _ OV.out _).mono ?_
  rintro e w3 ⟨rfl, hb3⟩
  have HB3 : Hid (Below w.heap.size w w3) := HB2.out.trans (hb3.mono HB2.out.size)
  clear hb3 c0 c1 c2 c3 p2 hword hk10
  go_wp2_with fail
  refine (implNumsBank_is _ b 0 0 _).mono ?_
  rintro e w4 ⟨g, rfl, n0, hb4⟩
  have HB4 : Hid (Below w.heap.size w w4) := HB3.out.trans (hb4.mono HB3.out.size)
  clear hb4
  go_wp2_with fail
  refine wp_loop_rounds 2 ?_
  rw [rounds_succ]
  go_wp2_with fail
  refine (implFormat_any b (by omega) (by omega) _ (HT.out.on HB4.out).here).mono ?_
  rintro e w5 ⟨rfl, hb5⟩
  have HB5 : Hid (Below w.heap.size w w5) := HB4.out.trans (hb5.mono HB4.out.size)
  replace n0 := keep_cell hb5 n0 (World.block_lt_of_cell? _ _ n0)
  obtain ⟨D0, hD0⟩ : ∃ D, (⟨(Lib.itoa b).toArray⟩ : ByteArray) = D := ⟨_, rfl⟩
  have HD0 := Lib.hid hD0
  have y0 : D0.size ≤ 2 := by rw [← hD0, itoa_fig (x := b) (by omega)]; exact fig_size b.toNat
  have q0 : ¬ 9223372036854775807 < 1 + D0.size := by omega
  have r0 : ¬ 9223372036854775807 < S0.size + (1 + D0.size) := by omega
  (try simp only [hD0])
  clear hD0 hb5
  go_wp2_with fail
  (try simp only [Exit.then])
  rw [rounds_succ]
  go_wp2
  go_ret
  refine ⟨?_, HB5.out⟩
  rw [HT2.out]
  show Ending.returned (Value.string _) = _
  rw [← HS0.out, ← HD0.out, itoa_fig (x := b) (by omega)]
  all_goals congr 2
  all_goals first | rfl | (have e32 : (⟨#[32]⟩ : ByteArray) = ⟨[32].toArray⟩ := rfl; rw [e32]; simp only [cat_lists, List.append_assoc, List.cons_append, List.nil_append])

set_option maxHeartbeats 4000000 in
theorem fmtRank_is (k : Nat) (b r c : Int) (hk : 6 ≤ k ∧ k ≤ 9) (h : CmOk k b r c) (w : World) (ht : Tab10 w) (hw : WordsVar w) :
    Calls Tryd.prog 17 #[.agg #[.int .i64 (k : Int), .int .i64 b, .int .i64 r, .int .i64 c]] w (Gives (.string ⟨(txtL k b.toNat r.toNat c.toNat).toArray⟩) w) := by
  have HT := Lib.hid (Lib.tabBelow_of_tabIs ht)
  obtain ⟨w1, hw1⟩ : ∃ u, w.alloc (.cells #[.int .i64 (k : Int), .int .i64 b, .int .i64 r, .int .i64 c] 35) = u := ⟨_, rfl⟩
  have HB1 : Hid (Below w.heap.size w w1) := by subst hw1; exact (Below.refl _ _).alloc (Nat.le_refl _) _
  have p1 : w1.heap[w.heap.size]? = some (.cells #[.int .i64 (k : Int), .int .i64 b, .int .i64 r, .int .i64 c] 35) := by subst hw1; exact heap_alloc_new _ _
  obtain ⟨c0, c1, c2, c3⟩ := cells4 p1
  have KW := Lib.hid (decide_eq_true h)
  have OV : Hid (opV k b r c = .iface 107 (.agg #[.int .i64 (k : Int)])) := by
    show _ = _
    simp only [opV]
    rw [if_neg (by omega)]
    rw [if_neg (by omega)]
    rw [if_neg (by omega)]
    rw [if_pos (by omega)]
  have HT2 : Hid (txtL k b.toNat r.toNat c.toNat = wordL k) := by
    show _ = _
    unfold txtL
    rw [show decide (k ≤ 5) = false from decide_eq_false (by omega), show decide (k = 1) = false from decide_eq_false (by omega)]
    rw [show (decide (k = 2) || decide (k = 3)) = false by simp; omega]
    simp [fldL]
  obtain ⟨⟨hk0, hk9⟩, hb, hr, hc, _⟩ := h
  obtain ⟨S0, hS0⟩ : ∃ S, (⟨(wordL k).toArray⟩ : ByteArray) = S := ⟨_, rfl⟩
  have HS0 := Lib.hid hS0
  have z0 : S0.size ≤ 5 := by rw [← hS0]; exact word_size k (by omega)
  have HW : Hid (w.cell? ⟨0, k, none⟩ = some (.string S0)) := by rw [← hS0]; exact hw k (by omega)
  clear hS0 hw ht hk
  go_enter Tryd.func17, Tryd.ntmps17
  go_wp2_with fail
  refine (implWell_is _ _ _ _ _ KW.out _).mono ?_
  rintro e w2 ⟨rfl, hb2⟩
  have p2 := keep_block hb2 p1 (lt_of_block p1)
  have HB2 : Hid (Below w.heap.size w w2) := HB1.out.trans (hb2.mono HB1.out.size)
  clear hb2 p1 HB1 hw1 c0 c1 c2 c3
  obtain ⟨c0, c1, c2, c3⟩ := cells4 p2
  have hword := keep_cell HB2.out HW.out (World.block_lt_of_cell? _ _ HW.out)
  have hk10 : k < 10 := by omega
  go_wp2_with fail
  refine (implOpOf_is _ _ _ _ _ OV.out _).mono ?_
  rintro e w3 ⟨rfl, hb3⟩
  have HB3 : Hid (Below w.heap.size w w3) := HB2.out.trans (hb3.mono HB2.out.size)
  clear hb3 c0 c1 c2 c3 p2 hword hk10
  go_wp2_with fail
  refine (implNumsRank_is _ 0 0 0 _).mono ?_
  rintro e w4 ⟨rfl, hb4⟩
  have HB4 : Hid (Below w.heap.size w w4) := HB3.out.trans (hb4.mono HB3.out.size)
  clear hb4
  go_wp2_with fail
  refine wp_loop_rounds 1 ?_
  rw [rounds_succ]
  go_wp2
  go_ret
  refine ⟨?_, HB4.out⟩
  rw [HT2.out]
  show Ending.returned (Value.string _) = _
  rw [← HS0.out]
  all_goals congr 2
  all_goals first | rfl | (have e32 : (⟨#[32]⟩ : ByteArray) = ⟨[32].toArray⟩ := rfl; rw [e32]; simp only [cat_lists, List.append_assoc, List.cons_append, List.nil_append])

theorem implFmt_is (k b r c : Int) (s : ByteArray) (hs : fmtB k b r c = s) (w : World) (ht : Tab10 w) (hw : WordsVar w) :
    Calls Tryd.prog 17 #[.agg #[.int .i64 k, .int .i64 b, .int .i64 r, .int .i64 c]] w (Gives (.string s) w) := by
  by_cases h : CmOk k b r c
  · obtain ⟨k, rfl⟩ := Int.eq_ofNat_of_zero_le (show 0 ≤ k by have := h.1; omega)
    have e : s = ⟨(txtL k b.toNat r.toNat c.toNat).toArray⟩ := by rw [← hs]; exact if_pos h
    rw [e]
    have h1 := h.1
    rcases (show k = 1 ∨ (k = 2 ∨ k = 3) ∨ (k = 4 ∨ k = 5) ∨ (6 ≤ k ∧ k ≤ 9) by omega) with hk | hk | hk | hk
    · exact fmtRow_is k b r c hk h w ht hw
    · exact fmtCol_is k b r c hk h w ht hw
    · exact fmtBank_is k b r c hk h w ht hw
    · exact fmtRank_is k b r c hk h w ht hw
  · have HE : Hid (s = ⟨#[]⟩) := by show _ = _; rw [← hs]; exact if_neg h
    have K := Lib.hid (decide_eq_false h)
    obtain ⟨w1, hw1⟩ : ∃ u, w.alloc (.cells #[.int .i64 k, .int .i64 b, .int .i64 r, .int .i64 c] 35) = u := ⟨_, rfl⟩
    have HB1 : Hid (Below w.heap.size w w1) := by subst hw1; exact (Below.refl _ _).alloc (Nat.le_refl _) _
    have p1 : w1.heap[w.heap.size]? = some (.cells #[.int .i64 k, .int .i64 b, .int .i64 r, .int .i64 c] 35) := by subst hw1; exact heap_alloc_new _ _
    obtain ⟨c0, c1, c2, c3⟩ := cells4 p1
    clear hs h hw ht
    go_enter Tryd.func17, Tryd.ntmps17
    go_wp2_with fail
    refine (implWell_is _ _ _ _ _ K.out _).mono ?_
    rintro e w2 ⟨rfl, hb2⟩
    have HB2 : Hid (Below w.heap.size w w2) := HB1.out.trans (hb2.mono HB1.out.size)
    clear hb2
    go_wp2
    go_ret
    exact ⟨by rw [HE.out]; rfl, HB2.out⟩

end Go.Proofs.YtihhcnckoeaihaaDoor
