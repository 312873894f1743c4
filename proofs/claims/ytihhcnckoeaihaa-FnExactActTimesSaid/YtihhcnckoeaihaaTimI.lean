/-
  impl's rules: each a method of Timing; the distance by a rule.
-/
import Derived.Test.YtihhcnckoeaihaaTimC
import Derived.Test.YtihhcnckoeaihaaCmdK
import Derived.Laws.EntriesVeiled
namespace Go.Proofs.Ytihhcnckoeaihaa
open Go.RowKit

set_option linter.unusedVariables false

theorem m_actToAccess (t : Tm) (h : TimOk t) (w : World) : Calls Try.prog 113 #[.agg #[.int .i64 t.rcd, .int .i64 t.rp, .int .i64 t.ras, .int .i64 t.rrds, .int .i64 t.rrdl, .int .i64 t.faw, .int .i64 t.ccds, .int .i64 t.ccdl, .int .i64 t.rtp, .int .i64 t.wr, .int .i64 t.wtrs, .int .i64 t.wtrl, .int .i64 t.rtw, .int .i64 t.rfc, .int .i64 t.cke, .int .i64 t.xp, .int .i64 t.xs]] w (Gives (.int .i64 (t.rcd)) w) := by
  obtain ⟨w1, hw1⟩ : ∃ u, w.alloc (.cells #[.int .i64 t.rcd, .int .i64 t.rp, .int .i64 t.ras, .int .i64 t.rrds, .int .i64 t.rrdl, .int .i64 t.faw, .int .i64 t.ccds, .int .i64 t.ccdl, .int .i64 t.rtp, .int .i64 t.wr, .int .i64 t.wtrs, .int .i64 t.wtrl, .int .i64 t.rtw, .int .i64 t.rfc, .int .i64 t.cke, .int .i64 t.xp, .int .i64 t.xs] 32) = u := ⟨_, rfl⟩
  have HB1 : Hid (Below w.heap.size w w1) := by subst hw1; exact (Below.refl _ _).alloc (Nat.le_refl _) _
  have p1 : w1.heap[w.heap.size]? = some (.cells #[.int .i64 t.rcd, .int .i64 t.rp, .int .i64 t.ras, .int .i64 t.rrds, .int .i64 t.rrdl, .int .i64 t.faw, .int .i64 t.ccds, .int .i64 t.ccdl, .int .i64 t.rtp, .int .i64 t.wr, .int .i64 t.wtrs, .int .i64 t.wtrl, .int .i64 t.rtw, .int .i64 t.rfc, .int .i64 t.cke, .int .i64 t.xp, .int .i64 t.xs] 32) := by subst hw1; exact heap_alloc_new _ _
  obtain ⟨c0, _, _, _, _, _, _, _, _, _, _, _, _, _, _, _, _⟩ := tm_cells p1
  clear p1 h
  go_enter Try.func113, Try.ntmps113
  go_wp2
  go_ret
  exact ⟨rfl, HB1.out⟩

theorem m_actToPre (t : Tm) (h : TimOk t) (w : World) : Calls Try.prog 114 #[.agg #[.int .i64 t.rcd, .int .i64 t.rp, .int .i64 t.ras, .int .i64 t.rrds, .int .i64 t.rrdl, .int .i64 t.faw, .int .i64 t.ccds, .int .i64 t.ccdl, .int .i64 t.rtp, .int .i64 t.wr, .int .i64 t.wtrs, .int .i64 t.wtrl, .int .i64 t.rtw, .int .i64 t.rfc, .int .i64 t.cke, .int .i64 t.xp, .int .i64 t.xs]] w (Gives (.int .i64 (t.ras)) w) := by
  obtain ⟨w1, hw1⟩ : ∃ u, w.alloc (.cells #[.int .i64 t.rcd, .int .i64 t.rp, .int .i64 t.ras, .int .i64 t.rrds, .int .i64 t.rrdl, .int .i64 t.faw, .int .i64 t.ccds, .int .i64 t.ccdl, .int .i64 t.rtp, .int .i64 t.wr, .int .i64 t.wtrs, .int .i64 t.wtrl, .int .i64 t.rtw, .int .i64 t.rfc, .int .i64 t.cke, .int .i64 t.xp, .int .i64 t.xs] 32) = u := ⟨_, rfl⟩
  have HB1 : Hid (Below w.heap.size w w1) := by subst hw1; exact (Below.refl _ _).alloc (Nat.le_refl _) _
  have p1 : w1.heap[w.heap.size]? = some (.cells #[.int .i64 t.rcd, .int .i64 t.rp, .int .i64 t.ras, .int .i64 t.rrds, .int .i64 t.rrdl, .int .i64 t.faw, .int .i64 t.ccds, .int .i64 t.ccdl, .int .i64 t.rtp, .int .i64 t.wr, .int .i64 t.wtrs, .int .i64 t.wtrl, .int .i64 t.rtw, .int .i64 t.rfc, .int .i64 t.cke, .int .i64 t.xp, .int .i64 t.xs] 32) := by subst hw1; exact heap_alloc_new _ _
  obtain ⟨_, _, c2, _, _, _, _, _, _, _, _, _, _, _, _, _, _⟩ := tm_cells p1
  clear p1 h
  go_enter Try.func114, Try.ntmps114
  go_wp2
  go_ret
  exact ⟨rfl, HB1.out⟩

theorem m_actToClosed (t : Tm) (h : TimOk t) (w : World) : Calls Try.prog 100 #[.agg #[.int .i64 t.rcd, .int .i64 t.rp, .int .i64 t.ras, .int .i64 t.rrds, .int .i64 t.rrdl, .int .i64 t.faw, .int .i64 t.ccds, .int .i64 t.ccdl, .int .i64 t.rtp, .int .i64 t.wr, .int .i64 t.wtrs, .int .i64 t.wtrl, .int .i64 t.rtw, .int .i64 t.rfc, .int .i64 t.cke, .int .i64 t.xp, .int .i64 t.xs]] w (Gives (.int .i64 (t.ras + t.rp)) w) := by
  obtain ⟨w1, hw1⟩ : ∃ u, w.alloc (.cells #[.int .i64 t.rcd, .int .i64 t.rp, .int .i64 t.ras, .int .i64 t.rrds, .int .i64 t.rrdl, .int .i64 t.faw, .int .i64 t.ccds, .int .i64 t.ccdl, .int .i64 t.rtp, .int .i64 t.wr, .int .i64 t.wtrs, .int .i64 t.wtrl, .int .i64 t.rtw, .int .i64 t.rfc, .int .i64 t.cke, .int .i64 t.xp, .int .i64 t.xs] 32) = u := ⟨_, rfl⟩
  have HB1 : Hid (Below w.heap.size w w1) := by subst hw1; exact (Below.refl _ _).alloc (Nat.le_refl _) _
  have p1 : w1.heap[w.heap.size]? = some (.cells #[.int .i64 t.rcd, .int .i64 t.rp, .int .i64 t.ras, .int .i64 t.rrds, .int .i64 t.rrdl, .int .i64 t.faw, .int .i64 t.ccds, .int .i64 t.ccdl, .int .i64 t.rtp, .int .i64 t.wr, .int .i64 t.wtrs, .int .i64 t.wtrl, .int .i64 t.rtw, .int .i64 t.rfc, .int .i64 t.cke, .int .i64 t.xp, .int .i64 t.xs] 32) := by subst hw1; exact heap_alloc_new _ _
  obtain ⟨_, c1, c2, _, _, _, _, _, _, _, _, _, _, _, _, _, _⟩ := tm_cells p1
  obtain ⟨n0, n1, n2, n3, n4, n5, n6, n7, n8, n9, n10, n11, n12, n13, n14, n15, n16⟩ := h.nums
  unfold In64 at *
  have e1 : IntKind.i64.wrap (t.ras + t.rp) = t.ras + t.rp := IntWalk.i64_in _ ⟨by omega, by omega⟩
  clear n0 n1 n2 n3 n4 n5 n6 n7 n8 n9 n10 n11 n12 n13 n14 n15 n16
  clear p1 h
  go_enter Try.func100, Try.ntmps100
  go_wp2
  go_ret
  exact ⟨rfl, HB1.out⟩

theorem m_readToPre (t : Tm) (h : TimOk t) (w : World) : Calls Try.prog 102 #[.agg #[.int .i64 t.rcd, .int .i64 t.rp, .int .i64 t.ras, .int .i64 t.rrds, .int .i64 t.rrdl, .int .i64 t.faw, .int .i64 t.ccds, .int .i64 t.ccdl, .int .i64 t.rtp, .int .i64 t.wr, .int .i64 t.wtrs, .int .i64 t.wtrl, .int .i64 t.rtw, .int .i64 t.rfc, .int .i64 t.cke, .int .i64 t.xp, .int .i64 t.xs]] w (Gives (.int .i64 (t.rtp)) w) := by
  obtain ⟨w1, hw1⟩ : ∃ u, w.alloc (.cells #[.int .i64 t.rcd, .int .i64 t.rp, .int .i64 t.ras, .int .i64 t.rrds, .int .i64 t.rrdl, .int .i64 t.faw, .int .i64 t.ccds, .int .i64 t.ccdl, .int .i64 t.rtp, .int .i64 t.wr, .int .i64 t.wtrs, .int .i64 t.wtrl, .int .i64 t.rtw, .int .i64 t.rfc, .int .i64 t.cke, .int .i64 t.xp, .int .i64 t.xs] 32) = u := ⟨_, rfl⟩
  have HB1 : Hid (Below w.heap.size w w1) := by subst hw1; exact (Below.refl _ _).alloc (Nat.le_refl _) _
  have p1 : w1.heap[w.heap.size]? = some (.cells #[.int .i64 t.rcd, .int .i64 t.rp, .int .i64 t.ras, .int .i64 t.rrds, .int .i64 t.rrdl, .int .i64 t.faw, .int .i64 t.ccds, .int .i64 t.ccdl, .int .i64 t.rtp, .int .i64 t.wr, .int .i64 t.wtrs, .int .i64 t.wtrl, .int .i64 t.rtw, .int .i64 t.rfc, .int .i64 t.cke, .int .i64 t.xp, .int .i64 t.xs] 32) := by subst hw1; exact heap_alloc_new _ _
  obtain ⟨_, _, _, _, _, _, _, _, c8, _, _, _, _, _, _, _, _⟩ := tm_cells p1
  clear p1 h
  go_enter Try.func102, Try.ntmps102
  go_wp2
  go_ret
  exact ⟨rfl, HB1.out⟩

theorem m_readToClosed (t : Tm) (h : TimOk t) (w : World) : Calls Try.prog 103 #[.agg #[.int .i64 t.rcd, .int .i64 t.rp, .int .i64 t.ras, .int .i64 t.rrds, .int .i64 t.rrdl, .int .i64 t.faw, .int .i64 t.ccds, .int .i64 t.ccdl, .int .i64 t.rtp, .int .i64 t.wr, .int .i64 t.wtrs, .int .i64 t.wtrl, .int .i64 t.rtw, .int .i64 t.rfc, .int .i64 t.cke, .int .i64 t.xp, .int .i64 t.xs]] w (Gives (.int .i64 (t.rtp + t.rp)) w) := by
  obtain ⟨w1, hw1⟩ : ∃ u, w.alloc (.cells #[.int .i64 t.rcd, .int .i64 t.rp, .int .i64 t.ras, .int .i64 t.rrds, .int .i64 t.rrdl, .int .i64 t.faw, .int .i64 t.ccds, .int .i64 t.ccdl, .int .i64 t.rtp, .int .i64 t.wr, .int .i64 t.wtrs, .int .i64 t.wtrl, .int .i64 t.rtw, .int .i64 t.rfc, .int .i64 t.cke, .int .i64 t.xp, .int .i64 t.xs] 32) = u := ⟨_, rfl⟩
  have HB1 : Hid (Below w.heap.size w w1) := by subst hw1; exact (Below.refl _ _).alloc (Nat.le_refl _) _
  have p1 : w1.heap[w.heap.size]? = some (.cells #[.int .i64 t.rcd, .int .i64 t.rp, .int .i64 t.ras, .int .i64 t.rrds, .int .i64 t.rrdl, .int .i64 t.faw, .int .i64 t.ccds, .int .i64 t.ccdl, .int .i64 t.rtp, .int .i64 t.wr, .int .i64 t.wtrs, .int .i64 t.wtrl, .int .i64 t.rtw, .int .i64 t.rfc, .int .i64 t.cke, .int .i64 t.xp, .int .i64 t.xs] 32) := by subst hw1; exact heap_alloc_new _ _
  obtain ⟨_, c1, _, _, _, _, _, _, c8, _, _, _, _, _, _, _, _⟩ := tm_cells p1
  obtain ⟨n0, n1, n2, n3, n4, n5, n6, n7, n8, n9, n10, n11, n12, n13, n14, n15, n16⟩ := h.nums
  unfold In64 at *
  have e1 : IntKind.i64.wrap (t.rtp + t.rp) = t.rtp + t.rp := IntWalk.i64_in _ ⟨by omega, by omega⟩
  clear n0 n1 n2 n3 n4 n5 n6 n7 n8 n9 n10 n11 n12 n13 n14 n15 n16
  clear p1 h
  go_enter Try.func103, Try.ntmps103
  go_wp2
  go_ret
  exact ⟨rfl, HB1.out⟩

theorem m_writeToPre (t : Tm) (h : TimOk t) (w : World) : Calls Try.prog 104 #[.agg #[.int .i64 t.rcd, .int .i64 t.rp, .int .i64 t.ras, .int .i64 t.rrds, .int .i64 t.rrdl, .int .i64 t.faw, .int .i64 t.ccds, .int .i64 t.ccdl, .int .i64 t.rtp, .int .i64 t.wr, .int .i64 t.wtrs, .int .i64 t.wtrl, .int .i64 t.rtw, .int .i64 t.rfc, .int .i64 t.cke, .int .i64 t.xp, .int .i64 t.xs]] w (Gives (.int .i64 (t.wr)) w) := by
  obtain ⟨w1, hw1⟩ : ∃ u, w.alloc (.cells #[.int .i64 t.rcd, .int .i64 t.rp, .int .i64 t.ras, .int .i64 t.rrds, .int .i64 t.rrdl, .int .i64 t.faw, .int .i64 t.ccds, .int .i64 t.ccdl, .int .i64 t.rtp, .int .i64 t.wr, .int .i64 t.wtrs, .int .i64 t.wtrl, .int .i64 t.rtw, .int .i64 t.rfc, .int .i64 t.cke, .int .i64 t.xp, .int .i64 t.xs] 32) = u := ⟨_, rfl⟩
  have HB1 : Hid (Below w.heap.size w w1) := by subst hw1; exact (Below.refl _ _).alloc (Nat.le_refl _) _
  have p1 : w1.heap[w.heap.size]? = some (.cells #[.int .i64 t.rcd, .int .i64 t.rp, .int .i64 t.ras, .int .i64 t.rrds, .int .i64 t.rrdl, .int .i64 t.faw, .int .i64 t.ccds, .int .i64 t.ccdl, .int .i64 t.rtp, .int .i64 t.wr, .int .i64 t.wtrs, .int .i64 t.wtrl, .int .i64 t.rtw, .int .i64 t.rfc, .int .i64 t.cke, .int .i64 t.xp, .int .i64 t.xs] 32) := by subst hw1; exact heap_alloc_new _ _
  obtain ⟨_, _, _, _, _, _, _, _, _, c9, _, _, _, _, _, _, _⟩ := tm_cells p1
  clear p1 h
  go_enter Try.func104, Try.ntmps104
  go_wp2
  go_ret
  exact ⟨rfl, HB1.out⟩

theorem m_writeToClosed (t : Tm) (h : TimOk t) (w : World) : Calls Try.prog 105 #[.agg #[.int .i64 t.rcd, .int .i64 t.rp, .int .i64 t.ras, .int .i64 t.rrds, .int .i64 t.rrdl, .int .i64 t.faw, .int .i64 t.ccds, .int .i64 t.ccdl, .int .i64 t.rtp, .int .i64 t.wr, .int .i64 t.wtrs, .int .i64 t.wtrl, .int .i64 t.rtw, .int .i64 t.rfc, .int .i64 t.cke, .int .i64 t.xp, .int .i64 t.xs]] w (Gives (.int .i64 (t.wr + t.rp)) w) := by
  obtain ⟨w1, hw1⟩ : ∃ u, w.alloc (.cells #[.int .i64 t.rcd, .int .i64 t.rp, .int .i64 t.ras, .int .i64 t.rrds, .int .i64 t.rrdl, .int .i64 t.faw, .int .i64 t.ccds, .int .i64 t.ccdl, .int .i64 t.rtp, .int .i64 t.wr, .int .i64 t.wtrs, .int .i64 t.wtrl, .int .i64 t.rtw, .int .i64 t.rfc, .int .i64 t.cke, .int .i64 t.xp, .int .i64 t.xs] 32) = u := ⟨_, rfl⟩
  have HB1 : Hid (Below w.heap.size w w1) := by subst hw1; exact (Below.refl _ _).alloc (Nat.le_refl _) _
  have p1 : w1.heap[w.heap.size]? = some (.cells #[.int .i64 t.rcd, .int .i64 t.rp, .int .i64 t.ras, .int .i64 t.rrds, .int .i64 t.rrdl, .int .i64 t.faw, .int .i64 t.ccds, .int .i64 t.ccdl, .int .i64 t.rtp, .int .i64 t.wr, .int .i64 t.wtrs, .int .i64 t.wtrl, .int .i64 t.rtw, .int .i64 t.rfc, .int .i64 t.cke, .int .i64 t.xp, .int .i64 t.xs] 32) := by subst hw1; exact heap_alloc_new _ _
  obtain ⟨_, c1, _, _, _, _, _, _, _, c9, _, _, _, _, _, _, _⟩ := tm_cells p1
  obtain ⟨n0, n1, n2, n3, n4, n5, n6, n7, n8, n9, n10, n11, n12, n13, n14, n15, n16⟩ := h.nums
  unfold In64 at *
  have e1 : IntKind.i64.wrap (t.wr + t.rp) = t.wr + t.rp := IntWalk.i64_in _ ⟨by omega, by omega⟩
  clear n0 n1 n2 n3 n4 n5 n6 n7 n8 n9 n10 n11 n12 n13 n14 n15 n16
  clear p1 h
  go_enter Try.func105, Try.ntmps105
  go_wp2
  go_ret
  exact ⟨rfl, HB1.out⟩

theorem m_preToClosed (t : Tm) (h : TimOk t) (w : World) : Calls Try.prog 106 #[.agg #[.int .i64 t.rcd, .int .i64 t.rp, .int .i64 t.ras, .int .i64 t.rrds, .int .i64 t.rrdl, .int .i64 t.faw, .int .i64 t.ccds, .int .i64 t.ccdl, .int .i64 t.rtp, .int .i64 t.wr, .int .i64 t.wtrs, .int .i64 t.wtrl, .int .i64 t.rtw, .int .i64 t.rfc, .int .i64 t.cke, .int .i64 t.xp, .int .i64 t.xs]] w (Gives (.int .i64 (t.rp)) w) := by
  obtain ⟨w1, hw1⟩ : ∃ u, w.alloc (.cells #[.int .i64 t.rcd, .int .i64 t.rp, .int .i64 t.ras, .int .i64 t.rrds, .int .i64 t.rrdl, .int .i64 t.faw, .int .i64 t.ccds, .int .i64 t.ccdl, .int .i64 t.rtp, .int .i64 t.wr, .int .i64 t.wtrs, .int .i64 t.wtrl, .int .i64 t.rtw, .int .i64 t.rfc, .int .i64 t.cke, .int .i64 t.xp, .int .i64 t.xs] 32) = u := ⟨_, rfl⟩
  have HB1 : Hid (Below w.heap.size w w1) := by subst hw1; exact (Below.refl _ _).alloc (Nat.le_refl _) _
  have p1 : w1.heap[w.heap.size]? = some (.cells #[.int .i64 t.rcd, .int .i64 t.rp, .int .i64 t.ras, .int .i64 t.rrds, .int .i64 t.rrdl, .int .i64 t.faw, .int .i64 t.ccds, .int .i64 t.ccdl, .int .i64 t.rtp, .int .i64 t.wr, .int .i64 t.wtrs, .int .i64 t.wtrl, .int .i64 t.rtw, .int .i64 t.rfc, .int .i64 t.cke, .int .i64 t.xp, .int .i64 t.xs] 32) := by subst hw1; exact heap_alloc_new _ _
  obtain ⟨_, c1, _, _, _, _, _, _, _, _, _, _, _, _, _, _, _⟩ := tm_cells p1
  clear p1 h
  go_enter Try.func106, Try.ntmps106
  go_wp2
  go_ret
  exact ⟨rfl, HB1.out⟩

theorem m_refToDone (t : Tm) (h : TimOk t) (w : World) : Calls Try.prog 108 #[.agg #[.int .i64 t.rcd, .int .i64 t.rp, .int .i64 t.ras, .int .i64 t.rrds, .int .i64 t.rrdl, .int .i64 t.faw, .int .i64 t.ccds, .int .i64 t.ccdl, .int .i64 t.rtp, .int .i64 t.wr, .int .i64 t.wtrs, .int .i64 t.wtrl, .int .i64 t.rtw, .int .i64 t.rfc, .int .i64 t.cke, .int .i64 t.xp, .int .i64 t.xs]] w (Gives (.int .i64 (t.rfc)) w) := by
  obtain ⟨w1, hw1⟩ : ∃ u, w.alloc (.cells #[.int .i64 t.rcd, .int .i64 t.rp, .int .i64 t.ras, .int .i64 t.rrds, .int .i64 t.rrdl, .int .i64 t.faw, .int .i64 t.ccds, .int .i64 t.ccdl, .int .i64 t.rtp, .int .i64 t.wr, .int .i64 t.wtrs, .int .i64 t.wtrl, .int .i64 t.rtw, .int .i64 t.rfc, .int .i64 t.cke, .int .i64 t.xp, .int .i64 t.xs] 32) = u := ⟨_, rfl⟩
  have HB1 : Hid (Below w.heap.size w w1) := by subst hw1; exact (Below.refl _ _).alloc (Nat.le_refl _) _
  have p1 : w1.heap[w.heap.size]? = some (.cells #[.int .i64 t.rcd, .int .i64 t.rp, .int .i64 t.ras, .int .i64 t.rrds, .int .i64 t.rrdl, .int .i64 t.faw, .int .i64 t.ccds, .int .i64 t.ccdl, .int .i64 t.rtp, .int .i64 t.wr, .int .i64 t.wtrs, .int .i64 t.wtrl, .int .i64 t.rtw, .int .i64 t.rfc, .int .i64 t.cke, .int .i64 t.xp, .int .i64 t.xs] 32) := by subst hw1; exact heap_alloc_new _ _
  obtain ⟨_, _, _, _, _, _, _, _, _, _, _, _, _, c13, _, _, _⟩ := tm_cells p1
  clear p1 h
  go_enter Try.func108, Try.ntmps108
  go_wp2
  go_ret
  exact ⟨rfl, HB1.out⟩

theorem m_actToNearAct (t : Tm) (h : TimOk t) (w : World) : Calls Try.prog 97 #[.agg #[.int .i64 t.rcd, .int .i64 t.rp, .int .i64 t.ras, .int .i64 t.rrds, .int .i64 t.rrdl, .int .i64 t.faw, .int .i64 t.ccds, .int .i64 t.ccdl, .int .i64 t.rtp, .int .i64 t.wr, .int .i64 t.wtrs, .int .i64 t.wtrl, .int .i64 t.rtw, .int .i64 t.rfc, .int .i64 t.cke, .int .i64 t.xp, .int .i64 t.xs]] w (Gives (.int .i64 (t.rrdl)) w) := by
  obtain ⟨w1, hw1⟩ : ∃ u, w.alloc (.cells #[.int .i64 t.rcd, .int .i64 t.rp, .int .i64 t.ras, .int .i64 t.rrds, .int .i64 t.rrdl, .int .i64 t.faw, .int .i64 t.ccds, .int .i64 t.ccdl, .int .i64 t.rtp, .int .i64 t.wr, .int .i64 t.wtrs, .int .i64 t.wtrl, .int .i64 t.rtw, .int .i64 t.rfc, .int .i64 t.cke, .int .i64 t.xp, .int .i64 t.xs] 32) = u := ⟨_, rfl⟩
  have HB1 : Hid (Below w.heap.size w w1) := by subst hw1; exact (Below.refl _ _).alloc (Nat.le_refl _) _
  have p1 : w1.heap[w.heap.size]? = some (.cells #[.int .i64 t.rcd, .int .i64 t.rp, .int .i64 t.ras, .int .i64 t.rrds, .int .i64 t.rrdl, .int .i64 t.faw, .int .i64 t.ccds, .int .i64 t.ccdl, .int .i64 t.rtp, .int .i64 t.wr, .int .i64 t.wtrs, .int .i64 t.wtrl, .int .i64 t.rtw, .int .i64 t.rfc, .int .i64 t.cke, .int .i64 t.xp, .int .i64 t.xs] 32) := by subst hw1; exact heap_alloc_new _ _
  obtain ⟨_, _, _, _, c4, _, _, _, _, _, _, _, _, _, _, _, _⟩ := tm_cells p1
  clear p1 h
  go_enter Try.func97, Try.ntmps97
  go_wp2
  go_ret
  exact ⟨rfl, HB1.out⟩

theorem m_actToFarAct (t : Tm) (h : TimOk t) (w : World) : Calls Try.prog 94 #[.agg #[.int .i64 t.rcd, .int .i64 t.rp, .int .i64 t.ras, .int .i64 t.rrds, .int .i64 t.rrdl, .int .i64 t.faw, .int .i64 t.ccds, .int .i64 t.ccdl, .int .i64 t.rtp, .int .i64 t.wr, .int .i64 t.wtrs, .int .i64 t.wtrl, .int .i64 t.rtw, .int .i64 t.rfc, .int .i64 t.cke, .int .i64 t.xp, .int .i64 t.xs]] w (Gives (.int .i64 (t.rrds)) w) := by
  obtain ⟨w1, hw1⟩ : ∃ u, w.alloc (.cells #[.int .i64 t.rcd, .int .i64 t.rp, .int .i64 t.ras, .int .i64 t.rrds, .int .i64 t.rrdl, .int .i64 t.faw, .int .i64 t.ccds, .int .i64 t.ccdl, .int .i64 t.rtp, .int .i64 t.wr, .int .i64 t.wtrs, .int .i64 t.wtrl, .int .i64 t.rtw, .int .i64 t.rfc, .int .i64 t.cke, .int .i64 t.xp, .int .i64 t.xs] 32) = u := ⟨_, rfl⟩
  have HB1 : Hid (Below w.heap.size w w1) := by subst hw1; exact (Below.refl _ _).alloc (Nat.le_refl _) _
  have p1 : w1.heap[w.heap.size]? = some (.cells #[.int .i64 t.rcd, .int .i64 t.rp, .int .i64 t.ras, .int .i64 t.rrds, .int .i64 t.rrdl, .int .i64 t.faw, .int .i64 t.ccds, .int .i64 t.ccdl, .int .i64 t.rtp, .int .i64 t.wr, .int .i64 t.wtrs, .int .i64 t.wtrl, .int .i64 t.rtw, .int .i64 t.rfc, .int .i64 t.cke, .int .i64 t.xp, .int .i64 t.xs] 32) := by subst hw1; exact heap_alloc_new _ _
  obtain ⟨_, _, _, c3, _, _, _, _, _, _, _, _, _, _, _, _, _⟩ := tm_cells p1
  clear p1 h
  go_enter Try.func94, Try.ntmps94
  go_wp2
  go_ret
  exact ⟨rfl, HB1.out⟩

theorem m_accessToNearAccess (t : Tm) (h : TimOk t) (w : World) : Calls Try.prog 98 #[.agg #[.int .i64 t.rcd, .int .i64 t.rp, .int .i64 t.ras, .int .i64 t.rrds, .int .i64 t.rrdl, .int .i64 t.faw, .int .i64 t.ccds, .int .i64 t.ccdl, .int .i64 t.rtp, .int .i64 t.wr, .int .i64 t.wtrs, .int .i64 t.wtrl, .int .i64 t.rtw, .int .i64 t.rfc, .int .i64 t.cke, .int .i64 t.xp, .int .i64 t.xs]] w (Gives (.int .i64 (t.ccdl)) w) := by
  obtain ⟨w1, hw1⟩ : ∃ u, w.alloc (.cells #[.int .i64 t.rcd, .int .i64 t.rp, .int .i64 t.ras, .int .i64 t.rrds, .int .i64 t.rrdl, .int .i64 t.faw, .int .i64 t.ccds, .int .i64 t.ccdl, .int .i64 t.rtp, .int .i64 t.wr, .int .i64 t.wtrs, .int .i64 t.wtrl, .int .i64 t.rtw, .int .i64 t.rfc, .int .i64 t.cke, .int .i64 t.xp, .int .i64 t.xs] 32) = u := ⟨_, rfl⟩
  have HB1 : Hid (Below w.heap.size w w1) := by subst hw1; exact (Below.refl _ _).alloc (Nat.le_refl _) _
  have p1 : w1.heap[w.heap.size]? = some (.cells #[.int .i64 t.rcd, .int .i64 t.rp, .int .i64 t.ras, .int .i64 t.rrds, .int .i64 t.rrdl, .int .i64 t.faw, .int .i64 t.ccds, .int .i64 t.ccdl, .int .i64 t.rtp, .int .i64 t.wr, .int .i64 t.wtrs, .int .i64 t.wtrl, .int .i64 t.rtw, .int .i64 t.rfc, .int .i64 t.cke, .int .i64 t.xp, .int .i64 t.xs] 32) := by subst hw1; exact heap_alloc_new _ _
  obtain ⟨_, _, _, _, _, _, _, c7, _, _, _, _, _, _, _, _, _⟩ := tm_cells p1
  clear p1 h
  go_enter Try.func98, Try.ntmps98
  go_wp2
  go_ret
  exact ⟨rfl, HB1.out⟩

theorem m_accessToFarAccess (t : Tm) (h : TimOk t) (w : World) : Calls Try.prog 95 #[.agg #[.int .i64 t.rcd, .int .i64 t.rp, .int .i64 t.ras, .int .i64 t.rrds, .int .i64 t.rrdl, .int .i64 t.faw, .int .i64 t.ccds, .int .i64 t.ccdl, .int .i64 t.rtp, .int .i64 t.wr, .int .i64 t.wtrs, .int .i64 t.wtrl, .int .i64 t.rtw, .int .i64 t.rfc, .int .i64 t.cke, .int .i64 t.xp, .int .i64 t.xs]] w (Gives (.int .i64 (t.ccds)) w) := by
  obtain ⟨w1, hw1⟩ : ∃ u, w.alloc (.cells #[.int .i64 t.rcd, .int .i64 t.rp, .int .i64 t.ras, .int .i64 t.rrds, .int .i64 t.rrdl, .int .i64 t.faw, .int .i64 t.ccds, .int .i64 t.ccdl, .int .i64 t.rtp, .int .i64 t.wr, .int .i64 t.wtrs, .int .i64 t.wtrl, .int .i64 t.rtw, .int .i64 t.rfc, .int .i64 t.cke, .int .i64 t.xp, .int .i64 t.xs] 32) = u := ⟨_, rfl⟩
  have HB1 : Hid (Below w.heap.size w w1) := by subst hw1; exact (Below.refl _ _).alloc (Nat.le_refl _) _
  have p1 : w1.heap[w.heap.size]? = some (.cells #[.int .i64 t.rcd, .int .i64 t.rp, .int .i64 t.ras, .int .i64 t.rrds, .int .i64 t.rrdl, .int .i64 t.faw, .int .i64 t.ccds, .int .i64 t.ccdl, .int .i64 t.rtp, .int .i64 t.wr, .int .i64 t.wtrs, .int .i64 t.wtrl, .int .i64 t.rtw, .int .i64 t.rfc, .int .i64 t.cke, .int .i64 t.xp, .int .i64 t.xs] 32) := by subst hw1; exact heap_alloc_new _ _
  obtain ⟨_, _, _, _, _, _, c6, _, _, _, _, _, _, _, _, _, _⟩ := tm_cells p1
  clear p1 h
  go_enter Try.func95, Try.ntmps95
  go_wp2
  go_ret
  exact ⟨rfl, HB1.out⟩

theorem m_writeToNearRead (t : Tm) (h : TimOk t) (w : World) : Calls Try.prog 99 #[.agg #[.int .i64 t.rcd, .int .i64 t.rp, .int .i64 t.ras, .int .i64 t.rrds, .int .i64 t.rrdl, .int .i64 t.faw, .int .i64 t.ccds, .int .i64 t.ccdl, .int .i64 t.rtp, .int .i64 t.wr, .int .i64 t.wtrs, .int .i64 t.wtrl, .int .i64 t.rtw, .int .i64 t.rfc, .int .i64 t.cke, .int .i64 t.xp, .int .i64 t.xs]] w (Gives (.int .i64 (t.wtrl)) w) := by
  obtain ⟨w1, hw1⟩ : ∃ u, w.alloc (.cells #[.int .i64 t.rcd, .int .i64 t.rp, .int .i64 t.ras, .int .i64 t.rrds, .int .i64 t.rrdl, .int .i64 t.faw, .int .i64 t.ccds, .int .i64 t.ccdl, .int .i64 t.rtp, .int .i64 t.wr, .int .i64 t.wtrs, .int .i64 t.wtrl, .int .i64 t.rtw, .int .i64 t.rfc, .int .i64 t.cke, .int .i64 t.xp, .int .i64 t.xs] 32) = u := ⟨_, rfl⟩
  have HB1 : Hid (Below w.heap.size w w1) := by subst hw1; exact (Below.refl _ _).alloc (Nat.le_refl _) _
  have p1 : w1.heap[w.heap.size]? = some (.cells #[.int .i64 t.rcd, .int .i64 t.rp, .int .i64 t.ras, .int .i64 t.rrds, .int .i64 t.rrdl, .int .i64 t.faw, .int .i64 t.ccds, .int .i64 t.ccdl, .int .i64 t.rtp, .int .i64 t.wr, .int .i64 t.wtrs, .int .i64 t.wtrl, .int .i64 t.rtw, .int .i64 t.rfc, .int .i64 t.cke, .int .i64 t.xp, .int .i64 t.xs] 32) := by subst hw1; exact heap_alloc_new _ _
  obtain ⟨_, _, _, _, _, _, _, _, _, _, _, c11, _, _, _, _, _⟩ := tm_cells p1
  clear p1 h
  go_enter Try.func99, Try.ntmps99
  go_wp2
  go_ret
  exact ⟨rfl, HB1.out⟩

theorem m_writeToFarRead (t : Tm) (h : TimOk t) (w : World) : Calls Try.prog 96 #[.agg #[.int .i64 t.rcd, .int .i64 t.rp, .int .i64 t.ras, .int .i64 t.rrds, .int .i64 t.rrdl, .int .i64 t.faw, .int .i64 t.ccds, .int .i64 t.ccdl, .int .i64 t.rtp, .int .i64 t.wr, .int .i64 t.wtrs, .int .i64 t.wtrl, .int .i64 t.rtw, .int .i64 t.rfc, .int .i64 t.cke, .int .i64 t.xp, .int .i64 t.xs]] w (Gives (.int .i64 (t.wtrs)) w) := by
  obtain ⟨w1, hw1⟩ : ∃ u, w.alloc (.cells #[.int .i64 t.rcd, .int .i64 t.rp, .int .i64 t.ras, .int .i64 t.rrds, .int .i64 t.rrdl, .int .i64 t.faw, .int .i64 t.ccds, .int .i64 t.ccdl, .int .i64 t.rtp, .int .i64 t.wr, .int .i64 t.wtrs, .int .i64 t.wtrl, .int .i64 t.rtw, .int .i64 t.rfc, .int .i64 t.cke, .int .i64 t.xp, .int .i64 t.xs] 32) = u := ⟨_, rfl⟩
  have HB1 : Hid (Below w.heap.size w w1) := by subst hw1; exact (Below.refl _ _).alloc (Nat.le_refl _) _
  have p1 : w1.heap[w.heap.size]? = some (.cells #[.int .i64 t.rcd, .int .i64 t.rp, .int .i64 t.ras, .int .i64 t.rrds, .int .i64 t.rrdl, .int .i64 t.faw, .int .i64 t.ccds, .int .i64 t.ccdl, .int .i64 t.rtp, .int .i64 t.wr, .int .i64 t.wtrs, .int .i64 t.wtrl, .int .i64 t.rtw, .int .i64 t.rfc, .int .i64 t.cke, .int .i64 t.xp, .int .i64 t.xs] 32) := by subst hw1; exact heap_alloc_new _ _
  obtain ⟨_, _, _, _, _, _, _, _, _, _, c10, _, _, _, _, _, _⟩ := tm_cells p1
  clear p1 h
  go_enter Try.func96, Try.ntmps96
  go_wp2
  go_ret
  exact ⟨rfl, HB1.out⟩

theorem m_readToWrite (t : Tm) (h : TimOk t) (w : World) : Calls Try.prog 101 #[.agg #[.int .i64 t.rcd, .int .i64 t.rp, .int .i64 t.ras, .int .i64 t.rrds, .int .i64 t.rrdl, .int .i64 t.faw, .int .i64 t.ccds, .int .i64 t.ccdl, .int .i64 t.rtp, .int .i64 t.wr, .int .i64 t.wtrs, .int .i64 t.wtrl, .int .i64 t.rtw, .int .i64 t.rfc, .int .i64 t.cke, .int .i64 t.xp, .int .i64 t.xs]] w (Gives (.int .i64 (t.rtw)) w) := by
  obtain ⟨w1, hw1⟩ : ∃ u, w.alloc (.cells #[.int .i64 t.rcd, .int .i64 t.rp, .int .i64 t.ras, .int .i64 t.rrds, .int .i64 t.rrdl, .int .i64 t.faw, .int .i64 t.ccds, .int .i64 t.ccdl, .int .i64 t.rtp, .int .i64 t.wr, .int .i64 t.wtrs, .int .i64 t.wtrl, .int .i64 t.rtw, .int .i64 t.rfc, .int .i64 t.cke, .int .i64 t.xp, .int .i64 t.xs] 32) = u := ⟨_, rfl⟩
  have HB1 : Hid (Below w.heap.size w w1) := by subst hw1; exact (Below.refl _ _).alloc (Nat.le_refl _) _
  have p1 : w1.heap[w.heap.size]? = some (.cells #[.int .i64 t.rcd, .int .i64 t.rp, .int .i64 t.ras, .int .i64 t.rrds, .int .i64 t.rrdl, .int .i64 t.faw, .int .i64 t.ccds, .int .i64 t.ccdl, .int .i64 t.rtp, .int .i64 t.wr, .int .i64 t.wtrs, .int .i64 t.wtrl, .int .i64 t.rtw, .int .i64 t.rfc, .int .i64 t.cke, .int .i64 t.xp, .int .i64 t.xs] 32) := by subst hw1; exact heap_alloc_new _ _
  obtain ⟨_, _, _, _, _, _, _, _, _, _, _, _, c12, _, _, _, _⟩ := tm_cells p1
  clear p1 h
  go_enter Try.func101, Try.ntmps101
  go_wp2
  go_ret
  exact ⟨rfl, HB1.out⟩

theorem m_refToRef (t : Tm) (h : TimOk t) (w : World) : Calls Try.prog 107 #[.agg #[.int .i64 t.rcd, .int .i64 t.rp, .int .i64 t.ras, .int .i64 t.rrds, .int .i64 t.rrdl, .int .i64 t.faw, .int .i64 t.ccds, .int .i64 t.ccdl, .int .i64 t.rtp, .int .i64 t.wr, .int .i64 t.wtrs, .int .i64 t.wtrl, .int .i64 t.rtw, .int .i64 t.rfc, .int .i64 t.cke, .int .i64 t.xp, .int .i64 t.xs]] w (Gives (.int .i64 (t.rrdl)) w) := by
  obtain ⟨w1, hw1⟩ : ∃ u, w.alloc (.cells #[.int .i64 t.rcd, .int .i64 t.rp, .int .i64 t.ras, .int .i64 t.rrds, .int .i64 t.rrdl, .int .i64 t.faw, .int .i64 t.ccds, .int .i64 t.ccdl, .int .i64 t.rtp, .int .i64 t.wr, .int .i64 t.wtrs, .int .i64 t.wtrl, .int .i64 t.rtw, .int .i64 t.rfc, .int .i64 t.cke, .int .i64 t.xp, .int .i64 t.xs] 32) = u := ⟨_, rfl⟩
  have HB1 : Hid (Below w.heap.size w w1) := by subst hw1; exact (Below.refl _ _).alloc (Nat.le_refl _) _
  have p1 : w1.heap[w.heap.size]? = some (.cells #[.int .i64 t.rcd, .int .i64 t.rp, .int .i64 t.ras, .int .i64 t.rrds, .int .i64 t.rrdl, .int .i64 t.faw, .int .i64 t.ccds, .int .i64 t.ccdl, .int .i64 t.rtp, .int .i64 t.wr, .int .i64 t.wtrs, .int .i64 t.wtrl, .int .i64 t.rtw, .int .i64 t.rfc, .int .i64 t.cke, .int .i64 t.xp, .int .i64 t.xs] 32) := by subst hw1; exact heap_alloc_new _ _
  obtain ⟨_, _, _, _, c4, _, _, _, _, _, _, _, _, _, _, _, _⟩ := tm_cells p1
  clear p1 h
  go_enter Try.func107, Try.ntmps107
  go_wp2
  go_ret
  exact ⟨rfl, HB1.out⟩

theorem m_enterToLeave (t : Tm) (h : TimOk t) (w : World) : Calls Try.prog 109 #[.agg #[.int .i64 t.rcd, .int .i64 t.rp, .int .i64 t.ras, .int .i64 t.rrds, .int .i64 t.rrdl, .int .i64 t.faw, .int .i64 t.ccds, .int .i64 t.ccdl, .int .i64 t.rtp, .int .i64 t.wr, .int .i64 t.wtrs, .int .i64 t.wtrl, .int .i64 t.rtw, .int .i64 t.rfc, .int .i64 t.cke, .int .i64 t.xp, .int .i64 t.xs]] w (Gives (.int .i64 (t.cke)) w) := by
  obtain ⟨w1, hw1⟩ : ∃ u, w.alloc (.cells #[.int .i64 t.rcd, .int .i64 t.rp, .int .i64 t.ras, .int .i64 t.rrds, .int .i64 t.rrdl, .int .i64 t.faw, .int .i64 t.ccds, .int .i64 t.ccdl, .int .i64 t.rtp, .int .i64 t.wr, .int .i64 t.wtrs, .int .i64 t.wtrl, .int .i64 t.rtw, .int .i64 t.rfc, .int .i64 t.cke, .int .i64 t.xp, .int .i64 t.xs] 32) = u := ⟨_, rfl⟩
  have HB1 : Hid (Below w.heap.size w w1) := by subst hw1; exact (Below.refl _ _).alloc (Nat.le_refl _) _
  have p1 : w1.heap[w.heap.size]? = some (.cells #[.int .i64 t.rcd, .int .i64 t.rp, .int .i64 t.ras, .int .i64 t.rrds, .int .i64 t.rrdl, .int .i64 t.faw, .int .i64 t.ccds, .int .i64 t.ccdl, .int .i64 t.rtp, .int .i64 t.wr, .int .i64 t.wtrs, .int .i64 t.wtrl, .int .i64 t.rtw, .int .i64 t.rfc, .int .i64 t.cke, .int .i64 t.xp, .int .i64 t.xs] 32) := by subst hw1; exact heap_alloc_new _ _
  obtain ⟨_, _, _, _, _, _, _, _, _, _, _, _, _, _, c14, _, _⟩ := tm_cells p1
  clear p1 h
  go_enter Try.func109, Try.ntmps109
  go_wp2
  go_ret
  exact ⟨rfl, HB1.out⟩

theorem m_upToAny (t : Tm) (h : TimOk t) (w : World) : Calls Try.prog 111 #[.agg #[.int .i64 t.rcd, .int .i64 t.rp, .int .i64 t.ras, .int .i64 t.rrds, .int .i64 t.rrdl, .int .i64 t.faw, .int .i64 t.ccds, .int .i64 t.ccdl, .int .i64 t.rtp, .int .i64 t.wr, .int .i64 t.wtrs, .int .i64 t.wtrl, .int .i64 t.rtw, .int .i64 t.rfc, .int .i64 t.cke, .int .i64 t.xp, .int .i64 t.xs]] w (Gives (.int .i64 (t.xp)) w) := by
  obtain ⟨w1, hw1⟩ : ∃ u, w.alloc (.cells #[.int .i64 t.rcd, .int .i64 t.rp, .int .i64 t.ras, .int .i64 t.rrds, .int .i64 t.rrdl, .int .i64 t.faw, .int .i64 t.ccds, .int .i64 t.ccdl, .int .i64 t.rtp, .int .i64 t.wr, .int .i64 t.wtrs, .int .i64 t.wtrl, .int .i64 t.rtw, .int .i64 t.rfc, .int .i64 t.cke, .int .i64 t.xp, .int .i64 t.xs] 32) = u := ⟨_, rfl⟩
  have HB1 : Hid (Below w.heap.size w w1) := by subst hw1; exact (Below.refl _ _).alloc (Nat.le_refl _) _
  have p1 : w1.heap[w.heap.size]? = some (.cells #[.int .i64 t.rcd, .int .i64 t.rp, .int .i64 t.ras, .int .i64 t.rrds, .int .i64 t.rrdl, .int .i64 t.faw, .int .i64 t.ccds, .int .i64 t.ccdl, .int .i64 t.rtp, .int .i64 t.wr, .int .i64 t.wtrs, .int .i64 t.wtrl, .int .i64 t.rtw, .int .i64 t.rfc, .int .i64 t.cke, .int .i64 t.xp, .int .i64 t.xs] 32) := by subst hw1; exact heap_alloc_new _ _
  obtain ⟨_, _, _, _, _, _, _, _, _, _, _, _, _, _, _, c15, _⟩ := tm_cells p1
  clear p1 h
  go_enter Try.func111, Try.ntmps111
  go_wp2
  go_ret
  exact ⟨rfl, HB1.out⟩

theorem m_wakeToAny (t : Tm) (h : TimOk t) (w : World) : Calls Try.prog 112 #[.agg #[.int .i64 t.rcd, .int .i64 t.rp, .int .i64 t.ras, .int .i64 t.rrds, .int .i64 t.rrdl, .int .i64 t.faw, .int .i64 t.ccds, .int .i64 t.ccdl, .int .i64 t.rtp, .int .i64 t.wr, .int .i64 t.wtrs, .int .i64 t.wtrl, .int .i64 t.rtw, .int .i64 t.rfc, .int .i64 t.cke, .int .i64 t.xp, .int .i64 t.xs]] w (Gives (.int .i64 (t.xs)) w) := by
  obtain ⟨w1, hw1⟩ : ∃ u, w.alloc (.cells #[.int .i64 t.rcd, .int .i64 t.rp, .int .i64 t.ras, .int .i64 t.rrds, .int .i64 t.rrdl, .int .i64 t.faw, .int .i64 t.ccds, .int .i64 t.ccdl, .int .i64 t.rtp, .int .i64 t.wr, .int .i64 t.wtrs, .int .i64 t.wtrl, .int .i64 t.rtw, .int .i64 t.rfc, .int .i64 t.cke, .int .i64 t.xp, .int .i64 t.xs] 32) = u := ⟨_, rfl⟩
  have HB1 : Hid (Below w.heap.size w w1) := by subst hw1; exact (Below.refl _ _).alloc (Nat.le_refl _) _
  have p1 : w1.heap[w.heap.size]? = some (.cells #[.int .i64 t.rcd, .int .i64 t.rp, .int .i64 t.ras, .int .i64 t.rrds, .int .i64 t.rrdl, .int .i64 t.faw, .int .i64 t.ccds, .int .i64 t.ccdl, .int .i64 t.rtp, .int .i64 t.wr, .int .i64 t.wtrs, .int .i64 t.wtrl, .int .i64 t.rtw, .int .i64 t.rfc, .int .i64 t.cke, .int .i64 t.xp, .int .i64 t.xs] 32) := by subst hw1; exact heap_alloc_new _ _
  obtain ⟨_, _, _, _, _, _, _, _, _, _, _, _, _, _, _, _, c16⟩ := tm_cells p1
  clear p1 h
  go_enter Try.func112, Try.ntmps112
  go_wp2
  go_ret
  exact ⟨rfl, HB1.out⟩

theorem eq_nil (w : World) : (Go.binOp .eql 124 Value.nilFunc Value.nilFunc).run Try.prog w = .ok (.bool true) w := by kernel_rfl

theorem eq_func (n : Nat) (w : World) : (Go.binOp .eql 124 (Value.func (.func n) #[] #[]) Value.nilFunc).run Try.prog w = .ok (.bool false) w := by kernel_rfl

theorem dist_nil (t : Tm) (w : World) : Calls Try.prog 88 #[.agg #[.int .i64 t.rcd, .int .i64 t.rp, .int .i64 t.ras, .int .i64 t.rrds, .int .i64 t.rrdl, .int .i64 t.faw, .int .i64 t.ccds, .int .i64 t.ccdl, .int .i64 t.rtp, .int .i64 t.wr, .int .i64 t.wtrs, .int .i64 t.wtrl, .int .i64 t.rtw, .int .i64 t.rfc, .int .i64 t.cke, .int .i64 t.xp, .int .i64 t.xs], .nilFunc] w (Gives (.int .i64 0) w) := by
  obtain ⟨w1, hw1⟩ : ∃ u, w.alloc (.cells #[.int .i64 t.rcd, .int .i64 t.rp, .int .i64 t.ras, .int .i64 t.rrds, .int .i64 t.rrdl, .int .i64 t.faw, .int .i64 t.ccds, .int .i64 t.ccdl, .int .i64 t.rtp, .int .i64 t.wr, .int .i64 t.wtrs, .int .i64 t.wtrl, .int .i64 t.rtw, .int .i64 t.rfc, .int .i64 t.cke, .int .i64 t.xp, .int .i64 t.xs] 32) = u := ⟨_, rfl⟩
  have HB1 : Hid (Below w.heap.size w w1) := by subst hw1; exact (Below.refl _ _).alloc (Nat.le_refl _) _
  have p1 : w1.heap[w.heap.size]? = some (.cells #[.int .i64 t.rcd, .int .i64 t.rp, .int .i64 t.ras, .int .i64 t.rrds, .int .i64 t.rrdl, .int .i64 t.faw, .int .i64 t.ccds, .int .i64 t.ccdl, .int .i64 t.rtp, .int .i64 t.wr, .int .i64 t.wtrs, .int .i64 t.wtrl, .int .i64 t.rtw, .int .i64 t.rfc, .int .i64 t.cke, .int .i64 t.xp, .int .i64 t.xs] 32) := by subst hw1; exact heap_alloc_new _ _
  clear p1
  have EQ := eq_nil
  go_enter Try.func88, Try.ntmps88
  go_wp2
  go_ret
  exact ⟨rfl, HB1.out⟩

theorem dist_actToAccess (t : Tm) (h : TimOk t) (w : World) : Calls Try.prog 88 #[.agg #[.int .i64 t.rcd, .int .i64 t.rp, .int .i64 t.ras, .int .i64 t.rrds, .int .i64 t.rrdl, .int .i64 t.faw, .int .i64 t.ccds, .int .i64 t.ccdl, .int .i64 t.rtp, .int .i64 t.wr, .int .i64 t.wtrs, .int .i64 t.wtrl, .int .i64 t.rtw, .int .i64 t.rfc, .int .i64 t.cke, .int .i64 t.xp, .int .i64 t.xs], .func (.func 113) #[] #[]] w (Gives (.int .i64 (t.rcd)) w) := by
  obtain ⟨w1, hw1⟩ : ∃ u, w.alloc (.cells #[.int .i64 t.rcd, .int .i64 t.rp, .int .i64 t.ras, .int .i64 t.rrds, .int .i64 t.rrdl, .int .i64 t.faw, .int .i64 t.ccds, .int .i64 t.ccdl, .int .i64 t.rtp, .int .i64 t.wr, .int .i64 t.wtrs, .int .i64 t.wtrl, .int .i64 t.rtw, .int .i64 t.rfc, .int .i64 t.cke, .int .i64 t.xp, .int .i64 t.xs] 32) = u := ⟨_, rfl⟩
  have HB1 : Hid (Below w.heap.size w w1) := by subst hw1; exact (Below.refl _ _).alloc (Nat.le_refl _) _
  have p1 : w1.heap[w.heap.size]? = some (.cells #[.int .i64 t.rcd, .int .i64 t.rp, .int .i64 t.ras, .int .i64 t.rrds, .int .i64 t.rrdl, .int .i64 t.faw, .int .i64 t.ccds, .int .i64 t.ccdl, .int .i64 t.rtp, .int .i64 t.wr, .int .i64 t.wtrs, .int .i64 t.wtrl, .int .i64 t.rtw, .int .i64 t.rfc, .int .i64 t.cke, .int .i64 t.xp, .int .i64 t.xs] 32) := by subst hw1; exact heap_alloc_new _ _
  have EQ := eq_func 113
  go_enter Try.func88, Try.ntmps88
  go_wp2_with (first | ((with_reducible refine ld_tm ?_ ?_ p1 ?_); kernel_rfl; kernel_rfl; go_simp))
  refine (m_actToAccess t h _).mono ?_
  rintro e w2 ⟨rfl, hb2⟩
  have HB2 : Hid (Below w.heap.size w w2) := HB1.out.trans (hb2.mono HB1.out.size)
  clear hb2
  go_wp2
  go_ret
  exact ⟨rfl, HB2.out⟩

theorem dist_actToPre (t : Tm) (h : TimOk t) (w : World) : Calls Try.prog 88 #[.agg #[.int .i64 t.rcd, .int .i64 t.rp, .int .i64 t.ras, .int .i64 t.rrds, .int .i64 t.rrdl, .int .i64 t.faw, .int .i64 t.ccds, .int .i64 t.ccdl, .int .i64 t.rtp, .int .i64 t.wr, .int .i64 t.wtrs, .int .i64 t.wtrl, .int .i64 t.rtw, .int .i64 t.rfc, .int .i64 t.cke, .int .i64 t.xp, .int .i64 t.xs], .func (.func 114) #[] #[]] w (Gives (.int .i64 (t.ras)) w) := by
  obtain ⟨w1, hw1⟩ : ∃ u, w.alloc (.cells #[.int .i64 t.rcd, .int .i64 t.rp, .int .i64 t.ras, .int .i64 t.rrds, .int .i64 t.rrdl, .int .i64 t.faw, .int .i64 t.ccds, .int .i64 t.ccdl, .int .i64 t.rtp, .int .i64 t.wr, .int .i64 t.wtrs, .int .i64 t.wtrl, .int .i64 t.rtw, .int .i64 t.rfc, .int .i64 t.cke, .int .i64 t.xp, .int .i64 t.xs] 32) = u := ⟨_, rfl⟩
  have HB1 : Hid (Below w.heap.size w w1) := by subst hw1; exact (Below.refl _ _).alloc (Nat.le_refl _) _
  have p1 : w1.heap[w.heap.size]? = some (.cells #[.int .i64 t.rcd, .int .i64 t.rp, .int .i64 t.ras, .int .i64 t.rrds, .int .i64 t.rrdl, .int .i64 t.faw, .int .i64 t.ccds, .int .i64 t.ccdl, .int .i64 t.rtp, .int .i64 t.wr, .int .i64 t.wtrs, .int .i64 t.wtrl, .int .i64 t.rtw, .int .i64 t.rfc, .int .i64 t.cke, .int .i64 t.xp, .int .i64 t.xs] 32) := by subst hw1; exact heap_alloc_new _ _
  have EQ := eq_func 114
  go_enter Try.func88, Try.ntmps88
  go_wp2_with (first | ((with_reducible refine ld_tm ?_ ?_ p1 ?_); kernel_rfl; kernel_rfl; go_simp))
  refine (m_actToPre t h _).mono ?_
  rintro e w2 ⟨rfl, hb2⟩
  have HB2 : Hid (Below w.heap.size w w2) := HB1.out.trans (hb2.mono HB1.out.size)
  clear hb2
  go_wp2
  go_ret
  exact ⟨rfl, HB2.out⟩

theorem dist_actToClosed (t : Tm) (h : TimOk t) (w : World) : Calls Try.prog 88 #[.agg #[.int .i64 t.rcd, .int .i64 t.rp, .int .i64 t.ras, .int .i64 t.rrds, .int .i64 t.rrdl, .int .i64 t.faw, .int .i64 t.ccds, .int .i64 t.ccdl, .int .i64 t.rtp, .int .i64 t.wr, .int .i64 t.wtrs, .int .i64 t.wtrl, .int .i64 t.rtw, .int .i64 t.rfc, .int .i64 t.cke, .int .i64 t.xp, .int .i64 t.xs], .func (.func 100) #[] #[]] w (Gives (.int .i64 (t.ras + t.rp)) w) := by
  obtain ⟨w1, hw1⟩ : ∃ u, w.alloc (.cells #[.int .i64 t.rcd, .int .i64 t.rp, .int .i64 t.ras, .int .i64 t.rrds, .int .i64 t.rrdl, .int .i64 t.faw, .int .i64 t.ccds, .int .i64 t.ccdl, .int .i64 t.rtp, .int .i64 t.wr, .int .i64 t.wtrs, .int .i64 t.wtrl, .int .i64 t.rtw, .int .i64 t.rfc, .int .i64 t.cke, .int .i64 t.xp, .int .i64 t.xs] 32) = u := ⟨_, rfl⟩
  have HB1 : Hid (Below w.heap.size w w1) := by subst hw1; exact (Below.refl _ _).alloc (Nat.le_refl _) _
  have p1 : w1.heap[w.heap.size]? = some (.cells #[.int .i64 t.rcd, .int .i64 t.rp, .int .i64 t.ras, .int .i64 t.rrds, .int .i64 t.rrdl, .int .i64 t.faw, .int .i64 t.ccds, .int .i64 t.ccdl, .int .i64 t.rtp, .int .i64 t.wr, .int .i64 t.wtrs, .int .i64 t.wtrl, .int .i64 t.rtw, .int .i64 t.rfc, .int .i64 t.cke, .int .i64 t.xp, .int .i64 t.xs] 32) := by subst hw1; exact heap_alloc_new _ _
  have EQ := eq_func 100
  go_enter Try.func88, Try.ntmps88
  go_wp2_with (first | ((with_reducible refine ld_tm ?_ ?_ p1 ?_); kernel_rfl; kernel_rfl; go_simp))
  refine (m_actToClosed t h _).mono ?_
  rintro e w2 ⟨rfl, hb2⟩
  have HB2 : Hid (Below w.heap.size w w2) := HB1.out.trans (hb2.mono HB1.out.size)
  clear hb2
  go_wp2
  go_ret
  exact ⟨rfl, HB2.out⟩

theorem dist_readToPre (t : Tm) (h : TimOk t) (w : World) : Calls Try.prog 88 #[.agg #[.int .i64 t.rcd, .int .i64 t.rp, .int .i64 t.ras, .int .i64 t.rrds, .int .i64 t.rrdl, .int .i64 t.faw, .int .i64 t.ccds, .int .i64 t.ccdl, .int .i64 t.rtp, .int .i64 t.wr, .int .i64 t.wtrs, .int .i64 t.wtrl, .int .i64 t.rtw, .int .i64 t.rfc, .int .i64 t.cke, .int .i64 t.xp, .int .i64 t.xs], .func (.func 102) #[] #[]] w (Gives (.int .i64 (t.rtp)) w) := by
  obtain ⟨w1, hw1⟩ : ∃ u, w.alloc (.cells #[.int .i64 t.rcd, .int .i64 t.rp, .int .i64 t.ras, .int .i64 t.rrds, .int .i64 t.rrdl, .int .i64 t.faw, .int .i64 t.ccds, .int .i64 t.ccdl, .int .i64 t.rtp, .int .i64 t.wr, .int .i64 t.wtrs, .int .i64 t.wtrl, .int .i64 t.rtw, .int .i64 t.rfc, .int .i64 t.cke, .int .i64 t.xp, .int .i64 t.xs] 32) = u := ⟨_, rfl⟩
  have HB1 : Hid (Below w.heap.size w w1) := by subst hw1; exact (Below.refl _ _).alloc (Nat.le_refl _) _
  have p1 : w1.heap[w.heap.size]? = some (.cells #[.int .i64 t.rcd, .int .i64 t.rp, .int .i64 t.ras, .int .i64 t.rrds, .int .i64 t.rrdl, .int .i64 t.faw, .int .i64 t.ccds, .int .i64 t.ccdl, .int .i64 t.rtp, .int .i64 t.wr, .int .i64 t.wtrs, .int .i64 t.wtrl, .int .i64 t.rtw, .int .i64 t.rfc, .int .i64 t.cke, .int .i64 t.xp, .int .i64 t.xs] 32) := by subst hw1; exact heap_alloc_new _ _
  have EQ := eq_func 102
  go_enter Try.func88, Try.ntmps88
  go_wp2_with (first | ((with_reducible refine ld_tm ?_ ?_ p1 ?_); kernel_rfl; kernel_rfl; go_simp))
  refine (m_readToPre t h _).mono ?_
  rintro e w2 ⟨rfl, hb2⟩
  have HB2 : Hid (Below w.heap.size w w2) := HB1.out.trans (hb2.mono HB1.out.size)
  clear hb2
  go_wp2
  go_ret
  exact ⟨rfl, HB2.out⟩

theorem dist_readToClosed (t : Tm) (h : TimOk t) (w : World) : Calls Try.prog 88 #[.agg #[.int .i64 t.rcd, .int .i64 t.rp, .int .i64 t.ras, .int .i64 t.rrds, .int .i64 t.rrdl, .int .i64 t.faw, .int .i64 t.ccds, .int .i64 t.ccdl, .int .i64 t.rtp, .int .i64 t.wr, .int .i64 t.wtrs, .int .i64 t.wtrl, .int .i64 t.rtw, .int .i64 t.rfc, .int .i64 t.cke, .int .i64 t.xp, .int .i64 t.xs], .func (.func 103) #[] #[]] w (Gives (.int .i64 (t.rtp + t.rp)) w) := by
  obtain ⟨w1, hw1⟩ : ∃ u, w.alloc (.cells #[.int .i64 t.rcd, .int .i64 t.rp, .int .i64 t.ras, .int .i64 t.rrds, .int .i64 t.rrdl, .int .i64 t.faw, .int .i64 t.ccds, .int .i64 t.ccdl, .int .i64 t.rtp, .int .i64 t.wr, .int .i64 t.wtrs, .int .i64 t.wtrl, .int .i64 t.rtw, .int .i64 t.rfc, .int .i64 t.cke, .int .i64 t.xp, .int .i64 t.xs] 32) = u := ⟨_, rfl⟩
  have HB1 : Hid (Below w.heap.size w w1) := by subst hw1; exact (Below.refl _ _).alloc (Nat.le_refl _) _
  have p1 : w1.heap[w.heap.size]? = some (.cells #[.int .i64 t.rcd, .int .i64 t.rp, .int .i64 t.ras, .int .i64 t.rrds, .int .i64 t.rrdl, .int .i64 t.faw, .int .i64 t.ccds, .int .i64 t.ccdl, .int .i64 t.rtp, .int .i64 t.wr, .int .i64 t.wtrs, .int .i64 t.wtrl, .int .i64 t.rtw, .int .i64 t.rfc, .int .i64 t.cke, .int .i64 t.xp, .int .i64 t.xs] 32) := by subst hw1; exact heap_alloc_new _ _
  have EQ := eq_func 103
  go_enter Try.func88, Try.ntmps88
  go_wp2_with (first | ((with_reducible refine ld_tm ?_ ?_ p1 ?_); kernel_rfl; kernel_rfl; go_simp))
  refine (m_readToClosed t h _).mono ?_
  rintro e w2 ⟨rfl, hb2⟩
  have HB2 : Hid (Below w.heap.size w w2) := HB1.out.trans (hb2.mono HB1.out.size)
  clear hb2
  go_wp2
  go_ret
  exact ⟨rfl, HB2.out⟩

theorem dist_writeToPre (t : Tm) (h : TimOk t) (w : World) : Calls Try.prog 88 #[.agg #[.int .i64 t.rcd, .int .i64 t.rp, .int .i64 t.ras, .int .i64 t.rrds, .int .i64 t.rrdl, .int .i64 t.faw, .int .i64 t.ccds, .int .i64 t.ccdl, .int .i64 t.rtp, .int .i64 t.wr, .int .i64 t.wtrs, .int .i64 t.wtrl, .int .i64 t.rtw, .int .i64 t.rfc, .int .i64 t.cke, .int .i64 t.xp, .int .i64 t.xs], .func (.func 104) #[] #[]] w (Gives (.int .i64 (t.wr)) w) := by
  obtain ⟨w1, hw1⟩ : ∃ u, w.alloc (.cells #[.int .i64 t.rcd, .int .i64 t.rp, .int .i64 t.ras, .int .i64 t.rrds, .int .i64 t.rrdl, .int .i64 t.faw, .int .i64 t.ccds, .int .i64 t.ccdl, .int .i64 t.rtp, .int .i64 t.wr, .int .i64 t.wtrs, .int .i64 t.wtrl, .int .i64 t.rtw, .int .i64 t.rfc, .int .i64 t.cke, .int .i64 t.xp, .int .i64 t.xs] 32) = u := ⟨_, rfl⟩
  have HB1 : Hid (Below w.heap.size w w1) := by subst hw1; exact (Below.refl _ _).alloc (Nat.le_refl _) _
  have p1 : w1.heap[w.heap.size]? = some (.cells #[.int .i64 t.rcd, .int .i64 t.rp, .int .i64 t.ras, .int .i64 t.rrds, .int .i64 t.rrdl, .int .i64 t.faw, .int .i64 t.ccds, .int .i64 t.ccdl, .int .i64 t.rtp, .int .i64 t.wr, .int .i64 t.wtrs, .int .i64 t.wtrl, .int .i64 t.rtw, .int .i64 t.rfc, .int .i64 t.cke, .int .i64 t.xp, .int .i64 t.xs] 32) := by subst hw1; exact heap_alloc_new _ _
  have EQ := eq_func 104
  go_enter Try.func88, Try.ntmps88
  go_wp2_with (first | ((with_reducible refine ld_tm ?_ ?_ p1 ?_); kernel_rfl; kernel_rfl; go_simp))
  refine (m_writeToPre t h _).mono ?_
  rintro e w2 ⟨rfl, hb2⟩
  have HB2 : Hid (Below w.heap.size w w2) := HB1.out.trans (hb2.mono HB1.out.size)
  clear hb2
  go_wp2
  go_ret
  exact ⟨rfl, HB2.out⟩

theorem dist_writeToClosed (t : Tm) (h : TimOk t) (w : World) : Calls Try.prog 88 #[.agg #[.int .i64 t.rcd, .int .i64 t.rp, .int .i64 t.ras, .int .i64 t.rrds, .int .i64 t.rrdl, .int .i64 t.faw, .int .i64 t.ccds, .int .i64 t.ccdl, .int .i64 t.rtp, .int .i64 t.wr, .int .i64 t.wtrs, .int .i64 t.wtrl, .int .i64 t.rtw, .int .i64 t.rfc, .int .i64 t.cke, .int .i64 t.xp, .int .i64 t.xs], .func (.func 105) #[] #[]] w (Gives (.int .i64 (t.wr + t.rp)) w) := by
  obtain ⟨w1, hw1⟩ : ∃ u, w.alloc (.cells #[.int .i64 t.rcd, .int .i64 t.rp, .int .i64 t.ras, .int .i64 t.rrds, .int .i64 t.rrdl, .int .i64 t.faw, .int .i64 t.ccds, .int .i64 t.ccdl, .int .i64 t.rtp, .int .i64 t.wr, .int .i64 t.wtrs, .int .i64 t.wtrl, .int .i64 t.rtw, .int .i64 t.rfc, .int .i64 t.cke, .int .i64 t.xp, .int .i64 t.xs] 32) = u := ⟨_, rfl⟩
  have HB1 : Hid (Below w.heap.size w w1) := by subst hw1; exact (Below.refl _ _).alloc (Nat.le_refl _) _
  have p1 : w1.heap[w.heap.size]? = some (.cells #[.int .i64 t.rcd, .int .i64 t.rp, .int .i64 t.ras, .int .i64 t.rrds, .int .i64 t.rrdl, .int .i64 t.faw, .int .i64 t.ccds, .int .i64 t.ccdl, .int .i64 t.rtp, .int .i64 t.wr, .int .i64 t.wtrs, .int .i64 t.wtrl, .int .i64 t.rtw, .int .i64 t.rfc, .int .i64 t.cke, .int .i64 t.xp, .int .i64 t.xs] 32) := by subst hw1; exact heap_alloc_new _ _
  have EQ := eq_func 105
  go_enter Try.func88, Try.ntmps88
  go_wp2_with (first | ((with_reducible refine ld_tm ?_ ?_ p1 ?_); kernel_rfl; kernel_rfl; go_simp))
  refine (m_writeToClosed t h _).mono ?_
  rintro e w2 ⟨rfl, hb2⟩
  have HB2 : Hid (Below w.heap.size w w2) := HB1.out.trans (hb2.mono HB1.out.size)
  clear hb2
  go_wp2
  go_ret
  exact ⟨rfl, HB2.out⟩

theorem dist_preToClosed (t : Tm) (h : TimOk t) (w : World) : Calls Try.prog 88 #[.agg #[.int .i64 t.rcd, .int .i64 t.rp, .int .i64 t.ras, .int .i64 t.rrds, .int .i64 t.rrdl, .int .i64 t.faw, .int .i64 t.ccds, .int .i64 t.ccdl, .int .i64 t.rtp, .int .i64 t.wr, .int .i64 t.wtrs, .int .i64 t.wtrl, .int .i64 t.rtw, .int .i64 t.rfc, .int .i64 t.cke, .int .i64 t.xp, .int .i64 t.xs], .func (.func 106) #[] #[]] w (Gives (.int .i64 (t.rp)) w) := by
  obtain ⟨w1, hw1⟩ : ∃ u, w.alloc (.cells #[.int .i64 t.rcd, .int .i64 t.rp, .int .i64 t.ras, .int .i64 t.rrds, .int .i64 t.rrdl, .int .i64 t.faw, .int .i64 t.ccds, .int .i64 t.ccdl, .int .i64 t.rtp, .int .i64 t.wr, .int .i64 t.wtrs, .int .i64 t.wtrl, .int .i64 t.rtw, .int .i64 t.rfc, .int .i64 t.cke, .int .i64 t.xp, .int .i64 t.xs] 32) = u := ⟨_, rfl⟩
  have HB1 : Hid (Below w.heap.size w w1) := by subst hw1; exact (Below.refl _ _).alloc (Nat.le_refl _) _
  have p1 : w1.heap[w.heap.size]? = some (.cells #[.int .i64 t.rcd, .int .i64 t.rp, .int .i64 t.ras, .int .i64 t.rrds, .int .i64 t.rrdl, .int .i64 t.faw, .int .i64 t.ccds, .int .i64 t.ccdl, .int .i64 t.rtp, .int .i64 t.wr, .int .i64 t.wtrs, .int .i64 t.wtrl, .int .i64 t.rtw, .int .i64 t.rfc, .int .i64 t.cke, .int .i64 t.xp, .int .i64 t.xs] 32) := by subst hw1; exact heap_alloc_new _ _
  have EQ := eq_func 106
  go_enter Try.func88, Try.ntmps88
  go_wp2_with (first | ((with_reducible refine ld_tm ?_ ?_ p1 ?_); kernel_rfl; kernel_rfl; go_simp))
  refine (m_preToClosed t h _).mono ?_
  rintro e w2 ⟨rfl, hb2⟩
  have HB2 : Hid (Below w.heap.size w w2) := HB1.out.trans (hb2.mono HB1.out.size)
  clear hb2
  go_wp2
  go_ret
  exact ⟨rfl, HB2.out⟩

theorem dist_refToDone (t : Tm) (h : TimOk t) (w : World) : Calls Try.prog 88 #[.agg #[.int .i64 t.rcd, .int .i64 t.rp, .int .i64 t.ras, .int .i64 t.rrds, .int .i64 t.rrdl, .int .i64 t.faw, .int .i64 t.ccds, .int .i64 t.ccdl, .int .i64 t.rtp, .int .i64 t.wr, .int .i64 t.wtrs, .int .i64 t.wtrl, .int .i64 t.rtw, .int .i64 t.rfc, .int .i64 t.cke, .int .i64 t.xp, .int .i64 t.xs], .func (.func 108) #[] #[]] w (Gives (.int .i64 (t.rfc)) w) := by
  obtain ⟨w1, hw1⟩ : ∃ u, w.alloc (.cells #[.int .i64 t.rcd, .int .i64 t.rp, .int .i64 t.ras, .int .i64 t.rrds, .int .i64 t.rrdl, .int .i64 t.faw, .int .i64 t.ccds, .int .i64 t.ccdl, .int .i64 t.rtp, .int .i64 t.wr, .int .i64 t.wtrs, .int .i64 t.wtrl, .int .i64 t.rtw, .int .i64 t.rfc, .int .i64 t.cke, .int .i64 t.xp, .int .i64 t.xs] 32) = u := ⟨_, rfl⟩
  have HB1 : Hid (Below w.heap.size w w1) := by subst hw1; exact (Below.refl _ _).alloc (Nat.le_refl _) _
  have p1 : w1.heap[w.heap.size]? = some (.cells #[.int .i64 t.rcd, .int .i64 t.rp, .int .i64 t.ras, .int .i64 t.rrds, .int .i64 t.rrdl, .int .i64 t.faw, .int .i64 t.ccds, .int .i64 t.ccdl, .int .i64 t.rtp, .int .i64 t.wr, .int .i64 t.wtrs, .int .i64 t.wtrl, .int .i64 t.rtw, .int .i64 t.rfc, .int .i64 t.cke, .int .i64 t.xp, .int .i64 t.xs] 32) := by subst hw1; exact heap_alloc_new _ _
  have EQ := eq_func 108
  go_enter Try.func88, Try.ntmps88
  go_wp2_with (first | ((with_reducible refine ld_tm ?_ ?_ p1 ?_); kernel_rfl; kernel_rfl; go_simp))
  refine (m_refToDone t h _).mono ?_
  rintro e w2 ⟨rfl, hb2⟩
  have HB2 : Hid (Below w.heap.size w w2) := HB1.out.trans (hb2.mono HB1.out.size)
  clear hb2
  go_wp2
  go_ret
  exact ⟨rfl, HB2.out⟩

theorem dist_actToNearAct (t : Tm) (h : TimOk t) (w : World) : Calls Try.prog 88 #[.agg #[.int .i64 t.rcd, .int .i64 t.rp, .int .i64 t.ras, .int .i64 t.rrds, .int .i64 t.rrdl, .int .i64 t.faw, .int .i64 t.ccds, .int .i64 t.ccdl, .int .i64 t.rtp, .int .i64 t.wr, .int .i64 t.wtrs, .int .i64 t.wtrl, .int .i64 t.rtw, .int .i64 t.rfc, .int .i64 t.cke, .int .i64 t.xp, .int .i64 t.xs], .func (.func 97) #[] #[]] w (Gives (.int .i64 (t.rrdl)) w) := by
  obtain ⟨w1, hw1⟩ : ∃ u, w.alloc (.cells #[.int .i64 t.rcd, .int .i64 t.rp, .int .i64 t.ras, .int .i64 t.rrds, .int .i64 t.rrdl, .int .i64 t.faw, .int .i64 t.ccds, .int .i64 t.ccdl, .int .i64 t.rtp, .int .i64 t.wr, .int .i64 t.wtrs, .int .i64 t.wtrl, .int .i64 t.rtw, .int .i64 t.rfc, .int .i64 t.cke, .int .i64 t.xp, .int .i64 t.xs] 32) = u := ⟨_, rfl⟩
  have HB1 : Hid (Below w.heap.size w w1) := by subst hw1; exact (Below.refl _ _).alloc (Nat.le_refl _) _
  have p1 : w1.heap[w.heap.size]? = some (.cells #[.int .i64 t.rcd, .int .i64 t.rp, .int .i64 t.ras, .int .i64 t.rrds, .int .i64 t.rrdl, .int .i64 t.faw, .int .i64 t.ccds, .int .i64 t.ccdl, .int .i64 t.rtp, .int .i64 t.wr, .int .i64 t.wtrs, .int .i64 t.wtrl, .int .i64 t.rtw, .int .i64 t.rfc, .int .i64 t.cke, .int .i64 t.xp, .int .i64 t.xs] 32) := by subst hw1; exact heap_alloc_new _ _
  have EQ := eq_func 97
  go_enter Try.func88, Try.ntmps88
  go_wp2_with (first | ((with_reducible refine ld_tm ?_ ?_ p1 ?_); kernel_rfl; kernel_rfl; go_simp))
  refine (m_actToNearAct t h _).mono ?_
  rintro e w2 ⟨rfl, hb2⟩
  have HB2 : Hid (Below w.heap.size w w2) := HB1.out.trans (hb2.mono HB1.out.size)
  clear hb2
  go_wp2
  go_ret
  exact ⟨rfl, HB2.out⟩

theorem dist_actToFarAct (t : Tm) (h : TimOk t) (w : World) : Calls Try.prog 88 #[.agg #[.int .i64 t.rcd, .int .i64 t.rp, .int .i64 t.ras, .int .i64 t.rrds, .int .i64 t.rrdl, .int .i64 t.faw, .int .i64 t.ccds, .int .i64 t.ccdl, .int .i64 t.rtp, .int .i64 t.wr, .int .i64 t.wtrs, .int .i64 t.wtrl, .int .i64 t.rtw, .int .i64 t.rfc, .int .i64 t.cke, .int .i64 t.xp, .int .i64 t.xs], .func (.func 94) #[] #[]] w (Gives (.int .i64 (t.rrds)) w) := by
  obtain ⟨w1, hw1⟩ : ∃ u, w.alloc (.cells #[.int .i64 t.rcd, .int .i64 t.rp, .int .i64 t.ras, .int .i64 t.rrds, .int .i64 t.rrdl, .int .i64 t.faw, .int .i64 t.ccds, .int .i64 t.ccdl, .int .i64 t.rtp, .int .i64 t.wr, .int .i64 t.wtrs, .int .i64 t.wtrl, .int .i64 t.rtw, .int .i64 t.rfc, .int .i64 t.cke, .int .i64 t.xp, .int .i64 t.xs] 32) = u := ⟨_, rfl⟩
  have HB1 : Hid (Below w.heap.size w w1) := by subst hw1; exact (Below.refl _ _).alloc (Nat.le_refl _) _
  have p1 : w1.heap[w.heap.size]? = some (.cells #[.int .i64 t.rcd, .int .i64 t.rp, .int .i64 t.ras, .int .i64 t.rrds, .int .i64 t.rrdl, .int .i64 t.faw, .int .i64 t.ccds, .int .i64 t.ccdl, .int .i64 t.rtp, .int .i64 t.wr, .int .i64 t.wtrs, .int .i64 t.wtrl, .int .i64 t.rtw, .int .i64 t.rfc, .int .i64 t.cke, .int .i64 t.xp, .int .i64 t.xs] 32) := by subst hw1; exact heap_alloc_new _ _
  have EQ := eq_func 94
  go_enter Try.func88, Try.ntmps88
  go_wp2_with (first | ((with_reducible refine ld_tm ?_ ?_ p1 ?_); kernel_rfl; kernel_rfl; go_simp))
  refine (m_actToFarAct t h _).mono ?_
  rintro e w2 ⟨rfl, hb2⟩
  have HB2 : Hid (Below w.heap.size w w2) := HB1.out.trans (hb2.mono HB1.out.size)
  clear hb2
  go_wp2
  go_ret
  exact ⟨rfl, HB2.out⟩

theorem dist_accessToNearAccess (t : Tm) (h : TimOk t) (w : World) : Calls Try.prog 88 #[.agg #[.int .i64 t.rcd, .int .i64 t.rp, .int .i64 t.ras, .int .i64 t.rrds, .int .i64 t.rrdl, .int .i64 t.faw, .int .i64 t.ccds, .int .i64 t.ccdl, .int .i64 t.rtp, .int .i64 t.wr, .int .i64 t.wtrs, .int .i64 t.wtrl, .int .i64 t.rtw, .int .i64 t.rfc, .int .i64 t.cke, .int .i64 t.xp, .int .i64 t.xs], .func (.func 98) #[] #[]] w (Gives (.int .i64 (t.ccdl)) w) := by
  obtain ⟨w1, hw1⟩ : ∃ u, w.alloc (.cells #[.int .i64 t.rcd, .int .i64 t.rp, .int .i64 t.ras, .int .i64 t.rrds, .int .i64 t.rrdl, .int .i64 t.faw, .int .i64 t.ccds, .int .i64 t.ccdl, .int .i64 t.rtp, .int .i64 t.wr, .int .i64 t.wtrs, .int .i64 t.wtrl, .int .i64 t.rtw, .int .i64 t.rfc, .int .i64 t.cke, .int .i64 t.xp, .int .i64 t.xs] 32) = u := ⟨_, rfl⟩
  have HB1 : Hid (Below w.heap.size w w1) := by subst hw1; exact (Below.refl _ _).alloc (Nat.le_refl _) _
  have p1 : w1.heap[w.heap.size]? = some (.cells #[.int .i64 t.rcd, .int .i64 t.rp, .int .i64 t.ras, .int .i64 t.rrds, .int .i64 t.rrdl, .int .i64 t.faw, .int .i64 t.ccds, .int .i64 t.ccdl, .int .i64 t.rtp, .int .i64 t.wr, .int .i64 t.wtrs, .int .i64 t.wtrl, .int .i64 t.rtw, .int .i64 t.rfc, .int .i64 t.cke, .int .i64 t.xp, .int .i64 t.xs] 32) := by subst hw1; exact heap_alloc_new _ _
  have EQ := eq_func 98
  go_enter Try.func88, Try.ntmps88
  go_wp2_with (first | ((with_reducible refine ld_tm ?_ ?_ p1 ?_); kernel_rfl; kernel_rfl; go_simp))
  refine (m_accessToNearAccess t h _).mono ?_
  rintro e w2 ⟨rfl, hb2⟩
  have HB2 : Hid (Below w.heap.size w w2) := HB1.out.trans (hb2.mono HB1.out.size)
  clear hb2
  go_wp2
  go_ret
  exact ⟨rfl, HB2.out⟩

theorem dist_accessToFarAccess (t : Tm) (h : TimOk t) (w : World) : Calls Try.prog 88 #[.agg #[.int .i64 t.rcd, .int .i64 t.rp, .int .i64 t.ras, .int .i64 t.rrds, .int .i64 t.rrdl, .int .i64 t.faw, .int .i64 t.ccds, .int .i64 t.ccdl, .int .i64 t.rtp, .int .i64 t.wr, .int .i64 t.wtrs, .int .i64 t.wtrl, .int .i64 t.rtw, .int .i64 t.rfc, .int .i64 t.cke, .int .i64 t.xp, .int .i64 t.xs], .func (.func 95) #[] #[]] w (Gives (.int .i64 (t.ccds)) w) := by
  obtain ⟨w1, hw1⟩ : ∃ u, w.alloc (.cells #[.int .i64 t.rcd, .int .i64 t.rp, .int .i64 t.ras, .int .i64 t.rrds, .int .i64 t.rrdl, .int .i64 t.faw, .int .i64 t.ccds, .int .i64 t.ccdl, .int .i64 t.rtp, .int .i64 t.wr, .int .i64 t.wtrs, .int .i64 t.wtrl, .int .i64 t.rtw, .int .i64 t.rfc, .int .i64 t.cke, .int .i64 t.xp, .int .i64 t.xs] 32) = u := ⟨_, rfl⟩
  have HB1 : Hid (Below w.heap.size w w1) := by subst hw1; exact (Below.refl _ _).alloc (Nat.le_refl _) _
  have p1 : w1.heap[w.heap.size]? = some (.cells #[.int .i64 t.rcd, .int .i64 t.rp, .int .i64 t.ras, .int .i64 t.rrds, .int .i64 t.rrdl, .int .i64 t.faw, .int .i64 t.ccds, .int .i64 t.ccdl, .int .i64 t.rtp, .int .i64 t.wr, .int .i64 t.wtrs, .int .i64 t.wtrl, .int .i64 t.rtw, .int .i64 t.rfc, .int .i64 t.cke, .int .i64 t.xp, .int .i64 t.xs] 32) := by subst hw1; exact heap_alloc_new _ _
  have EQ := eq_func 95
  go_enter Try.func88, Try.ntmps88
  go_wp2_with (first | ((with_reducible refine ld_tm ?_ ?_ p1 ?_); kernel_rfl; kernel_rfl; go_simp))
  refine (m_accessToFarAccess t h _).mono ?_
  rintro e w2 ⟨rfl, hb2⟩
  have HB2 : Hid (Below w.heap.size w w2) := HB1.out.trans (hb2.mono HB1.out.size)
  clear hb2
  go_wp2
  go_ret
  exact ⟨rfl, HB2.out⟩

theorem dist_writeToNearRead (t : Tm) (h : TimOk t) (w : World) : Calls Try.prog 88 #[.agg #[.int .i64 t.rcd, .int .i64 t.rp, .int .i64 t.ras, .int .i64 t.rrds, .int .i64 t.rrdl, .int .i64 t.faw, .int .i64 t.ccds, .int .i64 t.ccdl, .int .i64 t.rtp, .int .i64 t.wr, .int .i64 t.wtrs, .int .i64 t.wtrl, .int .i64 t.rtw, .int .i64 t.rfc, .int .i64 t.cke, .int .i64 t.xp, .int .i64 t.xs], .func (.func 99) #[] #[]] w (Gives (.int .i64 (t.wtrl)) w) := by
  obtain ⟨w1, hw1⟩ : ∃ u, w.alloc (.cells #[.int .i64 t.rcd, .int .i64 t.rp, .int .i64 t.ras, .int .i64 t.rrds, .int .i64 t.rrdl, .int .i64 t.faw, .int .i64 t.ccds, .int .i64 t.ccdl, .int .i64 t.rtp, .int .i64 t.wr, .int .i64 t.wtrs, .int .i64 t.wtrl, .int .i64 t.rtw, .int .i64 t.rfc, .int .i64 t.cke, .int .i64 t.xp, .int .i64 t.xs] 32) = u := ⟨_, rfl⟩
  have HB1 : Hid (Below w.heap.size w w1) := by subst hw1; exact (Below.refl _ _).alloc (Nat.le_refl _) _
  have p1 : w1.heap[w.heap.size]? = some (.cells #[.int .i64 t.rcd, .int .i64 t.rp, .int .i64 t.ras, .int .i64 t.rrds, .int .i64 t.rrdl, .int .i64 t.faw, .int .i64 t.ccds, .int .i64 t.ccdl, .int .i64 t.rtp, .int .i64 t.wr, .int .i64 t.wtrs, .int .i64 t.wtrl, .int .i64 t.rtw, .int .i64 t.rfc, .int .i64 t.cke, .int .i64 t.xp, .int .i64 t.xs] 32) := by subst hw1; exact heap_alloc_new _ _
  have EQ := eq_func 99
  go_enter Try.func88, Try.ntmps88
  go_wp2_with (first | ((with_reducible refine ld_tm ?_ ?_ p1 ?_); kernel_rfl; kernel_rfl; go_simp))
  refine (m_writeToNearRead t h _).mono ?_
  rintro e w2 ⟨rfl, hb2⟩
  have HB2 : Hid (Below w.heap.size w w2) := HB1.out.trans (hb2.mono HB1.out.size)
  clear hb2
  go_wp2
  go_ret
  exact ⟨rfl, HB2.out⟩

theorem dist_writeToFarRead (t : Tm) (h : TimOk t) (w : World) : Calls Try.prog 88 #[.agg #[.int .i64 t.rcd, .int .i64 t.rp, .int .i64 t.ras, .int .i64 t.rrds, .int .i64 t.rrdl, .int .i64 t.faw, .int .i64 t.ccds, .int .i64 t.ccdl, .int .i64 t.rtp, .int .i64 t.wr, .int .i64 t.wtrs, .int .i64 t.wtrl, .int .i64 t.rtw, .int .i64 t.rfc, .int .i64 t.cke, .int .i64 t.xp, .int .i64 t.xs], .func (.func 96) #[] #[]] w (Gives (.int .i64 (t.wtrs)) w) := by
  obtain ⟨w1, hw1⟩ : ∃ u, w.alloc (.cells #[.int .i64 t.rcd, .int .i64 t.rp, .int .i64 t.ras, .int .i64 t.rrds, .int .i64 t.rrdl, .int .i64 t.faw, .int .i64 t.ccds, .int .i64 t.ccdl, .int .i64 t.rtp, .int .i64 t.wr, .int .i64 t.wtrs, .int .i64 t.wtrl, .int .i64 t.rtw, .int .i64 t.rfc, .int .i64 t.cke, .int .i64 t.xp, .int .i64 t.xs] 32) = u := ⟨_, rfl⟩
  have HB1 : Hid (Below w.heap.size w w1) := by subst hw1; exact (Below.refl _ _).alloc (Nat.le_refl _) _
  have p1 : w1.heap[w.heap.size]? = some (.cells #[.int .i64 t.rcd, .int .i64 t.rp, .int .i64 t.ras, .int .i64 t.rrds, .int .i64 t.rrdl, .int .i64 t.faw, .int .i64 t.ccds, .int .i64 t.ccdl, .int .i64 t.rtp, .int .i64 t.wr, .int .i64 t.wtrs, .int .i64 t.wtrl, .int .i64 t.rtw, .int .i64 t.rfc, .int .i64 t.cke, .int .i64 t.xp, .int .i64 t.xs] 32) := by subst hw1; exact heap_alloc_new _ _
  have EQ := eq_func 96
  go_enter Try.func88, Try.ntmps88
  go_wp2_with (first | ((with_reducible refine ld_tm ?_ ?_ p1 ?_); kernel_rfl; kernel_rfl; go_simp))
  refine (m_writeToFarRead t h _).mono ?_
  rintro e w2 ⟨rfl, hb2⟩
  have HB2 : Hid (Below w.heap.size w w2) := HB1.out.trans (hb2.mono HB1.out.size)
  clear hb2
  go_wp2
  go_ret
  exact ⟨rfl, HB2.out⟩

theorem dist_readToWrite (t : Tm) (h : TimOk t) (w : World) : Calls Try.prog 88 #[.agg #[.int .i64 t.rcd, .int .i64 t.rp, .int .i64 t.ras, .int .i64 t.rrds, .int .i64 t.rrdl, .int .i64 t.faw, .int .i64 t.ccds, .int .i64 t.ccdl, .int .i64 t.rtp, .int .i64 t.wr, .int .i64 t.wtrs, .int .i64 t.wtrl, .int .i64 t.rtw, .int .i64 t.rfc, .int .i64 t.cke, .int .i64 t.xp, .int .i64 t.xs], .func (.func 101) #[] #[]] w (Gives (.int .i64 (t.rtw)) w) := by
  obtain ⟨w1, hw1⟩ : ∃ u, w.alloc (.cells #[.int .i64 t.rcd, .int .i64 t.rp, .int .i64 t.ras, .int .i64 t.rrds, .int .i64 t.rrdl, .int .i64 t.faw, .int .i64 t.ccds, .int .i64 t.ccdl, .int .i64 t.rtp, .int .i64 t.wr, .int .i64 t.wtrs, .int .i64 t.wtrl, .int .i64 t.rtw, .int .i64 t.rfc, .int .i64 t.cke, .int .i64 t.xp, .int .i64 t.xs] 32) = u := ⟨_, rfl⟩
  have HB1 : Hid (Below w.heap.size w w1) := by subst hw1; exact (Below.refl _ _).alloc (Nat.le_refl _) _
  have p1 : w1.heap[w.heap.size]? = some (.cells #[.int .i64 t.rcd, .int .i64 t.rp, .int .i64 t.ras, .int .i64 t.rrds, .int .i64 t.rrdl, .int .i64 t.faw, .int .i64 t.ccds, .int .i64 t.ccdl, .int .i64 t.rtp, .int .i64 t.wr, .int .i64 t.wtrs, .int .i64 t.wtrl, .int .i64 t.rtw, .int .i64 t.rfc, .int .i64 t.cke, .int .i64 t.xp, .int .i64 t.xs] 32) := by subst hw1; exact heap_alloc_new _ _
  have EQ := eq_func 101
  go_enter Try.func88, Try.ntmps88
  go_wp2_with (first | ((with_reducible refine ld_tm ?_ ?_ p1 ?_); kernel_rfl; kernel_rfl; go_simp))
  refine (m_readToWrite t h _).mono ?_
  rintro e w2 ⟨rfl, hb2⟩
  have HB2 : Hid (Below w.heap.size w w2) := HB1.out.trans (hb2.mono HB1.out.size)
  clear hb2
  go_wp2
  go_ret
  exact ⟨rfl, HB2.out⟩

theorem dist_refToRef (t : Tm) (h : TimOk t) (w : World) : Calls Try.prog 88 #[.agg #[.int .i64 t.rcd, .int .i64 t.rp, .int .i64 t.ras, .int .i64 t.rrds, .int .i64 t.rrdl, .int .i64 t.faw, .int .i64 t.ccds, .int .i64 t.ccdl, .int .i64 t.rtp, .int .i64 t.wr, .int .i64 t.wtrs, .int .i64 t.wtrl, .int .i64 t.rtw, .int .i64 t.rfc, .int .i64 t.cke, .int .i64 t.xp, .int .i64 t.xs], .func (.func 107) #[] #[]] w (Gives (.int .i64 (t.rrdl)) w) := by
  obtain ⟨w1, hw1⟩ : ∃ u, w.alloc (.cells #[.int .i64 t.rcd, .int .i64 t.rp, .int .i64 t.ras, .int .i64 t.rrds, .int .i64 t.rrdl, .int .i64 t.faw, .int .i64 t.ccds, .int .i64 t.ccdl, .int .i64 t.rtp, .int .i64 t.wr, .int .i64 t.wtrs, .int .i64 t.wtrl, .int .i64 t.rtw, .int .i64 t.rfc, .int .i64 t.cke, .int .i64 t.xp, .int .i64 t.xs] 32) = u := ⟨_, rfl⟩
  have HB1 : Hid (Below w.heap.size w w1) := by subst hw1; exact (Below.refl _ _).alloc (Nat.le_refl _) _
  have p1 : w1.heap[w.heap.size]? = some (.cells #[.int .i64 t.rcd, .int .i64 t.rp, .int .i64 t.ras, .int .i64 t.rrds, .int .i64 t.rrdl, .int .i64 t.faw, .int .i64 t.ccds, .int .i64 t.ccdl, .int .i64 t.rtp, .int .i64 t.wr, .int .i64 t.wtrs, .int .i64 t.wtrl, .int .i64 t.rtw, .int .i64 t.rfc, .int .i64 t.cke, .int .i64 t.xp, .int .i64 t.xs] 32) := by subst hw1; exact heap_alloc_new _ _
  have EQ := eq_func 107
  go_enter Try.func88, Try.ntmps88
  go_wp2_with (first | ((with_reducible refine ld_tm ?_ ?_ p1 ?_); kernel_rfl; kernel_rfl; go_simp))
  refine (m_refToRef t h _).mono ?_
  rintro e w2 ⟨rfl, hb2⟩
  have HB2 : Hid (Below w.heap.size w w2) := HB1.out.trans (hb2.mono HB1.out.size)
  clear hb2
  go_wp2
  go_ret
  exact ⟨rfl, HB2.out⟩

theorem dist_enterToLeave (t : Tm) (h : TimOk t) (w : World) : Calls Try.prog 88 #[.agg #[.int .i64 t.rcd, .int .i64 t.rp, .int .i64 t.ras, .int .i64 t.rrds, .int .i64 t.rrdl, .int .i64 t.faw, .int .i64 t.ccds, .int .i64 t.ccdl, .int .i64 t.rtp, .int .i64 t.wr, .int .i64 t.wtrs, .int .i64 t.wtrl, .int .i64 t.rtw, .int .i64 t.rfc, .int .i64 t.cke, .int .i64 t.xp, .int .i64 t.xs], .func (.func 109) #[] #[]] w (Gives (.int .i64 (t.cke)) w) := by
  obtain ⟨w1, hw1⟩ : ∃ u, w.alloc (.cells #[.int .i64 t.rcd, .int .i64 t.rp, .int .i64 t.ras, .int .i64 t.rrds, .int .i64 t.rrdl, .int .i64 t.faw, .int .i64 t.ccds, .int .i64 t.ccdl, .int .i64 t.rtp, .int .i64 t.wr, .int .i64 t.wtrs, .int .i64 t.wtrl, .int .i64 t.rtw, .int .i64 t.rfc, .int .i64 t.cke, .int .i64 t.xp, .int .i64 t.xs] 32) = u := ⟨_, rfl⟩
  have HB1 : Hid (Below w.heap.size w w1) := by subst hw1; exact (Below.refl _ _).alloc (Nat.le_refl _) _
  have p1 : w1.heap[w.heap.size]? = some (.cells #[.int .i64 t.rcd, .int .i64 t.rp, .int .i64 t.ras, .int .i64 t.rrds, .int .i64 t.rrdl, .int .i64 t.faw, .int .i64 t.ccds, .int .i64 t.ccdl, .int .i64 t.rtp, .int .i64 t.wr, .int .i64 t.wtrs, .int .i64 t.wtrl, .int .i64 t.rtw, .int .i64 t.rfc, .int .i64 t.cke, .int .i64 t.xp, .int .i64 t.xs] 32) := by subst hw1; exact heap_alloc_new _ _
  have EQ := eq_func 109
  go_enter Try.func88, Try.ntmps88
  go_wp2_with (first | ((with_reducible refine ld_tm ?_ ?_ p1 ?_); kernel_rfl; kernel_rfl; go_simp))
  refine (m_enterToLeave t h _).mono ?_
  rintro e w2 ⟨rfl, hb2⟩
  have HB2 : Hid (Below w.heap.size w w2) := HB1.out.trans (hb2.mono HB1.out.size)
  clear hb2
  go_wp2
  go_ret
  exact ⟨rfl, HB2.out⟩

theorem dist_upToAny (t : Tm) (h : TimOk t) (w : World) : Calls Try.prog 88 #[.agg #[.int .i64 t.rcd, .int .i64 t.rp, .int .i64 t.ras, .int .i64 t.rrds, .int .i64 t.rrdl, .int .i64 t.faw, .int .i64 t.ccds, .int .i64 t.ccdl, .int .i64 t.rtp, .int .i64 t.wr, .int .i64 t.wtrs, .int .i64 t.wtrl, .int .i64 t.rtw, .int .i64 t.rfc, .int .i64 t.cke, .int .i64 t.xp, .int .i64 t.xs], .func (.func 111) #[] #[]] w (Gives (.int .i64 (t.xp)) w) := by
  obtain ⟨w1, hw1⟩ : ∃ u, w.alloc (.cells #[.int .i64 t.rcd, .int .i64 t.rp, .int .i64 t.ras, .int .i64 t.rrds, .int .i64 t.rrdl, .int .i64 t.faw, .int .i64 t.ccds, .int .i64 t.ccdl, .int .i64 t.rtp, .int .i64 t.wr, .int .i64 t.wtrs, .int .i64 t.wtrl, .int .i64 t.rtw, .int .i64 t.rfc, .int .i64 t.cke, .int .i64 t.xp, .int .i64 t.xs] 32) = u := ⟨_, rfl⟩
  have HB1 : Hid (Below w.heap.size w w1) := by subst hw1; exact (Below.refl _ _).alloc (Nat.le_refl _) _
  have p1 : w1.heap[w.heap.size]? = some (.cells #[.int .i64 t.rcd, .int .i64 t.rp, .int .i64 t.ras, .int .i64 t.rrds, .int .i64 t.rrdl, .int .i64 t.faw, .int .i64 t.ccds, .int .i64 t.ccdl, .int .i64 t.rtp, .int .i64 t.wr, .int .i64 t.wtrs, .int .i64 t.wtrl, .int .i64 t.rtw, .int .i64 t.rfc, .int .i64 t.cke, .int .i64 t.xp, .int .i64 t.xs] 32) := by subst hw1; exact heap_alloc_new _ _
  have EQ := eq_func 111
  go_enter Try.func88, Try.ntmps88
  go_wp2_with (first | ((with_reducible refine ld_tm ?_ ?_ p1 ?_); kernel_rfl; kernel_rfl; go_simp))
  refine (m_upToAny t h _).mono ?_
  rintro e w2 ⟨rfl, hb2⟩
  have HB2 : Hid (Below w.heap.size w w2) := HB1.out.trans (hb2.mono HB1.out.size)
  clear hb2
  go_wp2
  go_ret
  exact ⟨rfl, HB2.out⟩

theorem dist_wakeToAny (t : Tm) (h : TimOk t) (w : World) : Calls Try.prog 88 #[.agg #[.int .i64 t.rcd, .int .i64 t.rp, .int .i64 t.ras, .int .i64 t.rrds, .int .i64 t.rrdl, .int .i64 t.faw, .int .i64 t.ccds, .int .i64 t.ccdl, .int .i64 t.rtp, .int .i64 t.wr, .int .i64 t.wtrs, .int .i64 t.wtrl, .int .i64 t.rtw, .int .i64 t.rfc, .int .i64 t.cke, .int .i64 t.xp, .int .i64 t.xs], .func (.func 112) #[] #[]] w (Gives (.int .i64 (t.xs)) w) := by
  obtain ⟨w1, hw1⟩ : ∃ u, w.alloc (.cells #[.int .i64 t.rcd, .int .i64 t.rp, .int .i64 t.ras, .int .i64 t.rrds, .int .i64 t.rrdl, .int .i64 t.faw, .int .i64 t.ccds, .int .i64 t.ccdl, .int .i64 t.rtp, .int .i64 t.wr, .int .i64 t.wtrs, .int .i64 t.wtrl, .int .i64 t.rtw, .int .i64 t.rfc, .int .i64 t.cke, .int .i64 t.xp, .int .i64 t.xs] 32) = u := ⟨_, rfl⟩
  have HB1 : Hid (Below w.heap.size w w1) := by subst hw1; exact (Below.refl _ _).alloc (Nat.le_refl _) _
  have p1 : w1.heap[w.heap.size]? = some (.cells #[.int .i64 t.rcd, .int .i64 t.rp, .int .i64 t.ras, .int .i64 t.rrds, .int .i64 t.rrdl, .int .i64 t.faw, .int .i64 t.ccds, .int .i64 t.ccdl, .int .i64 t.rtp, .int .i64 t.wr, .int .i64 t.wtrs, .int .i64 t.wtrl, .int .i64 t.rtw, .int .i64 t.rfc, .int .i64 t.cke, .int .i64 t.xp, .int .i64 t.xs] 32) := by subst hw1; exact heap_alloc_new _ _
  have EQ := eq_func 112
  go_enter Try.func88, Try.ntmps88
  go_wp2_with (first | ((with_reducible refine ld_tm ?_ ?_ p1 ?_); kernel_rfl; kernel_rfl; go_simp))
  refine (m_wakeToAny t h _).mono ?_
  rintro e w2 ⟨rfl, hb2⟩
  have HB2 : Hid (Below w.heap.size w w2) := HB1.out.trans (hb2.mono HB1.out.size)
  clear hb2
  go_wp2
  go_ret
  exact ⟨rfl, HB2.out⟩

end Go.Proofs.Ytihhcnckoeaihaa
