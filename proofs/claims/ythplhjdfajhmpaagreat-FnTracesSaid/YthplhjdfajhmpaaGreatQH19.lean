/-
  Texts of one proof, merged: TimI, TimT.
-/
import Derived.Test.YthplhjdfajhmpaaGreatQH15
import Derived.Test.YthplhjdfajhmpaaGreatQH18
import Derived.Laws.EntriesVeiled
namespace Go.Proofs.YthplhjdfajhmpaaGreat
open Go.RowKit

set_option linter.unusedVariables false

theorem m_actToAccess (t : Tm) (h : TimOk t) (w : World) : Calls Tryz.prog 140 #[.agg #[.int .i64 t.rcd, .int .i64 t.rp, .int .i64 t.ras, .int .i64 t.rrds, .int .i64 t.rrdl, .int .i64 t.faw, .int .i64 t.ccds, .int .i64 t.ccdl, .int .i64 t.rtp, .int .i64 t.wr, .int .i64 t.wtrs, .int .i64 t.wtrl, .int .i64 t.rtw, .int .i64 t.rfc, .int .i64 t.cke, .int .i64 t.xp, .int .i64 t.xs]] w (Gives (.int .i64 (t.rcd)) w) := by
  obtain ⟨w1, hw1⟩ : ∃ u, w.alloc (.cells #[.int .i64 t.rcd, .int .i64 t.rp, .int .i64 t.ras, .int .i64 t.rrds, .int .i64 t.rrdl, .int .i64 t.faw, .int .i64 t.ccds, .int .i64 t.ccdl, .int .i64 t.rtp, .int .i64 t.wr, .int .i64 t.wtrs, .int .i64 t.wtrl, .int .i64 t.rtw, .int .i64 t.rfc, .int .i64 t.cke, .int .i64 t.xp, .int .i64 t.xs] 27) = u := ⟨_, rfl⟩
  have HB1 : Hid (Below w.heap.size w w1) := by subst hw1; exact (Below.refl _ _).alloc (Nat.le_refl _) _
  have p1 : w1.heap[w.heap.size]? = some (.cells #[.int .i64 t.rcd, .int .i64 t.rp, .int .i64 t.ras, .int .i64 t.rrds, .int .i64 t.rrdl, .int .i64 t.faw, .int .i64 t.ccds, .int .i64 t.ccdl, .int .i64 t.rtp, .int .i64 t.wr, .int .i64 t.wtrs, .int .i64 t.wtrl, .int .i64 t.rtw, .int .i64 t.rfc, .int .i64 t.cke, .int .i64 t.xp, .int .i64 t.xs] 27) := by subst hw1; exact heap_alloc_new _ _
  obtain ⟨c0, _, _, _, _, _, _, _, _, _, _, _, _, _, _, _, _⟩ := tm_cells p1
  clear p1 h
  go_enter Tryz.func140, Tryz.ntmps140
  go_wp2
  go_ret
  exact ⟨rfl, HB1.out⟩

theorem m_actToPre (t : Tm) (h : TimOk t) (w : World) : Calls Tryz.prog 141 #[.agg #[.int .i64 t.rcd, .int .i64 t.rp, .int .i64 t.ras, .int .i64 t.rrds, .int .i64 t.rrdl, .int .i64 t.faw, .int .i64 t.ccds, .int .i64 t.ccdl, .int .i64 t.rtp, .int .i64 t.wr, .int .i64 t.wtrs, .int .i64 t.wtrl, .int .i64 t.rtw, .int .i64 t.rfc, .int .i64 t.cke, .int .i64 t.xp, .int .i64 t.xs]] w (Gives (.int .i64 (t.ras)) w) := by
  obtain ⟨w1, hw1⟩ : ∃ u, w.alloc (.cells #[.int .i64 t.rcd, .int .i64 t.rp, .int .i64 t.ras, .int .i64 t.rrds, .int .i64 t.rrdl, .int .i64 t.faw, .int .i64 t.ccds, .int .i64 t.ccdl, .int .i64 t.rtp, .int .i64 t.wr, .int .i64 t.wtrs, .int .i64 t.wtrl, .int .i64 t.rtw, .int .i64 t.rfc, .int .i64 t.cke, .int .i64 t.xp, .int .i64 t.xs] 27) = u := ⟨_, rfl⟩
  have HB1 : Hid (Below w.heap.size w w1) := by subst hw1; exact (Below.refl _ _).alloc (Nat.le_refl _) _
  have p1 : w1.heap[w.heap.size]? = some (.cells #[.int .i64 t.rcd, .int .i64 t.rp, .int .i64 t.ras, .int .i64 t.rrds, .int .i64 t.rrdl, .int .i64 t.faw, .int .i64 t.ccds, .int .i64 t.ccdl, .int .i64 t.rtp, .int .i64 t.wr, .int .i64 t.wtrs, .int .i64 t.wtrl, .int .i64 t.rtw, .int .i64 t.rfc, .int .i64 t.cke, .int .i64 t.xp, .int .i64 t.xs] 27) := by subst hw1; exact heap_alloc_new _ _
  obtain ⟨_, _, c2, _, _, _, _, _, _, _, _, _, _, _, _, _, _⟩ := tm_cells p1
  clear p1 h
  go_enter Tryz.func141, Tryz.ntmps141
  go_wp2
  go_ret
  exact ⟨rfl, HB1.out⟩

theorem m_actToClosed (t : Tm) (h : TimOk t) (w : World) : Calls Tryz.prog 127 #[.agg #[.int .i64 t.rcd, .int .i64 t.rp, .int .i64 t.ras, .int .i64 t.rrds, .int .i64 t.rrdl, .int .i64 t.faw, .int .i64 t.ccds, .int .i64 t.ccdl, .int .i64 t.rtp, .int .i64 t.wr, .int .i64 t.wtrs, .int .i64 t.wtrl, .int .i64 t.rtw, .int .i64 t.rfc, .int .i64 t.cke, .int .i64 t.xp, .int .i64 t.xs]] w (Gives (.int .i64 (t.ras + t.rp)) w) := by
  obtain ⟨w1, hw1⟩ : ∃ u, w.alloc (.cells #[.int .i64 t.rcd, .int .i64 t.rp, .int .i64 t.ras, .int .i64 t.rrds, .int .i64 t.rrdl, .int .i64 t.faw, .int .i64 t.ccds, .int .i64 t.ccdl, .int .i64 t.rtp, .int .i64 t.wr, .int .i64 t.wtrs, .int .i64 t.wtrl, .int .i64 t.rtw, .int .i64 t.rfc, .int .i64 t.cke, .int .i64 t.xp, .int .i64 t.xs] 27) = u := ⟨_, rfl⟩
  have HB1 : Hid (Below w.heap.size w w1) := by subst hw1; exact (Below.refl _ _).alloc (Nat.le_refl _) _
  have p1 : w1.heap[w.heap.size]? = some (.cells #[.int .i64 t.rcd, .int .i64 t.rp, .int .i64 t.ras, .int .i64 t.rrds, .int .i64 t.rrdl, .int .i64 t.faw, .int .i64 t.ccds, .int .i64 t.ccdl, .int .i64 t.rtp, .int .i64 t.wr, .int .i64 t.wtrs, .int .i64 t.wtrl, .int .i64 t.rtw, .int .i64 t.rfc, .int .i64 t.cke, .int .i64 t.xp, .int .i64 t.xs] 27) := by subst hw1; exact heap_alloc_new _ _
  obtain ⟨_, c1, c2, _, _, _, _, _, _, _, _, _, _, _, _, _, _⟩ := tm_cells p1
  obtain ⟨n0, n1, n2, n3, n4, n5, n6, n7, n8, n9, n10, n11, n12, n13, n14, n15, n16⟩ := h.nums
  unfold In64 at *
  have e1 : IntKind.i64.wrap (t.ras + t.rp) = t.ras + t.rp := IntWalk.i64_in _ ⟨by omega, by omega⟩
  clear n0 n1 n2 n3 n4 n5 n6 n7 n8 n9 n10 n11 n12 n13 n14 n15 n16
  clear p1 h
  go_enter Tryz.func127, Tryz.ntmps127
  go_wp2
  go_ret
  exact ⟨rfl, HB1.out⟩

theorem m_readToPre (t : Tm) (h : TimOk t) (w : World) : Calls Tryz.prog 129 #[.agg #[.int .i64 t.rcd, .int .i64 t.rp, .int .i64 t.ras, .int .i64 t.rrds, .int .i64 t.rrdl, .int .i64 t.faw, .int .i64 t.ccds, .int .i64 t.ccdl, .int .i64 t.rtp, .int .i64 t.wr, .int .i64 t.wtrs, .int .i64 t.wtrl, .int .i64 t.rtw, .int .i64 t.rfc, .int .i64 t.cke, .int .i64 t.xp, .int .i64 t.xs]] w (Gives (.int .i64 (t.rtp)) w) := by
  obtain ⟨w1, hw1⟩ : ∃ u, w.alloc (.cells #[.int .i64 t.rcd, .int .i64 t.rp, .int .i64 t.ras, .int .i64 t.rrds, .int .i64 t.rrdl, .int .i64 t.faw, .int .i64 t.ccds, .int .i64 t.ccdl, .int .i64 t.rtp, .int .i64 t.wr, .int .i64 t.wtrs, .int .i64 t.wtrl, .int .i64 t.rtw, .int .i64 t.rfc, .int .i64 t.cke, .int .i64 t.xp, .int .i64 t.xs] 27) = u := ⟨_, rfl⟩
  have HB1 : Hid (Below w.heap.size w w1) := by subst hw1; exact (Below.refl _ _).alloc (Nat.le_refl _) _
  have p1 : w1.heap[w.heap.size]? = some (.cells #[.int .i64 t.rcd, .int .i64 t.rp, .int .i64 t.ras, .int .i64 t.rrds, .int .i64 t.rrdl, .int .i64 t.faw, .int .i64 t.ccds, .int .i64 t.ccdl, .int .i64 t.rtp, .int .i64 t.wr, .int .i64 t.wtrs, .int .i64 t.wtrl, .int .i64 t.rtw, .int .i64 t.rfc, .int .i64 t.cke, .int .i64 t.xp, .int .i64 t.xs] 27) := by subst hw1; exact heap_alloc_new _ _
  obtain ⟨_, _, _, _, _, _, _, _, c8, _, _, _, _, _, _, _, _⟩ := tm_cells p1
  clear p1 h
  go_enter Tryz.func129, Tryz.ntmps129
  go_wp2
  go_ret
  exact ⟨rfl, HB1.out⟩

theorem m_readToClosed (t : Tm) (h : TimOk t) (w : World) : Calls Tryz.prog 130 #[.agg #[.int .i64 t.rcd, .int .i64 t.rp, .int .i64 t.ras, .int .i64 t.rrds, .int .i64 t.rrdl, .int .i64 t.faw, .int .i64 t.ccds, .int .i64 t.ccdl, .int .i64 t.rtp, .int .i64 t.wr, .int .i64 t.wtrs, .int .i64 t.wtrl, .int .i64 t.rtw, .int .i64 t.rfc, .int .i64 t.cke, .int .i64 t.xp, .int .i64 t.xs]] w (Gives (.int .i64 (t.rtp + t.rp)) w) := by
  obtain ⟨w1, hw1⟩ : ∃ u, w.alloc (.cells #[.int .i64 t.rcd, .int .i64 t.rp, .int .i64 t.ras, .int .i64 t.rrds, .int .i64 t.rrdl, .int .i64 t.faw, .int .i64 t.ccds, .int .i64 t.ccdl, .int .i64 t.rtp, .int .i64 t.wr, .int .i64 t.wtrs, .int .i64 t.wtrl, .int .i64 t.rtw, .int .i64 t.rfc, .int .i64 t.cke, .int .i64 t.xp, .int .i64 t.xs] 27) = u := ⟨_, rfl⟩
  have HB1 : Hid (Below w.heap.size w w1) := by subst hw1; exact (Below.refl _ _).alloc (Nat.le_refl _) _
  have p1 : w1.heap[w.heap.size]? = some (.cells #[.int .i64 t.rcd, .int .i64 t.rp, .int .i64 t.ras, .int .i64 t.rrds, .int .i64 t.rrdl, .int .i64 t.faw, .int .i64 t.ccds, .int .i64 t.ccdl, .int .i64 t.rtp, .int .i64 t.wr, .int .i64 t.wtrs, .int .i64 t.wtrl, .int .i64 t.rtw, .int .i64 t.rfc, .int .i64 t.cke, .int .i64 t.xp, .int .i64 t.xs] 27) := by subst hw1; exact heap_alloc_new _ _
  obtain ⟨_, c1, _, _, _, _, _, _, c8, _, _, _, _, _, _, _, _⟩ := tm_cells p1
  obtain ⟨n0, n1, n2, n3, n4, n5, n6, n7, n8, n9, n10, n11, n12, n13, n14, n15, n16⟩ := h.nums
  unfold In64 at *
  have e1 : IntKind.i64.wrap (t.rtp + t.rp) = t.rtp + t.rp := IntWalk.i64_in _ ⟨by omega, by omega⟩
  clear n0 n1 n2 n3 n4 n5 n6 n7 n8 n9 n10 n11 n12 n13 n14 n15 n16
  clear p1 h
  go_enter Tryz.func130, Tryz.ntmps130
  go_wp2
  go_ret
  exact ⟨rfl, HB1.out⟩

theorem m_writeToPre (t : Tm) (h : TimOk t) (w : World) : Calls Tryz.prog 131 #[.agg #[.int .i64 t.rcd, .int .i64 t.rp, .int .i64 t.ras, .int .i64 t.rrds, .int .i64 t.rrdl, .int .i64 t.faw, .int .i64 t.ccds, .int .i64 t.ccdl, .int .i64 t.rtp, .int .i64 t.wr, .int .i64 t.wtrs, .int .i64 t.wtrl, .int .i64 t.rtw, .int .i64 t.rfc, .int .i64 t.cke, .int .i64 t.xp, .int .i64 t.xs]] w (Gives (.int .i64 (t.wr)) w) := by
  obtain ⟨w1, hw1⟩ : ∃ u, w.alloc (.cells #[.int .i64 t.rcd, .int .i64 t.rp, .int .i64 t.ras, .int .i64 t.rrds, .int .i64 t.rrdl, .int .i64 t.faw, .int .i64 t.ccds, .int .i64 t.ccdl, .int .i64 t.rtp, .int .i64 t.wr, .int .i64 t.wtrs, .int .i64 t.wtrl, .int .i64 t.rtw, .int .i64 t.rfc, .int .i64 t.cke, .int .i64 t.xp, .int .i64 t.xs] 27) = u := ⟨_, rfl⟩
  have HB1 : Hid (Below w.heap.size w w1) := by subst hw1; exact (Below.refl _ _).alloc (Nat.le_refl _) _
  have p1 : w1.heap[w.heap.size]? = some (.cells #[.int .i64 t.rcd, .int .i64 t.rp, .int .i64 t.ras, .int .i64 t.rrds, .int .i64 t.rrdl, .int .i64 t.faw, .int .i64 t.ccds, .int .i64 t.ccdl, .int .i64 t.rtp, .int .i64 t.wr, .int .i64 t.wtrs, .int .i64 t.wtrl, .int .i64 t.rtw, .int .i64 t.rfc, .int .i64 t.cke, .int .i64 t.xp, .int .i64 t.xs] 27) := by subst hw1; exact heap_alloc_new _ _
  obtain ⟨_, _, _, _, _, _, _, _, _, c9, _, _, _, _, _, _, _⟩ := tm_cells p1
  clear p1 h
  go_enter Tryz.func131, Tryz.ntmps131
  go_wp2
  go_ret
  exact ⟨rfl, HB1.out⟩

theorem m_writeToClosed (t : Tm) (h : TimOk t) (w : World) : Calls Tryz.prog 132 #[.agg #[.int .i64 t.rcd, .int .i64 t.rp, .int .i64 t.ras, .int .i64 t.rrds, .int .i64 t.rrdl, .int .i64 t.faw, .int .i64 t.ccds, .int .i64 t.ccdl, .int .i64 t.rtp, .int .i64 t.wr, .int .i64 t.wtrs, .int .i64 t.wtrl, .int .i64 t.rtw, .int .i64 t.rfc, .int .i64 t.cke, .int .i64 t.xp, .int .i64 t.xs]] w (Gives (.int .i64 (t.wr + t.rp)) w) := by
  obtain ⟨w1, hw1⟩ : ∃ u, w.alloc (.cells #[.int .i64 t.rcd, .int .i64 t.rp, .int .i64 t.ras, .int .i64 t.rrds, .int .i64 t.rrdl, .int .i64 t.faw, .int .i64 t.ccds, .int .i64 t.ccdl, .int .i64 t.rtp, .int .i64 t.wr, .int .i64 t.wtrs, .int .i64 t.wtrl, .int .i64 t.rtw, .int .i64 t.rfc, .int .i64 t.cke, .int .i64 t.xp, .int .i64 t.xs] 27) = u := ⟨_, rfl⟩
  have HB1 : Hid (Below w.heap.size w w1) := by subst hw1; exact (Below.refl _ _).alloc (Nat.le_refl _) _
  have p1 : w1.heap[w.heap.size]? = some (.cells #[.int .i64 t.rcd, .int .i64 t.rp, .int .i64 t.ras, .int .i64 t.rrds, .int .i64 t.rrdl, .int .i64 t.faw, .int .i64 t.ccds, .int .i64 t.ccdl, .int .i64 t.rtp, .int .i64 t.wr, .int .i64 t.wtrs, .int .i64 t.wtrl, .int .i64 t.rtw, .int .i64 t.rfc, .int .i64 t.cke, .int .i64 t.xp, .int .i64 t.xs] 27) := by subst hw1; exact heap_alloc_new _ _
  obtain ⟨_, c1, _, _, _, _, _, _, _, c9, _, _, _, _, _, _, _⟩ := tm_cells p1
  obtain ⟨n0, n1, n2, n3, n4, n5, n6, n7, n8, n9, n10, n11, n12, n13, n14, n15, n16⟩ := h.nums
  unfold In64 at *
  have e1 : IntKind.i64.wrap (t.wr + t.rp) = t.wr + t.rp := IntWalk.i64_in _ ⟨by omega, by omega⟩
  clear n0 n1 n2 n3 n4 n5 n6 n7 n8 n9 n10 n11 n12 n13 n14 n15 n16
  clear p1 h
  go_enter Tryz.func132, Tryz.ntmps132
  go_wp2
  go_ret
  exact ⟨rfl, HB1.out⟩

theorem m_preToClosed (t : Tm) (h : TimOk t) (w : World) : Calls Tryz.prog 133 #[.agg #[.int .i64 t.rcd, .int .i64 t.rp, .int .i64 t.ras, .int .i64 t.rrds, .int .i64 t.rrdl, .int .i64 t.faw, .int .i64 t.ccds, .int .i64 t.ccdl, .int .i64 t.rtp, .int .i64 t.wr, .int .i64 t.wtrs, .int .i64 t.wtrl, .int .i64 t.rtw, .int .i64 t.rfc, .int .i64 t.cke, .int .i64 t.xp, .int .i64 t.xs]] w (Gives (.int .i64 (t.rp)) w) := by
  obtain ⟨w1, hw1⟩ : ∃ u, w.alloc (.cells #[.int .i64 t.rcd, .int .i64 t.rp, .int .i64 t.ras, .int .i64 t.rrds, .int .i64 t.rrdl, .int .i64 t.faw, .int .i64 t.ccds, .int .i64 t.ccdl, .int .i64 t.rtp, .int .i64 t.wr, .int .i64 t.wtrs, .int .i64 t.wtrl, .int .i64 t.rtw, .int .i64 t.rfc, .int .i64 t.cke, .int .i64 t.xp, .int .i64 t.xs] 27) = u := ⟨_, rfl⟩
  have HB1 : Hid (Below w.heap.size w w1) := by subst hw1; exact (Below.refl _ _).alloc (Nat.le_refl _) _
  have p1 : w1.heap[w.heap.size]? = some (.cells #[.int .i64 t.rcd, .int .i64 t.rp, .int .i64 t.ras, .int .i64 t.rrds, .int .i64 t.rrdl, .int .i64 t.faw, .int .i64 t.ccds, .int .i64 t.ccdl, .int .i64 t.rtp, .int .i64 t.wr, .int .i64 t.wtrs, .int .i64 t.wtrl, .int .i64 t.rtw, .int .i64 t.rfc, .int .i64 t.cke, .int .i64 t.xp, .int .i64 t.xs] 27) := by subst hw1; exact heap_alloc_new _ _
  obtain ⟨_, c1, _, _, _, _, _, _, _, _, _, _, _, _, _, _, _⟩ := tm_cells p1
  clear p1 h
  go_enter Tryz.func133, Tryz.ntmps133
  go_wp2
  go_ret
  exact ⟨rfl, HB1.out⟩

theorem m_refToDone (t : Tm) (h : TimOk t) (w : World) : Calls Tryz.prog 135 #[.agg #[.int .i64 t.rcd, .int .i64 t.rp, .int .i64 t.ras, .int .i64 t.rrds, .int .i64 t.rrdl, .int .i64 t.faw, .int .i64 t.ccds, .int .i64 t.ccdl, .int .i64 t.rtp, .int .i64 t.wr, .int .i64 t.wtrs, .int .i64 t.wtrl, .int .i64 t.rtw, .int .i64 t.rfc, .int .i64 t.cke, .int .i64 t.xp, .int .i64 t.xs]] w (Gives (.int .i64 (t.rfc)) w) := by
  obtain ⟨w1, hw1⟩ : ∃ u, w.alloc (.cells #[.int .i64 t.rcd, .int .i64 t.rp, .int .i64 t.ras, .int .i64 t.rrds, .int .i64 t.rrdl, .int .i64 t.faw, .int .i64 t.ccds, .int .i64 t.ccdl, .int .i64 t.rtp, .int .i64 t.wr, .int .i64 t.wtrs, .int .i64 t.wtrl, .int .i64 t.rtw, .int .i64 t.rfc, .int .i64 t.cke, .int .i64 t.xp, .int .i64 t.xs] 27) = u := ⟨_, rfl⟩
  have HB1 : Hid (Below w.heap.size w w1) := by subst hw1; exact (Below.refl _ _).alloc (Nat.le_refl _) _
  have p1 : w1.heap[w.heap.size]? = some (.cells #[.int .i64 t.rcd, .int .i64 t.rp, .int .i64 t.ras, .int .i64 t.rrds, .int .i64 t.rrdl, .int .i64 t.faw, .int .i64 t.ccds, .int .i64 t.ccdl, .int .i64 t.rtp, .int .i64 t.wr, .int .i64 t.wtrs, .int .i64 t.wtrl, .int .i64 t.rtw, .int .i64 t.rfc, .int .i64 t.cke, .int .i64 t.xp, .int .i64 t.xs] 27) := by subst hw1; exact heap_alloc_new _ _
  obtain ⟨_, _, _, _, _, _, _, _, _, _, _, _, _, c13, _, _, _⟩ := tm_cells p1
  clear p1 h
  go_enter Tryz.func135, Tryz.ntmps135
  go_wp2
  go_ret
  exact ⟨rfl, HB1.out⟩

theorem m_actToNearAct (t : Tm) (h : TimOk t) (w : World) : Calls Tryz.prog 124 #[.agg #[.int .i64 t.rcd, .int .i64 t.rp, .int .i64 t.ras, .int .i64 t.rrds, .int .i64 t.rrdl, .int .i64 t.faw, .int .i64 t.ccds, .int .i64 t.ccdl, .int .i64 t.rtp, .int .i64 t.wr, .int .i64 t.wtrs, .int .i64 t.wtrl, .int .i64 t.rtw, .int .i64 t.rfc, .int .i64 t.cke, .int .i64 t.xp, .int .i64 t.xs]] w (Gives (.int .i64 (t.rrdl)) w) := by
  obtain ⟨w1, hw1⟩ : ∃ u, w.alloc (.cells #[.int .i64 t.rcd, .int .i64 t.rp, .int .i64 t.ras, .int .i64 t.rrds, .int .i64 t.rrdl, .int .i64 t.faw, .int .i64 t.ccds, .int .i64 t.ccdl, .int .i64 t.rtp, .int .i64 t.wr, .int .i64 t.wtrs, .int .i64 t.wtrl, .int .i64 t.rtw, .int .i64 t.rfc, .int .i64 t.cke, .int .i64 t.xp, .int .i64 t.xs] 27) = u := ⟨_, rfl⟩
  have HB1 : Hid (Below w.heap.size w w1) := by subst hw1; exact (Below.refl _ _).alloc (Nat.le_refl _) _
  have p1 : w1.heap[w.heap.size]? = some (.cells #[.int .i64 t.rcd, .int .i64 t.rp, .int .i64 t.ras, .int .i64 t.rrds, .int .i64 t.rrdl, .int .i64 t.faw, .int .i64 t.ccds, .int .i64 t.ccdl, .int .i64 t.rtp, .int .i64 t.wr, .int .i64 t.wtrs, .int .i64 t.wtrl, .int .i64 t.rtw, .int .i64 t.rfc, .int .i64 t.cke, .int .i64 t.xp, .int .i64 t.xs] 27) := by subst hw1; exact heap_alloc_new _ _
  obtain ⟨_, _, _, _, c4, _, _, _, _, _, _, _, _, _, _, _, _⟩ := tm_cells p1
  clear p1 h
  go_enter Tryz.func124, Tryz.ntmps124
  go_wp2
  go_ret
  exact ⟨rfl, HB1.out⟩

theorem m_actToFarAct (t : Tm) (h : TimOk t) (w : World) : Calls Tryz.prog 121 #[.agg #[.int .i64 t.rcd, .int .i64 t.rp, .int .i64 t.ras, .int .i64 t.rrds, .int .i64 t.rrdl, .int .i64 t.faw, .int .i64 t.ccds, .int .i64 t.ccdl, .int .i64 t.rtp, .int .i64 t.wr, .int .i64 t.wtrs, .int .i64 t.wtrl, .int .i64 t.rtw, .int .i64 t.rfc, .int .i64 t.cke, .int .i64 t.xp, .int .i64 t.xs]] w (Gives (.int .i64 (t.rrds)) w) := by
  obtain ⟨w1, hw1⟩ : ∃ u, w.alloc (.cells #[.int .i64 t.rcd, .int .i64 t.rp, .int .i64 t.ras, .int .i64 t.rrds, .int .i64 t.rrdl, .int .i64 t.faw, .int .i64 t.ccds, .int .i64 t.ccdl, .int .i64 t.rtp, .int .i64 t.wr, .int .i64 t.wtrs, .int .i64 t.wtrl, .int .i64 t.rtw, .int .i64 t.rfc, .int .i64 t.cke, .int .i64 t.xp, .int .i64 t.xs] 27) = u := ⟨_, rfl⟩
  have HB1 : Hid (Below w.heap.size w w1) := by subst hw1; exact (Below.refl _ _).alloc (Nat.le_refl _) _
  have p1 : w1.heap[w.heap.size]? = some (.cells #[.int .i64 t.rcd, .int .i64 t.rp, .int .i64 t.ras, .int .i64 t.rrds, .int .i64 t.rrdl, .int .i64 t.faw, .int .i64 t.ccds, .int .i64 t.ccdl, .int .i64 t.rtp, .int .i64 t.wr, .int .i64 t.wtrs, .int .i64 t.wtrl, .int .i64 t.rtw, .int .i64 t.rfc, .int .i64 t.cke, .int .i64 t.xp, .int .i64 t.xs] 27) := by subst hw1; exact heap_alloc_new _ _
  obtain ⟨_, _, _, c3, _, _, _, _, _, _, _, _, _, _, _, _, _⟩ := tm_cells p1
  clear p1 h
  go_enter Tryz.func121, Tryz.ntmps121
  go_wp2
  go_ret
  exact ⟨rfl, HB1.out⟩

theorem m_accessToNearAccess (t : Tm) (h : TimOk t) (w : World) : Calls Tryz.prog 125 #[.agg #[.int .i64 t.rcd, .int .i64 t.rp, .int .i64 t.ras, .int .i64 t.rrds, .int .i64 t.rrdl, .int .i64 t.faw, .int .i64 t.ccds, .int .i64 t.ccdl, .int .i64 t.rtp, .int .i64 t.wr, .int .i64 t.wtrs, .int .i64 t.wtrl, .int .i64 t.rtw, .int .i64 t.rfc, .int .i64 t.cke, .int .i64 t.xp, .int .i64 t.xs]] w (Gives (.int .i64 (t.ccdl)) w) := by
  obtain ⟨w1, hw1⟩ : ∃ u, w.alloc (.cells #[.int .i64 t.rcd, .int .i64 t.rp, .int .i64 t.ras, .int .i64 t.rrds, .int .i64 t.rrdl, .int .i64 t.faw, .int .i64 t.ccds, .int .i64 t.ccdl, .int .i64 t.rtp, .int .i64 t.wr, .int .i64 t.wtrs, .int .i64 t.wtrl, .int .i64 t.rtw, .int .i64 t.rfc, .int .i64 t.cke, .int .i64 t.xp, .int .i64 t.xs] 27) = u := ⟨_, rfl⟩
  have HB1 : Hid (Below w.heap.size w w1) := by subst hw1; exact (Below.refl _ _).alloc (Nat.le_refl _) _
  have p1 : w1.heap[w.heap.size]? = some (.cells #[.int .i64 t.rcd, .int .i64 t.rp, .int .i64 t.ras, .int .i64 t.rrds, .int .i64 t.rrdl, .int .i64 t.faw, .int .i64 t.ccds, .int .i64 t.ccdl, .int .i64 t.rtp, .int .i64 t.wr, .int .i64 t.wtrs, .int .i64 t.wtrl, .int .i64 t.rtw, .int .i64 t.rfc, .int .i64 t.cke, .int .i64 t.xp, .int .i64 t.xs] 27) := by subst hw1; exact heap_alloc_new _ _
  obtain ⟨_, _, _, _, _, _, _, c7, _, _, _, _, _, _, _, _, _⟩ := tm_cells p1
  clear p1 h
  go_enter Tryz.func125, Tryz.ntmps125
  go_wp2
  go_ret
  exact ⟨rfl, HB1.out⟩

theorem m_accessToFarAccess (t : Tm) (h : TimOk t) (w : World) : Calls Tryz.prog 122 #[.agg #[.int .i64 t.rcd, .int .i64 t.rp, .int .i64 t.ras, .int .i64 t.rrds, .int .i64 t.rrdl, .int .i64 t.faw, .int .i64 t.ccds, .int .i64 t.ccdl, .int .i64 t.rtp, .int .i64 t.wr, .int .i64 t.wtrs, .int .i64 t.wtrl, .int .i64 t.rtw, .int .i64 t.rfc, .int .i64 t.cke, .int .i64 t.xp, .int .i64 t.xs]] w (Gives (.int .i64 (t.ccds)) w) := by
  obtain ⟨w1, hw1⟩ : ∃ u, w.alloc (.cells #[.int .i64 t.rcd, .int .i64 t.rp, .int .i64 t.ras, .int .i64 t.rrds, .int .i64 t.rrdl, .int .i64 t.faw, .int .i64 t.ccds, .int .i64 t.ccdl, .int .i64 t.rtp, .int .i64 t.wr, .int .i64 t.wtrs, .int .i64 t.wtrl, .int .i64 t.rtw, .int .i64 t.rfc, .int .i64 t.cke, .int .i64 t.xp, .int .i64 t.xs] 27) = u := ⟨_, rfl⟩
  have HB1 : Hid (Below w.heap.size w w1) := by subst hw1; exact (Below.refl _ _).alloc (Nat.le_refl _) _
  have p1 : w1.heap[w.heap.size]? = some (.cells #[.int .i64 t.rcd, .int .i64 t.rp, .int .i64 t.ras, .int .i64 t.rrds, .int .i64 t.rrdl, .int .i64 t.faw, .int .i64 t.ccds, .int .i64 t.ccdl, .int .i64 t.rtp, .int .i64 t.wr, .int .i64 t.wtrs, .int .i64 t.wtrl, .int .i64 t.rtw, .int .i64 t.rfc, .int .i64 t.cke, .int .i64 t.xp, .int .i64 t.xs] 27) := by subst hw1; exact heap_alloc_new _ _
  obtain ⟨_, _, _, _, _, _, c6, _, _, _, _, _, _, _, _, _, _⟩ := tm_cells p1
  clear p1 h
  go_enter Tryz.func122, Tryz.ntmps122
  go_wp2
  go_ret
  exact ⟨rfl, HB1.out⟩

theorem m_writeToNearRead (t : Tm) (h : TimOk t) (w : World) : Calls Tryz.prog 126 #[.agg #[.int .i64 t.rcd, .int .i64 t.rp, .int .i64 t.ras, .int .i64 t.rrds, .int .i64 t.rrdl, .int .i64 t.faw, .int .i64 t.ccds, .int .i64 t.ccdl, .int .i64 t.rtp, .int .i64 t.wr, .int .i64 t.wtrs, .int .i64 t.wtrl, .int .i64 t.rtw, .int .i64 t.rfc, .int .i64 t.cke, .int .i64 t.xp, .int .i64 t.xs]] w (Gives (.int .i64 (t.wtrl)) w) := by
  obtain ⟨w1, hw1⟩ : ∃ u, w.alloc (.cells #[.int .i64 t.rcd, .int .i64 t.rp, .int .i64 t.ras, .int .i64 t.rrds, .int .i64 t.rrdl, .int .i64 t.faw, .int .i64 t.ccds, .int .i64 t.ccdl, .int .i64 t.rtp, .int .i64 t.wr, .int .i64 t.wtrs, .int .i64 t.wtrl, .int .i64 t.rtw, .int .i64 t.rfc, .int .i64 t.cke, .int .i64 t.xp, .int .i64 t.xs] 27) = u := ⟨_, rfl⟩
  have HB1 : Hid (Below w.heap.size w w1) := by subst hw1; exact (Below.refl _ _).alloc (Nat.le_refl _) _
  have p1 : w1.heap[w.heap.size]? = some (.cells #[.int .i64 t.rcd, .int .i64 t.rp, .int .i64 t.ras, .int .i64 t.rrds, .int .i64 t.rrdl, .int .i64 t.faw, .int .i64 t.ccds, .int .i64 t.ccdl, .int .i64 t.rtp, .int .i64 t.wr, .int .i64 t.wtrs, .int .i64 t.wtrl, .int .i64 t.rtw, .int .i64 t.rfc, .int .i64 t.cke, .int .i64 t.xp, .int .i64 t.xs] 27) := by subst hw1; exact heap_alloc_new _ _
  obtain ⟨_, _, _, _, _, _, _, _, _, _, _, c11, _, _, _, _, _⟩ := tm_cells p1
  clear p1 h
  go_enter Tryz.func126, Tryz.ntmps126
  go_wp2
  go_ret
  exact ⟨rfl, HB1.out⟩

theorem m_writeToFarRead (t : Tm) (h : TimOk t) (w : World) : Calls Tryz.prog 123 #[.agg #[.int .i64 t.rcd, .int .i64 t.rp, .int .i64 t.ras, .int .i64 t.rrds, .int .i64 t.rrdl, .int .i64 t.faw, .int .i64 t.ccds, .int .i64 t.ccdl, .int .i64 t.rtp, .int .i64 t.wr, .int .i64 t.wtrs, .int .i64 t.wtrl, .int .i64 t.rtw, .int .i64 t.rfc, .int .i64 t.cke, .int .i64 t.xp, .int .i64 t.xs]] w (Gives (.int .i64 (t.wtrs)) w) := by
  obtain ⟨w1, hw1⟩ : ∃ u, w.alloc (.cells #[.int .i64 t.rcd, .int .i64 t.rp, .int .i64 t.ras, .int .i64 t.rrds, .int .i64 t.rrdl, .int .i64 t.faw, .int .i64 t.ccds, .int .i64 t.ccdl, .int .i64 t.rtp, .int .i64 t.wr, .int .i64 t.wtrs, .int .i64 t.wtrl, .int .i64 t.rtw, .int .i64 t.rfc, .int .i64 t.cke, .int .i64 t.xp, .int .i64 t.xs] 27) = u := ⟨_, rfl⟩
  have HB1 : Hid (Below w.heap.size w w1) := by subst hw1; exact (Below.refl _ _).alloc (Nat.le_refl _) _
  have p1 : w1.heap[w.heap.size]? = some (.cells #[.int .i64 t.rcd, .int .i64 t.rp, .int .i64 t.ras, .int .i64 t.rrds, .int .i64 t.rrdl, .int .i64 t.faw, .int .i64 t.ccds, .int .i64 t.ccdl, .int .i64 t.rtp, .int .i64 t.wr, .int .i64 t.wtrs, .int .i64 t.wtrl, .int .i64 t.rtw, .int .i64 t.rfc, .int .i64 t.cke, .int .i64 t.xp, .int .i64 t.xs] 27) := by subst hw1; exact heap_alloc_new _ _
  obtain ⟨_, _, _, _, _, _, _, _, _, _, c10, _, _, _, _, _, _⟩ := tm_cells p1
  clear p1 h
  go_enter Tryz.func123, Tryz.ntmps123
  go_wp2
  go_ret
  exact ⟨rfl, HB1.out⟩

theorem m_readToWrite (t : Tm) (h : TimOk t) (w : World) : Calls Tryz.prog 128 #[.agg #[.int .i64 t.rcd, .int .i64 t.rp, .int .i64 t.ras, .int .i64 t.rrds, .int .i64 t.rrdl, .int .i64 t.faw, .int .i64 t.ccds, .int .i64 t.ccdl, .int .i64 t.rtp, .int .i64 t.wr, .int .i64 t.wtrs, .int .i64 t.wtrl, .int .i64 t.rtw, .int .i64 t.rfc, .int .i64 t.cke, .int .i64 t.xp, .int .i64 t.xs]] w (Gives (.int .i64 (t.rtw)) w) := by
  obtain ⟨w1, hw1⟩ : ∃ u, w.alloc (.cells #[.int .i64 t.rcd, .int .i64 t.rp, .int .i64 t.ras, .int .i64 t.rrds, .int .i64 t.rrdl, .int .i64 t.faw, .int .i64 t.ccds, .int .i64 t.ccdl, .int .i64 t.rtp, .int .i64 t.wr, .int .i64 t.wtrs, .int .i64 t.wtrl, .int .i64 t.rtw, .int .i64 t.rfc, .int .i64 t.cke, .int .i64 t.xp, .int .i64 t.xs] 27) = u := ⟨_, rfl⟩
  have HB1 : Hid (Below w.heap.size w w1) := by subst hw1; exact (Below.refl _ _).alloc (Nat.le_refl _) _
  have p1 : w1.heap[w.heap.size]? = some (.cells #[.int .i64 t.rcd, .int .i64 t.rp, .int .i64 t.ras, .int .i64 t.rrds, .int .i64 t.rrdl, .int .i64 t.faw, .int .i64 t.ccds, .int .i64 t.ccdl, .int .i64 t.rtp, .int .i64 t.wr, .int .i64 t.wtrs, .int .i64 t.wtrl, .int .i64 t.rtw, .int .i64 t.rfc, .int .i64 t.cke, .int .i64 t.xp, .int .i64 t.xs] 27) := by subst hw1; exact heap_alloc_new _ _
  obtain ⟨_, _, _, _, _, _, _, _, _, _, _, _, c12, _, _, _, _⟩ := tm_cells p1
  clear p1 h
  go_enter Tryz.func128, Tryz.ntmps128
  go_wp2
  go_ret
  exact ⟨rfl, HB1.out⟩

theorem m_refToRef (t : Tm) (h : TimOk t) (w : World) : Calls Tryz.prog 134 #[.agg #[.int .i64 t.rcd, .int .i64 t.rp, .int .i64 t.ras, .int .i64 t.rrds, .int .i64 t.rrdl, .int .i64 t.faw, .int .i64 t.ccds, .int .i64 t.ccdl, .int .i64 t.rtp, .int .i64 t.wr, .int .i64 t.wtrs, .int .i64 t.wtrl, .int .i64 t.rtw, .int .i64 t.rfc, .int .i64 t.cke, .int .i64 t.xp, .int .i64 t.xs]] w (Gives (.int .i64 (t.rrdl)) w) := by
  obtain ⟨w1, hw1⟩ : ∃ u, w.alloc (.cells #[.int .i64 t.rcd, .int .i64 t.rp, .int .i64 t.ras, .int .i64 t.rrds, .int .i64 t.rrdl, .int .i64 t.faw, .int .i64 t.ccds, .int .i64 t.ccdl, .int .i64 t.rtp, .int .i64 t.wr, .int .i64 t.wtrs, .int .i64 t.wtrl, .int .i64 t.rtw, .int .i64 t.rfc, .int .i64 t.cke, .int .i64 t.xp, .int .i64 t.xs] 27) = u := ⟨_, rfl⟩
  have HB1 : Hid (Below w.heap.size w w1) := by subst hw1; exact (Below.refl _ _).alloc (Nat.le_refl _) _
  have p1 : w1.heap[w.heap.size]? = some (.cells #[.int .i64 t.rcd, .int .i64 t.rp, .int .i64 t.ras, .int .i64 t.rrds, .int .i64 t.rrdl, .int .i64 t.faw, .int .i64 t.ccds, .int .i64 t.ccdl, .int .i64 t.rtp, .int .i64 t.wr, .int .i64 t.wtrs, .int .i64 t.wtrl, .int .i64 t.rtw, .int .i64 t.rfc, .int .i64 t.cke, .int .i64 t.xp, .int .i64 t.xs] 27) := by subst hw1; exact heap_alloc_new _ _
  obtain ⟨_, _, _, _, c4, _, _, _, _, _, _, _, _, _, _, _, _⟩ := tm_cells p1
  clear p1 h
  go_enter Tryz.func134, Tryz.ntmps134
  go_wp2
  go_ret
  exact ⟨rfl, HB1.out⟩

theorem m_enterToLeave (t : Tm) (h : TimOk t) (w : World) : Calls Tryz.prog 136 #[.agg #[.int .i64 t.rcd, .int .i64 t.rp, .int .i64 t.ras, .int .i64 t.rrds, .int .i64 t.rrdl, .int .i64 t.faw, .int .i64 t.ccds, .int .i64 t.ccdl, .int .i64 t.rtp, .int .i64 t.wr, .int .i64 t.wtrs, .int .i64 t.wtrl, .int .i64 t.rtw, .int .i64 t.rfc, .int .i64 t.cke, .int .i64 t.xp, .int .i64 t.xs]] w (Gives (.int .i64 (t.cke)) w) := by
  obtain ⟨w1, hw1⟩ : ∃ u, w.alloc (.cells #[.int .i64 t.rcd, .int .i64 t.rp, .int .i64 t.ras, .int .i64 t.rrds, .int .i64 t.rrdl, .int .i64 t.faw, .int .i64 t.ccds, .int .i64 t.ccdl, .int .i64 t.rtp, .int .i64 t.wr, .int .i64 t.wtrs, .int .i64 t.wtrl, .int .i64 t.rtw, .int .i64 t.rfc, .int .i64 t.cke, .int .i64 t.xp, .int .i64 t.xs] 27) = u := ⟨_, rfl⟩
  have HB1 : Hid (Below w.heap.size w w1) := by subst hw1; exact (Below.refl _ _).alloc (Nat.le_refl _) _
  have p1 : w1.heap[w.heap.size]? = some (.cells #[.int .i64 t.rcd, .int .i64 t.rp, .int .i64 t.ras, .int .i64 t.rrds, .int .i64 t.rrdl, .int .i64 t.faw, .int .i64 t.ccds, .int .i64 t.ccdl, .int .i64 t.rtp, .int .i64 t.wr, .int .i64 t.wtrs, .int .i64 t.wtrl, .int .i64 t.rtw, .int .i64 t.rfc, .int .i64 t.cke, .int .i64 t.xp, .int .i64 t.xs] 27) := by subst hw1; exact heap_alloc_new _ _
  obtain ⟨_, _, _, _, _, _, _, _, _, _, _, _, _, _, c14, _, _⟩ := tm_cells p1
  clear p1 h
  go_enter Tryz.func136, Tryz.ntmps136
  go_wp2
  go_ret
  exact ⟨rfl, HB1.out⟩

theorem m_upToAny (t : Tm) (h : TimOk t) (w : World) : Calls Tryz.prog 138 #[.agg #[.int .i64 t.rcd, .int .i64 t.rp, .int .i64 t.ras, .int .i64 t.rrds, .int .i64 t.rrdl, .int .i64 t.faw, .int .i64 t.ccds, .int .i64 t.ccdl, .int .i64 t.rtp, .int .i64 t.wr, .int .i64 t.wtrs, .int .i64 t.wtrl, .int .i64 t.rtw, .int .i64 t.rfc, .int .i64 t.cke, .int .i64 t.xp, .int .i64 t.xs]] w (Gives (.int .i64 (t.xp)) w) := by
  obtain ⟨w1, hw1⟩ : ∃ u, w.alloc (.cells #[.int .i64 t.rcd, .int .i64 t.rp, .int .i64 t.ras, .int .i64 t.rrds, .int .i64 t.rrdl, .int .i64 t.faw, .int .i64 t.ccds, .int .i64 t.ccdl, .int .i64 t.rtp, .int .i64 t.wr, .int .i64 t.wtrs, .int .i64 t.wtrl, .int .i64 t.rtw, .int .i64 t.rfc, .int .i64 t.cke, .int .i64 t.xp, .int .i64 t.xs] 27) = u := ⟨_, rfl⟩
  have HB1 : Hid (Below w.heap.size w w1) := by subst hw1; exact (Below.refl _ _).alloc (Nat.le_refl _) _
  have p1 : w1.heap[w.heap.size]? = some (.cells #[.int .i64 t.rcd, .int .i64 t.rp, .int .i64 t.ras, .int .i64 t.rrds, .int .i64 t.rrdl, .int .i64 t.faw, .int .i64 t.ccds, .int .i64 t.ccdl, .int .i64 t.rtp, .int .i64 t.wr, .int .i64 t.wtrs, .int .i64 t.wtrl, .int .i64 t.rtw, .int .i64 t.rfc, .int .i64 t.cke, .int .i64 t.xp, .int .i64 t.xs] 27) := by subst hw1; exact heap_alloc_new _ _
  obtain ⟨_, _, _, _, _, _, _, _, _, _, _, _, _, _, _, c15, _⟩ := tm_cells p1
  clear p1 h
  go_enter Tryz.func138, Tryz.ntmps138
  go_wp2
  go_ret
  exact ⟨rfl, HB1.out⟩

theorem m_wakeToAny (t : Tm) (h : TimOk t) (w : World) : Calls Tryz.prog 139 #[.agg #[.int .i64 t.rcd, .int .i64 t.rp, .int .i64 t.ras, .int .i64 t.rrds, .int .i64 t.rrdl, .int .i64 t.faw, .int .i64 t.ccds, .int .i64 t.ccdl, .int .i64 t.rtp, .int .i64 t.wr, .int .i64 t.wtrs, .int .i64 t.wtrl, .int .i64 t.rtw, .int .i64 t.rfc, .int .i64 t.cke, .int .i64 t.xp, .int .i64 t.xs]] w (Gives (.int .i64 (t.xs)) w) := by
  obtain ⟨w1, hw1⟩ : ∃ u, w.alloc (.cells #[.int .i64 t.rcd, .int .i64 t.rp, .int .i64 t.ras, .int .i64 t.rrds, .int .i64 t.rrdl, .int .i64 t.faw, .int .i64 t.ccds, .int .i64 t.ccdl, .int .i64 t.rtp, .int .i64 t.wr, .int .i64 t.wtrs, .int .i64 t.wtrl, .int .i64 t.rtw, .int .i64 t.rfc, .int .i64 t.cke, .int .i64 t.xp, .int .i64 t.xs] 27) = u := ⟨_, rfl⟩
  have HB1 : Hid (Below w.heap.size w w1) := by subst hw1; exact (Below.refl _ _).alloc (Nat.le_refl _) _
  have p1 : w1.heap[w.heap.size]? = some (.cells #[.int .i64 t.rcd, .int .i64 t.rp, .int .i64 t.ras, .int .i64 t.rrds, .int .i64 t.rrdl, .int .i64 t.faw, .int .i64 t.ccds, .int .i64 t.ccdl, .int .i64 t.rtp, .int .i64 t.wr, .int .i64 t.wtrs, .int .i64 t.wtrl, .int .i64 t.rtw, .int .i64 t.rfc, .int .i64 t.cke, .int .i64 t.xp, .int .i64 t.xs] 27) := by subst hw1; exact heap_alloc_new _ _
  obtain ⟨_, _, _, _, _, _, _, _, _, _, _, _, _, _, _, _, c16⟩ := tm_cells p1
  clear p1 h
  go_enter Tryz.func139, Tryz.ntmps139
  go_wp2
  go_ret
  exact ⟨rfl, HB1.out⟩

theorem eq_nil (w : World) : (Go.binOp .eql 148 Value.nilFunc Value.nilFunc).run Tryz.prog w = .ok (.bool true) w := by kernel_rfl

theorem eq_func (n : Nat) (w : World) : (Go.binOp .eql 148 (Value.func (.func n) #[] #[]) Value.nilFunc).run Tryz.prog w = .ok (.bool false) w := by kernel_rfl

theorem dist_nil (t : Tm) (w : World) : Calls Tryz.prog 114 #[.agg #[.int .i64 t.rcd, .int .i64 t.rp, .int .i64 t.ras, .int .i64 t.rrds, .int .i64 t.rrdl, .int .i64 t.faw, .int .i64 t.ccds, .int .i64 t.ccdl, .int .i64 t.rtp, .int .i64 t.wr, .int .i64 t.wtrs, .int .i64 t.wtrl, .int .i64 t.rtw, .int .i64 t.rfc, .int .i64 t.cke, .int .i64 t.xp, .int .i64 t.xs], .nilFunc] w (Gives (.int .i64 0) w) := by
  obtain ⟨w1, hw1⟩ : ∃ u, w.alloc (.cells #[.int .i64 t.rcd, .int .i64 t.rp, .int .i64 t.ras, .int .i64 t.rrds, .int .i64 t.rrdl, .int .i64 t.faw, .int .i64 t.ccds, .int .i64 t.ccdl, .int .i64 t.rtp, .int .i64 t.wr, .int .i64 t.wtrs, .int .i64 t.wtrl, .int .i64 t.rtw, .int .i64 t.rfc, .int .i64 t.cke, .int .i64 t.xp, .int .i64 t.xs] 27) = u := ⟨_, rfl⟩
  have HB1 : Hid (Below w.heap.size w w1) := by subst hw1; exact (Below.refl _ _).alloc (Nat.le_refl _) _
  have p1 : w1.heap[w.heap.size]? = some (.cells #[.int .i64 t.rcd, .int .i64 t.rp, .int .i64 t.ras, .int .i64 t.rrds, .int .i64 t.rrdl, .int .i64 t.faw, .int .i64 t.ccds, .int .i64 t.ccdl, .int .i64 t.rtp, .int .i64 t.wr, .int .i64 t.wtrs, .int .i64 t.wtrl, .int .i64 t.rtw, .int .i64 t.rfc, .int .i64 t.cke, .int .i64 t.xp, .int .i64 t.xs] 27) := by subst hw1; exact heap_alloc_new _ _
  clear p1
  have EQ := eq_nil
  go_enter Tryz.func114, Tryz.ntmps114
  go_wp2
  go_ret
  exact ⟨rfl, HB1.out⟩

theorem dist_actToAccess (t : Tm) (h : TimOk t) (w : World) : Calls Tryz.prog 114 #[.agg #[.int .i64 t.rcd, .int .i64 t.rp, .int .i64 t.ras, .int .i64 t.rrds, .int .i64 t.rrdl, .int .i64 t.faw, .int .i64 t.ccds, .int .i64 t.ccdl, .int .i64 t.rtp, .int .i64 t.wr, .int .i64 t.wtrs, .int .i64 t.wtrl, .int .i64 t.rtw, .int .i64 t.rfc, .int .i64 t.cke, .int .i64 t.xp, .int .i64 t.xs], .func (.func 140) #[] #[]] w (Gives (.int .i64 (t.rcd)) w) := by
  obtain ⟨w1, hw1⟩ : ∃ u, w.alloc (.cells #[.int .i64 t.rcd, .int .i64 t.rp, .int .i64 t.ras, .int .i64 t.rrds, .int .i64 t.rrdl, .int .i64 t.faw, .int .i64 t.ccds, .int .i64 t.ccdl, .int .i64 t.rtp, .int .i64 t.wr, .int .i64 t.wtrs, .int .i64 t.wtrl, .int .i64 t.rtw, .int .i64 t.rfc, .int .i64 t.cke, .int .i64 t.xp, .int .i64 t.xs] 27) = u := ⟨_, rfl⟩
  have HB1 : Hid (Below w.heap.size w w1) := by subst hw1; exact (Below.refl _ _).alloc (Nat.le_refl _) _
  have p1 : w1.heap[w.heap.size]? = some (.cells #[.int .i64 t.rcd, .int .i64 t.rp, .int .i64 t.ras, .int .i64 t.rrds, .int .i64 t.rrdl, .int .i64 t.faw, .int .i64 t.ccds, .int .i64 t.ccdl, .int .i64 t.rtp, .int .i64 t.wr, .int .i64 t.wtrs, .int .i64 t.wtrl, .int .i64 t.rtw, .int .i64 t.rfc, .int .i64 t.cke, .int .i64 t.xp, .int .i64 t.xs] 27) := by subst hw1; exact heap_alloc_new _ _
  have EQ := eq_func 140
  go_enter Tryz.func114, Tryz.ntmps114
  go_wp2_with (first | ((with_reducible refine ld_tm ?_ ?_ p1 ?_); kernel_rfl; kernel_rfl; go_simp))
  refine (m_actToAccess t h _).mono ?_
  rintro e w2 ⟨rfl, hb2⟩
  have HB2 : Hid (Below w.heap.size w w2) := HB1.out.trans (hb2.mono HB1.out.size)
  clear hb2
  go_wp2
  go_ret
  exact ⟨rfl, HB2.out⟩

theorem dist_actToPre (t : Tm) (h : TimOk t) (w : World) : Calls Tryz.prog 114 #[.agg #[.int .i64 t.rcd, .int .i64 t.rp, .int .i64 t.ras, .int .i64 t.rrds, .int .i64 t.rrdl, .int .i64 t.faw, .int .i64 t.ccds, .int .i64 t.ccdl, .int .i64 t.rtp, .int .i64 t.wr, .int .i64 t.wtrs, .int .i64 t.wtrl, .int .i64 t.rtw, .int .i64 t.rfc, .int .i64 t.cke, .int .i64 t.xp, .int .i64 t.xs], .func (.func 141) #[] #[]] w (Gives (.int .i64 (t.ras)) w) := by
  obtain ⟨w1, hw1⟩ : ∃ u, w.alloc (.cells #[.int .i64 t.rcd, .int .i64 t.rp, .int .i64 t.ras, .int .i64 t.rrds, .int .i64 t.rrdl, .int .i64 t.faw, .int .i64 t.ccds, .int .i64 t.ccdl, .int .i64 t.rtp, .int .i64 t.wr, .int .i64 t.wtrs, .int .i64 t.wtrl, .int .i64 t.rtw, .int .i64 t.rfc, .int .i64 t.cke, .int .i64 t.xp, .int .i64 t.xs] 27) = u := ⟨_, rfl⟩
  have HB1 : Hid (Below w.heap.size w w1) := by subst hw1; exact (Below.refl _ _).alloc (Nat.le_refl _) _
  have p1 : w1.heap[w.heap.size]? = some (.cells #[.int .i64 t.rcd, .int .i64 t.rp, .int .i64 t.ras, .int .i64 t.rrds, .int .i64 t.rrdl, .int .i64 t.faw, .int .i64 t.ccds, .int .i64 t.ccdl, .int .i64 t.rtp, .int .i64 t.wr, .int .i64 t.wtrs, .int .i64 t.wtrl, .int .i64 t.rtw, .int .i64 t.rfc, .int .i64 t.cke, .int .i64 t.xp, .int .i64 t.xs] 27) := by subst hw1; exact heap_alloc_new _ _
  have EQ := eq_func 141
  go_enter Tryz.func114, Tryz.ntmps114
  go_wp2_with (first | ((with_reducible refine ld_tm ?_ ?_ p1 ?_); kernel_rfl; kernel_rfl; go_simp))
  refine (m_actToPre t h _).mono ?_
  rintro e w2 ⟨rfl, hb2⟩
  have HB2 : Hid (Below w.heap.size w w2) := HB1.out.trans (hb2.mono HB1.out.size)
  clear hb2
  go_wp2
  go_ret
  exact ⟨rfl, HB2.out⟩

theorem dist_actToClosed (t : Tm) (h : TimOk t) (w : World) : Calls Tryz.prog 114 #[.agg #[.int .i64 t.rcd, .int .i64 t.rp, .int .i64 t.ras, .int .i64 t.rrds, .int .i64 t.rrdl, .int .i64 t.faw, .int .i64 t.ccds, .int .i64 t.ccdl, .int .i64 t.rtp, .int .i64 t.wr, .int .i64 t.wtrs, .int .i64 t.wtrl, .int .i64 t.rtw, .int .i64 t.rfc, .int .i64 t.cke, .int .i64 t.xp, .int .i64 t.xs], .func (.func 127) #[] #[]] w (Gives (.int .i64 (t.ras + t.rp)) w) := by
  obtain ⟨w1, hw1⟩ : ∃ u, w.alloc (.cells #[.int .i64 t.rcd, .int .i64 t.rp, .int .i64 t.ras, .int .i64 t.rrds, .int .i64 t.rrdl, .int .i64 t.faw, .int .i64 t.ccds, .int .i64 t.ccdl, .int .i64 t.rtp, .int .i64 t.wr, .int .i64 t.wtrs, .int .i64 t.wtrl, .int .i64 t.rtw, .int .i64 t.rfc, .int .i64 t.cke, .int .i64 t.xp, .int .i64 t.xs] 27) = u := ⟨_, rfl⟩
  have HB1 : Hid (Below w.heap.size w w1) := by subst hw1; exact (Below.refl _ _).alloc (Nat.le_refl _) _
  have p1 : w1.heap[w.heap.size]? = some (.cells #[.int .i64 t.rcd, .int .i64 t.rp, .int .i64 t.ras, .int .i64 t.rrds, .int .i64 t.rrdl, .int .i64 t.faw, .int .i64 t.ccds, .int .i64 t.ccdl, .int .i64 t.rtp, .int .i64 t.wr, .int .i64 t.wtrs, .int .i64 t.wtrl, .int .i64 t.rtw, .int .i64 t.rfc, .int .i64 t.cke, .int .i64 t.xp, .int .i64 t.xs] 27) := by subst hw1; exact heap_alloc_new _ _
  have EQ := eq_func 127
  go_enter Tryz.func114, Tryz.ntmps114
  go_wp2_with (first | ((with_reducible refine ld_tm ?_ ?_ p1 ?_); kernel_rfl; kernel_rfl; go_simp))
  refine (m_actToClosed t h _).mono ?_
  rintro e w2 ⟨rfl, hb2⟩
  have HB2 : Hid (Below w.heap.size w w2) := HB1.out.trans (hb2.mono HB1.out.size)
  clear hb2
  go_wp2
  go_ret
  exact ⟨rfl, HB2.out⟩

theorem dist_readToPre (t : Tm) (h : TimOk t) (w : World) : Calls Tryz.prog 114 #[.agg #[.int .i64 t.rcd, .int .i64 t.rp, .int .i64 t.ras, .int .i64 t.rrds, .int .i64 t.rrdl, .int .i64 t.faw, .int .i64 t.ccds, .int .i64 t.ccdl, .int .i64 t.rtp, .int .i64 t.wr, .int .i64 t.wtrs, .int .i64 t.wtrl, .int .i64 t.rtw, .int .i64 t.rfc, .int .i64 t.cke, .int .i64 t.xp, .int .i64 t.xs], .func (.func 129) #[] #[]] w (Gives (.int .i64 (t.rtp)) w) := by
  obtain ⟨w1, hw1⟩ : ∃ u, w.alloc (.cells #[.int .i64 t.rcd, .int .i64 t.rp, .int .i64 t.ras, .int .i64 t.rrds, .int .i64 t.rrdl, .int .i64 t.faw, .int .i64 t.ccds, .int .i64 t.ccdl, .int .i64 t.rtp, .int .i64 t.wr, .int .i64 t.wtrs, .int .i64 t.wtrl, .int .i64 t.rtw, .int .i64 t.rfc, .int .i64 t.cke, .int .i64 t.xp, .int .i64 t.xs] 27) = u := ⟨_, rfl⟩
  have HB1 : Hid (Below w.heap.size w w1) := by subst hw1; exact (Below.refl _ _).alloc (Nat.le_refl _) _
  have p1 : w1.heap[w.heap.size]? = some (.cells #[.int .i64 t.rcd, .int .i64 t.rp, .int .i64 t.ras, .int .i64 t.rrds, .int .i64 t.rrdl, .int .i64 t.faw, .int .i64 t.ccds, .int .i64 t.ccdl, .int .i64 t.rtp, .int .i64 t.wr, .int .i64 t.wtrs, .int .i64 t.wtrl, .int .i64 t.rtw, .int .i64 t.rfc, .int .i64 t.cke, .int .i64 t.xp, .int .i64 t.xs] 27) := by subst hw1; exact heap_alloc_new _ _
  have EQ := eq_func 129
  go_enter Tryz.func114, Tryz.ntmps114
  go_wp2_with (first | ((with_reducible refine ld_tm ?_ ?_ p1 ?_); kernel_rfl; kernel_rfl; go_simp))
  refine (m_readToPre t h _).mono ?_
  rintro e w2 ⟨rfl, hb2⟩
  have HB2 : Hid (Below w.heap.size w w2) := HB1.out.trans (hb2.mono HB1.out.size)
  clear hb2
  go_wp2
  go_ret
  exact ⟨rfl, HB2.out⟩

theorem dist_readToClosed (t : Tm) (h : TimOk t) (w : World) : Calls Tryz.prog 114 #[.agg #[.int .i64 t.rcd, .int .i64 t.rp, .int .i64 t.ras, .int .i64 t.rrds, .int .i64 t.rrdl, .int .i64 t.faw, .int .i64 t.ccds, .int .i64 t.ccdl, .int .i64 t.rtp, .int .i64 t.wr, .int .i64 t.wtrs, .int .i64 t.wtrl, .int .i64 t.rtw, .int .i64 t.rfc, .int .i64 t.cke, .int .i64 t.xp, .int .i64 t.xs], .func (.func 130) #[] #[]] w (Gives (.int .i64 (t.rtp + t.rp)) w) := by
  obtain ⟨w1, hw1⟩ : ∃ u, w.alloc (.cells #[.int .i64 t.rcd, .int .i64 t.rp, .int .i64 t.ras, .int .i64 t.rrds, .int .i64 t.rrdl, .int .i64 t.faw, .int .i64 t.ccds, .int .i64 t.ccdl, .int .i64 t.rtp, .int .i64 t.wr, .int .i64 t.wtrs, .int .i64 t.wtrl, .int .i64 t.rtw, .int .i64 t.rfc, .int .i64 t.cke, .int .i64 t.xp, .int .i64 t.xs] 27) = u := ⟨_, rfl⟩
  have HB1 : Hid (Below w.heap.size w w1) := by subst hw1; exact (Below.refl _ _).alloc (Nat.le_refl _) _
  have p1 : w1.heap[w.heap.size]? = some (.cells #[.int .i64 t.rcd, .int .i64 t.rp, .int .i64 t.ras, .int .i64 t.rrds, .int .i64 t.rrdl, .int .i64 t.faw, .int .i64 t.ccds, .int .i64 t.ccdl, .int .i64 t.rtp, .int .i64 t.wr, .int .i64 t.wtrs, .int .i64 t.wtrl, .int .i64 t.rtw, .int .i64 t.rfc, .int .i64 t.cke, .int .i64 t.xp, .int .i64 t.xs] 27) := by subst hw1; exact heap_alloc_new _ _
  have EQ := eq_func 130
  go_enter Tryz.func114, Tryz.ntmps114
  go_wp2_with (first | ((with_reducible refine ld_tm ?_ ?_ p1 ?_); kernel_rfl; kernel_rfl; go_simp))
  refine (m_readToClosed t h _).mono ?_
  rintro e w2 ⟨rfl, hb2⟩
  have HB2 : Hid (Below w.heap.size w w2) := HB1.out.trans (hb2.mono HB1.out.size)
  clear hb2
  go_wp2
  go_ret
  exact ⟨rfl, HB2.out⟩

theorem dist_writeToPre (t : Tm) (h : TimOk t) (w : World) : Calls Tryz.prog 114 #[.agg #[.int .i64 t.rcd, .int .i64 t.rp, .int .i64 t.ras, .int .i64 t.rrds, .int .i64 t.rrdl, .int .i64 t.faw, .int .i64 t.ccds, .int .i64 t.ccdl, .int .i64 t.rtp, .int .i64 t.wr, .int .i64 t.wtrs, .int .i64 t.wtrl, .int .i64 t.rtw, .int .i64 t.rfc, .int .i64 t.cke, .int .i64 t.xp, .int .i64 t.xs], .func (.func 131) #[] #[]] w (Gives (.int .i64 (t.wr)) w) := by
  obtain ⟨w1, hw1⟩ : ∃ u, w.alloc (.cells #[.int .i64 t.rcd, .int .i64 t.rp, .int .i64 t.ras, .int .i64 t.rrds, .int .i64 t.rrdl, .int .i64 t.faw, .int .i64 t.ccds, .int .i64 t.ccdl, .int .i64 t.rtp, .int .i64 t.wr, .int .i64 t.wtrs, .int .i64 t.wtrl, .int .i64 t.rtw, .int .i64 t.rfc, .int .i64 t.cke, .int .i64 t.xp, .int .i64 t.xs] 27) = u := ⟨_, rfl⟩
  have HB1 : Hid (Below w.heap.size w w1) := by subst hw1; exact (Below.refl _ _).alloc (Nat.le_refl _) _
  have p1 : w1.heap[w.heap.size]? = some (.cells #[.int .i64 t.rcd, .int .i64 t.rp, .int .i64 t.ras, .int .i64 t.rrds, .int .i64 t.rrdl, .int .i64 t.faw, .int .i64 t.ccds, .int .i64 t.ccdl, .int .i64 t.rtp, .int .i64 t.wr, .int .i64 t.wtrs, .int .i64 t.wtrl, .int .i64 t.rtw, .int .i64 t.rfc, .int .i64 t.cke, .int .i64 t.xp, .int .i64 t.xs] 27) := by subst hw1; exact heap_alloc_new _ _
  have EQ := eq_func 131
  go_enter Tryz.func114, Tryz.ntmps114
  go_wp2_with (first | ((with_reducible refine ld_tm ?_ ?_ p1 ?_); kernel_rfl; kernel_rfl; go_simp))
  refine (m_writeToPre t h _).mono ?_
  rintro e w2 ⟨rfl, hb2⟩
  have HB2 : Hid (Below w.heap.size w w2) := HB1.out.trans (hb2.mono HB1.out.size)
  clear hb2
  go_wp2
  go_ret
  exact ⟨rfl, HB2.out⟩

theorem dist_writeToClosed (t : Tm) (h : TimOk t) (w : World) : Calls Tryz.prog 114 #[.agg #[.int .i64 t.rcd, .int .i64 t.rp, .int .i64 t.ras, .int .i64 t.rrds, .int .i64 t.rrdl, .int .i64 t.faw, .int .i64 t.ccds, .int .i64 t.ccdl, .int .i64 t.rtp, .int .i64 t.wr, .int .i64 t.wtrs, .int .i64 t.wtrl, .int .i64 t.rtw, .int .i64 t.rfc, .int .i64 t.cke, .int .i64 t.xp, .int .i64 t.xs], .func (.func 132) #[] #[]] w (Gives (.int .i64 (t.wr + t.rp)) w) := by
  obtain ⟨w1, hw1⟩ : ∃ u, w.alloc (.cells #[.int .i64 t.rcd, .int .i64 t.rp, .int .i64 t.ras, .int .i64 t.rrds, .int .i64 t.rrdl, .int .i64 t.faw, .int .i64 t.ccds, .int .i64 t.ccdl, .int .i64 t.rtp, .int .i64 t.wr, .int .i64 t.wtrs, .int .i64 t.wtrl, .int .i64 t.rtw, .int .i64 t.rfc, .int .i64 t.cke, .int .i64 t.xp, .int .i64 t.xs] 27) = u := ⟨_, rfl⟩
  have HB1 : Hid (Below w.heap.size w w1) := by subst hw1; exact (Below.refl _ _).alloc (Nat.le_refl _) _
  have p1 : w1.heap[w.heap.size]? = some (.cells #[.int .i64 t.rcd, .int .i64 t.rp, .int .i64 t.ras, .int .i64 t.rrds, .int .i64 t.rrdl, .int .i64 t.faw, .int .i64 t.ccds, .int .i64 t.ccdl, .int .i64 t.rtp, .int .i64 t.wr, .int .i64 t.wtrs, .int .i64 t.wtrl, .int .i64 t.rtw, .int .i64 t.rfc, .int .i64 t.cke, .int .i64 t.xp, .int .i64 t.xs] 27) := by subst hw1; exact heap_alloc_new _ _
  have EQ := eq_func 132
  go_enter Tryz.func114, Tryz.ntmps114
  go_wp2_with (first | ((with_reducible refine ld_tm ?_ ?_ p1 ?_); kernel_rfl; kernel_rfl; go_simp))
  refine (m_writeToClosed t h _).mono ?_
  rintro e w2 ⟨rfl, hb2⟩
  have HB2 : Hid (Below w.heap.size w w2) := HB1.out.trans (hb2.mono HB1.out.size)
  clear hb2
  go_wp2
  go_ret
  exact ⟨rfl, HB2.out⟩

theorem dist_preToClosed (t : Tm) (h : TimOk t) (w : World) : Calls Tryz.prog 114 #[.agg #[.int .i64 t.rcd, .int .i64 t.rp, .int .i64 t.ras, .int .i64 t.rrds, .int .i64 t.rrdl, .int .i64 t.faw, .int .i64 t.ccds, .int .i64 t.ccdl, .int .i64 t.rtp, .int .i64 t.wr, .int .i64 t.wtrs, .int .i64 t.wtrl, .int .i64 t.rtw, .int .i64 t.rfc, .int .i64 t.cke, .int .i64 t.xp, .int .i64 t.xs], .func (.func 133) #[] #[]] w (Gives (.int .i64 (t.rp)) w) := by
  obtain ⟨w1, hw1⟩ : ∃ u, w.alloc (.cells #[.int .i64 t.rcd, .int .i64 t.rp, .int .i64 t.ras, .int .i64 t.rrds, .int .i64 t.rrdl, .int .i64 t.faw, .int .i64 t.ccds, .int .i64 t.ccdl, .int .i64 t.rtp, .int .i64 t.wr, .int .i64 t.wtrs, .int .i64 t.wtrl, .int .i64 t.rtw, .int .i64 t.rfc, .int .i64 t.cke, .int .i64 t.xp, .int .i64 t.xs] 27) = u := ⟨_, rfl⟩
  have HB1 : Hid (Below w.heap.size w w1) := by subst hw1; exact (Below.refl _ _).alloc (Nat.le_refl _) _
  have p1 : w1.heap[w.heap.size]? = some (.cells #[.int .i64 t.rcd, .int .i64 t.rp, .int .i64 t.ras, .int .i64 t.rrds, .int .i64 t.rrdl, .int .i64 t.faw, .int .i64 t.ccds, .int .i64 t.ccdl, .int .i64 t.rtp, .int .i64 t.wr, .int .i64 t.wtrs, .int .i64 t.wtrl, .int .i64 t.rtw, .int .i64 t.rfc, .int .i64 t.cke, .int .i64 t.xp, .int .i64 t.xs] 27) := by subst hw1; exact heap_alloc_new _ _
  have EQ := eq_func 133
  go_enter Tryz.func114, Tryz.ntmps114
  go_wp2_with (first | ((with_reducible refine ld_tm ?_ ?_ p1 ?_); kernel_rfl; kernel_rfl; go_simp))
  refine (m_preToClosed t h _).mono ?_
  rintro e w2 ⟨rfl, hb2⟩
  have HB2 : Hid (Below w.heap.size w w2) := HB1.out.trans (hb2.mono HB1.out.size)
  clear hb2
  go_wp2
  go_ret
  exact ⟨rfl, HB2.out⟩

theorem dist_refToDone (t : Tm) (h : TimOk t) (w : World) : Calls Tryz.prog 114 #[.agg #[.int .i64 t.rcd, .int .i64 t.rp, .int .i64 t.ras, .int .i64 t.rrds, .int .i64 t.rrdl, .int .i64 t.faw, .int .i64 t.ccds, .int .i64 t.ccdl, .int .i64 t.rtp, .int .i64 t.wr, .int .i64 t.wtrs, .int .i64 t.wtrl, .int .i64 t.rtw, .int .i64 t.rfc, .int .i64 t.cke, .int .i64 t.xp, .int .i64 t.xs], .func (.func 135) #[] #[]] w (Gives (.int .i64 (t.rfc)) w) := by
  obtain ⟨w1, hw1⟩ : ∃ u, w.alloc (.cells #[.int .i64 t.rcd, .int .i64 t.rp, .int .i64 t.ras, .int .i64 t.rrds, .int .i64 t.rrdl, .int .i64 t.faw, .int .i64 t.ccds, .int .i64 t.ccdl, .int .i64 t.rtp, .int .i64 t.wr, .int .i64 t.wtrs, .int .i64 t.wtrl, .int .i64 t.rtw, .int .i64 t.rfc, .int .i64 t.cke, .int .i64 t.xp, .int .i64 t.xs] 27) = u := ⟨_, rfl⟩
  have HB1 : Hid (Below w.heap.size w w1) := by subst hw1; exact (Below.refl _ _).alloc (Nat.le_refl _) _
  have p1 : w1.heap[w.heap.size]? = some (.cells #[.int .i64 t.rcd, .int .i64 t.rp, .int .i64 t.ras, .int .i64 t.rrds, .int .i64 t.rrdl, .int .i64 t.faw, .int .i64 t.ccds, .int .i64 t.ccdl, .int .i64 t.rtp, .int .i64 t.wr, .int .i64 t.wtrs, .int .i64 t.wtrl, .int .i64 t.rtw, .int .i64 t.rfc, .int .i64 t.cke, .int .i64 t.xp, .int .i64 t.xs] 27) := by subst hw1; exact heap_alloc_new _ _
  have EQ := eq_func 135
  go_enter Tryz.func114, Tryz.ntmps114
  go_wp2_with (first | ((with_reducible refine ld_tm ?_ ?_ p1 ?_); kernel_rfl; kernel_rfl; go_simp))
  refine (m_refToDone t h _).mono ?_
  rintro e w2 ⟨rfl, hb2⟩
  have HB2 : Hid (Below w.heap.size w w2) := HB1.out.trans (hb2.mono HB1.out.size)
  clear hb2
  go_wp2
  go_ret
  exact ⟨rfl, HB2.out⟩

theorem dist_actToNearAct (t : Tm) (h : TimOk t) (w : World) : Calls Tryz.prog 114 #[.agg #[.int .i64 t.rcd, .int .i64 t.rp, .int .i64 t.ras, .int .i64 t.rrds, .int .i64 t.rrdl, .int .i64 t.faw, .int .i64 t.ccds, .int .i64 t.ccdl, .int .i64 t.rtp, .int .i64 t.wr, .int .i64 t.wtrs, .int .i64 t.wtrl, .int .i64 t.rtw, .int .i64 t.rfc, .int .i64 t.cke, .int .i64 t.xp, .int .i64 t.xs], .func (.func 124) #[] #[]] w (Gives (.int .i64 (t.rrdl)) w) := by
  obtain ⟨w1, hw1⟩ : ∃ u, w.alloc (.cells #[.int .i64 t.rcd, .int .i64 t.rp, .int .i64 t.ras, .int .i64 t.rrds, .int .i64 t.rrdl, .int .i64 t.faw, .int .i64 t.ccds, .int .i64 t.ccdl, .int .i64 t.rtp, .int .i64 t.wr, .int .i64 t.wtrs, .int .i64 t.wtrl, .int .i64 t.rtw, .int .i64 t.rfc, .int .i64 t.cke, .int .i64 t.xp, .int .i64 t.xs] 27) = u := ⟨_, rfl⟩
  have HB1 : Hid (Below w.heap.size w w1) := by subst hw1; exact (Below.refl _ _).alloc (Nat.le_refl _) _
  have p1 : w1.heap[w.heap.size]? = some (.cells #[.int .i64 t.rcd, .int .i64 t.rp, .int .i64 t.ras, .int .i64 t.rrds, .int .i64 t.rrdl, .int .i64 t.faw, .int .i64 t.ccds, .int .i64 t.ccdl, .int .i64 t.rtp, .int .i64 t.wr, .int .i64 t.wtrs, .int .i64 t.wtrl, .int .i64 t.rtw, .int .i64 t.rfc, .int .i64 t.cke, .int .i64 t.xp, .int .i64 t.xs] 27) := by subst hw1; exact heap_alloc_new _ _
  have EQ := eq_func 124
  go_enter Tryz.func114, Tryz.ntmps114
  go_wp2_with (first | ((with_reducible refine ld_tm ?_ ?_ p1 ?_); kernel_rfl; kernel_rfl; go_simp))
  refine (m_actToNearAct t h _).mono ?_
  rintro e w2 ⟨rfl, hb2⟩
  have HB2 : Hid (Below w.heap.size w w2) := HB1.out.trans (hb2.mono HB1.out.size)
  clear hb2
  go_wp2
  go_ret
  exact ⟨rfl, HB2.out⟩

theorem dist_actToFarAct (t : Tm) (h : TimOk t) (w : World) : Calls Tryz.prog 114 #[.agg #[.int .i64 t.rcd, .int .i64 t.rp, .int .i64 t.ras, .int .i64 t.rrds, .int .i64 t.rrdl, .int .i64 t.faw, .int .i64 t.ccds, .int .i64 t.ccdl, .int .i64 t.rtp, .int .i64 t.wr, .int .i64 t.wtrs, .int .i64 t.wtrl, .int .i64 t.rtw, .int .i64 t.rfc, .int .i64 t.cke, .int .i64 t.xp, .int .i64 t.xs], .func (.func 121) #[] #[]] w (Gives (.int .i64 (t.rrds)) w) := by
  obtain ⟨w1, hw1⟩ : ∃ u, w.alloc (.cells #[.int .i64 t.rcd, .int .i64 t.rp, .int .i64 t.ras, .int .i64 t.rrds, .int .i64 t.rrdl, .int .i64 t.faw, .int .i64 t.ccds, .int .i64 t.ccdl, .int .i64 t.rtp, .int .i64 t.wr, .int .i64 t.wtrs, .int .i64 t.wtrl, .int .i64 t.rtw, .int .i64 t.rfc, .int .i64 t.cke, .int .i64 t.xp, .int .i64 t.xs] 27) = u := ⟨_, rfl⟩
  have HB1 : Hid (Below w.heap.size w w1) := by subst hw1; exact (Below.refl _ _).alloc (Nat.le_refl _) _
  have p1 : w1.heap[w.heap.size]? = some (.cells #[.int .i64 t.rcd, .int .i64 t.rp, .int .i64 t.ras, .int .i64 t.rrds, .int .i64 t.rrdl, .int .i64 t.faw, .int .i64 t.ccds, .int .i64 t.ccdl, .int .i64 t.rtp, .int .i64 t.wr, .int .i64 t.wtrs, .int .i64 t.wtrl, .int .i64 t.rtw, .int .i64 t.rfc, .int .i64 t.cke, .int .i64 t.xp, .int .i64 t.xs] 27) := by subst hw1; exact heap_alloc_new _ _
  have EQ := eq_func 121
  go_enter Tryz.func114, Tryz.ntmps114
  go_wp2_with (first | ((with_reducible refine ld_tm ?_ ?_ p1 ?_); kernel_rfl; kernel_rfl; go_simp))
  refine (m_actToFarAct t h _).mono ?_
  rintro e w2 ⟨rfl, hb2⟩
  have HB2 : Hid (Below w.heap.size w w2) := HB1.out.trans (hb2.mono HB1.out.size)
  clear hb2
  go_wp2
  go_ret
  exact ⟨rfl, HB2.out⟩

theorem dist_accessToNearAccess (t : Tm) (h : TimOk t) (w : World) : Calls Tryz.prog 114 #[.agg #[.int .i64 t.rcd, .int .i64 t.rp, .int .i64 t.ras, .int .i64 t.rrds, .int .i64 t.rrdl, .int .i64 t.faw, .int .i64 t.ccds, .int .i64 t.ccdl, .int .i64 t.rtp, .int .i64 t.wr, .int .i64 t.wtrs, .int .i64 t.wtrl, .int .i64 t.rtw, .int .i64 t.rfc, .int .i64 t.cke, .int .i64 t.xp, .int .i64 t.xs], .func (.func 125) #[] #[]] w (Gives (.int .i64 (t.ccdl)) w) := by
  obtain ⟨w1, hw1⟩ : ∃ u, w.alloc (.cells #[.int .i64 t.rcd, .int .i64 t.rp, .int .i64 t.ras, .int .i64 t.rrds, .int .i64 t.rrdl, .int .i64 t.faw, .int .i64 t.ccds, .int .i64 t.ccdl, .int .i64 t.rtp, .int .i64 t.wr, .int .i64 t.wtrs, .int .i64 t.wtrl, .int .i64 t.rtw, .int .i64 t.rfc, .int .i64 t.cke, .int .i64 t.xp, .int .i64 t.xs] 27) = u := ⟨_, rfl⟩
  have HB1 : Hid (Below w.heap.size w w1) := by subst hw1; exact (Below.refl _ _).alloc (Nat.le_refl _) _
  have p1 : w1.heap[w.heap.size]? = some (.cells #[.int .i64 t.rcd, .int .i64 t.rp, .int .i64 t.ras, .int .i64 t.rrds, .int .i64 t.rrdl, .int .i64 t.faw, .int .i64 t.ccds, .int .i64 t.ccdl, .int .i64 t.rtp, .int .i64 t.wr, .int .i64 t.wtrs, .int .i64 t.wtrl, .int .i64 t.rtw, .int .i64 t.rfc, .int .i64 t.cke, .int .i64 t.xp, .int .i64 t.xs] 27) := by subst hw1; exact heap_alloc_new _ _
  have EQ := eq_func 125
  go_enter Tryz.func114, Tryz.ntmps114
  go_wp2_with (first | ((with_reducible refine ld_tm ?_ ?_ p1 ?_); kernel_rfl; kernel_rfl; go_simp))
  refine (m_accessToNearAccess t h _).mono ?_
  rintro e w2 ⟨rfl, hb2⟩
  have HB2 : Hid (Below w.heap.size w w2) := HB1.out.trans (hb2.mono HB1.out.size)
  clear hb2
  go_wp2
  go_ret
  exact ⟨rfl, HB2.out⟩

theorem dist_accessToFarAccess (t : Tm) (h : TimOk t) (w : World) : Calls Tryz.prog 114 #[.agg #[.int .i64 t.rcd, .int .i64 t.rp, .int .i64 t.ras, .int .i64 t.rrds, .int .i64 t.rrdl, .int .i64 t.faw, .int .i64 t.ccds, .int .i64 t.ccdl, .int .i64 t.rtp, .int .i64 t.wr, .int .i64 t.wtrs, .int .i64 t.wtrl, .int .i64 t.rtw, .int .i64 t.rfc, .int .i64 t.cke, .int .i64 t.xp, .int .i64 t.xs], .func (.func 122) #[] #[]] w (Gives (.int .i64 (t.ccds)) w) := by
  obtain ⟨w1, hw1⟩ : ∃ u, w.alloc (.cells #[.int .i64 t.rcd, .int .i64 t.rp, .int .i64 t.ras, .int .i64 t.rrds, .int .i64 t.rrdl, .int .i64 t.faw, .int .i64 t.ccds, .int .i64 t.ccdl, .int .i64 t.rtp, .int .i64 t.wr, .int .i64 t.wtrs, .int .i64 t.wtrl, .int .i64 t.rtw, .int .i64 t.rfc, .int .i64 t.cke, .int .i64 t.xp, .int .i64 t.xs] 27) = u := ⟨_, rfl⟩
  have HB1 : Hid (Below w.heap.size w w1) := by subst hw1; exact (Below.refl _ _).alloc (Nat.le_refl _) _
  have p1 : w1.heap[w.heap.size]? = some (.cells #[.int .i64 t.rcd, .int .i64 t.rp, .int .i64 t.ras, .int .i64 t.rrds, .int .i64 t.rrdl, .int .i64 t.faw, .int .i64 t.ccds, .int .i64 t.ccdl, .int .i64 t.rtp, .int .i64 t.wr, .int .i64 t.wtrs, .int .i64 t.wtrl, .int .i64 t.rtw, .int .i64 t.rfc, .int .i64 t.cke, .int .i64 t.xp, .int .i64 t.xs] 27) := by subst hw1; exact heap_alloc_new _ _
  have EQ := eq_func 122
  go_enter Tryz.func114, Tryz.ntmps114
  go_wp2_with (first | ((with_reducible refine ld_tm ?_ ?_ p1 ?_); kernel_rfl; kernel_rfl; go_simp))
  refine (m_accessToFarAccess t h _).mono ?_
  rintro e w2 ⟨rfl, hb2⟩
  have HB2 : Hid (Below w.heap.size w w2) := HB1.out.trans (hb2.mono HB1.out.size)
  clear hb2
  go_wp2
  go_ret
  exact ⟨rfl, HB2.out⟩

theorem dist_writeToNearRead (t : Tm) (h : TimOk t) (w : World) : Calls Tryz.prog 114 #[.agg #[.int .i64 t.rcd, .int .i64 t.rp, .int .i64 t.ras, .int .i64 t.rrds, .int .i64 t.rrdl, .int .i64 t.faw, .int .i64 t.ccds, .int .i64 t.ccdl, .int .i64 t.rtp, .int .i64 t.wr, .int .i64 t.wtrs, .int .i64 t.wtrl, .int .i64 t.rtw, .int .i64 t.rfc, .int .i64 t.cke, .int .i64 t.xp, .int .i64 t.xs], .func (.func 126) #[] #[]] w (Gives (.int .i64 (t.wtrl)) w) := by
  obtain ⟨w1, hw1⟩ : ∃ u, w.alloc (.cells #[.int .i64 t.rcd, .int .i64 t.rp, .int .i64 t.ras, .int .i64 t.rrds, .int .i64 t.rrdl, .int .i64 t.faw, .int .i64 t.ccds, .int .i64 t.ccdl, .int .i64 t.rtp, .int .i64 t.wr, .int .i64 t.wtrs, .int .i64 t.wtrl, .int .i64 t.rtw, .int .i64 t.rfc, .int .i64 t.cke, .int .i64 t.xp, .int .i64 t.xs] 27) = u := ⟨_, rfl⟩
  have HB1 : Hid (Below w.heap.size w w1) := by subst hw1; exact (Below.refl _ _).alloc (Nat.le_refl _) _
  have p1 : w1.heap[w.heap.size]? = some (.cells #[.int .i64 t.rcd, .int .i64 t.rp, .int .i64 t.ras, .int .i64 t.rrds, .int .i64 t.rrdl, .int .i64 t.faw, .int .i64 t.ccds, .int .i64 t.ccdl, .int .i64 t.rtp, .int .i64 t.wr, .int .i64 t.wtrs, .int .i64 t.wtrl, .int .i64 t.rtw, .int .i64 t.rfc, .int .i64 t.cke, .int .i64 t.xp, .int .i64 t.xs] 27) := by subst hw1; exact heap_alloc_new _ _
  have EQ := eq_func 126
  go_enter Tryz.func114, Tryz.ntmps114
  go_wp2_with (first | ((with_reducible refine ld_tm ?_ ?_ p1 ?_); kernel_rfl; kernel_rfl; go_simp))
  refine (m_writeToNearRead t h _).mono ?_
  rintro e w2 ⟨rfl, hb2⟩
  have HB2 : Hid (Below w.heap.size w w2) := HB1.out.trans (hb2.mono HB1.out.size)
  clear hb2
  go_wp2
  go_ret
  exact ⟨rfl, HB2.out⟩

theorem dist_writeToFarRead (t : Tm) (h : TimOk t) (w : World) : Calls Tryz.prog 114 #[.agg #[.int .i64 t.rcd, .int .i64 t.rp, .int .i64 t.ras, .int .i64 t.rrds, .int .i64 t.rrdl, .int .i64 t.faw, .int .i64 t.ccds, .int .i64 t.ccdl, .int .i64 t.rtp, .int .i64 t.wr, .int .i64 t.wtrs, .int .i64 t.wtrl, .int .i64 t.rtw, .int .i64 t.rfc, .int .i64 t.cke, .int .i64 t.xp, .int .i64 t.xs], .func (.func 123) #[] #[]] w (Gives (.int .i64 (t.wtrs)) w) := by
  obtain ⟨w1, hw1⟩ : ∃ u, w.alloc (.cells #[.int .i64 t.rcd, .int .i64 t.rp, .int .i64 t.ras, .int .i64 t.rrds, .int .i64 t.rrdl, .int .i64 t.faw, .int .i64 t.ccds, .int .i64 t.ccdl, .int .i64 t.rtp, .int .i64 t.wr, .int .i64 t.wtrs, .int .i64 t.wtrl, .int .i64 t.rtw, .int .i64 t.rfc, .int .i64 t.cke, .int .i64 t.xp, .int .i64 t.xs] 27) = u := ⟨_, rfl⟩
  have HB1 : Hid (Below w.heap.size w w1) := by subst hw1; exact (Below.refl _ _).alloc (Nat.le_refl _) _
  have p1 : w1.heap[w.heap.size]? = some (.cells #[.int .i64 t.rcd, .int .i64 t.rp, .int .i64 t.ras, .int .i64 t.rrds, .int .i64 t.rrdl, .int .i64 t.faw, .int .i64 t.ccds, .int .i64 t.ccdl, .int .i64 t.rtp, .int .i64 t.wr, .int .i64 t.wtrs, .int .i64 t.wtrl, .int .i64 t.rtw, .int .i64 t.rfc, .int .i64 t.cke, .int .i64 t.xp, .int .i64 t.xs] 27) := by subst hw1; exact heap_alloc_new _ _
  have EQ := eq_func 123
  go_enter Tryz.func114, Tryz.ntmps114
  go_wp2_with (first | ((with_reducible refine ld_tm ?_ ?_ p1 ?_); kernel_rfl; kernel_rfl; go_simp))
  refine (m_writeToFarRead t h _).mono ?_
  rintro e w2 ⟨rfl, hb2⟩
  have HB2 : Hid (Below w.heap.size w w2) := HB1.out.trans (hb2.mono HB1.out.size)
  clear hb2
  go_wp2
  go_ret
  exact ⟨rfl, HB2.out⟩

theorem dist_readToWrite (t : Tm) (h : TimOk t) (w : World) : Calls Tryz.prog 114 #[.agg #[.int .i64 t.rcd, .int .i64 t.rp, .int .i64 t.ras, .int .i64 t.rrds, .int .i64 t.rrdl, .int .i64 t.faw, .int .i64 t.ccds, .int .i64 t.ccdl, .int .i64 t.rtp, .int .i64 t.wr, .int .i64 t.wtrs, .int .i64 t.wtrl, .int .i64 t.rtw, .int .i64 t.rfc, .int .i64 t.cke, .int .i64 t.xp, .int .i64 t.xs], .func (.func 128) #[] #[]] w (Gives (.int .i64 (t.rtw)) w) := by
  obtain ⟨w1, hw1⟩ : ∃ u, w.alloc (.cells #[.int .i64 t.rcd, .int .i64 t.rp, .int .i64 t.ras, .int .i64 t.rrds, .int .i64 t.rrdl, .int .i64 t.faw, .int .i64 t.ccds, .int .i64 t.ccdl, .int .i64 t.rtp, .int .i64 t.wr, .int .i64 t.wtrs, .int .i64 t.wtrl, .int .i64 t.rtw, .int .i64 t.rfc, .int .i64 t.cke, .int .i64 t.xp, .int .i64 t.xs] 27) = u := ⟨_, rfl⟩
  have HB1 : Hid (Below w.heap.size w w1) := by subst hw1; exact (Below.refl _ _).alloc (Nat.le_refl _) _
  have p1 : w1.heap[w.heap.size]? = some (.cells #[.int .i64 t.rcd, .int .i64 t.rp, .int .i64 t.ras, .int .i64 t.rrds, .int .i64 t.rrdl, .int .i64 t.faw, .int .i64 t.ccds, .int .i64 t.ccdl, .int .i64 t.rtp, .int .i64 t.wr, .int .i64 t.wtrs, .int .i64 t.wtrl, .int .i64 t.rtw, .int .i64 t.rfc, .int .i64 t.cke, .int .i64 t.xp, .int .i64 t.xs] 27) := by subst hw1; exact heap_alloc_new _ _
  have EQ := eq_func 128
  go_enter Tryz.func114, Tryz.ntmps114
  go_wp2_with (first | ((with_reducible refine ld_tm ?_ ?_ p1 ?_); kernel_rfl; kernel_rfl; go_simp))
  refine (m_readToWrite t h _).mono ?_
  rintro e w2 ⟨rfl, hb2⟩
  have HB2 : Hid (Below w.heap.size w w2) := HB1.out.trans (hb2.mono HB1.out.size)
  clear hb2
  go_wp2
  go_ret
  exact ⟨rfl, HB2.out⟩

theorem dist_refToRef (t : Tm) (h : TimOk t) (w : World) : Calls Tryz.prog 114 #[.agg #[.int .i64 t.rcd, .int .i64 t.rp, .int .i64 t.ras, .int .i64 t.rrds, .int .i64 t.rrdl, .int .i64 t.faw, .int .i64 t.ccds, .int .i64 t.ccdl, .int .i64 t.rtp, .int .i64 t.wr, .int .i64 t.wtrs, .int .i64 t.wtrl, .int .i64 t.rtw, .int .i64 t.rfc, .int .i64 t.cke, .int .i64 t.xp, .int .i64 t.xs], .func (.func 134) #[] #[]] w (Gives (.int .i64 (t.rrdl)) w) := by
  obtain ⟨w1, hw1⟩ : ∃ u, w.alloc (.cells #[.int .i64 t.rcd, .int .i64 t.rp, .int .i64 t.ras, .int .i64 t.rrds, .int .i64 t.rrdl, .int .i64 t.faw, .int .i64 t.ccds, .int .i64 t.ccdl, .int .i64 t.rtp, .int .i64 t.wr, .int .i64 t.wtrs, .int .i64 t.wtrl, .int .i64 t.rtw, .int .i64 t.rfc, .int .i64 t.cke, .int .i64 t.xp, .int .i64 t.xs] 27) = u := ⟨_, rfl⟩
  have HB1 : Hid (Below w.heap.size w w1) := by subst hw1; exact (Below.refl _ _).alloc (Nat.le_refl _) _
  have p1 : w1.heap[w.heap.size]? = some (.cells #[.int .i64 t.rcd, .int .i64 t.rp, .int .i64 t.ras, .int .i64 t.rrds, .int .i64 t.rrdl, .int .i64 t.faw, .int .i64 t.ccds, .int .i64 t.ccdl, .int .i64 t.rtp, .int .i64 t.wr, .int .i64 t.wtrs, .int .i64 t.wtrl, .int .i64 t.rtw, .int .i64 t.rfc, .int .i64 t.cke, .int .i64 t.xp, .int .i64 t.xs] 27) := by subst hw1; exact heap_alloc_new _ _
  have EQ := eq_func 134
  go_enter Tryz.func114, Tryz.ntmps114
  go_wp2_with (first | ((with_reducible refine ld_tm ?_ ?_ p1 ?_); kernel_rfl; kernel_rfl; go_simp))
  refine (m_refToRef t h _).mono ?_
  rintro e w2 ⟨rfl, hb2⟩
  have HB2 : Hid (Below w.heap.size w w2) := HB1.out.trans (hb2.mono HB1.out.size)
  clear hb2
  go_wp2
  go_ret
  exact ⟨rfl, HB2.out⟩

theorem dist_enterToLeave (t : Tm) (h : TimOk t) (w : World) : Calls Tryz.prog 114 #[.agg #[.int .i64 t.rcd, .int .i64 t.rp, .int .i64 t.ras, .int .i64 t.rrds, .int .i64 t.rrdl, .int .i64 t.faw, .int .i64 t.ccds, .int .i64 t.ccdl, .int .i64 t.rtp, .int .i64 t.wr, .int .i64 t.wtrs, .int .i64 t.wtrl, .int .i64 t.rtw, .int .i64 t.rfc, .int .i64 t.cke, .int .i64 t.xp, .int .i64 t.xs], .func (.func 136) #[] #[]] w (Gives (.int .i64 (t.cke)) w) := by
  obtain ⟨w1, hw1⟩ : ∃ u, w.alloc (.cells #[.int .i64 t.rcd, .int .i64 t.rp, .int .i64 t.ras, .int .i64 t.rrds, .int .i64 t.rrdl, .int .i64 t.faw, .int .i64 t.ccds, .int .i64 t.ccdl, .int .i64 t.rtp, .int .i64 t.wr, .int .i64 t.wtrs, .int .i64 t.wtrl, .int .i64 t.rtw, .int .i64 t.rfc, .int .i64 t.cke, .int .i64 t.xp, .int .i64 t.xs] 27) = u := ⟨_, rfl⟩
  have HB1 : Hid (Below w.heap.size w w1) := by subst hw1; exact (Below.refl _ _).alloc (Nat.le_refl _) _
  have p1 : w1.heap[w.heap.size]? = some (.cells #[.int .i64 t.rcd, .int .i64 t.rp, .int .i64 t.ras, .int .i64 t.rrds, .int .i64 t.rrdl, .int .i64 t.faw, .int .i64 t.ccds, .int .i64 t.ccdl, .int .i64 t.rtp, .int .i64 t.wr, .int .i64 t.wtrs, .int .i64 t.wtrl, .int .i64 t.rtw, .int .i64 t.rfc, .int .i64 t.cke, .int .i64 t.xp, .int .i64 t.xs] 27) := by subst hw1; exact heap_alloc_new _ _
  have EQ := eq_func 136
  go_enter Tryz.func114, Tryz.ntmps114
  go_wp2_with (first | ((with_reducible refine ld_tm ?_ ?_ p1 ?_); kernel_rfl; kernel_rfl; go_simp))
  refine (m_enterToLeave t h _).mono ?_
  rintro e w2 ⟨rfl, hb2⟩
  have HB2 : Hid (Below w.heap.size w w2) := HB1.out.trans (hb2.mono HB1.out.size)
  clear hb2
  go_wp2
  go_ret
  exact ⟨rfl, HB2.out⟩

theorem dist_upToAny (t : Tm) (h : TimOk t) (w : World) : Calls Tryz.prog 114 #[.agg #[.int .i64 t.rcd, .int .i64 t.rp, .int .i64 t.ras, .int .i64 t.rrds, .int .i64 t.rrdl, .int .i64 t.faw, .int .i64 t.ccds, .int .i64 t.ccdl, .int .i64 t.rtp, .int .i64 t.wr, .int .i64 t.wtrs, .int .i64 t.wtrl, .int .i64 t.rtw, .int .i64 t.rfc, .int .i64 t.cke, .int .i64 t.xp, .int .i64 t.xs], .func (.func 138) #[] #[]] w (Gives (.int .i64 (t.xp)) w) := by
  obtain ⟨w1, hw1⟩ : ∃ u, w.alloc (.cells #[.int .i64 t.rcd, .int .i64 t.rp, .int .i64 t.ras, .int .i64 t.rrds, .int .i64 t.rrdl, .int .i64 t.faw, .int .i64 t.ccds, .int .i64 t.ccdl, .int .i64 t.rtp, .int .i64 t.wr, .int .i64 t.wtrs, .int .i64 t.wtrl, .int .i64 t.rtw, .int .i64 t.rfc, .int .i64 t.cke, .int .i64 t.xp, .int .i64 t.xs] 27) = u := ⟨_, rfl⟩
  have HB1 : Hid (Below w.heap.size w w1) := by subst hw1; exact (Below.refl _ _).alloc (Nat.le_refl _) _
  have p1 : w1.heap[w.heap.size]? = some (.cells #[.int .i64 t.rcd, .int .i64 t.rp, .int .i64 t.ras, .int .i64 t.rrds, .int .i64 t.rrdl, .int .i64 t.faw, .int .i64 t.ccds, .int .i64 t.ccdl, .int .i64 t.rtp, .int .i64 t.wr, .int .i64 t.wtrs, .int .i64 t.wtrl, .int .i64 t.rtw, .int .i64 t.rfc, .int .i64 t.cke, .int .i64 t.xp, .int .i64 t.xs] 27) := by subst hw1; exact heap_alloc_new _ _
  have EQ := eq_func 138
  go_enter Tryz.func114, Tryz.ntmps114
  go_wp2_with (first | ((with_reducible refine ld_tm ?_ ?_ p1 ?_); kernel_rfl; kernel_rfl; go_simp))
  refine (m_upToAny t h _).mono ?_
  rintro e w2 ⟨rfl, hb2⟩
  have HB2 : Hid (Below w.heap.size w w2) := HB1.out.trans (hb2.mono HB1.out.size)
  clear hb2
  go_wp2
  go_ret
  exact ⟨rfl, HB2.out⟩

theorem dist_wakeToAny (t : Tm) (h : TimOk t) (w : World) : Calls Tryz.prog 114 #[.agg #[.int .i64 t.rcd, .int .i64 t.rp, .int .i64 t.ras, .int .i64 t.rrds, .int .i64 t.rrdl, .int .i64 t.faw, .int .i64 t.ccds, .int .i64 t.ccdl, .int .i64 t.rtp, .int .i64 t.wr, .int .i64 t.wtrs, .int .i64 t.wtrl, .int .i64 t.rtw, .int .i64 t.rfc, .int .i64 t.cke, .int .i64 t.xp, .int .i64 t.xs], .func (.func 139) #[] #[]] w (Gives (.int .i64 (t.xs)) w) := by
  obtain ⟨w1, hw1⟩ : ∃ u, w.alloc (.cells #[.int .i64 t.rcd, .int .i64 t.rp, .int .i64 t.ras, .int .i64 t.rrds, .int .i64 t.rrdl, .int .i64 t.faw, .int .i64 t.ccds, .int .i64 t.ccdl, .int .i64 t.rtp, .int .i64 t.wr, .int .i64 t.wtrs, .int .i64 t.wtrl, .int .i64 t.rtw, .int .i64 t.rfc, .int .i64 t.cke, .int .i64 t.xp, .int .i64 t.xs] 27) = u := ⟨_, rfl⟩
  have HB1 : Hid (Below w.heap.size w w1) := by subst hw1; exact (Below.refl _ _).alloc (Nat.le_refl _) _
  have p1 : w1.heap[w.heap.size]? = some (.cells #[.int .i64 t.rcd, .int .i64 t.rp, .int .i64 t.ras, .int .i64 t.rrds, .int .i64 t.rrdl, .int .i64 t.faw, .int .i64 t.ccds, .int .i64 t.ccdl, .int .i64 t.rtp, .int .i64 t.wr, .int .i64 t.wtrs, .int .i64 t.wtrl, .int .i64 t.rtw, .int .i64 t.rfc, .int .i64 t.cke, .int .i64 t.xp, .int .i64 t.xs] 27) := by subst hw1; exact heap_alloc_new _ _
  have EQ := eq_func 139
  go_enter Tryz.func114, Tryz.ntmps114
  go_wp2_with (first | ((with_reducible refine ld_tm ?_ ?_ p1 ?_); kernel_rfl; kernel_rfl; go_simp))
  refine (m_wakeToAny t h _).mono ?_
  rintro e w2 ⟨rfl, hb2⟩
  have HB2 : Hid (Below w.heap.size w w2) := HB1.out.trans (hb2.mono HB1.out.size)
  clear hb2
  go_wp2
  go_ret
  exact ⟨rfl, HB2.out⟩

end Go.Proofs.YthplhjdfajhmpaaGreat

namespace Go.Proofs.YthplhjdfajhmpaaGreat
open Go.RowKit

set_option linter.unusedVariables false

def bankRow1 : Array Value := #[.nilFunc, .func (.func 127) #[] #[], .func (.func 140) #[] #[], .func (.func 140) #[] #[], .func (.func 141) #[] #[], .func (.func 127) #[] #[], .nilFunc, .nilFunc, .nilFunc, .nilFunc]

def bankRow2 : Array Value := #[.nilFunc, .func (.func 130) #[] #[], .nilFunc, .nilFunc, .func (.func 129) #[] #[], .func (.func 130) #[] #[], .nilFunc, .nilFunc, .nilFunc, .nilFunc]

def bankRow3 : Array Value := #[.nilFunc, .func (.func 132) #[] #[], .nilFunc, .nilFunc, .func (.func 131) #[] #[], .func (.func 132) #[] #[], .nilFunc, .nilFunc, .nilFunc, .nilFunc]

def bankRow4 : Array Value := #[.nilFunc, .func (.func 133) #[] #[], .nilFunc, .nilFunc, .nilFunc, .func (.func 133) #[] #[], .nilFunc, .nilFunc, .nilFunc, .nilFunc]

def bankRow5 : Array Value := #[.nilFunc, .func (.func 135) #[] #[], .nilFunc, .nilFunc, .nilFunc, .func (.func 135) #[] #[], .nilFunc, .nilFunc, .nilFunc, .nilFunc]

def bankRow6 : Array Value := #[.nilFunc, .nilFunc, .nilFunc, .nilFunc, .nilFunc, .nilFunc, .nilFunc, .nilFunc, .nilFunc, .nilFunc]

def bankRow7 : Array Value := #[.nilFunc, .nilFunc, .nilFunc, .nilFunc, .nilFunc, .nilFunc, .nilFunc, .nilFunc, .nilFunc, .nilFunc]

def bankRow8 : Array Value := #[.nilFunc, .nilFunc, .nilFunc, .nilFunc, .nilFunc, .nilFunc, .nilFunc, .nilFunc, .nilFunc, .nilFunc]

def bankRow9 : Array Value := #[.nilFunc, .nilFunc, .nilFunc, .nilFunc, .nilFunc, .nilFunc, .nilFunc, .nilFunc, .nilFunc, .nilFunc]

def bankCells : Array Value := #[.nilFunc, .nilFunc, .nilFunc, .nilFunc, .nilFunc, .nilFunc, .nilFunc, .nilFunc, .nilFunc, .nilFunc, .nilFunc, .func (.func 127) #[] #[], .func (.func 140) #[] #[], .func (.func 140) #[] #[], .func (.func 141) #[] #[], .func (.func 127) #[] #[], .nilFunc, .nilFunc, .nilFunc, .nilFunc, .nilFunc, .func (.func 130) #[] #[], .nilFunc, .nilFunc, .func (.func 129) #[] #[], .func (.func 130) #[] #[], .nilFunc, .nilFunc, .nilFunc, .nilFunc, .nilFunc, .func (.func 132) #[] #[], .nilFunc, .nilFunc, .func (.func 131) #[] #[], .func (.func 132) #[] #[], .nilFunc, .nilFunc, .nilFunc, .nilFunc, .nilFunc, .func (.func 133) #[] #[], .nilFunc, .nilFunc, .nilFunc, .func (.func 133) #[] #[], .nilFunc, .nilFunc, .nilFunc, .nilFunc, .nilFunc, .func (.func 135) #[] #[], .nilFunc, .nilFunc, .nilFunc, .func (.func 135) #[] #[], .nilFunc, .nilFunc, .nilFunc, .nilFunc, .nilFunc, .nilFunc, .nilFunc, .nilFunc, .nilFunc, .nilFunc, .nilFunc, .nilFunc, .nilFunc, .nilFunc, .nilFunc, .nilFunc, .nilFunc, .nilFunc, .nilFunc, .nilFunc, .nilFunc, .nilFunc, .nilFunc, .nilFunc, .nilFunc, .nilFunc, .nilFunc, .nilFunc, .nilFunc, .nilFunc, .nilFunc, .nilFunc, .nilFunc, .nilFunc, .nilFunc, .nilFunc, .nilFunc, .nilFunc, .nilFunc, .nilFunc, .nilFunc, .nilFunc, .nilFunc, .nilFunc]

theorem bank_ix1 (w : World) : (Instr.index 152 (.agg bankCells) (.int .i64 1)).run Tryz.prog w = .ok (.agg bankRow1) w := by kernel_rfl

theorem bank_rule1 (t : Tm) (h : TimOk t) (b : Int) (hb : 1 ≤ b ∧ b ≤ 9) : ∃ ru, (∀ w, (Instr.index 150 (.agg bankRow1) (.int .i64 b)).run Tryz.prog w = .ok ru w) ∧ ∀ w, Calls Tryz.prog 114 #[.agg #[.int .i64 t.rcd, .int .i64 t.rp, .int .i64 t.ras, .int .i64 t.rrds, .int .i64 t.rrdl, .int .i64 t.faw, .int .i64 t.ccds, .int .i64 t.ccdl, .int .i64 t.rtp, .int .i64 t.wr, .int .i64 t.wtrs, .int .i64 t.wtrl, .int .i64 t.rtw, .int .i64 t.rfc, .int .i64 t.cke, .int .i64 t.xp, .int .i64 t.xs], ru] w (Gives (.int .i64 (bankR t 1 b)) w) := by
  rcases (show b = 1 ∨ b = 2 ∨ b = 3 ∨ b = 4 ∨ b = 5 ∨ b = 6 ∨ b = 7 ∨ b = 8 ∨ b = 9 by omega) with hb | hb | hb | hb | hb | hb | hb | hb | hb
  · subst hb; exact ⟨.func (.func 127) #[] #[], fun w => by kernel_rfl, fun w => by rw [show bankR t 1 1 = t.ras + t.rp from rfl]; exact dist_actToClosed t h w⟩
  · subst hb; exact ⟨.func (.func 140) #[] #[], fun w => by kernel_rfl, fun w => by rw [show bankR t 1 2 = t.rcd from rfl]; exact dist_actToAccess t h w⟩
  · subst hb; exact ⟨.func (.func 140) #[] #[], fun w => by kernel_rfl, fun w => by rw [show bankR t 1 3 = t.rcd from rfl]; exact dist_actToAccess t h w⟩
  · subst hb; exact ⟨.func (.func 141) #[] #[], fun w => by kernel_rfl, fun w => by rw [show bankR t 1 4 = t.ras from rfl]; exact dist_actToPre t h w⟩
  · subst hb; exact ⟨.func (.func 127) #[] #[], fun w => by kernel_rfl, fun w => by rw [show bankR t 1 5 = t.ras + t.rp from rfl]; exact dist_actToClosed t h w⟩
  · subst hb; exact ⟨.nilFunc, fun w => by kernel_rfl, fun w => by rw [show bankR t 1 6 = 0 from rfl]; exact dist_nil t w⟩
  · subst hb; exact ⟨.nilFunc, fun w => by kernel_rfl, fun w => by rw [show bankR t 1 7 = 0 from rfl]; exact dist_nil t w⟩
  · subst hb; exact ⟨.nilFunc, fun w => by kernel_rfl, fun w => by rw [show bankR t 1 8 = 0 from rfl]; exact dist_nil t w⟩
  · subst hb; exact ⟨.nilFunc, fun w => by kernel_rfl, fun w => by rw [show bankR t 1 9 = 0 from rfl]; exact dist_nil t w⟩

theorem bank_ix2 (w : World) : (Instr.index 152 (.agg bankCells) (.int .i64 2)).run Tryz.prog w = .ok (.agg bankRow2) w := by kernel_rfl

theorem bank_rule2 (t : Tm) (h : TimOk t) (b : Int) (hb : 1 ≤ b ∧ b ≤ 9) : ∃ ru, (∀ w, (Instr.index 150 (.agg bankRow2) (.int .i64 b)).run Tryz.prog w = .ok ru w) ∧ ∀ w, Calls Tryz.prog 114 #[.agg #[.int .i64 t.rcd, .int .i64 t.rp, .int .i64 t.ras, .int .i64 t.rrds, .int .i64 t.rrdl, .int .i64 t.faw, .int .i64 t.ccds, .int .i64 t.ccdl, .int .i64 t.rtp, .int .i64 t.wr, .int .i64 t.wtrs, .int .i64 t.wtrl, .int .i64 t.rtw, .int .i64 t.rfc, .int .i64 t.cke, .int .i64 t.xp, .int .i64 t.xs], ru] w (Gives (.int .i64 (bankR t 2 b)) w) := by
  rcases (show b = 1 ∨ b = 2 ∨ b = 3 ∨ b = 4 ∨ b = 5 ∨ b = 6 ∨ b = 7 ∨ b = 8 ∨ b = 9 by omega) with hb | hb | hb | hb | hb | hb | hb | hb | hb
  · subst hb; exact ⟨.func (.func 130) #[] #[], fun w => by kernel_rfl, fun w => by rw [show bankR t 2 1 = t.rtp + t.rp from rfl]; exact dist_readToClosed t h w⟩
  · subst hb; exact ⟨.nilFunc, fun w => by kernel_rfl, fun w => by rw [show bankR t 2 2 = 0 from rfl]; exact dist_nil t w⟩
  · subst hb; exact ⟨.nilFunc, fun w => by kernel_rfl, fun w => by rw [show bankR t 2 3 = 0 from rfl]; exact dist_nil t w⟩
  · subst hb; exact ⟨.func (.func 129) #[] #[], fun w => by kernel_rfl, fun w => by rw [show bankR t 2 4 = t.rtp from rfl]; exact dist_readToPre t h w⟩
  · subst hb; exact ⟨.func (.func 130) #[] #[], fun w => by kernel_rfl, fun w => by rw [show bankR t 2 5 = t.rtp + t.rp from rfl]; exact dist_readToClosed t h w⟩
  · subst hb; exact ⟨.nilFunc, fun w => by kernel_rfl, fun w => by rw [show bankR t 2 6 = 0 from rfl]; exact dist_nil t w⟩
  · subst hb; exact ⟨.nilFunc, fun w => by kernel_rfl, fun w => by rw [show bankR t 2 7 = 0 from rfl]; exact dist_nil t w⟩
  · subst hb; exact ⟨.nilFunc, fun w => by kernel_rfl, fun w => by rw [show bankR t 2 8 = 0 from rfl]; exact dist_nil t w⟩
  · subst hb; exact ⟨.nilFunc, fun w => by kernel_rfl, fun w => by rw [show bankR t 2 9 = 0 from rfl]; exact dist_nil t w⟩

theorem bank_ix3 (w : World) : (Instr.index 152 (.agg bankCells) (.int .i64 3)).run Tryz.prog w = .ok (.agg bankRow3) w := by kernel_rfl

theorem bank_rule3 (t : Tm) (h : TimOk t) (b : Int) (hb : 1 ≤ b ∧ b ≤ 9) : ∃ ru, (∀ w, (Instr.index 150 (.agg bankRow3) (.int .i64 b)).run Tryz.prog w = .ok ru w) ∧ ∀ w, Calls Tryz.prog 114 #[.agg #[.int .i64 t.rcd, .int .i64 t.rp, .int .i64 t.ras, .int .i64 t.rrds, .int .i64 t.rrdl, .int .i64 t.faw, .int .i64 t.ccds, .int .i64 t.ccdl, .int .i64 t.rtp, .int .i64 t.wr, .int .i64 t.wtrs, .int .i64 t.wtrl, .int .i64 t.rtw, .int .i64 t.rfc, .int .i64 t.cke, .int .i64 t.xp, .int .i64 t.xs], ru] w (Gives (.int .i64 (bankR t 3 b)) w) := by
  rcases (show b = 1 ∨ b = 2 ∨ b = 3 ∨ b = 4 ∨ b = 5 ∨ b = 6 ∨ b = 7 ∨ b = 8 ∨ b = 9 by omega) with hb | hb | hb | hb | hb | hb | hb | hb | hb
  · subst hb; exact ⟨.func (.func 132) #[] #[], fun w => by kernel_rfl, fun w => by rw [show bankR t 3 1 = t.wr + t.rp from rfl]; exact dist_writeToClosed t h w⟩
  · subst hb; exact ⟨.nilFunc, fun w => by kernel_rfl, fun w => by rw [show bankR t 3 2 = 0 from rfl]; exact dist_nil t w⟩
  · subst hb; exact ⟨.nilFunc, fun w => by kernel_rfl, fun w => by rw [show bankR t 3 3 = 0 from rfl]; exact dist_nil t w⟩
  · subst hb; exact ⟨.func (.func 131) #[] #[], fun w => by kernel_rfl, fun w => by rw [show bankR t 3 4 = t.wr from rfl]; exact dist_writeToPre t h w⟩
  · subst hb; exact ⟨.func (.func 132) #[] #[], fun w => by kernel_rfl, fun w => by rw [show bankR t 3 5 = t.wr + t.rp from rfl]; exact dist_writeToClosed t h w⟩
  · subst hb; exact ⟨.nilFunc, fun w => by kernel_rfl, fun w => by rw [show bankR t 3 6 = 0 from rfl]; exact dist_nil t w⟩
  · subst hb; exact ⟨.nilFunc, fun w => by kernel_rfl, fun w => by rw [show bankR t 3 7 = 0 from rfl]; exact dist_nil t w⟩
  · subst hb; exact ⟨.nilFunc, fun w => by kernel_rfl, fun w => by rw [show bankR t 3 8 = 0 from rfl]; exact dist_nil t w⟩
  · subst hb; exact ⟨.nilFunc, fun w => by kernel_rfl, fun w => by rw [show bankR t 3 9 = 0 from rfl]; exact dist_nil t w⟩

theorem bank_ix4 (w : World) : (Instr.index 152 (.agg bankCells) (.int .i64 4)).run Tryz.prog w = .ok (.agg bankRow4) w := by kernel_rfl

theorem bank_rule4 (t : Tm) (h : TimOk t) (b : Int) (hb : 1 ≤ b ∧ b ≤ 9) : ∃ ru, (∀ w, (Instr.index 150 (.agg bankRow4) (.int .i64 b)).run Tryz.prog w = .ok ru w) ∧ ∀ w, Calls Tryz.prog 114 #[.agg #[.int .i64 t.rcd, .int .i64 t.rp, .int .i64 t.ras, .int .i64 t.rrds, .int .i64 t.rrdl, .int .i64 t.faw, .int .i64 t.ccds, .int .i64 t.ccdl, .int .i64 t.rtp, .int .i64 t.wr, .int .i64 t.wtrs, .int .i64 t.wtrl, .int .i64 t.rtw, .int .i64 t.rfc, .int .i64 t.cke, .int .i64 t.xp, .int .i64 t.xs], ru] w (Gives (.int .i64 (bankR t 4 b)) w) := by
  rcases (show b = 1 ∨ b = 2 ∨ b = 3 ∨ b = 4 ∨ b = 5 ∨ b = 6 ∨ b = 7 ∨ b = 8 ∨ b = 9 by omega) with hb | hb | hb | hb | hb | hb | hb | hb | hb
  · subst hb; exact ⟨.func (.func 133) #[] #[], fun w => by kernel_rfl, fun w => by rw [show bankR t 4 1 = t.rp from rfl]; exact dist_preToClosed t h w⟩
  · subst hb; exact ⟨.nilFunc, fun w => by kernel_rfl, fun w => by rw [show bankR t 4 2 = 0 from rfl]; exact dist_nil t w⟩
  · subst hb; exact ⟨.nilFunc, fun w => by kernel_rfl, fun w => by rw [show bankR t 4 3 = 0 from rfl]; exact dist_nil t w⟩
  · subst hb; exact ⟨.nilFunc, fun w => by kernel_rfl, fun w => by rw [show bankR t 4 4 = 0 from rfl]; exact dist_nil t w⟩
  · subst hb; exact ⟨.func (.func 133) #[] #[], fun w => by kernel_rfl, fun w => by rw [show bankR t 4 5 = t.rp from rfl]; exact dist_preToClosed t h w⟩
  · subst hb; exact ⟨.nilFunc, fun w => by kernel_rfl, fun w => by rw [show bankR t 4 6 = 0 from rfl]; exact dist_nil t w⟩
  · subst hb; exact ⟨.nilFunc, fun w => by kernel_rfl, fun w => by rw [show bankR t 4 7 = 0 from rfl]; exact dist_nil t w⟩
  · subst hb; exact ⟨.nilFunc, fun w => by kernel_rfl, fun w => by rw [show bankR t 4 8 = 0 from rfl]; exact dist_nil t w⟩
  · subst hb; exact ⟨.nilFunc, fun w => by kernel_rfl, fun w => by rw [show bankR t 4 9 = 0 from rfl]; exact dist_nil t w⟩

theorem bank_ix5 (w : World) : (Instr.index 152 (.agg bankCells) (.int .i64 5)).run Tryz.prog w = .ok (.agg bankRow5) w := by kernel_rfl

theorem bank_rule5 (t : Tm) (h : TimOk t) (b : Int) (hb : 1 ≤ b ∧ b ≤ 9) : ∃ ru, (∀ w, (Instr.index 150 (.agg bankRow5) (.int .i64 b)).run Tryz.prog w = .ok ru w) ∧ ∀ w, Calls Tryz.prog 114 #[.agg #[.int .i64 t.rcd, .int .i64 t.rp, .int .i64 t.ras, .int .i64 t.rrds, .int .i64 t.rrdl, .int .i64 t.faw, .int .i64 t.ccds, .int .i64 t.ccdl, .int .i64 t.rtp, .int .i64 t.wr, .int .i64 t.wtrs, .int .i64 t.wtrl, .int .i64 t.rtw, .int .i64 t.rfc, .int .i64 t.cke, .int .i64 t.xp, .int .i64 t.xs], ru] w (Gives (.int .i64 (bankR t 5 b)) w) := by
  rcases (show b = 1 ∨ b = 2 ∨ b = 3 ∨ b = 4 ∨ b = 5 ∨ b = 6 ∨ b = 7 ∨ b = 8 ∨ b = 9 by omega) with hb | hb | hb | hb | hb | hb | hb | hb | hb
  · subst hb; exact ⟨.func (.func 135) #[] #[], fun w => by kernel_rfl, fun w => by rw [show bankR t 5 1 = t.rfc from rfl]; exact dist_refToDone t h w⟩
  · subst hb; exact ⟨.nilFunc, fun w => by kernel_rfl, fun w => by rw [show bankR t 5 2 = 0 from rfl]; exact dist_nil t w⟩
  · subst hb; exact ⟨.nilFunc, fun w => by kernel_rfl, fun w => by rw [show bankR t 5 3 = 0 from rfl]; exact dist_nil t w⟩
  · subst hb; exact ⟨.nilFunc, fun w => by kernel_rfl, fun w => by rw [show bankR t 5 4 = 0 from rfl]; exact dist_nil t w⟩
  · subst hb; exact ⟨.func (.func 135) #[] #[], fun w => by kernel_rfl, fun w => by rw [show bankR t 5 5 = t.rfc from rfl]; exact dist_refToDone t h w⟩
  · subst hb; exact ⟨.nilFunc, fun w => by kernel_rfl, fun w => by rw [show bankR t 5 6 = 0 from rfl]; exact dist_nil t w⟩
  · subst hb; exact ⟨.nilFunc, fun w => by kernel_rfl, fun w => by rw [show bankR t 5 7 = 0 from rfl]; exact dist_nil t w⟩
  · subst hb; exact ⟨.nilFunc, fun w => by kernel_rfl, fun w => by rw [show bankR t 5 8 = 0 from rfl]; exact dist_nil t w⟩
  · subst hb; exact ⟨.nilFunc, fun w => by kernel_rfl, fun w => by rw [show bankR t 5 9 = 0 from rfl]; exact dist_nil t w⟩

theorem bank_ix6 (w : World) : (Instr.index 152 (.agg bankCells) (.int .i64 6)).run Tryz.prog w = .ok (.agg bankRow6) w := by kernel_rfl

theorem bank_rule6 (t : Tm) (h : TimOk t) (b : Int) (hb : 1 ≤ b ∧ b ≤ 9) : ∃ ru, (∀ w, (Instr.index 150 (.agg bankRow6) (.int .i64 b)).run Tryz.prog w = .ok ru w) ∧ ∀ w, Calls Tryz.prog 114 #[.agg #[.int .i64 t.rcd, .int .i64 t.rp, .int .i64 t.ras, .int .i64 t.rrds, .int .i64 t.rrdl, .int .i64 t.faw, .int .i64 t.ccds, .int .i64 t.ccdl, .int .i64 t.rtp, .int .i64 t.wr, .int .i64 t.wtrs, .int .i64 t.wtrl, .int .i64 t.rtw, .int .i64 t.rfc, .int .i64 t.cke, .int .i64 t.xp, .int .i64 t.xs], ru] w (Gives (.int .i64 (bankR t 6 b)) w) := by
  rcases (show b = 1 ∨ b = 2 ∨ b = 3 ∨ b = 4 ∨ b = 5 ∨ b = 6 ∨ b = 7 ∨ b = 8 ∨ b = 9 by omega) with hb | hb | hb | hb | hb | hb | hb | hb | hb
  · subst hb; exact ⟨.nilFunc, fun w => by kernel_rfl, fun w => by rw [show bankR t 6 1 = 0 from rfl]; exact dist_nil t w⟩
  · subst hb; exact ⟨.nilFunc, fun w => by kernel_rfl, fun w => by rw [show bankR t 6 2 = 0 from rfl]; exact dist_nil t w⟩
  · subst hb; exact ⟨.nilFunc, fun w => by kernel_rfl, fun w => by rw [show bankR t 6 3 = 0 from rfl]; exact dist_nil t w⟩
  · subst hb; exact ⟨.nilFunc, fun w => by kernel_rfl, fun w => by rw [show bankR t 6 4 = 0 from rfl]; exact dist_nil t w⟩
  · subst hb; exact ⟨.nilFunc, fun w => by kernel_rfl, fun w => by rw [show bankR t 6 5 = 0 from rfl]; exact dist_nil t w⟩
  · subst hb; exact ⟨.nilFunc, fun w => by kernel_rfl, fun w => by rw [show bankR t 6 6 = 0 from rfl]; exact dist_nil t w⟩
  · subst hb; exact ⟨.nilFunc, fun w => by kernel_rfl, fun w => by rw [show bankR t 6 7 = 0 from rfl]; exact dist_nil t w⟩
  · subst hb; exact ⟨.nilFunc, fun w => by kernel_rfl, fun w => by rw [show bankR t 6 8 = 0 from rfl]; exact dist_nil t w⟩
  · subst hb; exact ⟨.nilFunc, fun w => by kernel_rfl, fun w => by rw [show bankR t 6 9 = 0 from rfl]; exact dist_nil t w⟩

theorem bank_ix7 (w : World) : (Instr.index 152 (.agg bankCells) (.int .i64 7)).run Tryz.prog w = .ok (.agg bankRow7) w := by kernel_rfl

theorem bank_rule7 (t : Tm) (h : TimOk t) (b : Int) (hb : 1 ≤ b ∧ b ≤ 9) : ∃ ru, (∀ w, (Instr.index 150 (.agg bankRow7) (.int .i64 b)).run Tryz.prog w = .ok ru w) ∧ ∀ w, Calls Tryz.prog 114 #[.agg #[.int .i64 t.rcd, .int .i64 t.rp, .int .i64 t.ras, .int .i64 t.rrds, .int .i64 t.rrdl, .int .i64 t.faw, .int .i64 t.ccds, .int .i64 t.ccdl, .int .i64 t.rtp, .int .i64 t.wr, .int .i64 t.wtrs, .int .i64 t.wtrl, .int .i64 t.rtw, .int .i64 t.rfc, .int .i64 t.cke, .int .i64 t.xp, .int .i64 t.xs], ru] w (Gives (.int .i64 (bankR t 7 b)) w) := by
  rcases (show b = 1 ∨ b = 2 ∨ b = 3 ∨ b = 4 ∨ b = 5 ∨ b = 6 ∨ b = 7 ∨ b = 8 ∨ b = 9 by omega) with hb | hb | hb | hb | hb | hb | hb | hb | hb
  · subst hb; exact ⟨.nilFunc, fun w => by kernel_rfl, fun w => by rw [show bankR t 7 1 = 0 from rfl]; exact dist_nil t w⟩
  · subst hb; exact ⟨.nilFunc, fun w => by kernel_rfl, fun w => by rw [show bankR t 7 2 = 0 from rfl]; exact dist_nil t w⟩
  · subst hb; exact ⟨.nilFunc, fun w => by kernel_rfl, fun w => by rw [show bankR t 7 3 = 0 from rfl]; exact dist_nil t w⟩
  · subst hb; exact ⟨.nilFunc, fun w => by kernel_rfl, fun w => by rw [show bankR t 7 4 = 0 from rfl]; exact dist_nil t w⟩
  · subst hb; exact ⟨.nilFunc, fun w => by kernel_rfl, fun w => by rw [show bankR t 7 5 = 0 from rfl]; exact dist_nil t w⟩
  · subst hb; exact ⟨.nilFunc, fun w => by kernel_rfl, fun w => by rw [show bankR t 7 6 = 0 from rfl]; exact dist_nil t w⟩
  · subst hb; exact ⟨.nilFunc, fun w => by kernel_rfl, fun w => by rw [show bankR t 7 7 = 0 from rfl]; exact dist_nil t w⟩
  · subst hb; exact ⟨.nilFunc, fun w => by kernel_rfl, fun w => by rw [show bankR t 7 8 = 0 from rfl]; exact dist_nil t w⟩
  · subst hb; exact ⟨.nilFunc, fun w => by kernel_rfl, fun w => by rw [show bankR t 7 9 = 0 from rfl]; exact dist_nil t w⟩

theorem bank_ix8 (w : World) : (Instr.index 152 (.agg bankCells) (.int .i64 8)).run Tryz.prog w = .ok (.agg bankRow8) w := by kernel_rfl

theorem bank_rule8 (t : Tm) (h : TimOk t) (b : Int) (hb : 1 ≤ b ∧ b ≤ 9) : ∃ ru, (∀ w, (Instr.index 150 (.agg bankRow8) (.int .i64 b)).run Tryz.prog w = .ok ru w) ∧ ∀ w, Calls Tryz.prog 114 #[.agg #[.int .i64 t.rcd, .int .i64 t.rp, .int .i64 t.ras, .int .i64 t.rrds, .int .i64 t.rrdl, .int .i64 t.faw, .int .i64 t.ccds, .int .i64 t.ccdl, .int .i64 t.rtp, .int .i64 t.wr, .int .i64 t.wtrs, .int .i64 t.wtrl, .int .i64 t.rtw, .int .i64 t.rfc, .int .i64 t.cke, .int .i64 t.xp, .int .i64 t.xs], ru] w (Gives (.int .i64 (bankR t 8 b)) w) := by
  rcases (show b = 1 ∨ b = 2 ∨ b = 3 ∨ b = 4 ∨ b = 5 ∨ b = 6 ∨ b = 7 ∨ b = 8 ∨ b = 9 by omega) with hb | hb | hb | hb | hb | hb | hb | hb | hb
  · subst hb; exact ⟨.nilFunc, fun w => by kernel_rfl, fun w => by rw [show bankR t 8 1 = 0 from rfl]; exact dist_nil t w⟩
  · subst hb; exact ⟨.nilFunc, fun w => by kernel_rfl, fun w => by rw [show bankR t 8 2 = 0 from rfl]; exact dist_nil t w⟩
  · subst hb; exact ⟨.nilFunc, fun w => by kernel_rfl, fun w => by rw [show bankR t 8 3 = 0 from rfl]; exact dist_nil t w⟩
  · subst hb; exact ⟨.nilFunc, fun w => by kernel_rfl, fun w => by rw [show bankR t 8 4 = 0 from rfl]; exact dist_nil t w⟩
  · subst hb; exact ⟨.nilFunc, fun w => by kernel_rfl, fun w => by rw [show bankR t 8 5 = 0 from rfl]; exact dist_nil t w⟩
  · subst hb; exact ⟨.nilFunc, fun w => by kernel_rfl, fun w => by rw [show bankR t 8 6 = 0 from rfl]; exact dist_nil t w⟩
  · subst hb; exact ⟨.nilFunc, fun w => by kernel_rfl, fun w => by rw [show bankR t 8 7 = 0 from rfl]; exact dist_nil t w⟩
  · subst hb; exact ⟨.nilFunc, fun w => by kernel_rfl, fun w => by rw [show bankR t 8 8 = 0 from rfl]; exact dist_nil t w⟩
  · subst hb; exact ⟨.nilFunc, fun w => by kernel_rfl, fun w => by rw [show bankR t 8 9 = 0 from rfl]; exact dist_nil t w⟩

theorem bank_ix9 (w : World) : (Instr.index 152 (.agg bankCells) (.int .i64 9)).run Tryz.prog w = .ok (.agg bankRow9) w := by kernel_rfl

theorem bank_rule9 (t : Tm) (h : TimOk t) (b : Int) (hb : 1 ≤ b ∧ b ≤ 9) : ∃ ru, (∀ w, (Instr.index 150 (.agg bankRow9) (.int .i64 b)).run Tryz.prog w = .ok ru w) ∧ ∀ w, Calls Tryz.prog 114 #[.agg #[.int .i64 t.rcd, .int .i64 t.rp, .int .i64 t.ras, .int .i64 t.rrds, .int .i64 t.rrdl, .int .i64 t.faw, .int .i64 t.ccds, .int .i64 t.ccdl, .int .i64 t.rtp, .int .i64 t.wr, .int .i64 t.wtrs, .int .i64 t.wtrl, .int .i64 t.rtw, .int .i64 t.rfc, .int .i64 t.cke, .int .i64 t.xp, .int .i64 t.xs], ru] w (Gives (.int .i64 (bankR t 9 b)) w) := by
  rcases (show b = 1 ∨ b = 2 ∨ b = 3 ∨ b = 4 ∨ b = 5 ∨ b = 6 ∨ b = 7 ∨ b = 8 ∨ b = 9 by omega) with hb | hb | hb | hb | hb | hb | hb | hb | hb
  · subst hb; exact ⟨.nilFunc, fun w => by kernel_rfl, fun w => by rw [show bankR t 9 1 = 0 from rfl]; exact dist_nil t w⟩
  · subst hb; exact ⟨.nilFunc, fun w => by kernel_rfl, fun w => by rw [show bankR t 9 2 = 0 from rfl]; exact dist_nil t w⟩
  · subst hb; exact ⟨.nilFunc, fun w => by kernel_rfl, fun w => by rw [show bankR t 9 3 = 0 from rfl]; exact dist_nil t w⟩
  · subst hb; exact ⟨.nilFunc, fun w => by kernel_rfl, fun w => by rw [show bankR t 9 4 = 0 from rfl]; exact dist_nil t w⟩
  · subst hb; exact ⟨.nilFunc, fun w => by kernel_rfl, fun w => by rw [show bankR t 9 5 = 0 from rfl]; exact dist_nil t w⟩
  · subst hb; exact ⟨.nilFunc, fun w => by kernel_rfl, fun w => by rw [show bankR t 9 6 = 0 from rfl]; exact dist_nil t w⟩
  · subst hb; exact ⟨.nilFunc, fun w => by kernel_rfl, fun w => by rw [show bankR t 9 7 = 0 from rfl]; exact dist_nil t w⟩
  · subst hb; exact ⟨.nilFunc, fun w => by kernel_rfl, fun w => by rw [show bankR t 9 8 = 0 from rfl]; exact dist_nil t w⟩
  · subst hb; exact ⟨.nilFunc, fun w => by kernel_rfl, fun w => by rw [show bankR t 9 9 = 0 from rfl]; exact dist_nil t w⟩

theorem bank_rule (t : Tm) (h : TimOk t) (a b : Int) (ha : 1 ≤ a ∧ a ≤ 9) (hb : 1 ≤ b ∧ b ≤ 9) : ∃ rv ru, (∀ w, (Instr.index 152 (.agg bankCells) (.int .i64 a)).run Tryz.prog w = .ok rv w) ∧ (∀ w, (Instr.index 150 rv (.int .i64 b)).run Tryz.prog w = .ok ru w) ∧ ∀ w, Calls Tryz.prog 114 #[.agg #[.int .i64 t.rcd, .int .i64 t.rp, .int .i64 t.ras, .int .i64 t.rrds, .int .i64 t.rrdl, .int .i64 t.faw, .int .i64 t.ccds, .int .i64 t.ccdl, .int .i64 t.rtp, .int .i64 t.wr, .int .i64 t.wtrs, .int .i64 t.wtrl, .int .i64 t.rtw, .int .i64 t.rfc, .int .i64 t.cke, .int .i64 t.xp, .int .i64 t.xs], ru] w (Gives (.int .i64 (bankR t a b)) w) := by
  rcases (show a = 1 ∨ a = 2 ∨ a = 3 ∨ a = 4 ∨ a = 5 ∨ a = 6 ∨ a = 7 ∨ a = 8 ∨ a = 9 by omega) with ha | ha | ha | ha | ha | ha | ha | ha | ha
  · subst ha; obtain ⟨ru, h1, h2⟩ := bank_rule1 t h b hb; exact ⟨.agg bankRow1, ru, bank_ix1, h1, h2⟩
  · subst ha; obtain ⟨ru, h1, h2⟩ := bank_rule2 t h b hb; exact ⟨.agg bankRow2, ru, bank_ix2, h1, h2⟩
  · subst ha; obtain ⟨ru, h1, h2⟩ := bank_rule3 t h b hb; exact ⟨.agg bankRow3, ru, bank_ix3, h1, h2⟩
  · subst ha; obtain ⟨ru, h1, h2⟩ := bank_rule4 t h b hb; exact ⟨.agg bankRow4, ru, bank_ix4, h1, h2⟩
  · subst ha; obtain ⟨ru, h1, h2⟩ := bank_rule5 t h b hb; exact ⟨.agg bankRow5, ru, bank_ix5, h1, h2⟩
  · subst ha; obtain ⟨ru, h1, h2⟩ := bank_rule6 t h b hb; exact ⟨.agg bankRow6, ru, bank_ix6, h1, h2⟩
  · subst ha; obtain ⟨ru, h1, h2⟩ := bank_rule7 t h b hb; exact ⟨.agg bankRow7, ru, bank_ix7, h1, h2⟩
  · subst ha; obtain ⟨ru, h1, h2⟩ := bank_rule8 t h b hb; exact ⟨.agg bankRow8, ru, bank_ix8, h1, h2⟩
  · subst ha; obtain ⟨ru, h1, h2⟩ := bank_rule9 t h b hb; exact ⟨.agg bankRow9, ru, bank_ix9, h1, h2⟩

def rankTRow1 : Array Value := #[.nilFunc, .func (.func 124) #[] #[], .nilFunc, .nilFunc, .nilFunc, .nilFunc, .nilFunc, .nilFunc, .func (.func 127) #[] #[], .nilFunc]

def rankTRow2 : Array Value := #[.nilFunc, .nilFunc, .func (.func 125) #[] #[], .func (.func 128) #[] #[], .nilFunc, .nilFunc, .func (.func 129) #[] #[], .nilFunc, .func (.func 130) #[] #[], .nilFunc]

def rankTRow3 : Array Value := #[.nilFunc, .nilFunc, .func (.func 126) #[] #[], .func (.func 125) #[] #[], .nilFunc, .nilFunc, .func (.func 131) #[] #[], .nilFunc, .func (.func 132) #[] #[], .nilFunc]

def rankTRow4 : Array Value := #[.nilFunc, .nilFunc, .nilFunc, .nilFunc, .nilFunc, .nilFunc, .nilFunc, .nilFunc, .func (.func 133) #[] #[], .nilFunc]

def rankTRow5 : Array Value := #[.nilFunc, .nilFunc, .nilFunc, .nilFunc, .nilFunc, .func (.func 134) #[] #[], .nilFunc, .nilFunc, .func (.func 135) #[] #[], .nilFunc]

def rankTRow6 : Array Value := #[.nilFunc, .nilFunc, .nilFunc, .nilFunc, .nilFunc, .nilFunc, .nilFunc, .func (.func 136) #[] #[], .nilFunc, .nilFunc]

def rankTRow7 : Array Value := #[.nilFunc, .func (.func 138) #[] #[], .func (.func 138) #[] #[], .func (.func 138) #[] #[], .func (.func 138) #[] #[], .func (.func 138) #[] #[], .func (.func 138) #[] #[], .func (.func 138) #[] #[], .func (.func 138) #[] #[], .func (.func 138) #[] #[]]

def rankTRow8 : Array Value := #[.nilFunc, .nilFunc, .nilFunc, .nilFunc, .nilFunc, .nilFunc, .nilFunc, .nilFunc, .nilFunc, .func (.func 136) #[] #[]]

def rankTRow9 : Array Value := #[.nilFunc, .func (.func 139) #[] #[], .func (.func 139) #[] #[], .func (.func 139) #[] #[], .func (.func 139) #[] #[], .func (.func 139) #[] #[], .func (.func 139) #[] #[], .func (.func 139) #[] #[], .func (.func 139) #[] #[], .func (.func 139) #[] #[]]

def rankTCells : Array Value := #[.nilFunc, .nilFunc, .nilFunc, .nilFunc, .nilFunc, .nilFunc, .nilFunc, .nilFunc, .nilFunc, .nilFunc, .nilFunc, .func (.func 124) #[] #[], .nilFunc, .nilFunc, .nilFunc, .nilFunc, .nilFunc, .nilFunc, .func (.func 127) #[] #[], .nilFunc, .nilFunc, .nilFunc, .func (.func 125) #[] #[], .func (.func 128) #[] #[], .nilFunc, .nilFunc, .func (.func 129) #[] #[], .nilFunc, .func (.func 130) #[] #[], .nilFunc, .nilFunc, .nilFunc, .func (.func 126) #[] #[], .func (.func 125) #[] #[], .nilFunc, .nilFunc, .func (.func 131) #[] #[], .nilFunc, .func (.func 132) #[] #[], .nilFunc, .nilFunc, .nilFunc, .nilFunc, .nilFunc, .nilFunc, .nilFunc, .nilFunc, .nilFunc, .func (.func 133) #[] #[], .nilFunc, .nilFunc, .nilFunc, .nilFunc, .nilFunc, .nilFunc, .func (.func 134) #[] #[], .nilFunc, .nilFunc, .func (.func 135) #[] #[], .nilFunc, .nilFunc, .nilFunc, .nilFunc, .nilFunc, .nilFunc, .nilFunc, .nilFunc, .func (.func 136) #[] #[], .nilFunc, .nilFunc, .nilFunc, .func (.func 138) #[] #[], .func (.func 138) #[] #[], .func (.func 138) #[] #[], .func (.func 138) #[] #[], .func (.func 138) #[] #[], .func (.func 138) #[] #[], .func (.func 138) #[] #[], .func (.func 138) #[] #[], .func (.func 138) #[] #[], .nilFunc, .nilFunc, .nilFunc, .nilFunc, .nilFunc, .nilFunc, .nilFunc, .nilFunc, .nilFunc, .func (.func 136) #[] #[], .nilFunc, .func (.func 139) #[] #[], .func (.func 139) #[] #[], .func (.func 139) #[] #[], .func (.func 139) #[] #[], .func (.func 139) #[] #[], .func (.func 139) #[] #[], .func (.func 139) #[] #[], .func (.func 139) #[] #[], .func (.func 139) #[] #[]]

theorem rankT_ix1 (w : World) : (Instr.index 152 (.agg rankTCells) (.int .i64 1)).run Tryz.prog w = .ok (.agg rankTRow1) w := by kernel_rfl

theorem rankT_rule1 (t : Tm) (h : TimOk t) (b : Int) (hb : 1 ≤ b ∧ b ≤ 9) : ∃ ru, (∀ w, (Instr.index 150 (.agg rankTRow1) (.int .i64 b)).run Tryz.prog w = .ok ru w) ∧ ∀ w, Calls Tryz.prog 114 #[.agg #[.int .i64 t.rcd, .int .i64 t.rp, .int .i64 t.ras, .int .i64 t.rrds, .int .i64 t.rrdl, .int .i64 t.faw, .int .i64 t.ccds, .int .i64 t.ccdl, .int .i64 t.rtp, .int .i64 t.wr, .int .i64 t.wtrs, .int .i64 t.wtrl, .int .i64 t.rtw, .int .i64 t.rfc, .int .i64 t.cke, .int .i64 t.xp, .int .i64 t.xs], ru] w (Gives (.int .i64 (rankR t 1 b true)) w) := by
  rcases (show b = 1 ∨ b = 2 ∨ b = 3 ∨ b = 4 ∨ b = 5 ∨ b = 6 ∨ b = 7 ∨ b = 8 ∨ b = 9 by omega) with hb | hb | hb | hb | hb | hb | hb | hb | hb
  · subst hb; exact ⟨.func (.func 124) #[] #[], fun w => by kernel_rfl, fun w => by rw [show rankR t 1 1 true = t.rrdl from rfl]; exact dist_actToNearAct t h w⟩
  · subst hb; exact ⟨.nilFunc, fun w => by kernel_rfl, fun w => by rw [show rankR t 1 2 true = 0 from rfl]; exact dist_nil t w⟩
  · subst hb; exact ⟨.nilFunc, fun w => by kernel_rfl, fun w => by rw [show rankR t 1 3 true = 0 from rfl]; exact dist_nil t w⟩
  · subst hb; exact ⟨.nilFunc, fun w => by kernel_rfl, fun w => by rw [show rankR t 1 4 true = 0 from rfl]; exact dist_nil t w⟩
  · subst hb; exact ⟨.nilFunc, fun w => by kernel_rfl, fun w => by rw [show rankR t 1 5 true = 0 from rfl]; exact dist_nil t w⟩
  · subst hb; exact ⟨.nilFunc, fun w => by kernel_rfl, fun w => by rw [show rankR t 1 6 true = 0 from rfl]; exact dist_nil t w⟩
  · subst hb; exact ⟨.nilFunc, fun w => by kernel_rfl, fun w => by rw [show rankR t 1 7 true = 0 from rfl]; exact dist_nil t w⟩
  · subst hb; exact ⟨.func (.func 127) #[] #[], fun w => by kernel_rfl, fun w => by rw [show rankR t 1 8 true = t.ras + t.rp from rfl]; exact dist_actToClosed t h w⟩
  · subst hb; exact ⟨.nilFunc, fun w => by kernel_rfl, fun w => by rw [show rankR t 1 9 true = 0 from rfl]; exact dist_nil t w⟩

theorem rankT_ix2 (w : World) : (Instr.index 152 (.agg rankTCells) (.int .i64 2)).run Tryz.prog w = .ok (.agg rankTRow2) w := by kernel_rfl

theorem rankT_rule2 (t : Tm) (h : TimOk t) (b : Int) (hb : 1 ≤ b ∧ b ≤ 9) : ∃ ru, (∀ w, (Instr.index 150 (.agg rankTRow2) (.int .i64 b)).run Tryz.prog w = .ok ru w) ∧ ∀ w, Calls Tryz.prog 114 #[.agg #[.int .i64 t.rcd, .int .i64 t.rp, .int .i64 t.ras, .int .i64 t.rrds, .int .i64 t.rrdl, .int .i64 t.faw, .int .i64 t.ccds, .int .i64 t.ccdl, .int .i64 t.rtp, .int .i64 t.wr, .int .i64 t.wtrs, .int .i64 t.wtrl, .int .i64 t.rtw, .int .i64 t.rfc, .int .i64 t.cke, .int .i64 t.xp, .int .i64 t.xs], ru] w (Gives (.int .i64 (rankR t 2 b true)) w) := by
  rcases (show b = 1 ∨ b = 2 ∨ b = 3 ∨ b = 4 ∨ b = 5 ∨ b = 6 ∨ b = 7 ∨ b = 8 ∨ b = 9 by omega) with hb | hb | hb | hb | hb | hb | hb | hb | hb
  · subst hb; exact ⟨.nilFunc, fun w => by kernel_rfl, fun w => by rw [show rankR t 2 1 true = 0 from rfl]; exact dist_nil t w⟩
  · subst hb; exact ⟨.func (.func 125) #[] #[], fun w => by kernel_rfl, fun w => by rw [show rankR t 2 2 true = t.ccdl from rfl]; exact dist_accessToNearAccess t h w⟩
  · subst hb; exact ⟨.func (.func 128) #[] #[], fun w => by kernel_rfl, fun w => by rw [show rankR t 2 3 true = t.rtw from rfl]; exact dist_readToWrite t h w⟩
  · subst hb; exact ⟨.nilFunc, fun w => by kernel_rfl, fun w => by rw [show rankR t 2 4 true = 0 from rfl]; exact dist_nil t w⟩
  · subst hb; exact ⟨.nilFunc, fun w => by kernel_rfl, fun w => by rw [show rankR t 2 5 true = 0 from rfl]; exact dist_nil t w⟩
  · subst hb; exact ⟨.func (.func 129) #[] #[], fun w => by kernel_rfl, fun w => by rw [show rankR t 2 6 true = t.rtp from rfl]; exact dist_readToPre t h w⟩
  · subst hb; exact ⟨.nilFunc, fun w => by kernel_rfl, fun w => by rw [show rankR t 2 7 true = 0 from rfl]; exact dist_nil t w⟩
  · subst hb; exact ⟨.func (.func 130) #[] #[], fun w => by kernel_rfl, fun w => by rw [show rankR t 2 8 true = t.rtp + t.rp from rfl]; exact dist_readToClosed t h w⟩
  · subst hb; exact ⟨.nilFunc, fun w => by kernel_rfl, fun w => by rw [show rankR t 2 9 true = 0 from rfl]; exact dist_nil t w⟩

theorem rankT_ix3 (w : World) : (Instr.index 152 (.agg rankTCells) (.int .i64 3)).run Tryz.prog w = .ok (.agg rankTRow3) w := by kernel_rfl

theorem rankT_rule3 (t : Tm) (h : TimOk t) (b : Int) (hb : 1 ≤ b ∧ b ≤ 9) : ∃ ru, (∀ w, (Instr.index 150 (.agg rankTRow3) (.int .i64 b)).run Tryz.prog w = .ok ru w) ∧ ∀ w, Calls Tryz.prog 114 #[.agg #[.int .i64 t.rcd, .int .i64 t.rp, .int .i64 t.ras, .int .i64 t.rrds, .int .i64 t.rrdl, .int .i64 t.faw, .int .i64 t.ccds, .int .i64 t.ccdl, .int .i64 t.rtp, .int .i64 t.wr, .int .i64 t.wtrs, .int .i64 t.wtrl, .int .i64 t.rtw, .int .i64 t.rfc, .int .i64 t.cke, .int .i64 t.xp, .int .i64 t.xs], ru] w (Gives (.int .i64 (rankR t 3 b true)) w) := by
  rcases (show b = 1 ∨ b = 2 ∨ b = 3 ∨ b = 4 ∨ b = 5 ∨ b = 6 ∨ b = 7 ∨ b = 8 ∨ b = 9 by omega) with hb | hb | hb | hb | hb | hb | hb | hb | hb
  · subst hb; exact ⟨.nilFunc, fun w => by kernel_rfl, fun w => by rw [show rankR t 3 1 true = 0 from rfl]; exact dist_nil t w⟩
  · subst hb; exact ⟨.func (.func 126) #[] #[], fun w => by kernel_rfl, fun w => by rw [show rankR t 3 2 true = t.wtrl from rfl]; exact dist_writeToNearRead t h w⟩
  · subst hb; exact ⟨.func (.func 125) #[] #[], fun w => by kernel_rfl, fun w => by rw [show rankR t 3 3 true = t.ccdl from rfl]; exact dist_accessToNearAccess t h w⟩
  · subst hb; exact ⟨.nilFunc, fun w => by kernel_rfl, fun w => by rw [show rankR t 3 4 true = 0 from rfl]; exact dist_nil t w⟩
  · subst hb; exact ⟨.nilFunc, fun w => by kernel_rfl, fun w => by rw [show rankR t 3 5 true = 0 from rfl]; exact dist_nil t w⟩
  · subst hb; exact ⟨.func (.func 131) #[] #[], fun w => by kernel_rfl, fun w => by rw [show rankR t 3 6 true = t.wr from rfl]; exact dist_writeToPre t h w⟩
  · subst hb; exact ⟨.nilFunc, fun w => by kernel_rfl, fun w => by rw [show rankR t 3 7 true = 0 from rfl]; exact dist_nil t w⟩
  · subst hb; exact ⟨.func (.func 132) #[] #[], fun w => by kernel_rfl, fun w => by rw [show rankR t 3 8 true = t.wr + t.rp from rfl]; exact dist_writeToClosed t h w⟩
  · subst hb; exact ⟨.nilFunc, fun w => by kernel_rfl, fun w => by rw [show rankR t 3 9 true = 0 from rfl]; exact dist_nil t w⟩

theorem rankT_ix4 (w : World) : (Instr.index 152 (.agg rankTCells) (.int .i64 4)).run Tryz.prog w = .ok (.agg rankTRow4) w := by kernel_rfl

theorem rankT_rule4 (t : Tm) (h : TimOk t) (b : Int) (hb : 1 ≤ b ∧ b ≤ 9) : ∃ ru, (∀ w, (Instr.index 150 (.agg rankTRow4) (.int .i64 b)).run Tryz.prog w = .ok ru w) ∧ ∀ w, Calls Tryz.prog 114 #[.agg #[.int .i64 t.rcd, .int .i64 t.rp, .int .i64 t.ras, .int .i64 t.rrds, .int .i64 t.rrdl, .int .i64 t.faw, .int .i64 t.ccds, .int .i64 t.ccdl, .int .i64 t.rtp, .int .i64 t.wr, .int .i64 t.wtrs, .int .i64 t.wtrl, .int .i64 t.rtw, .int .i64 t.rfc, .int .i64 t.cke, .int .i64 t.xp, .int .i64 t.xs], ru] w (Gives (.int .i64 (rankR t 4 b true)) w) := by
  rcases (show b = 1 ∨ b = 2 ∨ b = 3 ∨ b = 4 ∨ b = 5 ∨ b = 6 ∨ b = 7 ∨ b = 8 ∨ b = 9 by omega) with hb | hb | hb | hb | hb | hb | hb | hb | hb
  · subst hb; exact ⟨.nilFunc, fun w => by kernel_rfl, fun w => by rw [show rankR t 4 1 true = 0 from rfl]; exact dist_nil t w⟩
  · subst hb; exact ⟨.nilFunc, fun w => by kernel_rfl, fun w => by rw [show rankR t 4 2 true = 0 from rfl]; exact dist_nil t w⟩
  · subst hb; exact ⟨.nilFunc, fun w => by kernel_rfl, fun w => by rw [show rankR t 4 3 true = 0 from rfl]; exact dist_nil t w⟩
  · subst hb; exact ⟨.nilFunc, fun w => by kernel_rfl, fun w => by rw [show rankR t 4 4 true = 0 from rfl]; exact dist_nil t w⟩
  · subst hb; exact ⟨.nilFunc, fun w => by kernel_rfl, fun w => by rw [show rankR t 4 5 true = 0 from rfl]; exact dist_nil t w⟩
  · subst hb; exact ⟨.nilFunc, fun w => by kernel_rfl, fun w => by rw [show rankR t 4 6 true = 0 from rfl]; exact dist_nil t w⟩
  · subst hb; exact ⟨.nilFunc, fun w => by kernel_rfl, fun w => by rw [show rankR t 4 7 true = 0 from rfl]; exact dist_nil t w⟩
  · subst hb; exact ⟨.func (.func 133) #[] #[], fun w => by kernel_rfl, fun w => by rw [show rankR t 4 8 true = t.rp from rfl]; exact dist_preToClosed t h w⟩
  · subst hb; exact ⟨.nilFunc, fun w => by kernel_rfl, fun w => by rw [show rankR t 4 9 true = 0 from rfl]; exact dist_nil t w⟩

theorem rankT_ix5 (w : World) : (Instr.index 152 (.agg rankTCells) (.int .i64 5)).run Tryz.prog w = .ok (.agg rankTRow5) w := by kernel_rfl

theorem rankT_rule5 (t : Tm) (h : TimOk t) (b : Int) (hb : 1 ≤ b ∧ b ≤ 9) : ∃ ru, (∀ w, (Instr.index 150 (.agg rankTRow5) (.int .i64 b)).run Tryz.prog w = .ok ru w) ∧ ∀ w, Calls Tryz.prog 114 #[.agg #[.int .i64 t.rcd, .int .i64 t.rp, .int .i64 t.ras, .int .i64 t.rrds, .int .i64 t.rrdl, .int .i64 t.faw, .int .i64 t.ccds, .int .i64 t.ccdl, .int .i64 t.rtp, .int .i64 t.wr, .int .i64 t.wtrs, .int .i64 t.wtrl, .int .i64 t.rtw, .int .i64 t.rfc, .int .i64 t.cke, .int .i64 t.xp, .int .i64 t.xs], ru] w (Gives (.int .i64 (rankR t 5 b true)) w) := by
  rcases (show b = 1 ∨ b = 2 ∨ b = 3 ∨ b = 4 ∨ b = 5 ∨ b = 6 ∨ b = 7 ∨ b = 8 ∨ b = 9 by omega) with hb | hb | hb | hb | hb | hb | hb | hb | hb
  · subst hb; exact ⟨.nilFunc, fun w => by kernel_rfl, fun w => by rw [show rankR t 5 1 true = 0 from rfl]; exact dist_nil t w⟩
  · subst hb; exact ⟨.nilFunc, fun w => by kernel_rfl, fun w => by rw [show rankR t 5 2 true = 0 from rfl]; exact dist_nil t w⟩
  · subst hb; exact ⟨.nilFunc, fun w => by kernel_rfl, fun w => by rw [show rankR t 5 3 true = 0 from rfl]; exact dist_nil t w⟩
  · subst hb; exact ⟨.nilFunc, fun w => by kernel_rfl, fun w => by rw [show rankR t 5 4 true = 0 from rfl]; exact dist_nil t w⟩
  · subst hb; exact ⟨.func (.func 134) #[] #[], fun w => by kernel_rfl, fun w => by rw [show rankR t 5 5 true = t.rrdl from rfl]; exact dist_refToRef t h w⟩
  · subst hb; exact ⟨.nilFunc, fun w => by kernel_rfl, fun w => by rw [show rankR t 5 6 true = 0 from rfl]; exact dist_nil t w⟩
  · subst hb; exact ⟨.nilFunc, fun w => by kernel_rfl, fun w => by rw [show rankR t 5 7 true = 0 from rfl]; exact dist_nil t w⟩
  · subst hb; exact ⟨.func (.func 135) #[] #[], fun w => by kernel_rfl, fun w => by rw [show rankR t 5 8 true = t.rfc from rfl]; exact dist_refToDone t h w⟩
  · subst hb; exact ⟨.nilFunc, fun w => by kernel_rfl, fun w => by rw [show rankR t 5 9 true = 0 from rfl]; exact dist_nil t w⟩

theorem rankT_ix6 (w : World) : (Instr.index 152 (.agg rankTCells) (.int .i64 6)).run Tryz.prog w = .ok (.agg rankTRow6) w := by kernel_rfl

theorem rankT_rule6 (t : Tm) (h : TimOk t) (b : Int) (hb : 1 ≤ b ∧ b ≤ 9) : ∃ ru, (∀ w, (Instr.index 150 (.agg rankTRow6) (.int .i64 b)).run Tryz.prog w = .ok ru w) ∧ ∀ w, Calls Tryz.prog 114 #[.agg #[.int .i64 t.rcd, .int .i64 t.rp, .int .i64 t.ras, .int .i64 t.rrds, .int .i64 t.rrdl, .int .i64 t.faw, .int .i64 t.ccds, .int .i64 t.ccdl, .int .i64 t.rtp, .int .i64 t.wr, .int .i64 t.wtrs, .int .i64 t.wtrl, .int .i64 t.rtw, .int .i64 t.rfc, .int .i64 t.cke, .int .i64 t.xp, .int .i64 t.xs], ru] w (Gives (.int .i64 (rankR t 6 b true)) w) := by
  rcases (show b = 1 ∨ b = 2 ∨ b = 3 ∨ b = 4 ∨ b = 5 ∨ b = 6 ∨ b = 7 ∨ b = 8 ∨ b = 9 by omega) with hb | hb | hb | hb | hb | hb | hb | hb | hb
  · subst hb; exact ⟨.nilFunc, fun w => by kernel_rfl, fun w => by rw [show rankR t 6 1 true = 0 from rfl]; exact dist_nil t w⟩
  · subst hb; exact ⟨.nilFunc, fun w => by kernel_rfl, fun w => by rw [show rankR t 6 2 true = 0 from rfl]; exact dist_nil t w⟩
  · subst hb; exact ⟨.nilFunc, fun w => by kernel_rfl, fun w => by rw [show rankR t 6 3 true = 0 from rfl]; exact dist_nil t w⟩
  · subst hb; exact ⟨.nilFunc, fun w => by kernel_rfl, fun w => by rw [show rankR t 6 4 true = 0 from rfl]; exact dist_nil t w⟩
  · subst hb; exact ⟨.nilFunc, fun w => by kernel_rfl, fun w => by rw [show rankR t 6 5 true = 0 from rfl]; exact dist_nil t w⟩
  · subst hb; exact ⟨.nilFunc, fun w => by kernel_rfl, fun w => by rw [show rankR t 6 6 true = 0 from rfl]; exact dist_nil t w⟩
  · subst hb; exact ⟨.func (.func 136) #[] #[], fun w => by kernel_rfl, fun w => by rw [show rankR t 6 7 true = t.cke from rfl]; exact dist_enterToLeave t h w⟩
  · subst hb; exact ⟨.nilFunc, fun w => by kernel_rfl, fun w => by rw [show rankR t 6 8 true = 0 from rfl]; exact dist_nil t w⟩
  · subst hb; exact ⟨.nilFunc, fun w => by kernel_rfl, fun w => by rw [show rankR t 6 9 true = 0 from rfl]; exact dist_nil t w⟩

theorem rankT_ix7 (w : World) : (Instr.index 152 (.agg rankTCells) (.int .i64 7)).run Tryz.prog w = .ok (.agg rankTRow7) w := by kernel_rfl

theorem rankT_rule7 (t : Tm) (h : TimOk t) (b : Int) (hb : 1 ≤ b ∧ b ≤ 9) : ∃ ru, (∀ w, (Instr.index 150 (.agg rankTRow7) (.int .i64 b)).run Tryz.prog w = .ok ru w) ∧ ∀ w, Calls Tryz.prog 114 #[.agg #[.int .i64 t.rcd, .int .i64 t.rp, .int .i64 t.ras, .int .i64 t.rrds, .int .i64 t.rrdl, .int .i64 t.faw, .int .i64 t.ccds, .int .i64 t.ccdl, .int .i64 t.rtp, .int .i64 t.wr, .int .i64 t.wtrs, .int .i64 t.wtrl, .int .i64 t.rtw, .int .i64 t.rfc, .int .i64 t.cke, .int .i64 t.xp, .int .i64 t.xs], ru] w (Gives (.int .i64 (rankR t 7 b true)) w) := by
  rcases (show b = 1 ∨ b = 2 ∨ b = 3 ∨ b = 4 ∨ b = 5 ∨ b = 6 ∨ b = 7 ∨ b = 8 ∨ b = 9 by omega) with hb | hb | hb | hb | hb | hb | hb | hb | hb
  · subst hb; exact ⟨.func (.func 138) #[] #[], fun w => by kernel_rfl, fun w => by rw [show rankR t 7 1 true = t.xp from rfl]; exact dist_upToAny t h w⟩
  · subst hb; exact ⟨.func (.func 138) #[] #[], fun w => by kernel_rfl, fun w => by rw [show rankR t 7 2 true = t.xp from rfl]; exact dist_upToAny t h w⟩
  · subst hb; exact ⟨.func (.func 138) #[] #[], fun w => by kernel_rfl, fun w => by rw [show rankR t 7 3 true = t.xp from rfl]; exact dist_upToAny t h w⟩
  · subst hb; exact ⟨.func (.func 138) #[] #[], fun w => by kernel_rfl, fun w => by rw [show rankR t 7 4 true = t.xp from rfl]; exact dist_upToAny t h w⟩
  · subst hb; exact ⟨.func (.func 138) #[] #[], fun w => by kernel_rfl, fun w => by rw [show rankR t 7 5 true = t.xp from rfl]; exact dist_upToAny t h w⟩
  · subst hb; exact ⟨.func (.func 138) #[] #[], fun w => by kernel_rfl, fun w => by rw [show rankR t 7 6 true = t.xp from rfl]; exact dist_upToAny t h w⟩
  · subst hb; exact ⟨.func (.func 138) #[] #[], fun w => by kernel_rfl, fun w => by rw [show rankR t 7 7 true = t.xp from rfl]; exact dist_upToAny t h w⟩
  · subst hb; exact ⟨.func (.func 138) #[] #[], fun w => by kernel_rfl, fun w => by rw [show rankR t 7 8 true = t.xp from rfl]; exact dist_upToAny t h w⟩
  · subst hb; exact ⟨.func (.func 138) #[] #[], fun w => by kernel_rfl, fun w => by rw [show rankR t 7 9 true = t.xp from rfl]; exact dist_upToAny t h w⟩

theorem rankT_ix8 (w : World) : (Instr.index 152 (.agg rankTCells) (.int .i64 8)).run Tryz.prog w = .ok (.agg rankTRow8) w := by kernel_rfl

theorem rankT_rule8 (t : Tm) (h : TimOk t) (b : Int) (hb : 1 ≤ b ∧ b ≤ 9) : ∃ ru, (∀ w, (Instr.index 150 (.agg rankTRow8) (.int .i64 b)).run Tryz.prog w = .ok ru w) ∧ ∀ w, Calls Tryz.prog 114 #[.agg #[.int .i64 t.rcd, .int .i64 t.rp, .int .i64 t.ras, .int .i64 t.rrds, .int .i64 t.rrdl, .int .i64 t.faw, .int .i64 t.ccds, .int .i64 t.ccdl, .int .i64 t.rtp, .int .i64 t.wr, .int .i64 t.wtrs, .int .i64 t.wtrl, .int .i64 t.rtw, .int .i64 t.rfc, .int .i64 t.cke, .int .i64 t.xp, .int .i64 t.xs], ru] w (Gives (.int .i64 (rankR t 8 b true)) w) := by
  rcases (show b = 1 ∨ b = 2 ∨ b = 3 ∨ b = 4 ∨ b = 5 ∨ b = 6 ∨ b = 7 ∨ b = 8 ∨ b = 9 by omega) with hb | hb | hb | hb | hb | hb | hb | hb | hb
  · subst hb; exact ⟨.nilFunc, fun w => by kernel_rfl, fun w => by rw [show rankR t 8 1 true = 0 from rfl]; exact dist_nil t w⟩
  · subst hb; exact ⟨.nilFunc, fun w => by kernel_rfl, fun w => by rw [show rankR t 8 2 true = 0 from rfl]; exact dist_nil t w⟩
  · subst hb; exact ⟨.nilFunc, fun w => by kernel_rfl, fun w => by rw [show rankR t 8 3 true = 0 from rfl]; exact dist_nil t w⟩
  · subst hb; exact ⟨.nilFunc, fun w => by kernel_rfl, fun w => by rw [show rankR t 8 4 true = 0 from rfl]; exact dist_nil t w⟩
  · subst hb; exact ⟨.nilFunc, fun w => by kernel_rfl, fun w => by rw [show rankR t 8 5 true = 0 from rfl]; exact dist_nil t w⟩
  · subst hb; exact ⟨.nilFunc, fun w => by kernel_rfl, fun w => by rw [show rankR t 8 6 true = 0 from rfl]; exact dist_nil t w⟩
  · subst hb; exact ⟨.nilFunc, fun w => by kernel_rfl, fun w => by rw [show rankR t 8 7 true = 0 from rfl]; exact dist_nil t w⟩
  · subst hb; exact ⟨.nilFunc, fun w => by kernel_rfl, fun w => by rw [show rankR t 8 8 true = 0 from rfl]; exact dist_nil t w⟩
  · subst hb; exact ⟨.func (.func 136) #[] #[], fun w => by kernel_rfl, fun w => by rw [show rankR t 8 9 true = t.cke from rfl]; exact dist_enterToLeave t h w⟩

theorem rankT_ix9 (w : World) : (Instr.index 152 (.agg rankTCells) (.int .i64 9)).run Tryz.prog w = .ok (.agg rankTRow9) w := by kernel_rfl

theorem rankT_rule9 (t : Tm) (h : TimOk t) (b : Int) (hb : 1 ≤ b ∧ b ≤ 9) : ∃ ru, (∀ w, (Instr.index 150 (.agg rankTRow9) (.int .i64 b)).run Tryz.prog w = .ok ru w) ∧ ∀ w, Calls Tryz.prog 114 #[.agg #[.int .i64 t.rcd, .int .i64 t.rp, .int .i64 t.ras, .int .i64 t.rrds, .int .i64 t.rrdl, .int .i64 t.faw, .int .i64 t.ccds, .int .i64 t.ccdl, .int .i64 t.rtp, .int .i64 t.wr, .int .i64 t.wtrs, .int .i64 t.wtrl, .int .i64 t.rtw, .int .i64 t.rfc, .int .i64 t.cke, .int .i64 t.xp, .int .i64 t.xs], ru] w (Gives (.int .i64 (rankR t 9 b true)) w) := by
  rcases (show b = 1 ∨ b = 2 ∨ b = 3 ∨ b = 4 ∨ b = 5 ∨ b = 6 ∨ b = 7 ∨ b = 8 ∨ b = 9 by omega) with hb | hb | hb | hb | hb | hb | hb | hb | hb
  · subst hb; exact ⟨.func (.func 139) #[] #[], fun w => by kernel_rfl, fun w => by rw [show rankR t 9 1 true = t.xs from rfl]; exact dist_wakeToAny t h w⟩
  · subst hb; exact ⟨.func (.func 139) #[] #[], fun w => by kernel_rfl, fun w => by rw [show rankR t 9 2 true = t.xs from rfl]; exact dist_wakeToAny t h w⟩
  · subst hb; exact ⟨.func (.func 139) #[] #[], fun w => by kernel_rfl, fun w => by rw [show rankR t 9 3 true = t.xs from rfl]; exact dist_wakeToAny t h w⟩
  · subst hb; exact ⟨.func (.func 139) #[] #[], fun w => by kernel_rfl, fun w => by rw [show rankR t 9 4 true = t.xs from rfl]; exact dist_wakeToAny t h w⟩
  · subst hb; exact ⟨.func (.func 139) #[] #[], fun w => by kernel_rfl, fun w => by rw [show rankR t 9 5 true = t.xs from rfl]; exact dist_wakeToAny t h w⟩
  · subst hb; exact ⟨.func (.func 139) #[] #[], fun w => by kernel_rfl, fun w => by rw [show rankR t 9 6 true = t.xs from rfl]; exact dist_wakeToAny t h w⟩
  · subst hb; exact ⟨.func (.func 139) #[] #[], fun w => by kernel_rfl, fun w => by rw [show rankR t 9 7 true = t.xs from rfl]; exact dist_wakeToAny t h w⟩
  · subst hb; exact ⟨.func (.func 139) #[] #[], fun w => by kernel_rfl, fun w => by rw [show rankR t 9 8 true = t.xs from rfl]; exact dist_wakeToAny t h w⟩
  · subst hb; exact ⟨.func (.func 139) #[] #[], fun w => by kernel_rfl, fun w => by rw [show rankR t 9 9 true = t.xs from rfl]; exact dist_wakeToAny t h w⟩

theorem rankT_rule (t : Tm) (h : TimOk t) (a b : Int) (ha : 1 ≤ a ∧ a ≤ 9) (hb : 1 ≤ b ∧ b ≤ 9) : ∃ rv ru, (∀ w, (Instr.index 152 (.agg rankTCells) (.int .i64 a)).run Tryz.prog w = .ok rv w) ∧ (∀ w, (Instr.index 150 rv (.int .i64 b)).run Tryz.prog w = .ok ru w) ∧ ∀ w, Calls Tryz.prog 114 #[.agg #[.int .i64 t.rcd, .int .i64 t.rp, .int .i64 t.ras, .int .i64 t.rrds, .int .i64 t.rrdl, .int .i64 t.faw, .int .i64 t.ccds, .int .i64 t.ccdl, .int .i64 t.rtp, .int .i64 t.wr, .int .i64 t.wtrs, .int .i64 t.wtrl, .int .i64 t.rtw, .int .i64 t.rfc, .int .i64 t.cke, .int .i64 t.xp, .int .i64 t.xs], ru] w (Gives (.int .i64 (rankR t a b true)) w) := by
  rcases (show a = 1 ∨ a = 2 ∨ a = 3 ∨ a = 4 ∨ a = 5 ∨ a = 6 ∨ a = 7 ∨ a = 8 ∨ a = 9 by omega) with ha | ha | ha | ha | ha | ha | ha | ha | ha
  · subst ha; obtain ⟨ru, h1, h2⟩ := rankT_rule1 t h b hb; exact ⟨.agg rankTRow1, ru, rankT_ix1, h1, h2⟩
  · subst ha; obtain ⟨ru, h1, h2⟩ := rankT_rule2 t h b hb; exact ⟨.agg rankTRow2, ru, rankT_ix2, h1, h2⟩
  · subst ha; obtain ⟨ru, h1, h2⟩ := rankT_rule3 t h b hb; exact ⟨.agg rankTRow3, ru, rankT_ix3, h1, h2⟩
  · subst ha; obtain ⟨ru, h1, h2⟩ := rankT_rule4 t h b hb; exact ⟨.agg rankTRow4, ru, rankT_ix4, h1, h2⟩
  · subst ha; obtain ⟨ru, h1, h2⟩ := rankT_rule5 t h b hb; exact ⟨.agg rankTRow5, ru, rankT_ix5, h1, h2⟩
  · subst ha; obtain ⟨ru, h1, h2⟩ := rankT_rule6 t h b hb; exact ⟨.agg rankTRow6, ru, rankT_ix6, h1, h2⟩
  · subst ha; obtain ⟨ru, h1, h2⟩ := rankT_rule7 t h b hb; exact ⟨.agg rankTRow7, ru, rankT_ix7, h1, h2⟩
  · subst ha; obtain ⟨ru, h1, h2⟩ := rankT_rule8 t h b hb; exact ⟨.agg rankTRow8, ru, rankT_ix8, h1, h2⟩
  · subst ha; obtain ⟨ru, h1, h2⟩ := rankT_rule9 t h b hb; exact ⟨.agg rankTRow9, ru, rankT_ix9, h1, h2⟩

def rankFRow1 : Array Value := #[.nilFunc, .func (.func 121) #[] #[], .nilFunc, .nilFunc, .nilFunc, .nilFunc, .nilFunc, .nilFunc, .func (.func 127) #[] #[], .nilFunc]

def rankFRow2 : Array Value := #[.nilFunc, .nilFunc, .func (.func 122) #[] #[], .func (.func 128) #[] #[], .nilFunc, .nilFunc, .func (.func 129) #[] #[], .nilFunc, .func (.func 130) #[] #[], .nilFunc]

def rankFRow3 : Array Value := #[.nilFunc, .nilFunc, .func (.func 123) #[] #[], .func (.func 122) #[] #[], .nilFunc, .nilFunc, .func (.func 131) #[] #[], .nilFunc, .func (.func 132) #[] #[], .nilFunc]

def rankFRow4 : Array Value := #[.nilFunc, .nilFunc, .nilFunc, .nilFunc, .nilFunc, .nilFunc, .nilFunc, .nilFunc, .func (.func 133) #[] #[], .nilFunc]

def rankFRow5 : Array Value := #[.nilFunc, .nilFunc, .nilFunc, .nilFunc, .nilFunc, .func (.func 134) #[] #[], .nilFunc, .nilFunc, .func (.func 135) #[] #[], .nilFunc]

def rankFRow6 : Array Value := #[.nilFunc, .nilFunc, .nilFunc, .nilFunc, .nilFunc, .nilFunc, .nilFunc, .func (.func 136) #[] #[], .nilFunc, .nilFunc]

def rankFRow7 : Array Value := #[.nilFunc, .func (.func 138) #[] #[], .func (.func 138) #[] #[], .func (.func 138) #[] #[], .func (.func 138) #[] #[], .func (.func 138) #[] #[], .func (.func 138) #[] #[], .func (.func 138) #[] #[], .func (.func 138) #[] #[], .func (.func 138) #[] #[]]

def rankFRow8 : Array Value := #[.nilFunc, .nilFunc, .nilFunc, .nilFunc, .nilFunc, .nilFunc, .nilFunc, .nilFunc, .nilFunc, .func (.func 136) #[] #[]]

def rankFRow9 : Array Value := #[.nilFunc, .func (.func 139) #[] #[], .func (.func 139) #[] #[], .func (.func 139) #[] #[], .func (.func 139) #[] #[], .func (.func 139) #[] #[], .func (.func 139) #[] #[], .func (.func 139) #[] #[], .func (.func 139) #[] #[], .func (.func 139) #[] #[]]

def rankFCells : Array Value := #[.nilFunc, .nilFunc, .nilFunc, .nilFunc, .nilFunc, .nilFunc, .nilFunc, .nilFunc, .nilFunc, .nilFunc, .nilFunc, .func (.func 121) #[] #[], .nilFunc, .nilFunc, .nilFunc, .nilFunc, .nilFunc, .nilFunc, .func (.func 127) #[] #[], .nilFunc, .nilFunc, .nilFunc, .func (.func 122) #[] #[], .func (.func 128) #[] #[], .nilFunc, .nilFunc, .func (.func 129) #[] #[], .nilFunc, .func (.func 130) #[] #[], .nilFunc, .nilFunc, .nilFunc, .func (.func 123) #[] #[], .func (.func 122) #[] #[], .nilFunc, .nilFunc, .func (.func 131) #[] #[], .nilFunc, .func (.func 132) #[] #[], .nilFunc, .nilFunc, .nilFunc, .nilFunc, .nilFunc, .nilFunc, .nilFunc, .nilFunc, .nilFunc, .func (.func 133) #[] #[], .nilFunc, .nilFunc, .nilFunc, .nilFunc, .nilFunc, .nilFunc, .func (.func 134) #[] #[], .nilFunc, .nilFunc, .func (.func 135) #[] #[], .nilFunc, .nilFunc, .nilFunc, .nilFunc, .nilFunc, .nilFunc, .nilFunc, .nilFunc, .func (.func 136) #[] #[], .nilFunc, .nilFunc, .nilFunc, .func (.func 138) #[] #[], .func (.func 138) #[] #[], .func (.func 138) #[] #[], .func (.func 138) #[] #[], .func (.func 138) #[] #[], .func (.func 138) #[] #[], .func (.func 138) #[] #[], .func (.func 138) #[] #[], .func (.func 138) #[] #[], .nilFunc, .nilFunc, .nilFunc, .nilFunc, .nilFunc, .nilFunc, .nilFunc, .nilFunc, .nilFunc, .func (.func 136) #[] #[], .nilFunc, .func (.func 139) #[] #[], .func (.func 139) #[] #[], .func (.func 139) #[] #[], .func (.func 139) #[] #[], .func (.func 139) #[] #[], .func (.func 139) #[] #[], .func (.func 139) #[] #[], .func (.func 139) #[] #[], .func (.func 139) #[] #[]]

theorem rankF_ix1 (w : World) : (Instr.index 152 (.agg rankFCells) (.int .i64 1)).run Tryz.prog w = .ok (.agg rankFRow1) w := by kernel_rfl

theorem rankF_rule1 (t : Tm) (h : TimOk t) (b : Int) (hb : 1 ≤ b ∧ b ≤ 9) : ∃ ru, (∀ w, (Instr.index 150 (.agg rankFRow1) (.int .i64 b)).run Tryz.prog w = .ok ru w) ∧ ∀ w, Calls Tryz.prog 114 #[.agg #[.int .i64 t.rcd, .int .i64 t.rp, .int .i64 t.ras, .int .i64 t.rrds, .int .i64 t.rrdl, .int .i64 t.faw, .int .i64 t.ccds, .int .i64 t.ccdl, .int .i64 t.rtp, .int .i64 t.wr, .int .i64 t.wtrs, .int .i64 t.wtrl, .int .i64 t.rtw, .int .i64 t.rfc, .int .i64 t.cke, .int .i64 t.xp, .int .i64 t.xs], ru] w (Gives (.int .i64 (rankR t 1 b false)) w) := by
  rcases (show b = 1 ∨ b = 2 ∨ b = 3 ∨ b = 4 ∨ b = 5 ∨ b = 6 ∨ b = 7 ∨ b = 8 ∨ b = 9 by omega) with hb | hb | hb | hb | hb | hb | hb | hb | hb
  · subst hb; exact ⟨.func (.func 121) #[] #[], fun w => by kernel_rfl, fun w => by rw [show rankR t 1 1 false = t.rrds from rfl]; exact dist_actToFarAct t h w⟩
  · subst hb; exact ⟨.nilFunc, fun w => by kernel_rfl, fun w => by rw [show rankR t 1 2 false = 0 from rfl]; exact dist_nil t w⟩
  · subst hb; exact ⟨.nilFunc, fun w => by kernel_rfl, fun w => by rw [show rankR t 1 3 false = 0 from rfl]; exact dist_nil t w⟩
  · subst hb; exact ⟨.nilFunc, fun w => by kernel_rfl, fun w => by rw [show rankR t 1 4 false = 0 from rfl]; exact dist_nil t w⟩
  · subst hb; exact ⟨.nilFunc, fun w => by kernel_rfl, fun w => by rw [show rankR t 1 5 false = 0 from rfl]; exact dist_nil t w⟩
  · subst hb; exact ⟨.nilFunc, fun w => by kernel_rfl, fun w => by rw [show rankR t 1 6 false = 0 from rfl]; exact dist_nil t w⟩
  · subst hb; exact ⟨.nilFunc, fun w => by kernel_rfl, fun w => by rw [show rankR t 1 7 false = 0 from rfl]; exact dist_nil t w⟩
  · subst hb; exact ⟨.func (.func 127) #[] #[], fun w => by kernel_rfl, fun w => by rw [show rankR t 1 8 false = t.ras + t.rp from rfl]; exact dist_actToClosed t h w⟩
  · subst hb; exact ⟨.nilFunc, fun w => by kernel_rfl, fun w => by rw [show rankR t 1 9 false = 0 from rfl]; exact dist_nil t w⟩

theorem rankF_ix2 (w : World) : (Instr.index 152 (.agg rankFCells) (.int .i64 2)).run Tryz.prog w = .ok (.agg rankFRow2) w := by kernel_rfl

theorem rankF_rule2 (t : Tm) (h : TimOk t) (b : Int) (hb : 1 ≤ b ∧ b ≤ 9) : ∃ ru, (∀ w, (Instr.index 150 (.agg rankFRow2) (.int .i64 b)).run Tryz.prog w = .ok ru w) ∧ ∀ w, Calls Tryz.prog 114 #[.agg #[.int .i64 t.rcd, .int .i64 t.rp, .int .i64 t.ras, .int .i64 t.rrds, .int .i64 t.rrdl, .int .i64 t.faw, .int .i64 t.ccds, .int .i64 t.ccdl, .int .i64 t.rtp, .int .i64 t.wr, .int .i64 t.wtrs, .int .i64 t.wtrl, .int .i64 t.rtw, .int .i64 t.rfc, .int .i64 t.cke, .int .i64 t.xp, .int .i64 t.xs], ru] w (Gives (.int .i64 (rankR t 2 b false)) w) := by
  rcases (show b = 1 ∨ b = 2 ∨ b = 3 ∨ b = 4 ∨ b = 5 ∨ b = 6 ∨ b = 7 ∨ b = 8 ∨ b = 9 by omega) with hb | hb | hb | hb | hb | hb | hb | hb | hb
  · subst hb; exact ⟨.nilFunc, fun w => by kernel_rfl, fun w => by rw [show rankR t 2 1 false = 0 from rfl]; exact dist_nil t w⟩
  · subst hb; exact ⟨.func (.func 122) #[] #[], fun w => by kernel_rfl, fun w => by rw [show rankR t 2 2 false = t.ccds from rfl]; exact dist_accessToFarAccess t h w⟩
  · subst hb; exact ⟨.func (.func 128) #[] #[], fun w => by kernel_rfl, fun w => by rw [show rankR t 2 3 false = t.rtw from rfl]; exact dist_readToWrite t h w⟩
  · subst hb; exact ⟨.nilFunc, fun w => by kernel_rfl, fun w => by rw [show rankR t 2 4 false = 0 from rfl]; exact dist_nil t w⟩
  · subst hb; exact ⟨.nilFunc, fun w => by kernel_rfl, fun w => by rw [show rankR t 2 5 false = 0 from rfl]; exact dist_nil t w⟩
  · subst hb; exact ⟨.func (.func 129) #[] #[], fun w => by kernel_rfl, fun w => by rw [show rankR t 2 6 false = t.rtp from rfl]; exact dist_readToPre t h w⟩
  · subst hb; exact ⟨.nilFunc, fun w => by kernel_rfl, fun w => by rw [show rankR t 2 7 false = 0 from rfl]; exact dist_nil t w⟩
  · subst hb; exact ⟨.func (.func 130) #[] #[], fun w => by kernel_rfl, fun w => by rw [show rankR t 2 8 false = t.rtp + t.rp from rfl]; exact dist_readToClosed t h w⟩
  · subst hb; exact ⟨.nilFunc, fun w => by kernel_rfl, fun w => by rw [show rankR t 2 9 false = 0 from rfl]; exact dist_nil t w⟩

theorem rankF_ix3 (w : World) : (Instr.index 152 (.agg rankFCells) (.int .i64 3)).run Tryz.prog w = .ok (.agg rankFRow3) w := by kernel_rfl

theorem rankF_rule3 (t : Tm) (h : TimOk t) (b : Int) (hb : 1 ≤ b ∧ b ≤ 9) : ∃ ru, (∀ w, (Instr.index 150 (.agg rankFRow3) (.int .i64 b)).run Tryz.prog w = .ok ru w) ∧ ∀ w, Calls Tryz.prog 114 #[.agg #[.int .i64 t.rcd, .int .i64 t.rp, .int .i64 t.ras, .int .i64 t.rrds, .int .i64 t.rrdl, .int .i64 t.faw, .int .i64 t.ccds, .int .i64 t.ccdl, .int .i64 t.rtp, .int .i64 t.wr, .int .i64 t.wtrs, .int .i64 t.wtrl, .int .i64 t.rtw, .int .i64 t.rfc, .int .i64 t.cke, .int .i64 t.xp, .int .i64 t.xs], ru] w (Gives (.int .i64 (rankR t 3 b false)) w) := by
  rcases (show b = 1 ∨ b = 2 ∨ b = 3 ∨ b = 4 ∨ b = 5 ∨ b = 6 ∨ b = 7 ∨ b = 8 ∨ b = 9 by omega) with hb | hb | hb | hb | hb | hb | hb | hb | hb
  · subst hb; exact ⟨.nilFunc, fun w => by kernel_rfl, fun w => by rw [show rankR t 3 1 false = 0 from rfl]; exact dist_nil t w⟩
  · subst hb; exact ⟨.func (.func 123) #[] #[], fun w => by kernel_rfl, fun w => by rw [show rankR t 3 2 false = t.wtrs from rfl]; exact dist_writeToFarRead t h w⟩
  · subst hb; exact ⟨.func (.func 122) #[] #[], fun w => by kernel_rfl, fun w => by rw [show rankR t 3 3 false = t.ccds from rfl]; exact dist_accessToFarAccess t h w⟩
  · subst hb; exact ⟨.nilFunc, fun w => by kernel_rfl, fun w => by rw [show rankR t 3 4 false = 0 from rfl]; exact dist_nil t w⟩
  · subst hb; exact ⟨.nilFunc, fun w => by kernel_rfl, fun w => by rw [show rankR t 3 5 false = 0 from rfl]; exact dist_nil t w⟩
  · subst hb; exact ⟨.func (.func 131) #[] #[], fun w => by kernel_rfl, fun w => by rw [show rankR t 3 6 false = t.wr from rfl]; exact dist_writeToPre t h w⟩
  · subst hb; exact ⟨.nilFunc, fun w => by kernel_rfl, fun w => by rw [show rankR t 3 7 false = 0 from rfl]; exact dist_nil t w⟩
  · subst hb; exact ⟨.func (.func 132) #[] #[], fun w => by kernel_rfl, fun w => by rw [show rankR t 3 8 false = t.wr + t.rp from rfl]; exact dist_writeToClosed t h w⟩
  · subst hb; exact ⟨.nilFunc, fun w => by kernel_rfl, fun w => by rw [show rankR t 3 9 false = 0 from rfl]; exact dist_nil t w⟩

theorem rankF_ix4 (w : World) : (Instr.index 152 (.agg rankFCells) (.int .i64 4)).run Tryz.prog w = .ok (.agg rankFRow4) w := by kernel_rfl

theorem rankF_rule4 (t : Tm) (h : TimOk t) (b : Int) (hb : 1 ≤ b ∧ b ≤ 9) : ∃ ru, (∀ w, (Instr.index 150 (.agg rankFRow4) (.int .i64 b)).run Tryz.prog w = .ok ru w) ∧ ∀ w, Calls Tryz.prog 114 #[.agg #[.int .i64 t.rcd, .int .i64 t.rp, .int .i64 t.ras, .int .i64 t.rrds, .int .i64 t.rrdl, .int .i64 t.faw, .int .i64 t.ccds, .int .i64 t.ccdl, .int .i64 t.rtp, .int .i64 t.wr, .int .i64 t.wtrs, .int .i64 t.wtrl, .int .i64 t.rtw, .int .i64 t.rfc, .int .i64 t.cke, .int .i64 t.xp, .int .i64 t.xs], ru] w (Gives (.int .i64 (rankR t 4 b false)) w) := by
  rcases (show b = 1 ∨ b = 2 ∨ b = 3 ∨ b = 4 ∨ b = 5 ∨ b = 6 ∨ b = 7 ∨ b = 8 ∨ b = 9 by omega) with hb | hb | hb | hb | hb | hb | hb | hb | hb
  · subst hb; exact ⟨.nilFunc, fun w => by kernel_rfl, fun w => by rw [show rankR t 4 1 false = 0 from rfl]; exact dist_nil t w⟩
  · subst hb; exact ⟨.nilFunc, fun w => by kernel_rfl, fun w => by rw [show rankR t 4 2 false = 0 from rfl]; exact dist_nil t w⟩
  · subst hb; exact ⟨.nilFunc, fun w => by kernel_rfl, fun w => by rw [show rankR t 4 3 false = 0 from rfl]; exact dist_nil t w⟩
  · subst hb; exact ⟨.nilFunc, fun w => by kernel_rfl, fun w => by rw [show rankR t 4 4 false = 0 from rfl]; exact dist_nil t w⟩
  · subst hb; exact ⟨.nilFunc, fun w => by kernel_rfl, fun w => by rw [show rankR t 4 5 false = 0 from rfl]; exact dist_nil t w⟩
  · subst hb; exact ⟨.nilFunc, fun w => by kernel_rfl, fun w => by rw [show rankR t 4 6 false = 0 from rfl]; exact dist_nil t w⟩
  · subst hb; exact ⟨.nilFunc, fun w => by kernel_rfl, fun w => by rw [show rankR t 4 7 false = 0 from rfl]; exact dist_nil t w⟩
  · subst hb; exact ⟨.func (.func 133) #[] #[], fun w => by kernel_rfl, fun w => by rw [show rankR t 4 8 false = t.rp from rfl]; exact dist_preToClosed t h w⟩
  · subst hb; exact ⟨.nilFunc, fun w => by kernel_rfl, fun w => by rw [show rankR t 4 9 false = 0 from rfl]; exact dist_nil t w⟩

theorem rankF_ix5 (w : World) : (Instr.index 152 (.agg rankFCells) (.int .i64 5)).run Tryz.prog w = .ok (.agg rankFRow5) w := by kernel_rfl

theorem rankF_rule5 (t : Tm) (h : TimOk t) (b : Int) (hb : 1 ≤ b ∧ b ≤ 9) : ∃ ru, (∀ w, (Instr.index 150 (.agg rankFRow5) (.int .i64 b)).run Tryz.prog w = .ok ru w) ∧ ∀ w, Calls Tryz.prog 114 #[.agg #[.int .i64 t.rcd, .int .i64 t.rp, .int .i64 t.ras, .int .i64 t.rrds, .int .i64 t.rrdl, .int .i64 t.faw, .int .i64 t.ccds, .int .i64 t.ccdl, .int .i64 t.rtp, .int .i64 t.wr, .int .i64 t.wtrs, .int .i64 t.wtrl, .int .i64 t.rtw, .int .i64 t.rfc, .int .i64 t.cke, .int .i64 t.xp, .int .i64 t.xs], ru] w (Gives (.int .i64 (rankR t 5 b false)) w) := by
  rcases (show b = 1 ∨ b = 2 ∨ b = 3 ∨ b = 4 ∨ b = 5 ∨ b = 6 ∨ b = 7 ∨ b = 8 ∨ b = 9 by omega) with hb | hb | hb | hb | hb | hb | hb | hb | hb
  · subst hb; exact ⟨.nilFunc, fun w => by kernel_rfl, fun w => by rw [show rankR t 5 1 false = 0 from rfl]; exact dist_nil t w⟩
  · subst hb; exact ⟨.nilFunc, fun w => by kernel_rfl, fun w => by rw [show rankR t 5 2 false = 0 from rfl]; exact dist_nil t w⟩
  · subst hb; exact ⟨.nilFunc, fun w => by kernel_rfl, fun w => by rw [show rankR t 5 3 false = 0 from rfl]; exact dist_nil t w⟩
  · subst hb; exact ⟨.nilFunc, fun w => by kernel_rfl, fun w => by rw [show rankR t 5 4 false = 0 from rfl]; exact dist_nil t w⟩
  · subst hb; exact ⟨.func (.func 134) #[] #[], fun w => by kernel_rfl, fun w => by rw [show rankR t 5 5 false = t.rrdl from rfl]; exact dist_refToRef t h w⟩
  · subst hb; exact ⟨.nilFunc, fun w => by kernel_rfl, fun w => by rw [show rankR t 5 6 false = 0 from rfl]; exact dist_nil t w⟩
  · subst hb; exact ⟨.nilFunc, fun w => by kernel_rfl, fun w => by rw [show rankR t 5 7 false = 0 from rfl]; exact dist_nil t w⟩
  · subst hb; exact ⟨.func (.func 135) #[] #[], fun w => by kernel_rfl, fun w => by rw [show rankR t 5 8 false = t.rfc from rfl]; exact dist_refToDone t h w⟩
  · subst hb; exact ⟨.nilFunc, fun w => by kernel_rfl, fun w => by rw [show rankR t 5 9 false = 0 from rfl]; exact dist_nil t w⟩

theorem rankF_ix6 (w : World) : (Instr.index 152 (.agg rankFCells) (.int .i64 6)).run Tryz.prog w = .ok (.agg rankFRow6) w := by kernel_rfl

theorem rankF_rule6 (t : Tm) (h : TimOk t) (b : Int) (hb : 1 ≤ b ∧ b ≤ 9) : ∃ ru, (∀ w, (Instr.index 150 (.agg rankFRow6) (.int .i64 b)).run Tryz.prog w = .ok ru w) ∧ ∀ w, Calls Tryz.prog 114 #[.agg #[.int .i64 t.rcd, .int .i64 t.rp, .int .i64 t.ras, .int .i64 t.rrds, .int .i64 t.rrdl, .int .i64 t.faw, .int .i64 t.ccds, .int .i64 t.ccdl, .int .i64 t.rtp, .int .i64 t.wr, .int .i64 t.wtrs, .int .i64 t.wtrl, .int .i64 t.rtw, .int .i64 t.rfc, .int .i64 t.cke, .int .i64 t.xp, .int .i64 t.xs], ru] w (Gives (.int .i64 (rankR t 6 b false)) w) := by
  rcases (show b = 1 ∨ b = 2 ∨ b = 3 ∨ b = 4 ∨ b = 5 ∨ b = 6 ∨ b = 7 ∨ b = 8 ∨ b = 9 by omega) with hb | hb | hb | hb | hb | hb | hb | hb | hb
  · subst hb; exact ⟨.nilFunc, fun w => by kernel_rfl, fun w => by rw [show rankR t 6 1 false = 0 from rfl]; exact dist_nil t w⟩
  · subst hb; exact ⟨.nilFunc, fun w => by kernel_rfl, fun w => by rw [show rankR t 6 2 false = 0 from rfl]; exact dist_nil t w⟩
  · subst hb; exact ⟨.nilFunc, fun w => by kernel_rfl, fun w => by rw [show rankR t 6 3 false = 0 from rfl]; exact dist_nil t w⟩
  · subst hb; exact ⟨.nilFunc, fun w => by kernel_rfl, fun w => by rw [show rankR t 6 4 false = 0 from rfl]; exact dist_nil t w⟩
  · subst hb; exact ⟨.nilFunc, fun w => by kernel_rfl, fun w => by rw [show rankR t 6 5 false = 0 from rfl]; exact dist_nil t w⟩
  · subst hb; exact ⟨.nilFunc, fun w => by kernel_rfl, fun w => by rw [show rankR t 6 6 false = 0 from rfl]; exact dist_nil t w⟩
  · subst hb; exact ⟨.func (.func 136) #[] #[], fun w => by kernel_rfl, fun w => by rw [show rankR t 6 7 false = t.cke from rfl]; exact dist_enterToLeave t h w⟩
  · subst hb; exact ⟨.nilFunc, fun w => by kernel_rfl, fun w => by rw [show rankR t 6 8 false = 0 from rfl]; exact dist_nil t w⟩
  · subst hb; exact ⟨.nilFunc, fun w => by kernel_rfl, fun w => by rw [show rankR t 6 9 false = 0 from rfl]; exact dist_nil t w⟩

theorem rankF_ix7 (w : World) : (Instr.index 152 (.agg rankFCells) (.int .i64 7)).run Tryz.prog w = .ok (.agg rankFRow7) w := by kernel_rfl

theorem rankF_rule7 (t : Tm) (h : TimOk t) (b : Int) (hb : 1 ≤ b ∧ b ≤ 9) : ∃ ru, (∀ w, (Instr.index 150 (.agg rankFRow7) (.int .i64 b)).run Tryz.prog w = .ok ru w) ∧ ∀ w, Calls Tryz.prog 114 #[.agg #[.int .i64 t.rcd, .int .i64 t.rp, .int .i64 t.ras, .int .i64 t.rrds, .int .i64 t.rrdl, .int .i64 t.faw, .int .i64 t.ccds, .int .i64 t.ccdl, .int .i64 t.rtp, .int .i64 t.wr, .int .i64 t.wtrs, .int .i64 t.wtrl, .int .i64 t.rtw, .int .i64 t.rfc, .int .i64 t.cke, .int .i64 t.xp, .int .i64 t.xs], ru] w (Gives (.int .i64 (rankR t 7 b false)) w) := by
  rcases (show b = 1 ∨ b = 2 ∨ b = 3 ∨ b = 4 ∨ b = 5 ∨ b = 6 ∨ b = 7 ∨ b = 8 ∨ b = 9 by omega) with hb | hb | hb | hb | hb | hb | hb | hb | hb
  · subst hb; exact ⟨.func (.func 138) #[] #[], fun w => by kernel_rfl, fun w => by rw [show rankR t 7 1 false = t.xp from rfl]; exact dist_upToAny t h w⟩
  · subst hb; exact ⟨.func (.func 138) #[] #[], fun w => by kernel_rfl, fun w => by rw [show rankR t 7 2 false = t.xp from rfl]; exact dist_upToAny t h w⟩
  · subst hb; exact ⟨.func (.func 138) #[] #[], fun w => by kernel_rfl, fun w => by rw [show rankR t 7 3 false = t.xp from rfl]; exact dist_upToAny t h w⟩
  · subst hb; exact ⟨.func (.func 138) #[] #[], fun w => by kernel_rfl, fun w => by rw [show rankR t 7 4 false = t.xp from rfl]; exact dist_upToAny t h w⟩
  · subst hb; exact ⟨.func (.func 138) #[] #[], fun w => by kernel_rfl, fun w => by rw [show rankR t 7 5 false = t.xp from rfl]; exact dist_upToAny t h w⟩
  · subst hb; exact ⟨.func (.func 138) #[] #[], fun w => by kernel_rfl, fun w => by rw [show rankR t 7 6 false = t.xp from rfl]; exact dist_upToAny t h w⟩
  · subst hb; exact ⟨.func (.func 138) #[] #[], fun w => by kernel_rfl, fun w => by rw [show rankR t 7 7 false = t.xp from rfl]; exact dist_upToAny t h w⟩
  · subst hb; exact ⟨.func (.func 138) #[] #[], fun w => by kernel_rfl, fun w => by rw [show rankR t 7 8 false = t.xp from rfl]; exact dist_upToAny t h w⟩
  · subst hb; exact ⟨.func (.func 138) #[] #[], fun w => by kernel_rfl, fun w => by rw [show rankR t 7 9 false = t.xp from rfl]; exact dist_upToAny t h w⟩

theorem rankF_ix8 (w : World) : (Instr.index 152 (.agg rankFCells) (.int .i64 8)).run Tryz.prog w = .ok (.agg rankFRow8) w := by kernel_rfl

theorem rankF_rule8 (t : Tm) (h : TimOk t) (b : Int) (hb : 1 ≤ b ∧ b ≤ 9) : ∃ ru, (∀ w, (Instr.index 150 (.agg rankFRow8) (.int .i64 b)).run Tryz.prog w = .ok ru w) ∧ ∀ w, Calls Tryz.prog 114 #[.agg #[.int .i64 t.rcd, .int .i64 t.rp, .int .i64 t.ras, .int .i64 t.rrds, .int .i64 t.rrdl, .int .i64 t.faw, .int .i64 t.ccds, .int .i64 t.ccdl, .int .i64 t.rtp, .int .i64 t.wr, .int .i64 t.wtrs, .int .i64 t.wtrl, .int .i64 t.rtw, .int .i64 t.rfc, .int .i64 t.cke, .int .i64 t.xp, .int .i64 t.xs], ru] w (Gives (.int .i64 (rankR t 8 b false)) w) := by
  rcases (show b = 1 ∨ b = 2 ∨ b = 3 ∨ b = 4 ∨ b = 5 ∨ b = 6 ∨ b = 7 ∨ b = 8 ∨ b = 9 by omega) with hb | hb | hb | hb | hb | hb | hb | hb | hb
  · subst hb; exact ⟨.nilFunc, fun w => by kernel_rfl, fun w => by rw [show rankR t 8 1 false = 0 from rfl]; exact dist_nil t w⟩
  · subst hb; exact ⟨.nilFunc, fun w => by kernel_rfl, fun w => by rw [show rankR t 8 2 false = 0 from rfl]; exact dist_nil t w⟩
  · subst hb; exact ⟨.nilFunc, fun w => by kernel_rfl, fun w => by rw [show rankR t 8 3 false = 0 from rfl]; exact dist_nil t w⟩
  · subst hb; exact ⟨.nilFunc, fun w => by kernel_rfl, fun w => by rw [show rankR t 8 4 false = 0 from rfl]; exact dist_nil t w⟩
  · subst hb; exact ⟨.nilFunc, fun w => by kernel_rfl, fun w => by rw [show rankR t 8 5 false = 0 from rfl]; exact dist_nil t w⟩
  · subst hb; exact ⟨.nilFunc, fun w => by kernel_rfl, fun w => by rw [show rankR t 8 6 false = 0 from rfl]; exact dist_nil t w⟩
  · subst hb; exact ⟨.nilFunc, fun w => by kernel_rfl, fun w => by rw [show rankR t 8 7 false = 0 from rfl]; exact dist_nil t w⟩
  · subst hb; exact ⟨.nilFunc, fun w => by kernel_rfl, fun w => by rw [show rankR t 8 8 false = 0 from rfl]; exact dist_nil t w⟩
  · subst hb; exact ⟨.func (.func 136) #[] #[], fun w => by kernel_rfl, fun w => by rw [show rankR t 8 9 false = t.cke from rfl]; exact dist_enterToLeave t h w⟩

theorem rankF_ix9 (w : World) : (Instr.index 152 (.agg rankFCells) (.int .i64 9)).run Tryz.prog w = .ok (.agg rankFRow9) w := by kernel_rfl

theorem rankF_rule9 (t : Tm) (h : TimOk t) (b : Int) (hb : 1 ≤ b ∧ b ≤ 9) : ∃ ru, (∀ w, (Instr.index 150 (.agg rankFRow9) (.int .i64 b)).run Tryz.prog w = .ok ru w) ∧ ∀ w, Calls Tryz.prog 114 #[.agg #[.int .i64 t.rcd, .int .i64 t.rp, .int .i64 t.ras, .int .i64 t.rrds, .int .i64 t.rrdl, .int .i64 t.faw, .int .i64 t.ccds, .int .i64 t.ccdl, .int .i64 t.rtp, .int .i64 t.wr, .int .i64 t.wtrs, .int .i64 t.wtrl, .int .i64 t.rtw, .int .i64 t.rfc, .int .i64 t.cke, .int .i64 t.xp, .int .i64 t.xs], ru] w (Gives (.int .i64 (rankR t 9 b false)) w) := by
  rcases (show b = 1 ∨ b = 2 ∨ b = 3 ∨ b = 4 ∨ b = 5 ∨ b = 6 ∨ b = 7 ∨ b = 8 ∨ b = 9 by omega) with hb | hb | hb | hb | hb | hb | hb | hb | hb
  · subst hb; exact ⟨.func (.func 139) #[] #[], fun w => by kernel_rfl, fun w => by rw [show rankR t 9 1 false = t.xs from rfl]; exact dist_wakeToAny t h w⟩
  · subst hb; exact ⟨.func (.func 139) #[] #[], fun w => by kernel_rfl, fun w => by rw [show rankR t 9 2 false = t.xs from rfl]; exact dist_wakeToAny t h w⟩
  · subst hb; exact ⟨.func (.func 139) #[] #[], fun w => by kernel_rfl, fun w => by rw [show rankR t 9 3 false = t.xs from rfl]; exact dist_wakeToAny t h w⟩
  · subst hb; exact ⟨.func (.func 139) #[] #[], fun w => by kernel_rfl, fun w => by rw [show rankR t 9 4 false = t.xs from rfl]; exact dist_wakeToAny t h w⟩
  · subst hb; exact ⟨.func (.func 139) #[] #[], fun w => by kernel_rfl, fun w => by rw [show rankR t 9 5 false = t.xs from rfl]; exact dist_wakeToAny t h w⟩
  · subst hb; exact ⟨.func (.func 139) #[] #[], fun w => by kernel_rfl, fun w => by rw [show rankR t 9 6 false = t.xs from rfl]; exact dist_wakeToAny t h w⟩
  · subst hb; exact ⟨.func (.func 139) #[] #[], fun w => by kernel_rfl, fun w => by rw [show rankR t 9 7 false = t.xs from rfl]; exact dist_wakeToAny t h w⟩
  · subst hb; exact ⟨.func (.func 139) #[] #[], fun w => by kernel_rfl, fun w => by rw [show rankR t 9 8 false = t.xs from rfl]; exact dist_wakeToAny t h w⟩
  · subst hb; exact ⟨.func (.func 139) #[] #[], fun w => by kernel_rfl, fun w => by rw [show rankR t 9 9 false = t.xs from rfl]; exact dist_wakeToAny t h w⟩

theorem rankF_rule (t : Tm) (h : TimOk t) (a b : Int) (ha : 1 ≤ a ∧ a ≤ 9) (hb : 1 ≤ b ∧ b ≤ 9) : ∃ rv ru, (∀ w, (Instr.index 152 (.agg rankFCells) (.int .i64 a)).run Tryz.prog w = .ok rv w) ∧ (∀ w, (Instr.index 150 rv (.int .i64 b)).run Tryz.prog w = .ok ru w) ∧ ∀ w, Calls Tryz.prog 114 #[.agg #[.int .i64 t.rcd, .int .i64 t.rp, .int .i64 t.ras, .int .i64 t.rrds, .int .i64 t.rrdl, .int .i64 t.faw, .int .i64 t.ccds, .int .i64 t.ccdl, .int .i64 t.rtp, .int .i64 t.wr, .int .i64 t.wtrs, .int .i64 t.wtrl, .int .i64 t.rtw, .int .i64 t.rfc, .int .i64 t.cke, .int .i64 t.xp, .int .i64 t.xs], ru] w (Gives (.int .i64 (rankR t a b false)) w) := by
  rcases (show a = 1 ∨ a = 2 ∨ a = 3 ∨ a = 4 ∨ a = 5 ∨ a = 6 ∨ a = 7 ∨ a = 8 ∨ a = 9 by omega) with ha | ha | ha | ha | ha | ha | ha | ha | ha
  · subst ha; obtain ⟨ru, h1, h2⟩ := rankF_rule1 t h b hb; exact ⟨.agg rankFRow1, ru, rankF_ix1, h1, h2⟩
  · subst ha; obtain ⟨ru, h1, h2⟩ := rankF_rule2 t h b hb; exact ⟨.agg rankFRow2, ru, rankF_ix2, h1, h2⟩
  · subst ha; obtain ⟨ru, h1, h2⟩ := rankF_rule3 t h b hb; exact ⟨.agg rankFRow3, ru, rankF_ix3, h1, h2⟩
  · subst ha; obtain ⟨ru, h1, h2⟩ := rankF_rule4 t h b hb; exact ⟨.agg rankFRow4, ru, rankF_ix4, h1, h2⟩
  · subst ha; obtain ⟨ru, h1, h2⟩ := rankF_rule5 t h b hb; exact ⟨.agg rankFRow5, ru, rankF_ix5, h1, h2⟩
  · subst ha; obtain ⟨ru, h1, h2⟩ := rankF_rule6 t h b hb; exact ⟨.agg rankFRow6, ru, rankF_ix6, h1, h2⟩
  · subst ha; obtain ⟨ru, h1, h2⟩ := rankF_rule7 t h b hb; exact ⟨.agg rankFRow7, ru, rankF_ix7, h1, h2⟩
  · subst ha; obtain ⟨ru, h1, h2⟩ := rankF_rule8 t h b hb; exact ⟨.agg rankFRow8, ru, rankF_ix8, h1, h2⟩
  · subst ha; obtain ⟨ru, h1, h2⟩ := rankF_rule9 t h b hb; exact ⟨.agg rankFRow9, ru, rankF_ix9, h1, h2⟩

end Go.Proofs.YthplhjdfajhmpaaGreat
