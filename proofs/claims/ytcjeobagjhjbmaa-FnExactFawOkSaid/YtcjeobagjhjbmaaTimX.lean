/-
  The laws' own words on timings, and the walks of the exact statements.
-/
import Derived.Test.YtcjeobagjhjbmaaTimF
import Derived.Test.YtcjeobagjhjbmaaTimH
import Derived.Test.YtcjeobagjhjbmaaIntsT
namespace Go.Proofs.Ytcjeobagjhjbmaa
open Go.RowKit

set_option linter.unusedVariables false


theorem ld_ltm {ops : Array Oper} {rest : List Oper} {a : Act} {w : World} {Q : Exit → Act → World → Prop} {d : Tmp} {x : Operand} {y : TypeId} {p : String} {af : Array Edge} {gd : Option (Nat × Bool)} {c : Nat} {t : Tm} {ty : TypeId} {fr : Nat × Nat}
    (hw : Region.wanted ⟨some d, .load 42 x, y, p, af, gd⟩ (yielded ops a.tmps) = true) (hx : a.eval x = .pointer (some ⟨c, 0, none⟩)) (h : w.heap[c]? = some (.cells #[.int .i64 t.rcd, .int .i64 t.rp, .int .i64 t.ras, .int .i64 t.rrds, .int .i64 t.rrdl, .int .i64 t.faw, .int .i64 t.ccds, .int .i64 t.ccdl, .int .i64 t.rtp, .int .i64 t.wr, .int .i64 t.wtrs, .int .i64 t.wtrl, .int .i64 t.rtw, .int .i64 t.rfc, .int .i64 t.cke, .int .i64 t.xp, .int .i64 t.xs] ty fr))
    (k : wpList Try.prog ops Q rest (a.put (some d) (.agg #[.int .i64 t.rcd, .int .i64 t.rp, .int .i64 t.ras, .int .i64 t.rrds, .int .i64 t.rrdl, .int .i64 t.faw, .int .i64 t.ccds, .int .i64 t.ccdl, .int .i64 t.rtp, .int .i64 t.wr, .int .i64 t.wtrs, .int .i64 t.wtrl, .int .i64 t.rtw, .int .i64 t.rfc, .int .i64 t.cke, .int .i64 t.xp, .int .i64 t.xs])) w) : wpList Try.prog ops Q (⟨some d, .load 42 x, y, p, af, gd⟩ :: rest) a w :=
  load_list Try.underlying42 rfl (by kernel_rfl) hw hx h k

theorem ld_ltm_later {ops : Array Oper} {rest : List Oper} {a : Act} {w : World} {Q : Act → Prop} {d : Tmp} {x : Operand} {y : TypeId} {p : String} {af : Array Edge} {gd : Option (Nat × Bool)} {c : Nat} {t : Tm} {ty : TypeId} {fr : Nat × Nat}
    (hw : Region.wanted ⟨some d, .load 42 x, y, p, af, gd⟩ (yielded ops a.tmps) = true) (hx : a.eval x = .pointer (some ⟨c, 0, none⟩)) (h : w.heap[c]? = some (.cells #[.int .i64 t.rcd, .int .i64 t.rp, .int .i64 t.ras, .int .i64 t.rrds, .int .i64 t.rrdl, .int .i64 t.faw, .int .i64 t.ccds, .int .i64 t.ccdl, .int .i64 t.rtp, .int .i64 t.wr, .int .i64 t.wtrs, .int .i64 t.wtrl, .int .i64 t.rtw, .int .i64 t.rfc, .int .i64 t.cke, .int .i64 t.xp, .int .i64 t.xs] ty fr))
    (k : wpQuiet Try.prog ops (fun w' => ∃ z : Later w, w' = z.to) Q rest (a.put (some d) (.agg #[.int .i64 t.rcd, .int .i64 t.rp, .int .i64 t.ras, .int .i64 t.rrds, .int .i64 t.rrdl, .int .i64 t.faw, .int .i64 t.ccds, .int .i64 t.ccdl, .int .i64 t.rtp, .int .i64 t.wr, .int .i64 t.wtrs, .int .i64 t.wtrl, .int .i64 t.rtw, .int .i64 t.rfc, .int .i64 t.cke, .int .i64 t.xp, .int .i64 t.xs]))) : wpQuiet Try.prog ops (fun w' => ∃ z : Later w, w' = z.to) Q (⟨some d, .load 42 x, y, p, af, gd⟩ :: rest) a :=
  load_quiet Try.underlying42 rfl (by kernel_rfl) hw hx (fun _ ⟨z, hz⟩ => ⟨ty, fr, hz ▸ z.block h⟩) k



set_option maxHeartbeats 4000000 in
theorem toTiming_is (t : Tm) (w : World) : Calls Try.prog 25 #[.agg #[.int .i64 t.rcd, .int .i64 t.rp, .int .i64 t.ras, .int .i64 t.rrds, .int .i64 t.rrdl, .int .i64 t.faw, .int .i64 t.ccds, .int .i64 t.ccdl, .int .i64 t.rtp, .int .i64 t.wr, .int .i64 t.wtrs, .int .i64 t.wtrl, .int .i64 t.rtw, .int .i64 t.rfc, .int .i64 t.cke, .int .i64 t.xp, .int .i64 t.xs]] w (Gives (.agg #[.int .i64 t.rcd, .int .i64 t.rp, .int .i64 t.ras, .int .i64 t.rrds, .int .i64 t.rrdl, .int .i64 t.faw, .int .i64 t.ccds, .int .i64 t.ccdl, .int .i64 t.rtp, .int .i64 t.wr, .int .i64 t.wtrs, .int .i64 t.wtrl, .int .i64 t.rtw, .int .i64 t.rfc, .int .i64 t.cke, .int .i64 t.xp, .int .i64 t.xs]) w) := by
  have h3 := box3_2 w (.cells #[.int .i64 t.rcd, .int .i64 t.rp, .int .i64 t.ras, .int .i64 t.rrds, .int .i64 t.rrdl, .int .i64 t.faw, .int .i64 t.ccds, .int .i64 t.ccdl, .int .i64 t.rtp, .int .i64 t.wr, .int .i64 t.wtrs, .int .i64 t.wtrl, .int .i64 t.rtw, .int .i64 t.rfc, .int .i64 t.cke, .int .i64 t.xp, .int .i64 t.xs] 42) (.cells #[.int .i64 0, .int .i64 0, .int .i64 0, .int .i64 0, .int .i64 0, .int .i64 0, .int .i64 0, .int .i64 0, .int .i64 0, .int .i64 0, .int .i64 0, .int .i64 0, .int .i64 0, .int .i64 0, .int .i64 0, .int .i64 0, .int .i64 0] 25) (.cells #[.int .i64 t.rcd, .int .i64 t.rp, .int .i64 t.ras, .int .i64 t.rrds, .int .i64 t.rrdl, .int .i64 t.faw, .int .i64 t.ccds, .int .i64 t.ccdl, .int .i64 t.rtp, .int .i64 t.wr, .int .i64 t.wtrs, .int .i64 t.wtrl, .int .i64 t.rtw, .int .i64 t.rfc, .int .i64 t.cke, .int .i64 t.xp, .int .i64 t.xs] 25)
  have h2 := box3_1 w (.cells #[.int .i64 t.rcd, .int .i64 t.rp, .int .i64 t.ras, .int .i64 t.rrds, .int .i64 t.rrdl, .int .i64 t.faw, .int .i64 t.ccds, .int .i64 t.ccdl, .int .i64 t.rtp, .int .i64 t.wr, .int .i64 t.wtrs, .int .i64 t.wtrl, .int .i64 t.rtw, .int .i64 t.rfc, .int .i64 t.cke, .int .i64 t.xp, .int .i64 t.xs] 42) (.cells #[.int .i64 0, .int .i64 0, .int .i64 0, .int .i64 0, .int .i64 0, .int .i64 0, .int .i64 0, .int .i64 0, .int .i64 0, .int .i64 0, .int .i64 0, .int .i64 0, .int .i64 0, .int .i64 0, .int .i64 0, .int .i64 0, .int .i64 0] 25) (.cells #[.int .i64 t.rcd, .int .i64 t.rp, .int .i64 t.ras, .int .i64 t.rrds, .int .i64 t.rrdl, .int .i64 t.faw, .int .i64 t.ccds, .int .i64 t.ccdl, .int .i64 t.rtp, .int .i64 t.wr, .int .i64 t.wtrs, .int .i64 t.wtrl, .int .i64 t.rtw, .int .i64 t.rfc, .int .i64 t.cke, .int .i64 t.xp, .int .i64 t.xs] 25)
  go_enter Try.func25, Try.ntmps25
  go_wp2_with (first | (first | ((with_reducible refine ld_tm ?_ ?_ h3 ?_); kernel_rfl; kernel_rfl; go_simp)) | ((with_reducible refine store_list (cells := #[.int .i64 t.rcd, .int .i64 t.rp, .int .i64 t.ras, .int .i64 t.rrds, .int .i64 t.rrdl, .int .i64 t.faw, .int .i64 t.ccds, .int .i64 t.ccdl, .int .i64 t.rtp, .int .i64 t.wr, .int .i64 t.wtrs, .int .i64 t.wtrl, .int .i64 t.rtw, .int .i64 t.rfc, .int .i64 t.cke, .int .i64 t.xp, .int .i64 t.xs]) h2 ?_ ?_ ?_ ?_ ?_ ?_); kernel_rfl; kernel_rfl; kernel_rfl; kernel_rfl; kernel_rfl))
  have hr := setRow_same _ _ #[.int .i64 t.rcd, .int .i64 t.rp, .int .i64 t.ras, .int .i64 t.rrds, .int .i64 t.rrdl, .int .i64 t.faw, .int .i64 t.ccds, .int .i64 t.ccdl, .int .i64 t.rtp, .int .i64 t.wr, .int .i64 t.wtrs, .int .i64 t.wtrl, .int .i64 t.rtw, .int .i64 t.rfc, .int .i64 t.cke, .int .i64 t.xp, .int .i64 t.xs] _ _ h2
  refine bodyPost_ret (v := .agg #[.int .i64 t.rcd, .int .i64 t.rp, .int .i64 t.ras, .int .i64 t.rrds, .int .i64 t.rrdl, .int .i64 t.faw, .int .i64 t.ccds, .int .i64 t.ccdl, .int .i64 t.rtp, .int .i64 t.wr, .int .i64 t.wtrs, .int .i64 t.wtrl, .int .i64 t.rtw, .int .i64 t.rfc, .int .i64 t.cke, .int .i64 t.xp, .int .i64 t.xs]) (results_cell_row rfl _ _ (w.heap.size + 1) 25 #[.int .i64 t.rcd, .int .i64 t.rp, .int .i64 t.ras, .int .i64 t.rrds, .int .i64 t.rrdl, .int .i64 t.faw, .int .i64 t.ccds, .int .i64 t.ccdl, .int .i64 t.rtp, .int .i64 t.wr, .int .i64 t.wtrs, .int .i64 t.wtrl, .int .i64 t.rtw, .int .i64 t.rfc, .int .i64 t.cke, .int .i64 t.xp, .int .i64 t.xs] (0, 0) _ rfl hr Try.underlying25 rfl (by kernel_rfl)) rfl ⟨rfl, ?_⟩
  exact below_setRow ((((Below.refl _ _).alloc (by simp) _).alloc (by simp) _).alloc (by simp; omega) _) (by omega) _



set_option maxHeartbeats 4000000 in
theorem eqTiming_is (t : Tm) (w : World) : Calls Try.prog 26 #[.agg #[.int .i64 t.rcd, .int .i64 t.rp, .int .i64 t.ras, .int .i64 t.rrds, .int .i64 t.rrdl, .int .i64 t.faw, .int .i64 t.ccds, .int .i64 t.ccdl, .int .i64 t.rtp, .int .i64 t.wr, .int .i64 t.wtrs, .int .i64 t.wtrl, .int .i64 t.rtw, .int .i64 t.rfc, .int .i64 t.cke, .int .i64 t.xp, .int .i64 t.xs], .agg #[.int .i64 t.rcd, .int .i64 t.rp, .int .i64 t.ras, .int .i64 t.rrds, .int .i64 t.rrdl, .int .i64 t.faw, .int .i64 t.ccds, .int .i64 t.ccdl, .int .i64 t.rtp, .int .i64 t.wr, .int .i64 t.wtrs, .int .i64 t.wtrl, .int .i64 t.rtw, .int .i64 t.rfc, .int .i64 t.cke, .int .i64 t.xp, .int .i64 t.xs]] w (Gives (.bool true) w) := by
  obtain ⟨w1, hw1⟩ : ∃ u, (w.alloc (.cells #[.int .i64 t.rcd, .int .i64 t.rp, .int .i64 t.ras, .int .i64 t.rrds, .int .i64 t.rrdl, .int .i64 t.faw, .int .i64 t.ccds, .int .i64 t.ccdl, .int .i64 t.rtp, .int .i64 t.wr, .int .i64 t.wtrs, .int .i64 t.wtrl, .int .i64 t.rtw, .int .i64 t.rfc, .int .i64 t.cke, .int .i64 t.xp, .int .i64 t.xs] 25)).alloc (.cells #[.int .i64 t.rcd, .int .i64 t.rp, .int .i64 t.ras, .int .i64 t.rrds, .int .i64 t.rrdl, .int .i64 t.faw, .int .i64 t.ccds, .int .i64 t.ccdl, .int .i64 t.rtp, .int .i64 t.wr, .int .i64 t.wtrs, .int .i64 t.wtrl, .int .i64 t.rtw, .int .i64 t.rfc, .int .i64 t.cke, .int .i64 t.xp, .int .i64 t.xs] 25) = u := ⟨_, rfl⟩
  have HB1 : Hid (Below w.heap.size w w1) := by subst hw1; exact ((Below.refl _ _).alloc (by simp) _).alloc (by simp) _
  have p1 : w1.heap[w.heap.size]? = some (.cells #[.int .i64 t.rcd, .int .i64 t.rp, .int .i64 t.ras, .int .i64 t.rrds, .int .i64 t.rrdl, .int .i64 t.faw, .int .i64 t.ccds, .int .i64 t.ccdl, .int .i64 t.rtp, .int .i64 t.wr, .int .i64 t.wtrs, .int .i64 t.wtrl, .int .i64 t.rtw, .int .i64 t.rfc, .int .i64 t.cke, .int .i64 t.xp, .int .i64 t.xs] 25) := by subst hw1; exact heap_alloc2_old _ _ _
  have q1 : w1.heap[w.heap.size + 1]? = some (.cells #[.int .i64 t.rcd, .int .i64 t.rp, .int .i64 t.ras, .int .i64 t.rrds, .int .i64 t.rrdl, .int .i64 t.faw, .int .i64 t.ccds, .int .i64 t.ccdl, .int .i64 t.rtp, .int .i64 t.wr, .int .i64 t.wtrs, .int .i64 t.wtrl, .int .i64 t.rtw, .int .i64 t.rfc, .int .i64 t.cke, .int .i64 t.xp, .int .i64 t.xs] 25) := by subst hw1; exact heap_alloc2_new _ _ _
  obtain ⟨c0, c1, c2, c3, c4, c5, c6, c7, c8, c9, c10, c11, c12, c13, c14, c15, c16⟩ := tm_cells p1
  obtain ⟨d0, d1, d2, d3, d4, d5, d6, d7, d8, d9, d10, d11, d12, d13, d14, d15, d16⟩ := tm_cells q1
  clear p1 q1
  go_enter Try.func26, Try.ntmps26
  go_wp2
  go_ret
  exact ⟨rfl, HB1.out⟩



set_option maxHeartbeats 4000000 in
theorem exTimingOk_is (t : Tm) (w : World) : Calls Try.prog 6 #[.agg #[.int .i64 t.rcd, .int .i64 t.rp, .int .i64 t.ras, .int .i64 t.rrds, .int .i64 t.rrdl, .int .i64 t.faw, .int .i64 t.ccds, .int .i64 t.ccdl, .int .i64 t.rtp, .int .i64 t.wr, .int .i64 t.wtrs, .int .i64 t.wtrl, .int .i64 t.rtw, .int .i64 t.rfc, .int .i64 t.cke, .int .i64 t.xp, .int .i64 t.xs]] w fun e w' => e = .returned (.bool true) ∧ Below w.heap.size w w' := by
  obtain ⟨r, hr⟩ : ∃ r, decide (TimOk t) = r := ⟨_, rfl⟩
  have HR := Lib.hid hr
  clear hr
  obtain ⟨w1, hw1⟩ : ∃ u, w.alloc (.cells #[.int .i64 t.rcd, .int .i64 t.rp, .int .i64 t.ras, .int .i64 t.rrds, .int .i64 t.rrdl, .int .i64 t.faw, .int .i64 t.ccds, .int .i64 t.ccdl, .int .i64 t.rtp, .int .i64 t.wr, .int .i64 t.wtrs, .int .i64 t.wtrl, .int .i64 t.rtw, .int .i64 t.rfc, .int .i64 t.cke, .int .i64 t.xp, .int .i64 t.xs] 42) = u := ⟨_, rfl⟩
  have HB1 : Hid (Below w.heap.size w w1) := by subst hw1; exact (Below.refl _ _).alloc (Nat.le_refl _) _
  have p1 : w1.heap[w.heap.size]? = some (.cells #[.int .i64 t.rcd, .int .i64 t.rp, .int .i64 t.ras, .int .i64 t.rrds, .int .i64 t.rrdl, .int .i64 t.faw, .int .i64 t.ccds, .int .i64 t.ccdl, .int .i64 t.rtp, .int .i64 t.wr, .int .i64 t.wtrs, .int .i64 t.wtrl, .int .i64 t.rtw, .int .i64 t.rfc, .int .i64 t.cke, .int .i64 t.xp, .int .i64 t.xs] 42) := by subst hw1; exact heap_alloc_new _ _
  go_enter Try.func6, Try.ntmps6
  go_wp2_with (first | ((with_reducible refine ld_ltm ?_ ?_ p1 ?_); kernel_rfl; kernel_rfl; go_simp))
  refine (toTiming_is t _).mono ?_
  rintro e w2 ⟨rfl, hb2⟩
  have p2 := keep_block hb2 p1 (lt_of_block p1)
  have HB2 : Hid (Below w.heap.size w w2) := HB1.out.trans (hb2.mono HB1.out.size)
  clear hb2 p1 HB1
  go_wp2_with fail
  refine (specTimOk_is t _ HR.out _).mono ?_
  rintro e w3 ⟨rfl, hb3⟩
  have p3 := keep_block hb3 p2 (lt_of_block p2)
  have HB3 : Hid (Below w.heap.size w w3) := HB2.out.trans (hb3.mono HB2.out.size)
  clear hb3 p2 HB2
  go_wp2_with (first | ((with_reducible refine ld_ltm ?_ ?_ p3 ?_); kernel_rfl; kernel_rfl; go_simp))
  refine (toTiming_is t _).mono ?_
  rintro e w4 ⟨rfl, hb4⟩
  have p4 := keep_block hb4 p3 (lt_of_block p3)
  have HB4 : Hid (Below w.heap.size w w4) := HB3.out.trans (hb4.mono HB3.out.size)
  clear hb4 p3 HB3
  go_wp2_with fail
  refine (implTimOk_is t _ HR.out _).mono ?_
  rintro e w5 ⟨rfl, hb5⟩
  have p5 := keep_block hb5 p4 (lt_of_block p4)
  have HB5 : Hid (Below w.heap.size w w5) := HB4.out.trans (hb5.mono HB4.out.size)
  clear hb5 p4 HB4
  have hrr : (r != r) = false := by simp
  go_wp2
  go_ret
  exact ⟨rfl, HB5.out⟩



set_option maxHeartbeats 4000000 in
theorem exBankGap_is (t : Tm) (a b : Int) (w : World) : Calls Try.prog 8 #[.agg #[.int .i64 t.rcd, .int .i64 t.rp, .int .i64 t.ras, .int .i64 t.rrds, .int .i64 t.rrdl, .int .i64 t.faw, .int .i64 t.ccds, .int .i64 t.ccdl, .int .i64 t.rtp, .int .i64 t.wr, .int .i64 t.wtrs, .int .i64 t.wtrl, .int .i64 t.rtw, .int .i64 t.rfc, .int .i64 t.cke, .int .i64 t.xp, .int .i64 t.xs], .int .i64 a, .int .i64 b] w fun e w' => e = .returned (.bool true) ∧ Below w.heap.size w w' := by
  obtain ⟨r, hr⟩ : ∃ r, bankG t a b = r := ⟨_, rfl⟩
  have HR := Lib.hid hr
  clear hr
  obtain ⟨w1, hw1⟩ : ∃ u, w.alloc (.cells #[.int .i64 t.rcd, .int .i64 t.rp, .int .i64 t.ras, .int .i64 t.rrds, .int .i64 t.rrdl, .int .i64 t.faw, .int .i64 t.ccds, .int .i64 t.ccdl, .int .i64 t.rtp, .int .i64 t.wr, .int .i64 t.wtrs, .int .i64 t.wtrl, .int .i64 t.rtw, .int .i64 t.rfc, .int .i64 t.cke, .int .i64 t.xp, .int .i64 t.xs] 42) = u := ⟨_, rfl⟩
  have HB1 : Hid (Below w.heap.size w w1) := by subst hw1; exact (Below.refl _ _).alloc (Nat.le_refl _) _
  have p1 : w1.heap[w.heap.size]? = some (.cells #[.int .i64 t.rcd, .int .i64 t.rp, .int .i64 t.ras, .int .i64 t.rrds, .int .i64 t.rrdl, .int .i64 t.faw, .int .i64 t.ccds, .int .i64 t.ccdl, .int .i64 t.rtp, .int .i64 t.wr, .int .i64 t.wtrs, .int .i64 t.wtrl, .int .i64 t.rtw, .int .i64 t.rfc, .int .i64 t.cke, .int .i64 t.xp, .int .i64 t.xs] 42) := by subst hw1; exact heap_alloc_new _ _
  go_enter Try.func8, Try.ntmps8
  go_wp2_with (first | ((with_reducible refine ld_ltm ?_ ?_ p1 ?_); kernel_rfl; kernel_rfl; go_simp))
  refine (toTiming_is t _).mono ?_
  rintro e w2 ⟨rfl, hb2⟩
  have p2 := keep_block hb2 p1 (lt_of_block p1)
  have HB2 : Hid (Below w.heap.size w w2) := HB1.out.trans (hb2.mono HB1.out.size)
  clear hb2 p1 HB1
  go_wp2_with fail
  refine (specBankGap_is t _ _ _ HR.out _).mono ?_
  rintro e w3 ⟨rfl, hb3⟩
  have p3 := keep_block hb3 p2 (lt_of_block p2)
  have HB3 : Hid (Below w.heap.size w w3) := HB2.out.trans (hb3.mono HB2.out.size)
  clear hb3 p2 HB2
  go_wp2_with (first | ((with_reducible refine ld_ltm ?_ ?_ p3 ?_); kernel_rfl; kernel_rfl; go_simp))
  refine (toTiming_is t _).mono ?_
  rintro e w4 ⟨rfl, hb4⟩
  have p4 := keep_block hb4 p3 (lt_of_block p3)
  have HB4 : Hid (Below w.heap.size w w4) := HB3.out.trans (hb4.mono HB3.out.size)
  clear hb4 p3 HB3
  go_wp2_with fail
  refine (implBankGap_is t _ _ _ HR.out _).mono ?_
  rintro e w5 ⟨rfl, hb5⟩
  have p5 := keep_block hb5 p4 (lt_of_block p4)
  have HB5 : Hid (Below w.heap.size w w5) := HB4.out.trans (hb5.mono HB4.out.size)
  clear hb5 p4 HB4
  have hrr : (r != r) = false := by simp
  go_wp2
  go_ret
  exact ⟨rfl, HB5.out⟩



set_option maxHeartbeats 4000000 in
theorem exRankGap_is (t : Tm) (a b : Int) (n : Bool) (w : World) : Calls Try.prog 9 #[.agg #[.int .i64 t.rcd, .int .i64 t.rp, .int .i64 t.ras, .int .i64 t.rrds, .int .i64 t.rrdl, .int .i64 t.faw, .int .i64 t.ccds, .int .i64 t.ccdl, .int .i64 t.rtp, .int .i64 t.wr, .int .i64 t.wtrs, .int .i64 t.wtrl, .int .i64 t.rtw, .int .i64 t.rfc, .int .i64 t.cke, .int .i64 t.xp, .int .i64 t.xs], .int .i64 a, .int .i64 b, .bool n] w fun e w' => e = .returned (.bool true) ∧ Below w.heap.size w w' := by
  obtain ⟨r, hr⟩ : ∃ r, rankG t a b n = r := ⟨_, rfl⟩
  have HR := Lib.hid hr
  clear hr
  obtain ⟨w1, hw1⟩ : ∃ u, w.alloc (.cells #[.int .i64 t.rcd, .int .i64 t.rp, .int .i64 t.ras, .int .i64 t.rrds, .int .i64 t.rrdl, .int .i64 t.faw, .int .i64 t.ccds, .int .i64 t.ccdl, .int .i64 t.rtp, .int .i64 t.wr, .int .i64 t.wtrs, .int .i64 t.wtrl, .int .i64 t.rtw, .int .i64 t.rfc, .int .i64 t.cke, .int .i64 t.xp, .int .i64 t.xs] 42) = u := ⟨_, rfl⟩
  have HB1 : Hid (Below w.heap.size w w1) := by subst hw1; exact (Below.refl _ _).alloc (Nat.le_refl _) _
  have p1 : w1.heap[w.heap.size]? = some (.cells #[.int .i64 t.rcd, .int .i64 t.rp, .int .i64 t.ras, .int .i64 t.rrds, .int .i64 t.rrdl, .int .i64 t.faw, .int .i64 t.ccds, .int .i64 t.ccdl, .int .i64 t.rtp, .int .i64 t.wr, .int .i64 t.wtrs, .int .i64 t.wtrl, .int .i64 t.rtw, .int .i64 t.rfc, .int .i64 t.cke, .int .i64 t.xp, .int .i64 t.xs] 42) := by subst hw1; exact heap_alloc_new _ _
  go_enter Try.func9, Try.ntmps9
  go_wp2_with (first | ((with_reducible refine ld_ltm ?_ ?_ p1 ?_); kernel_rfl; kernel_rfl; go_simp))
  refine (toTiming_is t _).mono ?_
  rintro e w2 ⟨rfl, hb2⟩
  have p2 := keep_block hb2 p1 (lt_of_block p1)
  have HB2 : Hid (Below w.heap.size w w2) := HB1.out.trans (hb2.mono HB1.out.size)
  clear hb2 p1 HB1
  go_wp2_with fail
  refine (specRankGap_is t _ _ _ _ HR.out _).mono ?_
  rintro e w3 ⟨rfl, hb3⟩
  have p3 := keep_block hb3 p2 (lt_of_block p2)
  have HB3 : Hid (Below w.heap.size w w3) := HB2.out.trans (hb3.mono HB2.out.size)
  clear hb3 p2 HB2
  go_wp2_with (first | ((with_reducible refine ld_ltm ?_ ?_ p3 ?_); kernel_rfl; kernel_rfl; go_simp))
  refine (toTiming_is t _).mono ?_
  rintro e w4 ⟨rfl, hb4⟩
  have p4 := keep_block hb4 p3 (lt_of_block p3)
  have HB4 : Hid (Below w.heap.size w w4) := HB3.out.trans (hb4.mono HB3.out.size)
  clear hb4 p3 HB3
  go_wp2_with fail
  refine (implRankGap_is t _ _ _ _ HR.out _).mono ?_
  rintro e w5 ⟨rfl, hb5⟩
  have p5 := keep_block hb5 p4 (lt_of_block p4)
  have HB5 : Hid (Below w.heap.size w w5) := HB4.out.trans (hb5.mono HB4.out.size)
  clear hb5 p4 HB4
  have hrr : (r != r) = false := by simp
  go_wp2
  go_ret
  exact ⟨rfl, HB5.out⟩



theorem specFast_t (w : World) : Calls Try.prog 23 #[] w (Gives (.agg #[.int .i64 fastT.rcd, .int .i64 fastT.rp, .int .i64 fastT.ras, .int .i64 fastT.rrds, .int .i64 fastT.rrdl, .int .i64 fastT.faw, .int .i64 fastT.ccds, .int .i64 fastT.ccdl, .int .i64 fastT.rtp, .int .i64 fastT.wr, .int .i64 fastT.wtrs, .int .i64 fastT.wtrl, .int .i64 fastT.rtw, .int .i64 fastT.rfc, .int .i64 fastT.cke, .int .i64 fastT.xp, .int .i64 fastT.xs]) w) := specFast_is w

theorem implFast_t (w : World) : Calls Try.prog 17 #[] w (Gives (.agg #[.int .i64 fastT.rcd, .int .i64 fastT.rp, .int .i64 fastT.ras, .int .i64 fastT.rrds, .int .i64 fastT.rrdl, .int .i64 fastT.faw, .int .i64 fastT.ccds, .int .i64 fastT.ccdl, .int .i64 fastT.rtp, .int .i64 fastT.wr, .int .i64 fastT.wtrs, .int .i64 fastT.wtrl, .int .i64 fastT.rtw, .int .i64 fastT.rfc, .int .i64 fastT.cke, .int .i64 fastT.xp, .int .i64 fastT.xs]) w) := implFast_is w

set_option maxHeartbeats 4000000 in
theorem exFastTiming_is (w : World) : Calls Try.prog 7 #[] w fun e w' => e = .returned (.bool true) ∧ Below w.heap.size w w' := by
  have SPEC := Lib.hid specFast_t
  have IMPL := Lib.hid implFast_t
  obtain ⟨t, ht⟩ : ∃ t, fastT = t := ⟨_, rfl⟩
  rw [ht] at SPEC IMPL
  clear ht
  go_enter Try.func7, Try.ntmps7
  go_wp2_with fail
  refine (SPEC.out _).mono ?_
  rintro e w1 ⟨rfl, hb1⟩
  have hn := heap_alloc_new w1 (.cells #[.int .i64 0, .int .i64 0, .int .i64 0, .int .i64 0, .int .i64 0, .int .i64 0, .int .i64 0, .int .i64 0, .int .i64 0, .int .i64 0, .int .i64 0, .int .i64 0, .int .i64 0, .int .i64 0, .int .i64 0, .int .i64 0, .int .i64 0] 25)
  have HB1 : Hid (Below w.heap.size w w1) := hb1
  clear hb1
  go_wp2_with ((with_reducible refine store_list (cells := #[.int .i64 t.rcd, .int .i64 t.rp, .int .i64 t.ras, .int .i64 t.rrds, .int .i64 t.rrdl, .int .i64 t.faw, .int .i64 t.ccds, .int .i64 t.ccdl, .int .i64 t.rtp, .int .i64 t.wr, .int .i64 t.wtrs, .int .i64 t.wtrl, .int .i64 t.rtw, .int .i64 t.rfc, .int .i64 t.cke, .int .i64 t.xp, .int .i64 t.xs]) hn ?_ ?_ ?_ ?_ ?_ ?_); kernel_rfl; kernel_rfl; kernel_rfl; kernel_rfl; kernel_rfl)
  have p2 := setRow_same _ _ #[.int .i64 t.rcd, .int .i64 t.rp, .int .i64 t.ras, .int .i64 t.rrds, .int .i64 t.rrdl, .int .i64 t.faw, .int .i64 t.ccds, .int .i64 t.ccdl, .int .i64 t.rtp, .int .i64 t.wr, .int .i64 t.wtrs, .int .i64 t.wtrl, .int .i64 t.rtw, .int .i64 t.rfc, .int .i64 t.cke, .int .i64 t.xp, .int .i64 t.xs] _ _ hn
  have HB2 : Hid (Below w.heap.size w ((w1.alloc (.cells #[.int .i64 0, .int .i64 0, .int .i64 0, .int .i64 0, .int .i64 0, .int .i64 0, .int .i64 0, .int .i64 0, .int .i64 0, .int .i64 0, .int .i64 0, .int .i64 0, .int .i64 0, .int .i64 0, .int .i64 0, .int .i64 0, .int .i64 0] 25)).setRow w1.heap.size #[.int .i64 t.rcd, .int .i64 t.rp, .int .i64 t.ras, .int .i64 t.rrds, .int .i64 t.rrdl, .int .i64 t.faw, .int .i64 t.ccds, .int .i64 t.ccdl, .int .i64 t.rtp, .int .i64 t.wr, .int .i64 t.wtrs, .int .i64 t.wtrl, .int .i64 t.rtw, .int .i64 t.rfc, .int .i64 t.cke, .int .i64 t.xp, .int .i64 t.xs])) := below_setRow (HB1.out.alloc HB1.out.size _) HB1.out.size _
  generalize ((w1.alloc (.cells #[.int .i64 0, .int .i64 0, .int .i64 0, .int .i64 0, .int .i64 0, .int .i64 0, .int .i64 0, .int .i64 0, .int .i64 0, .int .i64 0, .int .i64 0, .int .i64 0, .int .i64 0, .int .i64 0, .int .i64 0, .int .i64 0, .int .i64 0] 25)).setRow w1.heap.size #[.int .i64 t.rcd, .int .i64 t.rp, .int .i64 t.ras, .int .i64 t.rrds, .int .i64 t.rrdl, .int .i64 t.faw, .int .i64 t.ccds, .int .i64 t.ccdl, .int .i64 t.rtp, .int .i64 t.wr, .int .i64 t.wtrs, .int .i64 t.wtrl, .int .i64 t.rtw, .int .i64 t.rfc, .int .i64 t.cke, .int .i64 t.xp, .int .i64 t.xs]) = w2 at p2 HB2 ⊢
  clear hn
  refine (IMPL.out _).mono ?_
  rintro e w3 ⟨rfl, hb3⟩
  have p3 := keep_block hb3 p2 (lt_of_block p2)
  have HB3 : Hid (Below w.heap.size w w3) := HB2.out.trans (hb3.mono HB2.out.size)
  have hn := heap_alloc_new w3 (.cells #[.int .i64 0, .int .i64 0, .int .i64 0, .int .i64 0, .int .i64 0, .int .i64 0, .int .i64 0, .int .i64 0, .int .i64 0, .int .i64 0, .int .i64 0, .int .i64 0, .int .i64 0, .int .i64 0, .int .i64 0, .int .i64 0, .int .i64 0] 25)
  clear hb3 p2 HB2
  have q4 : ((w3.alloc (.cells #[.int .i64 0, .int .i64 0, .int .i64 0, .int .i64 0, .int .i64 0, .int .i64 0, .int .i64 0, .int .i64 0, .int .i64 0, .int .i64 0, .int .i64 0, .int .i64 0, .int .i64 0, .int .i64 0, .int .i64 0, .int .i64 0, .int .i64 0] 25)).setRow w3.heap.size #[.int .i64 t.rcd, .int .i64 t.rp, .int .i64 t.ras, .int .i64 t.rrds, .int .i64 t.rrdl, .int .i64 t.faw, .int .i64 t.ccds, .int .i64 t.ccdl, .int .i64 t.rtp, .int .i64 t.wr, .int .i64 t.wtrs, .int .i64 t.wtrl, .int .i64 t.rtw, .int .i64 t.rfc, .int .i64 t.cke, .int .i64 t.xp, .int .i64 t.xs]).heap[w3.heap.size]? = some (.cells #[.int .i64 t.rcd, .int .i64 t.rp, .int .i64 t.ras, .int .i64 t.rrds, .int .i64 t.rrdl, .int .i64 t.faw, .int .i64 t.ccds, .int .i64 t.ccdl, .int .i64 t.rtp, .int .i64 t.wr, .int .i64 t.wtrs, .int .i64 t.wtrl, .int .i64 t.rtw, .int .i64 t.rfc, .int .i64 t.cke, .int .i64 t.xp, .int .i64 t.xs] 25) := setRow_same _ _ #[.int .i64 t.rcd, .int .i64 t.rp, .int .i64 t.ras, .int .i64 t.rrds, .int .i64 t.rrdl, .int .i64 t.faw, .int .i64 t.ccds, .int .i64 t.ccdl, .int .i64 t.rtp, .int .i64 t.wr, .int .i64 t.wtrs, .int .i64 t.wtrl, .int .i64 t.rtw, .int .i64 t.rfc, .int .i64 t.cke, .int .i64 t.xp, .int .i64 t.xs] _ _ hn
  have p4 : ((w3.alloc (.cells #[.int .i64 0, .int .i64 0, .int .i64 0, .int .i64 0, .int .i64 0, .int .i64 0, .int .i64 0, .int .i64 0, .int .i64 0, .int .i64 0, .int .i64 0, .int .i64 0, .int .i64 0, .int .i64 0, .int .i64 0, .int .i64 0, .int .i64 0] 25)).setRow w3.heap.size #[.int .i64 t.rcd, .int .i64 t.rp, .int .i64 t.ras, .int .i64 t.rrds, .int .i64 t.rrdl, .int .i64 t.faw, .int .i64 t.ccds, .int .i64 t.ccdl, .int .i64 t.rtp, .int .i64 t.wr, .int .i64 t.wtrs, .int .i64 t.wtrl, .int .i64 t.rtw, .int .i64 t.rfc, .int .i64 t.cke, .int .i64 t.xp, .int .i64 t.xs]).heap[w1.heap.size]? = some (.cells #[.int .i64 t.rcd, .int .i64 t.rp, .int .i64 t.ras, .int .i64 t.rrds, .int .i64 t.rrdl, .int .i64 t.faw, .int .i64 t.ccds, .int .i64 t.ccdl, .int .i64 t.rtp, .int .i64 t.wr, .int .i64 t.wtrs, .int .i64 t.wtrl, .int .i64 t.rtw, .int .i64 t.rfc, .int .i64 t.cke, .int .i64 t.xp, .int .i64 t.xs] 25) := by rw [setRow_other _ _ _ _ (Nat.ne_of_lt (lt_of_block p3)), Below.heap_alloc _ _ _ (lt_of_block p3)]; exact p3
  have HB4 : Hid (Below w.heap.size w ((w3.alloc (.cells #[.int .i64 0, .int .i64 0, .int .i64 0, .int .i64 0, .int .i64 0, .int .i64 0, .int .i64 0, .int .i64 0, .int .i64 0, .int .i64 0, .int .i64 0, .int .i64 0, .int .i64 0, .int .i64 0, .int .i64 0, .int .i64 0, .int .i64 0] 25)).setRow w3.heap.size #[.int .i64 t.rcd, .int .i64 t.rp, .int .i64 t.ras, .int .i64 t.rrds, .int .i64 t.rrdl, .int .i64 t.faw, .int .i64 t.ccds, .int .i64 t.ccdl, .int .i64 t.rtp, .int .i64 t.wr, .int .i64 t.wtrs, .int .i64 t.wtrl, .int .i64 t.rtw, .int .i64 t.rfc, .int .i64 t.cke, .int .i64 t.xp, .int .i64 t.xs])) := below_setRow (HB3.out.alloc HB3.out.size _) HB3.out.size _
  go_wp2_with (first | ((with_reducible refine store_list (cells := #[.int .i64 t.rcd, .int .i64 t.rp, .int .i64 t.ras, .int .i64 t.rrds, .int .i64 t.rrdl, .int .i64 t.faw, .int .i64 t.ccds, .int .i64 t.ccdl, .int .i64 t.rtp, .int .i64 t.wr, .int .i64 t.wtrs, .int .i64 t.wtrl, .int .i64 t.rtw, .int .i64 t.rfc, .int .i64 t.cke, .int .i64 t.xp, .int .i64 t.xs]) hn ?_ ?_ ?_ ?_ ?_ ?_); kernel_rfl; kernel_rfl; kernel_rfl; kernel_rfl; kernel_rfl) | (first | ((with_reducible refine ld_tm ?_ ?_ q4 ?_); kernel_rfl; exact rfl; go_simp)) | (first | ((with_reducible refine ld_tm ?_ ?_ p4 ?_); kernel_rfl; exact rfl; go_simp)))
  refine (eqTiming_is t _).mono ?_
  rintro e w5 ⟨rfl, hb5⟩
  have HB5 : Hid (Below w.heap.size w w5) := HB4.out.trans (hb5.mono HB4.out.size)
  clear hb5
  go_wp2
  go_ret
  exact ⟨rfl, HB5.out⟩



set_option maxHeartbeats 8000000 in
theorem exGap_is (t : Tm) (g0 B g2 g3 ka xa ya za kb xb yb zb : Int) (w : World) : Calls Try.prog 10 #[.agg #[.int .i64 g0, .int .i64 B, .int .i64 g2, .int .i64 g3], .agg #[.int .i64 t.rcd, .int .i64 t.rp, .int .i64 t.ras, .int .i64 t.rrds, .int .i64 t.rrdl, .int .i64 t.faw, .int .i64 t.ccds, .int .i64 t.ccdl, .int .i64 t.rtp, .int .i64 t.wr, .int .i64 t.wtrs, .int .i64 t.wtrl, .int .i64 t.rtw, .int .i64 t.rfc, .int .i64 t.cke, .int .i64 t.xp, .int .i64 t.xs], .agg #[.int .i64 ka, .int .i64 xa, .int .i64 ya, .int .i64 za], .agg #[.int .i64 kb, .int .i64 xb, .int .i64 yb, .int .i64 zb]] w fun e w' => e = .returned (.bool true) ∧ Below w.heap.size w w' := by
  obtain ⟨r, hr⟩ : ∃ r, gapG t g0 B g2 g3 ka xa ya za kb xb yb zb = r := ⟨_, rfl⟩
  have HR := Lib.hid hr
  clear hr
  obtain ⟨w1, hw1⟩ : ∃ u, (((w.alloc (.cells #[.int .i64 g0, .int .i64 B, .int .i64 g2, .int .i64 g3] 49)).alloc (.cells #[.int .i64 t.rcd, .int .i64 t.rp, .int .i64 t.ras, .int .i64 t.rrds, .int .i64 t.rrdl, .int .i64 t.faw, .int .i64 t.ccds, .int .i64 t.ccdl, .int .i64 t.rtp, .int .i64 t.wr, .int .i64 t.wtrs, .int .i64 t.wtrl, .int .i64 t.rtw, .int .i64 t.rfc, .int .i64 t.cke, .int .i64 t.xp, .int .i64 t.xs] 42)).alloc (.cells #[.int .i64 ka, .int .i64 xa, .int .i64 ya, .int .i64 za] 50)).alloc (.cells #[.int .i64 kb, .int .i64 xb, .int .i64 yb, .int .i64 zb] 50) = u := ⟨_, rfl⟩
  have HB1 : Hid (Below w.heap.size w w1) := by subst hw1; exact ((((Below.refl _ _).alloc (by simp) _).alloc (by simp) _).alloc (by simp; omega) _).alloc (by simp; omega) _
  have g1 : w1.heap[w.heap.size]? = some (.cells #[.int .i64 g0, .int .i64 B, .int .i64 g2, .int .i64 g3] 49) := by subst hw1; exact box4_0 _ _ _ _ _
  have p1 : w1.heap[w.heap.size + 1]? = some (.cells #[.int .i64 t.rcd, .int .i64 t.rp, .int .i64 t.ras, .int .i64 t.rrds, .int .i64 t.rrdl, .int .i64 t.faw, .int .i64 t.ccds, .int .i64 t.ccdl, .int .i64 t.rtp, .int .i64 t.wr, .int .i64 t.wtrs, .int .i64 t.wtrl, .int .i64 t.rtw, .int .i64 t.rfc, .int .i64 t.cke, .int .i64 t.xp, .int .i64 t.xs] 42) := by subst hw1; exact box4_1 _ _ _ _ _
  have a1 : w1.heap[w.heap.size + 1 + 1]? = some (.cells #[.int .i64 ka, .int .i64 xa, .int .i64 ya, .int .i64 za] 50) := by subst hw1; exact box4_2 _ _ _ _ _
  have b1 : w1.heap[w.heap.size + 1 + 1 + 1]? = some (.cells #[.int .i64 kb, .int .i64 xb, .int .i64 yb, .int .i64 zb] 50) := by subst hw1; exact box4_3 _ _ _ _ _
  go_enter Try.func10, Try.ntmps10
  obtain ⟨x0, x1, x2, x3⟩ := cells4 g1
  obtain ⟨y0, y1, y2, y3⟩ := cells4 a1
  obtain ⟨z0, z1, z2, z3⟩ := cells4 b1
  have zzx0 := fun q : Later w1 => q.cell x0
  have zzx1 := fun q : Later w1 => q.cell x1
  have zzx2 := fun q : Later w1 => q.cell x2
  have zzx3 := fun q : Later w1 => q.cell x3
  have zzy0 := fun q : Later w1 => q.cell y0
  have zzy1 := fun q : Later w1 => q.cell y1
  have zzy2 := fun q : Later w1 => q.cell y2
  have zzy3 := fun q : Later w1 => q.cell y3
  have zzz0 := fun q : Later w1 => q.cell z0
  have zzz1 := fun q : Later w1 => q.cell z1
  have zzz2 := fun q : Later w1 => q.cell z2
  have zzz3 := fun q : Later w1 => q.cell z3
  clear x0 x1 x2 x3 y0 y1 y2 y3 z0 z1 z2 z3
  go_wp2_with fail
  refine wp_region_later (by kernel_rfl) (by kernel_rfl) ?_
  repeat (first | ((with_reducible refine ld_ltm_later ?_ ?_ p1 ?_); kernel_rfl; kernel_rfl; go_simp) | go_big_quiet_step (first | (go_at_call 30; exact Gives.later _ (toGeometry_any _ _ _ _ _)) | (go_at_call 25; exact Gives.later _ (toTiming_is t _)) | (go_at_call 31; exact Gives.later _ (toCommand_any _ _ _ _ _)) | (go_at_call 29; exact Gives.later _ (specGap_is t _ _ _ _ _ _ _ _ _ _ _ _ _ HR.out _))))
  refine wpQuiet_nil ?_
  intro zz
  have HB2 : Hid (Below w.heap.size w zz.to) := HB1.out.trans (zz.ok.mono HB1.out.size)
  have g2 := zz.block g1
  have p2 := zz.block p1
  have a2 := zz.block a1
  have b2 := zz.block b1
  obtain ⟨w2, hz⟩ : ∃ u, zz.to = u := ⟨_, rfl⟩
  rw [hz] at HB2 g2 p2 a2 b2
  (try simp only [hz])
  clear hz zz HB1 g1 p1 a1 b1 zzx0 zzx1 zzx2 zzx3 zzy0 zzy1 zzy2 zzy3 zzz0 zzz1 zzz2 zzz3
  obtain ⟨x0, x1, x2, x3⟩ := cells4 g2
  obtain ⟨y0, y1, y2, y3⟩ := cells4 a2
  obtain ⟨z0, z1, z2, z3⟩ := cells4 b2
  have zzx0 := fun q : Later w2 => q.cell x0
  have zzx1 := fun q : Later w2 => q.cell x1
  have zzx2 := fun q : Later w2 => q.cell x2
  have zzx3 := fun q : Later w2 => q.cell x3
  have zzy0 := fun q : Later w2 => q.cell y0
  have zzy1 := fun q : Later w2 => q.cell y1
  have zzy2 := fun q : Later w2 => q.cell y2
  have zzy3 := fun q : Later w2 => q.cell y3
  have zzz0 := fun q : Later w2 => q.cell z0
  have zzz1 := fun q : Later w2 => q.cell z1
  have zzz2 := fun q : Later w2 => q.cell z2
  have zzz3 := fun q : Later w2 => q.cell z3
  clear x0 x1 x2 x3 y0 y1 y2 y3 z0 z1 z2 z3
  go_wp2_with fail
  refine wp_region_later (by kernel_rfl) (by kernel_rfl) ?_
  repeat (first | ((with_reducible refine ld_ltm_later ?_ ?_ p2 ?_); kernel_rfl; kernel_rfl; go_simp) | go_big_quiet_step (first | (go_at_call 30; exact Gives.later _ (toGeometry_any _ _ _ _ _)) | (go_at_call 25; exact Gives.later _ (toTiming_is t _)) | (go_at_call 31; exact Gives.later _ (toCommand_any _ _ _ _ _)) | (go_at_call 21; exact Gives.later _ (implGap_is t _ _ _ _ _ _ _ _ _ _ _ _ _ HR.out _))))
  refine wpQuiet_nil ?_
  intro zz
  have HB3 : Hid (Below w.heap.size w zz.to) := HB2.out.trans (zz.ok.mono HB2.out.size)
  have g3 := zz.block g2
  have p3 := zz.block p2
  have a3 := zz.block a2
  have b3 := zz.block b2
  obtain ⟨w3, hz⟩ : ∃ u, zz.to = u := ⟨_, rfl⟩
  rw [hz] at HB3 g3 p3 a3 b3
  (try simp only [hz])
  clear hz zz HB2 g2 p2 a2 b2 zzx0 zzx1 zzx2 zzx3 zzy0 zzy1 zzy2 zzy3 zzz0 zzz1 zzz2 zzz3
  have hrr : (r != r) = false := by simp
  go_wp2
  go_ret
  exact ⟨rfl, HB3.out⟩



set_option maxHeartbeats 8000000 in
theorem exFawOk_is (t : Tm) (a : Option Addr) (n c : Nat) (l : List Int) (hn : l.length = n) (w : World) (hr : RowI w a l) : Calls Try.prog 11 #[.agg #[.int .i64 t.rcd, .int .i64 t.rp, .int .i64 t.ras, .int .i64 t.rrds, .int .i64 t.rrdl, .int .i64 t.faw, .int .i64 t.ccds, .int .i64 t.ccdl, .int .i64 t.rtp, .int .i64 t.wr, .int .i64 t.wtrs, .int .i64 t.wtrl, .int .i64 t.rtw, .int .i64 t.rfc, .int .i64 t.cke, .int .i64 t.xp, .int .i64 t.xs], .slice a n c] w fun e w' => e = .returned (.bool true) ∧ Below w.heap.size w w' := by
  have HN := Lib.hid hn
  obtain ⟨w1, hw1⟩ : ∃ u, w.alloc (.cells #[.int .i64 t.rcd, .int .i64 t.rp, .int .i64 t.ras, .int .i64 t.rrds, .int .i64 t.rrdl, .int .i64 t.faw, .int .i64 t.ccds, .int .i64 t.ccdl, .int .i64 t.rtp, .int .i64 t.wr, .int .i64 t.wtrs, .int .i64 t.wtrl, .int .i64 t.rtw, .int .i64 t.rfc, .int .i64 t.cke, .int .i64 t.xp, .int .i64 t.xs] 42) = u := ⟨_, rfl⟩
  have HB1 : Hid (Below w.heap.size w w1) := by subst hw1; exact (Below.refl _ _).alloc (Nat.le_refl _) _
  have p1 : w1.heap[w.heap.size]? = some (.cells #[.int .i64 t.rcd, .int .i64 t.rp, .int .i64 t.ras, .int .i64 t.rrds, .int .i64 t.rrdl, .int .i64 t.faw, .int .i64 t.ccds, .int .i64 t.ccdl, .int .i64 t.rtp, .int .i64 t.wr, .int .i64 t.wtrs, .int .i64 t.wtrl, .int .i64 t.rtw, .int .i64 t.rfc, .int .i64 t.cke, .int .i64 t.xp, .int .i64 t.xs] 42) := by subst hw1; exact heap_alloc_new _ _
  have HROW : Hid (RowI w1 a l) := hr.below HB1.out
  clear hn hr
  by_cases h1 : (1048576 : Int) < (n : Int)
  · have h1' : 1048576 < n := by omega
    go_enter Try.func11, Try.ntmps11
    go_wp2_with fail
    go_ret
    exact ⟨rfl, HB1.out⟩
  have hN : n ≤ 1048576 := by omega
  have h1' : ¬ 1048576 < n := by omega
  obtain ⟨r, hv⟩ : ∃ r, fawOk t l = r := ⟨_, rfl⟩
  have HR := Lib.hid hv
  clear hv
  go_enter Try.func11, Try.ntmps11
  go_wp2_with (first | ((with_reducible refine ld_ltm ?_ ?_ p1 ?_); kernel_rfl; kernel_rfl; go_simp))
  refine (toTiming_is t _).mono ?_
  rintro e w2 ⟨rfl, hb2⟩
  have p2 := keep_block hb2 p1 (lt_of_block p1)
  have HB2 : Hid (Below w.heap.size w w2) := HB1.out.trans (hb2.mono HB1.out.size)
  have HROW2 : Hid (RowI w2 a l) := HROW.out.below hb2
  clear hb2 p1 HB1 hw1 HROW
  go_wp2_with fail
  refine (toIntS_is _ _ _ l HN.out (by omega) _ HROW2.out).mono ?_
  rintro e w3 ⟨a3, c3, rfl, ho3, hb3⟩
  rw [HN.out] at ho3
  (try rw [HN.out])
  have p3 := keep_block hb3 p2 (lt_of_block p2)
  have HB3 : Hid (Below w.heap.size w w3) := HB2.out.trans (hb3.mono HB2.out.size)
  have HROW3 : Hid (RowI w3 a l) := HROW2.out.below hb3
  have R3 : Hid (RowI w3 a3 l) := ho3.row
  clear hb3 p2 HB2 HROW2 ho3
  go_wp2_with fail
  refine (specFaw_is t l _ _ _ HN.out (by omega) _ HR.out _ R3.out).mono ?_
  rintro e w4 ⟨rfl, hb4⟩
  have p4 := keep_block hb4 p3 (lt_of_block p3)
  have HB4 : Hid (Below w.heap.size w w4) := HB3.out.trans (hb4.mono HB3.out.size)
  have HROW4 : Hid (RowI w4 a l) := HROW3.out.below hb4
  clear hb4 p3 HB3 HROW3 R3
  go_wp2_with fail
  refine (toIntS_is _ _ _ l HN.out (by omega) _ HROW4.out).mono ?_
  rintro e w5 ⟨a5, c5, rfl, ho5, hb5⟩
  rw [HN.out] at ho5
  (try rw [HN.out])
  have p5 := keep_block hb5 p4 (lt_of_block p4)
  have HB5 : Hid (Below w.heap.size w w5) := HB4.out.trans (hb5.mono HB4.out.size)
  have HROW5 : Hid (RowI w5 a l) := HROW4.out.below hb5
  have O5 := Lib.hid ho5
  clear hb5 p4 HB4 HROW4 ho5
  go_wp2_with (first | ((with_reducible refine ld_ltm ?_ ?_ p5 ?_); kernel_rfl; kernel_rfl; go_simp))
  refine (toTiming_is t _).mono ?_
  rintro e w6 ⟨rfl, hb6⟩
  have HB6 : Hid (Below w.heap.size w w6) := HB5.out.trans (hb6.mono HB5.out.size)
  have HROW6 : Hid (RowI w6 a l) := HROW5.out.below hb6
  have O6 := Lib.hid (O5.out.below hb6)
  clear hb6 p5 HB5 HROW5 O5
  go_wp2_with fail
  refine (implFaw_is t l _ _ _ HN.out (by omega) _ HR.out _ O6.out.row).mono ?_
  rintro e w7 ⟨rfl, hb7⟩
  have HB7 : Hid (Below w.heap.size w w7) := HB6.out.trans (hb7.mono HB6.out.size)
  have HROW7 : Hid (RowI w7 a l) := HROW6.out.below hb7
  have O7 := Lib.hid (O6.out.below hb7)
  clear hb7 HB6 HROW6 O6
  have hrr : (r != r) = false := by simp
  go_wp2_with fail
  refine (toIntS_is _ _ _ l HN.out (by omega) _ HROW7.out).mono ?_
  rintro e w8 ⟨a8, c8, rfl, ho8, hb8⟩
  rw [HN.out] at ho8
  (try rw [HN.out])
  have HB8 : Hid (Below w.heap.size w w8) := HB7.out.trans (hb8.mono HB7.out.size)
  have O8 := Lib.hid ho8
  have O78 := Lib.hid (O7.out.below hb8)
  clear hb8 HB7 HROW7 O7 ho8
  go_wp2_with fail
  refine (eqIntS_any HN.out O78.out O8.out (by omega)).mono ?_
  rintro e w9 ⟨rfl, hb9⟩
  have HB9 : Hid (Below w.heap.size w w9) := HB8.out.trans (hb9.mono HB8.out.size)
  clear hb9
  go_wp2
  go_ret
  exact ⟨rfl, HB9.out⟩



end Go.Proofs.Ytcjeobagjhjbmaa
