/-
  impl's distance of two commands.
-/
import Derived.Test.YtihhcnckoeaihaaTimK
import Derived.Test.YtihhcnckoeaihaaTimG
import Derived.Test.YtihhcnckoeaihaaCmdK
namespace Go.Proofs.Ytihhcnckoeaihaa
open Go.RowKit

set_option linter.unusedVariables false

set_option maxHeartbeats 4000000 in
theorem implNearB_is (g0 B g2 g3 ka xa ya za kb xb yb zb : Int) (hB : 1 ≤ B) (hxa : 0 ≤ xa ∧ xa ≤ bankN g0 B g2 g3 - 1) (hxb : 0 ≤ xb ∧ xb ≤ bankN g0 B g2 g3 - 1) (v : Bool) (hv : nearP B ka xa kb xb = v) (w : World) :
    Calls Try.prog 83 #[.agg #[.int .i64 g0, .int .i64 B, .int .i64 g2, .int .i64 g3], .agg #[.int .i64 ka, .int .i64 xa, .int .i64 ya, .int .i64 za], .agg #[.int .i64 kb, .int .i64 xb, .int .i64 yb, .int .i64 zb]] w (Gives (.bool v) w) := by
  obtain ⟨w1, hw1⟩ : ∃ u, ((w.alloc (.cells #[.int .i64 g0, .int .i64 B, .int .i64 g2, .int .i64 g3] 30)).alloc (.cells #[.int .i64 ka, .int .i64 xa, .int .i64 ya, .int .i64 za] 56)).alloc (.cells #[.int .i64 kb, .int .i64 xb, .int .i64 yb, .int .i64 zb] 56) = u := ⟨_, rfl⟩
  have HB1 : Hid (Below w.heap.size w w1) := by subst hw1; exact (((Below.refl _ _).alloc (by simp) _).alloc (by simp) _).alloc (by simp; omega) _
  have g1 : w1.heap[w.heap.size]? = some (.cells #[.int .i64 g0, .int .i64 B, .int .i64 g2, .int .i64 g3] 30) := by subst hw1; exact box3_0 _ _ _ _
  have a1 : w1.heap[w.heap.size + 1]? = some (.cells #[.int .i64 ka, .int .i64 xa, .int .i64 ya, .int .i64 za] 56) := by subst hw1; exact box3_1 _ _ _ _
  have b1 : w1.heap[w.heap.size + 1 + 1]? = some (.cells #[.int .i64 kb, .int .i64 xb, .int .i64 yb, .int .i64 zb] 56) := by subst hw1; exact box3_2 _ _ _ _
  obtain ⟨x0, x1, x2, x3⟩ := cells4 g1
  obtain ⟨y0, y1, y2, y3⟩ := cells4 a1
  obtain ⟨z0, z1, z2, z3⟩ := cells4 b1
  have zzx0 := fun q : Later w1 => q.cell x0
  have zzx1 := fun q : Later w1 => q.cell x1
  have zzx2 := fun q : Later w1 => q.cell x2
  have zzx3 := fun q : Later w1 => q.cell x3
  have zzy0 := fun q : Later w1 => q.cell y0
  have zzy1 := fun q : Later w1 => q.cell y1
  have zzz0 := fun q : Later w1 => q.cell z0
  have zzz1 := fun q : Later w1 => q.cell z1
  clear x0 x1 x2 x3 y0 y1 y2 y3 z0 z1 z2 z3
  obtain ⟨u, hu⟩ : ∃ u, decide (ka < 6) = u := ⟨_, rfl⟩
  have U := Lib.hid hu
  obtain ⟨u', hu'⟩ : ∃ u, decide (kb < 6) = u := ⟨_, rfl⟩
  have U' := Lib.hid hu'
  have HA : Hid (groupF g0 B g2 g3 xa = xa / B) := if_pos hxa
  have HB : Hid (groupF g0 B g2 g3 xb = xb / B) := if_pos hxb
  have HV : Hid (v = (u && (u' && (xa / B == xb / B)))) := by
    show _ = _
    rw [← hv, ← hu, ← hu']
    unfold nearP
    rw [Bool.eq_iff_iff]
    simp only [decide_eq_true_eq, Bool.and_eq_true, beq_iff_eq]
    exact ⟨fun h => ⟨by omega, by omega, h.2⟩, fun h => ⟨⟨by omega, by omega⟩, h.2.2⟩⟩
  clear hv hu hu' hxa hxb hB
  cases u
  · go_enter Try.func83, Try.ntmps83
    go_wp2_with fail
    refine wp_region_later (by kernel_rfl) (by kernel_rfl) ?_
    repeat (go_big_quiet_step (first | (go_at_call_of 90 ka; exact Gives.later_same _ (implUses_is ka _ U.out _)) | (go_at_call_of 90 kb; exact Gives.later_same _ (implUses_is kb _ U'.out _)) | (go_at_call_of 91 xa; exact Gives.later _ (implGroup_is _ _ _ _ xa _ HA.out _)) | (go_at_call_of 91 xb; exact Gives.later _ (implGroup_is _ _ _ _ xb _ HB.out _))))
    refine wpQuiet_nil ?_
    rintro w3 ⟨zz, rfl⟩
    go_wp2
    go_ret
    exact ⟨ret_b HV.out.symm, HB1.out.trans (zz.ok.mono HB1.out.size)⟩
  cases u'
  · go_enter Try.func83, Try.ntmps83
    go_wp2_with fail
    refine wp_region_later (by kernel_rfl) (by kernel_rfl) ?_
    repeat (go_big_quiet_step (first | (go_at_call_of 90 ka; exact Gives.later_same _ (implUses_is ka _ U.out _)) | (go_at_call_of 90 kb; exact Gives.later_same _ (implUses_is kb _ U'.out _)) | (go_at_call_of 91 xa; exact Gives.later _ (implGroup_is _ _ _ _ xa _ HA.out _)) | (go_at_call_of 91 xb; exact Gives.later _ (implGroup_is _ _ _ _ xb _ HB.out _))))
    refine wpQuiet_nil ?_
    rintro w3 ⟨zz, rfl⟩
    go_wp2
    go_ret
    exact ⟨ret_b HV.out.symm, HB1.out.trans (zz.ok.mono HB1.out.size)⟩
  go_enter Try.func83, Try.ntmps83
  go_wp2_with fail
  refine wp_region_later (by kernel_rfl) (by kernel_rfl) ?_
  repeat (go_big_quiet_step (first | (go_at_call_of 90 ka; exact Gives.later_same _ (implUses_is ka _ U.out _)) | (go_at_call_of 90 kb; exact Gives.later_same _ (implUses_is kb _ U'.out _)) | (go_at_call_of 91 xa; exact Gives.later _ (implGroup_is _ _ _ _ xa _ HA.out _)) | (go_at_call_of 91 xb; exact Gives.later _ (implGroup_is _ _ _ _ xb _ HB.out _))))
  refine wpQuiet_nil ?_
  rintro w3 ⟨zz, rfl⟩
  go_wp2
  go_ret
  exact ⟨ret_b HV.out.symm, HB1.out.trans (zz.ok.mono HB1.out.size)⟩

set_option maxHeartbeats 4000000 in
theorem implSame_is (ka xa ya za kb xb yb zb : Int) (v : Bool) (hv : sameP ka xa kb xb = v) (w : World) :
    Calls Try.prog 84 #[.agg #[.int .i64 ka, .int .i64 xa, .int .i64 ya, .int .i64 za], .agg #[.int .i64 kb, .int .i64 xb, .int .i64 yb, .int .i64 zb]] w (Gives (.bool v) w) := by
  obtain ⟨w1, hw1⟩ : ∃ u, (w.alloc (.cells #[.int .i64 ka, .int .i64 xa, .int .i64 ya, .int .i64 za] 56)).alloc (.cells #[.int .i64 kb, .int .i64 xb, .int .i64 yb, .int .i64 zb] 56) = u := ⟨_, rfl⟩
  have HB1 : Hid (Below w.heap.size w w1) := by subst hw1; exact ((Below.refl _ _).alloc (by simp) _).alloc (by simp) _
  have a1 : w1.heap[w.heap.size]? = some (.cells #[.int .i64 ka, .int .i64 xa, .int .i64 ya, .int .i64 za] 56) := by subst hw1; exact heap_alloc2_old _ _ _
  have b1 : w1.heap[w.heap.size + 1]? = some (.cells #[.int .i64 kb, .int .i64 xb, .int .i64 yb, .int .i64 zb] 56) := by subst hw1; exact heap_alloc2_new _ _ _
  obtain ⟨y0, y1, y2, y3⟩ := cells4 a1
  obtain ⟨z0, z1, z2, z3⟩ := cells4 b1
  clear a1 b1
  obtain ⟨u, hu⟩ : ∃ u, decide (ka < 6) = u := ⟨_, rfl⟩
  have U := Lib.hid hu
  obtain ⟨u', hu'⟩ : ∃ u, decide (kb < 6) = u := ⟨_, rfl⟩
  have U' := Lib.hid hu'
  have HV : Hid (v = (u && (u' && (xa == xb)))) := by
    show _ = _
    rw [← hv, ← hu, ← hu']
    unfold sameP
    rw [Bool.eq_iff_iff]
    simp only [decide_eq_true_eq, Bool.and_eq_true, beq_iff_eq]
    exact ⟨fun h => ⟨by omega, by omega, h.2⟩, fun h => ⟨⟨by omega, by omega⟩, h.2.2⟩⟩
  clear hv hu hu'
  cases u
  · go_enter Try.func84, Try.ntmps84
    go_wp2_with fail
    refine (implUses_is _ _ U.out _).mono ?_
    rintro e w' ⟨rfl, rfl⟩
    go_wp2
    go_ret
    exact ⟨ret_b HV.out.symm, HB1.out⟩
  cases u'
  · go_enter Try.func84, Try.ntmps84
    go_wp2_with fail
    refine (implUses_is _ _ U.out _).mono ?_
    rintro e w' ⟨rfl, rfl⟩
    go_wp2_with fail
    refine (implUses_is _ _ U'.out _).mono ?_
    rintro e w' ⟨rfl, rfl⟩
    go_wp2
    go_ret
    exact ⟨ret_b HV.out.symm, HB1.out⟩
  go_enter Try.func84, Try.ntmps84
  go_wp2_with fail
  refine (implUses_is _ _ U.out _).mono ?_
  rintro e w' ⟨rfl, rfl⟩
  go_wp2_with fail
  refine (implUses_is _ _ U'.out _).mono ?_
  rintro e w' ⟨rfl, rfl⟩
  go_wp2
  go_ret
  exact ⟨ret_b HV.out.symm, HB1.out⟩

set_option maxHeartbeats 8000000 in
theorem implGap_is (t : Tm) (g0 B g2 g3 ka xa ya za kb xb yb zb : Int) (v : Int) (hv : gapG t g0 B g2 g3 ka xa ya za kb xb yb zb = v) (w : World) :
    Calls Try.prog 73 #[.agg #[.int .i64 g0, .int .i64 B, .int .i64 g2, .int .i64 g3], .agg #[.int .i64 t.rcd, .int .i64 t.rp, .int .i64 t.ras, .int .i64 t.rrds, .int .i64 t.rrdl, .int .i64 t.faw, .int .i64 t.ccds, .int .i64 t.ccdl, .int .i64 t.rtp, .int .i64 t.wr, .int .i64 t.wtrs, .int .i64 t.wtrl, .int .i64 t.rtw, .int .i64 t.rfc, .int .i64 t.cke, .int .i64 t.xp, .int .i64 t.xs], .agg #[.int .i64 ka, .int .i64 xa, .int .i64 ya, .int .i64 za], .agg #[.int .i64 kb, .int .i64 xb, .int .i64 yb, .int .i64 zb]] w (Gives (.int .i64 v) w) := by
  obtain ⟨w1, hw1⟩ : ∃ u, (((w.alloc (.cells #[.int .i64 g0, .int .i64 B, .int .i64 g2, .int .i64 g3] 30)).alloc (.cells #[.int .i64 t.rcd, .int .i64 t.rp, .int .i64 t.ras, .int .i64 t.rrds, .int .i64 t.rrdl, .int .i64 t.faw, .int .i64 t.ccds, .int .i64 t.ccdl, .int .i64 t.rtp, .int .i64 t.wr, .int .i64 t.wtrs, .int .i64 t.wtrl, .int .i64 t.rtw, .int .i64 t.rfc, .int .i64 t.cke, .int .i64 t.xp, .int .i64 t.xs] 32)).alloc (.cells #[.int .i64 ka, .int .i64 xa, .int .i64 ya, .int .i64 za] 56)).alloc (.cells #[.int .i64 kb, .int .i64 xb, .int .i64 yb, .int .i64 zb] 56) = u := ⟨_, rfl⟩
  have HB1 : Hid (Below w.heap.size w w1) := by subst hw1; exact ((((Below.refl _ _).alloc (by simp) _).alloc (by simp) _).alloc (by simp; omega) _).alloc (by simp; omega) _
  have g1 : w1.heap[w.heap.size]? = some (.cells #[.int .i64 g0, .int .i64 B, .int .i64 g2, .int .i64 g3] 30) := by subst hw1; exact box4_0 _ _ _ _ _
  have p1 : w1.heap[w.heap.size + 1]? = some (.cells #[.int .i64 t.rcd, .int .i64 t.rp, .int .i64 t.ras, .int .i64 t.rrds, .int .i64 t.rrdl, .int .i64 t.faw, .int .i64 t.ccds, .int .i64 t.ccdl, .int .i64 t.rtp, .int .i64 t.wr, .int .i64 t.wtrs, .int .i64 t.wtrl, .int .i64 t.rtw, .int .i64 t.rfc, .int .i64 t.cke, .int .i64 t.xp, .int .i64 t.xs] 32) := by subst hw1; exact box4_1 _ _ _ _ _
  have a1 : w1.heap[w.heap.size + 1 + 1]? = some (.cells #[.int .i64 ka, .int .i64 xa, .int .i64 ya, .int .i64 za] 56) := by subst hw1; exact box4_2 _ _ _ _ _
  have b1 : w1.heap[w.heap.size + 1 + 1 + 1]? = some (.cells #[.int .i64 kb, .int .i64 xb, .int .i64 yb, .int .i64 zb] 56) := by subst hw1; exact box4_3 _ _ _ _ _
  by_cases h : TimOk t
  case neg =>
    have K := Lib.hid (decide_eq_false h)
    have HE : Hid (v = 0) := by show _ = _; rw [← hv]; exact if_neg (fun hh => h hh.1)
    clear hv h
    go_enter Try.func73, Try.ntmps73
    obtain ⟨x0, x1, x2, x3⟩ := cells4 g1
    obtain ⟨y0, y1, y2, y3⟩ := cells4 a1
    obtain ⟨z0, z1, z2, z3⟩ := cells4 b1
    go_wp2_with (first | ((with_reducible refine ld_tm ?_ ?_ p1 ?_); kernel_rfl; kernel_rfl; go_simp))
    refine (implTimOk_is t _ K.out _).mono ?_
    rintro e w2 ⟨rfl, hb2⟩
    have g2 := keep_block hb2 g1 (lt_of_block g1)
    have p2 := keep_block hb2 p1 (lt_of_block p1)
    have a2 := keep_block hb2 a1 (lt_of_block a1)
    have b2 := keep_block hb2 b1 (lt_of_block b1)
    have HB2 : Hid (Below w.heap.size w w2) := HB1.out.trans (hb2.mono HB1.out.size)
    clear hb2 g1 p1 a1 b1 HB1
    clear x0 x1 x2 x3 y0 y1 y2 y3 z0 z1 z2 z3
    go_wp2
    go_ret
    exact ⟨ret_i HE.out.symm, HB2.out⟩
  have K := Lib.hid (decide_eq_true h)
  by_cases ha : CmOk ka xa ya za ∧ AdOk g0 B g2 g3 xa ya za
  case neg =>
    have KA := Lib.hid (decide_eq_false ha)
    have HE : Hid (v = 0) := by show _ = _; rw [← hv]; exact if_neg (fun hh => ha hh.2.1)
    clear hv h ha
    go_enter Try.func73, Try.ntmps73
    obtain ⟨x0, x1, x2, x3⟩ := cells4 g1
    obtain ⟨y0, y1, y2, y3⟩ := cells4 a1
    obtain ⟨z0, z1, z2, z3⟩ := cells4 b1
    go_wp2_with (first | ((with_reducible refine ld_tm ?_ ?_ p1 ?_); kernel_rfl; kernel_rfl; go_simp))
    refine (implTimOk_is t _ K.out _).mono ?_
    rintro e w2 ⟨rfl, hb2⟩
    have g2 := keep_block hb2 g1 (lt_of_block g1)
    have p2 := keep_block hb2 p1 (lt_of_block p1)
    have a2 := keep_block hb2 a1 (lt_of_block a1)
    have b2 := keep_block hb2 b1 (lt_of_block b1)
    have HB2 : Hid (Below w.heap.size w w2) := HB1.out.trans (hb2.mono HB1.out.size)
    clear hb2 g1 p1 a1 b1 HB1
    clear x0 x1 x2 x3 y0 y1 y2 y3 z0 z1 z2 z3
    obtain ⟨x0, x1, x2, x3⟩ := cells4 g2
    obtain ⟨y0, y1, y2, y3⟩ := cells4 a2
    obtain ⟨z0, z1, z2, z3⟩ := cells4 b2
    go_wp2_with fail
    refine (implCommandOk_is _ _ _ _ _ _ _ _ _ KA.out _).mono ?_
    rintro e w3 ⟨rfl, hb3⟩
    have g3 := keep_block hb3 g2 (lt_of_block g2)
    have p3 := keep_block hb3 p2 (lt_of_block p2)
    have a3 := keep_block hb3 a2 (lt_of_block a2)
    have b3 := keep_block hb3 b2 (lt_of_block b2)
    have HB3 : Hid (Below w.heap.size w w3) := HB2.out.trans (hb3.mono HB2.out.size)
    clear hb3 g2 p2 a2 b2 HB2
    clear x0 x1 x2 x3 y0 y1 y2 y3 z0 z1 z2 z3
    go_wp2
    go_ret
    exact ⟨ret_i HE.out.symm, HB3.out⟩
  have KA := Lib.hid (decide_eq_true ha)
  by_cases hb : CmOk kb xb yb zb ∧ AdOk g0 B g2 g3 xb yb zb
  case neg =>
    have KB := Lib.hid (decide_eq_false hb)
    have HE : Hid (v = 0) := by show _ = _; rw [← hv]; exact if_neg (fun hh => hb hh.2.2)
    clear hv h ha hb
    go_enter Try.func73, Try.ntmps73
    obtain ⟨x0, x1, x2, x3⟩ := cells4 g1
    obtain ⟨y0, y1, y2, y3⟩ := cells4 a1
    obtain ⟨z0, z1, z2, z3⟩ := cells4 b1
    go_wp2_with (first | ((with_reducible refine ld_tm ?_ ?_ p1 ?_); kernel_rfl; kernel_rfl; go_simp))
    refine (implTimOk_is t _ K.out _).mono ?_
    rintro e w2 ⟨rfl, hb2⟩
    have g2 := keep_block hb2 g1 (lt_of_block g1)
    have p2 := keep_block hb2 p1 (lt_of_block p1)
    have a2 := keep_block hb2 a1 (lt_of_block a1)
    have b2 := keep_block hb2 b1 (lt_of_block b1)
    have HB2 : Hid (Below w.heap.size w w2) := HB1.out.trans (hb2.mono HB1.out.size)
    clear hb2 g1 p1 a1 b1 HB1
    clear x0 x1 x2 x3 y0 y1 y2 y3 z0 z1 z2 z3
    obtain ⟨x0, x1, x2, x3⟩ := cells4 g2
    obtain ⟨y0, y1, y2, y3⟩ := cells4 a2
    obtain ⟨z0, z1, z2, z3⟩ := cells4 b2
    go_wp2_with fail
    refine (implCommandOk_is _ _ _ _ _ _ _ _ _ KA.out _).mono ?_
    rintro e w3 ⟨rfl, hb3⟩
    have g3 := keep_block hb3 g2 (lt_of_block g2)
    have p3 := keep_block hb3 p2 (lt_of_block p2)
    have a3 := keep_block hb3 a2 (lt_of_block a2)
    have b3 := keep_block hb3 b2 (lt_of_block b2)
    have HB3 : Hid (Below w.heap.size w w3) := HB2.out.trans (hb3.mono HB2.out.size)
    clear hb3 g2 p2 a2 b2 HB2
    clear x0 x1 x2 x3 y0 y1 y2 y3 z0 z1 z2 z3
    obtain ⟨x0, x1, x2, x3⟩ := cells4 g3
    obtain ⟨y0, y1, y2, y3⟩ := cells4 a3
    obtain ⟨z0, z1, z2, z3⟩ := cells4 b3
    go_wp2_with fail
    refine (implCommandOk_is _ _ _ _ _ _ _ _ _ KB.out _).mono ?_
    rintro e w4 ⟨rfl, hb4⟩
    have g4 := keep_block hb4 g3 (lt_of_block g3)
    have p4 := keep_block hb4 p3 (lt_of_block p3)
    have a4 := keep_block hb4 a3 (lt_of_block a3)
    have b4 := keep_block hb4 b3 (lt_of_block b3)
    have HB4 : Hid (Below w.heap.size w w4) := HB3.out.trans (hb4.mono HB3.out.size)
    clear hb4 g3 p3 a3 b3 HB3
    clear x0 x1 x2 x3 y0 y1 y2 y3 z0 z1 z2 z3
    go_wp2
    go_ret
    exact ⟨ret_i HE.out.symm, HB4.out⟩
  have KB := Lib.hid (decide_eq_true hb)
  have HE : Hid (gapR B t ka xa kb xb = v) := by show _ = _; rw [← hv]; exact (if_pos ⟨h, ha, hb⟩).symm
  have HB0 : Hid (1 ≤ B) := (geo_of_bank ha.2.1).2.1.1
  have HXA := Lib.hid ha.2.1
  have HXB := Lib.hid hb.2.1
  obtain ⟨q, hq⟩ : ∃ q, nearP B ka xa kb xb = q := ⟨_, rfl⟩
  have HNQ := Lib.hid hq
  obtain ⟨N, hN⟩ : ∃ N, rankG t ka kb q = N := ⟨_, rfl⟩
  have HRN := Lib.hid hN
  have rN := rankG_range t ka kb q
  rw [hN] at rN
  clear hv h ha hb hq hN
  go_enter Try.func73, Try.ntmps73
  obtain ⟨x0, x1, x2, x3⟩ := cells4 g1
  obtain ⟨y0, y1, y2, y3⟩ := cells4 a1
  obtain ⟨z0, z1, z2, z3⟩ := cells4 b1
  go_wp2_with (first | ((with_reducible refine ld_tm ?_ ?_ p1 ?_); kernel_rfl; kernel_rfl; go_simp))
  refine (implTimOk_is t _ K.out _).mono ?_
  rintro e w2 ⟨rfl, hb2⟩
  have g2 := keep_block hb2 g1 (lt_of_block g1)
  have p2 := keep_block hb2 p1 (lt_of_block p1)
  have a2 := keep_block hb2 a1 (lt_of_block a1)
  have b2 := keep_block hb2 b1 (lt_of_block b1)
  have HB2 : Hid (Below w.heap.size w w2) := HB1.out.trans (hb2.mono HB1.out.size)
  clear hb2 g1 p1 a1 b1 HB1
  clear x0 x1 x2 x3 y0 y1 y2 y3 z0 z1 z2 z3
  obtain ⟨x0, x1, x2, x3⟩ := cells4 g2
  obtain ⟨y0, y1, y2, y3⟩ := cells4 a2
  obtain ⟨z0, z1, z2, z3⟩ := cells4 b2
  go_wp2_with fail
  refine (implCommandOk_is _ _ _ _ _ _ _ _ _ KA.out _).mono ?_
  rintro e w3 ⟨rfl, hb3⟩
  have g3 := keep_block hb3 g2 (lt_of_block g2)
  have p3 := keep_block hb3 p2 (lt_of_block p2)
  have a3 := keep_block hb3 a2 (lt_of_block a2)
  have b3 := keep_block hb3 b2 (lt_of_block b2)
  have HB3 : Hid (Below w.heap.size w w3) := HB2.out.trans (hb3.mono HB2.out.size)
  clear hb3 g2 p2 a2 b2 HB2
  clear x0 x1 x2 x3 y0 y1 y2 y3 z0 z1 z2 z3
  obtain ⟨x0, x1, x2, x3⟩ := cells4 g3
  obtain ⟨y0, y1, y2, y3⟩ := cells4 a3
  obtain ⟨z0, z1, z2, z3⟩ := cells4 b3
  go_wp2_with fail
  refine (implCommandOk_is _ _ _ _ _ _ _ _ _ KB.out _).mono ?_
  rintro e w4 ⟨rfl, hb4⟩
  have g4 := keep_block hb4 g3 (lt_of_block g3)
  have p4 := keep_block hb4 p3 (lt_of_block p3)
  have a4 := keep_block hb4 a3 (lt_of_block a3)
  have b4 := keep_block hb4 b3 (lt_of_block b3)
  have HB4 : Hid (Below w.heap.size w w4) := HB3.out.trans (hb4.mono HB3.out.size)
  clear hb4 g3 p3 a3 b3 HB3
  clear x0 x1 x2 x3 y0 y1 y2 y3 z0 z1 z2 z3
  clear hw1 K KA KB
  obtain ⟨x0, x1, x2, x3⟩ := cells4 g4
  obtain ⟨y0, y1, y2, y3⟩ := cells4 a4
  obtain ⟨z0, z1, z2, z3⟩ := cells4 b4
  have zzx0 := fun q : Later w4 => q.cell x0
  have zzx1 := fun q : Later w4 => q.cell x1
  have zzx2 := fun q : Later w4 => q.cell x2
  have zzx3 := fun q : Later w4 => q.cell x3
  have zzy0 := fun q : Later w4 => q.cell y0
  have zzy1 := fun q : Later w4 => q.cell y1
  have zzy2 := fun q : Later w4 => q.cell y2
  have zzy3 := fun q : Later w4 => q.cell y3
  have zzz0 := fun q : Later w4 => q.cell z0
  have zzz1 := fun q : Later w4 => q.cell z1
  have zzz2 := fun q : Later w4 => q.cell z2
  have zzz3 := fun q : Later w4 => q.cell z3
  clear x0 x1 x2 x3 y0 y1 y2 y3 z0 z1 z2 z3
  cases hs : sameP ka xa kb xb
  · have HS : sameP ka xa kb xb = false := hs
    have HHS := Lib.hid HS
    have HE2 : Hid (v = max (max N 0) 1) := by show _ = _; rw [← HE.out]; unfold gapR; rw [HNQ.out, HS, HRN.out]; rfl
    clear HS hs
    by_cases hn : 1 < N
    · go_wp2_with fail
      refine wp_region_later (by kernel_rfl) (by kernel_rfl) ?_
      repeat (first | ((with_reducible refine ld_later ?_ ?_ p4 ?_); kernel_rfl; kernel_rfl; go_simp) | go_big_quiet_step (first | (go_at_call 83; exact Gives.later _ (implNearB_is _ _ _ _ _ _ _ _ _ _ _ _ HB0.out HXA.out HXB.out _ HNQ.out _)) | (go_at_call 82; exact Gives.later _ (implRankGap_is _ _ _ _ _ HRN.out _))))
      refine wpQuiet_nil ?_
      intro zz
      have HB5 : Hid (Below w.heap.size w zz.to) := HB4.out.trans (zz.ok.mono HB4.out.size)
      have p5 := zz.block p4
      have a5 := zz.block a4
      have b5 := zz.block b4
      obtain ⟨y0, y1, y2, y3⟩ := cells4 a5
      obtain ⟨z0, z1, z2, z3⟩ := cells4 b5
      go_wp2_with fail
      refine (implSame_is _ _ _ _ _ _ _ _ _ HHS.out _).mono ?_
      rintro e w6 ⟨rfl, hb6⟩
      have HB6 : Hid (Below w.heap.size w w6) := HB5.out.trans (hb6.mono HB5.out.size)
      clear hb6
      go_wp2
      go_ret
      exact ⟨ret_i (by rw [HE2.out]; omega), HB6.out⟩
    · go_wp2_with fail
      refine wp_region_later (by kernel_rfl) (by kernel_rfl) ?_
      repeat (first | ((with_reducible refine ld_later ?_ ?_ p4 ?_); kernel_rfl; kernel_rfl; go_simp) | go_big_quiet_step (first | (go_at_call 83; exact Gives.later _ (implNearB_is _ _ _ _ _ _ _ _ _ _ _ _ HB0.out HXA.out HXB.out _ HNQ.out _)) | (go_at_call 82; exact Gives.later _ (implRankGap_is _ _ _ _ _ HRN.out _))))
      refine wpQuiet_nil ?_
      intro zz
      have HB5 : Hid (Below w.heap.size w zz.to) := HB4.out.trans (zz.ok.mono HB4.out.size)
      have p5 := zz.block p4
      have a5 := zz.block a4
      have b5 := zz.block b4
      obtain ⟨y0, y1, y2, y3⟩ := cells4 a5
      obtain ⟨z0, z1, z2, z3⟩ := cells4 b5
      go_wp2_with fail
      refine (implSame_is _ _ _ _ _ _ _ _ _ HHS.out _).mono ?_
      rintro e w6 ⟨rfl, hb6⟩
      have HB6 : Hid (Below w.heap.size w w6) := HB5.out.trans (hb6.mono HB5.out.size)
      clear hb6
      go_wp2
      go_ret
      exact ⟨ret_i (by rw [HE2.out]; omega), HB6.out⟩
  · have HS : sameP ka xa kb xb = true := hs
    have HHS := Lib.hid HS
    obtain ⟨M, hM⟩ : ∃ M, bankG t ka kb = M := ⟨_, rfl⟩
    have HRM := Lib.hid hM
    have HE2 : Hid (v = max (max N M) 1) := by show _ = _; rw [← HE.out]; unfold gapR; rw [HNQ.out, HS, HRN.out, hM]; rfl
    clear HS hs hM
    by_cases hn : 1 < N
    · go_wp2_with fail
      refine wp_region_later (by kernel_rfl) (by kernel_rfl) ?_
      repeat (first | ((with_reducible refine ld_later ?_ ?_ p4 ?_); kernel_rfl; kernel_rfl; go_simp) | go_big_quiet_step (first | (go_at_call 83; exact Gives.later _ (implNearB_is _ _ _ _ _ _ _ _ _ _ _ _ HB0.out HXA.out HXB.out _ HNQ.out _)) | (go_at_call 82; exact Gives.later _ (implRankGap_is _ _ _ _ _ HRN.out _))))
      refine wpQuiet_nil ?_
      intro zz
      have HB5 : Hid (Below w.heap.size w zz.to) := HB4.out.trans (zz.ok.mono HB4.out.size)
      have p5 := zz.block p4
      have a5 := zz.block a4
      have b5 := zz.block b4
      obtain ⟨y0, y1, y2, y3⟩ := cells4 a5
      obtain ⟨z0, z1, z2, z3⟩ := cells4 b5
      go_wp2_with fail
      refine (implSame_is _ _ _ _ _ _ _ _ _ HHS.out _).mono ?_
      rintro e w6 ⟨rfl, hb6⟩
      have HB6 : Hid (Below w.heap.size w w6) := HB5.out.trans (hb6.mono HB5.out.size)
      have p6 := keep_block hb6 p5 (lt_of_block p5)
      have a6 := keep_block hb6 a5 (lt_of_block a5)
      have b6 := keep_block hb6 b5 (lt_of_block b5)
      clear hb6 y0 y1 y2 y3 z0 z1 z2 z3
      obtain ⟨y0, _, _, _⟩ := cells4 a6
      obtain ⟨z0, _, _, _⟩ := cells4 b6
      go_wp2_with (first | ((with_reducible refine ld_tm ?_ ?_ p6 ?_); kernel_rfl; kernel_rfl; go_simp))
      refine (implBankGap_is t _ _ _ HRM.out _).mono ?_
      rintro e w7 ⟨rfl, hb7⟩
      have HB7 : Hid (Below w.heap.size w w7) := HB6.out.trans (hb7.mono HB6.out.size)
      clear hb7
      by_cases hm : N < M
      · go_wp2
        go_ret
        exact ⟨ret_i (by rw [HE2.out]; omega), HB7.out⟩
      · go_wp2
        go_ret
        exact ⟨ret_i (by rw [HE2.out]; omega), HB7.out⟩
    · go_wp2_with fail
      refine wp_region_later (by kernel_rfl) (by kernel_rfl) ?_
      repeat (first | ((with_reducible refine ld_later ?_ ?_ p4 ?_); kernel_rfl; kernel_rfl; go_simp) | go_big_quiet_step (first | (go_at_call 83; exact Gives.later _ (implNearB_is _ _ _ _ _ _ _ _ _ _ _ _ HB0.out HXA.out HXB.out _ HNQ.out _)) | (go_at_call 82; exact Gives.later _ (implRankGap_is _ _ _ _ _ HRN.out _))))
      refine wpQuiet_nil ?_
      intro zz
      have HB5 : Hid (Below w.heap.size w zz.to) := HB4.out.trans (zz.ok.mono HB4.out.size)
      have p5 := zz.block p4
      have a5 := zz.block a4
      have b5 := zz.block b4
      obtain ⟨y0, y1, y2, y3⟩ := cells4 a5
      obtain ⟨z0, z1, z2, z3⟩ := cells4 b5
      go_wp2_with fail
      refine (implSame_is _ _ _ _ _ _ _ _ _ HHS.out _).mono ?_
      rintro e w6 ⟨rfl, hb6⟩
      have HB6 : Hid (Below w.heap.size w w6) := HB5.out.trans (hb6.mono HB5.out.size)
      have p6 := keep_block hb6 p5 (lt_of_block p5)
      have a6 := keep_block hb6 a5 (lt_of_block a5)
      have b6 := keep_block hb6 b5 (lt_of_block b5)
      clear hb6 y0 y1 y2 y3 z0 z1 z2 z3
      obtain ⟨y0, _, _, _⟩ := cells4 a6
      obtain ⟨z0, _, _, _⟩ := cells4 b6
      go_wp2_with (first | ((with_reducible refine ld_tm ?_ ?_ p6 ?_); kernel_rfl; kernel_rfl; go_simp))
      refine (implBankGap_is t _ _ _ HRM.out _).mono ?_
      rintro e w7 ⟨rfl, hb7⟩
      have HB7 : Hid (Below w.heap.size w w7) := HB6.out.trans (hb7.mono HB6.out.size)
      clear hb7
      by_cases hm : 1 < M
      · go_wp2
        go_ret
        exact ⟨ret_i (by rw [HE2.out]; omega), HB7.out⟩
      · go_wp2
        go_ret
        exact ⟨ret_i (by rw [HE2.out]; omega), HB7.out⟩

end Go.Proofs.Ytihhcnckoeaihaa
