/-
  The row cycle.
-/
import Derived.Test.YtcjeobagjhjbmaaTimN
import Derived.Test.YtcjeobagjhjbmaaTimX
import Derived.Test.YtcjeobagjhjbmaaTimD
namespace Go.Proofs.Ytcjeobagjhjbmaa
open Go.RowKit

set_option linter.unusedVariables false


set_option maxHeartbeats 16000000 in
set_option maxRecDepth 100000 in
theorem fnRowCycle_walk (a : Option Addr) (len cap : Nat) (z : List Int) (w : World) (hr : IsRow .u8 w a len cap z) :
    Calls Try.prog 3 #[.slice a len cap] w fun e w' => e = .returned (.bool true) ∧ Below w.heap.size w w' := by
  have hl := hr.len_le
  unfold maxLen at hl
  by_cases hbig : (1048576 : Int) < (len : Int)
  · go_enter Try.func3, Try.ntmps3
    go_wp2_with (go_at_call 12; refine (big_any _ _ _ _ (by omega)).mono ?_; rintro e w' ⟨rfl, rfl⟩)
    go_ret
    exact ⟨rfl, Below.refl _ _⟩
  have IMPL := Lib.hid implFast_t
  obtain ⟨u, hu⟩ : ∃ u, fastT = u := ⟨_, rfl⟩
  have UOK : Hid (TimOk u) := hu ▸ fast_ok
  rw [hu] at IMPL
  clear hu
  go_enter Try.func3, Try.ntmps3
  go_wp2_with (go_at_call 12; refine (big_any _ _ _ _ (by omega)).mono ?_; rintro e w' ⟨rfl, rfl⟩)
  refine (drawTimingOk_any hr).mono ?_
  rintro e w1 ⟨t, rfl, hb1⟩
  have HB1 := Lib.hid hb1
  clear hb1 hr
  have hn := heap_alloc_new w1 (.cells #[.int .i64 0, .int .i64 0, .int .i64 0, .int .i64 0, .int .i64 0, .int .i64 0, .int .i64 0, .int .i64 0, .int .i64 0, .int .i64 0, .int .i64 0, .int .i64 0, .int .i64 0, .int .i64 0, .int .i64 0, .int .i64 0, .int .i64 0] 25)
  have p2 := setRow_same _ _ #[.int .i64 t.rcd, .int .i64 t.rp, .int .i64 t.ras, .int .i64 t.rrds, .int .i64 t.rrdl, .int .i64 t.faw, .int .i64 t.ccds, .int .i64 t.ccdl, .int .i64 t.rtp, .int .i64 t.wr, .int .i64 t.wtrs, .int .i64 t.wtrl, .int .i64 t.rtw, .int .i64 t.rfc, .int .i64 t.cke, .int .i64 t.xp, .int .i64 t.xs] _ _ hn
  have HB2 : Hid (Below w.heap.size w ((w1.alloc (.cells #[.int .i64 0, .int .i64 0, .int .i64 0, .int .i64 0, .int .i64 0, .int .i64 0, .int .i64 0, .int .i64 0, .int .i64 0, .int .i64 0, .int .i64 0, .int .i64 0, .int .i64 0, .int .i64 0, .int .i64 0, .int .i64 0, .int .i64 0] 25)).setRow w1.heap.size #[.int .i64 t.rcd, .int .i64 t.rp, .int .i64 t.ras, .int .i64 t.rrds, .int .i64 t.rrdl, .int .i64 t.faw, .int .i64 t.ccds, .int .i64 t.ccdl, .int .i64 t.rtp, .int .i64 t.wr, .int .i64 t.wtrs, .int .i64 t.wtrl, .int .i64 t.rtw, .int .i64 t.rfc, .int .i64 t.cke, .int .i64 t.xp, .int .i64 t.xs])) := below_setRow (HB1.out.alloc HB1.out.size _) HB1.out.size _
  by_cases h : TimOk t
  case neg =>
    have HT := Lib.hid (decide_eq_false h)
    have G14 := Lib.hid (bankG_no h 1 4)
    clear h
    go_wp2_with (first | ((with_reducible refine store_list (cells := #[.int .i64 t.rcd, .int .i64 t.rp, .int .i64 t.ras, .int .i64 t.rrds, .int .i64 t.rrdl, .int .i64 t.faw, .int .i64 t.ccds, .int .i64 t.ccdl, .int .i64 t.rtp, .int .i64 t.wr, .int .i64 t.wtrs, .int .i64 t.wtrl, .int .i64 t.rtw, .int .i64 t.rfc, .int .i64 t.cke, .int .i64 t.xp, .int .i64 t.xs]) hn ?_ ?_ ?_ ?_ ?_ ?_); kernel_rfl; kernel_rfl; kernel_rfl; kernel_rfl; kernel_rfl) | (first | ((with_reducible refine ld_tm ?_ ?_ p2 ?_); kernel_rfl; exact rfl; go_simp)))
    generalize ((w1.alloc (.cells #[.int .i64 0, .int .i64 0, .int .i64 0, .int .i64 0, .int .i64 0, .int .i64 0, .int .i64 0, .int .i64 0, .int .i64 0, .int .i64 0, .int .i64 0, .int .i64 0, .int .i64 0, .int .i64 0, .int .i64 0, .int .i64 0, .int .i64 0] 25)).setRow w1.heap.size #[.int .i64 t.rcd, .int .i64 t.rp, .int .i64 t.ras, .int .i64 t.rrds, .int .i64 t.rrdl, .int .i64 t.faw, .int .i64 t.ccds, .int .i64 t.ccdl, .int .i64 t.rtp, .int .i64 t.wr, .int .i64 t.wtrs, .int .i64 t.wtrl, .int .i64 t.rtw, .int .i64 t.rfc, .int .i64 t.cke, .int .i64 t.xp, .int .i64 t.xs]) = w2 at p2 HB2 ⊢
    clear hn HB1
    refine (specTimOk_is t _ HT.out _).mono ?_
    rintro e w3 ⟨rfl, hb3⟩
    have p3 := keep_block hb3 p2 (lt_of_block p2)
    have HB3 : Hid (Below w.heap.size w w3) := HB2.out.trans (hb3.mono HB2.out.size)
    clear hb3 p2 HB2
    go_wp2_with (first | ((with_reducible refine ld_tm ?_ ?_ p3 ?_); kernel_rfl; exact rfl; go_simp))
    refine (implTimOk_is t _ HT.out _).mono ?_
    rintro e w4 ⟨rfl, hb4⟩
    have p4 := keep_block hb4 p3 (lt_of_block p3)
    have HB4 : Hid (Below w.heap.size w w4) := HB3.out.trans (hb4.mono HB3.out.size)
    clear hb4 p3 HB3
    go_wp2_with (first | ((with_reducible refine ld_tm ?_ ?_ p4 ?_); kernel_rfl; exact rfl; go_simp))
    refine (implBankGap_is t _ _ _ G14.out _).mono ?_
    rintro e w5 ⟨rfl, hb5⟩
    have HB5 : Hid (Below w.heap.size w w5) := HB4.out.trans (hb5.mono HB4.out.size)
    clear hb5  HB4
    go_wp2_with fail
    refine (IMPL.out _).mono ?_
    rintro e w6 ⟨rfl, hb6⟩
    have HB6 : Hid (Below w.heap.size w w6) := HB5.out.trans (hb6.mono HB5.out.size)
    clear hb6  HB5
    go_wp2_with fail
    refine (implTimOk_is u _ (decide_eq_true UOK.out) _).mono ?_
    rintro e w7 ⟨rfl, hb7⟩
    have HB7 : Hid (Below w.heap.size w w7) := HB6.out.trans (hb7.mono HB6.out.size)
    clear hb7  HB6
    go_wp2
    go_ret
    exact ⟨rfl, HB7.out⟩
  case pos =>
    have HT := Lib.hid (decide_eq_true h)
    have G14 := Lib.hid (bankG_14 h)
    have G41 := Lib.hid (bankG_41 h)
    have F11 : (bankG t 1 1 == t.ras + t.rp) = true := by rw [bankG_11 h]; simp
    have F35 : (bankG t 3 5 == bankG t 3 4 + t.rp) = true := by rw [bankG_35 h, bankG_34 h]; simp
    have N := h.nums
    have N4 := bankG_range t 3 4
    have e1 : IntKind.i64.wrap (t.ras + t.rp) = t.ras + t.rp := IntWalk.i64_in _ (by unfold In64 at N; omega)
    have e2 : IntKind.i64.wrap (bankG t 3 4 + t.rp) = bankG t 3 4 + t.rp := IntWalk.i64_in _ (by unfold In64 at N; omega)
    clear h N N4
    go_wp2_with (first | ((with_reducible refine store_list (cells := #[.int .i64 t.rcd, .int .i64 t.rp, .int .i64 t.ras, .int .i64 t.rrds, .int .i64 t.rrdl, .int .i64 t.faw, .int .i64 t.ccds, .int .i64 t.ccdl, .int .i64 t.rtp, .int .i64 t.wr, .int .i64 t.wtrs, .int .i64 t.wtrl, .int .i64 t.rtw, .int .i64 t.rfc, .int .i64 t.cke, .int .i64 t.xp, .int .i64 t.xs]) hn ?_ ?_ ?_ ?_ ?_ ?_); kernel_rfl; kernel_rfl; kernel_rfl; kernel_rfl; kernel_rfl) | (first | ((with_reducible refine ld_tm ?_ ?_ p2 ?_); kernel_rfl; exact rfl; go_simp)))
    generalize ((w1.alloc (.cells #[.int .i64 0, .int .i64 0, .int .i64 0, .int .i64 0, .int .i64 0, .int .i64 0, .int .i64 0, .int .i64 0, .int .i64 0, .int .i64 0, .int .i64 0, .int .i64 0, .int .i64 0, .int .i64 0, .int .i64 0, .int .i64 0, .int .i64 0] 25)).setRow w1.heap.size #[.int .i64 t.rcd, .int .i64 t.rp, .int .i64 t.ras, .int .i64 t.rrds, .int .i64 t.rrdl, .int .i64 t.faw, .int .i64 t.ccds, .int .i64 t.ccdl, .int .i64 t.rtp, .int .i64 t.wr, .int .i64 t.wtrs, .int .i64 t.wtrl, .int .i64 t.rtw, .int .i64 t.rfc, .int .i64 t.cke, .int .i64 t.xp, .int .i64 t.xs]) = w2 at p2 HB2 ⊢
    clear hn HB1
    refine (specTimOk_is t _ HT.out _).mono ?_
    rintro e w3 ⟨rfl, hb3⟩
    have p3 := keep_block hb3 p2 (lt_of_block p2)
    have HB3 : Hid (Below w.heap.size w w3) := HB2.out.trans (hb3.mono HB2.out.size)
    clear hb3 p2 HB2
    go_wp2_with (first | ((with_reducible refine ld_tm ?_ ?_ p3 ?_); kernel_rfl; exact rfl; go_simp))
    refine (implBankGap_is t _ _ _ G14.out _).mono ?_
    rintro e w4 ⟨rfl, hb4⟩
    have p4 := keep_block hb4 p3 (lt_of_block p3)
    have HB4 : Hid (Below w.heap.size w w4) := HB3.out.trans (hb4.mono HB3.out.size)
    clear hb4 p3 HB3
    go_wp2_with (first | ((with_reducible refine ld_tm ?_ ?_ p4 ?_); kernel_rfl; exact rfl; go_simp))
    refine (implBankGap_is t _ _ _ G41.out _).mono ?_
    rintro e w5 ⟨rfl, hb5⟩
    have p5 := keep_block hb5 p4 (lt_of_block p4)
    have HB5 : Hid (Below w.heap.size w w5) := HB4.out.trans (hb5.mono HB4.out.size)
    clear hb5 p4 HB4
    obtain ⟨c0, c1, c2, c3, c4, c5, c6, c7, c8, c9, c10, c11, c12, c13, c14, c15, c16⟩ := tm_cells p5
    have z1 := fun q : Later w5 => q.cell c1
    have z2 := fun q : Later w5 => q.cell c2
    clear c0 c1 c2 c3 c4 c5 c6 c7 c8 c9 c10 c11 c12 c13 c14 c15 c16
    go_wp2_with fail
    refine wp_region_later (by kernel_rfl) (by kernel_rfl) ?_
    repeat (first | ((with_reducible refine ld_later ?_ ?_ p5 ?_); kernel_rfl; kernel_rfl; go_simp) | go_big_quiet_step (first | (go_at_call 15; exact Gives.later _ (implTimOk_is t true HT.out _)) | (go_at_call 16; exact Gives.later _ (implBankGap_is t _ _ _ rfl _))))
    refine wpQuiet_nil ?_
    intro zz
    have HB6 : Hid (Below w.heap.size w zz.to) := HB5.out.trans (zz.ok.mono HB5.out.size)
    go_wp2
    go_ret
    exact ⟨rfl, HB6.out⟩



end Go.Proofs.Ytcjeobagjhjbmaa
