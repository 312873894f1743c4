/-
  impl's distances of two commands of a bank and of a rank.
-/
import Derived.Test.YtihhcnckoeaihaaTimJ
namespace Go.Proofs.Ytihhcnckoeaihaa
open Go.RowKit

set_option linter.unusedVariables false

theorem bankR_out {t : Tm} {a b : Int} (h : ¬ ((1 ≤ a ∧ a ≤ 9) ∧ (1 ≤ b ∧ b ≤ 9))) : bankR t a b = 0 := by
  unfold bankR
  repeat' (first | rfl | omega | split)

set_option maxHeartbeats 8000000 in
theorem implBankGap_is (t : Tm) (a b : Int) (v : Int) (hv : bankG t a b = v) (w : World) :
    Calls Try.prog 85 #[.agg #[.int .i64 t.rcd, .int .i64 t.rp, .int .i64 t.ras, .int .i64 t.rrds, .int .i64 t.rrdl, .int .i64 t.faw, .int .i64 t.ccds, .int .i64 t.ccdl, .int .i64 t.rtp, .int .i64 t.wr, .int .i64 t.wtrs, .int .i64 t.wtrl, .int .i64 t.rtw, .int .i64 t.rfc, .int .i64 t.cke, .int .i64 t.xp, .int .i64 t.xs], .int .i64 a, .int .i64 b] w (Gives (.int .i64 v) w) := by
  obtain ⟨w1, hw1⟩ : ∃ u, w.alloc (.cells #[.int .i64 t.rcd, .int .i64 t.rp, .int .i64 t.ras, .int .i64 t.rrds, .int .i64 t.rrdl, .int .i64 t.faw, .int .i64 t.ccds, .int .i64 t.ccdl, .int .i64 t.rtp, .int .i64 t.wr, .int .i64 t.wtrs, .int .i64 t.wtrl, .int .i64 t.rtw, .int .i64 t.rfc, .int .i64 t.cke, .int .i64 t.xp, .int .i64 t.xs] 32) = u := ⟨_, rfl⟩
  have HB1 : Hid (Below w.heap.size w w1) := by subst hw1; exact (Below.refl _ _).alloc (Nat.le_refl _) _
  have p1 : w1.heap[w.heap.size]? = some (.cells #[.int .i64 t.rcd, .int .i64 t.rp, .int .i64 t.ras, .int .i64 t.rrds, .int .i64 t.rrdl, .int .i64 t.faw, .int .i64 t.ccds, .int .i64 t.ccdl, .int .i64 t.rtp, .int .i64 t.wr, .int .i64 t.wtrs, .int .i64 t.wtrl, .int .i64 t.rtw, .int .i64 t.rfc, .int .i64 t.cke, .int .i64 t.xp, .int .i64 t.xs] 32) := by subst hw1; exact heap_alloc_new _ _
  by_cases h : TimOk t
  case neg =>
    have K := Lib.hid (decide_eq_false h)
    have HE : Hid (v = 0) := by show _ = _; rw [← hv]; exact if_neg h
    clear hv h
    go_enter Try.func85, Try.ntmps85
    go_wp2_with (first | ((with_reducible refine ld_tm ?_ ?_ p1 ?_); kernel_rfl; kernel_rfl; go_simp))
    refine (implTimOk_is t _ K.out _).mono ?_
    rintro e w2 ⟨rfl, hb2⟩
    have p2 := keep_block hb2 p1 (lt_of_block p1)
    have HB2 : Hid (Below w.heap.size w w2) := HB1.out.trans (hb2.mono HB1.out.size)
    clear hb2 p1 HB1
    go_wp2
    go_ret
    exact ⟨ret_i HE.out.symm, HB2.out⟩
  have K := Lib.hid (decide_eq_true h)
  by_cases ha : 1 ≤ a ∧ a ≤ 9
  case neg =>
    have KA := Lib.hid (decide_eq_false ha)
    have HE : Hid (v = 0) := by show _ = _; rw [← hv]; exact (if_pos h).trans (bankR_out (fun hh => ha hh.1))
    clear hv h ha
    go_enter Try.func85, Try.ntmps85
    go_wp2_with (first | ((with_reducible refine ld_tm ?_ ?_ p1 ?_); kernel_rfl; kernel_rfl; go_simp))
    refine (implTimOk_is t _ K.out _).mono ?_
    rintro e w2 ⟨rfl, hb2⟩
    have p2 := keep_block hb2 p1 (lt_of_block p1)
    have HB2 : Hid (Below w.heap.size w w2) := HB1.out.trans (hb2.mono HB1.out.size)
    clear hb2 p1 HB1
    go_wp2_with fail
    refine (implKindOk_is _ _ KA.out _).mono ?_
    rintro e w' ⟨rfl, rfl⟩
    go_wp2
    go_ret
    exact ⟨ret_i HE.out.symm, HB2.out⟩
  have KA := Lib.hid (decide_eq_true ha)
  by_cases hb : 1 ≤ b ∧ b ≤ 9
  case neg =>
    have KB := Lib.hid (decide_eq_false hb)
    have HE : Hid (v = 0) := by show _ = _; rw [← hv]; exact (if_pos h).trans (bankR_out (fun hh => hb hh.2))
    clear hv h ha hb
    go_enter Try.func85, Try.ntmps85
    go_wp2_with (first | ((with_reducible refine ld_tm ?_ ?_ p1 ?_); kernel_rfl; kernel_rfl; go_simp))
    refine (implTimOk_is t _ K.out _).mono ?_
    rintro e w2 ⟨rfl, hb2⟩
    have p2 := keep_block hb2 p1 (lt_of_block p1)
    have HB2 : Hid (Below w.heap.size w w2) := HB1.out.trans (hb2.mono HB1.out.size)
    clear hb2 p1 HB1
    go_wp2_with fail
    refine (implKindOk_is _ _ KA.out _).mono ?_
    rintro e w' ⟨rfl, rfl⟩
    go_wp2_with fail
    refine (implKindOk_is _ _ KB.out _).mono ?_
    rintro e w' ⟨rfl, rfl⟩
    go_wp2
    go_ret
    exact ⟨ret_i HE.out.symm, HB2.out⟩
  have KB := Lib.hid (decide_eq_true hb)
  have HE : Hid (v = bankR t a b) := by show _ = _; rw [← hv]; exact if_pos h
  obtain ⟨rv, ru, ix1, ix2, hd⟩ := bank_rule t h a b ha hb
  have HD := Lib.hid hd
  obtain ⟨TT, hT⟩ : ∃ TT, (.agg bankCells : Value) = TT := ⟨_, rfl⟩
  rw [hT] at ix1
  have HT : Hid (∀ w, Calls Try.prog 92 #[] w (Gives TT w)) := fun w => by rw [← hT]; exact implBankT_is w
  clear hv h ha hb hd hT
  go_enter Try.func85, Try.ntmps85
  go_wp2_with (first | ((with_reducible refine ld_tm ?_ ?_ p1 ?_); kernel_rfl; kernel_rfl; go_simp))
  refine (implTimOk_is t _ K.out _).mono ?_
  rintro e w2 ⟨rfl, hb2⟩
  have p2 := keep_block hb2 p1 (lt_of_block p1)
  have HB2 : Hid (Below w.heap.size w w2) := HB1.out.trans (hb2.mono HB1.out.size)
  clear hb2 p1 HB1
  go_wp2_with fail
  refine (implKindOk_is _ _ KA.out _).mono ?_
  rintro e w' ⟨rfl, rfl⟩
  go_wp2_with fail
  refine (implKindOk_is _ _ KB.out _).mono ?_
  rintro e w' ⟨rfl, rfl⟩
  clear hw1 K KA KB
  go_wp2_with fail
  refine wp_region_later (by kernel_rfl) (by kernel_rfl) ?_
  repeat (first | ((with_reducible refine ld_later ?_ ?_ p2 ?_); kernel_rfl; kernel_rfl; go_simp) | go_big_quiet_step (first | (go_at_call 92; exact Gives.later _ (HT.out _)) | (go_at_call 88; exact Gives.later _ (HD.out _))))
  refine wpQuiet_nil ?_
  intro zz
  go_wp2
  go_ret
  exact ⟨ret_i HE.out.symm, HB2.out.trans (zz.ok.mono HB2.out.size)⟩

set_option maxHeartbeats 8000000 in
theorem implRankGap_is (t : Tm) (a b : Int) (n : Bool) (v : Int) (hv : rankG t a b n = v) (w : World) :
    Calls Try.prog 82 #[.agg #[.int .i64 t.rcd, .int .i64 t.rp, .int .i64 t.ras, .int .i64 t.rrds, .int .i64 t.rrdl, .int .i64 t.faw, .int .i64 t.ccds, .int .i64 t.ccdl, .int .i64 t.rtp, .int .i64 t.wr, .int .i64 t.wtrs, .int .i64 t.wtrl, .int .i64 t.rtw, .int .i64 t.rfc, .int .i64 t.cke, .int .i64 t.xp, .int .i64 t.xs], .int .i64 a, .int .i64 b, .bool n] w (Gives (.int .i64 v) w) := by
  obtain ⟨w1, hw1⟩ : ∃ u, w.alloc (.cells #[.int .i64 t.rcd, .int .i64 t.rp, .int .i64 t.ras, .int .i64 t.rrds, .int .i64 t.rrdl, .int .i64 t.faw, .int .i64 t.ccds, .int .i64 t.ccdl, .int .i64 t.rtp, .int .i64 t.wr, .int .i64 t.wtrs, .int .i64 t.wtrl, .int .i64 t.rtw, .int .i64 t.rfc, .int .i64 t.cke, .int .i64 t.xp, .int .i64 t.xs] 32) = u := ⟨_, rfl⟩
  have HB1 : Hid (Below w.heap.size w w1) := by subst hw1; exact (Below.refl _ _).alloc (Nat.le_refl _) _
  have p1 : w1.heap[w.heap.size]? = some (.cells #[.int .i64 t.rcd, .int .i64 t.rp, .int .i64 t.ras, .int .i64 t.rrds, .int .i64 t.rrdl, .int .i64 t.faw, .int .i64 t.ccds, .int .i64 t.ccdl, .int .i64 t.rtp, .int .i64 t.wr, .int .i64 t.wtrs, .int .i64 t.wtrl, .int .i64 t.rtw, .int .i64 t.rfc, .int .i64 t.cke, .int .i64 t.xp, .int .i64 t.xs] 32) := by subst hw1; exact heap_alloc_new _ _
  by_cases h : TimOk t
  case neg =>
    have K := Lib.hid (decide_eq_false h)
    have HE : Hid (v = 0) := by show _ = _; rw [← hv]; exact if_neg (fun hh => h hh.1)
    clear hv h
    go_enter Try.func82, Try.ntmps82
    go_wp2_with (first | ((with_reducible refine ld_tm ?_ ?_ p1 ?_); kernel_rfl; kernel_rfl; go_simp))
    refine (implTimOk_is t _ K.out _).mono ?_
    rintro e w2 ⟨rfl, hb2⟩
    have p2 := keep_block hb2 p1 (lt_of_block p1)
    have HB2 : Hid (Below w.heap.size w w2) := HB1.out.trans (hb2.mono HB1.out.size)
    clear hb2 p1 HB1
    go_wp2
    go_ret
    exact ⟨ret_i HE.out.symm, HB2.out⟩
  have K := Lib.hid (decide_eq_true h)
  by_cases ha : 1 ≤ a ∧ a ≤ 9
  case neg =>
    have KA := Lib.hid (decide_eq_false ha)
    have HE : Hid (v = 0) := by show _ = _; rw [← hv]; exact if_neg (fun hh => ha hh.2.1)
    clear hv h ha
    go_enter Try.func82, Try.ntmps82
    go_wp2_with (first | ((with_reducible refine ld_tm ?_ ?_ p1 ?_); kernel_rfl; kernel_rfl; go_simp))
    refine (implTimOk_is t _ K.out _).mono ?_
    rintro e w2 ⟨rfl, hb2⟩
    have p2 := keep_block hb2 p1 (lt_of_block p1)
    have HB2 : Hid (Below w.heap.size w w2) := HB1.out.trans (hb2.mono HB1.out.size)
    clear hb2 p1 HB1
    go_wp2_with fail
    refine (implKindOk_is _ _ KA.out _).mono ?_
    rintro e w' ⟨rfl, rfl⟩
    go_wp2
    go_ret
    exact ⟨ret_i HE.out.symm, HB2.out⟩
  have KA := Lib.hid (decide_eq_true ha)
  by_cases hb : 1 ≤ b ∧ b ≤ 9
  case neg =>
    have KB := Lib.hid (decide_eq_false hb)
    have HE : Hid (v = 0) := by show _ = _; rw [← hv]; exact if_neg (fun hh => hb hh.2.2)
    clear hv h ha hb
    go_enter Try.func82, Try.ntmps82
    go_wp2_with (first | ((with_reducible refine ld_tm ?_ ?_ p1 ?_); kernel_rfl; kernel_rfl; go_simp))
    refine (implTimOk_is t _ K.out _).mono ?_
    rintro e w2 ⟨rfl, hb2⟩
    have p2 := keep_block hb2 p1 (lt_of_block p1)
    have HB2 : Hid (Below w.heap.size w w2) := HB1.out.trans (hb2.mono HB1.out.size)
    clear hb2 p1 HB1
    go_wp2_with fail
    refine (implKindOk_is _ _ KA.out _).mono ?_
    rintro e w' ⟨rfl, rfl⟩
    go_wp2_with fail
    refine (implKindOk_is _ _ KB.out _).mono ?_
    rintro e w' ⟨rfl, rfl⟩
    go_wp2
    go_ret
    exact ⟨ret_i HE.out.symm, HB2.out⟩
  have KB := Lib.hid (decide_eq_true hb)
  have HE : Hid (v = rankR t a b n) := by show _ = _; rw [← hv]; exact if_pos ⟨h, ha, hb⟩
  cases n
  · obtain ⟨rv, ru, ix1, ix2, hd⟩ := rankF_rule t h a b ha hb
    have HD := Lib.hid hd
    obtain ⟨TT, hT⟩ : ∃ TT, (.agg rankFCells : Value) = TT := ⟨_, rfl⟩
    rw [hT] at ix1
    have HT : Hid (∀ w, Calls Try.prog 89 #[.bool false] w (Gives TT w)) := fun w => by rw [← hT]; exact implRankF_is w
    clear hv h ha hb hd hT
    go_enter Try.func82, Try.ntmps82
    go_wp2_with (first | ((with_reducible refine ld_tm ?_ ?_ p1 ?_); kernel_rfl; kernel_rfl; go_simp))
    refine (implTimOk_is t _ K.out _).mono ?_
    rintro e w2 ⟨rfl, hb2⟩
    have p2 := keep_block hb2 p1 (lt_of_block p1)
    have HB2 : Hid (Below w.heap.size w w2) := HB1.out.trans (hb2.mono HB1.out.size)
    clear hb2 p1 HB1
    go_wp2_with fail
    refine (implKindOk_is _ _ KA.out _).mono ?_
    rintro e w' ⟨rfl, rfl⟩
    go_wp2_with fail
    refine (implKindOk_is _ _ KB.out _).mono ?_
    rintro e w' ⟨rfl, rfl⟩
    clear hw1 K KA KB
    go_wp2_with fail
    refine wp_region_later (by kernel_rfl) (by kernel_rfl) ?_
    repeat (first | ((with_reducible refine ld_later ?_ ?_ p2 ?_); kernel_rfl; kernel_rfl; go_simp) | go_big_quiet_step (first | (go_at_call 89; exact Gives.later _ (HT.out _)) | (go_at_call 88; exact Gives.later _ (HD.out _))))
    refine wpQuiet_nil ?_
    intro zz
    go_wp2
    go_ret
    exact ⟨ret_i HE.out.symm, HB2.out.trans (zz.ok.mono HB2.out.size)⟩
  · obtain ⟨rv, ru, ix1, ix2, hd⟩ := rankT_rule t h a b ha hb
    have HD := Lib.hid hd
    obtain ⟨TT, hT⟩ : ∃ TT, (.agg rankTCells : Value) = TT := ⟨_, rfl⟩
    rw [hT] at ix1
    have HT : Hid (∀ w, Calls Try.prog 89 #[.bool true] w (Gives TT w)) := fun w => by rw [← hT]; exact implRankT_is w
    clear hv h ha hb hd hT
    go_enter Try.func82, Try.ntmps82
    go_wp2_with (first | ((with_reducible refine ld_tm ?_ ?_ p1 ?_); kernel_rfl; kernel_rfl; go_simp))
    refine (implTimOk_is t _ K.out _).mono ?_
    rintro e w2 ⟨rfl, hb2⟩
    have p2 := keep_block hb2 p1 (lt_of_block p1)
    have HB2 : Hid (Below w.heap.size w w2) := HB1.out.trans (hb2.mono HB1.out.size)
    clear hb2 p1 HB1
    go_wp2_with fail
    refine (implKindOk_is _ _ KA.out _).mono ?_
    rintro e w' ⟨rfl, rfl⟩
    go_wp2_with fail
    refine (implKindOk_is _ _ KB.out _).mono ?_
    rintro e w' ⟨rfl, rfl⟩
    clear hw1 K KA KB
    go_wp2_with fail
    refine wp_region_later (by kernel_rfl) (by kernel_rfl) ?_
    repeat (first | ((with_reducible refine ld_later ?_ ?_ p2 ?_); kernel_rfl; kernel_rfl; go_simp) | go_big_quiet_step (first | (go_at_call 89; exact Gives.later _ (HT.out _)) | (go_at_call 88; exact Gives.later _ (HD.out _))))
    refine wpQuiet_nil ?_
    intro zz
    go_wp2
    go_ret
    exact ⟨ret_i HE.out.symm, HB2.out.trans (zz.ok.mono HB2.out.size)⟩

end Go.Proofs.Ytihhcnckoeaihaa
