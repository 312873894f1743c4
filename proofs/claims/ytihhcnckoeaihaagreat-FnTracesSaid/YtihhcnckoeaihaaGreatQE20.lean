/-
  Texts of one proof, merged: TrcT.
-/
import Derived.Test.YtihhcnckoeaihaaGreatQE17
namespace Go.Proofs.YtihhcnckoeaihaaGreat
open Go.RowKit

set_option linter.unusedVariables false

theorem tim_rp {t : Tm} (h : TimOk t) {x : Int} (hx : 1 ≤ x ∧ x ≤ 64) : TimOk { t with rp := x } := by
  obtain ⟨h1, h2⟩ := h
  refine ⟨fun y hy => ?_, h2⟩
  simp only [Tm.l, List.mem_cons, List.not_mem_nil, or_false] at hy
  have hh := fun z hz => h1 z hz
  simp only [Tm.l, List.mem_cons, List.not_mem_nil, or_false] at hh
  rcases hy with rfl | rfl | rfl | rfl | rfl | rfl | rfl | rfl | rfl | rfl | rfl | rfl | rfl | rfl | rfl | rfl | rfl
  all_goals first | exact hx | exact hh _ (by simp)

theorem tim_rfc {t : Tm} (h : TimOk t) {x : Int} (hx : 1 ≤ x ∧ x ≤ 64) : TimOk { t with rfc := x } := by
  obtain ⟨h1, h2⟩ := h
  refine ⟨fun y hy => ?_, h2⟩
  simp only [Tm.l, List.mem_cons, List.not_mem_nil, or_false] at hy
  have hh := fun z hz => h1 z hz
  simp only [Tm.l, List.mem_cons, List.not_mem_nil, or_false] at hh
  rcases hy with rfl | rfl | rfl | rfl | rfl | rfl | rfl | rfl | rfl | rfl | rfl | rfl | rfl | rfl | rfl | rfl | rfl
  all_goals first | exact hx | exact hh _ (by simp)

theorem tim_wr {t : Tm} (h : TimOk t) {x : Int} (hx : 1 ≤ x ∧ x ≤ 64) : TimOk { t with wr := x } := by
  obtain ⟨h1, h2⟩ := h
  refine ⟨fun y hy => ?_, h2⟩
  simp only [Tm.l, List.mem_cons, List.not_mem_nil, or_false] at hy
  have hh := fun z hz => h1 z hz
  simp only [Tm.l, List.mem_cons, List.not_mem_nil, or_false] at hh
  rcases hy with rfl | rfl | rfl | rfl | rfl | rfl | rfl | rfl | rfl | rfl | rfl | rfl | rfl | rfl | rfl | rfl | rfl
  all_goals first | exact hx | exact hh _ (by simp)

theorem tim_faw {t : Tm} (h : TimOk t) {x : Int} (hx : 1 ≤ x ∧ x ≤ 64) : TimOk { t with faw := x } := by
  obtain ⟨h1, h2⟩ := h
  refine ⟨fun y hy => ?_, h2⟩
  simp only [Tm.l, List.mem_cons, List.not_mem_nil, or_false] at hy
  have hh := fun z hz => h1 z hz
  simp only [Tm.l, List.mem_cons, List.not_mem_nil, or_false] at hh
  rcases hy with rfl | rfl | rfl | rfl | rfl | rfl | rfl | rfl | rfl | rfl | rfl | rfl | rfl | rfl | rfl | rfl | rfl
  all_goals first | exact hx | exact hh _ (by simp)

theorem tim_rtw {t : Tm} (h : TimOk t) {x : Int} (hx : 1 ≤ x ∧ x ≤ 64) : TimOk { t with rtw := x } := by
  obtain ⟨h1, h2⟩ := h
  refine ⟨fun y hy => ?_, h2⟩
  simp only [Tm.l, List.mem_cons, List.not_mem_nil, or_false] at hy
  have hh := fun z hz => h1 z hz
  simp only [Tm.l, List.mem_cons, List.not_mem_nil, or_false] at hh
  rcases hy with rfl | rfl | rfl | rfl | rfl | rfl | rfl | rfl | rfl | rfl | rfl | rfl | rfl | rfl | rfl | rfl | rfl
  all_goals first | exact hx | exact hh _ (by simp)

/-- What a drawn timing leaves: a valid one. -/
def DrewTmOk (c B : Nat) (w : World) (e : Ending) (w' : World) : Prop := ∃ t : Tm, e = .returned (.agg #[.int .i64 t.rcd, .int .i64 t.rp, .int .i64 t.ras, .int .i64 t.rrds, .int .i64 t.rrdl, .int .i64 t.faw, .int .i64 t.ccds, .int .i64 t.ccdl, .int .i64 t.rtp, .int .i64 t.wr, .int .i64 t.wtrs, .int .i64 t.wtrl, .int .i64 t.rtw, .int .i64 t.rfc, .int .i64 t.cke, .int .i64 t.xp, .int .i64 t.xs]) ∧ TimOk t ∧ Cur c B w' ∧ Only c w w'

set_option maxHeartbeats 8000000 in
theorem l07TimeOk_any {c B : Nat} {w : World} (hcur : Cur c B w) : Calls Tryz.prog 49 #[.pointer (some ⟨c, 0, none⟩)] w (DrewTmOk c B w) := by
  have hBc : B ≤ c := by obtain ⟨_, _, _, _, _, _, _, h, _⟩ := hcur; exact h
  have HC := Lib.hid hcur
  have SPEC : Hid (∀ w, Calls Tryz.prog 74 #[] w (Gives (.agg #[.int .i64 fastT.rcd, .int .i64 fastT.rp, .int .i64 fastT.ras, .int .i64 fastT.rrds, .int .i64 fastT.rrdl, .int .i64 fastT.faw, .int .i64 fastT.ccds, .int .i64 fastT.ccdl, .int .i64 fastT.rtp, .int .i64 fastT.wr, .int .i64 fastT.wtrs, .int .i64 fastT.wtrl, .int .i64 fastT.rtw, .int .i64 fastT.rfc, .int .i64 fastT.cke, .int .i64 fastT.xp, .int .i64 fastT.xs]) w)) := fun w => specFast_is w
  obtain ⟨t, ht⟩ : ∃ t, fastT = t := ⟨_, rfl⟩
  rw [ht] at SPEC
  have OK : Hid (TimOk t) := by show TimOk _; rw [← ht]; exact fast_ok
  clear ht hcur
  go_enter Tryz.func49, Tryz.ntmps49
  go_wp2_with fail
  refine (SPEC.out _).mono ?_
  rintro e w1 ⟨rfl, hb1⟩
  have hn := heap_alloc_new w1 (.cells #[.int .i64 0, .int .i64 0, .int .i64 0, .int .i64 0, .int .i64 0, .int .i64 0, .int .i64 0, .int .i64 0, .int .i64 0, .int .i64 0, .int .i64 0, .int .i64 0, .int .i64 0, .int .i64 0, .int .i64 0, .int .i64 0, .int .i64 0] 27)
  have D := Lib.hid (Dr.made (t := t) HC.out hBc ((HC.out.alloc _).keep (hb1.block _ (by have := HC.out.lt; simp; omega)) (hb1.mono (by have := HC.out.lt; simp; omega))) ((Only.refl _ _).later hb1))
  have HS : Hid (w.heap.size < w1.heap.size) := by have := hb1.size; rw [World.size_alloc] at this; exact this
  clear hb1
  go_wp2_with ((with_reducible refine store_list (cells := #[.int .i64 t.rcd, .int .i64 t.rp, .int .i64 t.ras, .int .i64 t.rrds, .int .i64 t.rrdl, .int .i64 t.faw, .int .i64 t.ccds, .int .i64 t.ccdl, .int .i64 t.rtp, .int .i64 t.wr, .int .i64 t.wtrs, .int .i64 t.wtrl, .int .i64 t.rtw, .int .i64 t.rfc, .int .i64 t.cke, .int .i64 t.xp, .int .i64 t.xs]) hn ?_ ?_ ?_ ?_ ?_ ?_); kernel_rfl; kernel_rfl; kernel_rfl; kernel_rfl; kernel_rfl)
  obtain ⟨PB, hPB⟩ : ∃ p, w1.heap.size = p := ⟨_, rfl⟩
  generalize ((w1.alloc (.cells #[.int .i64 0, .int .i64 0, .int .i64 0, .int .i64 0, .int .i64 0, .int .i64 0, .int .i64 0, .int .i64 0, .int .i64 0, .int .i64 0, .int .i64 0, .int .i64 0, .int .i64 0, .int .i64 0, .int .i64 0, .int .i64 0, .int .i64 0] 27)).setRow w1.heap.size #[.int .i64 t.rcd, .int .i64 t.rp, .int .i64 t.ras, .int .i64 t.rrds, .int .i64 t.rrdl, .int .i64 t.faw, .int .i64 t.ccds, .int .i64 t.ccdl, .int .i64 t.rtp, .int .i64 t.wr, .int .i64 t.wtrs, .int .i64 t.wtrl, .int .i64 t.rtw, .int .i64 t.rfc, .int .i64 t.cke, .int .i64 t.xp, .int .i64 t.xs]) = v1 at D ⊢
  rw [hPB] at D
  (try simp only [hPB])
  clear hn hPB HS SPEC HC hBc
  refine (l01Once_any D.out.cur 2 (by omega)).mono ?_
  rintro e w2 ⟨x, rfl, hc, ho⟩
  have E := Lib.hid (D.out.on hc ho)
  clear D hc ho
  cases x
  · have p := E.out.var
    have z := E.out.res
    go_wp2_with (first | (first | ((with_reducible refine ld_tm ?_ ?_ p ?_); kernel_rfl; kernel_rfl; go_simp)) | ((with_reducible refine store_list (cells := #[.int .i64 t.rcd, .int .i64 t.rp, .int .i64 t.ras, .int .i64 t.rrds, .int .i64 t.rrdl, .int .i64 t.faw, .int .i64 t.ccds, .int .i64 t.ccdl, .int .i64 t.rtp, .int .i64 t.wr, .int .i64 t.wtrs, .int .i64 t.wtrl, .int .i64 t.rtw, .int .i64 t.rfc, .int .i64 t.cke, .int .i64 t.xp, .int .i64 t.xs]) z ?_ ?_ ?_ ?_ ?_ ?_); kernel_rfl; kernel_rfl; kernel_rfl; kernel_rfl; kernel_rfl))
    have hr := setRow_same _ _ #[.int .i64 t.rcd, .int .i64 t.rp, .int .i64 t.ras, .int .i64 t.rrds, .int .i64 t.rrdl, .int .i64 t.faw, .int .i64 t.ccds, .int .i64 t.ccdl, .int .i64 t.rtp, .int .i64 t.wr, .int .i64 t.wtrs, .int .i64 t.wtrl, .int .i64 t.rtw, .int .i64 t.rfc, .int .i64 t.cke, .int .i64 t.xp, .int .i64 t.xs] _ _ z
    refine bodyPost_ret (v := .agg #[.int .i64 t.rcd, .int .i64 t.rp, .int .i64 t.ras, .int .i64 t.rrds, .int .i64 t.rrdl, .int .i64 t.faw, .int .i64 t.ccds, .int .i64 t.ccdl, .int .i64 t.rtp, .int .i64 t.wr, .int .i64 t.wtrs, .int .i64 t.wtrl, .int .i64 t.rtw, .int .i64 t.rfc, .int .i64 t.cke, .int .i64 t.xp, .int .i64 t.xs]) (results_cell_row rfl _ _ w.heap.size 27 #[.int .i64 t.rcd, .int .i64 t.rp, .int .i64 t.ras, .int .i64 t.rrds, .int .i64 t.rrdl, .int .i64 t.faw, .int .i64 t.ccds, .int .i64 t.ccdl, .int .i64 t.rtp, .int .i64 t.wr, .int .i64 t.wtrs, .int .i64 t.wtrl, .int .i64 t.rtw, .int .i64 t.rfc, .int .i64 t.cke, .int .i64 t.xp, .int .i64 t.xs] (0, 0) _ rfl hr Tryz.underlying27 rfl (by kernel_rfl)) rfl ⟨t, rfl, OK.out, ?_, ?_⟩
    · exact (E.out.cur).keep (setRow_other _ _ _ _ (by have := E.out.cu; omega)) (below_setRow (Below.refl _ _) (by have := E.out.cu; omega) _)
    · exact E.out.only.trans' ⟨rfl, rfl, rfl, by simp⟩ (fun k hk hne => setRow_other _ _ _ _ (by omega))
  have D := Lib.hid E.out
  clear E
  go_wp2_with fail
  refine (l01Below_any D.out.cur 6 (by omega)).mono ?_
  rintro e w3 ⟨x3, rfl, h0, h1, hc, ho⟩
  rw [topOf_pos (by omega)] at h1
  have E := Lib.hid (D.out.on hc ho)
  have e1 : IntKind.i64.wrap (1 + x3) = 1 + x3 := IntWalk.i64_in _ ⟨by omega, by omega⟩
  obtain ⟨c0, c1, c2, c3, c4, c5, c6, c7, c8, c9, c10, c11, c12, c13, c14, c15, c16⟩ := tm_cells E.out.var
  have fz := thawed E.out.var 1
  have D2 := E.out.set_rp (1 + x3)
  have OK0' := tim_rp OK.out (x := 1 + x3) (by omega)
  obtain ⟨t0, htm⟩ : ∃ u : Tm, { t with rp := 1 + x3 } = u := ⟨_, rfl⟩
  rw [htm] at OK0'
  have OK0 : Hid (TimOk t0) := OK0'
  clear OK0'
  rw [htm] at D2
  have D3 := Lib.hid D2
  clear hc ho D h0 h1 D2 htm
  go_wp2_with fail
  generalize (w3.setCell ⟨PB, 1, none⟩ (.int .i64 (1 + x3))) = v3 at D3 ⊢
  have D := D3
  clear c0 c1 c2 c3 c4 c5 c6 c7 c8 c9 c10 c11 c12 c13 c14 c15 c16 fz e1 E D3
  go_wp2_with fail
  refine (l01Below_any D.out.cur 20 (by omega)).mono ?_
  rintro e w4 ⟨x4, rfl, h0, h1, hc, ho⟩
  rw [topOf_pos (by omega)] at h1
  have E := Lib.hid (D.out.on hc ho)
  have e1 : IntKind.i64.wrap (4 + x4) = 4 + x4 := IntWalk.i64_in _ ⟨by omega, by omega⟩
  obtain ⟨c0, c1, c2, c3, c4, c5, c6, c7, c8, c9, c10, c11, c12, c13, c14, c15, c16⟩ := tm_cells E.out.var
  have fz := thawed E.out.var 13
  have D2 := E.out.set_rfc (4 + x4)
  have OK1' := tim_rfc OK0.out (x := 4 + x4) (by omega)
  obtain ⟨t1, htm⟩ : ∃ u : Tm, { t0 with rfc := 4 + x4 } = u := ⟨_, rfl⟩
  rw [htm] at OK1'
  have OK1 : Hid (TimOk t1) := OK1'
  clear OK1'
  rw [htm] at D2
  have D3 := Lib.hid D2
  clear hc ho D h0 h1 D2 htm
  go_wp2_with fail
  generalize (w4.setCell ⟨PB, 13, none⟩ (.int .i64 (4 + x4))) = v4 at D3 ⊢
  have D := D3
  clear c0 c1 c2 c3 c4 c5 c6 c7 c8 c9 c10 c11 c12 c13 c14 c15 c16 fz e1 E D3
  go_wp2_with fail
  refine (l01Below_any D.out.cur 9 (by omega)).mono ?_
  rintro e w5 ⟨x5, rfl, h0, h1, hc, ho⟩
  rw [topOf_pos (by omega)] at h1
  have E := Lib.hid (D.out.on hc ho)
  have e1 : IntKind.i64.wrap (1 + x5) = 1 + x5 := IntWalk.i64_in _ ⟨by omega, by omega⟩
  obtain ⟨c0, c1, c2, c3, c4, c5, c6, c7, c8, c9, c10, c11, c12, c13, c14, c15, c16⟩ := tm_cells E.out.var
  have fz := thawed E.out.var 9
  have D2 := E.out.set_wr (1 + x5)
  have OK2' := tim_wr OK1.out (x := 1 + x5) (by omega)
  obtain ⟨t2, htm⟩ : ∃ u : Tm, { t1 with wr := 1 + x5 } = u := ⟨_, rfl⟩
  rw [htm] at OK2'
  have OK2 : Hid (TimOk t2) := OK2'
  clear OK2'
  rw [htm] at D2
  have D3 := Lib.hid D2
  clear hc ho D h0 h1 D2 htm
  go_wp2_with fail
  generalize (w5.setCell ⟨PB, 9, none⟩ (.int .i64 (1 + x5))) = v5 at D3 ⊢
  have D := D3
  clear c0 c1 c2 c3 c4 c5 c6 c7 c8 c9 c10 c11 c12 c13 c14 c15 c16 fz e1 E D3
  go_wp2_with fail
  refine (l01Below_any D.out.cur 20 (by omega)).mono ?_
  rintro e w6 ⟨x6, rfl, h0, h1, hc, ho⟩
  rw [topOf_pos (by omega)] at h1
  have E := Lib.hid (D.out.on hc ho)
  have e1 : IntKind.i64.wrap (4 + x6) = 4 + x6 := IntWalk.i64_in _ ⟨by omega, by omega⟩
  obtain ⟨c0, c1, c2, c3, c4, c5, c6, c7, c8, c9, c10, c11, c12, c13, c14, c15, c16⟩ := tm_cells E.out.var
  have fz := thawed E.out.var 5
  have D2 := E.out.set_faw (4 + x6)
  have OK3' := tim_faw OK2.out (x := 4 + x6) (by omega)
  obtain ⟨t3, htm⟩ : ∃ u : Tm, { t2 with faw := 4 + x6 } = u := ⟨_, rfl⟩
  rw [htm] at OK3'
  have OK3 : Hid (TimOk t3) := OK3'
  clear OK3'
  rw [htm] at D2
  have D3 := Lib.hid D2
  clear hc ho D h0 h1 D2 htm
  go_wp2_with fail
  generalize (w6.setCell ⟨PB, 5, none⟩ (.int .i64 (4 + x6))) = v6 at D3 ⊢
  have D := D3
  clear c0 c1 c2 c3 c4 c5 c6 c7 c8 c9 c10 c11 c12 c13 c14 c15 c16 fz e1 E D3
  go_wp2_with fail
  refine (l01Below_any D.out.cur 8 (by omega)).mono ?_
  rintro e w7 ⟨x7, rfl, h0, h1, hc, ho⟩
  rw [topOf_pos (by omega)] at h1
  have E := Lib.hid (D.out.on hc ho)
  have e1 : IntKind.i64.wrap (1 + x7) = 1 + x7 := IntWalk.i64_in _ ⟨by omega, by omega⟩
  obtain ⟨c0, c1, c2, c3, c4, c5, c6, c7, c8, c9, c10, c11, c12, c13, c14, c15, c16⟩ := tm_cells E.out.var
  have fz := thawed E.out.var 12
  have D2 := E.out.set_rtw (1 + x7)
  have OK4' := tim_rtw OK3.out (x := 1 + x7) (by omega)
  obtain ⟨t4, htm⟩ : ∃ u : Tm, { t3 with rtw := 1 + x7 } = u := ⟨_, rfl⟩
  rw [htm] at OK4'
  have OK4 : Hid (TimOk t4) := OK4'
  clear OK4'
  rw [htm] at D2
  have D3 := Lib.hid D2
  clear hc ho D h0 h1 D2 htm
  have p := D3.out.var
  have z := D3.out.res
  go_wp2_with (first | (first | ((with_reducible refine ld_tm ?_ ?_ p ?_); kernel_rfl; kernel_rfl; go_simp)) | ((with_reducible refine store_list (cells := #[.int .i64 t4.rcd, .int .i64 t4.rp, .int .i64 t4.ras, .int .i64 t4.rrds, .int .i64 t4.rrdl, .int .i64 t4.faw, .int .i64 t4.ccds, .int .i64 t4.ccdl, .int .i64 t4.rtp, .int .i64 t4.wr, .int .i64 t4.wtrs, .int .i64 t4.wtrl, .int .i64 t4.rtw, .int .i64 t4.rfc, .int .i64 t4.cke, .int .i64 t4.xp, .int .i64 t4.xs]) z ?_ ?_ ?_ ?_ ?_ ?_); kernel_rfl; kernel_rfl; kernel_rfl; kernel_rfl; kernel_rfl))
  have hr := setRow_same _ _ #[.int .i64 t4.rcd, .int .i64 t4.rp, .int .i64 t4.ras, .int .i64 t4.rrds, .int .i64 t4.rrdl, .int .i64 t4.faw, .int .i64 t4.ccds, .int .i64 t4.ccdl, .int .i64 t4.rtp, .int .i64 t4.wr, .int .i64 t4.wtrs, .int .i64 t4.wtrl, .int .i64 t4.rtw, .int .i64 t4.rfc, .int .i64 t4.cke, .int .i64 t4.xp, .int .i64 t4.xs] _ _ z
  refine bodyPost_ret (v := .agg #[.int .i64 t4.rcd, .int .i64 t4.rp, .int .i64 t4.ras, .int .i64 t4.rrds, .int .i64 t4.rrdl, .int .i64 t4.faw, .int .i64 t4.ccds, .int .i64 t4.ccdl, .int .i64 t4.rtp, .int .i64 t4.wr, .int .i64 t4.wtrs, .int .i64 t4.wtrl, .int .i64 t4.rtw, .int .i64 t4.rfc, .int .i64 t4.cke, .int .i64 t4.xp, .int .i64 t4.xs]) (results_cell_row rfl _ _ w.heap.size 27 #[.int .i64 t4.rcd, .int .i64 t4.rp, .int .i64 t4.ras, .int .i64 t4.rrds, .int .i64 t4.rrdl, .int .i64 t4.faw, .int .i64 t4.ccds, .int .i64 t4.ccdl, .int .i64 t4.rtp, .int .i64 t4.wr, .int .i64 t4.wtrs, .int .i64 t4.wtrl, .int .i64 t4.rtw, .int .i64 t4.rfc, .int .i64 t4.cke, .int .i64 t4.xp, .int .i64 t4.xs] (0, 0) _ rfl hr Tryz.underlying27 rfl (by kernel_rfl)) rfl ⟨t4, rfl, OK4.out, ?_, ?_⟩
  · exact (D3.out.cur).keep (setRow_other _ _ _ _ (by have := D3.out.cu; omega)) (below_setRow (Below.refl _ _) (by have := D3.out.cu; omega) _)
  · exact D3.out.only.trans' ⟨rfl, rfl, rfl, by simp⟩ (fun k hk hne => setRow_other _ _ _ _ (by omega))

end Go.Proofs.YtihhcnckoeaihaaGreat
