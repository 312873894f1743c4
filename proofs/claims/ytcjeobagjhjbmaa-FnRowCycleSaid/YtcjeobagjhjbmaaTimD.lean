/-
  The draws of a timing.
-/
import Derived.Test.YtcjeobagjhjbmaaTimW
import Derived.Test.YtcjeobagjhjbmaaDrawGeoW
import Derived.Test.YtcjeobagjhjbmaaGivesI
namespace Go.Proofs.Ytcjeobagjhjbmaa
open Go.RowKit

set_option linter.unusedVariables false

/-- While a timing is drawn: the cursor at block c, the answer's variable at rb (all 0), the timing's at pb. -/
structure Dr (c B : Nat) (w : World) (rb pb : Nat) (t : Tm) (w' : World) : Prop where
  cur : Cur c B w'
  only : Only c w w'
  res : w'.heap[rb]? = some (.cells #[.int .i64 0, .int .i64 0, .int .i64 0, .int .i64 0, .int .i64 0, .int .i64 0, .int .i64 0, .int .i64 0, .int .i64 0, .int .i64 0, .int .i64 0, .int .i64 0, .int .i64 0, .int .i64 0, .int .i64 0, .int .i64 0, .int .i64 0] 25)
  var : w'.heap[pb]? = some (.cells #[.int .i64 t.rcd, .int .i64 t.rp, .int .i64 t.ras, .int .i64 t.rrds, .int .i64 t.rrdl, .int .i64 t.faw, .int .i64 t.ccds, .int .i64 t.ccdl, .int .i64 t.rtp, .int .i64 t.wr, .int .i64 t.wtrs, .int .i64 t.wtrl, .int .i64 t.rtw, .int .i64 t.rfc, .int .i64 t.cke, .int .i64 t.xp, .int .i64 t.xs] 25)
  lo : w.heap.size ≤ rb ∧ rb < pb ∧ pb < w'.heap.size
  cu : B ≤ c ∧ c < w.heap.size

theorem Dr.on {c B rb pb : Nat} {t : Tm} {w w1 w2 : World} (h : Dr c B w rb pb t w1) (hc : Cur c B w2) (ho : Only c w1 w2) : Dr c B w rb pb t w2 :=
  ⟨hc, h.only.trans ho, (ho.block _ (by have := h.lo; omega) (by have := h.lo; have := h.cu; omega)).trans h.res, (ho.block _ (by have := h.lo; omega) (by have := h.lo; have := h.cu; omega)).trans h.var, ⟨h.lo.1, h.lo.2.1, by have := h.lo; have := ho.size; omega⟩, h.cu⟩

theorem Dr.put {c B rb pb : Nat} {t t' : Tm} {w w1 : World} (h : Dr c B w rb pb t w1) (k : Nat) (u : Value) (hv : (w1.setCell ⟨pb, k, none⟩ u).heap[pb]? = some (.cells #[.int .i64 t'.rcd, .int .i64 t'.rp, .int .i64 t'.ras, .int .i64 t'.rrds, .int .i64 t'.rrdl, .int .i64 t'.faw, .int .i64 t'.ccds, .int .i64 t'.ccdl, .int .i64 t'.rtp, .int .i64 t'.wr, .int .i64 t'.wtrs, .int .i64 t'.wtrl, .int .i64 t'.rtw, .int .i64 t'.rfc, .int .i64 t'.cke, .int .i64 t'.xp, .int .i64 t'.xs] 25)) : Dr c B w rb pb t' (w1.setCell ⟨pb, k, none⟩ u) :=
  ⟨h.cur.setNew (by have := h.lo; have := h.cu; show B ≤ pb; omega) (by have := h.lo; have := h.cu; show pb ≠ c; omega) u, h.only.setNew (by have := h.lo; show w.heap.size ≤ pb; omega) u, (Below.heap_setCell _ _ _ _ (by have := h.lo; show rb ≠ pb; omega)).trans h.res, hv, by have := h.lo; simp [World.setCell]; omega, h.cu⟩

theorem Dr.made {c B : Nat} {t : Tm} {w w2 : World} (hc : Cur c B w) (hBc : B ≤ c) (h2 : Cur c B w2) (ho : Only c (w.alloc (.cells #[.int .i64 0, .int .i64 0, .int .i64 0, .int .i64 0, .int .i64 0, .int .i64 0, .int .i64 0, .int .i64 0, .int .i64 0, .int .i64 0, .int .i64 0, .int .i64 0, .int .i64 0, .int .i64 0, .int .i64 0, .int .i64 0, .int .i64 0] 25)) w2) : Dr c B w w.heap.size w2.heap.size t ((w2.alloc (.cells #[.int .i64 0, .int .i64 0, .int .i64 0, .int .i64 0, .int .i64 0, .int .i64 0, .int .i64 0, .int .i64 0, .int .i64 0, .int .i64 0, .int .i64 0, .int .i64 0, .int .i64 0, .int .i64 0, .int .i64 0, .int .i64 0, .int .i64 0] 25)).setRow w2.heap.size #[.int .i64 t.rcd, .int .i64 t.rp, .int .i64 t.ras, .int .i64 t.rrds, .int .i64 t.rrdl, .int .i64 t.faw, .int .i64 t.ccds, .int .i64 t.ccdl, .int .i64 t.rtp, .int .i64 t.wr, .int .i64 t.wtrs, .int .i64 t.wtrl, .int .i64 t.rtw, .int .i64 t.rfc, .int .i64 t.cke, .int .i64 t.xp, .int .i64 t.xs]) := by
  have hlt := hc.lt
  have hs := ho.size
  rw [World.size_alloc] at hs
  have hn := heap_alloc_new w2 (.cells #[.int .i64 0, .int .i64 0, .int .i64 0, .int .i64 0, .int .i64 0, .int .i64 0, .int .i64 0, .int .i64 0, .int .i64 0, .int .i64 0, .int .i64 0, .int .i64 0, .int .i64 0, .int .i64 0, .int .i64 0, .int .i64 0, .int .i64 0] 25)
  have hr := setRow_same _ _ #[.int .i64 t.rcd, .int .i64 t.rp, .int .i64 t.ras, .int .i64 t.rrds, .int .i64 t.rrdl, .int .i64 t.faw, .int .i64 t.ccds, .int .i64 t.ccdl, .int .i64 t.rtp, .int .i64 t.wr, .int .i64 t.wtrs, .int .i64 t.wtrl, .int .i64 t.rtw, .int .i64 t.rfc, .int .i64 t.cke, .int .i64 t.xp, .int .i64 t.xs] _ _ hn
  have hk : ∀ k, k < w2.heap.size → ((w2.alloc (.cells #[.int .i64 0, .int .i64 0, .int .i64 0, .int .i64 0, .int .i64 0, .int .i64 0, .int .i64 0, .int .i64 0, .int .i64 0, .int .i64 0, .int .i64 0, .int .i64 0, .int .i64 0, .int .i64 0, .int .i64 0, .int .i64 0, .int .i64 0] 25)).setRow w2.heap.size #[.int .i64 t.rcd, .int .i64 t.rp, .int .i64 t.ras, .int .i64 t.rrds, .int .i64 t.rrdl, .int .i64 t.faw, .int .i64 t.ccds, .int .i64 t.ccdl, .int .i64 t.rtp, .int .i64 t.wr, .int .i64 t.wtrs, .int .i64 t.wtrl, .int .i64 t.rtw, .int .i64 t.rfc, .int .i64 t.cke, .int .i64 t.xp, .int .i64 t.xs]).heap[k]? = w2.heap[k]? := fun k hk => by rw [setRow_other _ _ _ _ (Nat.ne_of_lt hk), Below.heap_alloc _ _ _ hk]
  have hb : Below w2.heap.size w2 ((w2.alloc (.cells #[.int .i64 0, .int .i64 0, .int .i64 0, .int .i64 0, .int .i64 0, .int .i64 0, .int .i64 0, .int .i64 0, .int .i64 0, .int .i64 0, .int .i64 0, .int .i64 0, .int .i64 0, .int .i64 0, .int .i64 0, .int .i64 0, .int .i64 0] 25)).setRow w2.heap.size #[.int .i64 t.rcd, .int .i64 t.rp, .int .i64 t.ras, .int .i64 t.rrds, .int .i64 t.rrdl, .int .i64 t.faw, .int .i64 t.ccds, .int .i64 t.ccdl, .int .i64 t.rtp, .int .i64 t.wr, .int .i64 t.wtrs, .int .i64 t.wtrl, .int .i64 t.rtw, .int .i64 t.rfc, .int .i64 t.cke, .int .i64 t.xp, .int .i64 t.xs]) := below_setRow ((Below.refl _ _).alloc (Nat.le_refl _) _) (Nat.le_refl _) _
  exact ⟨h2.keep (hk c h2.lt) (hb.mono (by have := h2.lt; omega)), (((Only.refl c w).alloc _).trans ho).later hb, (hk _ (by omega)).trans ((ho.block _ (by simp) (by omega)).trans (heap_alloc_new _ _)), hr, ⟨Nat.le_refl _, by omega, by simp⟩, ⟨hBc, hlt⟩⟩

theorem Dr.set_rcd {c B rb pb : Nat} {t : Tm} {w w1 : World} (h : Dr c B w rb pb t w1) (x : Int) : Dr c B w rb pb { t with rcd := x } (w1.setCell ⟨pb, 0, none⟩ (.int .i64 x)) :=
  h.put 0 _ (set_cells h.var 0 _)

theorem Dr.set_rp {c B rb pb : Nat} {t : Tm} {w w1 : World} (h : Dr c B w rb pb t w1) (x : Int) : Dr c B w rb pb { t with rp := x } (w1.setCell ⟨pb, 1, none⟩ (.int .i64 x)) :=
  h.put 1 _ (set_cells h.var 1 _)

theorem Dr.set_rrds {c B rb pb : Nat} {t : Tm} {w w1 : World} (h : Dr c B w rb pb t w1) (x : Int) : Dr c B w rb pb { t with rrds := x } (w1.setCell ⟨pb, 3, none⟩ (.int .i64 x)) :=
  h.put 3 _ (set_cells h.var 3 _)

theorem Dr.set_faw {c B rb pb : Nat} {t : Tm} {w w1 : World} (h : Dr c B w rb pb t w1) (x : Int) : Dr c B w rb pb { t with faw := x } (w1.setCell ⟨pb, 5, none⟩ (.int .i64 x)) :=
  h.put 5 _ (set_cells h.var 5 _)

theorem Dr.set_ccds {c B rb pb : Nat} {t : Tm} {w w1 : World} (h : Dr c B w rb pb t w1) (x : Int) : Dr c B w rb pb { t with ccds := x } (w1.setCell ⟨pb, 6, none⟩ (.int .i64 x)) :=
  h.put 6 _ (set_cells h.var 6 _)

theorem Dr.set_wr {c B rb pb : Nat} {t : Tm} {w w1 : World} (h : Dr c B w rb pb t w1) (x : Int) : Dr c B w rb pb { t with wr := x } (w1.setCell ⟨pb, 9, none⟩ (.int .i64 x)) :=
  h.put 9 _ (set_cells h.var 9 _)

theorem Dr.set_wtrl {c B rb pb : Nat} {t : Tm} {w w1 : World} (h : Dr c B w rb pb t w1) (x : Int) : Dr c B w rb pb { t with wtrl := x } (w1.setCell ⟨pb, 11, none⟩ (.int .i64 x)) :=
  h.put 11 _ (set_cells h.var 11 _)

theorem Dr.set_rtw {c B rb pb : Nat} {t : Tm} {w w1 : World} (h : Dr c B w rb pb t w1) (x : Int) : Dr c B w rb pb { t with rtw := x } (w1.setCell ⟨pb, 12, none⟩ (.int .i64 x)) :=
  h.put 12 _ (set_cells h.var 12 _)

theorem Dr.set_rfc {c B rb pb : Nat} {t : Tm} {w w1 : World} (h : Dr c B w rb pb t w1) (x : Int) : Dr c B w rb pb { t with rfc := x } (w1.setCell ⟨pb, 13, none⟩ (.int .i64 x)) :=
  h.put 13 _ (set_cells h.var 13 _)

theorem Dr.set_xs {c B rb pb : Nat} {t : Tm} {w w1 : World} (h : Dr c B w rb pb t w1) (x : Int) : Dr c B w rb pb { t with xs := x } (w1.setCell ⟨pb, 16, none⟩ (.int .i64 x)) :=
  h.put 16 _ (set_cells h.var 16 _)

/-- What a drawn timing leaves. -/
def DrewTm (c B : Nat) (w : World) (e : Ending) (w' : World) : Prop := ∃ t : Tm, e = .returned (.agg #[.int .i64 t.rcd, .int .i64 t.rp, .int .i64 t.ras, .int .i64 t.rrds, .int .i64 t.rrdl, .int .i64 t.faw, .int .i64 t.ccds, .int .i64 t.ccdl, .int .i64 t.rtp, .int .i64 t.wr, .int .i64 t.wtrs, .int .i64 t.wtrl, .int .i64 t.rtw, .int .i64 t.rfc, .int .i64 t.cke, .int .i64 t.xp, .int .i64 t.xs]) ∧ Cur c B w' ∧ Only c w w'


set_option maxHeartbeats 8000000 in
theorem l07Time_any {c B : Nat} {w : World} (hcur : Cur c B w) : Calls Try.prog 54 #[.pointer (some ⟨c, 0, none⟩)] w (DrewTm c B w) := by
  have hBc : B ≤ c := by obtain ⟨_, _, _, _, _, _, _, h, _⟩ := hcur; exact h
  have HC := Lib.hid hcur
  have SPEC : Hid (∀ w, Calls Try.prog 23 #[] w (Gives (.agg #[.int .i64 fastT.rcd, .int .i64 fastT.rp, .int .i64 fastT.ras, .int .i64 fastT.rrds, .int .i64 fastT.rrdl, .int .i64 fastT.faw, .int .i64 fastT.ccds, .int .i64 fastT.ccdl, .int .i64 fastT.rtp, .int .i64 fastT.wr, .int .i64 fastT.wtrs, .int .i64 fastT.wtrl, .int .i64 fastT.rtw, .int .i64 fastT.rfc, .int .i64 fastT.cke, .int .i64 fastT.xp, .int .i64 fastT.xs]) w)) := fun w => specFast_is w
  obtain ⟨t, ht⟩ : ∃ t, fastT = t := ⟨_, rfl⟩
  rw [ht] at SPEC
  clear ht hcur
  go_enter Try.func54, Try.ntmps54
  go_wp2_with fail
  refine (SPEC.out _).mono ?_
  rintro e w1 ⟨rfl, hb1⟩
  have hn := heap_alloc_new w1 (.cells #[.int .i64 0, .int .i64 0, .int .i64 0, .int .i64 0, .int .i64 0, .int .i64 0, .int .i64 0, .int .i64 0, .int .i64 0, .int .i64 0, .int .i64 0, .int .i64 0, .int .i64 0, .int .i64 0, .int .i64 0, .int .i64 0, .int .i64 0] 25)
  have D := Lib.hid (Dr.made (t := t) HC.out hBc ((HC.out.alloc _).keep (hb1.block _ (by have := HC.out.lt; simp; omega)) (hb1.mono (by have := HC.out.lt; simp; omega))) ((Only.refl _ _).later hb1))
  have HS : Hid (w.heap.size < w1.heap.size) := by have := hb1.size; rw [World.size_alloc] at this; exact this
  clear hb1
  go_wp2_with ((with_reducible refine store_list (cells := #[.int .i64 t.rcd, .int .i64 t.rp, .int .i64 t.ras, .int .i64 t.rrds, .int .i64 t.rrdl, .int .i64 t.faw, .int .i64 t.ccds, .int .i64 t.ccdl, .int .i64 t.rtp, .int .i64 t.wr, .int .i64 t.wtrs, .int .i64 t.wtrl, .int .i64 t.rtw, .int .i64 t.rfc, .int .i64 t.cke, .int .i64 t.xp, .int .i64 t.xs]) hn ?_ ?_ ?_ ?_ ?_ ?_); kernel_rfl; kernel_rfl; kernel_rfl; kernel_rfl; kernel_rfl)
  obtain ⟨PB, hPB⟩ : ∃ p, w1.heap.size = p := ⟨_, rfl⟩
  generalize ((w1.alloc (.cells #[.int .i64 0, .int .i64 0, .int .i64 0, .int .i64 0, .int .i64 0, .int .i64 0, .int .i64 0, .int .i64 0, .int .i64 0, .int .i64 0, .int .i64 0, .int .i64 0, .int .i64 0, .int .i64 0, .int .i64 0, .int .i64 0, .int .i64 0] 25)).setRow w1.heap.size #[.int .i64 t.rcd, .int .i64 t.rp, .int .i64 t.ras, .int .i64 t.rrds, .int .i64 t.rrdl, .int .i64 t.faw, .int .i64 t.ccds, .int .i64 t.ccdl, .int .i64 t.rtp, .int .i64 t.wr, .int .i64 t.wtrs, .int .i64 t.wtrl, .int .i64 t.rtw, .int .i64 t.rfc, .int .i64 t.cke, .int .i64 t.xp, .int .i64 t.xs]) = v1 at D ⊢
  rw [hPB] at D
  (try simp only [hPB])
  clear hn hPB HS SPEC HC hBc
  refine (l01Once_any D.out.cur 2 (by omega)).mono ?_
  rintro e w2 ⟨x, rfl, hc, ho⟩
  have E := Lib.hid (D.out.on hc ho)
  clear D hc ho
  cases x
  · have p := E.out.var
    have z := E.out.res
    go_wp2_with (first | (first | ((with_reducible refine ld_tm ?_ ?_ p ?_); kernel_rfl; kernel_rfl; go_simp)) | ((with_reducible refine store_list (cells := #[.int .i64 t.rcd, .int .i64 t.rp, .int .i64 t.ras, .int .i64 t.rrds, .int .i64 t.rrdl, .int .i64 t.faw, .int .i64 t.ccds, .int .i64 t.ccdl, .int .i64 t.rtp, .int .i64 t.wr, .int .i64 t.wtrs, .int .i64 t.wtrl, .int .i64 t.rtw, .int .i64 t.rfc, .int .i64 t.cke, .int .i64 t.xp, .int .i64 t.xs]) z ?_ ?_ ?_ ?_ ?_ ?_); kernel_rfl; kernel_rfl; kernel_rfl; kernel_rfl; kernel_rfl))
    have hr := setRow_same _ _ #[.int .i64 t.rcd, .int .i64 t.rp, .int .i64 t.ras, .int .i64 t.rrds, .int .i64 t.rrdl, .int .i64 t.faw, .int .i64 t.ccds, .int .i64 t.ccdl, .int .i64 t.rtp, .int .i64 t.wr, .int .i64 t.wtrs, .int .i64 t.wtrl, .int .i64 t.rtw, .int .i64 t.rfc, .int .i64 t.cke, .int .i64 t.xp, .int .i64 t.xs] _ _ z
    refine bodyPost_ret (v := .agg #[.int .i64 t.rcd, .int .i64 t.rp, .int .i64 t.ras, .int .i64 t.rrds, .int .i64 t.rrdl, .int .i64 t.faw, .int .i64 t.ccds, .int .i64 t.ccdl, .int .i64 t.rtp, .int .i64 t.wr, .int .i64 t.wtrs, .int .i64 t.wtrl, .int .i64 t.rtw, .int .i64 t.rfc, .int .i64 t.cke, .int .i64 t.xp, .int .i64 t.xs]) (results_cell_row rfl _ _ w.heap.size 25 #[.int .i64 t.rcd, .int .i64 t.rp, .int .i64 t.ras, .int .i64 t.rrds, .int .i64 t.rrdl, .int .i64 t.faw, .int .i64 t.ccds, .int .i64 t.ccdl, .int .i64 t.rtp, .int .i64 t.wr, .int .i64 t.wtrs, .int .i64 t.wtrl, .int .i64 t.rtw, .int .i64 t.rfc, .int .i64 t.cke, .int .i64 t.xp, .int .i64 t.xs] (0, 0) _ rfl hr Try.underlying25 rfl (by kernel_rfl)) rfl ⟨t, rfl, ?_, ?_⟩
    · exact (E.out.cur).keep (setRow_other _ _ _ _ (by have := E.out.cu; omega)) (below_setRow (Below.refl _ _) (by have := E.out.cu; omega) _)
    · exact E.out.only.trans' ⟨rfl, rfl, rfl, by simp⟩ (fun k hk hne => setRow_other _ _ _ _ (by omega))
  have D := Lib.hid E.out
  clear E
  go_wp2_with fail
  refine (l01Below_any D.out.cur 6 (by omega)).mono ?_
  rintro e w3 ⟨x3, rfl, h0, h1, hc, ho⟩
  rw [topOf_pos (by omega)] at h1
  have E := Lib.hid (D.out.on hc ho)
  have e1 : IntKind.i64.wrap (1 + x3) = 1 + x3 := IntWalk.i64_in _ ⟨by omega, by omega⟩
  obtain ⟨c0, c1, c2, c3, c4, c5, c6, c7, c8, c9, c10, c11, c12, c13, c14, c15, c16⟩ := tm_cells E.out.var
  have fz := thawed E.out.var 1
  have D2 := E.out.set_rp (1 + x3)
  obtain ⟨t0, htm⟩ : ∃ u : Tm, { t with rp := 1 + x3 } = u := ⟨_, rfl⟩
  rw [htm] at D2
  have D3 := Lib.hid D2
  clear hc ho D h0 h1 D2 htm
  go_wp2_with fail
  generalize (w3.setCell ⟨PB, 1, none⟩ (.int .i64 (1 + x3))) = v3 at D3 ⊢
  have D := D3
  clear c0 c1 c2 c3 c4 c5 c6 c7 c8 c9 c10 c11 c12 c13 c14 c15 c16 fz e1 E D3
  go_wp2_with fail
  refine (l01Below_any D.out.cur 20 (by omega)).mono ?_
  rintro e w4 ⟨x4, rfl, h0, h1, hc, ho⟩
  rw [topOf_pos (by omega)] at h1
  have E := Lib.hid (D.out.on hc ho)
  have e1 : IntKind.i64.wrap (4 + x4) = 4 + x4 := IntWalk.i64_in _ ⟨by omega, by omega⟩
  obtain ⟨c0, c1, c2, c3, c4, c5, c6, c7, c8, c9, c10, c11, c12, c13, c14, c15, c16⟩ := tm_cells E.out.var
  have fz := thawed E.out.var 13
  have D2 := E.out.set_rfc (4 + x4)
  obtain ⟨t1, htm⟩ : ∃ u : Tm, { t0 with rfc := 4 + x4 } = u := ⟨_, rfl⟩
  rw [htm] at D2
  have D3 := Lib.hid D2
  clear hc ho D h0 h1 D2 htm
  go_wp2_with fail
  generalize (w4.setCell ⟨PB, 13, none⟩ (.int .i64 (4 + x4))) = v4 at D3 ⊢
  have D := D3
  clear c0 c1 c2 c3 c4 c5 c6 c7 c8 c9 c10 c11 c12 c13 c14 c15 c16 fz e1 E D3
  go_wp2_with fail
  refine (l01Below_any D.out.cur 9 (by omega)).mono ?_
  rintro e w5 ⟨x5, rfl, h0, h1, hc, ho⟩
  rw [topOf_pos (by omega)] at h1
  have E := Lib.hid (D.out.on hc ho)
  have e1 : IntKind.i64.wrap (1 + x5) = 1 + x5 := IntWalk.i64_in _ ⟨by omega, by omega⟩
  obtain ⟨c0, c1, c2, c3, c4, c5, c6, c7, c8, c9, c10, c11, c12, c13, c14, c15, c16⟩ := tm_cells E.out.var
  have fz := thawed E.out.var 9
  have D2 := E.out.set_wr (1 + x5)
  obtain ⟨t2, htm⟩ : ∃ u : Tm, { t1 with wr := 1 + x5 } = u := ⟨_, rfl⟩
  rw [htm] at D2
  have D3 := Lib.hid D2
  clear hc ho D h0 h1 D2 htm
  go_wp2_with fail
  generalize (w5.setCell ⟨PB, 9, none⟩ (.int .i64 (1 + x5))) = v5 at D3 ⊢
  have D := D3
  clear c0 c1 c2 c3 c4 c5 c6 c7 c8 c9 c10 c11 c12 c13 c14 c15 c16 fz e1 E D3
  go_wp2_with fail
  refine (l01Below_any D.out.cur 20 (by omega)).mono ?_
  rintro e w6 ⟨x6, rfl, h0, h1, hc, ho⟩
  rw [topOf_pos (by omega)] at h1
  have E := Lib.hid (D.out.on hc ho)
  have e1 : IntKind.i64.wrap (4 + x6) = 4 + x6 := IntWalk.i64_in _ ⟨by omega, by omega⟩
  obtain ⟨c0, c1, c2, c3, c4, c5, c6, c7, c8, c9, c10, c11, c12, c13, c14, c15, c16⟩ := tm_cells E.out.var
  have fz := thawed E.out.var 5
  have D2 := E.out.set_faw (4 + x6)
  obtain ⟨t3, htm⟩ : ∃ u : Tm, { t2 with faw := 4 + x6 } = u := ⟨_, rfl⟩
  rw [htm] at D2
  have D3 := Lib.hid D2
  clear hc ho D h0 h1 D2 htm
  go_wp2_with fail
  generalize (w6.setCell ⟨PB, 5, none⟩ (.int .i64 (4 + x6))) = v6 at D3 ⊢
  have D := D3
  clear c0 c1 c2 c3 c4 c5 c6 c7 c8 c9 c10 c11 c12 c13 c14 c15 c16 fz e1 E D3
  go_wp2_with fail
  refine (l01Below_any D.out.cur 8 (by omega)).mono ?_
  rintro e w7 ⟨x7, rfl, h0, h1, hc, ho⟩
  rw [topOf_pos (by omega)] at h1
  have E := Lib.hid (D.out.on hc ho)
  have e1 : IntKind.i64.wrap (1 + x7) = 1 + x7 := IntWalk.i64_in _ ⟨by omega, by omega⟩
  obtain ⟨c0, c1, c2, c3, c4, c5, c6, c7, c8, c9, c10, c11, c12, c13, c14, c15, c16⟩ := tm_cells E.out.var
  have fz := thawed E.out.var 12
  have D2 := E.out.set_rtw (1 + x7)
  obtain ⟨t4, htm⟩ : ∃ u : Tm, { t3 with rtw := 1 + x7 } = u := ⟨_, rfl⟩
  rw [htm] at D2
  have D3 := Lib.hid D2
  clear hc ho D h0 h1 D2 htm
  have p := D3.out.var
  have z := D3.out.res
  go_wp2_with (first | (first | ((with_reducible refine ld_tm ?_ ?_ p ?_); kernel_rfl; kernel_rfl; go_simp)) | ((with_reducible refine store_list (cells := #[.int .i64 t4.rcd, .int .i64 t4.rp, .int .i64 t4.ras, .int .i64 t4.rrds, .int .i64 t4.rrdl, .int .i64 t4.faw, .int .i64 t4.ccds, .int .i64 t4.ccdl, .int .i64 t4.rtp, .int .i64 t4.wr, .int .i64 t4.wtrs, .int .i64 t4.wtrl, .int .i64 t4.rtw, .int .i64 t4.rfc, .int .i64 t4.cke, .int .i64 t4.xp, .int .i64 t4.xs]) z ?_ ?_ ?_ ?_ ?_ ?_); kernel_rfl; kernel_rfl; kernel_rfl; kernel_rfl; kernel_rfl))
  have hr := setRow_same _ _ #[.int .i64 t4.rcd, .int .i64 t4.rp, .int .i64 t4.ras, .int .i64 t4.rrds, .int .i64 t4.rrdl, .int .i64 t4.faw, .int .i64 t4.ccds, .int .i64 t4.ccdl, .int .i64 t4.rtp, .int .i64 t4.wr, .int .i64 t4.wtrs, .int .i64 t4.wtrl, .int .i64 t4.rtw, .int .i64 t4.rfc, .int .i64 t4.cke, .int .i64 t4.xp, .int .i64 t4.xs] _ _ z
  refine bodyPost_ret (v := .agg #[.int .i64 t4.rcd, .int .i64 t4.rp, .int .i64 t4.ras, .int .i64 t4.rrds, .int .i64 t4.rrdl, .int .i64 t4.faw, .int .i64 t4.ccds, .int .i64 t4.ccdl, .int .i64 t4.rtp, .int .i64 t4.wr, .int .i64 t4.wtrs, .int .i64 t4.wtrl, .int .i64 t4.rtw, .int .i64 t4.rfc, .int .i64 t4.cke, .int .i64 t4.xp, .int .i64 t4.xs]) (results_cell_row rfl _ _ w.heap.size 25 #[.int .i64 t4.rcd, .int .i64 t4.rp, .int .i64 t4.ras, .int .i64 t4.rrds, .int .i64 t4.rrdl, .int .i64 t4.faw, .int .i64 t4.ccds, .int .i64 t4.ccdl, .int .i64 t4.rtp, .int .i64 t4.wr, .int .i64 t4.wtrs, .int .i64 t4.wtrl, .int .i64 t4.rtw, .int .i64 t4.rfc, .int .i64 t4.cke, .int .i64 t4.xp, .int .i64 t4.xs] (0, 0) _ rfl hr Try.underlying25 rfl (by kernel_rfl)) rfl ⟨t4, rfl, ?_, ?_⟩
  · exact (D3.out.cur).keep (setRow_other _ _ _ _ (by have := D3.out.cu; omega)) (below_setRow (Below.refl _ _) (by have := D3.out.cu; omega) _)
  · exact D3.out.only.trans' ⟨rfl, rfl, rfl, by simp⟩ (fun k hk hne => setRow_other _ _ _ _ (by omega))


def pkT0 : List Int := [0, 8, 65]

def pkT1 : List Int := [3, 4, 0]

def pkT2 : List Int := [3, 4, 65]

def pkT3 : List Int := [64, 65, -1]

def pkT4 : List Int := [3, 4]


set_option maxHeartbeats 8000000 in
theorem l07Any_any {c B : Nat} {w : World} (hcur : Cur c B w) : Calls Try.prog 35 #[.pointer (some ⟨c, 0, none⟩)] w (DrewTm c B w) := by
  have hBc : B ≤ c := by obtain ⟨_, _, _, _, _, _, _, h, _⟩ := hcur; exact h
  have HC := Lib.hid hcur
  clear hcur
  go_enter Try.func35, Try.ntmps35
  go_wp2_with fail
  refine (l07Time_any (HC.out.alloc _)).mono ?_
  rintro e w1 ⟨t, rfl, hc1, ho1⟩
  have hn := heap_alloc_new w1 (.cells #[.int .i64 0, .int .i64 0, .int .i64 0, .int .i64 0, .int .i64 0, .int .i64 0, .int .i64 0, .int .i64 0, .int .i64 0, .int .i64 0, .int .i64 0, .int .i64 0, .int .i64 0, .int .i64 0, .int .i64 0, .int .i64 0, .int .i64 0] 25)
  have D := Lib.hid (Dr.made (t := t) HC.out hBc hc1 ho1)
  clear hc1 ho1
  go_wp2_with ((with_reducible refine store_list (cells := #[.int .i64 t.rcd, .int .i64 t.rp, .int .i64 t.ras, .int .i64 t.rrds, .int .i64 t.rrdl, .int .i64 t.faw, .int .i64 t.ccds, .int .i64 t.ccdl, .int .i64 t.rtp, .int .i64 t.wr, .int .i64 t.wtrs, .int .i64 t.wtrl, .int .i64 t.rtw, .int .i64 t.rfc, .int .i64 t.cke, .int .i64 t.xp, .int .i64 t.xs]) hn ?_ ?_ ?_ ?_ ?_ ?_); kernel_rfl; kernel_rfl; kernel_rfl; kernel_rfl; kernel_rfl)
  obtain ⟨PB, hPB⟩ : ∃ p, w1.heap.size = p := ⟨_, rfl⟩
  generalize ((w1.alloc (.cells #[.int .i64 0, .int .i64 0, .int .i64 0, .int .i64 0, .int .i64 0, .int .i64 0, .int .i64 0, .int .i64 0, .int .i64 0, .int .i64 0, .int .i64 0, .int .i64 0, .int .i64 0, .int .i64 0, .int .i64 0, .int .i64 0, .int .i64 0] 25)).setRow w1.heap.size #[.int .i64 t.rcd, .int .i64 t.rp, .int .i64 t.ras, .int .i64 t.rrds, .int .i64 t.rrdl, .int .i64 t.faw, .int .i64 t.ccds, .int .i64 t.ccdl, .int .i64 t.rtp, .int .i64 t.wr, .int .i64 t.wtrs, .int .i64 t.wtrl, .int .i64 t.rtw, .int .i64 t.rfc, .int .i64 t.cke, .int .i64 t.xp, .int .i64 t.xs]) = v1 at D ⊢
  rw [hPB] at D
  (try simp only [hPB])
  clear hn hPB HC hBc
  refine (l01Below_any D.out.cur 16 (by omega)).mono ?_
  rintro e w2 ⟨q, rfl, hq0, hq1, hc, ho⟩
  have E := Lib.hid (D.out.on hc ho)
  clear D hc ho
  have cases : q = 0 ∨ q = 1 ∨ q = 2 ∨ q = 3 ∨ q = 4 ∨ 5 ≤ q := by omega
  rcases cases with rfl | rfl | rfl | rfl | rfl | hq
  · go_wp2_with fail
    refine (l01PickInt_any (fun _ => True) (E.out.cur.alloc _) w2.heap.size 3 pkT0 (ints_new _ _ _ _ rfl) (by have := E.out.cur.lt; omega) (by decide) (by decide) (fun _ _ => trivial)).mono ?_
    rintro e w3 ⟨y, rfl, _, hc, ho⟩
    have D := Lib.hid (E.out.on hc (((Only.refl c w2).alloc _).trans ho))
    obtain ⟨c0, c1, c2, c3, c4, c5, c6, c7, c8, c9, c10, c11, c12, c13, c14, c15, c16⟩ := tm_cells D.out.var
    have fz := thawed D.out.var 0
    have D2 := D.out.set_rcd y
    obtain ⟨u, htm⟩ : ∃ u : Tm, { t with rcd := y } = u := ⟨_, rfl⟩
    rw [htm] at D2
    have D3 := Lib.hid D2
    clear hc ho E D hq0 hq1 D2 htm
    have p := D3.out.var
    have z := D3.out.res
    go_wp2_with (first | (first | ((with_reducible refine ld_tm ?_ ?_ p ?_); kernel_rfl; kernel_rfl; go_simp)) | ((with_reducible refine store_list (cells := #[.int .i64 u.rcd, .int .i64 u.rp, .int .i64 u.ras, .int .i64 u.rrds, .int .i64 u.rrdl, .int .i64 u.faw, .int .i64 u.ccds, .int .i64 u.ccdl, .int .i64 u.rtp, .int .i64 u.wr, .int .i64 u.wtrs, .int .i64 u.wtrl, .int .i64 u.rtw, .int .i64 u.rfc, .int .i64 u.cke, .int .i64 u.xp, .int .i64 u.xs]) z ?_ ?_ ?_ ?_ ?_ ?_); kernel_rfl; kernel_rfl; kernel_rfl; kernel_rfl; kernel_rfl))
    have hr := setRow_same _ _ #[.int .i64 u.rcd, .int .i64 u.rp, .int .i64 u.ras, .int .i64 u.rrds, .int .i64 u.rrdl, .int .i64 u.faw, .int .i64 u.ccds, .int .i64 u.ccdl, .int .i64 u.rtp, .int .i64 u.wr, .int .i64 u.wtrs, .int .i64 u.wtrl, .int .i64 u.rtw, .int .i64 u.rfc, .int .i64 u.cke, .int .i64 u.xp, .int .i64 u.xs] _ _ z
    refine bodyPost_ret (v := .agg #[.int .i64 u.rcd, .int .i64 u.rp, .int .i64 u.ras, .int .i64 u.rrds, .int .i64 u.rrdl, .int .i64 u.faw, .int .i64 u.ccds, .int .i64 u.ccdl, .int .i64 u.rtp, .int .i64 u.wr, .int .i64 u.wtrs, .int .i64 u.wtrl, .int .i64 u.rtw, .int .i64 u.rfc, .int .i64 u.cke, .int .i64 u.xp, .int .i64 u.xs]) (results_cell_row rfl _ _ w.heap.size 25 #[.int .i64 u.rcd, .int .i64 u.rp, .int .i64 u.ras, .int .i64 u.rrds, .int .i64 u.rrdl, .int .i64 u.faw, .int .i64 u.ccds, .int .i64 u.ccdl, .int .i64 u.rtp, .int .i64 u.wr, .int .i64 u.wtrs, .int .i64 u.wtrl, .int .i64 u.rtw, .int .i64 u.rfc, .int .i64 u.cke, .int .i64 u.xp, .int .i64 u.xs] (0, 0) _ rfl hr Try.underlying25 rfl (by kernel_rfl)) rfl ⟨u, rfl, ?_, ?_⟩
    · exact (D3.out.cur).keep (setRow_other _ _ _ _ (by have := D3.out.cu; omega)) (below_setRow (Below.refl _ _) (by have := D3.out.cu; omega) _)
    · exact D3.out.only.trans' ⟨rfl, rfl, rfl, by simp⟩ (fun k hk hne => setRow_other _ _ _ _ (by omega))
  · go_wp2_with fail
    refine (l01PickInt_any (fun _ => True) (E.out.cur.alloc _) w2.heap.size 3 pkT1 (ints_new _ _ _ _ rfl) (by have := E.out.cur.lt; omega) (by decide) (by decide) (fun _ _ => trivial)).mono ?_
    rintro e w3 ⟨y, rfl, _, hc, ho⟩
    have D := Lib.hid (E.out.on hc (((Only.refl c w2).alloc _).trans ho))
    obtain ⟨c0, c1, c2, c3, c4, c5, c6, c7, c8, c9, c10, c11, c12, c13, c14, c15, c16⟩ := tm_cells D.out.var
    have fz := thawed D.out.var 6
    have D2 := D.out.set_ccds y
    obtain ⟨u, htm⟩ : ∃ u : Tm, { t with ccds := y } = u := ⟨_, rfl⟩
    rw [htm] at D2
    have D3 := Lib.hid D2
    clear hc ho E D hq0 hq1 D2 htm
    have p := D3.out.var
    have z := D3.out.res
    go_wp2_with (first | (first | ((with_reducible refine ld_tm ?_ ?_ p ?_); kernel_rfl; kernel_rfl; go_simp)) | ((with_reducible refine store_list (cells := #[.int .i64 u.rcd, .int .i64 u.rp, .int .i64 u.ras, .int .i64 u.rrds, .int .i64 u.rrdl, .int .i64 u.faw, .int .i64 u.ccds, .int .i64 u.ccdl, .int .i64 u.rtp, .int .i64 u.wr, .int .i64 u.wtrs, .int .i64 u.wtrl, .int .i64 u.rtw, .int .i64 u.rfc, .int .i64 u.cke, .int .i64 u.xp, .int .i64 u.xs]) z ?_ ?_ ?_ ?_ ?_ ?_); kernel_rfl; kernel_rfl; kernel_rfl; kernel_rfl; kernel_rfl))
    have hr := setRow_same _ _ #[.int .i64 u.rcd, .int .i64 u.rp, .int .i64 u.ras, .int .i64 u.rrds, .int .i64 u.rrdl, .int .i64 u.faw, .int .i64 u.ccds, .int .i64 u.ccdl, .int .i64 u.rtp, .int .i64 u.wr, .int .i64 u.wtrs, .int .i64 u.wtrl, .int .i64 u.rtw, .int .i64 u.rfc, .int .i64 u.cke, .int .i64 u.xp, .int .i64 u.xs] _ _ z
    refine bodyPost_ret (v := .agg #[.int .i64 u.rcd, .int .i64 u.rp, .int .i64 u.ras, .int .i64 u.rrds, .int .i64 u.rrdl, .int .i64 u.faw, .int .i64 u.ccds, .int .i64 u.ccdl, .int .i64 u.rtp, .int .i64 u.wr, .int .i64 u.wtrs, .int .i64 u.wtrl, .int .i64 u.rtw, .int .i64 u.rfc, .int .i64 u.cke, .int .i64 u.xp, .int .i64 u.xs]) (results_cell_row rfl _ _ w.heap.size 25 #[.int .i64 u.rcd, .int .i64 u.rp, .int .i64 u.ras, .int .i64 u.rrds, .int .i64 u.rrdl, .int .i64 u.faw, .int .i64 u.ccds, .int .i64 u.ccdl, .int .i64 u.rtp, .int .i64 u.wr, .int .i64 u.wtrs, .int .i64 u.wtrl, .int .i64 u.rtw, .int .i64 u.rfc, .int .i64 u.cke, .int .i64 u.xp, .int .i64 u.xs] (0, 0) _ rfl hr Try.underlying25 rfl (by kernel_rfl)) rfl ⟨u, rfl, ?_, ?_⟩
    · exact (D3.out.cur).keep (setRow_other _ _ _ _ (by have := D3.out.cu; omega)) (below_setRow (Below.refl _ _) (by have := D3.out.cu; omega) _)
    · exact D3.out.only.trans' ⟨rfl, rfl, rfl, by simp⟩ (fun k hk hne => setRow_other _ _ _ _ (by omega))
  · go_wp2_with fail
    refine (l01PickInt_any (fun _ => True) (E.out.cur.alloc _) w2.heap.size 3 pkT2 (ints_new _ _ _ _ rfl) (by have := E.out.cur.lt; omega) (by decide) (by decide) (fun _ _ => trivial)).mono ?_
    rintro e w3 ⟨y, rfl, _, hc, ho⟩
    have D := Lib.hid (E.out.on hc (((Only.refl c w2).alloc _).trans ho))
    obtain ⟨c0, c1, c2, c3, c4, c5, c6, c7, c8, c9, c10, c11, c12, c13, c14, c15, c16⟩ := tm_cells D.out.var
    have fz := thawed D.out.var 11
    have D2 := D.out.set_wtrl y
    obtain ⟨u, htm⟩ : ∃ u : Tm, { t with wtrl := y } = u := ⟨_, rfl⟩
    rw [htm] at D2
    have D3 := Lib.hid D2
    clear hc ho E D hq0 hq1 D2 htm
    have p := D3.out.var
    have z := D3.out.res
    go_wp2_with (first | (first | ((with_reducible refine ld_tm ?_ ?_ p ?_); kernel_rfl; kernel_rfl; go_simp)) | ((with_reducible refine store_list (cells := #[.int .i64 u.rcd, .int .i64 u.rp, .int .i64 u.ras, .int .i64 u.rrds, .int .i64 u.rrdl, .int .i64 u.faw, .int .i64 u.ccds, .int .i64 u.ccdl, .int .i64 u.rtp, .int .i64 u.wr, .int .i64 u.wtrs, .int .i64 u.wtrl, .int .i64 u.rtw, .int .i64 u.rfc, .int .i64 u.cke, .int .i64 u.xp, .int .i64 u.xs]) z ?_ ?_ ?_ ?_ ?_ ?_); kernel_rfl; kernel_rfl; kernel_rfl; kernel_rfl; kernel_rfl))
    have hr := setRow_same _ _ #[.int .i64 u.rcd, .int .i64 u.rp, .int .i64 u.ras, .int .i64 u.rrds, .int .i64 u.rrdl, .int .i64 u.faw, .int .i64 u.ccds, .int .i64 u.ccdl, .int .i64 u.rtp, .int .i64 u.wr, .int .i64 u.wtrs, .int .i64 u.wtrl, .int .i64 u.rtw, .int .i64 u.rfc, .int .i64 u.cke, .int .i64 u.xp, .int .i64 u.xs] _ _ z
    refine bodyPost_ret (v := .agg #[.int .i64 u.rcd, .int .i64 u.rp, .int .i64 u.ras, .int .i64 u.rrds, .int .i64 u.rrdl, .int .i64 u.faw, .int .i64 u.ccds, .int .i64 u.ccdl, .int .i64 u.rtp, .int .i64 u.wr, .int .i64 u.wtrs, .int .i64 u.wtrl, .int .i64 u.rtw, .int .i64 u.rfc, .int .i64 u.cke, .int .i64 u.xp, .int .i64 u.xs]) (results_cell_row rfl _ _ w.heap.size 25 #[.int .i64 u.rcd, .int .i64 u.rp, .int .i64 u.ras, .int .i64 u.rrds, .int .i64 u.rrdl, .int .i64 u.faw, .int .i64 u.ccds, .int .i64 u.ccdl, .int .i64 u.rtp, .int .i64 u.wr, .int .i64 u.wtrs, .int .i64 u.wtrl, .int .i64 u.rtw, .int .i64 u.rfc, .int .i64 u.cke, .int .i64 u.xp, .int .i64 u.xs] (0, 0) _ rfl hr Try.underlying25 rfl (by kernel_rfl)) rfl ⟨u, rfl, ?_, ?_⟩
    · exact (D3.out.cur).keep (setRow_other _ _ _ _ (by have := D3.out.cu; omega)) (below_setRow (Below.refl _ _) (by have := D3.out.cu; omega) _)
    · exact D3.out.only.trans' ⟨rfl, rfl, rfl, by simp⟩ (fun k hk hne => setRow_other _ _ _ _ (by omega))
  · go_wp2_with fail
    refine (l01PickInt_any (fun _ => True) (E.out.cur.alloc _) w2.heap.size 3 pkT3 (ints_new _ _ _ _ rfl) (by have := E.out.cur.lt; omega) (by decide) (by decide) (fun _ _ => trivial)).mono ?_
    rintro e w3 ⟨y, rfl, _, hc, ho⟩
    have D := Lib.hid (E.out.on hc (((Only.refl c w2).alloc _).trans ho))
    obtain ⟨c0, c1, c2, c3, c4, c5, c6, c7, c8, c9, c10, c11, c12, c13, c14, c15, c16⟩ := tm_cells D.out.var
    have fz := thawed D.out.var 16
    have D2 := D.out.set_xs y
    obtain ⟨u, htm⟩ : ∃ u : Tm, { t with xs := y } = u := ⟨_, rfl⟩
    rw [htm] at D2
    have D3 := Lib.hid D2
    clear hc ho E D hq0 hq1 D2 htm
    have p := D3.out.var
    have z := D3.out.res
    go_wp2_with (first | (first | ((with_reducible refine ld_tm ?_ ?_ p ?_); kernel_rfl; kernel_rfl; go_simp)) | ((with_reducible refine store_list (cells := #[.int .i64 u.rcd, .int .i64 u.rp, .int .i64 u.ras, .int .i64 u.rrds, .int .i64 u.rrdl, .int .i64 u.faw, .int .i64 u.ccds, .int .i64 u.ccdl, .int .i64 u.rtp, .int .i64 u.wr, .int .i64 u.wtrs, .int .i64 u.wtrl, .int .i64 u.rtw, .int .i64 u.rfc, .int .i64 u.cke, .int .i64 u.xp, .int .i64 u.xs]) z ?_ ?_ ?_ ?_ ?_ ?_); kernel_rfl; kernel_rfl; kernel_rfl; kernel_rfl; kernel_rfl))
    have hr := setRow_same _ _ #[.int .i64 u.rcd, .int .i64 u.rp, .int .i64 u.ras, .int .i64 u.rrds, .int .i64 u.rrdl, .int .i64 u.faw, .int .i64 u.ccds, .int .i64 u.ccdl, .int .i64 u.rtp, .int .i64 u.wr, .int .i64 u.wtrs, .int .i64 u.wtrl, .int .i64 u.rtw, .int .i64 u.rfc, .int .i64 u.cke, .int .i64 u.xp, .int .i64 u.xs] _ _ z
    refine bodyPost_ret (v := .agg #[.int .i64 u.rcd, .int .i64 u.rp, .int .i64 u.ras, .int .i64 u.rrds, .int .i64 u.rrdl, .int .i64 u.faw, .int .i64 u.ccds, .int .i64 u.ccdl, .int .i64 u.rtp, .int .i64 u.wr, .int .i64 u.wtrs, .int .i64 u.wtrl, .int .i64 u.rtw, .int .i64 u.rfc, .int .i64 u.cke, .int .i64 u.xp, .int .i64 u.xs]) (results_cell_row rfl _ _ w.heap.size 25 #[.int .i64 u.rcd, .int .i64 u.rp, .int .i64 u.ras, .int .i64 u.rrds, .int .i64 u.rrdl, .int .i64 u.faw, .int .i64 u.ccds, .int .i64 u.ccdl, .int .i64 u.rtp, .int .i64 u.wr, .int .i64 u.wtrs, .int .i64 u.wtrl, .int .i64 u.rtw, .int .i64 u.rfc, .int .i64 u.cke, .int .i64 u.xp, .int .i64 u.xs] (0, 0) _ rfl hr Try.underlying25 rfl (by kernel_rfl)) rfl ⟨u, rfl, ?_, ?_⟩
    · exact (D3.out.cur).keep (setRow_other _ _ _ _ (by have := D3.out.cu; omega)) (below_setRow (Below.refl _ _) (by have := D3.out.cu; omega) _)
    · exact D3.out.only.trans' ⟨rfl, rfl, rfl, by simp⟩ (fun k hk hne => setRow_other _ _ _ _ (by omega))
  · go_wp2_with fail
    refine (l01PickInt_any (fun _ => True) (E.out.cur.alloc _) w2.heap.size 2 pkT4 (ints_new _ _ _ _ rfl) (by have := E.out.cur.lt; omega) (by decide) (by decide) (fun _ _ => trivial)).mono ?_
    rintro e w3 ⟨y, rfl, _, hc, ho⟩
    have D := Lib.hid (E.out.on hc (((Only.refl c w2).alloc _).trans ho))
    obtain ⟨c0, c1, c2, c3, c4, c5, c6, c7, c8, c9, c10, c11, c12, c13, c14, c15, c16⟩ := tm_cells D.out.var
    have fz := thawed D.out.var 3
    have D2 := D.out.set_rrds y
    obtain ⟨u, htm⟩ : ∃ u : Tm, { t with rrds := y } = u := ⟨_, rfl⟩
    rw [htm] at D2
    have D3 := Lib.hid D2
    clear hc ho E D hq0 hq1 D2 htm
    have p := D3.out.var
    have z := D3.out.res
    go_wp2_with (first | (first | ((with_reducible refine ld_tm ?_ ?_ p ?_); kernel_rfl; kernel_rfl; go_simp)) | ((with_reducible refine store_list (cells := #[.int .i64 u.rcd, .int .i64 u.rp, .int .i64 u.ras, .int .i64 u.rrds, .int .i64 u.rrdl, .int .i64 u.faw, .int .i64 u.ccds, .int .i64 u.ccdl, .int .i64 u.rtp, .int .i64 u.wr, .int .i64 u.wtrs, .int .i64 u.wtrl, .int .i64 u.rtw, .int .i64 u.rfc, .int .i64 u.cke, .int .i64 u.xp, .int .i64 u.xs]) z ?_ ?_ ?_ ?_ ?_ ?_); kernel_rfl; kernel_rfl; kernel_rfl; kernel_rfl; kernel_rfl))
    have hr := setRow_same _ _ #[.int .i64 u.rcd, .int .i64 u.rp, .int .i64 u.ras, .int .i64 u.rrds, .int .i64 u.rrdl, .int .i64 u.faw, .int .i64 u.ccds, .int .i64 u.ccdl, .int .i64 u.rtp, .int .i64 u.wr, .int .i64 u.wtrs, .int .i64 u.wtrl, .int .i64 u.rtw, .int .i64 u.rfc, .int .i64 u.cke, .int .i64 u.xp, .int .i64 u.xs] _ _ z
    refine bodyPost_ret (v := .agg #[.int .i64 u.rcd, .int .i64 u.rp, .int .i64 u.ras, .int .i64 u.rrds, .int .i64 u.rrdl, .int .i64 u.faw, .int .i64 u.ccds, .int .i64 u.ccdl, .int .i64 u.rtp, .int .i64 u.wr, .int .i64 u.wtrs, .int .i64 u.wtrl, .int .i64 u.rtw, .int .i64 u.rfc, .int .i64 u.cke, .int .i64 u.xp, .int .i64 u.xs]) (results_cell_row rfl _ _ w.heap.size 25 #[.int .i64 u.rcd, .int .i64 u.rp, .int .i64 u.ras, .int .i64 u.rrds, .int .i64 u.rrdl, .int .i64 u.faw, .int .i64 u.ccds, .int .i64 u.ccdl, .int .i64 u.rtp, .int .i64 u.wr, .int .i64 u.wtrs, .int .i64 u.wtrl, .int .i64 u.rtw, .int .i64 u.rfc, .int .i64 u.cke, .int .i64 u.xp, .int .i64 u.xs] (0, 0) _ rfl hr Try.underlying25 rfl (by kernel_rfl)) rfl ⟨u, rfl, ?_, ?_⟩
    · exact (D3.out.cur).keep (setRow_other _ _ _ _ (by have := D3.out.cu; omega)) (below_setRow (Below.refl _ _) (by have := D3.out.cu; omega) _)
    · exact D3.out.only.trans' ⟨rfl, rfl, rfl, by simp⟩ (fun k hk hne => setRow_other _ _ _ _ (by omega))
  · have t0 : (q == 0) = false := by simp; omega
    have t1 : (q == 1) = false := by simp; omega
    have t2 : (q == 2) = false := by simp; omega
    have t3 : (q == 3) = false := by simp; omega
    have t4 : (q == 4) = false := by simp; omega
    clear hq hq0 hq1
    have p := E.out.var
    have z := E.out.res
    go_wp2_with (first | (first | ((with_reducible refine ld_tm ?_ ?_ p ?_); kernel_rfl; kernel_rfl; go_simp)) | ((with_reducible refine store_list (cells := #[.int .i64 t.rcd, .int .i64 t.rp, .int .i64 t.ras, .int .i64 t.rrds, .int .i64 t.rrdl, .int .i64 t.faw, .int .i64 t.ccds, .int .i64 t.ccdl, .int .i64 t.rtp, .int .i64 t.wr, .int .i64 t.wtrs, .int .i64 t.wtrl, .int .i64 t.rtw, .int .i64 t.rfc, .int .i64 t.cke, .int .i64 t.xp, .int .i64 t.xs]) z ?_ ?_ ?_ ?_ ?_ ?_); kernel_rfl; kernel_rfl; kernel_rfl; kernel_rfl; kernel_rfl))
    have hr := setRow_same _ _ #[.int .i64 t.rcd, .int .i64 t.rp, .int .i64 t.ras, .int .i64 t.rrds, .int .i64 t.rrdl, .int .i64 t.faw, .int .i64 t.ccds, .int .i64 t.ccdl, .int .i64 t.rtp, .int .i64 t.wr, .int .i64 t.wtrs, .int .i64 t.wtrl, .int .i64 t.rtw, .int .i64 t.rfc, .int .i64 t.cke, .int .i64 t.xp, .int .i64 t.xs] _ _ z
    refine bodyPost_ret (v := .agg #[.int .i64 t.rcd, .int .i64 t.rp, .int .i64 t.ras, .int .i64 t.rrds, .int .i64 t.rrdl, .int .i64 t.faw, .int .i64 t.ccds, .int .i64 t.ccdl, .int .i64 t.rtp, .int .i64 t.wr, .int .i64 t.wtrs, .int .i64 t.wtrl, .int .i64 t.rtw, .int .i64 t.rfc, .int .i64 t.cke, .int .i64 t.xp, .int .i64 t.xs]) (results_cell_row rfl _ _ w.heap.size 25 #[.int .i64 t.rcd, .int .i64 t.rp, .int .i64 t.ras, .int .i64 t.rrds, .int .i64 t.rrdl, .int .i64 t.faw, .int .i64 t.ccds, .int .i64 t.ccdl, .int .i64 t.rtp, .int .i64 t.wr, .int .i64 t.wtrs, .int .i64 t.wtrl, .int .i64 t.rtw, .int .i64 t.rfc, .int .i64 t.cke, .int .i64 t.xp, .int .i64 t.xs] (0, 0) _ rfl hr Try.underlying25 rfl (by kernel_rfl)) rfl ⟨t, rfl, ?_, ?_⟩
    · exact (E.out.cur).keep (setRow_other _ _ _ _ (by have := E.out.cu; omega)) (below_setRow (Below.refl _ _) (by have := E.out.cu; omega) _)
    · exact E.out.only.trans' ⟨rfl, rfl, rfl, by simp⟩ (fun k hk hne => setRow_other _ _ _ _ (by omega))



/-- What a drawn timing for the laws leaves. -/
def DrewTim (w : World) (e : Ending) (w' : World) : Prop := ∃ t : Tm, e = .returned (.agg #[.int .i64 t.rcd, .int .i64 t.rp, .int .i64 t.ras, .int .i64 t.rrds, .int .i64 t.rrdl, .int .i64 t.faw, .int .i64 t.ccds, .int .i64 t.ccdl, .int .i64 t.rtp, .int .i64 t.wr, .int .i64 t.wtrs, .int .i64 t.wtrl, .int .i64 t.rtw, .int .i64 t.rfc, .int .i64 t.cke, .int .i64 t.xp, .int .i64 t.xs]) ∧ Below w.heap.size w w'

set_option maxHeartbeats 8000000 in
theorem drawTimingOk_any {a : Option Addr} {len cap : Nat} {zs : List Int} {w : World} (hr : IsRow .u8 w a len cap zs) : Calls Try.prog 13 #[.slice a len cap] w (DrewTim w) := by
  have HR := Lib.hid (hr.alloc (.cells #[.int .i64 0, .int .i64 0, .int .i64 0, .int .i64 0, .int .i64 0, .int .i64 0, .int .i64 0, .int .i64 0, .int .i64 0, .int .i64 0, .int .i64 0, .int .i64 0, .int .i64 0, .int .i64 0, .int .i64 0, .int .i64 0, .int .i64 0] 25))
  clear hr
  go_enter Try.func13, Try.ntmps13
  go_wp2_with fail
  refine (l01New_any HR.out).mono ?_
  rintro e w1 ⟨c, rfl, hB, hc1, hb1⟩
  have hs1 := Lib.hid hb1.size
  have hz1 := keep_block hb1 (heap_alloc_new _ _) (by simp)
  have HB1 : Hid (Below w.heap.size w w1) := ((Below.refl _ _).alloc (Nat.le_refl _) _).trans (hb1.mono (by simp))
  clear hb1
  go_wp2_with fail
  refine (l07Any_any hc1).mono ?_
  rintro e w2 ⟨t, rfl, hc2, ho2⟩
  have hbb := ho2.below (B := (w.alloc (.cells #[.int .i64 0, .int .i64 0, .int .i64 0, .int .i64 0, .int .i64 0, .int .i64 0, .int .i64 0, .int .i64 0, .int .i64 0, .int .i64 0, .int .i64 0, .int .i64 0, .int .i64 0, .int .i64 0, .int .i64 0, .int .i64 0, .int .i64 0] 25)).heap.size) hB hs1.out
  have hz2 := keep_block hbb hz1 (by simp)
  have HB2 : Hid (Below w.heap.size w w2) := HB1.out.trans (hbb.mono (by simp))
  clear hc1 hc2 ho2 hbb hz1 hs1 HB1 HR
  go_wp2_with ((with_reducible refine store_list (cells := #[.int .i64 t.rcd, .int .i64 t.rp, .int .i64 t.ras, .int .i64 t.rrds, .int .i64 t.rrdl, .int .i64 t.faw, .int .i64 t.ccds, .int .i64 t.ccdl, .int .i64 t.rtp, .int .i64 t.wr, .int .i64 t.wtrs, .int .i64 t.wtrl, .int .i64 t.rtw, .int .i64 t.rfc, .int .i64 t.cke, .int .i64 t.xp, .int .i64 t.xs]) hz2 ?_ ?_ ?_ ?_ ?_ ?_); kernel_rfl; kernel_rfl; kernel_rfl; kernel_rfl; kernel_rfl)
  have hr := setRow_same _ _ #[.int .i64 t.rcd, .int .i64 t.rp, .int .i64 t.ras, .int .i64 t.rrds, .int .i64 t.rrdl, .int .i64 t.faw, .int .i64 t.ccds, .int .i64 t.ccdl, .int .i64 t.rtp, .int .i64 t.wr, .int .i64 t.wtrs, .int .i64 t.wtrl, .int .i64 t.rtw, .int .i64 t.rfc, .int .i64 t.cke, .int .i64 t.xp, .int .i64 t.xs] _ _ hz2
  refine bodyPost_ret (v := .agg #[.int .i64 t.rcd, .int .i64 t.rp, .int .i64 t.ras, .int .i64 t.rrds, .int .i64 t.rrdl, .int .i64 t.faw, .int .i64 t.ccds, .int .i64 t.ccdl, .int .i64 t.rtp, .int .i64 t.wr, .int .i64 t.wtrs, .int .i64 t.wtrl, .int .i64 t.rtw, .int .i64 t.rfc, .int .i64 t.cke, .int .i64 t.xp, .int .i64 t.xs]) (results_cell_row rfl _ _ w.heap.size 25 #[.int .i64 t.rcd, .int .i64 t.rp, .int .i64 t.ras, .int .i64 t.rrds, .int .i64 t.rrdl, .int .i64 t.faw, .int .i64 t.ccds, .int .i64 t.ccdl, .int .i64 t.rtp, .int .i64 t.wr, .int .i64 t.wtrs, .int .i64 t.wtrl, .int .i64 t.rtw, .int .i64 t.rfc, .int .i64 t.cke, .int .i64 t.xp, .int .i64 t.xs] (0, 0) _ rfl hr Try.underlying25 rfl (by kernel_rfl)) rfl ⟨t, rfl, ?_⟩
  exact below_setRow HB2.out (Nat.le_refl _) _



end Go.Proofs.Ytcjeobagjhjbmaa
