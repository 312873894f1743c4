/-
  Texts of one proof, merged: TimC, TimW, TimR, TimG, TrcN, RdyM, RdyX, RdyV, RdyF, RdyU, TrcX, RdyQ, RdyA, TrcS.
-/
import Derived.Test.YthplhjdfajhmpaaQX6
import Derived.Test.YthplhjdfajhmpaaQX8
import Derived.Test.YthplhjdfajhmpaaQX9
import Derived.Test.YthplhjdfajhmpaaQX10
import Derived.Test.YthplhjdfajhmpaaQX11
import Derived.Test.YthplhjdfajhmpaaQX12
import Derived.Test.YthplhjdfajhmpaaQX14
import Derived.Test.YthplhjdfajhmpaaQX15
import Derived.Test.YthplhjdfajhmpaaQX16
import Derived.Great.BuildSlice
import Derived.Laws.CopyOwn
namespace Go.Proofs.Ythplhjdfajhmpaa
open Go.RowKit

set_option linter.unusedVariables false

theorem tm_cells {t : Tm} {w : World} {c : Nat} {ty : TypeId} {fr : Nat × Nat} (h : w.heap[c]? = some (.cells #[.int .i64 t.rcd, .int .i64 t.rp, .int .i64 t.ras, .int .i64 t.rrds, .int .i64 t.rrdl, .int .i64 t.faw, .int .i64 t.ccds, .int .i64 t.ccdl, .int .i64 t.rtp, .int .i64 t.wr, .int .i64 t.wtrs, .int .i64 t.wtrl, .int .i64 t.rtw, .int .i64 t.rfc, .int .i64 t.cke, .int .i64 t.xp, .int .i64 t.xs] ty fr)) :
    w.cell? ⟨c, 0, none⟩ = some (.int .i64 t.rcd) ∧ w.cell? ⟨c, 1, none⟩ = some (.int .i64 t.rp) ∧ w.cell? ⟨c, 2, none⟩ = some (.int .i64 t.ras) ∧ w.cell? ⟨c, 3, none⟩ = some (.int .i64 t.rrds) ∧ w.cell? ⟨c, 4, none⟩ = some (.int .i64 t.rrdl) ∧ w.cell? ⟨c, 5, none⟩ = some (.int .i64 t.faw) ∧ w.cell? ⟨c, 6, none⟩ = some (.int .i64 t.ccds) ∧ w.cell? ⟨c, 7, none⟩ = some (.int .i64 t.ccdl) ∧ w.cell? ⟨c, 8, none⟩ = some (.int .i64 t.rtp) ∧ w.cell? ⟨c, 9, none⟩ = some (.int .i64 t.wr) ∧ w.cell? ⟨c, 10, none⟩ = some (.int .i64 t.wtrs) ∧ w.cell? ⟨c, 11, none⟩ = some (.int .i64 t.wtrl) ∧ w.cell? ⟨c, 12, none⟩ = some (.int .i64 t.rtw) ∧ w.cell? ⟨c, 13, none⟩ = some (.int .i64 t.rfc) ∧ w.cell? ⟨c, 14, none⟩ = some (.int .i64 t.cke) ∧ w.cell? ⟨c, 15, none⟩ = some (.int .i64 t.xp) ∧ w.cell? ⟨c, 16, none⟩ = some (.int .i64 t.xs) := by
  have k : ∀ i, w.cell? ⟨c, i, none⟩ = (#[.int .i64 t.rcd, .int .i64 t.rp, .int .i64 t.ras, .int .i64 t.rrds, .int .i64 t.rrdl, .int .i64 t.faw, .int .i64 t.ccds, .int .i64 t.ccdl, .int .i64 t.rtp, .int .i64 t.wr, .int .i64 t.wtrs, .int .i64 t.wtrl, .int .i64 t.rtw, .int .i64 t.rfc, .int .i64 t.cke, .int .i64 t.xp, .int .i64 t.xs] : Array Value)[i]? := fun i => by simp only [World.cell?, h]; rfl
  exact ⟨k 0, k 1, k 2, k 3, k 4, k 5, k 6, k 7, k 8, k 9, k 10, k 11, k 12, k 13, k 14, k 15, k 16⟩

theorem tm_row {t : Tm} {w : World} {g : Nat} {ty : TypeId} (h : w.heap[g]? = some (.cells #[.int .i64 t.rcd, .int .i64 t.rp, .int .i64 t.ras, .int .i64 t.rrds, .int .i64 t.rrdl, .int .i64 t.faw, .int .i64 t.ccds, .int .i64 t.ccdl, .int .i64 t.rtp, .int .i64 t.wr, .int .i64 t.wtrs, .int .i64 t.wtrl, .int .i64 t.rtw, .int .i64 t.rfc, .int .i64 t.cke, .int .i64 t.xp, .int .i64 t.xs] ty)) (j : Nat) (hj : j < 17) : w.cell? ⟨g, j, none⟩ = some (.int .i64 (t.l.getD j 0)) := by
  obtain ⟨c0, c1, c2, c3, c4, c5, c6, c7, c8, c9, c10, c11, c12, c13, c14, c15, c16⟩ := tm_cells h
  match j, hj with
  | 0, _ => exact c0
  | 1, _ => exact c1
  | 2, _ => exact c2
  | 3, _ => exact c3
  | 4, _ => exact c4
  | 5, _ => exact c5
  | 6, _ => exact c6
  | 7, _ => exact c7
  | 8, _ => exact c8
  | 9, _ => exact c9
  | 10, _ => exact c10
  | 11, _ => exact c11
  | 12, _ => exact c12
  | 13, _ => exact c13
  | 14, _ => exact c14
  | 15, _ => exact c15
  | 16, _ => exact c16
  | n + 17, hn => exact absurd hn (by omega)

theorem tm_all {t : Tm} : (∀ x ∈ t.l, In64 x) ↔ ∀ m, m < 17 → In64 (t.l.getD m 0) := by
  constructor
  · intro h m hm
    have hl : m < t.l.length := hm
    rw [List.getD_eq_getElem?_getD, List.getElem?_eq_getElem hl]
    exact h _ (List.getElem_mem hl)
  · intro h x hx
    obtain ⟨m, hm, rfl⟩ := List.mem_iff_getElem.1 hx
    have := h m hm
    rw [List.getD_eq_getElem?_getD, List.getElem?_eq_getElem hm] at this
    exact this

/-- A load of a whole struct, at the list of a plain region's operations. -/
theorem load_list {P : Program} {ops : Array Oper} {rest : List Oper} {a : Act} {w : World} {Q : Exit → Act → World → Prop} {d : Tmp} {T : TypeId} {x : Operand} {y : TypeId} {p : String} {af : Array Edge} {gd : Option (Nat × Bool)} {c : Nat} {cs : Array Value} {t : TypeId} {fr : Nat × Nat} {ds : TypeDesc}
    (hu : P.underlying T = some ds) (hd : (match ds with | .struct _ | .array _ _ => true | _ => false) = true) (hi : (P.info? T).map (·.size) = some cs.size)
    (hw : Region.wanted ⟨some d, .load T x, y, p, af, gd⟩ (yielded ops a.tmps) = true) (hx : a.eval x = .pointer (some ⟨c, 0, none⟩)) (h : w.heap[c]? = some (.cells cs t fr))
    (k : wpList P ops Q rest (a.put (some d) (.agg cs)) w) : wpList P ops Q (⟨some d, .load T x, y, p, af, gd⟩ :: rest) a w :=
  BigFrame.wpList_want hw fun _ hK => wp_load_row T x rfl c hx t cs fr ds h hu hd hi (hK _ _ k)

/-- A build of a composite value whose cells are named. -/
theorem build_list {P : Program} {ops : Array Oper} {rest : List Oper} {a : Act} {w : World} {Q : Exit → Act → World → Prop} (d : Tmp) {T : TypeId} {parts : Array (Nat × Operand)} {y : TypeId} {p : String} {af : Array Edge} (cells : Array Value)
    (hf : P.built T (parts.map fun (i, x) => (i, a.eval x)).toList = some cells)
    (k : wpList P ops Q rest (a.put (some d) (.agg cells)) w) : wpList P ops Q (⟨some d, .build T parts, y, p, af, none⟩ :: rest) a w :=
  wpList_buildTo rfl T parts rfl (some d) rfl cells hf k

/-- A store of a whole row. -/
theorem store_list {P : Program} {ops : Array Oper} {rest : List Oper} {a : Act} {w : World} {Q : Exit → Act → World → Prop} {T : TypeId} {x v : Operand} {y : TypeId} {p : String} {af : Array Edge} {g : Nat} {cells old : Array Value} {t : TypeId}
    (h : w.heap[g]? = some (.cells old t (0, 0))) (hx : a.eval x = .pointer (some ⟨g, 0, none⟩)) (hy : a.eval v = .agg cells)
    (hi : (P.info? T).map (·.size) = some cells.size) (hold : old.size = cells.size) (h1 : cells.all (·.oneCell') = true)
    (k : wpList P ops Q rest a (w.setRow g cells)) : wpList P ops Q (⟨none, .store T x v, y, p, af, none⟩ :: rest) a w :=
  wpList_store_rowTo rfl T x v rfl rfl g cells hx hy t old h hi hold h1 k

/-- The same in a region that draws its order. -/
theorem load_quiet {P : Program} {ops : Array Oper} {rest : List Oper} {a : Act} {C : World → Prop} {Q : Act → Prop} {d : Tmp} {T : TypeId} {x : Operand} {y : TypeId} {p : String} {af : Array Edge} {gd : Option (Nat × Bool)} {c : Nat} {cs : Array Value} {ds : TypeDesc}
    (hu : P.underlying T = some ds) (hd : (match ds with | .struct _ | .array _ _ => true | _ => false) = true) (hi : (P.info? T).map (·.size) = some cs.size)
    (hw : Region.wanted ⟨some d, .load T x, y, p, af, gd⟩ (yielded ops a.tmps) = true) (hx : a.eval x = .pointer (some ⟨c, 0, none⟩)) (hz : ∀ w, C w → ∃ t fr, w.heap[c]? = some (.cells cs t fr))
    (k : wpQuiet P ops C Q rest (a.put (some d) (.agg cs))) : wpQuiet P ops C Q (⟨some d, .load T x, y, p, af, gd⟩ :: rest) a :=
  BigFrame.wpQuiet_want hw fun _ hK => ⟨_, fun w hw' => by
    obtain ⟨t, fr, h⟩ := hz w hw'
    unfold Oper.quietAt execOp
    simp only [hx, Instr.loadAt, Instr.sureAddr, Sem.run_bind, Sem.run_pure, Result.andThen_ok, run_loadVar_row w c t T cs fr ds h hu hd hi]
    exact ⟨rfl, rfl⟩, hK _ k⟩

theorem ld_later {ops : Array Oper} {rest : List Oper} {a : Act} {w : World} {Q : Act → Prop} {d : Tmp} {x : Operand} {y : TypeId} {p : String} {af : Array Edge} {gd : Option (Nat × Bool)} {c : Nat} {t : Tm} {ty : TypeId} {fr : Nat × Nat}
    (hw : Region.wanted ⟨some d, .load 27 x, y, p, af, gd⟩ (yielded ops a.tmps) = true) (hx : a.eval x = .pointer (some ⟨c, 0, none⟩)) (h : w.heap[c]? = some (.cells #[.int .i64 t.rcd, .int .i64 t.rp, .int .i64 t.ras, .int .i64 t.rrds, .int .i64 t.rrdl, .int .i64 t.faw, .int .i64 t.ccds, .int .i64 t.ccdl, .int .i64 t.rtp, .int .i64 t.wr, .int .i64 t.wtrs, .int .i64 t.wtrl, .int .i64 t.rtw, .int .i64 t.rfc, .int .i64 t.cke, .int .i64 t.xp, .int .i64 t.xs] ty fr))
    (k : wpQuiet Try.prog ops (fun w' => ∃ z : Later w, w' = z.to) Q rest (a.put (some d) (.agg #[.int .i64 t.rcd, .int .i64 t.rp, .int .i64 t.ras, .int .i64 t.rrds, .int .i64 t.rrdl, .int .i64 t.faw, .int .i64 t.ccds, .int .i64 t.ccdl, .int .i64 t.rtp, .int .i64 t.wr, .int .i64 t.wtrs, .int .i64 t.wtrl, .int .i64 t.rtw, .int .i64 t.rfc, .int .i64 t.cke, .int .i64 t.xp, .int .i64 t.xs]))) : wpQuiet Try.prog ops (fun w' => ∃ z : Later w, w' = z.to) Q (⟨some d, .load 27 x, y, p, af, gd⟩ :: rest) a :=
  load_quiet Try.underlying27 rfl (by kernel_rfl) hw hx (fun _ ⟨z, hz⟩ => ⟨ty, fr, hz ▸ z.block h⟩) k

theorem box4_0 (w : World) (A B C D : Obj) : ((((w.alloc A).alloc B).alloc C).alloc D).heap[w.heap.size]? = some A := by
  rw [Below.heap_alloc _ _ _ (by simp <;> omega)]; exact box3_0 w A B C

theorem box4_1 (w : World) (A B C D : Obj) : ((((w.alloc A).alloc B).alloc C).alloc D).heap[w.heap.size + 1]? = some B := by
  rw [Below.heap_alloc _ _ _ (by simp <;> omega)]; exact box3_1 w A B C

theorem box4_2 (w : World) (A B C D : Obj) : ((((w.alloc A).alloc B).alloc C).alloc D).heap[w.heap.size + 1 + 1]? = some C := by
  rw [Below.heap_alloc _ _ _ (by simp)]; exact box3_2 w A B C

theorem box4_3 (w : World) (A B C D : Obj) : ((((w.alloc A).alloc B).alloc C).alloc D).heap[w.heap.size + 1 + 1 + 1]? = some D := by
  have h := box3_2 (w.alloc A) B C D
  rwa [World.size_alloc] at h

theorem ld_tm {ops : Array Oper} {rest : List Oper} {a : Act} {w : World} {Q : Exit → Act → World → Prop} {d : Tmp} {x : Operand} {y : TypeId} {p : String} {af : Array Edge} {gd : Option (Nat × Bool)} {c : Nat} {t : Tm} {ty : TypeId} {fr : Nat × Nat}
    (hw : Region.wanted ⟨some d, .load 27 x, y, p, af, gd⟩ (yielded ops a.tmps) = true) (hx : a.eval x = .pointer (some ⟨c, 0, none⟩)) (h : w.heap[c]? = some (.cells #[.int .i64 t.rcd, .int .i64 t.rp, .int .i64 t.ras, .int .i64 t.rrds, .int .i64 t.rrdl, .int .i64 t.faw, .int .i64 t.ccds, .int .i64 t.ccdl, .int .i64 t.rtp, .int .i64 t.wr, .int .i64 t.wtrs, .int .i64 t.wtrl, .int .i64 t.rtw, .int .i64 t.rfc, .int .i64 t.cke, .int .i64 t.xp, .int .i64 t.xs] ty fr))
    (k : wpList Try.prog ops Q rest (a.put (some d) (.agg #[.int .i64 t.rcd, .int .i64 t.rp, .int .i64 t.ras, .int .i64 t.rrds, .int .i64 t.rrdl, .int .i64 t.faw, .int .i64 t.ccds, .int .i64 t.ccdl, .int .i64 t.rtp, .int .i64 t.wr, .int .i64 t.wtrs, .int .i64 t.wtrl, .int .i64 t.rtw, .int .i64 t.rfc, .int .i64 t.cke, .int .i64 t.xp, .int .i64 t.xs])) w) : wpList Try.prog ops Q (⟨some d, .load 27 x, y, p, af, gd⟩ :: rest) a w :=
  load_list Try.underlying27 rfl (by kernel_rfl) hw hx h k

end Go.Proofs.Ythplhjdfajhmpaa

namespace Go.Proofs.Ythplhjdfajhmpaa
open Go.RowKit

set_option linter.unusedVariables false

theorem specList_is (t : Tm) (w : World) :
    Calls Try.prog 85 #[.agg #[.int .i64 t.rcd, .int .i64 t.rp, .int .i64 t.ras, .int .i64 t.rrds, .int .i64 t.rrdl, .int .i64 t.faw, .int .i64 t.ccds, .int .i64 t.ccdl, .int .i64 t.rtp, .int .i64 t.wr, .int .i64 t.wtrs, .int .i64 t.wtrl, .int .i64 t.rtw, .int .i64 t.rfc, .int .i64 t.cke, .int .i64 t.xp, .int .i64 t.xs]] w fun e w' => ∃ g, e = .returned (.slice (some ⟨g, 0, none⟩) 17 17) ∧ w'.heap[g]? = some (.cells #[.int .i64 t.rcd, .int .i64 t.rp, .int .i64 t.ras, .int .i64 t.rrds, .int .i64 t.rrdl, .int .i64 t.faw, .int .i64 t.ccds, .int .i64 t.ccdl, .int .i64 t.rtp, .int .i64 t.wr, .int .i64 t.wtrs, .int .i64 t.wtrl, .int .i64 t.rtw, .int .i64 t.rfc, .int .i64 t.cke, .int .i64 t.xp, .int .i64 t.xs] 3) ∧ Below w.heap.size w w' := by
  obtain ⟨w1, hw1⟩ : ∃ u, w.alloc (.cells #[.int .i64 t.rcd, .int .i64 t.rp, .int .i64 t.ras, .int .i64 t.rrds, .int .i64 t.rrdl, .int .i64 t.faw, .int .i64 t.ccds, .int .i64 t.ccdl, .int .i64 t.rtp, .int .i64 t.wr, .int .i64 t.wtrs, .int .i64 t.wtrl, .int .i64 t.rtw, .int .i64 t.rfc, .int .i64 t.cke, .int .i64 t.xp, .int .i64 t.xs] 27) = u := ⟨_, rfl⟩
  have HB1 : Hid (Below w.heap.size w w1) := by subst hw1; exact (Below.refl _ _).alloc (Nat.le_refl _) _
  have p1 : w1.heap[w.heap.size]? = some (.cells #[.int .i64 t.rcd, .int .i64 t.rp, .int .i64 t.ras, .int .i64 t.rrds, .int .i64 t.rrdl, .int .i64 t.faw, .int .i64 t.ccds, .int .i64 t.ccdl, .int .i64 t.rtp, .int .i64 t.wr, .int .i64 t.wtrs, .int .i64 t.wtrl, .int .i64 t.rtw, .int .i64 t.rfc, .int .i64 t.cke, .int .i64 t.xp, .int .i64 t.xs] 27) := by subst hw1; exact heap_alloc_new _ _
  obtain ⟨c0, c1, c2, c3, c4, c5, c6, c7, c8, c9, c10, c11, c12, c13, c14, c15, c16⟩ := tm_cells p1
  clear p1
  go_enter Try.func85, Try.ntmps85
  go_wp2
  go_ret
  exact ⟨_, rfl, heap_alloc_new _ _, HB1.out.alloc HB1.out.size _⟩

set_option maxHeartbeats 4000000 in
theorem specTimOk_is (t : Tm) (v : Bool) (hv : decide (TimOk t) = v) (w : World) :
    Calls Try.prog 48 #[.agg #[.int .i64 t.rcd, .int .i64 t.rp, .int .i64 t.ras, .int .i64 t.rrds, .int .i64 t.rrdl, .int .i64 t.faw, .int .i64 t.ccds, .int .i64 t.ccdl, .int .i64 t.rtp, .int .i64 t.wr, .int .i64 t.wtrs, .int .i64 t.wtrl, .int .i64 t.rtw, .int .i64 t.rfc, .int .i64 t.cke, .int .i64 t.xp, .int .i64 t.xs]] w (Gives (.bool v) w) := by
  have HV := Lib.hid hv
  obtain ⟨w1, hw1⟩ : ∃ u, w.alloc (.cells #[.int .i64 t.rcd, .int .i64 t.rp, .int .i64 t.ras, .int .i64 t.rrds, .int .i64 t.rrdl, .int .i64 t.faw, .int .i64 t.ccds, .int .i64 t.ccdl, .int .i64 t.rtp, .int .i64 t.wr, .int .i64 t.wtrs, .int .i64 t.wtrl, .int .i64 t.rtw, .int .i64 t.rfc, .int .i64 t.cke, .int .i64 t.xp, .int .i64 t.xs] 27) = u := ⟨_, rfl⟩
  have HB1 : Hid (Below w.heap.size w w1) := by subst hw1; exact (Below.refl _ _).alloc (Nat.le_refl _) _
  have p1 : w1.heap[w.heap.size]? = some (.cells #[.int .i64 t.rcd, .int .i64 t.rp, .int .i64 t.ras, .int .i64 t.rrds, .int .i64 t.rrdl, .int .i64 t.faw, .int .i64 t.ccds, .int .i64 t.ccdl, .int .i64 t.rtp, .int .i64 t.wr, .int .i64 t.wtrs, .int .i64 t.wtrl, .int .i64 t.rtw, .int .i64 t.rfc, .int .i64 t.cke, .int .i64 t.xp, .int .i64 t.xs] 27) := by subst hw1; exact heap_alloc_new _ _
  clear hv
  go_enter Try.func48, Try.ntmps48
  go_wp2_with (first | ((with_reducible refine ld_tm ?_ ?_ p1 ?_); kernel_rfl; kernel_rfl; go_simp))
  refine (specList_is t _).mono ?_
  rintro e w2 ⟨g, rfl, hg, hb2⟩
  have p2 := keep_block hb2 p1 (lt_of_block p1)
  have HB2 : Hid (Below w.heap.size w w2) := HB1.out.trans (hb2.mono HB1.out.size)
  have ROW := Lib.hid (tm_row hg)
  clear hb2 p1 HB1 hw1 hg
  go_wp2_with fail
  go_loop [4] (fun i => ∃ j : Nat, j ≤ 17 ∧ i = .int .i64 (j : Int) ∧ ∀ m, m < j → In64 (t.l.getD m 0)) (fun i => 18 - (intOf i).toNat)
  case atStart => exact ⟨0, by omega, rfl, fun m hm => absurd hm (Nat.not_lt_zero _)⟩
  case round =>
    obtain ⟨j, hj, rfl, hok⟩ := hrel
    have HOK := Lib.hid hok
    clear hok
    by_cases hlt : j < 17
    · have hI : (j : Int) < 17 := by omega
      have cj := ROW.out j hlt
      obtain ⟨x, hx⟩ : ∃ x, t.l.getD j 0 = x := ⟨_, rfl⟩
      rw [hx] at cj
      have HX := Lib.hid hx
      clear hx
      by_cases hin : In64 x
      · have KI : Hid (decide (1 ≤ x ∧ x ≤ 64) = true) := decide_eq_true hin
        have HOK2 : Hid (∀ m, m < j + 1 → In64 (t.l.getD m 0)) := fun m hm => by
          rcases Nat.lt_succ_iff_lt_or_eq.1 hm with h | h
          · exact HOK.out m h
          · subst h; rw [HX.out]; exact hin
        clear hin
        go_wp2_with fail
        refine (specIn_is _ _ _ _ KI.out _).mono ?_
        rintro e w' ⟨rfl, rfl⟩
        go_wp2
        go_round
        case rel => exact ⟨j + 1, by omega, by go_num, HOK2.out⟩
        case measure => simp [intOf]; omega
      · have KI : Hid (decide (1 ≤ x ∧ x ≤ 64) = false) := decide_eq_false hin
        have HE : Hid (v = false) := by
          show _ = _
          rw [← HV.out]
          exact decide_eq_false fun h => hin (by rw [← HX.out]; exact tm_all.1 h.1 j hlt)
        clear hin
        go_wp2_with fail
        refine (specIn_is _ _ _ _ KI.out _).mono ?_
        rintro e w' ⟨rfl, rfl⟩
        go_wp2
        go_ret
        exact ⟨ret_b HE.out.symm, HB2.out⟩
    · obtain rfl : j = 17 := by omega
      (try rw [show ((17 : Nat) : Int) = 17 from rfl])
      obtain ⟨c0, _, c2, c3, c4, _, c6, c7, _, _, c10, c11, _⟩ := tm_cells p2
      have HE : Hid (v = (decide (t.rcd ≤ t.ras) && (decide (t.rrds ≤ t.rrdl) && (decide (t.ccds ≤ t.ccdl) && decide (t.wtrs ≤ t.wtrl))))) := by
        show _ = _
        rw [← HV.out, Bool.eq_iff_iff]
        simp only [Bool.and_eq_true, decide_eq_true_eq]
        exact ⟨fun h => ⟨h.2.1, h.2.2.1, h.2.2.2.1, h.2.2.2.2⟩, fun h => ⟨tm_all.2 HOK.out, h⟩⟩
      obtain ⟨q0, hq0⟩ : ∃ q, decide (t.rcd ≤ t.ras) = q := ⟨_, rfl⟩
      obtain ⟨q1, hq1⟩ : ∃ q, decide (t.rrds ≤ t.rrdl) = q := ⟨_, rfl⟩
      obtain ⟨q2, hq2⟩ : ∃ q, decide (t.ccds ≤ t.ccdl) = q := ⟨_, rfl⟩
      obtain ⟨q3, hq3⟩ : ∃ q, decide (t.wtrs ≤ t.wtrl) = q := ⟨_, rfl⟩
      rw [hq0, hq1, hq2, hq3] at HE
      clear p2 ROW HOK hj hlt
      cases q0
      · go_wp2
        go_ret
        exact ⟨ret_b HE.out.symm, HB2.out⟩
      cases q1
      · go_wp2
        go_ret
        exact ⟨ret_b HE.out.symm, HB2.out⟩
      cases q2
      · go_wp2
        go_ret
        exact ⟨ret_b HE.out.symm, HB2.out⟩
      go_wp2
      go_ret
      exact ⟨ret_b HE.out.symm, HB2.out⟩

set_option maxHeartbeats 16000000 in
theorem specBankGap_is (t : Tm) (a b v : Int) (hv : bankG t a b = v) (w : World) :
    Calls Try.prog 113 #[.agg #[.int .i64 t.rcd, .int .i64 t.rp, .int .i64 t.ras, .int .i64 t.rrds, .int .i64 t.rrdl, .int .i64 t.faw, .int .i64 t.ccds, .int .i64 t.ccdl, .int .i64 t.rtp, .int .i64 t.wr, .int .i64 t.wtrs, .int .i64 t.wtrl, .int .i64 t.rtw, .int .i64 t.rfc, .int .i64 t.cke, .int .i64 t.xp, .int .i64 t.xs], .int .i64 a, .int .i64 b] w (Gives (.int .i64 v) w) := by
  obtain ⟨w1, hw1⟩ : ∃ u, w.alloc (.cells #[.int .i64 t.rcd, .int .i64 t.rp, .int .i64 t.ras, .int .i64 t.rrds, .int .i64 t.rrdl, .int .i64 t.faw, .int .i64 t.ccds, .int .i64 t.ccdl, .int .i64 t.rtp, .int .i64 t.wr, .int .i64 t.wtrs, .int .i64 t.wtrl, .int .i64 t.rtw, .int .i64 t.rfc, .int .i64 t.cke, .int .i64 t.xp, .int .i64 t.xs] 27) = u := ⟨_, rfl⟩
  have HB1 : Hid (Below w.heap.size w w1) := by subst hw1; exact (Below.refl _ _).alloc (Nat.le_refl _) _
  have p1 : w1.heap[w.heap.size]? = some (.cells #[.int .i64 t.rcd, .int .i64 t.rp, .int .i64 t.ras, .int .i64 t.rrds, .int .i64 t.rrdl, .int .i64 t.faw, .int .i64 t.ccds, .int .i64 t.ccdl, .int .i64 t.rtp, .int .i64 t.wr, .int .i64 t.wtrs, .int .i64 t.wtrl, .int .i64 t.rtw, .int .i64 t.rfc, .int .i64 t.cke, .int .i64 t.xp, .int .i64 t.xs] 27) := by subst hw1; exact heap_alloc_new _ _
  by_cases h : TimOk t
  case neg =>
    have K := Lib.hid (decide_eq_false h)
    have HE : Hid (v = 0) := by show _ = _; rw [← hv]; exact if_neg h
    clear hv h
    go_enter Try.func113, Try.ntmps113
    go_wp2_with (first | ((with_reducible refine ld_tm ?_ ?_ p1 ?_); kernel_rfl; kernel_rfl; go_simp))
    refine (specTimOk_is t _ K.out _).mono ?_
    rintro e w2 ⟨rfl, hb2⟩
    have HB2 : Hid (Below w.heap.size w w2) := HB1.out.trans (hb2.mono HB1.out.size)
    clear hb2
    go_wp2
    go_ret
    exact ⟨ret_i HE.out.symm, HB2.out⟩
  have K := Lib.hid (decide_eq_true h)
  have HR : Hid (v = bankR t a b) := by show _ = _; rw [← hv]; exact if_pos h
  obtain ⟨n0, n1, n2, n3, n4, n5, n6, n7, n8, n9, n10, n11, n12, n13, n14, n15, n16⟩ := h.nums
  unfold In64 at *
  have e1 : IntKind.i64.wrap (t.ras + t.rp) = t.ras + t.rp := IntWalk.i64_in _ ⟨by omega, by omega⟩
  have e2 : IntKind.i64.wrap (t.rtp + t.rp) = t.rtp + t.rp := IntWalk.i64_in _ ⟨by omega, by omega⟩
  have e3 : IntKind.i64.wrap (t.wr + t.rp) = t.wr + t.rp := IntWalk.i64_in _ ⟨by omega, by omega⟩
  clear hv h n0 n1 n2 n3 n4 n5 n6 n7 n8 n9 n10 n11 n12 n13 n14 n15 n16
  go_enter Try.func113, Try.ntmps113
  go_wp2_with (first | ((with_reducible refine ld_tm ?_ ?_ p1 ?_); kernel_rfl; kernel_rfl; go_simp))
  refine (specTimOk_is t _ K.out _).mono ?_
  rintro e w2 ⟨rfl, hb2⟩
  have p2 := keep_block hb2 p1 (lt_of_block p1)
  have HB2 : Hid (Below w.heap.size w w2) := HB1.out.trans (hb2.mono HB1.out.size)
  clear hb2 p1 HB1 hw1
  obtain ⟨c0, c1, c2, _, _, _, _, _, c8, c9, _, _, _, c13, _⟩ := tm_cells p2
  clear p2
  rcases (show a = 1 ∨ a = 2 ∨ a = 3 ∨ a = 4 ∨ a = 5 ∨ ¬ (1 ≤ a ∧ a ≤ 5) by omega) with ha | ha | ha | ha | ha | ha
  · subst ha
    rcases (show b = 1 ∨ b = 2 ∨ b = 3 ∨ b = 4 ∨ b = 5 ∨ ¬ (1 ≤ b ∧ b ≤ 5) by omega) with hb | hb | hb | hb | hb | hb
    · subst hb
      have HE : Hid (v = t.ras + t.rp) := by show _ = _; rw [HR.out]; simp [bankR]
      clear HR
      go_wp2
      go_ret
      exact ⟨ret_i HE.out.symm, HB2.out⟩
    · subst hb
      have HE : Hid (v = t.rcd) := by show _ = _; rw [HR.out]; simp [bankR]
      clear HR
      go_wp2
      go_ret
      exact ⟨ret_i HE.out.symm, HB2.out⟩
    · subst hb
      have HE : Hid (v = t.rcd) := by show _ = _; rw [HR.out]; simp [bankR]
      clear HR
      go_wp2
      go_ret
      exact ⟨ret_i HE.out.symm, HB2.out⟩
    · subst hb
      have HE : Hid (v = t.ras) := by show _ = _; rw [HR.out]; simp [bankR]
      clear HR
      go_wp2
      go_ret
      exact ⟨ret_i HE.out.symm, HB2.out⟩
    · subst hb
      have HE : Hid (v = t.ras + t.rp) := by show _ = _; rw [HR.out]; simp [bankR]
      clear HR
      go_wp2
      go_ret
      exact ⟨ret_i HE.out.symm, HB2.out⟩
    · have t1 : ((b : Int) == 1) = false := by simp only [beq_eq_false_iff_ne]; omega
      have t2 : ((b : Int) == 2) = false := by simp only [beq_eq_false_iff_ne]; omega
      have t3 : ((b : Int) == 3) = false := by simp only [beq_eq_false_iff_ne]; omega
      have t4 : ((b : Int) == 4) = false := by simp only [beq_eq_false_iff_ne]; omega
      have t5 : ((b : Int) == 5) = false := by simp only [beq_eq_false_iff_ne]; omega
      have HR0 : Hid (v = 0) := by
        show _ = _
        rw [HR.out]
        unfold bankR
        simp only [show ¬ b = 1 by omega, show ¬ b = 2 by omega, show ¬ b = 3 by omega, show ¬ b = 4 by omega, show ¬ b = 5 by omega, or_self, if_false]
        decide
      clear hb HR
      go_wp2
      go_ret
      exact ⟨ret_i HR0.out.symm, HB2.out⟩
  · subst ha
    rcases (show b = 1 ∨ b = 2 ∨ b = 3 ∨ b = 4 ∨ b = 5 ∨ ¬ (1 ≤ b ∧ b ≤ 5) by omega) with hb | hb | hb | hb | hb | hb
    · subst hb
      have HE : Hid (v = t.rtp + t.rp) := by show _ = _; rw [HR.out]; simp [bankR]
      clear HR
      go_wp2
      go_ret
      exact ⟨ret_i HE.out.symm, HB2.out⟩
    · subst hb
      have HE : Hid (v = 0) := by show _ = _; rw [HR.out]; simp [bankR]
      clear HR
      go_wp2
      go_ret
      exact ⟨ret_i HE.out.symm, HB2.out⟩
    · subst hb
      have HE : Hid (v = 0) := by show _ = _; rw [HR.out]; simp [bankR]
      clear HR
      go_wp2
      go_ret
      exact ⟨ret_i HE.out.symm, HB2.out⟩
    · subst hb
      have HE : Hid (v = t.rtp) := by show _ = _; rw [HR.out]; simp [bankR]
      clear HR
      go_wp2
      go_ret
      exact ⟨ret_i HE.out.symm, HB2.out⟩
    · subst hb
      have HE : Hid (v = t.rtp + t.rp) := by show _ = _; rw [HR.out]; simp [bankR]
      clear HR
      go_wp2
      go_ret
      exact ⟨ret_i HE.out.symm, HB2.out⟩
    · have t1 : ((b : Int) == 1) = false := by simp only [beq_eq_false_iff_ne]; omega
      have t2 : ((b : Int) == 2) = false := by simp only [beq_eq_false_iff_ne]; omega
      have t3 : ((b : Int) == 3) = false := by simp only [beq_eq_false_iff_ne]; omega
      have t4 : ((b : Int) == 4) = false := by simp only [beq_eq_false_iff_ne]; omega
      have t5 : ((b : Int) == 5) = false := by simp only [beq_eq_false_iff_ne]; omega
      have HR0 : Hid (v = 0) := by
        show _ = _
        rw [HR.out]
        unfold bankR
        simp only [show ¬ b = 1 by omega, show ¬ b = 2 by omega, show ¬ b = 3 by omega, show ¬ b = 4 by omega, show ¬ b = 5 by omega, or_self, if_false]
        decide
      clear hb HR
      go_wp2
      go_ret
      exact ⟨ret_i HR0.out.symm, HB2.out⟩
  · subst ha
    rcases (show b = 1 ∨ b = 2 ∨ b = 3 ∨ b = 4 ∨ b = 5 ∨ ¬ (1 ≤ b ∧ b ≤ 5) by omega) with hb | hb | hb | hb | hb | hb
    · subst hb
      have HE : Hid (v = t.wr + t.rp) := by show _ = _; rw [HR.out]; simp [bankR]
      clear HR
      go_wp2
      go_ret
      exact ⟨ret_i HE.out.symm, HB2.out⟩
    · subst hb
      have HE : Hid (v = 0) := by show _ = _; rw [HR.out]; simp [bankR]
      clear HR
      go_wp2
      go_ret
      exact ⟨ret_i HE.out.symm, HB2.out⟩
    · subst hb
      have HE : Hid (v = 0) := by show _ = _; rw [HR.out]; simp [bankR]
      clear HR
      go_wp2
      go_ret
      exact ⟨ret_i HE.out.symm, HB2.out⟩
    · subst hb
      have HE : Hid (v = t.wr) := by show _ = _; rw [HR.out]; simp [bankR]
      clear HR
      go_wp2
      go_ret
      exact ⟨ret_i HE.out.symm, HB2.out⟩
    · subst hb
      have HE : Hid (v = t.wr + t.rp) := by show _ = _; rw [HR.out]; simp [bankR]
      clear HR
      go_wp2
      go_ret
      exact ⟨ret_i HE.out.symm, HB2.out⟩
    · have t1 : ((b : Int) == 1) = false := by simp only [beq_eq_false_iff_ne]; omega
      have t2 : ((b : Int) == 2) = false := by simp only [beq_eq_false_iff_ne]; omega
      have t3 : ((b : Int) == 3) = false := by simp only [beq_eq_false_iff_ne]; omega
      have t4 : ((b : Int) == 4) = false := by simp only [beq_eq_false_iff_ne]; omega
      have t5 : ((b : Int) == 5) = false := by simp only [beq_eq_false_iff_ne]; omega
      have HR0 : Hid (v = 0) := by
        show _ = _
        rw [HR.out]
        unfold bankR
        simp only [show ¬ b = 1 by omega, show ¬ b = 2 by omega, show ¬ b = 3 by omega, show ¬ b = 4 by omega, show ¬ b = 5 by omega, or_self, if_false]
        decide
      clear hb HR
      go_wp2
      go_ret
      exact ⟨ret_i HR0.out.symm, HB2.out⟩
  · subst ha
    rcases (show b = 1 ∨ b = 2 ∨ b = 3 ∨ b = 4 ∨ b = 5 ∨ ¬ (1 ≤ b ∧ b ≤ 5) by omega) with hb | hb | hb | hb | hb | hb
    · subst hb
      have HE : Hid (v = t.rp) := by show _ = _; rw [HR.out]; simp [bankR]
      clear HR
      go_wp2
      go_ret
      exact ⟨ret_i HE.out.symm, HB2.out⟩
    · subst hb
      have HE : Hid (v = 0) := by show _ = _; rw [HR.out]; simp [bankR]
      clear HR
      go_wp2
      go_ret
      exact ⟨ret_i HE.out.symm, HB2.out⟩
    · subst hb
      have HE : Hid (v = 0) := by show _ = _; rw [HR.out]; simp [bankR]
      clear HR
      go_wp2
      go_ret
      exact ⟨ret_i HE.out.symm, HB2.out⟩
    · subst hb
      have HE : Hid (v = 0) := by show _ = _; rw [HR.out]; simp [bankR]
      clear HR
      go_wp2
      go_ret
      exact ⟨ret_i HE.out.symm, HB2.out⟩
    · subst hb
      have HE : Hid (v = t.rp) := by show _ = _; rw [HR.out]; simp [bankR]
      clear HR
      go_wp2
      go_ret
      exact ⟨ret_i HE.out.symm, HB2.out⟩
    · have t1 : ((b : Int) == 1) = false := by simp only [beq_eq_false_iff_ne]; omega
      have t2 : ((b : Int) == 2) = false := by simp only [beq_eq_false_iff_ne]; omega
      have t3 : ((b : Int) == 3) = false := by simp only [beq_eq_false_iff_ne]; omega
      have t4 : ((b : Int) == 4) = false := by simp only [beq_eq_false_iff_ne]; omega
      have t5 : ((b : Int) == 5) = false := by simp only [beq_eq_false_iff_ne]; omega
      have HR0 : Hid (v = 0) := by
        show _ = _
        rw [HR.out]
        unfold bankR
        simp only [show ¬ b = 1 by omega, show ¬ b = 2 by omega, show ¬ b = 3 by omega, show ¬ b = 4 by omega, show ¬ b = 5 by omega, or_self, if_false]
        decide
      clear hb HR
      go_wp2
      go_ret
      exact ⟨ret_i HR0.out.symm, HB2.out⟩
  · subst ha
    rcases (show b = 1 ∨ b = 2 ∨ b = 3 ∨ b = 4 ∨ b = 5 ∨ ¬ (1 ≤ b ∧ b ≤ 5) by omega) with hb | hb | hb | hb | hb | hb
    · subst hb
      have HE : Hid (v = t.rfc) := by show _ = _; rw [HR.out]; simp [bankR]
      clear HR
      go_wp2
      go_ret
      exact ⟨ret_i HE.out.symm, HB2.out⟩
    · subst hb
      have HE : Hid (v = 0) := by show _ = _; rw [HR.out]; simp [bankR]
      clear HR
      go_wp2
      go_ret
      exact ⟨ret_i HE.out.symm, HB2.out⟩
    · subst hb
      have HE : Hid (v = 0) := by show _ = _; rw [HR.out]; simp [bankR]
      clear HR
      go_wp2
      go_ret
      exact ⟨ret_i HE.out.symm, HB2.out⟩
    · subst hb
      have HE : Hid (v = 0) := by show _ = _; rw [HR.out]; simp [bankR]
      clear HR
      go_wp2
      go_ret
      exact ⟨ret_i HE.out.symm, HB2.out⟩
    · subst hb
      have HE : Hid (v = t.rfc) := by show _ = _; rw [HR.out]; simp [bankR]
      clear HR
      go_wp2
      go_ret
      exact ⟨ret_i HE.out.symm, HB2.out⟩
    · have t1 : ((b : Int) == 1) = false := by simp only [beq_eq_false_iff_ne]; omega
      have t2 : ((b : Int) == 2) = false := by simp only [beq_eq_false_iff_ne]; omega
      have t3 : ((b : Int) == 3) = false := by simp only [beq_eq_false_iff_ne]; omega
      have t4 : ((b : Int) == 4) = false := by simp only [beq_eq_false_iff_ne]; omega
      have t5 : ((b : Int) == 5) = false := by simp only [beq_eq_false_iff_ne]; omega
      have HR0 : Hid (v = 0) := by
        show _ = _
        rw [HR.out]
        unfold bankR
        simp only [show ¬ b = 1 by omega, show ¬ b = 2 by omega, show ¬ b = 3 by omega, show ¬ b = 4 by omega, show ¬ b = 5 by omega, or_self, if_false]
        decide
      clear hb HR
      go_wp2
      go_ret
      exact ⟨ret_i HR0.out.symm, HB2.out⟩
  · have s1 : ((a : Int) == 1) = false := by simp only [beq_eq_false_iff_ne]; omega
    have s2 : ((a : Int) == 2) = false := by simp only [beq_eq_false_iff_ne]; omega
    have s3 : ((a : Int) == 3) = false := by simp only [beq_eq_false_iff_ne]; omega
    have s4 : ((a : Int) == 4) = false := by simp only [beq_eq_false_iff_ne]; omega
    have s5 : ((a : Int) == 5) = false := by simp only [beq_eq_false_iff_ne]; omega
    have HE : Hid (v = 0) := by
      show _ = _
      rw [HR.out]
      unfold bankR
      rw [if_neg (by omega), if_neg (by omega), if_neg (by omega), if_neg (by omega), if_neg (by omega)]
    clear ha HR
    by_cases hb : b = 1
    · subst hb
      go_wp2
      go_ret
      exact ⟨ret_i HE.out.symm, HB2.out⟩
    · have t1 : ((b : Int) == 1) = false := by simp only [beq_eq_false_iff_ne]; exact hb
      clear hb
      go_wp2
      go_ret
      exact ⟨ret_i HE.out.symm, HB2.out⟩

theorem specNear_is (n : Bool) (x y v : Int) (hv : nearI n x y = v) (w : World) :
    Calls Try.prog 127 #[.bool n, .int .i64 x, .int .i64 y] w (Says (.int .i64 v) w) := by
  have HV := Lib.hid hv
  clear hv
  cases n
  · go_enter Try.func127, Try.ntmps127
    go_wp2
    go_ret
    exact ⟨ret_i HV.out, rfl⟩
  · go_enter Try.func127, Try.ntmps127
    go_wp2
    go_ret
    exact ⟨ret_i HV.out, rfl⟩

end Go.Proofs.Ythplhjdfajhmpaa

namespace Go.Proofs.Ythplhjdfajhmpaa
open Go.RowKit

set_option linter.unusedVariables false

set_option maxHeartbeats 16000000 in
theorem specRankGap_is (t : Tm) (a b : Int) (n : Bool) (v : Int) (hv : rankG t a b n = v) (w : World) :
    Calls Try.prog 112 #[.agg #[.int .i64 t.rcd, .int .i64 t.rp, .int .i64 t.ras, .int .i64 t.rrds, .int .i64 t.rrdl, .int .i64 t.faw, .int .i64 t.ccds, .int .i64 t.ccdl, .int .i64 t.rtp, .int .i64 t.wr, .int .i64 t.wtrs, .int .i64 t.wtrl, .int .i64 t.rtw, .int .i64 t.rfc, .int .i64 t.cke, .int .i64 t.xp, .int .i64 t.xs], .int .i64 a, .int .i64 b, .bool n] w (Gives (.int .i64 v) w) := by
  obtain ⟨w1, hw1⟩ : ∃ u, w.alloc (.cells #[.int .i64 t.rcd, .int .i64 t.rp, .int .i64 t.ras, .int .i64 t.rrds, .int .i64 t.rrdl, .int .i64 t.faw, .int .i64 t.ccds, .int .i64 t.ccdl, .int .i64 t.rtp, .int .i64 t.wr, .int .i64 t.wtrs, .int .i64 t.wtrl, .int .i64 t.rtw, .int .i64 t.rfc, .int .i64 t.cke, .int .i64 t.xp, .int .i64 t.xs] 27) = u := ⟨_, rfl⟩
  have HB1 : Hid (Below w.heap.size w w1) := by subst hw1; exact (Below.refl _ _).alloc (Nat.le_refl _) _
  have p1 : w1.heap[w.heap.size]? = some (.cells #[.int .i64 t.rcd, .int .i64 t.rp, .int .i64 t.ras, .int .i64 t.rrds, .int .i64 t.rrdl, .int .i64 t.faw, .int .i64 t.ccds, .int .i64 t.ccdl, .int .i64 t.rtp, .int .i64 t.wr, .int .i64 t.wtrs, .int .i64 t.wtrl, .int .i64 t.rtw, .int .i64 t.rfc, .int .i64 t.cke, .int .i64 t.xp, .int .i64 t.xs] 27) := by subst hw1; exact heap_alloc_new _ _
  by_cases h : TimOk t
  case neg =>
    have K := Lib.hid (decide_eq_false h)
    have HE : Hid (v = 0) := by show _ = _; rw [← hv]; exact if_neg (fun hh => h hh.1)
    clear hv h
    go_enter Try.func112, Try.ntmps112
    go_wp2_with (first | ((with_reducible refine ld_tm ?_ ?_ p1 ?_); kernel_rfl; kernel_rfl; go_simp))
    refine (specTimOk_is t _ K.out _).mono ?_
    rintro e w2 ⟨rfl, hb2⟩
    have p2 := keep_block hb2 p1 (lt_of_block p1)
    have HB2 : Hid (Below w.heap.size w w2) := HB1.out.trans (hb2.mono HB1.out.size)
    clear hb2 p1 HB1
    go_wp2
    go_ret
    exact ⟨ret_i HE.out.symm, HB2.out⟩
  have K := Lib.hid (decide_eq_true h)
  by_cases ha : 1 ≤ a ∧ a ≤ 9
  case neg =>
    have KA := Lib.hid (decide_eq_false ha)
    have HE : Hid (v = 0) := by show _ = _; rw [← hv]; exact if_neg (fun hh => ha hh.2.1)
    clear hv h ha
    go_enter Try.func112, Try.ntmps112
    go_wp2_with (first | ((with_reducible refine ld_tm ?_ ?_ p1 ?_); kernel_rfl; kernel_rfl; go_simp))
    refine (specTimOk_is t _ K.out _).mono ?_
    rintro e w2 ⟨rfl, hb2⟩
    have p2 := keep_block hb2 p1 (lt_of_block p1)
    have HB2 : Hid (Below w.heap.size w w2) := HB1.out.trans (hb2.mono HB1.out.size)
    clear hb2 p1 HB1
    go_wp2_with fail
    refine (specIn_is _ _ _ _ KA.out _).mono ?_
    rintro e w' ⟨rfl, rfl⟩
    go_wp2
    go_ret
    exact ⟨ret_i HE.out.symm, HB2.out⟩
  have KA := Lib.hid (decide_eq_true ha)
  by_cases hb : 1 ≤ b ∧ b ≤ 9
  case neg =>
    have KB := Lib.hid (decide_eq_false hb)
    have HE : Hid (v = 0) := by show _ = _; rw [← hv]; exact if_neg (fun hh => hb hh.2.2)
    clear hv h ha hb
    go_enter Try.func112, Try.ntmps112
    go_wp2_with (first | ((with_reducible refine ld_tm ?_ ?_ p1 ?_); kernel_rfl; kernel_rfl; go_simp))
    refine (specTimOk_is t _ K.out _).mono ?_
    rintro e w2 ⟨rfl, hb2⟩
    have p2 := keep_block hb2 p1 (lt_of_block p1)
    have HB2 : Hid (Below w.heap.size w w2) := HB1.out.trans (hb2.mono HB1.out.size)
    clear hb2 p1 HB1
    go_wp2_with fail
    refine (specIn_is _ _ _ _ KA.out _).mono ?_
    rintro e w' ⟨rfl, rfl⟩
    go_wp2_with fail
    refine (specIn_is _ _ _ _ KB.out _).mono ?_
    rintro e w' ⟨rfl, rfl⟩
    go_wp2
    go_ret
    exact ⟨ret_i HE.out.symm, HB2.out⟩
  have KB := Lib.hid (decide_eq_true hb)
  have HR : Hid (v = rankR t a b n) := by show _ = _; rw [← hv]; exact if_pos ⟨h, ha, hb⟩
  have HG : Hid (∀ x, bankG t x 1 = bankR t x 1) := fun x => if_pos h
  clear hv h
  go_enter Try.func112, Try.ntmps112
  go_wp2_with (first | ((with_reducible refine ld_tm ?_ ?_ p1 ?_); kernel_rfl; kernel_rfl; go_simp))
  refine (specTimOk_is t _ K.out _).mono ?_
  rintro e w2 ⟨rfl, hb2⟩
  have p2 := keep_block hb2 p1 (lt_of_block p1)
  have HB2 : Hid (Below w.heap.size w w2) := HB1.out.trans (hb2.mono HB1.out.size)
  clear hb2 p1 HB1
  go_wp2_with fail
  refine (specIn_is _ _ _ _ KA.out _).mono ?_
  rintro e w' ⟨rfl, rfl⟩
  go_wp2_with fail
  refine (specIn_is _ _ _ _ KB.out _).mono ?_
  rintro e w' ⟨rfl, rfl⟩
  obtain ⟨c0, c1, c2, c3, c4, c5, c6, c7, c8, c9, c10, c11, c12, c13, c14, c15, c16⟩ := tm_cells p2
  clear hw1 K KA KB
  rcases (show a = 1 ∨ a = 2 ∨ a = 3 ∨ a = 4 ∨ a = 5 ∨ a = 6 ∨ a = 7 ∨ a = 8 ∨ a = 9 by omega) with ha | ha | ha | ha | ha | ha | ha | ha | ha
  · subst ha
    rcases (show b = 1 ∨ b = 6 ∨ b = 8 ∨ ¬ (b = 1 ∨ b = 6 ∨ b = 8) by omega) with hb | hb | hb | hb
    · subst hb
      have HE : Hid (v = nearI n t.rrdl t.rrds) := by show _ = _; rw [HR.out]; rfl
      clear HR
      go_wp2_with fail
      refine (specNear_is _ _ _ _ HE.out.symm _).mono ?_
      rintro e w' ⟨rfl, rfl⟩
      go_wp2
      go_ret
      exact ⟨rfl, HB2.out⟩
    · subst hb
      have HE : Hid (v = 0) := by show _ = _; rw [HR.out]; rfl
      clear HR
      go_wp2
      go_ret
      exact ⟨ret_i HE.out.symm, HB2.out⟩
    · subst hb
      have HE : Hid (bankG t 1 1 = v) := by show _ = _; rw [HR.out, HG.out]; rfl
      clear HR HG
      go_wp2_with (first | ((with_reducible refine ld_tm ?_ ?_ p2 ?_); kernel_rfl; kernel_rfl; go_simp))
      refine (specBankGap_is t _ _ _ HE.out _).mono ?_
      rintro e w3 ⟨rfl, hb3⟩
      have p3 := keep_block hb3 p2 (lt_of_block p2)
      have HB3 : Hid (Below w.heap.size w w3) := HB2.out.trans (hb3.mono HB2.out.size)
      clear hb3 p2 HB2
      go_wp2
      go_ret
      exact ⟨rfl, HB3.out⟩
    · have t1 : ((b : Int) == 1) = false := by simp only [beq_eq_false_iff_ne]; omega
      have t6 : ((b : Int) == 6) = false := by simp only [beq_eq_false_iff_ne]; omega
      have t8 : ((b : Int) == 8) = false := by simp only [beq_eq_false_iff_ne]; omega
      have u : ((1 : Int) == b) = false := by simp only [beq_eq_false_iff_ne]; omega
      have HE : Hid (v = 0) := by
        show _ = _
        rw [HR.out]
        unfold rankR
        iterate 11 rw [if_neg (by omega)]
      clear HR hb
      go_wp2
      go_ret
      exact ⟨ret_i HE.out.symm, HB2.out⟩
  · subst ha
    rcases (show b = 2 ∨ b = 3 ∨ b = 6 ∨ b = 8 ∨ ¬ (b = 2 ∨ b = 3 ∨ b = 6 ∨ b = 8) by omega) with hb | hb | hb | hb | hb
    · subst hb
      have HE : Hid (v = nearI n t.ccdl t.ccds) := by show _ = _; rw [HR.out]; rfl
      clear HR
      go_wp2_with fail
      refine (specNear_is _ _ _ _ HE.out.symm _).mono ?_
      rintro e w' ⟨rfl, rfl⟩
      go_wp2
      go_ret
      exact ⟨rfl, HB2.out⟩
    · subst hb
      have HE : Hid (v = t.rtw) := by show _ = _; rw [HR.out]; rfl
      clear HR
      go_wp2
      go_ret
      exact ⟨ret_i HE.out.symm, HB2.out⟩
    · subst hb
      have HE : Hid (v = t.rtp) := by show _ = _; rw [HR.out]; rfl
      clear HR
      go_wp2
      go_ret
      exact ⟨ret_i HE.out.symm, HB2.out⟩
    · subst hb
      have HE : Hid (bankG t 2 1 = v) := by show _ = _; rw [HR.out, HG.out]; rfl
      clear HR HG
      go_wp2_with (first | ((with_reducible refine ld_tm ?_ ?_ p2 ?_); kernel_rfl; kernel_rfl; go_simp))
      refine (specBankGap_is t _ _ _ HE.out _).mono ?_
      rintro e w3 ⟨rfl, hb3⟩
      have p3 := keep_block hb3 p2 (lt_of_block p2)
      have HB3 : Hid (Below w.heap.size w w3) := HB2.out.trans (hb3.mono HB2.out.size)
      clear hb3 p2 HB2
      go_wp2
      go_ret
      exact ⟨rfl, HB3.out⟩
    · have t2 : ((b : Int) == 2) = false := by simp only [beq_eq_false_iff_ne]; omega
      have t3 : ((b : Int) == 3) = false := by simp only [beq_eq_false_iff_ne]; omega
      have t6 : ((b : Int) == 6) = false := by simp only [beq_eq_false_iff_ne]; omega
      have t8 : ((b : Int) == 8) = false := by simp only [beq_eq_false_iff_ne]; omega
      have u : ((2 : Int) == b) = false := by simp only [beq_eq_false_iff_ne]; omega
      have HE : Hid (v = 0) := by
        show _ = _
        rw [HR.out]
        unfold rankR
        iterate 11 rw [if_neg (by omega)]
      clear HR hb
      go_wp2
      go_ret
      exact ⟨ret_i HE.out.symm, HB2.out⟩
  · subst ha
    rcases (show b = 2 ∨ b = 3 ∨ b = 6 ∨ b = 8 ∨ ¬ (b = 2 ∨ b = 3 ∨ b = 6 ∨ b = 8) by omega) with hb | hb | hb | hb | hb
    · subst hb
      have HE : Hid (v = nearI n t.wtrl t.wtrs) := by show _ = _; rw [HR.out]; rfl
      clear HR
      go_wp2_with fail
      refine (specNear_is _ _ _ _ HE.out.symm _).mono ?_
      rintro e w' ⟨rfl, rfl⟩
      go_wp2
      go_ret
      exact ⟨rfl, HB2.out⟩
    · subst hb
      have HE : Hid (v = nearI n t.ccdl t.ccds) := by show _ = _; rw [HR.out]; rfl
      clear HR
      go_wp2_with fail
      refine (specNear_is _ _ _ _ HE.out.symm _).mono ?_
      rintro e w' ⟨rfl, rfl⟩
      go_wp2
      go_ret
      exact ⟨rfl, HB2.out⟩
    · subst hb
      have HE : Hid (v = t.wr) := by show _ = _; rw [HR.out]; rfl
      clear HR
      go_wp2
      go_ret
      exact ⟨ret_i HE.out.symm, HB2.out⟩
    · subst hb
      have HE : Hid (bankG t 3 1 = v) := by show _ = _; rw [HR.out, HG.out]; rfl
      clear HR HG
      go_wp2_with (first | ((with_reducible refine ld_tm ?_ ?_ p2 ?_); kernel_rfl; kernel_rfl; go_simp))
      refine (specBankGap_is t _ _ _ HE.out _).mono ?_
      rintro e w3 ⟨rfl, hb3⟩
      have p3 := keep_block hb3 p2 (lt_of_block p2)
      have HB3 : Hid (Below w.heap.size w w3) := HB2.out.trans (hb3.mono HB2.out.size)
      clear hb3 p2 HB2
      go_wp2
      go_ret
      exact ⟨rfl, HB3.out⟩
    · have t2 : ((b : Int) == 2) = false := by simp only [beq_eq_false_iff_ne]; omega
      have t3 : ((b : Int) == 3) = false := by simp only [beq_eq_false_iff_ne]; omega
      have t6 : ((b : Int) == 6) = false := by simp only [beq_eq_false_iff_ne]; omega
      have t8 : ((b : Int) == 8) = false := by simp only [beq_eq_false_iff_ne]; omega
      have u : ((3 : Int) == b) = false := by simp only [beq_eq_false_iff_ne]; omega
      have HE : Hid (v = 0) := by
        show _ = _
        rw [HR.out]
        unfold rankR
        iterate 11 rw [if_neg (by omega)]
      clear HR hb
      go_wp2
      go_ret
      exact ⟨ret_i HE.out.symm, HB2.out⟩
  · subst ha
    rcases (show b = 4 ∨ b = 6 ∨ b = 8 ∨ ¬ (b = 4 ∨ b = 6 ∨ b = 8) by omega) with hb | hb | hb | hb
    · subst hb
      have HE : Hid (v = 0) := by show _ = _; rw [HR.out]; rfl
      clear HR
      go_wp2
      go_ret
      exact ⟨ret_i HE.out.symm, HB2.out⟩
    · subst hb
      have HE : Hid (v = 0) := by show _ = _; rw [HR.out]; rfl
      clear HR
      go_wp2
      go_ret
      exact ⟨ret_i HE.out.symm, HB2.out⟩
    · subst hb
      have HE : Hid (bankG t 4 1 = v) := by show _ = _; rw [HR.out, HG.out]; rfl
      clear HR HG
      go_wp2_with (first | ((with_reducible refine ld_tm ?_ ?_ p2 ?_); kernel_rfl; kernel_rfl; go_simp))
      refine (specBankGap_is t _ _ _ HE.out _).mono ?_
      rintro e w3 ⟨rfl, hb3⟩
      have p3 := keep_block hb3 p2 (lt_of_block p2)
      have HB3 : Hid (Below w.heap.size w w3) := HB2.out.trans (hb3.mono HB2.out.size)
      clear hb3 p2 HB2
      go_wp2
      go_ret
      exact ⟨rfl, HB3.out⟩
    · have t4 : ((b : Int) == 4) = false := by simp only [beq_eq_false_iff_ne]; omega
      have t6 : ((b : Int) == 6) = false := by simp only [beq_eq_false_iff_ne]; omega
      have t8 : ((b : Int) == 8) = false := by simp only [beq_eq_false_iff_ne]; omega
      have u : ((4 : Int) == b) = false := by simp only [beq_eq_false_iff_ne]; omega
      have HE : Hid (v = 0) := by
        show _ = _
        rw [HR.out]
        unfold rankR
        iterate 11 rw [if_neg (by omega)]
      clear HR hb
      go_wp2
      go_ret
      exact ⟨ret_i HE.out.symm, HB2.out⟩
  · subst ha
    rcases (show b = 5 ∨ b = 6 ∨ b = 8 ∨ ¬ (b = 5 ∨ b = 6 ∨ b = 8) by omega) with hb | hb | hb | hb
    · subst hb
      have HE : Hid (v = t.rrdl) := by show _ = _; rw [HR.out]; rfl
      clear HR
      go_wp2
      go_ret
      exact ⟨ret_i HE.out.symm, HB2.out⟩
    · subst hb
      have HE : Hid (v = 0) := by show _ = _; rw [HR.out]; rfl
      clear HR
      go_wp2
      go_ret
      exact ⟨ret_i HE.out.symm, HB2.out⟩
    · subst hb
      have HE : Hid (bankG t 5 1 = v) := by show _ = _; rw [HR.out, HG.out]; rfl
      clear HR HG
      go_wp2_with (first | ((with_reducible refine ld_tm ?_ ?_ p2 ?_); kernel_rfl; kernel_rfl; go_simp))
      refine (specBankGap_is t _ _ _ HE.out _).mono ?_
      rintro e w3 ⟨rfl, hb3⟩
      have p3 := keep_block hb3 p2 (lt_of_block p2)
      have HB3 : Hid (Below w.heap.size w w3) := HB2.out.trans (hb3.mono HB2.out.size)
      clear hb3 p2 HB2
      go_wp2
      go_ret
      exact ⟨rfl, HB3.out⟩
    · have t5 : ((b : Int) == 5) = false := by simp only [beq_eq_false_iff_ne]; omega
      have t6 : ((b : Int) == 6) = false := by simp only [beq_eq_false_iff_ne]; omega
      have t8 : ((b : Int) == 8) = false := by simp only [beq_eq_false_iff_ne]; omega
      have u : ((5 : Int) == b) = false := by simp only [beq_eq_false_iff_ne]; omega
      have HE : Hid (v = 0) := by
        show _ = _
        rw [HR.out]
        unfold rankR
        iterate 11 rw [if_neg (by omega)]
      clear HR hb
      go_wp2
      go_ret
      exact ⟨ret_i HE.out.symm, HB2.out⟩
  · subst ha
    rcases (show b = 6 ∨ b = 7 ∨ b = 8 ∨ ¬ (b = 6 ∨ b = 7 ∨ b = 8) by omega) with hb | hb | hb | hb
    · subst hb
      have HE : Hid (v = 0) := by show _ = _; rw [HR.out]; rfl
      clear HR
      go_wp2
      go_ret
      exact ⟨ret_i HE.out.symm, HB2.out⟩
    · subst hb
      have HE : Hid (v = t.cke) := by show _ = _; rw [HR.out]; rfl
      clear HR
      go_wp2
      go_ret
      exact ⟨ret_i HE.out.symm, HB2.out⟩
    · subst hb
      have HE : Hid (bankG t 6 1 = v) := by show _ = _; rw [HR.out, HG.out]; rfl
      clear HR HG
      go_wp2_with (first | ((with_reducible refine ld_tm ?_ ?_ p2 ?_); kernel_rfl; kernel_rfl; go_simp))
      refine (specBankGap_is t _ _ _ HE.out _).mono ?_
      rintro e w3 ⟨rfl, hb3⟩
      have p3 := keep_block hb3 p2 (lt_of_block p2)
      have HB3 : Hid (Below w.heap.size w w3) := HB2.out.trans (hb3.mono HB2.out.size)
      clear hb3 p2 HB2
      go_wp2
      go_ret
      exact ⟨rfl, HB3.out⟩
    · have t6 : ((b : Int) == 6) = false := by simp only [beq_eq_false_iff_ne]; omega
      have t7 : ((b : Int) == 7) = false := by simp only [beq_eq_false_iff_ne]; omega
      have t8 : ((b : Int) == 8) = false := by simp only [beq_eq_false_iff_ne]; omega
      have u : ((6 : Int) == b) = false := by simp only [beq_eq_false_iff_ne]; omega
      have HE : Hid (v = 0) := by
        show _ = _
        rw [HR.out]
        unfold rankR
        iterate 11 rw [if_neg (by omega)]
      clear HR hb
      go_wp2
      go_ret
      exact ⟨ret_i HE.out.symm, HB2.out⟩
  · subst ha
    have HE : Hid (v = t.xp) := by show _ = _; rw [HR.out]; rfl
    clear HR
    go_wp2
    go_ret
    exact ⟨ret_i HE.out.symm, HB2.out⟩
  · subst ha
    rcases (show b = 6 ∨ b = 8 ∨ b = 9 ∨ ¬ (b = 6 ∨ b = 8 ∨ b = 9) by omega) with hb | hb | hb | hb
    · subst hb
      have HE : Hid (v = 0) := by show _ = _; rw [HR.out]; rfl
      clear HR
      go_wp2
      go_ret
      exact ⟨ret_i HE.out.symm, HB2.out⟩
    · subst hb
      have HE : Hid (bankG t 8 1 = v) := by show _ = _; rw [HR.out, HG.out]; rfl
      clear HR HG
      go_wp2_with (first | ((with_reducible refine ld_tm ?_ ?_ p2 ?_); kernel_rfl; kernel_rfl; go_simp))
      refine (specBankGap_is t _ _ _ HE.out _).mono ?_
      rintro e w3 ⟨rfl, hb3⟩
      have p3 := keep_block hb3 p2 (lt_of_block p2)
      have HB3 : Hid (Below w.heap.size w w3) := HB2.out.trans (hb3.mono HB2.out.size)
      clear hb3 p2 HB2
      go_wp2
      go_ret
      exact ⟨rfl, HB3.out⟩
    · subst hb
      have HE : Hid (v = t.cke) := by show _ = _; rw [HR.out]; rfl
      clear HR
      go_wp2
      go_ret
      exact ⟨ret_i HE.out.symm, HB2.out⟩
    · have t6 : ((b : Int) == 6) = false := by simp only [beq_eq_false_iff_ne]; omega
      have t8 : ((b : Int) == 8) = false := by simp only [beq_eq_false_iff_ne]; omega
      have t9 : ((b : Int) == 9) = false := by simp only [beq_eq_false_iff_ne]; omega
      have u : ((8 : Int) == b) = false := by simp only [beq_eq_false_iff_ne]; omega
      have HE : Hid (v = 0) := by
        show _ = _
        rw [HR.out]
        unfold rankR
        iterate 11 rw [if_neg (by omega)]
      clear HR hb
      go_wp2
      go_ret
      exact ⟨ret_i HE.out.symm, HB2.out⟩
  · subst ha
    have HE : Hid (v = t.xs) := by show _ = _; rw [HR.out]; rfl
    clear HR
    go_wp2
    go_ret
    exact ⟨ret_i HE.out.symm, HB2.out⟩

end Go.Proofs.Ythplhjdfajhmpaa

namespace Go.Proofs.Ythplhjdfajhmpaa
open Go.RowKit

set_option linter.unusedVariables false

/-- The distance of two commands; 0 where something is not valid. -/
def gapG (t : Tm) (g0 B g2 g3 ka xa ya za kb xb yb zb : Int) : Int :=
  if TimOk t ∧ (CmOk ka xa ya za ∧ AdOk g0 B g2 g3 xa ya za) ∧ (CmOk kb xb yb zb ∧ AdOk g0 B g2 g3 xb yb zb) then gapR B t ka xa kb xb else 0

theorem div_facts {x B : Int} (hx : 0 ≤ x ∧ x ≤ 7) (hB : 1 ≤ B ∧ B ≤ 4) : x.tdiv B = x / B ∧ IntKind.i64.wrap (x / B) = x / B := by
  have h1 := Int.ediv_nonneg hx.1 (show 0 ≤ B by omega)
  have h2 := Int.ediv_le_self B hx.1
  exact ⟨Int.tdiv_eq_ediv_of_nonneg hx.1, IntWalk.i64_in _ ⟨by omega, by omega⟩⟩

set_option maxHeartbeats 8000000 in
theorem specL07Gap_is (t : Tm) (g0 B g2 g3 ka xa ya za kb xb yb zb : Int) (hB : 1 ≤ B ∧ B ≤ 4) (hxa : 0 ≤ xa ∧ xa ≤ 7) (hxb : 0 ≤ xb ∧ xb ≤ 7) (v : Int) (hv : gapR B t ka xa kb xb = v) (w : World) :
    Calls Try.prog 89 #[.agg #[.int .i64 g0, .int .i64 B, .int .i64 g2, .int .i64 g3], .agg #[.int .i64 t.rcd, .int .i64 t.rp, .int .i64 t.ras, .int .i64 t.rrds, .int .i64 t.rrdl, .int .i64 t.faw, .int .i64 t.ccds, .int .i64 t.ccdl, .int .i64 t.rtp, .int .i64 t.wr, .int .i64 t.wtrs, .int .i64 t.wtrl, .int .i64 t.rtw, .int .i64 t.rfc, .int .i64 t.cke, .int .i64 t.xp, .int .i64 t.xs], .agg #[.int .i64 ka, .int .i64 xa, .int .i64 ya, .int .i64 za], .agg #[.int .i64 kb, .int .i64 xb, .int .i64 yb, .int .i64 zb]] w (Gives (.int .i64 v) w) := by
  obtain ⟨w1, hw1⟩ : ∃ u, (((w.alloc (.cells #[.int .i64 g0, .int .i64 B, .int .i64 g2, .int .i64 g3] 25)).alloc (.cells #[.int .i64 t.rcd, .int .i64 t.rp, .int .i64 t.ras, .int .i64 t.rrds, .int .i64 t.rrdl, .int .i64 t.faw, .int .i64 t.ccds, .int .i64 t.ccdl, .int .i64 t.rtp, .int .i64 t.wr, .int .i64 t.wtrs, .int .i64 t.wtrl, .int .i64 t.rtw, .int .i64 t.rfc, .int .i64 t.cke, .int .i64 t.xp, .int .i64 t.xs] 27)).alloc (.cells #[.int .i64 ka, .int .i64 xa, .int .i64 ya, .int .i64 za] 39)).alloc (.cells #[.int .i64 kb, .int .i64 xb, .int .i64 yb, .int .i64 zb] 39) = u := ⟨_, rfl⟩
  have HB1 : Hid (Below w.heap.size w w1) := by subst hw1; exact ((((Below.refl _ _).alloc (by simp) _).alloc (by simp) _).alloc (by simp; omega) _).alloc (by simp; omega) _
  have g1 : w1.heap[w.heap.size]? = some (.cells #[.int .i64 g0, .int .i64 B, .int .i64 g2, .int .i64 g3] 25) := by subst hw1; exact box4_0 _ _ _ _ _
  have p1 : w1.heap[w.heap.size + 1]? = some (.cells #[.int .i64 t.rcd, .int .i64 t.rp, .int .i64 t.ras, .int .i64 t.rrds, .int .i64 t.rrdl, .int .i64 t.faw, .int .i64 t.ccds, .int .i64 t.ccdl, .int .i64 t.rtp, .int .i64 t.wr, .int .i64 t.wtrs, .int .i64 t.wtrl, .int .i64 t.rtw, .int .i64 t.rfc, .int .i64 t.cke, .int .i64 t.xp, .int .i64 t.xs] 27) := by subst hw1; exact box4_1 _ _ _ _ _
  have a1 : w1.heap[w.heap.size + 1 + 1]? = some (.cells #[.int .i64 ka, .int .i64 xa, .int .i64 ya, .int .i64 za] 39) := by subst hw1; exact box4_2 _ _ _ _ _
  have b1 : w1.heap[w.heap.size + 1 + 1 + 1]? = some (.cells #[.int .i64 kb, .int .i64 xb, .int .i64 yb, .int .i64 zb] 39) := by subst hw1; exact box4_3 _ _ _ _ _
  obtain ⟨_, cg, _, _⟩ := cells4 g1
  obtain ⟨ca, cx, _, _⟩ := cells4 a1
  obtain ⟨cb, cy, _, _⟩ := cells4 b1
  have zg := fun q : Later w1 => q.cell cg
  have za0 := fun q : Later w1 => q.cell ca
  have za1 := fun q : Later w1 => q.cell cx
  have zb0 := fun q : Later w1 => q.cell cb
  have zb1 := fun q : Later w1 => q.cell cy
  obtain ⟨e1, e2⟩ := div_facts hxa hB
  obtain ⟨e3, e4⟩ := div_facts hxb hB
  have e5 : ¬ (B = 0) := by omega
  clear hB hxa hxb
  by_cases h1 : ka ≤ 5
  case neg =>
    have d1 : decide (ka ≤ 5) = false := decide_eq_false h1
    have HN : nearP B ka xa kb xb = false := decide_eq_false (fun h => h1 h.1.1)
    have HS : sameP ka xa kb xb = false := decide_eq_false (fun h => h1 h.1.1)
    obtain ⟨N, hN⟩ : ∃ N, rankG t ka kb false = N := ⟨_, rfl⟩
    have HRN := Lib.hid hN
    have HE : Hid (v = max (max N 0) 1) := by show _ = _; rw [← hv]; unfold gapR; rw [HN, HS, hN]; rfl
    have rN := rankG_range t ka kb false
    rw [hN] at rN
    clear hv hN HN HS h1
    go_enter Try.func89, Try.ntmps89
    go_wp2_with fail
    refine wp_region_later (by kernel_rfl) (by kernel_rfl) ?_
    repeat (first | ((with_reducible refine ld_later ?_ ?_ p1 ?_); kernel_rfl; kernel_rfl; go_simp) | go_big_quiet_step ((go_at_call 112; exact Gives.later _ (specRankGap_is _ _ _ _ _ HRN.out _))))
    refine wpQuiet_nil ?_
    intro zz
    have p2 := zz.block p1
    obtain ⟨_, cx, _, _⟩ := cells4 (zz.block a1)
    obtain ⟨_, cy, _, _⟩ := cells4 (zz.block b1)
    obtain ⟨ca, _, _, _⟩ := cells4 (zz.block a1)
    obtain ⟨cb, _, _, _⟩ := cells4 (zz.block b1)
    have HB2 : Hid (Below w.heap.size w zz.to) := HB1.out.trans (zz.ok.mono HB1.out.size)
    by_cases hn : N < 1
    · go_wp2
      go_ret
      exact ⟨ret_i (by rw [HE.out]; omega), HB2.out⟩
    · go_wp2
      go_ret
      exact ⟨ret_i (by rw [HE.out]; omega), HB2.out⟩
  by_cases h2 : kb ≤ 5
  case neg =>
    have d1 : decide (ka ≤ 5) = true := decide_eq_true h1
    have d2 : decide (kb ≤ 5) = false := decide_eq_false h2
    have HN : nearP B ka xa kb xb = false := decide_eq_false (fun h => h2 h.1.2)
    have HS : sameP ka xa kb xb = false := decide_eq_false (fun h => h2 h.1.2)
    obtain ⟨N, hN⟩ : ∃ N, rankG t ka kb false = N := ⟨_, rfl⟩
    have HRN := Lib.hid hN
    have HE : Hid (v = max (max N 0) 1) := by show _ = _; rw [← hv]; unfold gapR; rw [HN, HS, hN]; rfl
    have rN := rankG_range t ka kb false
    rw [hN] at rN
    clear hv hN HN HS h1 h2
    go_enter Try.func89, Try.ntmps89
    go_wp2_with fail
    refine wp_region_later (by kernel_rfl) (by kernel_rfl) ?_
    repeat (first | ((with_reducible refine ld_later ?_ ?_ p1 ?_); kernel_rfl; kernel_rfl; go_simp) | go_big_quiet_step ((go_at_call 112; exact Gives.later _ (specRankGap_is _ _ _ _ _ HRN.out _))))
    refine wpQuiet_nil ?_
    intro zz
    have p2 := zz.block p1
    obtain ⟨_, cx, _, _⟩ := cells4 (zz.block a1)
    obtain ⟨_, cy, _, _⟩ := cells4 (zz.block b1)
    obtain ⟨ca, _, _, _⟩ := cells4 (zz.block a1)
    obtain ⟨cb, _, _, _⟩ := cells4 (zz.block b1)
    have HB2 : Hid (Below w.heap.size w zz.to) := HB1.out.trans (zz.ok.mono HB1.out.size)
    by_cases hn : N < 1
    · go_wp2
      go_ret
      exact ⟨ret_i (by rw [HE.out]; omega), HB2.out⟩
    · go_wp2
      go_ret
      exact ⟨ret_i (by rw [HE.out]; omega), HB2.out⟩
  by_cases hs : xa = xb
  case neg =>
    have d1 : decide (ka ≤ 5) = true := decide_eq_true h1
    have d2 : decide (kb ≤ 5) = true := decide_eq_true h2
    obtain ⟨q, hq⟩ : ∃ q, ((xa / B : Int) == xb / B) = q := ⟨_, rfl⟩
    have ds : ((xa : Int) == xb) = false := beq_eq_false_iff_ne.2 hs
    have HN : nearP B ka xa kb xb = q := by rw [← hq]; unfold nearP; rw [Bool.eq_iff_iff]; simp only [decide_eq_true_eq, beq_iff_eq]; exact ⟨fun h => h.2, fun h => ⟨⟨h1, h2⟩, h⟩⟩
    have HS : sameP ka xa kb xb = false := decide_eq_false (fun h => hs h.2)
    obtain ⟨N, hN⟩ : ∃ N, rankG t ka kb q = N := ⟨_, rfl⟩
    have HRN := Lib.hid hN
    have HE : Hid (v = max (max N 0) 1) := by show _ = _; rw [← hv]; unfold gapR; rw [HN, HS, hN]; rfl
    have rN := rankG_range t ka kb q
    rw [hN] at rN
    clear hv hN HN HS h1 h2 hs
    go_enter Try.func89, Try.ntmps89
    go_wp2_with fail
    refine wp_region_later (by kernel_rfl) (by kernel_rfl) ?_
    repeat (first | ((with_reducible refine ld_later ?_ ?_ p1 ?_); kernel_rfl; kernel_rfl; go_simp) | go_big_quiet_step ((go_at_call 112; exact Gives.later _ (specRankGap_is _ _ _ _ _ HRN.out _))))
    refine wpQuiet_nil ?_
    intro zz
    have p2 := zz.block p1
    obtain ⟨_, cx, _, _⟩ := cells4 (zz.block a1)
    obtain ⟨_, cy, _, _⟩ := cells4 (zz.block b1)
    obtain ⟨ca, _, _, _⟩ := cells4 (zz.block a1)
    obtain ⟨cb, _, _, _⟩ := cells4 (zz.block b1)
    have HB2 : Hid (Below w.heap.size w zz.to) := HB1.out.trans (zz.ok.mono HB1.out.size)
    by_cases hn : N < 1
    · go_wp2
      go_ret
      exact ⟨ret_i (by rw [HE.out]; omega), HB2.out⟩
    · go_wp2
      go_ret
      exact ⟨ret_i (by rw [HE.out]; omega), HB2.out⟩
  have d1 : decide (ka ≤ 5) = true := decide_eq_true h1
  have d2 : decide (kb ≤ 5) = true := decide_eq_true h2
  obtain ⟨q, hq⟩ : ∃ q, ((xa / B : Int) == xb / B) = q := ⟨_, rfl⟩
  have ds : ((xa : Int) == xb) = true := beq_iff_eq.2 hs
  have HN : nearP B ka xa kb xb = q := by rw [← hq]; unfold nearP; rw [Bool.eq_iff_iff]; simp only [decide_eq_true_eq, beq_iff_eq]; exact ⟨fun h => h.2, fun h => ⟨⟨h1, h2⟩, h⟩⟩
  have HS : sameP ka xa kb xb = true := decide_eq_true ⟨⟨h1, h2⟩, hs⟩
  obtain ⟨N, hN⟩ : ∃ N, rankG t ka kb q = N := ⟨_, rfl⟩
  have HRN := Lib.hid hN
  obtain ⟨M, hM⟩ : ∃ M, bankG t ka kb = M := ⟨_, rfl⟩
  have HRM := Lib.hid hM
  have HE : Hid (v = max (max N M) 1) := by show _ = _; rw [← hv]; unfold gapR; rw [HN, HS, hN, hM]; rfl
  have rN := rankG_range t ka kb q
  rw [hN] at rN
  clear hv hN HN HS hM h1 h2 hs
  go_enter Try.func89, Try.ntmps89
  go_wp2_with fail
  refine wp_region_later (by kernel_rfl) (by kernel_rfl) ?_
  repeat (first | ((with_reducible refine ld_later ?_ ?_ p1 ?_); kernel_rfl; kernel_rfl; go_simp) | go_big_quiet_step ((go_at_call 112; exact Gives.later _ (specRankGap_is _ _ _ _ _ HRN.out _))))
  refine wpQuiet_nil ?_
  intro zz
  have p2 := zz.block p1
  obtain ⟨_, cx, _, _⟩ := cells4 (zz.block a1)
  obtain ⟨_, cy, _, _⟩ := cells4 (zz.block b1)
  obtain ⟨ca, _, _, _⟩ := cells4 (zz.block a1)
  obtain ⟨cb, _, _, _⟩ := cells4 (zz.block b1)
  have HB2 : Hid (Below w.heap.size w zz.to) := HB1.out.trans (zz.ok.mono HB1.out.size)
  go_wp2_with (first | ((with_reducible refine ld_tm ?_ ?_ p2 ?_); kernel_rfl; kernel_rfl; go_simp))
  refine (specBankGap_is t _ _ _ HRM.out _).mono ?_
  rintro e w3 ⟨rfl, hb3⟩
  have HB3 : Hid (Below w.heap.size w w3) := HB2.out.trans (hb3.mono HB2.out.size)
  clear hb3
  have rM := bankG_range t ka kb
  rw [HRM.out] at rM
  by_cases hnm : N < M
  · by_cases hn : M < 1
    · go_wp2
      go_ret
      exact ⟨ret_i (by rw [HE.out]; omega), HB3.out⟩
    · go_wp2
      go_ret
      exact ⟨ret_i (by rw [HE.out]; omega), HB3.out⟩
  · by_cases hn : N < 1
    · go_wp2
      go_ret
      exact ⟨ret_i (by rw [HE.out]; omega), HB3.out⟩
    · go_wp2
      go_ret
      exact ⟨ret_i (by rw [HE.out]; omega), HB3.out⟩

end Go.Proofs.Ythplhjdfajhmpaa

namespace Go.Proofs.Ythplhjdfajhmpaa

set_option linter.unusedVariables false

/-- Times that exist. -/
def TimesIn (L : List Ev) : Prop := ∀ i, i < L.length → 0 ≤ (L.getD i ev0).t ∧ (L.getD i ev0).t ≤ 1000000

theorem TrOk.times {g0 B g2 g3 : Int} {t : Tm} {n : Nat} {L : List Ev} (h : TrOk g0 B g2 g3 t n L) : TimesIn L := fun i hi => (h.isIn hi).1

theorem TrOk.cmd {g0 B g2 g3 : Int} {t : Tm} {n : Nat} {L : List Ev} (h : TrOk g0 B g2 g3 t n L) {i : Nat} (hi : i < L.length) : CmdIn g0 B g2 g3 (L.getD i ev0) := (evF_zero.1 (h.at hi)).1.1

theorem TrOk.asc {g0 B g2 g3 : Int} {t : Tm} {n : Nat} {L : List Ev} (h : TrOk g0 B g2 g3 t n L) : ∀ {i j : Nat}, i ≤ j → j < L.length → (L.getD i ev0).t ≤ (L.getD j ev0).t := by
  intro i j hij hj
  induction j with
  | zero => obtain rfl : i = 0 := by omega
            exact Int.le_refl _
  | succ j ih =>
    by_cases he : i = j + 1
    · rw [he]; exact Int.le_refl _
    · have h1 := ih (by omega) (by omega)
      have h2 := (evF_zero.1 (h.at hj)).1.2.2
      rw [past_iff (Nat.succ_pos j) (Nat.le_of_lt hj)] at h2
      have h3 : (L.getD j ev0).t < (L.getD (j + 1) ev0).t := h2
      omega

/-- From the index k on; ahead of it no rule reaches beyond the last event. -/
def RecAt (L : List Ev) (k : Nat) : Prop := k ≤ L.length ∧ (0 < L.length → k < L.length) ∧ (k = 0 ∨ (L.getD (k - 1) ev0).t + 128 ≤ (L.getD (L.length - 1) ev0).t)

/-- The earliest time that the distances to these leave. -/
def gapM (g0 B g2 g3 : Int) (t : Tm) (L : List Ev) (k x y z : Int) : Int := L.foldl (fun m e => max m (e.t + gapG t g0 B g2 g3 e.k e.x e.y e.z k x y z)) 0

theorem gapM_le {g0 B g2 g3 : Int} {t : Tm} {L : List Ev} {k x y z : Int} : 0 ≤ gapM g0 B g2 g3 t L k x y z ∧ ∀ e ∈ L, e.t + gapG t g0 B g2 g3 e.k e.x e.y e.z k x y z ≤ gapM g0 B g2 g3 t L k x y z := by
  suffices h : ∀ (L : List Ev) (m : Int), m ≤ L.foldl (fun m e => max m (e.t + gapG t g0 B g2 g3 e.k e.x e.y e.z k x y z)) m ∧ ∀ e ∈ L, e.t + gapG t g0 B g2 g3 e.k e.x e.y e.z k x y z ≤ L.foldl (fun m e => max m (e.t + gapG t g0 B g2 g3 e.k e.x e.y e.z k x y z)) m from h L 0
  intro L
  induction L with
  | nil => intro m; exact ⟨Int.le_refl _, fun e he => by cases he⟩
  | cons d L ih =>
    intro m
    obtain ⟨h1, h2⟩ := ih (max m (d.t + gapG t g0 B g2 g3 d.k d.x d.y d.z k x y z))
    refine ⟨Int.le_trans (Int.le_max_left _ _) h1, fun e he => ?_⟩
    rcases List.mem_cons.1 he with rfl | he
    · exact Int.le_trans (Int.le_max_right _ _) h1
    · exact h2 e he

theorem gapM_is {g0 B g2 g3 : Int} {t : Tm} {L : List Ev} {k x y z : Int} : gapM g0 B g2 g3 t L k x y z = 0 ∨ ∃ e ∈ L, gapM g0 B g2 g3 t L k x y z = e.t + gapG t g0 B g2 g3 e.k e.x e.y e.z k x y z := by
  suffices h : ∀ (L : List Ev) (m : Int), L.foldl (fun m e => max m (e.t + gapG t g0 B g2 g3 e.k e.x e.y e.z k x y z)) m = m ∨ ∃ e ∈ L, L.foldl (fun m e => max m (e.t + gapG t g0 B g2 g3 e.k e.x e.y e.z k x y z)) m = e.t + gapG t g0 B g2 g3 e.k e.x e.y e.z k x y z from h L 0
  intro L
  induction L with
  | nil => intro m; exact .inl rfl
  | cons d L ih =>
    intro m
    rcases ih (max m (d.t + gapG t g0 B g2 g3 d.k d.x d.y d.z k x y z)) with h | ⟨e, he, h⟩
    · rw [List.foldl_cons, h]
      by_cases hm : m ≤ d.t + gapG t g0 B g2 g3 d.k d.x d.y d.z k x y z
      · exact .inr ⟨d, List.mem_cons_self, by omega⟩
      · exact .inl (by omega)
    · exact .inr ⟨e, List.mem_cons_of_mem _ he, h⟩

/-- The first time at which a command of this kind is no fifth activation within FAW, by these events. -/
def fawM (faw : Int) (L : List Ev) (k : Int) : Int := if k = 1 ∧ 4 ≤ (actsT L).length then (actsT L).getD ((actsT L).length - 4) 0 + faw else 0

theorem getD_mem {L : List Ev} {i : Nat} (hi : i < L.length) : L.getD i ev0 ∈ L := by
  rw [List.getD_eq_getElem?_getD, List.getElem?_eq_getElem hi]
  exact List.getElem_mem hi

theorem mem_getD {L : List Ev} {e : Ev} (h : e ∈ L) : ∃ i, i < L.length ∧ L.getD i ev0 = e := by
  obtain ⟨i, hi, rfl⟩ := List.getElem_of_mem h
  exact ⟨i, hi, by rw [List.getD_eq_getElem?_getD, List.getElem?_eq_getElem hi]; rfl⟩

theorem getD_drop {L : List Ev} {k i : Nat} : (L.drop k).getD i ev0 = L.getD (k + i) ev0 := by
  rw [List.getD_eq_getElem?_getD, List.getD_eq_getElem?_getD, List.getElem?_drop]

theorem RecAt.old {g0 B g2 g3 : Int} {t : Tm} {n : Nat} {L : List Ev} {k : Nat} (hr : RecAt L k) (h : TrOk g0 B g2 g3 t n L) {i : Nat} (hi : i < k) : (L.getD i ev0).t + 128 ≤ (L.getD (L.length - 1) ev0).t := by
  rcases hr.2.2 with h0 | h1
  · omega
  · have := h.asc (i := i) (j := k - 1) (by omega) (by have := hr.1; omega)
    omega

theorem actsT_split (L : List Ev) (k : Nat) : actsT L = actsT (L.take k) ++ actsT (L.drop k) := by
  unfold actsT
  rw [← List.map_append, ← List.filter_append, List.take_append_drop]

theorem actsT_mem {L : List Ev} {a : Int} (h : a ∈ actsT L) : ∃ e ∈ L, e.t = a := by
  unfold actsT at h
  obtain ⟨e, he, hx⟩ := List.mem_map.1 h
  exact ⟨e, (List.mem_filter.1 he).1, hx⟩

/-- The fourth activation from the end: of the near ones, or long ago. -/
theorem RecAt.fourth {g0 B g2 g3 : Int} {t : Tm} {n : Nat} {L : List Ev} {k : Nat} (hr : RecAt L k) (h : TrOk g0 B g2 g3 t n L) :
    (4 ≤ (actsT (L.drop k)).length → 4 ≤ (actsT L).length ∧ (actsT L).getD ((actsT L).length - 4) 0 = (actsT (L.drop k)).getD ((actsT (L.drop k)).length - 4) 0) ∧
    (¬ 4 ≤ (actsT (L.drop k)).length → 4 ≤ (actsT L).length → (actsT L).getD ((actsT L).length - 4) 0 + 128 ≤ (L.getD (L.length - 1) ev0).t) := by
  have hs := actsT_split L k
  have hlen : (actsT L).length = (actsT (L.take k)).length + (actsT (L.drop k)).length := by rw [hs, List.length_append]
  constructor
  · intro h4
    refine ⟨by omega, ?_⟩
    rw [List.getD_eq_getElem?_getD, List.getD_eq_getElem?_getD, hlen, hs, List.getElem?_append_right (by omega)]
    congr 2
    omega
  · intro h4 h5
    have hi : (actsT L).length - 4 < (actsT (L.take k)).length := by omega
    have hm : (actsT L).getD ((actsT L).length - 4) 0 ∈ actsT (L.take k) := by
      rw [List.getD_eq_getElem?_getD, hlen, hs, List.getElem?_append_left (by omega), List.getElem?_eq_getElem (by omega)]
      exact List.getElem_mem (by omega)
    obtain ⟨e, he, hx⟩ := actsT_mem hm
    obtain ⟨i, hi, rfl⟩ := mem_getD he
    have hik : i < k := by rw [List.length_take] at hi; omega
    have hil : i < L.length := by rw [List.length_take] at hi; omega
    have e1 : (L.take k).getD i ev0 = L.getD i ev0 := by
      rw [List.getD_eq_getElem?_getD, List.getD_eq_getElem?_getD, List.getElem?_take_of_lt hik]
    rw [e1] at hx
    rw [← hx]
    exact hr.old h hik

theorem past_last {L : List Ev} {e : Ev} (h : Past L e) (h0 : 0 < L.length) : (L.getD (L.length - 1) ev0).t < e.t := by
  have h1 := (past_iff (L := L) (k := L.length) (e := e) h0 (Nat.le_refl _)).1 (by rw [List.take_length]; exact h)
  exact h1

theorem RecAt.faw {g0 B g2 g3 : Int} {t : Tm} (ht : TimOk t) {n : Nat} {L : List Ev} {k : Nat} (hr : RecAt L k) (h : TrOk g0 B g2 g3 t n L) {e : Ev} (he : FormE g0 B g2 g3 L e) :
    decide (e.t < fawM t.faw (L.drop k) e.k) = decide (FawE t.faw L e) := by
  obtain ⟨h1, h2⟩ := hr.fourth h
  have hf := ht.nums.2.2.2.2.2.1
  unfold In64 at hf
  rw [Bool.eq_iff_iff, decide_eq_true_iff, decide_eq_true_iff]
  unfold fawM FawE
  have h0 := he.2.1.1
  by_cases hk : e.k = 1
  · by_cases h4 : 4 ≤ (actsT (L.drop k)).length
    · obtain ⟨h5, h6⟩ := h1 h4
      rw [if_pos ⟨hk, h4⟩, h6]
      constructor
      · intro hlt; exact ⟨hk, h5, by omega⟩
      · rintro ⟨_, _, hlt⟩; omega
    · rw [if_neg (fun hh => h4 hh.2)]
      constructor
      · intro hlt; omega
      · rintro ⟨_, h5, hlt⟩
        have h6 := h2 h4 h5
        have h7 := past_last he.2.2 (by have := actsT_length L; omega)
        omega
  · rw [if_neg (fun hh => hk hh.1)]
    constructor
    · intro hlt; omega
    · rintro ⟨hh, _⟩; exact absurd hh hk

/-- The near events give the earliest time of a command that is one. -/
theorem RecAt.next {g0 B g2 g3 : Int} {t : Tm} (ht : TimOk t) {n : Nat} {L : List Ev} {k : Nat} (hr : RecAt L k) (h : TrOk g0 B g2 g3 t n L) {c x y z : Int} (hc : CmOk c x y z ∧ AdOk g0 B g2 g3 x y z) :
    max (gapM g0 B g2 g3 t (L.drop k) c x y z) (fawM t.faw (L.drop k) c) = nextT B t L c x := by
  have hG : ∀ d ∈ L, gapG t g0 B g2 g3 d.k d.x d.y d.z c x y z = gapR B t d.k d.x c x := fun d hd => by
    obtain ⟨i, hi, rfl⟩ := mem_getD hd
    exact if_pos ⟨ht, h.cmd hi, hc⟩
  obtain ⟨g1, g2'⟩ := gapM_le (g0 := g0) (B := B) (g2 := g2) (g3 := g3) (t := t) (L := L.drop k) (k := c) (x := x) (y := y) (z := z)
  obtain ⟨g3', g4⟩ := gapT_le (B := B) (t := t) (L := L) (k := c) (x := x)
  have hup : gapM g0 B g2 g3 t (L.drop k) c x y z ≤ gapT B t L c x := by
    rcases gapM_is (g0 := g0) (B := B) (g2 := g2) (g3 := g3) (t := t) (L := L.drop k) (k := c) (x := x) (y := y) (z := z) with hz | ⟨d, hd, hz⟩
    · omega
    · have hd' : d ∈ L := List.mem_of_mem_drop hd
      rw [hG d hd'] at hz
      have := g4 d hd'
      omega
  have hlast : 0 < L.length → (L.getD (L.length - 1) ev0).t + 1 ≤ gapM g0 B g2 g3 t (L.drop k) c x y z := fun h0 => by
    have hm : L.getD (L.length - 1) ev0 ∈ L.drop k := by
      have hk := hr.2.1 h0
      have e1 : (L.drop k).getD (L.length - 1 - k) ev0 = L.getD (L.length - 1) ev0 := by rw [getD_drop]; congr 1; omega
      rw [← e1]
      exact getD_mem (by rw [List.length_drop]; omega)
    have h3 := g2' _ hm
    rw [hG _ (List.mem_of_mem_drop hm)] at h3
    have hrg := gapR_range B t (L.getD (L.length - 1) ev0).k (L.getD (L.length - 1) ev0).x c x
    omega
  have hlow : gapT B t L c x ≤ gapM g0 B g2 g3 t (L.drop k) c x y z := by
    rcases gapT_is (B := B) (t := t) (L := L) (k := c) (x := x) with hz | ⟨d, hd, hz⟩
    · omega
    · obtain ⟨i, hi, rfl⟩ := mem_getD hd
      have hrg := gapR_range B t (L.getD i ev0).k (L.getD i ev0).x c x
      have hl := hlast (by omega)
      by_cases hik : i < k
      · have h1 := hr.old h hik
        omega
      · have hm : L.getD i ev0 ∈ L.drop k := by
          have e1 : (L.drop k).getD (i - k) ev0 = L.getD i ev0 := by rw [getD_drop]; congr 1; omega
          rw [← e1]
          exact getD_mem (by rw [List.length_drop]; omega)
        have h3 := g2' _ hm
        rw [hG _ hd] at h3
        omega
  obtain ⟨f1, f2⟩ := hr.fourth h
  have hf := ht.nums.2.2.2.2.2.1
  unfold In64 at hf
  unfold nextT fawM
  by_cases hk : c = 1
  · by_cases h4 : 4 ≤ (actsT (L.drop k)).length
    · obtain ⟨h5, h6⟩ := f1 h4
      rw [if_pos ⟨hk, h4⟩, if_pos ⟨hk, h5⟩, h6]
      omega
    · rw [if_neg (fun hh => h4 hh.2)]
      by_cases h5 : 4 ≤ (actsT L).length
      · have h6 := f2 h4 h5
        have h7 := hlast (by have := actsT_length L; omega)
        rw [if_pos ⟨hk, h5⟩]
        omega
      · rw [if_neg (fun hh => h5 hh.2)]
        omega
  · rw [if_neg (fun hh => hk hh.1), if_neg (fun hh => hk hh.1)]
    omega

/-- The numbers that impl computes, whatever the times are. -/
def gapW (g0 B g2 g3 : Int) (t : Tm) (L : List Ev) (k x y z : Int) : Int := L.foldl (fun m e => max m (IntKind.i64.wrap (e.t + gapG t g0 B g2 g3 e.k e.x e.y e.z k x y z))) 0

theorem gapW_snoc (g0 B g2 g3 : Int) (t : Tm) (P : List Ev) (e : Ev) (k x y z : Int) : gapW g0 B g2 g3 t (P ++ [e]) k x y z = max (gapW g0 B g2 g3 t P k x y z) (IntKind.i64.wrap (e.t + gapG t g0 B g2 g3 e.k e.x e.y e.z k x y z)) := by simp [gapW]

def fawA (faw : Int) (A : List Int) (k : Int) : Int := if k = 1 ∧ 4 ≤ A.length then IntKind.i64.wrap (A.getD (A.length - 4) 0 + faw) else 0

theorem TimesIn.mem {L : List Ev} (h : TimesIn L) {e : Ev} (he : e ∈ L) : 0 ≤ e.t ∧ e.t ≤ 1000000 := by
  obtain ⟨i, hi, rfl⟩ := mem_getD he
  exact h i hi

theorem TimesIn.drop {L : List Ev} (h : TimesIn L) (k : Nat) : TimesIn (L.drop k) := fun i hi => by
  rw [getD_drop]
  rw [List.length_drop] at hi
  exact h _ (by omega)

end Go.Proofs.Ythplhjdfajhmpaa

namespace Go.Proofs.Ythplhjdfajhmpaa

set_option linter.unusedVariables false

/-- Is this index used, with N banks? -/
def usedI (N i : Nat) : Bool := decide (i % 9 + 1 ≤ 5) == decide (i / 9 < N)

/-- The last times of a valid summary. -/
def LastOk (N : Nat) (la : List Int) : Prop := ∀ i, i < la.length → (-1 ≤ la.getD i 0 ∧ la.getD i 0 ≤ 1000000) ∧ (usedI N i = true ∨ la.getD i 0 = -1)

instance (N : Nat) (la : List Int) : Decidable (LastOk N la) := inferInstanceAs (Decidable (∀ i, i < la.length → _))

/-- The activations of a valid summary. -/
def ActsOk (ac : List Int) : Prop := ∀ i, i < ac.length → (0 ≤ ac.getD i 0 ∧ ac.getD i 0 ≤ 1000000) ∧ (0 < i → ac.getD (i - 1) 0 < ac.getD i 0)

instance (ac : List Int) : Decidable (ActsOk ac) := inferInstanceAs (Decidable (∀ i, i < ac.length → _))

/-- A valid summary. -/
def RdOk (g0 B g2 g3 : Int) (N : Nat) (la ac : List Int) : Prop := GeoOk g0 B g2 g3 ∧ la.length = 9 * (N + 1) ∧ ac.length ≤ 4 ∧ LastOk N la ∧ ActsOk ac

instance (g0 B g2 g3 : Int) (N : Nat) (la ac : List Int) : Decidable (RdOk g0 B g2 g3 N la ac) := inferInstanceAs (Decidable (_ ∧ _))

/-- Where the last time of such a command stands. -/
def slotI (N : Nat) (k x : Int) : Nat := 9 * (if k ≤ 5 then x.toNat else N) + (k.toNat - 1)

def addL (N : Nat) (la : List Int) (e : Ev) : List Int := la.set (slotI N e.k e.x) e.t

def addA (ac : List Int) (e : Ev) : List Int := if e.k = 1 then (if 4 < (ac ++ [e.t]).length then (ac ++ [e.t]).drop 1 else ac ++ [e.t]) else ac

/-- Is an event added? -/
def CanAdd (g0 B g2 g3 : Int) (N : Nat) (la ac : List Int) (e : Ev) : Prop := RdOk g0 B g2 g3 N la ac ∧ CmdIn g0 B g2 g3 e ∧ (0 ≤ e.t ∧ e.t ≤ 1000000) ∧ ¬ (e.k = 1 ∧ 0 < ac.length ∧ e.t ≤ ac.getD (ac.length - 1) 0)

instance (g0 B g2 g3 : Int) (N : Nat) (la ac : List Int) (e : Ev) : Decidable (CanAdd g0 B g2 g3 N la ac e) := inferInstanceAs (Decidable (_ ∧ _))

def rdL (g0 B g2 g3 : Int) (N : Nat) (la ac : List Int) (e : Ev) : List Int := if CanAdd g0 B g2 g3 N la ac e then addL N la e else la

def rdA (g0 B g2 g3 : Int) (N : Nat) (la ac : List Int) (e : Ev) : List Int := if CanAdd g0 B g2 g3 N la ac e then addA ac e else ac

/-- The summary of no event. -/
def newL (g0 B g2 g3 : Int) (N : Nat) : List Int := if GeoOk g0 B g2 g3 then List.replicate (9 * (N + 1)) (-1) else []

/-- The summary of events. -/
def ofT (g0 B g2 g3 : Int) (N : Nat) (L : List Ev) : List Int × List Int := L.foldl (fun r e => (rdL g0 B g2 g3 N r.1 r.2 e, rdA g0 B g2 g3 N r.1 r.2 e)) (newL g0 B g2 g3 N, [])

theorem ofT_snoc (g0 B g2 g3 : Int) (N : Nat) (P : List Ev) (e : Ev) : ofT g0 B g2 g3 N (P ++ [e]) = (rdL g0 B g2 g3 N (ofT g0 B g2 g3 N P).1 (ofT g0 B g2 g3 N P).2 e, rdA g0 B g2 g3 N (ofT g0 B g2 g3 N P).1 (ofT g0 B g2 g3 N P).2 e) := by simp [ofT]

/-- Kind and bank of an index. -/
def kindI (i : Nat) : Int := ((i % 9 + 1 : Nat) : Int)

def bankI (i : Nat) : Int := if i % 9 + 1 ≤ 5 then ((i / 9 : Nat) : Int) else 0

/-- The earliest time that the first m indices leave. -/
def atM (B : Int) (t : Tm) (la : List Int) (k x : Int) : Nat → Int
  | 0 => 0
  | m + 1 => if la.getD m 0 < 0 then atM B t la k x m else max (atM B t la k x m) (la.getD m 0 + gapR B t (kindI m) (bankI m) k x)

/-- .. and the activations. -/
def atS (B : Int) (t : Tm) (la ac : List Int) (k x : Int) : Int :=
  if k = 1 ∧ ac.length = 4 then max (atM B t la k x la.length) (ac.getD 0 0 + t.faw) else atM B t la k x la.length

def atV (g0 B g2 g3 : Int) (t : Tm) (N : Nat) (la ac : List Int) (k x y z : Int) : Int :=
  if (TimOk t ∧ RdOk g0 B g2 g3 N la ac ∧ CmOk k x y z ∧ AdOk g0 B g2 g3 x y z) ∧ atS B t la ac k x ≤ 1000000 then atS B t la ac k x else -1

theorem atM_le (B : Int) (t : Tm) (la : List Int) (k x : Int) : ∀ m, 0 ≤ atM B t la k x m ∧ ∀ i, i < m → 0 ≤ la.getD i 0 → la.getD i 0 + gapR B t (kindI i) (bankI i) k x ≤ atM B t la k x m
  | 0 => ⟨Int.le_refl _, fun i hi => absurd hi (Nat.not_lt_zero _)⟩
  | m + 1 => by
    obtain ⟨h1, h2⟩ := atM_le B t la k x m
    unfold atM
    split
    · refine ⟨h1, fun i hi h0 => ?_⟩
      by_cases e : i = m
      · subst e; omega
      · exact h2 i (by omega) h0
    · refine ⟨by omega, fun i hi h0 => ?_⟩
      by_cases e : i = m
      · subst e; omega
      · have := h2 i (by omega) h0
        omega

theorem atM_is (B : Int) (t : Tm) (la : List Int) (k x : Int) : ∀ m, atM B t la k x m = 0 ∨ ∃ i, i < m ∧ 0 ≤ la.getD i 0 ∧ atM B t la k x m = la.getD i 0 + gapR B t (kindI i) (bankI i) k x
  | 0 => .inl rfl
  | m + 1 => by
    unfold atM
    split
    · rcases atM_is B t la k x m with h | ⟨i, h1, h2, h3⟩
      · exact .inl h
      · exact .inr ⟨i, by omega, h2, h3⟩
    · by_cases hx : atM B t la k x m ≤ la.getD m 0 + gapR B t (kindI m) (bankI m) k x
      · exact .inr ⟨m, by omega, by omega, by omega⟩
      · rcases atM_is B t la k x m with h | ⟨i, h1, h2, h3⟩
        · exact .inl (by omega)
        · exact .inr ⟨i, by omega, h2, by omega⟩

theorem slot_lt {N : Nat} {k x : Int} (hk : 1 ≤ k ∧ k ≤ 9) (hx : k ≤ 5 → 0 ≤ x ∧ x < (N : Int)) : slotI N k x < 9 * (N + 1) := by
  unfold slotI
  split
  · rename_i h
    have := hx h
    omega
  · omega

theorem slot_parts {N : Nat} {k x : Int} (hk : 1 ≤ k ∧ k ≤ 9) : slotI N k x % 9 + 1 = k.toNat ∧ slotI N k x / 9 = (if k ≤ 5 then x.toNat else N) := by
  unfold slotI
  split <;> omega

theorem slot_used {N : Nat} {k x : Int} (hk : 1 ≤ k ∧ k ≤ 9) (hx : k ≤ 5 → 0 ≤ x ∧ x < (N : Int)) : usedI N (slotI N k x) = true := by
  obtain ⟨h1, h2⟩ := slot_parts (N := N) (x := x) hk
  unfold usedI
  rw [h1, h2, beq_iff_eq]
  split
  · rename_i h
    have := hx h
    rw [decide_eq_true (by omega), decide_eq_true (by omega)]
  · rw [decide_eq_false (by omega), decide_eq_false (by omega)]

theorem slot_gap {N : Nat} {k x y z : Int} (hc : CmOk k x y z) (B : Int) (t : Tm) (c b : Int) : gapR B t (kindI (slotI N k x)) (bankI (slotI N k x)) c b = gapR B t k x c b := by
  obtain ⟨h1, h2⟩ := slot_parts (N := N) (x := x) hc.1
  have e1 : kindI (slotI N k x) = k := by unfold kindI; rw [h1]; have := hc.1; omega
  have e2 : bankI (slotI N k x) = x := by
    unfold bankI
    rw [h1, h2]
    have := hc.1
    have h3 := hc.2.1
    have h4 := hc.2.2.2.2.1
    by_cases hk : k ≤ 5
    · rw [if_pos (by omega), if_pos hk]
      omega
    · rw [if_neg (by omega)]
      omega
  rw [e1, e2]

theorem getD_set_self {l : List Int} {i : Nat} (h : i < l.length) (v : Int) : (l.set i v).getD i 0 = v := by
  rw [List.getD_eq_getElem?_getD, List.getElem?_set_self h]; rfl

theorem getD_set_other {l : List Int} {i j : Nat} (h : i ≠ j) (v : Int) : (l.set i v).getD j 0 = l.getD j 0 := by
  rw [List.getD_eq_getElem?_getD, List.getD_eq_getElem?_getD, List.getElem?_set_ne h]

theorem ad_bank {g0 B g2 g3 x y z : Int} {N : Nat} (hN : bankN g0 B g2 g3 = (N : Int)) (h : AdOk g0 B g2 g3 x y z) : 0 ≤ x ∧ x < (N : Int) := ⟨h.1.1, by have := h.1.2; omega⟩

/-- What the summary of a trace without faults is. -/
structure Summ (N : Nat) (P : List Ev) (la ac : List Int) : Prop where
  len : la.length = 9 * (N + 1)
  acts : ac = (actsT P).drop ((actsT P).length - 4)
  src : ∀ i, i < la.length → la.getD i 0 = -1 ∨ ∃ e ∈ P, slotI N e.k e.x = i ∧ la.getD i 0 = e.t
  top : ∀ e ∈ P, e.t ≤ la.getD (slotI N e.k e.x) 0

theorem acts_sorted {g0 B g2 g3 : Int} {t : Tm} {n : Nat} {L : List Ev} (h : TrOk g0 B g2 g3 t n L) {i j : Nat} (hij : i < j) (hj : j < (actsT L).length) : (actsT L).getD i 0 < (actsT L).getD j 0 := by
  have hlt : ∀ {i j : Nat}, i < j → j < L.length → (L.getD i ev0).t < (L.getD j ev0).t := by
    intro i j hij hj
    obtain ⟨m, rfl⟩ : ∃ m, j = m + 1 := ⟨j - 1, by omega⟩
    have h1 := h.asc (i := i) (j := m) (by omega) (by omega)
    have h2 := (evF_zero.1 (h.at hj)).1.2.2
    rw [past_iff (Nat.succ_pos m) (Nat.le_of_lt hj)] at h2
    have h3 : (L.getD m ev0).t < (L.getD (m + 1) ev0).t := h2
    omega
  have hp : L.Pairwise (fun a b => a.t < b.t) := by
    rw [List.pairwise_iff_getElem]
    intro i j hi hj hij
    have := hlt hij hj
    rw [List.getD_eq_getElem?_getD, List.getD_eq_getElem?_getD, List.getElem?_eq_getElem hi, List.getElem?_eq_getElem hj] at this
    exact this
  have hq : (actsT L).Pairwise (· < ·) := by
    unfold actsT
    rw [List.pairwise_map]
    exact hp.filter _
  rw [List.pairwise_iff_getElem] at hq
  have := hq i j (by omega) hj hij
  rw [List.getD_eq_getElem?_getD, List.getD_eq_getElem?_getD, List.getElem?_eq_getElem (show i < (actsT L).length by omega), List.getElem?_eq_getElem hj]
  exact this

theorem drop_getD (l : List Int) (k i : Nat) : (l.drop k).getD i 0 = l.getD (k + i) 0 := by
  rw [List.getD_eq_getElem?_getD, List.getD_eq_getElem?_getD, List.getElem?_drop]

theorem Summ.ok {g0 B g2 g3 : Int} {t : Tm} {N : Nat} (hg : GeoOk g0 B g2 g3) (hN : bankN g0 B g2 g3 = (N : Int)) {P : List Ev} (h : TrOk g0 B g2 g3 t N P) {la ac : List Int} (s : Summ N P la ac) : RdOk g0 B g2 g3 N la ac := by
  have hrk := (st_ok hg hN h).1
  have hbank : ∀ e ∈ P, e.k ≤ 5 → 0 ≤ e.x ∧ e.x < (N : Int) := fun e he _ => by
    obtain ⟨i, hi, rfl⟩ := mem_getD he
    exact ad_bank hN (h.cmd hi).2
  refine ⟨hg, s.len, ?_, fun i hi => ?_, fun i hi => ?_⟩
  · rw [s.acts, List.length_drop]; omega
  · rcases s.src i hi with h0 | ⟨e, he, hs, ht⟩
    · rw [h0]; exact ⟨by decide, .inr rfl⟩
    · have h1 := (h.mem he).1
      refine ⟨by omega, .inl ?_⟩
      rw [← hs]
      obtain ⟨i, hi, rfl⟩ := mem_getD he
      exact slot_used (h.cmd hi).1.1 (hbank _ he)
  · rw [s.acts, List.length_drop] at hi
    have e1 : ac.getD i 0 = (actsT P).getD ((actsT P).length - 4 + i) 0 := by rw [s.acts, drop_getD]
    rw [e1]
    refine ⟨h.acts (by omega), fun h0 => ?_⟩
    have e2 : ac.getD (i - 1) 0 = (actsT P).getD ((actsT P).length - 4 + (i - 1)) 0 := by rw [s.acts, drop_getD]
    rw [e2]
    exact acts_sorted h (by omega) (by omega)

theorem Summ.can {g0 B g2 g3 : Int} {t : Tm} {N : Nat} (hg : GeoOk g0 B g2 g3) (hN : bankN g0 B g2 g3 = (N : Int)) {P : List Ev} {e : Ev} (h : TrOk g0 B g2 g3 t N (P ++ [e])) {la ac : List Int} (s : Summ N P la ac) : CanAdd g0 B g2 g3 N la ac e := by
  obtain ⟨h1, h2⟩ := h.back
  obtain ⟨hf, _, _, _⟩ := evF_zero.1 h2
  refine ⟨s.ok hg hN h1, hf.1, hf.2.1, fun ⟨_, h0, hle⟩ => ?_⟩
  have hl : ac.length = (actsT P).length - ((actsT P).length - 4) := by rw [s.acts, List.length_drop]
  have e1 : ac.getD (ac.length - 1) 0 = (actsT P).getD ((actsT P).length - 4 + (ac.length - 1)) 0 := by rw [s.acts, drop_getD, ← s.acts]
  have hm : (actsT P).getD ((actsT P).length - 4 + (ac.length - 1)) 0 ∈ actsT P := by
    rw [List.getD_eq_getElem?_getD, List.getElem?_eq_getElem (by omega)]
    exact List.getElem_mem (by omega)
  obtain ⟨d, hd, hx⟩ := actsT_mem hm
  obtain ⟨i, hi, rfl⟩ := mem_getD hd
  have h3 := h1.asc (i := i) (j := P.length - 1) (by omega) (by omega)
  have h4 := past_last hf.2.2 (by omega)
  omega

theorem Summ.add {g0 B g2 g3 : Int} {t : Tm} {N : Nat} (hg : GeoOk g0 B g2 g3) (hN : bankN g0 B g2 g3 = (N : Int)) {P : List Ev} {e : Ev} (h : TrOk g0 B g2 g3 t N (P ++ [e])) {la ac : List Int} (s : Summ N P la ac) : Summ N (P ++ [e]) (addL N la e) (addA ac e) := by
  obtain ⟨h1, h2⟩ := h.back
  obtain ⟨hf, hm, _, _⟩ := evF_zero.1 h2
  have hrk := (st_ok hg hN h1).1
  have hxx : 0 ≤ e.x ∧ e.x < (N : Int) := ad_bank hN hf.1.2
  have hsl : slotI N e.k e.x < la.length := by rw [s.len]; exact slot_lt hf.1.1.1 (fun _ => hxx)
  have hlater : ∀ d ∈ P, d.t < e.t := fun d hd => by
    obtain ⟨i, hi, rfl⟩ := mem_getD hd
    have h3 := h1.asc (i := i) (j := P.length - 1) (by omega) (by omega)
    have h4 := past_last hf.2.2 (by omega)
    omega
  refine ⟨by unfold addL; rw [List.length_set]; exact s.len, ?_, fun i hi => ?_, fun d hd => ?_⟩
  · unfold addA
    rw [actsT_snoc]
    by_cases hk : e.k = 1
    · rw [if_pos hk, if_pos hk, s.acts]
      have e1 : ((actsT P).drop ((actsT P).length - 4) ++ [e.t]).length = (actsT P).length - ((actsT P).length - 4) + 1 := by rw [List.length_append, List.length_drop]; rfl
      rw [e1, List.length_append]
      show _ = (actsT P ++ [e.t]).drop ((actsT P).length + 1 - 4)
      by_cases h4 : 4 ≤ (actsT P).length
      · rw [if_pos (by omega)]
        have e2 : (actsT P).length + 1 - 4 = (actsT P).length - 4 + 1 := by omega
        have e3 : (actsT P ++ [e.t]).drop ((actsT P).length - 4) = (actsT P).drop ((actsT P).length - 4) ++ [e.t] := List.drop_append_of_le_length (by omega)
        have e4 : (actsT P ++ [e.t]).drop ((actsT P).length - 4 + 1) = ((actsT P ++ [e.t]).drop ((actsT P).length - 4)).drop 1 := by rw [List.drop_drop]
        rw [e2, e4, e3]
      · rw [if_neg (by omega)]
        have e2 : (actsT P).length - 4 = 0 := by omega
        have e3 : (actsT P).length + 1 - 4 = 0 := by omega
        rw [e2, e3, List.drop_zero, List.drop_zero]
    · rw [if_neg hk, if_neg hk]; exact s.acts
  · unfold addL at hi ⊢
    rw [List.length_set] at hi
    by_cases hi2 : slotI N e.k e.x = i
    · refine .inr ⟨e, List.mem_append_right _ List.mem_cons_self, hi2, ?_⟩
      rw [← hi2]
      exact getD_set_self hsl _
    · rw [getD_set_other hi2]
      rcases s.src i hi with h0 | ⟨d, hd, hs, ht⟩
      · exact .inl h0
      · exact .inr ⟨d, List.mem_append_left _ hd, hs, ht⟩
  · unfold addL
    by_cases hi2 : slotI N e.k e.x = slotI N d.k d.x
    · rw [← hi2, getD_set_self hsl]
      rcases List.mem_append.1 hd with hd | hd
      · have := hlater d hd; omega
      · rw [List.mem_singleton.1 hd]; exact Int.le_refl _
    · rw [getD_set_other hi2]
      rcases List.mem_append.1 hd with hd | hd
      · exact s.top d hd
      · exact absurd (by rw [List.mem_singleton.1 hd]) hi2

/-- The earliest time by the summary is that by the whole trace. -/
theorem Summ.next {g0 B g2 g3 : Int} {t : Tm} {N : Nat} (hg : GeoOk g0 B g2 g3) (hN : bankN g0 B g2 g3 = (N : Int)) {L : List Ev} (h : TrOk g0 B g2 g3 t N L) {la ac : List Int} (s : Summ N L la ac) (k x : Int) : atS B t la ac k x = nextT B t L k x := by
  have hrk := (st_ok hg hN h).1
  obtain ⟨a1, a2⟩ := atM_le B t la k x la.length
  obtain ⟨b1, b2⟩ := gapT_le (B := B) (t := t) (L := L) (k := k) (x := x)
  have hup : atM B t la k x la.length ≤ gapT B t L k x := by
    rcases atM_is B t la k x la.length with h0 | ⟨i, hi, h0, h1⟩
    · omega
    · rcases s.src i hi with h2 | ⟨e, he, hs, ht⟩
      · omega
      · have h3 := b2 e he
        obtain ⟨j, hj, rfl⟩ := mem_getD he
        have h4 := slot_gap (N := N) (h.cmd hj).1 B t k x
        rw [hs] at h4
        omega
  have hdn : gapT B t L k x ≤ atM B t la k x la.length := by
    rcases gapT_is (B := B) (t := t) (L := L) (k := k) (x := x) with h0 | ⟨e, he, h1⟩
    · omega
    · have ht := s.top e he
      obtain ⟨j, hj, rfl⟩ := mem_getD he
      have hc := (h.cmd hj).1
      have hxx : 0 ≤ (L.getD j ev0).x ∧ (L.getD j ev0).x < (N : Int) := ad_bank hN (h.cmd hj).2
      have hsl : slotI N (L.getD j ev0).k (L.getD j ev0).x < la.length := by rw [s.len]; exact slot_lt hc.1 (fun _ => hxx)
      have h3 := a2 _ hsl (by have := (h.mem he).1; omega)
      rw [slot_gap hc] at h3
      omega
  have hl : ac.length = (actsT L).length - ((actsT L).length - 4) := by rw [s.acts, List.length_drop]
  unfold atS nextT
  by_cases hk : k = 1 ∧ 4 ≤ (actsT L).length
  · have e1 : ac.getD 0 0 = (actsT L).getD ((actsT L).length - 4) 0 := by rw [s.acts, drop_getD, Nat.add_zero]
    rw [if_pos ⟨hk.1, by omega⟩, if_pos hk, e1]
    omega
  · rw [if_neg (fun hh => hk ⟨hh.1, by omega⟩), if_neg hk]
    omega

end Go.Proofs.Ythplhjdfajhmpaa

namespace Go.Proofs.Ythplhjdfajhmpaa
open Go.RowKit Go.PlainAid

set_option linter.unusedVariables false

/-- What comes in as a summary shows two rows of numbers. -/
theorem rd_in {w : World} {l : List Value} (h : Sh.Fits w (.and (.row (.num .i64)) (.and (.row (.num .i64)) .fin)) l) :
    ∃ a1 n1 c1 z1 a2 n2 c2 z2, l = [.slice a1 n1 c1, .slice a2 n2 c2] ∧ (z1.length = n1 ∧ RowI w a1 z1 ∧ n1 ≤ maxLen) ∧ (z2.length = n2 ∧ RowI w a2 z2 ∧ n2 ≤ maxLen) := by
  obtain ⟨p, q, rfl, h1, h2⟩ := h
  obtain ⟨a1, n1, c1, z1, e1, b1, b2, _, b3⟩ := part_in (w := w) (l := p ++ []) ⟨p, [], rfl, h1, rfl⟩
  obtain ⟨a2, n2, c2, z2, rfl, d1, d2, _, d3⟩ := part_in h2
  rw [List.append_nil] at e1
  subst e1
  exact ⟨a1, n1, c1, z1, a2, n2, c2, z2, rfl, ⟨b1, b2, b3⟩, ⟨d1, d2, d3⟩⟩

/-- The rows of a pair lie apart. -/
def Apt (a b : Option Addr) : Prop := ∀ x y, a = some x → b = some y → x.block ≠ y.block

/-- A call that answers a summary whose rows are its own. -/
def GivesRd (n1 n2 : Nat) (la ac : List Int) (w : World) (e : Ending) (w' : World) : Prop :=
  ∃ a1 c1 a2 c2, e = .returned (.agg #[.slice a1 n1 c1, .slice a2 n2 c2]) ∧ OwnI w.heap.size (.slice a1 n1 c1) la w' ∧ OwnI w.heap.size (.slice a2 n2 c2) ac w' ∧ Apt a1 a2 ∧ Below w.heap.size w w'

/-- At most two blocks turned. -/
structure Only2 (g h : Nat) (w w' : World) : Prop where
  os : w'.os = w.os
  tape : w'.tape = w.tape
  output : w'.output = w.output
  size : w.heap.size ≤ w'.heap.size
  block : ∀ k, k < w.heap.size → k ≠ g → k ≠ h → w'.heap[k]? = w.heap[k]?

theorem Only.two {g h : Nat} {a b c : World} (p : Only g a b) (q : Only h b c) : Only2 g h a c :=
  ⟨q.os.trans p.os, q.tape.trans p.tape, q.output.trans p.output, Nat.le_trans p.size q.size, fun k hk h1 h2 => (q.block k (Nat.lt_of_lt_of_le hk p.size) h2).trans (p.block k hk h1)⟩

theorem Only2.below {g h B : Nat} {w w' : World} (p : Only2 g h w w') (hg : B ≤ g) (hh : B ≤ h) (hs : B ≤ w.heap.size) : Below B w w' :=
  ⟨p.os, p.tape, p.output, p.size, fun k hk => p.block k (Nat.lt_of_lt_of_le hk hs) (by omega) (by omega)⟩

theorem OwnI.keep2 {B c n g h : Nat} {a : Option Addr} {l : List Int} {w w' : World} (p : OwnI B (.slice a n c) l w) (ho : Only2 g h w w') (hg : ∀ x, a = some x → x.block ≠ g) (hh : ∀ x, a = some x → x.block ≠ h) : OwnI B (.slice a n c) l w' := by
  refine ⟨p.1, ?_⟩
  rcases p.2 with ⟨hv, h0⟩ | ⟨b, cap, cur, hv, hB, hk, r⟩
  · exact .inl ⟨hv, h0⟩
  · cases hv
    exact .inr ⟨b, c, cur, rfl, hB, (ho.block b (lt_of_block hk) (hg _ rfl) (hh _ rfl)).trans hk, r⟩

theorem szReady_is (a1 : Option Addr) (n1 c1 : Nat) (a2 : Option Addr) (n2 c2 : Nat) (k v : Int) (hn1 : n1 ≤ maxLen) (hn2 : n2 ≤ maxLen) (h0 : 0 ≤ k) (hk : k ≤ 1048576) (hv : (if k - n1 - n2 < 0 then -1 else k - n1 - n2) = v) (w : World) :
    Calls Try.prog 28 #[.agg #[.slice a1 n1 c1, .slice a2 n2 c2], .int .i64 k] w (Gives (.int .i64 v) w) := by
  obtain ⟨w1, hw1⟩ : ∃ u, w.alloc (.cells #[.slice a1 n1 c1, .slice a2 n2 c2] 57) = u := ⟨_, rfl⟩
  have HB1 : Hid (Below w.heap.size w w1) := by subst hw1; exact (Below.refl _ _).alloc (Nat.le_refl _) _
  have p1 : w1.heap[w.heap.size]? = some (.cells #[.slice a1 n1 c1, .slice a2 n2 c2] 57) := by subst hw1; exact heap_alloc_new _ _
  obtain ⟨d0, d1⟩ := cells2 p1
  obtain ⟨v1, hv1⟩ : ∃ v1, (if k - n1 < 0 then -1 else k - n1) = v1 := ⟨_, rfl⟩
  have HV1 := Lib.hid hv1
  by_cases hlt : k - (n1 : Int) < 0
  · have e1 : v1 = -1 := by rw [← hv1]; exact if_pos hlt
    have e2 : v = -1 := by rw [← hv]; exact if_pos (by omega)
    subst e1
    subst e2
    clear hv hlt hv1
    go_enter Try.func28, Try.ntmps28
    go_wp2_with fail
    refine (szIntS_is _ _ _ _ _ hn1 h0 hk HV1.out _).mono ?_
    rintro e w2 ⟨rfl, hb2⟩
    have HB2 : Hid (Below w.heap.size w w2) := HB1.out.trans (hb2.mono HB1.out.size)
    clear hb2
    go_wp2
    go_ret
    exact ⟨rfl, HB2.out⟩
  have e1 : v1 = k - n1 := by rw [← hv1]; exact if_neg hlt
  have hv10 : 0 ≤ v1 := by omega
  have hv11 : v1 ≤ 1048576 := by omega
  have HV2 : Hid ((if v1 - n2 < 0 then -1 else v1 - n2) = v) := by show _ = _; rw [e1]; exact hv
  have t1 : decide (v1 < 0) = false := decide_eq_false (by omega)
  by_cases h2 : v1 - (n2 : Int) < 0
  · have e2 : v = -1 := by rw [← HV2.out]; exact if_pos h2
    subst e2
    clear hv hlt hv1 e1 h2
    go_enter Try.func28, Try.ntmps28
    go_wp2_with fail
    refine (szIntS_is _ _ _ _ _ hn1 h0 hk HV1.out _).mono ?_
    rintro e w2 ⟨rfl, hb2⟩
    have HB2 : Hid (Below w.heap.size w w2) := HB1.out.trans (hb2.mono HB1.out.size)
    have p2 := keep_block hb2 p1 (lt_of_block p1)
    clear hb2 d0 d1
    obtain ⟨d0, d1⟩ := cells2 p2
    go_wp2_with fail
    refine (szIntS_is _ _ _ _ _ hn2 hv10 hv11 HV2.out _).mono ?_
    rintro e w3 ⟨rfl, hb3⟩
    have HB3 : Hid (Below w.heap.size w w3) := HB2.out.trans (hb3.mono HB2.out.size)
    clear hb3
    go_wp2
    go_ret
    exact ⟨rfl, HB3.out⟩
  · have e2 : 0 ≤ v := by rw [← HV2.out, if_neg h2]; omega
    have t2 : decide (v < 0) = false := decide_eq_false (by omega)
    clear hv hlt hv1 e1 h2
    go_enter Try.func28, Try.ntmps28
    go_wp2_with fail
    refine (szIntS_is _ _ _ _ _ hn1 h0 hk HV1.out _).mono ?_
    rintro e w2 ⟨rfl, hb2⟩
    have HB2 : Hid (Below w.heap.size w w2) := HB1.out.trans (hb2.mono HB1.out.size)
    have p2 := keep_block hb2 p1 (lt_of_block p1)
    clear hb2 d0 d1
    obtain ⟨d0, d1⟩ := cells2 p2
    go_wp2_with fail
    refine (szIntS_is _ _ _ _ _ hn2 hv10 hv11 HV2.out _).mono ?_
    rintro e w3 ⟨rfl, hb3⟩
    have HB3 : Hid (Below w.heap.size w w3) := HB2.out.trans (hb3.mono HB2.out.size)
    clear hb3
    go_wp2
    go_ret
    exact ⟨rfl, HB3.out⟩

set_option maxHeartbeats 4000000 in
theorem toReady_is (a1 : Option Addr) (n1 c1 : Nat) (z1 : List Int) (a2 : Option Addr) (n2 c2 : Nat) (z2 : List Int) (hz1 : z1.length = n1) (h1 : n1 ≤ 4000000) (hz2 : z2.length = n2) (h2 : n2 ≤ 4000000) (w : World) (hr1 : RowI w a1 z1) (hr2 : RowI w a2 z2) :
    Calls Try.prog 30 #[.agg #[.slice a1 n1 c1, .slice a2 n2 c2]] w (GivesRd n1 n2 z1 z2 w) := by
  obtain ⟨w1, hw1⟩ : ∃ u, ((w.alloc (.cells #[.slice a1 n1 c1, .slice a2 n2 c2] 57)).alloc (.cells #[.slice none 0 0, .slice none 0 0] 33)).alloc (.cells #[.slice none 0 0, .slice none 0 0] 33) = u := ⟨_, rfl⟩
  have HB1 : Hid (Below w.heap.size w w1) := by subst hw1; exact (((Below.refl _ _).alloc (Nat.le_refl _) _).alloc (by simp) _).alloc (by simp; omega) _
  have p1 : w1.heap[w.heap.size]? = some (.cells #[.slice a1 n1 c1, .slice a2 n2 c2] 57) := by subst hw1; exact box3_0 _ _ _ _
  have b1 : w1.heap[w.heap.size + 1]? = some (.cells #[.slice none 0 0, .slice none 0 0] 33) := by subst hw1; exact box3_1 _ _ _ _
  have o1 : w1.heap[w.heap.size + 1 + 1]? = some (.cells #[.slice none 0 0, .slice none 0 0] 33) := by subst hw1; exact box3_2 _ _ _ _
  have HS1 : Hid (w.heap.size + 1 + 1 < w1.heap.size) := lt_of_block o1
  have HRA := Lib.hid hr1
  have HRB := Lib.hid hr2
  have HZ1 := Lib.hid hz1
  have HZ2 := Lib.hid hz2
  obtain ⟨d0, d1⟩ := cells2 p1
  clear hr1 hr2 hz1 hz2
  go_enter Try.func30, Try.ntmps30
  go_wp2_with fail
  refine (toIntS_is _ _ _ _ HZ1.out h1 _ (HRA.out.below HB1.out)).mono ?_
  rintro e w2 ⟨aa, cc, rfl, own2, hb2⟩
  rw [HZ1.out] at own2 ⊢
  have p2 := keep_block hb2 p1 (lt_of_block p1)
  have b2 := keep_block hb2 b1 (lt_of_block b1)
  have o2 := keep_block hb2 o1 (lt_of_block o1)
  have HB2 : Hid (Below w.heap.size w w2) := HB1.out.trans (hb2.mono HB1.out.size)
  have HO2 := Lib.hid own2
  have HS2 : Hid (w1.heap.size ≤ w2.heap.size) := hb2.size
  obtain ⟨e0, e1⟩ := cells2 o2
  have f0 := thawed o2 0
  obtain ⟨w3, hw3⟩ : ∃ u, w2.setCell ⟨w.heap.size + 1 + 1, 0, none⟩ (.slice aa n1 cc) = u := ⟨_, rfl⟩
  have o3 : w3.heap[w.heap.size + 1 + 1]? = some (.cells #[.slice aa n1 cc, .slice none 0 0] 33) := by rw [← hw3]; exact set_cells o2 0 _
  have b3 : w3.heap[w.heap.size + 1]? = some (.cells #[.slice none 0 0, .slice none 0 0] 33) := by rw [← hw3]; exact (Below.heap_setCell _ _ _ _ (by simp)).trans b2
  have p3 : w3.heap[w.heap.size]? = some (.cells #[.slice a1 n1 c1, .slice a2 n2 c2] 57) := by rw [← hw3]; exact (Below.heap_setCell _ _ _ _ (by simp; omega)).trans p2
  have HB3 : Hid (Below w.heap.size w w3) := by show Below _ _ _; rw [← hw3]; exact HB2.out.setCell (by simp; omega) _
  have HO3 : Hid (OwnI w1.heap.size (.slice aa n1 cc) z1 w3) := by show OwnI _ _ _ _; rw [← hw3]; exact ownI_set HS1.out HO2.out _
  have HS3 : Hid (w1.heap.size ≤ w3.heap.size) := by show _ ≤ _; rw [← hw3]; simpa [World.setCell] using HS2.out
  clear hb2 own2 hw1 p1 b1 o1 d0 d1 HB1
  obtain ⟨d0, d1⟩ := cells2 p3
  go_wp2_with fail
  refine (toIntS_is _ _ _ _ HZ2.out h2 _ (HRB.out.below HB3.out)).mono ?_
  rintro e w4 ⟨bb, cd, rfl, own4, hb4⟩
  rw [HZ2.out] at own4 ⊢
  have b4 := keep_block hb4 b3 (lt_of_block b3)
  have o4 := keep_block hb4 o3 (lt_of_block o3)
  have HB4 : Hid (Below w.heap.size w w4) := HB3.out.trans (hb4.mono HB3.out.size)
  have HO4 := Lib.hid own4
  have HA4 := Lib.hid (HO3.out.below hb4)
  have HAP : Hid (Apt aa bb) := fun x y hx hy => by have := (HO3.out.lo x hx).2; have := (own4.lo y hy).1; omega
  clear hb4 own4 hw3 p3 b3 o3 d0 d1 e0 e1 f0 HO3 HO2 p2 b2 o2
  obtain ⟨e0, e1⟩ := cells2 o4
  have f1 := thawed o4 1
  obtain ⟨w5, hw5⟩ : ∃ u, w4.setCell ⟨w.heap.size + 1 + 1, 1, none⟩ (.slice bb n2 cd) = u := ⟨_, rfl⟩
  have o5 : w5.heap[w.heap.size + 1 + 1]? = some (.cells #[.slice aa n1 cc, .slice bb n2 cd] 33) := by rw [← hw5]; exact set_cells o4 1 _
  have b5 : w5.heap[w.heap.size + 1]? = some (.cells #[.slice none 0 0, .slice none 0 0] 33) := by rw [← hw5]; exact (Below.heap_setCell _ _ _ _ (by simp)).trans b4
  have HB5 : Hid (Below w.heap.size w w5) := by show Below _ _ _; rw [← hw5]; exact HB4.out.setCell (by simp; omega) _
  have HA5 : Hid (OwnI w1.heap.size (.slice aa n1 cc) z1 w5) := by show OwnI _ _ _ _; rw [← hw5]; exact ownI_set HS1.out HA4.out _
  have HO5 : Hid (OwnI w3.heap.size (.slice bb n2 cd) z2 w5) := by show OwnI _ _ _ _; rw [← hw5]; exact ownI_set (by have := HS1.out; have := HS3.out; simp; omega) HO4.out _
  obtain ⟨y0, y1⟩ := cells2 b5
  obtain ⟨x0, x1⟩ := cells2 o5
  have g0 := thawed b5 0
  have g1 := thawed b5 1
  go_wp2_with fail
  (try simp only [Exit.inBlock, Exit.then])
  refine bodyPost_ret (v := .agg #[.slice aa n1 cc, .slice bb n2 cd]) ?_ rfl ⟨aa, cc, bb, cd, rfl, ?_, ?_, HAP.out, ?_⟩
  · simp [results, Try.results30, go_sem, y0, y1]
  · have hs := HS1.out
    exact (ownI_set (by simp; omega) (ownI_set (by simp; omega) HA5.out _) _).mono (by omega)
  · have hs := HS1.out
    have hs3 := HS3.out
    exact (ownI_set (by simp; omega) (ownI_set (by simp; omega) HO5.out _) _).mono (by omega)
  · exact (HB5.out.setCell (by simp) _).setCell (by simp) _

theorem eqReady_is {B1 B2 C1 C2 : Nat} {a1 a2 b1 b2 : Option Addr} {c1 c2 d1 d2 : Nat} {la ac : List Int} {w : World} {n1 n2 : Nat} (hn1 : la.length = n1) (hn2 : ac.length = n2) (ha1 : OwnI B1 (.slice a1 n1 c1) la w) (ha2 : OwnI B2 (.slice a2 n2 c2) ac w) (hb1 : OwnI C1 (.slice b1 n1 d1) la w) (hb2 : OwnI C2 (.slice b2 n2 d2) ac w) (hl1 : (n1 : Int) ≤ 9223372036854775807) (hl2 : (n2 : Int) ≤ 9223372036854775807) :
    Calls Try.prog 25 #[.agg #[.slice a1 n1 c1, .slice a2 n2 c2], .agg #[.slice b1 n1 d1, .slice b2 n2 d2]] w (Gives (.bool true) w) := by
  obtain ⟨w1, hw1⟩ : ∃ u, (w.alloc (.cells #[.slice a1 n1 c1, .slice a2 n2 c2] 33)).alloc (.cells #[.slice b1 n1 d1, .slice b2 n2 d2] 33) = u := ⟨_, rfl⟩
  have HB1 : Hid (Below w.heap.size w w1) := by subst hw1; exact ((Below.refl _ _).alloc (Nat.le_refl _) _).alloc (by simp) _
  have g1 : w1.heap[w.heap.size]? = some (.cells #[.slice a1 n1 c1, .slice a2 n2 c2] 33) := by subst hw1; exact heap_alloc2_old _ _ _
  have p1 : w1.heap[w.heap.size + 1]? = some (.cells #[.slice b1 n1 d1, .slice b2 n2 d2] 33) := by subst hw1; exact heap_alloc2_new _ _ _
  obtain ⟨u0, u1⟩ := cells2 g1
  obtain ⟨v0, v1⟩ := cells2 p1
  have HN1 := Lib.hid hn1
  have HN2 := Lib.hid hn2
  have HA1 := Lib.hid (ha1.below HB1.out)
  have HA2 := Lib.hid (ha2.below HB1.out)
  have HC1 := Lib.hid (hb1.below HB1.out)
  have HC2 := Lib.hid (hb2.below HB1.out)
  clear hn1 hn2 ha1 ha2 hb1 hb2
  go_enter Try.func25, Try.ntmps25
  go_wp2_with fail
  refine (eqIntS_any HN1.out HA1.out HC1.out hl1).mono ?_
  rintro e w2 ⟨rfl, hb2⟩
  have HB2 : Hid (Below w.heap.size w w2) := HB1.out.trans (hb2.mono HB1.out.size)
  have g2 := keep_block hb2 g1 (lt_of_block g1)
  have p2 := keep_block hb2 p1 (lt_of_block p1)
  have HA3 := Lib.hid (HA2.out.below hb2)
  have HC3 := Lib.hid (HC2.out.below hb2)
  clear hb2 u0 u1 v0 v1
  obtain ⟨u0, u1⟩ := cells2 g2
  obtain ⟨v0, v1⟩ := cells2 p2
  go_wp2_with fail
  refine (eqIntS_any HN2.out HA3.out HC3.out hl2).mono ?_
  rintro e w3 ⟨rfl, hb3⟩
  have HB3 : Hid (Below w.heap.size w w3) := HB2.out.trans (hb3.mono HB2.out.size)
  clear hb3
  go_wp2
  go_ret
  exact ⟨rfl, HB3.out⟩

theorem markReady_is {B1 B2 : Nat} {a1 a2 : Option Addr} {c1 c2 : Nat} {la ac : List Int} {w : World} {n1 n2 : Nat} (hn1 : la.length = n1) (hn2 : ac.length = n2) (h1 : OwnI B1 (.slice a1 n1 c1) la w) (h2 : OwnI B2 (.slice a2 n2 c2) ac w) (k0 : Nat) (hk : k0 + n1 + n2 ≤ 1000000000) (g1 g2 : Nat) (hg1 : ∀ x, a1 = some x → x.block = g1) (hg2 : ∀ x, a2 = some x → x.block = g2) (hx1 : ∀ x, a1 = some x → x.block ≠ g2) (hx2 : ∀ x, a2 = some x → x.block ≠ g1) (hs1 : g1 ≠ w.heap.size) :
    Calls Try.prog 26 #[.agg #[.slice a1 n1 c1, .slice a2 n2 c2], .int .i64 k0] w fun e w' => e = .returned (.int .i64 ((k0 + n1 + n2 : Nat) : Int)) ∧ OwnI B1 (.slice a1 n1 c1) (marksI k0 n1) w' ∧ OwnI B2 (.slice a2 n2 c2) (marksI (k0 + n1) n2) w' ∧ Only2 g1 g2 w w' := by
  obtain ⟨w1, hw1⟩ : ∃ u, w.alloc (.cells #[.slice a1 n1 c1, .slice a2 n2 c2] 33) = u := ⟨_, rfl⟩
  have HO1 : Hid (Only g1 w w1) := by subst hw1; exact (Only.refl _ _).alloc _
  have p1 : w1.heap[w.heap.size]? = some (.cells #[.slice a1 n1 c1, .slice a2 n2 c2] 33) := by subst hw1; exact heap_alloc_new _ _
  have HA : Hid (OwnI B1 (.slice a1 n1 c1) la w1) := by subst hw1; exact World.ownsRow.alloc h1 _
  have HC : Hid (OwnI B2 (.slice a2 n2 c2) ac w1) := by subst hw1; exact World.ownsRow.alloc h2 _
  have HL : Hid ((∀ x, a1 = some x → x.block < w.heap.size) ∧ ∀ x, a2 = some x → x.block < w.heap.size) := ⟨fun x hx => (h1.lo x hx).2, fun x hx => (h2.lo x hx).2⟩
  obtain ⟨d0, d1⟩ := cells2 p1
  have HN1 := Lib.hid hn1
  have HN2 := Lib.hid hn2
  have HG1 := Lib.hid hg1
  have HG2 := Lib.hid hg2
  have HX1 := Lib.hid hx1
  have HX2 := Lib.hid hx2
  clear hn1 hn2 h1 h2 hg1 hg2 hx1 hx2
  go_enter Try.func26, Try.ntmps26
  go_wp2_with fail
  refine (markIntS_any HN1.out HA.out k0 (by omega) g1 HG1.out).mono ?_
  rintro e w2 ⟨rfl, own2, ho2⟩
  have p2 := (ho2.block _ (lt_of_block p1) (fun h => hs1 h.symm)).trans p1
  have HC2 := Lib.hid (HC.out.keep ho2 HX2.out)
  have HA2 := Lib.hid own2
  have HO2 := Lib.hid (HO1.out.trans ho2)
  clear own2 ho2 d0 d1
  obtain ⟨d0, d1⟩ := cells2 p2
  go_wp2_with fail
  refine (markIntS_any HN2.out HC2.out (k0 + n1) (by omega) g2 HG2.out).mono ?_
  rintro e w3 ⟨rfl, own3, ho3⟩
  have HA3 := Lib.hid (HA2.out.keep ho3 HX1.out)
  have HC3 := Lib.hid own3
  have HO3 := Lib.hid (HO2.out.two ho3)
  clear own3 ho3
  go_wp2
  go_ret
  exact ⟨rfl, HA3.out, HC3.out, HO3.out⟩

theorem heldReady_is {B1 B2 : Nat} {a1 a2 : Option Addr} {c1 c2 : Nat} {w : World} {n1 n2 : Nat} (k0 : Nat) (h1 : OwnI B1 (.slice a1 n1 c1) (marksI k0 n1) w) (h2 : OwnI B2 (.slice a2 n2 c2) (marksI (k0 + n1) n2) w) (hk : k0 + n1 + n2 ≤ 1000000000) :
    Calls Try.prog 27 #[.agg #[.slice a1 n1 c1, .slice a2 n2 c2], .int .i64 k0] w (Gives (.int .i64 ((k0 + n1 + n2 : Nat) : Int)) w) := by
  obtain ⟨w1, hw1⟩ : ∃ u, w.alloc (.cells #[.slice a1 n1 c1, .slice a2 n2 c2] 33) = u := ⟨_, rfl⟩
  have HB1 : Hid (Below w.heap.size w w1) := by subst hw1; exact (Below.refl _ _).alloc (Nat.le_refl _) _
  have p1 : w1.heap[w.heap.size]? = some (.cells #[.slice a1 n1 c1, .slice a2 n2 c2] 33) := by subst hw1; exact heap_alloc_new _ _
  have HA := Lib.hid (h1.below HB1.out)
  have HC := Lib.hid (h2.below HB1.out)
  obtain ⟨d0, d1⟩ := cells2 p1
  have t1 : decide (((k0 + n1 : Nat) : Int) < 0) = false := decide_eq_false (by omega)
  have t2 : decide (((k0 + n1 + n2 : Nat) : Int) < 0) = false := decide_eq_false (by omega)
  clear h1 h2
  go_enter Try.func27, Try.ntmps27
  go_wp2_with fail
  refine (heldIntS_any k0 HA.out (by omega)).mono ?_
  rintro e w2 ⟨rfl, hb2⟩
  have HB2 : Hid (Below w.heap.size w w2) := HB1.out.trans (hb2.mono HB1.out.size)
  have p2 := keep_block hb2 p1 (lt_of_block p1)
  have HC2 := Lib.hid (HC.out.below hb2)
  clear hb2 d0 d1
  obtain ⟨d0, d1⟩ := cells2 p2
  go_wp2_with fail
  refine (heldIntS_any (k0 + n1) HC2.out (by omega)).mono ?_
  rintro e w3 ⟨rfl, hb3⟩
  have HB3 : Hid (Below w.heap.size w w3) := HB2.out.trans (hb3.mono HB2.out.size)
  clear hb3
  go_wp2
  go_ret
  exact ⟨rfl, HB3.out⟩

end Go.Proofs.Ythplhjdfajhmpaa

namespace Go.Proofs.Ythplhjdfajhmpaa
open Go.RowKit Go.PlainAid

set_option linter.unusedVariables false

theorem OwnI.apartRd {B n c g : Nat} {a : Option Addr} {l : List Int} {u : World} {vs : Array Value} {fr : Nat × Nat} (h : OwnI B (.slice a n c) l u) (hh : u.heap[g]? = some (.cells vs 33 fr)) : ∀ x, a = some x → x.block ≠ g := by
  rintro x rfl e
  rcases h.2 with ⟨hv, _⟩ | ⟨b, cap, cur, hv, _, hb, _⟩
  · cases hv
  · cases hv
    subst e
    rw [hb] at hh
    injection hh with h1
    injection h1 with _ h2 _
    exact absurd h2 (by decide)

/-- From operation s on a variable is there; behind t it holds a rank with a row of its own. -/
def MadeD (s t base n1 n2 : Nat) (la ac : List Int) (listed : Array Bool) (x : Nat → Value) (u : World) : Prop :=
  (listed.getD t false = true → listed.getD s false = true) ∧
  (listed.getD s false = true → ∃ g, x s = .pointer (some ⟨g, 0, none⟩) ∧ base ≤ g ∧
    (listed.getD t false = false → u.heap[g]? = some (.cells #[.slice none 0 0, .slice none 0 0] 33)) ∧
    (listed.getD t false = true → ∃ aa ca ab cb, u.heap[g]? = some (.cells #[.slice aa n1 ca, .slice ab n2 cb] 33) ∧ OwnI base (.slice aa n1 ca) la u ∧ OwnI base (.slice ab n2 cb) ac u ∧ Apt aa ab))

theorem MadeD.zero (s t base n1 n2 : Nat) (la ac : List Int) (k : Nat) (x : Nat → Value) (u : World) : MadeD s t base n1 n2 la ac (Array.replicate k false) x u :=
  ⟨fun h => (by rw [getD_replicate_false] at h; cases h), fun h => by rw [getD_replicate_false] at h; cases h⟩

theorem MadeD.keep {s t base n1 n2 : Nat} {la ac : List Int} {listed : Array Bool} {x : Nat → Value} {u u' : World} (h : MadeD s t base n1 n2 la ac listed x u) {i : Nat} (hs : i ≠ s) (ht : i ≠ t) (v : Value) (hb : Below u.heap.size u u') :
    MadeD s t base n1 n2 la ac (listed.setIfInBounds i true) (upd x i v) u' := by
  refine ⟨fun h1 => ?_, fun h1 => ?_⟩
  · rw [getD_set_ne false ht] at h1
    exact getD_set_true (h.1 h1)
  · rw [getD_set_ne false hs] at h1
    rw [getD_set_ne false ht]
    obtain ⟨g, e, hg, hz, hf⟩ := h.2 h1
    refine ⟨g, by rw [upd_other _ _ (Ne.symm hs)]; exact e, hg, fun h0 => keep_block hb (hz h0) (lt_of_block (hz h0)), fun h0 => ?_⟩
    obtain ⟨aa, ca, ab, cb, hh, ho, hp, hq⟩ := hf h0
    exact ⟨aa, ca, ab, cb, keep_block hb hh (lt_of_block hh), ho.below hb, hp.below hb, hq⟩

theorem MadeD.new {s t base n1 n2 : Nat} {la ac : List Int} {listed : Array Bool} {x : Nat → Value} {u : World} (h : MadeD s t base n1 n2 la ac listed x u) (hst : s ≠ t) (hs : listed.getD s false = false) (hb : base ≤ u.heap.size) :
    MadeD s t base n1 n2 la ac (listed.setIfInBounds s true) (upd x s (.pointer (some ⟨u.heap.size, 0, none⟩))) (u.alloc (.cells #[.slice none 0 0, .slice none 0 0] 33)) := by
  have ht : listed.getD t false = false := by
    cases e : listed.getD t false with
    | false => rfl
    | true => have := h.1 e; rw [hs] at this; cases this
  refine ⟨fun h1 => ?_, fun h1 => ?_⟩
  · rw [getD_set_ne false hst, ht] at h1; cases h1
  · rw [getD_set_ne false hst, ht]
    exact ⟨_, upd_same _ _ _, hb, fun _ => heap_alloc_new _ _, fun h0 => by cases h0⟩

theorem MadeD.there {s t base n1 n2 : Nat} {la ac : List Int} {listed : Array Bool} {x : Nat → Value} {u : World} (h : MadeD s t base n1 n2 la ac listed x u) (hs : listed.getD s false = true) (ht : listed.getD t false = false) :
    ∃ g, x s = .pointer (some ⟨g, 0, none⟩) ∧ base ≤ g ∧ u.heap[g]? = some (.cells #[.slice none 0 0, .slice none 0 0] 33) := by
  obtain ⟨g, e, hg, hz, _⟩ := h.2 hs
  exact ⟨g, e, hg, hz ht⟩

theorem MadeD.fill {s t base n1 n2 : Nat} {la ac : List Int} {listed : Array Bool} {x : Nat → Value} {u' : World} {g ca cb : Nat} {aa ab : Option Addr} {v : Value} (hst : s ≠ t) (hs : listed.getD s false = true) (ht : t < listed.size) (hx : x s = .pointer (some ⟨g, 0, none⟩)) (hg : base ≤ g)
    (hh : u'.heap[g]? = some (.cells #[.slice aa n1 ca, .slice ab n2 cb] 33)) (ho : OwnI base (.slice aa n1 ca) la u') (hp : OwnI base (.slice ab n2 cb) ac u') (hq : Apt aa ab) : MadeD s t base n1 n2 la ac (listed.setIfInBounds t true) (upd x t v) u' := by
  refine ⟨fun _ => getD_set_true hs, fun _ => ⟨g, by rw [upd_other _ _ hst]; exact hx, hg, fun h0 => ?_, fun _ => ⟨aa, ca, ab, cb, hh, ho, hp, hq⟩⟩⟩
  rw [get_set_same false ht] at h0
  cases h0

theorem MadeD.full {s t base n1 n2 : Nat} {la ac : List Int} {listed : Array Bool} {x : Nat → Value} {u : World} (h : MadeD s t base n1 n2 la ac listed x u) (hs : listed.getD s false = true) (ht : listed.getD t false = true) :
    ∃ g aa ca ab cb, x s = .pointer (some ⟨g, 0, none⟩) ∧ base ≤ g ∧ u.heap[g]? = some (.cells #[.slice aa n1 ca, .slice ab n2 cb] 33) ∧ OwnI base (.slice aa n1 ca) la u ∧ OwnI base (.slice ab n2 cb) ac u ∧ Apt aa ab := by
  obtain ⟨g, e, hg, _, hf⟩ := h.2 hs
  obtain ⟨aa, ca, ab, cb, hh, ho, hp, hq⟩ := hf ht
  exact ⟨g, aa, ca, ab, cb, e, hg, hh, ho, hp, hq⟩

end Go.Proofs.Ythplhjdfajhmpaa

namespace Go.Proofs.Ythplhjdfajhmpaa
open Go.RowKit Go.PlainAid

set_option linter.unusedVariables false

theorem fill_step {k n : Nat} (h : k < n) : (List.replicate k (-1 : Int) ++ List.replicate (n - k) 0).set k (-1) = List.replicate (k + 1) (-1) ++ List.replicate (n - (k + 1)) 0 := by
  rw [List.set_append_right _ _ (by simp), List.length_replicate, Nat.sub_self]
  obtain ⟨m, hm⟩ : ∃ m, n - k = m + 1 := ⟨n - k - 1, by omega⟩
  rw [hm, show n - (k + 1) = m by omega, List.replicate_succ, List.set_cons_zero, List.replicate_succ' (n := k), List.append_assoc]
  rfl

theorem apt_none (a : Option Addr) : Apt a none := fun x y _ hy => by cases hy

theorem ownI_nil (B : Nat) (w : World) : OwnI B (.slice none 0 0) [] w := World.ownsRow_nil _ _ _ _

set_option maxHeartbeats 2000000 in
theorem specFill_is (n : Nat) (hn : n ≤ 4000000) (w : World) :
    Calls Try.prog 60 #[.int .i64 (n : Int)] w (GivesI (List.replicate n (-1)) w) := by
  obtain ⟨i0, hi, hz0, hz1, hz2⟩ := info_parts infoI
  go_enter Try.func60, Try.ntmps60
  go_wp2_with (at_make; refine wpList_make_full _ rfl _ _ 31 rfl w.heap.size 3 i0 (.int .i64 0) 1 Try.underlying31 hi hz0 hz1 _ _ _ _ n rfl rfl rfl rfl (by rw [hz2]; omega) (by unfold maxLen; omega) (Nat.le_refl _) ?_)
  intro w1 hown hgr
  have hb1 : Below w.heap.size w w1 := (Below.refl _ _).grown hgr (Nat.le_refl _) (fun k hk => by cases hk)
  have HO1 : Hid (OwnI w.heap.size (.slice (some ⟨w.heap.size, 0, none⟩) n n) (List.replicate n 0) w1) := by
    show OwnI _ _ _ _
    unfold OwnI
    rw [List.length_replicate]
    rw [made_one] at hown
    rw [show (List.replicate n (0 : Int)).map (Value.int .i64) = List.replicate n (Value.int .i64 0) by simp]
    exact hown
  have HB1 := Lib.hid hb1
  clear hgr hown hb1
  go_wp2_with fail
  go_loopw [4] (fun i wr => ∃ k : Nat, k ≤ n ∧ i = .int .i64 k ∧ OwnI w.heap.size (.slice (some ⟨w.heap.size, 0, none⟩) n n) (List.replicate k (-1) ++ List.replicate (n - k) 0) wr ∧ Below w.heap.size w wr) (fun i _ => n - (intOf i).toNat)
  case atStart => exact ⟨0, Nat.zero_le _, rfl, by simpa using HO1.out, HB1.out⟩
  case round =>
    obtain ⟨k, hk, rfl, hown, hbr⟩ := hrel
    have hlen : (List.replicate k (-1 : Int) ++ List.replicate (n - k) 0).length = n := by simp; omega
    have HL := Lib.hid hlen
    have HO := Lib.hid hown
    have HBR := Lib.hid hbr
    by_cases hlt : k < n
    · obtain ⟨g, hg, hc, hf, hB, hgs⟩ := hown.at (k := k) (by rw [hlen]; exact hlt)
      obtain rfl : w.heap.size = g := by simpa using hg
      obtain ⟨old, hco⟩ : ∃ u, wr.cell? ⟨w.heap.size, k, none⟩ = some u := ⟨_, hc⟩
      have HST := Lib.hid (fill_step hlt)
      clear hc hg hlen hown hbr
      go_wp2_with fail
      have R2 : OwnI w.heap.size (.slice (some ⟨w.heap.size, 0, none⟩) n n) (List.replicate (k + 1) (-1) ++ List.replicate (n - (k + 1)) 0) (wr.setCell ⟨w.heap.size, k, none⟩ (.int .i64 (-1))) := by
        rw [← HST.out]
        exact HO.out.stored HL.out k (-1)
      have HB2 : Hid (Below w.heap.size w (wr.setCell ⟨w.heap.size, k, none⟩ (.int .i64 (-1)))) := HBR.out.setCell (by simp) _
      go_roundw
      case rel => exact ⟨k + 1, by omega, by go_num, R2, HB2.out⟩
      case measure => simp [intOf]; omega
    · obtain rfl : k = n := by omega
      clear hlen hown hbr
      go_wp2_with fail
      go_ret
      refine ⟨some ⟨w.heap.size, 0, none⟩, k, by rw [List.length_replicate]; rfl, ?_, HBR.out⟩
      have := HO.out
      rw [Nat.sub_self, List.replicate_zero, List.append_nil] at this
      rw [List.length_replicate]
      exact this

set_option maxHeartbeats 2000000 in
theorem specReadyNew_is (g0 B g2 g3 : Int) (N : Nat) (hN : bankN g0 B g2 g3 = (N : Int)) (la : List Int) (hla : newL g0 B g2 g3 N = la) (n1 : Nat) (hn1 : la.length = n1) (w : World) :
    Calls Try.prog 24 #[.agg #[.int .i64 g0, .int .i64 B, .int .i64 g2, .int .i64 g3]] w (GivesRd n1 0 la [] w) := by
  obtain ⟨w1, hw1⟩ : ∃ u, (w.alloc (.cells #[.int .i64 g0, .int .i64 B, .int .i64 g2, .int .i64 g3] 25)).alloc (.cells #[.slice none 0 0, .slice none 0 0] 33) = u := ⟨_, rfl⟩
  have HB1 : Hid (Below w.heap.size w w1) := by subst hw1; exact ((Below.refl _ _).alloc (Nat.le_refl _) _).alloc (by simp) _
  have g1 : w1.heap[w.heap.size]? = some (.cells #[.int .i64 g0, .int .i64 B, .int .i64 g2, .int .i64 g3] 25) := by subst hw1; exact heap_alloc2_old _ _ _
  have p1 : w1.heap[w.heap.size + 1]? = some (.cells #[.slice none 0 0, .slice none 0 0] 33) := by subst hw1; exact heap_alloc2_new _ _ _
  have HS1 : Hid (w.heap.size + 1 < w1.heap.size) := lt_of_block p1
  obtain ⟨c0, c1, c2, c3⟩ := cells4 g1
  by_cases hg : GeoOk g0 B g2 g3
  case neg =>
    obtain rfl : la = [] := by rw [← hla]; exact if_neg hg
    obtain rfl : n1 = 0 := hn1.symm
    have K := Lib.hid (decide_eq_false hg)
    clear hg hla hn1 hN
    go_enter Try.func24, Try.ntmps24
    go_wp2_with fail
    refine (specGeoOk_is _ _ _ _ _ K.out _).mono ?_
    rintro e w2 ⟨rfl, hb2⟩
    have p2 := keep_block hb2 p1 (lt_of_block p1)
    have HB2 : Hid (Below w.heap.size w w2) := HB1.out.trans (hb2.mono HB1.out.size)
    obtain ⟨x0, x1⟩ := cells2 p2
    have f0 := thawed p2 0
    have f1 := thawed p2 1
    clear hb2 c0 c1 c2 c3 hw1 g1 p1 HB1
    go_wp2_with fail
    (try simp only [Exit.inBlock, Exit.then])
    refine bodyPost_ret (v := .agg #[.slice none 0 0, .slice none 0 0]) (by simp [results, Try.results24, go_sem, x0, x1]) rfl ⟨none, 0, none, 0, rfl, ownI_nil _ _, ownI_nil _ _, apt_none _, ?_⟩
    repeat' (first | exact HB2.out | refine Below.drew ?_ | refine Below.setCell ?_ (by simp <;> omega) _)
  have K := Lib.hid (decide_eq_true hg)
  have hr := bankN_range g0 B g2 g3
  have hN8 : N ≤ 8 := by omega
  obtain ⟨m, hm⟩ : ∃ m : Nat, 9 * (N + 1) = m := ⟨_, rfl⟩
  have hm2 : m ≤ 4000000 := by omega
  have hla2 : la = List.replicate m (-1) := by rw [← hla, ← hm]; exact if_pos hg
  obtain rfl : n1 = m := by rw [← hn1, hla2, List.length_replicate]
  have e1 : IntKind.i64.wrap ((N : Int) + 1) = (N : Int) + 1 := IntWalk.i64_in _ (by omega)
  have e2 : IntKind.i64.wrap (9 * ((N : Int) + 1)) = (n1 : Int) := by rw [IntWalk.i64_in _ (by omega)]; omega
  have HN := Lib.hid hN
  have HLA := Lib.hid hla2
  clear hg hla hn1 hN hr hla2 hm
  go_enter Try.func24, Try.ntmps24
  go_wp2_with fail
  refine (specGeoOk_is _ _ _ _ _ K.out _).mono ?_
  rintro e w2 ⟨rfl, hb2⟩
  have g2' := keep_block hb2 g1 (lt_of_block g1)
  have p2 := keep_block hb2 p1 (lt_of_block p1)
  have HB2 : Hid (Below w.heap.size w w2) := HB1.out.trans (hb2.mono HB1.out.size)
  have HS2 : Hid (w1.heap.size ≤ w2.heap.size) := hb2.size
  clear hb2 c0 c1 c2 c3 hw1 g1 p1 HB1
  obtain ⟨c0, c1, c2, c3⟩ := cells4 g2'
  go_wp2_with fail
  refine (specBank_is _ _ _ _ _ HN.out _).mono ?_
  rintro e w3 ⟨rfl, hb3⟩
  have p3 := keep_block hb3 p2 (lt_of_block p2)
  have HB3 : Hid (Below w.heap.size w w3) := HB2.out.trans (hb3.mono HB2.out.size)
  have HS3 : Hid (w1.heap.size ≤ w3.heap.size) := Nat.le_trans HS2.out hb3.size
  clear hb3 c0 c1 c2 c3 g2' p2 HB2
  go_wp2_with fail
  refine (specFill_is n1 hm2 _).mono ?_
  rintro e w4 ⟨aa, cc, rfl, own4, hb4⟩
  rw [List.length_replicate] at own4 ⊢
  rw [← HLA.out] at own4
  have p4 := keep_block hb4 p3 (lt_of_block p3)
  have HB4 : Hid (Below w.heap.size w w4) := HB3.out.trans (hb4.mono HB3.out.size)
  have HO4 : Hid (OwnI (w.heap.size + 1 + 1) (.slice aa n1 cc) la w4) := own4.mono (by have := HS1.out; have := HS3.out; omega)
  obtain ⟨x0, x1⟩ := cells2 p4
  have f0 := thawed p4 0
  have f1 := thawed p4 1
  clear hb4 own4 p3 HB3
  go_wp2_with fail
  (try simp only [Exit.inBlock, Exit.then])
  refine bodyPost_ret (v := .agg #[.slice aa n1 cc, .slice none 0 0]) (by simp [results, Try.results24, go_sem, x0, x1]) rfl ⟨aa, cc, none, 0, rfl, ?_, ownI_nil _ _, apt_none _, ?_⟩
  · refine OwnI.mono (B := w.heap.size + 1 + 1) ?_ (by omega)
    repeat' (first | exact HO4.out | refine ownI_set (by simp) ?_ _)
  · repeat' (first | exact HB4.out | refine Below.drew ?_ | refine Below.setCell ?_ (by simp <;> omega) _)

end Go.Proofs.Ythplhjdfajhmpaa

namespace Go.Proofs.Ythplhjdfajhmpaa
open Go.RowKit Go.PlainAid

set_option linter.unusedVariables false

theorem rdOk_no1 {g0 B g2 g3 : Int} {N : Nat} {la ac : List Int} {k : Nat} (hk : k < la.length) (h : ¬ ((-1 ≤ la.getD k 0 ∧ la.getD k 0 ≤ 1000000) ∧ (usedI N k = true ∨ la.getD k 0 = -1))) : ¬ RdOk g0 B g2 g3 N la ac := fun r => h (r.2.2.2.1 k hk)

theorem rdOk_no2 {g0 B g2 g3 : Int} {N : Nat} {la ac : List Int} {k : Nat} (hk : k < ac.length) (h : ¬ ((0 ≤ ac.getD k 0 ∧ ac.getD k 0 ≤ 1000000) ∧ (0 < k → ac.getD (k - 1) 0 < ac.getD k 0))) : ¬ RdOk g0 B g2 g3 N la ac := fun r => h (r.2.2.2.2 k hk)

set_option maxHeartbeats 2000000 in
theorem specUsed_is (g0 B g2 g3 : Int) (N i : Nat) (hN : bankN g0 B g2 g3 = (N : Int)) (hi : i ≤ 4000000) (v : Bool) (hv : usedI N i = v) (w : World) :
    Calls Try.prog 65 #[.agg #[.int .i64 g0, .int .i64 B, .int .i64 g2, .int .i64 g3], .int .i64 (i : Int)] w (Gives (.bool v) w) := by
  obtain ⟨w1, hw1⟩ : ∃ u, w.alloc (.cells #[.int .i64 g0, .int .i64 B, .int .i64 g2, .int .i64 g3] 25) = u := ⟨_, rfl⟩
  have HB1 : Hid (Below w.heap.size w w1) := by subst hw1; exact (Below.refl _ _).alloc (Nat.le_refl _) _
  have g1 : w1.heap[w.heap.size]? = some (.cells #[.int .i64 g0, .int .i64 B, .int .i64 g2, .int .i64 g3] 25) := by subst hw1; exact heap_alloc_new _ _
  obtain ⟨c0, c1, c2, c3⟩ := cells4 g1
  have HN := Lib.hid hN
  unfold usedI at hv
  obtain ⟨r, hr⟩ : ∃ r, i % 9 = r := ⟨_, rfl⟩
  obtain ⟨q, hq⟩ : ∃ q, i / 9 = q := ⟨_, rfl⟩
  have f1 : (i : Int).tmod 9 = (r : Int) := by rw [Int.tmod_eq_emod_of_nonneg (by omega)]; omega
  have f2 : (i : Int).tdiv 9 = (q : Int) := by rw [Int.tdiv_eq_ediv_of_nonneg (by omega)]; omega
  have r8 : r ≤ 8 := by omega
  have q8 : q ≤ 4000000 := by omega
  rw [hr, hq] at hv
  have f3 : IntKind.i64.wrap (r : Int) = (r : Int) := IntWalk.i64_in _ (by omega)
  have f4 : IntKind.i64.wrap (q : Int) = (q : Int) := IntWalk.i64_in _ (by omega)
  have f5 : IntKind.i64.wrap ((r : Int) + 1) = (r : Int) + 1 := IntWalk.i64_in _ (by omega)
  have HV := Lib.hid hv
  clear hr hq hv hN
  by_cases h1 : r + 1 ≤ 5 <;> by_cases h2 : q < N
  all_goals
    first | have t1 : decide ((r : Int) + 1 ≤ 5) = true := decide_eq_true (by omega) | have t1 : decide ((r : Int) + 1 ≤ 5) = false := decide_eq_false (by omega)
    first | have t2 : decide ((q : Int) < (N : Int)) = true := decide_eq_true (by omega) | have t2 : decide ((q : Int) < (N : Int)) = false := decide_eq_false (by omega)
    first | have t3 : decide (q < N) = true := decide_eq_true (by omega) | have t3 : decide (q < N) = false := decide_eq_false (by omega)
    have HE : Hid ((decide ((r : Int) + 1 ≤ 5) == decide ((q : Int) < (N : Int))) = v) := by
      show _ = _
      rw [← HV.out]
      congr 1
      · exact decide_eq_decide.2 (by omega)
      · exact decide_eq_decide.2 (by omega)
    rw [t1, t2] at HE
    clear h1 h2
    go_enter Try.func65, Try.ntmps65
    go_wp2_with fail
    refine (specBank_is _ _ _ _ _ HN.out _).mono ?_
    rintro e w2 ⟨rfl, hb2⟩
    have HB2 : Hid (Below w.heap.size w w2) := HB1.out.trans (hb2.mono HB1.out.size)
    clear hb2
    go_wp2_with fail
    go_ret
    exact ⟨ret_b (by have := HE.out; simpa using this), HB2.out⟩

set_option maxHeartbeats 16000000 in
theorem specReadyOk_is (g0 B g2 g3 : Int) (N : Nat) (hN : bankN g0 B g2 g3 = (N : Int)) (a1 : Option Addr) (n1 c1 : Nat) (la : List Int) (a2 : Option Addr) (n2 c2 : Nat) (ac : List Int) (v : Bool) (hv : decide (RdOk g0 B g2 g3 N la ac) = v) (hl1 : la.length = n1) (h1 : n1 ≤ 4000000) (hl2 : ac.length = n2) (h2 : n2 ≤ 4000000) (w : World) (hr1 : RowI w a1 la) (hr2 : RowI w a2 ac) :
    Calls Try.prog 29 #[.agg #[.int .i64 g0, .int .i64 B, .int .i64 g2, .int .i64 g3], .agg #[.slice a1 n1 c1, .slice a2 n2 c2]] w (Gives (.bool v) w) := by
  obtain ⟨w1, hw1⟩ : ∃ u, (w.alloc (.cells #[.int .i64 g0, .int .i64 B, .int .i64 g2, .int .i64 g3] 25)).alloc (.cells #[.slice a1 n1 c1, .slice a2 n2 c2] 33) = u := ⟨_, rfl⟩
  have hb1 : Below w.heap.size w w1 := by subst hw1; exact ((Below.refl _ _).alloc (Nat.le_refl _) _).alloc (by simp) _
  have g1 : w1.heap[w.heap.size]? = some (.cells #[.int .i64 g0, .int .i64 B, .int .i64 g2, .int .i64 g3] 25) := by subst hw1; exact heap_alloc2_old _ _ _
  have p1 : w1.heap[w.heap.size + 1]? = some (.cells #[.slice a1 n1 c1, .slice a2 n2 c2] 33) := by subst hw1; exact heap_alloc2_new _ _ _
  have HB1 := Lib.hid hb1
  have HR1 := Lib.hid (hr1.below hb1)
  have HR2 := Lib.hid (hr2.below hb1)
  have HL1 := Lib.hid hl1
  have HL2 := Lib.hid hl2
  have HV := Lib.hid hv
  have HN := Lib.hid hN
  have hr := bankN_range g0 B g2 g3
  have hN8 : N ≤ 8 := by omega
  have e1 : IntKind.i64.wrap ((N : Int) + 1) = (N : Int) + 1 := IntWalk.i64_in _ (by omega)
  have e2 : IntKind.i64.wrap (9 * ((N : Int) + 1)) = 9 * ((N : Int) + 1) := IntWalk.i64_in _ (by omega)
  obtain ⟨c0, c1', c2', c3⟩ := cells4 g1
  obtain ⟨d0, d1⟩ := cells2 p1
  have z0 := fun q : Later w1 => q.cell c0
  have z1 := fun q : Later w1 => q.cell c1'
  have z2 := fun q : Later w1 => q.cell c2'
  have z3 := fun q : Later w1 => q.cell c3
  have y0 := fun q : Later w1 => q.cell d0
  have y1 := fun q : Later w1 => q.cell d1
  clear hr1 hr2 hv hb1 hN hr c0 c1' c2' c3 d0 d1
  by_cases hg : GeoOk g0 B g2 g3
  case neg =>
    have HE : Hid (v = false) := by show _ = _; rw [← HV.out]; exact decide_eq_false (fun h => hg h.1)
    have K := Lib.hid (decide_eq_false hg)
    clear hg hl1 hl2
    go_enter Try.func29, Try.ntmps29
    go_wp2_with fail
    refine wp_region_later (by kernel_rfl) (by kernel_rfl) ?_
    repeat (go_big_quiet_step ((go_at_call 44; exact Gives.later _ (specGeoOk_is _ _ _ _ _ K.out _))))
    refine wpQuiet_nil ?_
    rintro w2 ⟨zz, hz⟩
    have HB2 : Hid (Below w.heap.size w w2) := HB1.out.trans ((hz ▸ zz.ok : Below w1.heap.size w1 w2).mono HB1.out.size)
    go_wp2
    go_ret
    exact ⟨ret_b HE.out.symm, HB2.out⟩
  have K := Lib.hid (decide_eq_true hg)
  have HG := Lib.hid hg
  by_cases hnm : (n1 : Int) = 9 * ((N : Int) + 1)
  case neg =>
    have HE : Hid (v = false) := by show _ = _; rw [← HV.out]; exact decide_eq_false (fun h => hnm (by have := h.2.1; rw [HL1.out] at this; omega))
    have t1 : ((n1 : Int) != 9 * ((N : Int) + 1)) = true := by simp [hnm]
    clear hg hnm hl1 hl2
    go_enter Try.func29, Try.ntmps29
    go_wp2_with fail
    refine wp_region_later (by kernel_rfl) (by kernel_rfl) ?_
    repeat (go_big_quiet_step (first | (go_at_call 44; exact Gives.later _ (specGeoOk_is _ _ _ _ _ K.out _)) | (go_at_call 13; exact Gives.later _ (specBank_is _ _ _ _ _ HN.out _))))
    refine wpQuiet_nil ?_
    rintro w2 ⟨zz, hz⟩
    have HB2 : Hid (Below w.heap.size w w2) := HB1.out.trans ((hz ▸ zz.ok : Below w1.heap.size w1 w2).mono HB1.out.size)
    go_wp2
    go_ret
    exact ⟨ret_b HE.out.symm, HB2.out⟩
  have t1 : ((n1 : Int) != 9 * ((N : Int) + 1)) = false := by simp [hnm]
  have HNM : Hid (la.length = 9 * (N + 1)) := by show _ = _; omega
  have h81 : n1 ≤ 81 := by omega
  by_cases h4 : n2 ≤ 4
  case neg =>
    have HE : Hid (v = false) := by show _ = _; rw [← HV.out]; exact decide_eq_false (fun h => h4 (by have := h.2.2.1; rw [HL2.out] at this; exact this))
    have t2 : decide ((4 : Int) < (n2 : Int)) = true := decide_eq_true (by omega)
    have t3 : decide (4 < n2) = true := decide_eq_true (by omega)
    clear hg hnm hl1 hl2 h4
    go_enter Try.func29, Try.ntmps29
    go_wp2_with fail
    refine wp_region_later (by kernel_rfl) (by kernel_rfl) ?_
    repeat (go_big_quiet_step (first | (go_at_call 44; exact Gives.later _ (specGeoOk_is _ _ _ _ _ K.out _)) | (go_at_call 13; exact Gives.later _ (specBank_is _ _ _ _ _ HN.out _))))
    refine wpQuiet_nil ?_
    rintro w2 ⟨zz, hz⟩
    have HB2 : Hid (Below w.heap.size w w2) := HB1.out.trans ((hz ▸ zz.ok : Below w1.heap.size w1 w2).mono HB1.out.size)
    go_wp2
    go_ret
    exact ⟨ret_b HE.out.symm, HB2.out⟩
  have t2 : decide ((4 : Int) < (n2 : Int)) = false := decide_eq_false (by omega)
  have t3 : decide (4 < n2) = false := decide_eq_false (by omega)
  have H4 : Hid (ac.length ≤ 4) := by show _ ≤ _; omega
  clear hg hnm hl1 hl2
  go_enter Try.func29, Try.ntmps29
  go_wp2_with fail
  refine wp_region_later (by kernel_rfl) (by kernel_rfl) ?_
  repeat (go_big_quiet_step (first | (go_at_call 44; exact Gives.later _ (specGeoOk_is _ _ _ _ _ K.out _)) | (go_at_call 13; exact Gives.later _ (specBank_is _ _ _ _ _ HN.out _))))
  refine wpQuiet_nil ?_
  rintro w2 ⟨zz, hz⟩
  have hb2 : Below w1.heap.size w1 w2 := hz ▸ zz.ok
  have g2' := keep_block hb2 g1 (lt_of_block g1)
  have p2 := keep_block hb2 p1 (lt_of_block p1)
  have HB2 : Hid (Below w.heap.size w w2) := HB1.out.trans (hb2.mono HB1.out.size)
  have HRA := Lib.hid (HR1.out.below hb2)
  have HRC := Lib.hid (HR2.out.below hb2)
  clear z0 z1 z2 z3 y0 y1 hz zz hb2 hw1 g1 p1 HB1 HR1 HR2 t1 t2 t3 e1 e2 K
  go_wp2_with fail
  go_loopw [5] (fun i wr => ∃ k : Nat, k ≤ n1 ∧ i = .int .i64 k ∧ (∀ j, j < k → (-1 ≤ la.getD j 0 ∧ la.getD j 0 ≤ 1000000) ∧ (usedI N j = true ∨ la.getD j 0 = -1)) ∧ Below w2.heap.size w2 wr) (fun i _ => n1 - (intOf i).toNat)
  case atStart => exact ⟨0, Nat.zero_le _, rfl, fun j hj => absurd hj (Nat.not_lt_zero _), Below.refl _ _⟩
  case round =>
    obtain ⟨k, hk, rfl, hall, hbr⟩ := hrel
    have HALL := Lib.hid hall
    have HBR := Lib.hid hbr
    have HBW : Hid (Below w.heap.size w wr) := HB2.out.trans (hbr.mono HB2.out.size)
    have gr := keep_block hbr g2' (lt_of_block g2')
    have pr := keep_block hbr p2 (lt_of_block p2)
    clear hall hbr
    by_cases hlt : k < n1
    · obtain ⟨bb, off, rfl, hs⟩ := (HRA.out.below HBR.out).at (k := k) (by rw [HL1.out]; exact hlt)
      have NO : Hid (¬ ((-1 ≤ la.getD k 0 ∧ la.getD k 0 ≤ 1000000) ∧ (usedI N k = true ∨ la.getD k 0 = -1)) → v = false) := fun h => by
        rw [← HV.out]
        exact decide_eq_false (rdOk_no1 (by rw [HL1.out]; exact hlt) h)
      have YES : Hid ((-1 ≤ la.getD k 0 ∧ la.getD k 0 ≤ 1000000) ∧ (usedI N k = true ∨ la.getD k 0 = -1) → ∀ j, j < k + 1 → (-1 ≤ la.getD j 0 ∧ la.getD j 0 ≤ 1000000) ∧ (usedI N j = true ∨ la.getD j 0 = -1)) := fun h j hj => by
        by_cases e : j = k
        · rw [e]; exact h
        · exact HALL.out j (by omega)
      obtain ⟨b, hb⟩ : ∃ b, la.getD k 0 = b := ⟨_, rfl⟩
      rw [hb] at hs NO YES
      clear hb
      obtain ⟨us, hus⟩ : ∃ us, usedI N k = us := ⟨_, rfl⟩
      have HUS := Lib.hid hus
      rw [hus] at NO YES
      clear hus
      obtain ⟨c0, c1', c2', c3⟩ := cells4 gr
      obtain ⟨d0, d1⟩ := cells2 pr
      by_cases hrow : -1 ≤ b ∧ b ≤ 1000000
      case neg =>
        have KR := Lib.hid (decide_eq_false hrow)
        have HE : Hid (v = false) := NO.out (fun h => hrow h.1)
        clear hrow
        go_wp2_with fail
        refine (specIn_is _ _ _ _ KR.out _).mono ?_
        rintro e w' ⟨rfl, rfl⟩
        go_wp2
        go_ret
        exact ⟨ret_b HE.out.symm, HBW.out⟩
      have KR := Lib.hid (decide_eq_true hrow)
      have HROW := Lib.hid hrow
      have hk4 : k ≤ 4000000 := by omega
      clear hrow
      cases us
      case true =>
        have OK := Lib.hid (YES.out ⟨HROW.out, .inl rfl⟩)
        go_wp2_with fail
        refine (specIn_is _ _ _ _ KR.out _).mono ?_
        rintro e w' ⟨rfl, rfl⟩
        go_wp2_with fail
        refine (specUsed_is _ _ _ _ N k HN.out hk4 _ HUS.out _).mono ?_
        rintro e w5 ⟨rfl, hb5⟩
        have HB5 : Hid (Below w2.heap.size w2 w5) := HBR.out.trans (hb5.mono HBR.out.size)
        clear hb5
        go_wp2_with fail
        go_roundw
        case rel => exact ⟨k + 1, by omega, by go_num, OK.out, HB5.out⟩
        case measure => simp [intOf]; omega
      case false =>
        by_cases hm1 : b = -1
        · have t5 : (b != -1) = false := by simp [hm1]
          have OK := Lib.hid (YES.out ⟨HROW.out, .inr hm1⟩)
          clear hm1
          go_wp2_with fail
          refine (specIn_is _ _ _ _ KR.out _).mono ?_
          rintro e w' ⟨rfl, rfl⟩
          go_wp2_with fail
          refine (specUsed_is _ _ _ _ N k HN.out hk4 _ HUS.out _).mono ?_
          rintro e w5 ⟨rfl, hb5⟩
          have HB5 : Hid (Below w2.heap.size w2 w5) := HBR.out.trans (hb5.mono HBR.out.size)
          obtain ⟨d0, d1⟩ := cells2 (keep_block hb5 pr (lt_of_block pr))
          have hs5 := hb5.cell (World.block_lt_of_cell? _ _ hs) |>.trans hs
          clear hb5
          go_wp2_with fail
          go_roundw
          case rel => exact ⟨k + 1, by omega, by go_num, OK.out, HB5.out⟩
          case measure => simp [intOf]; omega
        · have t5 : (b != -1) = true := by simp [hm1]
          have HE : Hid (v = false) := NO.out (fun h => by
            rcases h.2 with h2 | h2
            · cases h2
            · exact hm1 h2)
          clear hm1
          go_wp2_with fail
          refine (specIn_is _ _ _ _ KR.out _).mono ?_
          rintro e w' ⟨rfl, rfl⟩
          go_wp2_with fail
          refine (specUsed_is _ _ _ _ N k HN.out hk4 _ HUS.out _).mono ?_
          rintro e w5 ⟨rfl, hb5⟩
          have HB5 : Hid (Below w.heap.size w w5) := HBW.out.trans (hb5.mono HBW.out.size)
          obtain ⟨d0, d1⟩ := cells2 (keep_block hb5 pr (lt_of_block pr))
          have hs5 := hb5.cell (World.block_lt_of_cell? _ _ hs) |>.trans hs
          clear hb5
          go_wp2_with fail
          go_ret
          exact ⟨ret_b HE.out.symm, HB5.out⟩
    obtain rfl : k = n1 := by omega
    have HLO : Hid (LastOk N la) := fun i hi => HALL.out i (by have := HL1.out; omega)
    have HRD := Lib.hid (HRC.out.below HBR.out)
    obtain ⟨d0, d1⟩ := cells2 pr
    clear HALL HRA g2' gr
    go_wp2_with fail
    clear hlt d0 d1
    go_loopw [6] (fun i wr => ∃ k : Nat, k ≤ n2 ∧ i = .int .i64 k ∧ (∀ j, j < k → (0 ≤ ac.getD j 0 ∧ ac.getD j 0 ≤ 1000000) ∧ (0 < j → ac.getD (j - 1) 0 < ac.getD j 0)) ∧ Below w2.heap.size w2 wr) (fun i _ => n2 - (intOf i).toNat)
    case atStart => exact ⟨0, Nat.zero_le _, rfl, fun j hj => absurd hj (Nat.not_lt_zero _), HBR.out⟩
    case round =>
      clear HBR HBW pr HRD
      obtain ⟨m, hm, rfl, hall, hbq⟩ := hrel
      have HALL := Lib.hid hall
      have HBQ := Lib.hid hbq
      have HBZ : Hid (Below w.heap.size w wr) := HB2.out.trans (hbq.mono HB2.out.size)
      have pq := keep_block hbq p2 (lt_of_block p2)
      clear hall hbq
      by_cases hlt : m < n2
      · obtain ⟨bb, off, rfl, hs⟩ := (HRC.out.below HBQ.out).at (k := m) (by rw [HL2.out]; exact hlt)
        have PREV : Hid (0 < m → wr.cell? ⟨bb, off + (m - 1), none⟩ = some (.int .i64 (ac.getD (m - 1) 0))) := fun h0 => by
          obtain ⟨b', off', hb', d⟩ := (HRC.out.below HBQ.out).at (k := m - 1) (by rw [HL2.out]; omega)
          cases hb'
          exact d
        have NO : Hid (¬ ((0 ≤ ac.getD m 0 ∧ ac.getD m 0 ≤ 1000000) ∧ (0 < m → ac.getD (m - 1) 0 < ac.getD m 0)) → v = false) := fun h => by
          rw [← HV.out]
          exact decide_eq_false (rdOk_no2 (by rw [HL2.out]; exact hlt) h)
        have YES : Hid ((0 ≤ ac.getD m 0 ∧ ac.getD m 0 ≤ 1000000) ∧ (0 < m → ac.getD (m - 1) 0 < ac.getD m 0) → ∀ j, j < m + 1 → (0 ≤ ac.getD j 0 ∧ ac.getD j 0 ≤ 1000000) ∧ (0 < j → ac.getD (j - 1) 0 < ac.getD j 0)) := fun h j hj => by
          by_cases e : j = m
          · rw [e]; exact h
          · exact HALL.out j (by omega)
        obtain ⟨b, hb⟩ : ∃ b, ac.getD m 0 = b := ⟨_, rfl⟩
        obtain ⟨p, hp⟩ : ∃ p, ac.getD (m - 1) 0 = p := ⟨_, rfl⟩
        rw [hb] at hs NO YES
        rw [hp] at NO YES PREV
        clear hb hp HALL
        have zs := fun q : Later wr => q.cell hs
        obtain ⟨d0, d1⟩ := cells2 pq
        have z0 := fun q : Later wr => q.cell d0
        have z1 := fun q : Later wr => q.cell d1
        by_cases hrow : 0 ≤ b ∧ b ≤ 1000000
        case neg =>
          have KR := Lib.hid (decide_eq_false hrow)
          have HE : Hid (v = false) := NO.out (fun h => hrow h.1)
          clear hrow
          go_wp2_with fail
          refine wp_region_later (by kernel_rfl) (by kernel_rfl) ?_
          repeat (go_big_quiet_step ((go_at_call 51; exact Gives.later_same _ (specIn_is _ _ _ _ KR.out _))))
          refine wpQuiet_nil ?_
          rintro w5 ⟨zz, rfl⟩
          have HB5 : Hid (Below w.heap.size w zz.to) := HBZ.out.trans (zz.ok.mono HBZ.out.size)
          go_wp2
          go_ret
          exact ⟨ret_b HE.out.symm, HB5.out⟩
        have KR := Lib.hid (decide_eq_true hrow)
        have HROW := Lib.hid hrow
        clear hrow
        by_cases h0 : 0 < m
        case neg =>
          have OK := Lib.hid (YES.out ⟨HROW.out, fun h => absurd h h0⟩)
          have t0 : decide (0 < m) = false := decide_eq_false h0
          have t0' : decide ((0 : Int) < (m : Int)) = false := decide_eq_false (by omega)
          clear PREV
          go_wp2_with fail
          refine wp_region_later (by kernel_rfl) (by kernel_rfl) ?_
          repeat (go_big_quiet_step ((go_at_call 51; exact Gives.later_same _ (specIn_is _ _ _ _ KR.out _))))
          refine wpQuiet_nil ?_
          rintro w5 ⟨zz, rfl⟩
          have HB5 : Hid (Below w2.heap.size w2 zz.to) := HBQ.out.trans (zz.ok.mono HBQ.out.size)
          clear t0 t0' h0
          go_wp2_with fail
          go_roundw
          case rel => exact ⟨m + 1, by omega, by go_num, OK.out, HB5.out⟩
          case measure => simp [intOf]; omega
        have t0 : decide (0 < m) = true := decide_eq_true h0
        have t0' : decide ((0 : Int) < (m : Int)) = true := decide_eq_true (by omega)
        have wm : IntKind.i64.wrap ((m : Int) - 1) = ((m - 1 : Nat) : Int) := by rw [IntWalk.i64_in _ (by omega)]; omega
        have hm1 : m - 1 < n2 := by omega
        have zp := fun q : Later wr => q.cell (PREV.out h0)
        have H0 := Lib.hid h0
        clear h0 PREV
        by_cases hlo : p < b
        case pos =>
          have tp : decide (b ≤ p) = false := decide_eq_false (by omega)
          have OK := Lib.hid (YES.out ⟨HROW.out, fun _ => hlo⟩)
          clear hlo
          go_wp2_with fail
          refine wp_region_later (by kernel_rfl) (by kernel_rfl) ?_
          repeat (go_big_quiet_step ((go_at_call 51; exact Gives.later_same _ (specIn_is _ _ _ _ KR.out _))))
          refine wpQuiet_nil ?_
          rintro w5 ⟨zz, rfl⟩
          have HB5 : Hid (Below w2.heap.size w2 zz.to) := HBQ.out.trans (zz.ok.mono HBQ.out.size)
          clear t0 t0' wm hm1 tp
          go_wp2_with fail
          go_roundw
          case rel => exact ⟨m + 1, by omega, by go_num, OK.out, HB5.out⟩
          case measure => simp [intOf]; omega
        have tp : decide (b ≤ p) = true := decide_eq_true (by omega)
        have HE : Hid (v = false) := NO.out (fun h => hlo (h.2 H0.out))
        clear hlo
        go_wp2_with fail
        refine wp_region_later (by kernel_rfl) (by kernel_rfl) ?_
        repeat (go_big_quiet_step ((go_at_call 51; exact Gives.later_same _ (specIn_is _ _ _ _ KR.out _))))
        refine wpQuiet_nil ?_
        rintro w5 ⟨zz, rfl⟩
        have HB5 : Hid (Below w.heap.size w zz.to) := HBZ.out.trans (zz.ok.mono HBZ.out.size)
        go_wp2
        go_ret
        exact ⟨ret_b HE.out.symm, HB5.out⟩
      obtain rfl : m = n2 := by omega
      have HAO : Hid (ActsOk ac) := fun i hi => HALL.out i (by have := HL2.out; omega)
      have HE : Hid (true = v) := by
        show _ = _
        rw [← HV.out]
        exact (decide_eq_true ⟨HG.out, HNM.out, H4.out, HLO.out, HAO.out⟩).symm
      obtain ⟨d0, d1⟩ := cells2 pq
      go_wp2
      go_ret
      exact ⟨ret_b HE.out, HBZ.out⟩

end Go.Proofs.Ythplhjdfajhmpaa

namespace Go.Proofs.Ythplhjdfajhmpaa
open Go.RowKit Go.PlainAid

set_option linter.unusedVariables false

theorem cells5 {w : World} {c : Nat} {v0 v1 v2 v3 v4 : Value} {t : TypeId} {fr : Nat × Nat} (h : w.heap[c]? = some (.cells #[v0, v1, v2, v3, v4] t fr)) :
    w.cell? ⟨c, 0, none⟩ = some v0 ∧ w.cell? ⟨c, 1, none⟩ = some v1 ∧ w.cell? ⟨c, 2, none⟩ = some v2 ∧ w.cell? ⟨c, 3, none⟩ = some v3 ∧ w.cell? ⟨c, 4, none⟩ = some v4 := by
  simp [World.cell?, h]

/-- A whole event is loaded from a variable. -/
theorem ld_ev {ops : Array Oper} {rest : List Oper} {a : Act} {w : World} {Q : Exit → Act → World → Prop} {d : Tmp} {x : Operand} {y : TypeId} {p : String} {af : Array Edge} {gd : Option (Nat × Bool)} {c : Nat} {v0 v1 v2 v3 v4 : Value} {ty : TypeId} {fr : Nat × Nat}
    (hw : Region.wanted ⟨some d, .load 41 x, y, p, af, gd⟩ (yielded ops a.tmps) = true) (hx : a.eval x = .pointer (some ⟨c, 0, none⟩)) (h : w.heap[c]? = some (.cells #[v0, v1, v2, v3, v4] ty fr))
    (k : wpList Try.prog ops Q rest (a.put (some d) (.agg #[v0, v1, v2, v3, v4])) w) : wpList Try.prog ops Q (⟨some d, .load 41 x, y, p, af, gd⟩ :: rest) a w :=
  load_list Try.underlying41 rfl (by kernel_rfl) hw hx h k

set_option maxHeartbeats 2000000 in
theorem toEvent_is (t k x y z : Int) (w : World) :
    Calls Try.prog 33 #[.agg #[.int .i64 t, .int .i64 k, .int .i64 x, .int .i64 y, .int .i64 z]] w (Gives (.agg #[.int .i64 t, .int .i64 k, .int .i64 x, .int .i64 y, .int .i64 z]) w) := by
  obtain ⟨w1, hw1⟩ : ∃ u, ((w.alloc (.cells #[.int .i64 t, .int .i64 k, .int .i64 x, .int .i64 y, .int .i64 z] 64)).alloc (.cells #[.int .i64 0, .int .i64 0, .int .i64 0, .int .i64 0, .int .i64 0] 41)).alloc (.cells #[.int .i64 t, .int .i64 0, .int .i64 0, .int .i64 0, .int .i64 0] 41) = u := ⟨_, rfl⟩
  have HB1 : Hid (Below w.heap.size w w1) := by subst hw1; exact (((Below.refl _ _).alloc (Nat.le_refl _) _).alloc (by simp) _).alloc (by simp; omega) _
  have p1 : w1.heap[w.heap.size]? = some (.cells #[.int .i64 t, .int .i64 k, .int .i64 x, .int .i64 y, .int .i64 z] 64) := by subst hw1; exact box3_0 _ _ _ _
  have s1 : w1.heap[w.heap.size + 1]? = some (.cells #[.int .i64 0, .int .i64 0, .int .i64 0, .int .i64 0, .int .i64 0] 41) := by subst hw1; exact box3_1 _ _ _ _
  have o1 : w1.heap[w.heap.size + 1 + 1]? = some (.cells #[.int .i64 t, .int .i64 0, .int .i64 0, .int .i64 0, .int .i64 0] 41) := by subst hw1; exact box3_2 _ _ _ _
  obtain ⟨c0, c1, c2, c3, c4⟩ := cells5 p1
  go_enter Try.func33, Try.ntmps33
  go_wp2_with fail
  refine (toCommand_any _ _ _ _ _).mono ?_
  rintro e w2 ⟨rfl, hb2⟩
  have s2 := keep_block hb2 s1 (lt_of_block s1)
  have o2 := keep_block hb2 o1 (lt_of_block o1)
  have HB2 : Hid (Below w.heap.size w w2) := HB1.out.trans (hb2.mono HB1.out.size)
  clear hb2 s1 o1 p1 hw1 HB1 c0 c1 c2 c3 c4
  obtain ⟨x0, x1, x2, x3, x4⟩ := cells5 o2
  have f1 := thawed o2 1
  have f2 := thawed o2 2
  have f3 := thawed o2 3
  have f4 := thawed o2 4
  have o3 := set_cells (set_cells (set_cells (set_cells o2 1 (.int .i64 k)) 2 (.int .i64 x)) 3 (.int .i64 y)) 4 (.int .i64 z)
  have s3 := (Below.heap_setCell _ ⟨w.heap.size + 1 + 1, 4, none⟩ (.int .i64 z) (w.heap.size + 1) (by simp)).trans ((Below.heap_setCell _ ⟨w.heap.size + 1 + 1, 3, none⟩ (.int .i64 y) (w.heap.size + 1) (by simp)).trans ((Below.heap_setCell _ ⟨w.heap.size + 1 + 1, 2, none⟩ (.int .i64 x) (w.heap.size + 1) (by simp)).trans ((Below.heap_setCell w2 ⟨w.heap.size + 1 + 1, 1, none⟩ (.int .i64 k) (w.heap.size + 1) (by simp)).trans s2)))
  have HB3 : Hid (Below w.heap.size w ((((w2.setCell ⟨w.heap.size + 1 + 1, 1, none⟩ (.int .i64 k)).setCell ⟨w.heap.size + 1 + 1, 2, none⟩ (.int .i64 x)).setCell ⟨w.heap.size + 1 + 1, 3, none⟩ (.int .i64 y)).setCell ⟨w.heap.size + 1 + 1, 4, none⟩ (.int .i64 z))) :=
    (((HB2.out.setCell (by simp; omega) _).setCell (by simp; omega) _).setCell (by simp; omega) _).setCell (by simp; omega) _
  go_wp2_with (first | ((with_reducible refine ld_ev ?_ ?_ o3 ?_); kernel_rfl; kernel_rfl; go_simp) | ((with_reducible refine store_list (cells := #[.int .i64 t, .int .i64 k, .int .i64 x, .int .i64 y, .int .i64 z]) s3 ?_ ?_ ?_ ?_ ?_ ?_); kernel_rfl; kernel_rfl; kernel_rfl; kernel_rfl; kernel_rfl))
  have hr := setRow_same _ _ #[.int .i64 t, .int .i64 k, .int .i64 x, .int .i64 y, .int .i64 z] _ _ s3
  refine bodyPost_ret (v := .agg #[.int .i64 t, .int .i64 k, .int .i64 x, .int .i64 y, .int .i64 z]) (results_cell_row rfl _ _ (w.heap.size + 1) 41 #[.int .i64 t, .int .i64 k, .int .i64 x, .int .i64 y, .int .i64 z] (0, 0) _ rfl hr Try.underlying41 rfl (by kernel_rfl)) rfl ⟨rfl, ?_⟩
  exact below_setRow HB3.out (by omega) _

theorem szEventS_is (ad : Option Addr) (n cap : Nat) (k v : Int) (hn : n ≤ maxLen) (h0 : 0 ≤ k) (hk : k ≤ 1048576) (hv : (if k - n < 0 then -1 else k - n) = v) (w : World) :
    Calls Try.prog 17 #[.slice ad n cap, .int .i64 k] w (Gives (.int .i64 v) w) := by
  have HV := Lib.hid hv
  unfold maxLen at hn
  have e1 : IntKind.i64.wrap (k - (n : Int)) = k - (n : Int) := IntWalk.i64_in _ ⟨by omega, by omega⟩
  clear hv
  by_cases hlt : k - (n : Int) < 0
  · have HE : Hid (v = -1) := by show _ = _; rw [← HV.out]; exact if_pos hlt
    go_enter Try.func17, Try.ntmps17
    go_wp2
    go_ret
    exact ⟨ret_i HE.out.symm, Below.refl _ _⟩
  · have HE : Hid (v = k - n) := by show _ = _; rw [← HV.out]; exact if_neg hlt
    have hge : 0 ≤ k - (n : Int) := by omega
    go_enter Try.func17, Try.ntmps17
    go_wp2
    go_ret
    exact ⟨ret_i HE.out.symm, Below.refl _ _⟩

set_option maxHeartbeats 2000000 in
theorem eqEvent_is (t k x y z : Int) (w : World) :
    Calls Try.prog 59 #[.agg #[.int .i64 t, .int .i64 k, .int .i64 x, .int .i64 y, .int .i64 z], .agg #[.int .i64 t, .int .i64 k, .int .i64 x, .int .i64 y, .int .i64 z]] w (Gives (.bool true) w) := by
  obtain ⟨w1, hw1⟩ : ∃ u, (w.alloc (.cells #[.int .i64 t, .int .i64 k, .int .i64 x, .int .i64 y, .int .i64 z] 41)).alloc (.cells #[.int .i64 t, .int .i64 k, .int .i64 x, .int .i64 y, .int .i64 z] 41) = u := ⟨_, rfl⟩
  have HB1 : Hid (Below w.heap.size w w1) := by subst hw1; exact ((Below.refl _ _).alloc (Nat.le_refl _) _).alloc (by simp) _
  have p1 : w1.heap[w.heap.size]? = some (.cells #[.int .i64 t, .int .i64 k, .int .i64 x, .int .i64 y, .int .i64 z] 41) := by subst hw1; exact heap_alloc2_old _ _ _
  have s1 : w1.heap[w.heap.size + 1]? = some (.cells #[.int .i64 t, .int .i64 k, .int .i64 x, .int .i64 y, .int .i64 z] 41) := by subst hw1; exact heap_alloc2_new _ _ _
  obtain ⟨c0, c1, c2, c3, c4⟩ := cells5 p1
  obtain ⟨d0, d1, d2, d3, d4⟩ := cells5 s1
  have t1 : (t != t) = false := by simp
  go_enter Try.func59, Try.ntmps59
  go_wp2_with fail
  refine (eqCommand_same _ _ _ _ _).mono ?_
  rintro e w2 ⟨rfl, hb2⟩
  have HB2 : Hid (Below w.heap.size w w2) := HB1.out.trans (hb2.mono HB1.out.size)
  clear hb2
  go_wp2
  go_ret
  exact ⟨rfl, HB2.out⟩

set_option maxHeartbeats 2000000 in
/-- Two rows of events that are alike. -/
theorem eqEventS_is {a b : Option Addr} {ca cb : Nat} {l : List Ev} {w : World} {n : Nat} (hn : l.length = n) (ha : evK.Row w a l) (hb : evK.Row w b l) (hl : (n : Int) ≤ 9223372036854775807) :
    Calls Try.prog 23 #[.slice a n ca, .slice b n cb] w (Gives (.bool true) w) := by
  have HN := Lib.hid hn
  have HA := Lib.hid ha
  have HB := Lib.hid hb
  clear hn ha hb
  go_enter Try.func23, Try.ntmps23
  go_wp2_with fail
  go_loopw [5] (fun i wr => ∃ k : Nat, k ≤ n ∧ i = .int .i64 k ∧ Below w.heap.size w wr) (fun i _ => n - (intOf i).toNat)
  case atStart => exact ⟨0, Nat.zero_le _, rfl, Below.refl _ _⟩
  case round =>
    obtain ⟨m, hm, rfl, hbr⟩ := hrel
    have HBR := Lib.hid hbr
    clear hbr
    by_cases hlt : m < n
    · obtain ⟨ba, oa, rfl, a0, a1, a2, a3, a4⟩ := ev_at (HA.out.below HBR.out) (i := m) (by rw [HN.out]; exact hlt)
      obtain ⟨bb, ob, rfl, b0, b1, b2, b3, b4⟩ := ev_at (HB.out.below HBR.out) (i := m) (by rw [HN.out]; exact hlt)
      obtain ⟨e, he⟩ : ∃ e, l.getD m ev0 = e := ⟨_, rfl⟩
      rw [he] at a0 a1 a2 a3 a4 b0 b1 b2 b3 b4
      clear he
      have za0 := fun q : Later wr => q.cell a0
      have za1 := fun q : Later wr => q.cell a1
      have za2 := fun q : Later wr => q.cell a2
      have za3 := fun q : Later wr => q.cell a3
      have za4 := fun q : Later wr => q.cell a4
      have zb0 := fun q : Later wr => q.cell b0
      have zb1 := fun q : Later wr => q.cell b1
      have zb2 := fun q : Later wr => q.cell b2
      have zb3 := fun q : Later wr => q.cell b3
      have zb4 := fun q : Later wr => q.cell b4
      clear a0 a1 a2 a3 a4 b0 b1 b2 b3 b4
      go_wp2_with fail
      refine wp_region_later (by kernel_rfl) (by kernel_rfl) ?_
      repeat (go_big_quiet_step ((go_at_call 59; exact Gives.later _ (eqEvent_is _ _ _ _ _ _))))
      refine wpQuiet_nil ?_
      rintro w2 ⟨zz, hz⟩
      have HB2 : Hid (Below w.heap.size w w2) := HBR.out.trans ((hz ▸ zz.ok : Below wr.heap.size wr w2).mono HBR.out.size)
      clear za0 za1 za2 za3 za4 zb0 zb1 zb2 zb3 zb4 hz zz
      go_wp2
      go_roundw
      case rel => exact ⟨m + 1, by omega, by go_num, HB2.out⟩
      case measure => simp [intOf]; omega
    · go_wp2_with fail
      go_ret
      exact ⟨rfl, HBR.out⟩

set_option maxHeartbeats 2000000 in
set_option maxRecDepth 100000 in
theorem toEventS_is (ad : Option Addr) (n cap : Nat) (zs : List Ev) (hz : zs.length = n) (h1 : n ≤ 3000000) (w : World) (hr : evK.Row w ad zs) :
    Calls Try.prog 21 #[.slice ad n cap] w fun e w' => ∃ a c, e = .returned (.slice a n c) ∧ evK.Own 41 w.heap.size (.slice a n c) zs w' ∧ Below w.heap.size w w' := by
  have HZ := Lib.hid hz
  have HR := Lib.hid hr
  clear hz hr
  obtain ⟨i0, hi, hz0, hz1, hz2⟩ := info_parts infoE
  go_enter Try.func21, Try.ntmps21
  go_wp2_with (at_make; refine wpList_make_full _ rfl _ _ 28 rfl w.heap.size 41 i0 (.agg #[.int .i64 0, .int .i64 0, .int .i64 0, .int .i64 0, .int .i64 0]) 5 Try.underlying28 hi hz0 hz1 _ _ _ _ n rfl rfl rfl rfl (by rw [hz2]; omega) (by unfold maxLen; omega) (Nat.le_refl _) ?_)
  intro w1 hown hgr
  have hb1 : Below w.heap.size w w1 := (Below.refl _ _).grown hgr (Nat.le_refl _) (fun k hk => by cases hk)
  have hO : Hid (evK.Own 41 w.heap.size (.slice (some ⟨w.heap.size, 0, none⟩) n n) (zs.take 0 ++ List.replicate (n - 0) ev0) w1) := by
    show World.ownsRow _ _ _ _ _ _ _
    have hmd : (madeCells #[.int .i64 0, .int .i64 0, .int .i64 0, .int .i64 0, .int .i64 0] (n * 5)).toList = (List.replicate n ev0).flatMap evK.vs := evK.made n
    rw [show (zs.take 0 ++ List.replicate (n - 0) ev0 : List Ev) = List.replicate n ev0 by simp, List.length_replicate, ← hmd]
    exact hown
  have HB1 := Lib.hid hb1
  clear hgr hown hb1
  go_wp2_with fail
  go_loopw [4] (fun i wr => ∃ k : Nat, k ≤ n ∧ i = .int .i64 k ∧ evK.Own 41 w.heap.size (.slice (some ⟨w.heap.size, 0, none⟩) n n) (zs.take k ++ List.replicate (n - k) ev0) wr ∧ Below w.heap.size w wr) (fun i _ => n - (intOf i).toNat)
  case atStart => exact ⟨0, Nat.zero_le _, rfl, hO.out, HB1.out⟩
  case round =>
    obtain ⟨m, hm, rfl, hown, hbk⟩ := hrel
    have HB2 := Lib.hid hbk
    have HO2 := Lib.hid hown
    clear hbk hO HB1 hown
    by_cases hlt : m < n
    · have hlen : (zs.take m ++ List.replicate (n - m) ev0).length = n := by have := HZ.out; simp; omega
      have HL := Lib.hid hlen
      have HST := Lib.hid (take_setG ev0 zs n m HZ.out hlt)
      obtain ⟨pb, off, rfl, a0, a1, a2, a3, a4⟩ := ev_at (HR.out.below HB2.out) (i := m) (by rw [HZ.out]; exact hlt)
      obtain ⟨e, he⟩ : ∃ e, zs.getD m ev0 = e := ⟨_, rfl⟩
      rw [he] at a0 a1 a2 a3 a4 HST
      clear hlen he
      go_wp2_with fail
      refine (toEvent_is e.t e.k e.x e.y e.z _).mono ?_
      rintro e' w3 ⟨rfl, hb3⟩
      have HO3 : Hid (evK.Own 41 w.heap.size (.slice (some ⟨w.heap.size, 0, none⟩) n n) (zs.take m ++ List.replicate (n - m) ev0) w3) := HO2.out.below hb3
      have HB3 : Hid (Below w.heap.size w w3) := HB2.out.trans (hb3.mono HB2.out.size)
      obtain ⟨g, hg, hc, hf, hB, hgl⟩ := HO3.out.at (i := m) (by rw [HL.out]; exact hlt)
      obtain rfl : w.heap.size = g := by simpa using hg
      obtain ⟨c0, c1, c2, c3, c4⟩ := ev_cells hc
      have f0 := hf (m * 5)
      have f1 := hf (m * 5 + 1)
      have f2 := hf (m * 5 + 2)
      have f3 := hf (m * 5 + 3)
      have f4 := hf (m * 5 + 4)
      obtain ⟨u0, k0⟩ : ∃ u, w3.cell? ⟨w.heap.size, m * 5, none⟩ = some u := ⟨_, c0⟩
      obtain ⟨u1, k1⟩ : ∃ u, w3.cell? ⟨w.heap.size, m * 5 + 1, none⟩ = some u := ⟨_, c1⟩
      obtain ⟨u2, k2⟩ : ∃ u, w3.cell? ⟨w.heap.size, m * 5 + 2, none⟩ = some u := ⟨_, c2⟩
      obtain ⟨u3, k3⟩ : ∃ u, w3.cell? ⟨w.heap.size, m * 5 + 3, none⟩ = some u := ⟨_, c3⟩
      obtain ⟨u4, k4⟩ : ∃ u, w3.cell? ⟨w.heap.size, m * 5 + 4, none⟩ = some u := ⟨_, c4⟩
      clear c0 c1 c2 c3 c4 hf hc a0 a1 a2 a3 a4 hb3 HB2 HO2 hg
      go_wp2_with fail
      have R : evK.Own 41 w.heap.size (.slice (some ⟨w.heap.size, 0, none⟩) n n) (zs.take (m + 1) ++ List.replicate (n - (m + 1)) ev0) (putW w3 w.heap.size (m * 5) (evK.vs e)) := by
        rw [← HST.out]
        exact HO3.out.put HL.out hlt e
      go_roundw
      case rel => exact ⟨m + 1, by omega, by go_num, R, putW_below (Nat.le_refl _) (evK.vs e) _ _ (m * 5) HB3.out⟩
      case measure => simp [intOf]; omega
    · obtain rfl : m = n := by omega
      go_wp2_with fail
      go_ret
      have hO2 := HO2.out
      have hzk := HZ.out
      rw [Nat.sub_self, List.replicate_zero, List.append_nil, List.take_of_length_le (by omega)] at hO2
      exact ⟨_, _, rfl, hO2, HB2.out⟩

set_option maxHeartbeats 4000000 in
set_option maxRecDepth 100000 in
/-- Marks are written over a row of the call's own: only its block turns. -/
theorem markEventS_is {B : Nat} {a : Option Addr} {c : Nat} {l : List Ev} {w : World} {n : Nat} (hn : l.length = n) (h : evK.Own 41 B (.slice a n c) l w) (k0 : Nat) (h1 : k0 + n ≤ 1000000000) (g0 : Nat) (hg0 : ∀ x, a = some x → x.block = g0) :
    Calls Try.prog 35 #[.slice a n c, .int .i64 k0] w fun e w' => e = .returned (.int .i64 ((k0 + 5 * n : Nat) : Int)) ∧ Only g0 w w' := by
  have HN := Lib.hid hn
  have HO := Lib.hid h
  have HG0 := Lib.hid hg0
  clear hn h hg0
  go_enter Try.func35, Try.ntmps35
  go_wp2_with fail
  go_loopw [1, 5] (fun q i wr => ∃ k : Nat, k ≤ n ∧ i = .int .i64 k ∧ q = .int .i64 ((k0 + 5 * k : Nat) : Int) ∧ (∃ l' : List Ev, l'.length = n ∧ evK.Own 41 B (.slice a n c) l' wr) ∧ Only g0 w wr) (fun _ i _ => n - (intOf i).toNat)
  case atStart => exact ⟨0, Nat.zero_le _, rfl, rfl, ⟨l, HN.out, HO.out⟩, Only.refl _ _⟩
  case round =>
    obtain ⟨m, hm, rfl, rfl, ⟨l', hl', hown⟩, hok⟩ := hrel
    have HO2 := Lib.hid hown
    have HK2 := Lib.hid hok
    have HL := Lib.hid hl'
    clear hown hok hl' HO
    by_cases hlt : m < n
    · obtain ⟨g, rfl, hc, hf, hB, hgl⟩ := HO2.out.at (i := m) (by rw [HL.out]; exact hlt)
      have HGG : Hid (g = g0) := HG0.out _ rfl
      obtain ⟨q, hq⟩ : ∃ q : Int, ((k0 + 5 * m : Nat) : Int) = q := ⟨_, rfl⟩
      have HS : Hid (((k0 + 5 * (m + 1) : Nat) : Int) = q + 1 + 1 + 1 + 1 + 1) := by show _ = _; omega
      have hq0 : 0 ≤ q ∧ q ≤ 8000000000 := by omega
      have e1 : IntKind.i64.wrap (q + 1) = q + 1 := IntWalk.i64_in _ (by omega)
      have e2 : IntKind.i64.wrap (q + 1 + 1) = q + 1 + 1 := IntWalk.i64_in _ (by omega)
      have e3 : IntKind.i64.wrap (q + 1 + 1 + 1) = q + 1 + 1 + 1 := IntWalk.i64_in _ (by omega)
      have e4 : IntKind.i64.wrap (q + 1 + 1 + 1 + 1) = q + 1 + 1 + 1 + 1 := IntWalk.i64_in _ (by omega)
      have e5 : IntKind.i64.wrap (q + 1 + 1 + 1 + 1 + 1) = q + 1 + 1 + 1 + 1 + 1 := IntWalk.i64_in _ (by omega)
      rw [hq]
      clear hq
      obtain ⟨c0, c1, c2, c3, c4⟩ := ev_cells hc
      have f0 := hf (m * 5)
      have f1 := hf (m * 5 + 1)
      have f2 := hf (m * 5 + 2)
      have f3 := hf (m * 5 + 3)
      have f4 := hf (m * 5 + 4)
      obtain ⟨v0, k0'⟩ : ∃ u, wr.cell? ⟨g, m * 5, none⟩ = some u := ⟨_, c0⟩
      obtain ⟨v1, k1⟩ : ∃ u, wr.cell? ⟨g, m * 5 + 1, none⟩ = some u := ⟨_, c1⟩
      obtain ⟨v2, k2⟩ : ∃ u, wr.cell? ⟨g, m * 5 + 2, none⟩ = some u := ⟨_, c2⟩
      obtain ⟨v3, k3⟩ : ∃ u, wr.cell? ⟨g, m * 5 + 3, none⟩ = some u := ⟨_, c3⟩
      obtain ⟨v4, k4⟩ : ∃ u, wr.cell? ⟨g, m * 5 + 4, none⟩ = some u := ⟨_, c4⟩
      clear c0 c1 c2 c3 c4 hf hc
      go_wp2_with fail
      have R2 : Hid (evK.Own 41 B (.slice (some ⟨g, 0, none⟩) n c) (l'.set m ⟨q, q + 1, q + 1 + 1, q + 1 + 1 + 1, q + 1 + 1 + 1 + 1⟩) (putW wr g (m * 5) (evK.vs ⟨q, q + 1, q + 1 + 1, q + 1 + 1 + 1, q + 1 + 1 + 1 + 1⟩))) :=
        HO2.out.put HL.out hlt _
      have HK3 : Hid (Only g0 w (putW wr g (m * 5) (evK.vs ⟨q, q + 1, q + 1 + 1, q + 1 + 1 + 1, q + 1 + 1 + 1 + 1⟩))) :=
        ((((HK2.out.setCell (p := ⟨g, m * 5, none⟩) HGG.out _).setCell (p := ⟨g, m * 5 + 1, none⟩) HGG.out _).setCell (p := ⟨g, m * 5 + 2, none⟩) HGG.out _).setCell (p := ⟨g, m * 5 + 3, none⟩) HGG.out _).setCell (p := ⟨g, m * 5 + 4, none⟩) HGG.out _
      go_roundw
      case rel => exact ⟨m + 1, by omega, by go_num, by rw [HS.out], ⟨_, by rw [List.length_set]; exact HL.out, R2.out⟩, HK3.out⟩
      case measure => simp [intOf]; omega
    · obtain rfl : m = n := by omega
      go_wp2_with fail
      go_ret
      exact ⟨rfl, HK2.out⟩

end Go.Proofs.Ythplhjdfajhmpaa

namespace Go.Proofs.Ythplhjdfajhmpaa
open Go.RowKit Go.PlainAid

set_option linter.unusedVariables false

/-- The times of a block. -/
def blkL (la : List Int) (b : Nat) : List Int := [la.getD (9 * b + 0) 0, la.getD (9 * b + 1) 0, la.getD (9 * b + 2) 0, la.getD (9 * b + 3) 0, la.getD (9 * b + 4) 0, la.getD (9 * b + 5) 0, la.getD (9 * b + 6) 0, la.getD (9 * b + 7) 0, la.getD (9 * b + 8) 0]

set_option maxHeartbeats 4000000 in
set_option maxRecDepth 100000 in
theorem implTimesOf_is (a1 : Option Addr) (n1 c1 : Nat) (la : List Int) (a2 : Option Addr) (n2 c2 : Nat) (b : Nat) (hb : 9 * b + 9 ≤ n1) (hl : la.length = n1) (h1 : n1 ≤ 3000000) (hc1 : n1 ≤ c1) (w : World) (hr : RowI w a1 la) :
    Calls Try.prog 97 #[.agg #[.slice a1 n1 c1, .slice a2 n2 c2], .int .i64 (b : Int)] w (Gives (.agg #[.int .i64 (la.getD (9 * b + 0) 0), .int .i64 (la.getD (9 * b + 1) 0), .int .i64 (la.getD (9 * b + 2) 0), .int .i64 (la.getD (9 * b + 3) 0), .int .i64 (la.getD (9 * b + 4) 0), .int .i64 (la.getD (9 * b + 5) 0), .int .i64 (la.getD (9 * b + 6) 0), .int .i64 (la.getD (9 * b + 7) 0), .int .i64 (la.getD (9 * b + 8) 0)]) w) := by
  obtain ⟨w1, hw1⟩ : ∃ u, w.alloc (.cells #[.slice a1 n1 c1, .slice a2 n2 c2] 33) = u := ⟨_, rfl⟩
  have HB1 : Hid (Below w.heap.size w w1) := by subst hw1; exact (Below.refl _ _).alloc (Nat.le_refl _) _
  have p1 : w1.heap[w.heap.size]? = some (.cells #[.slice a1 n1 c1, .slice a2 n2 c2] 33) := by subst hw1; exact heap_alloc_new _ _
  have HR0 := Lib.hid hr
  have HL := Lib.hid hl
  clear hr hl
  have HS := Lib.hid HB1.out.size
  go_enter Try.func97, Try.ntmps97
  go_wp2_with fail
  generalize hw2 : (w1.alloc (.cells #[.int .i64 0, .int .i64 0, .int .i64 0, .int .i64 0, .int .i64 0, .int .i64 0, .int .i64 0, .int .i64 0, .int .i64 0] 133)).alloc (.cells #[.int .i64 0, .int .i64 0, .int .i64 0, .int .i64 0, .int .i64 0, .int .i64 0, .int .i64 0, .int .i64 0, .int .i64 0] 133) = w2
  have HB2 : Hid (Below w.heap.size w w2) := by show Below _ _ _; rw [← hw2]; exact (HB1.out.alloc HB1.out.size _).alloc (by have := HB1.out.size; simp; omega) _
  have p2 : w2.heap[w.heap.size]? = some (.cells #[.slice a1 n1 c1, .slice a2 n2 c2] 33) := by rw [← hw2]; exact keep_block ((Below.refl _ _).alloc (Nat.le_refl _) _ |>.alloc (by simp) _) p1 (lt_of_block p1)
  have r2 : w2.heap[w1.heap.size]? = some (.cells #[.int .i64 0, .int .i64 0, .int .i64 0, .int .i64 0, .int .i64 0, .int .i64 0, .int .i64 0, .int .i64 0, .int .i64 0] 133) := by rw [← hw2]; exact heap_alloc2_old _ _ _
  have t2 : w2.heap[w1.heap.size + 1]? = some (.cells #[.int .i64 0, .int .i64 0, .int .i64 0, .int .i64 0, .int .i64 0, .int .i64 0, .int .i64 0, .int .i64 0, .int .i64 0] 133) := by rw [← hw2]; exact heap_alloc2_new _ _ _
  have HR2 : Hid (RowI w2 a1 la) := HR0.out.below HB2.out
  clear hw2 hw1 p1 HB1
  generalize w1.heap.size = rP at r2 t2 HS ⊢
  obtain ⟨bk, off, rfl, -⟩ := HR2.out.at (k := 9 * b) (by rw [HL.out]; omega)
  have wm : IntKind.i64.wrap (9 * (b : Int)) = ((9 * b : Nat) : Int) := by rw [IntWalk.i64_in _ (by omega)]; omega
  obtain ⟨d0, d1⟩ := cells2 p2
  have z0 := fun q : Later w2 => q.cell d0
  have hlt : 9 * b < c1 := by omega
  have hle : 9 * b ≤ n1 := by omega
  have hne : ¬ (9 * b = c1) := by omega
  refine wp_region_later_tail 6 (by kernel_rfl) (by kernel_rfl) ?_
  simp only [List.take_succ_cons, List.take_zero, List.drop_succ_cons, List.drop_zero]
  repeat (go_big_quiet_step (fail))
  refine wpQuiet_nil ?_
  rintro w3 ⟨zz, rfl⟩
  have t3 := zz.block t2
  have r3 := zz.block r2
  have HB3 : Hid (Below w.heap.size w zz.to) := HB2.out.trans (zz.ok.mono HB2.out.size)
  have HR3 : Hid (RowI zz.to (some ⟨bk, off, none⟩) la) := HR2.out.below zz.ok
  generalize zz.to = w3 at t3 r3 HB3 HR3 ⊢
  have hc : ∀ i, i < 9 → w3.cell? ⟨bk, off + 9 * b + i, none⟩ = some (.int .i64 (la.getD (9 * b + i) 0)) := fun i hi => by
    obtain ⟨_, _, e, h⟩ := HR3.out.at (k := 9 * b + i) (by rw [HL.out]; omega)
    cases e
    rw [Nat.add_assoc]
    exact h
  clear zz z0 d0 d1 p2 r2 t2 HR2 HB2
  refine wpList_copy_own rfl (.tmp 7) (.tmp 12) 31 31 rfl 3 Try.underlying31 (by kernel_rfl) (rP + 1) 0 9 9 ⟨bk, off + 9 * b, none⟩ (n1 - 9 * b) (c1 - 9 * b) rfl rfl #[.int .i64 0, .int .i64 0, .int .i64 0, .int .i64 0, .int .i64 0, .int .i64 0, .int .i64 0, .int .i64 0, .int .i64 0] 133 t3 [.int .i64 (la.getD (9 * b + 0) 0), .int .i64 (la.getD (9 * b + 1) 0), .int .i64 (la.getD (9 * b + 2) 0), .int .i64 (la.getD (9 * b + 3) 0), .int .i64 (la.getD (9 * b + 4) 0), .int .i64 (la.getD (9 * b + 5) 0), .int .i64 (la.getD (9 * b + 6) 0), .int .i64 (la.getD (9 * b + 7) 0), .int .i64 (la.getD (9 * b + 8) 0)] (show 9 = Nat.min (n1 - 9 * b) 9 from (Nat.min_eq_right (by omega)).symm) (fun j v hv => ?_) (show 0 + 9 ≤ 9 by decide) (fun v hv => ?_) ?_
  · rw [Addr.add_lit]
    match j, hv with
    | 0, hv => cases hv; exact hc 0 (by decide)
    | 1, hv => cases hv; exact hc 1 (by decide)
    | 2, hv => cases hv; exact hc 2 (by decide)
    | 3, hv => cases hv; exact hc 3 (by decide)
    | 4, hv => cases hv; exact hc 4 (by decide)
    | 5, hv => cases hv; exact hc 5 (by decide)
    | 6, hv => cases hv; exact hc 6 (by decide)
    | 7, hv => cases hv; exact hc 7 (by decide)
    | 8, hv => cases hv; exact hc 8 (by decide)
    | j + 9, hv => simp at hv
  · simp only [List.mem_cons, List.not_mem_nil, or_false] at hv
    rcases hv with rfl | rfl | rfl | rfl | rfl | rfl | rfl | rfl | rfl <;> rfl
  generalize hW : w3.setRow (rP + 1) _ = w4
  have hW' : w3.setRow (rP + 1) #[.int .i64 (la.getD (9 * b + 0) 0), .int .i64 (la.getD (9 * b + 1) 0), .int .i64 (la.getD (9 * b + 2) 0), .int .i64 (la.getD (9 * b + 3) 0), .int .i64 (la.getD (9 * b + 4) 0), .int .i64 (la.getD (9 * b + 5) 0), .int .i64 (la.getD (9 * b + 6) 0), .int .i64 (la.getD (9 * b + 7) 0), .int .i64 (la.getD (9 * b + 8) 0)] = w4 := hW
  have t4 : w4.heap[rP + 1]? = some (.cells #[.int .i64 (la.getD (9 * b + 0) 0), .int .i64 (la.getD (9 * b + 1) 0), .int .i64 (la.getD (9 * b + 2) 0), .int .i64 (la.getD (9 * b + 3) 0), .int .i64 (la.getD (9 * b + 4) 0), .int .i64 (la.getD (9 * b + 5) 0), .int .i64 (la.getD (9 * b + 6) 0), .int .i64 (la.getD (9 * b + 7) 0), .int .i64 (la.getD (9 * b + 8) 0)] 133) := by rw [← hW']; exact setRow_same _ _ _ _ _ t3
  have r4 : w4.heap[rP]? = some (.cells #[.int .i64 0, .int .i64 0, .int .i64 0, .int .i64 0, .int .i64 0, .int .i64 0, .int .i64 0, .int .i64 0, .int .i64 0] 133) := by rw [← hW']; exact (setRow_other _ _ _ _ (by omega)).trans r3
  have HB4 : Hid (Below w.heap.size w w4) := by show Below _ _ _; rw [← hW']; exact below_setRow HB3.out (by have := HS.out; omega) _
  clear hW hW' hc t3 r3 HB3 HR3
  go_wp2_with (first | ((with_reducible refine load_list Try.underlying133 rfl ?_ ?_ ?_ t4 ?_); kernel_rfl; kernel_rfl; kernel_rfl; go_simp) | ((with_reducible refine store_list (cells := #[.int .i64 (la.getD (9 * b + 0) 0), .int .i64 (la.getD (9 * b + 1) 0), .int .i64 (la.getD (9 * b + 2) 0), .int .i64 (la.getD (9 * b + 3) 0), .int .i64 (la.getD (9 * b + 4) 0), .int .i64 (la.getD (9 * b + 5) 0), .int .i64 (la.getD (9 * b + 6) 0), .int .i64 (la.getD (9 * b + 7) 0), .int .i64 (la.getD (9 * b + 8) 0)]) r4 ?_ ?_ ?_ ?_ ?_ ?_); kernel_rfl; kernel_rfl; kernel_rfl; kernel_rfl; kernel_rfl))
  have hr5 := setRow_same w4 rP #[.int .i64 (la.getD (9 * b + 0) 0), .int .i64 (la.getD (9 * b + 1) 0), .int .i64 (la.getD (9 * b + 2) 0), .int .i64 (la.getD (9 * b + 3) 0), .int .i64 (la.getD (9 * b + 4) 0), .int .i64 (la.getD (9 * b + 5) 0), .int .i64 (la.getD (9 * b + 6) 0), .int .i64 (la.getD (9 * b + 7) 0), .int .i64 (la.getD (9 * b + 8) 0)] _ _ r4
  exact bodyPost_ret (v := .agg #[.int .i64 (la.getD (9 * b + 0) 0), .int .i64 (la.getD (9 * b + 1) 0), .int .i64 (la.getD (9 * b + 2) 0), .int .i64 (la.getD (9 * b + 3) 0), .int .i64 (la.getD (9 * b + 4) 0), .int .i64 (la.getD (9 * b + 5) 0), .int .i64 (la.getD (9 * b + 6) 0), .int .i64 (la.getD (9 * b + 7) 0), .int .i64 (la.getD (9 * b + 8) 0)]) (results_cell_row rfl _ _ rP 133 #[.int .i64 (la.getD (9 * b + 0) 0), .int .i64 (la.getD (9 * b + 1) 0), .int .i64 (la.getD (9 * b + 2) 0), .int .i64 (la.getD (9 * b + 3) 0), .int .i64 (la.getD (9 * b + 4) 0), .int .i64 (la.getD (9 * b + 5) 0), .int .i64 (la.getD (9 * b + 6) 0), .int .i64 (la.getD (9 * b + 7) 0), .int .i64 (la.getD (9 * b + 8) 0)] (0, 0) _ rfl hr5 Try.underlying133 rfl (by kernel_rfl)) rfl ⟨rfl, below_setRow HB4.out HS.out _⟩

theorem implTimesOf_at (a1 : Option Addr) (n1 c1 : Nat) (la : List Int) (a2 : Option Addr) (n2 c2 : Nat) (b : Nat) (hb : 9 * b + 9 ≤ n1) (hl : la.length = n1) (h1 : n1 ≤ 3000000) (hc1 : n1 ≤ c1) (x0 x1 x2 x3 x4 x5 x6 x7 x8 : Int) (hx : blkL la b = [x0, x1, x2, x3, x4, x5, x6, x7, x8]) (w : World) (hr : RowI w a1 la) :
    Calls Try.prog 97 #[.agg #[.slice a1 n1 c1, .slice a2 n2 c2], .int .i64 (b : Int)] w (Gives (.agg #[.int .i64 x0, .int .i64 x1, .int .i64 x2, .int .i64 x3, .int .i64 x4, .int .i64 x5, .int .i64 x6, .int .i64 x7, .int .i64 x8]) w) := by
  unfold blkL at hx
  cases hx
  exact implTimesOf_is a1 n1 c1 la a2 n2 c2 b hb hl h1 hc1 w hr

end Go.Proofs.Ythplhjdfajhmpaa

namespace Go.Proofs.Ythplhjdfajhmpaa
open Go.RowKit Go.PlainAid

set_option linter.unusedVariables false

theorem atM_step (B : Int) (t : Tm) (la : List Int) (k x : Int) (m : Nat) (b : Int) (hb : la.getD m 0 = b) (h0 : 0 ≤ b) : atM B t la k x (m + 1) = max (atM B t la k x m) (b + gapR B t (kindI m) (bankI m) k x) := by
  show (if la.getD m 0 < 0 then _ else _) = _
  rw [hb, if_neg (by omega)]

theorem atM_skip (B : Int) (t : Tm) (la : List Int) (k x : Int) (m : Nat) (h0 : la.getD m 0 < 0) : atM B t la k x (m + 1) = atM B t la k x m := if_pos h0

theorem atM_top (B : Int) (t : Tm) (la : List Int) (k x : Int) (h : ∀ i, i < la.length → la.getD i 0 ≤ 1000000) : ∀ m, m ≤ la.length → atM B t la k x m ≤ 1000128
  | 0, _ => by show (0 : Int) ≤ 1000128; decide
  | m + 1, hm => by
    have h1 := atM_top B t la k x h m (by omega)
    have h2 := h m (by omega)
    have h3 := (gapR_range B t (kindI m) (bankI m) k x).2
    unfold atM
    split <;> omega

set_option maxHeartbeats 16000000 in
set_option maxRecDepth 100000 in
theorem specAt_is (t : Tm) (g0 B g2 g3 : Int) (N : Nat) (a1 : Option Addr) (n1 c1 : Nat) (la : List Int) (a2 : Option Addr) (n2 c2 : Nat) (ac : List Int) (k x y z v : Int) (hv : atS B t la ac k x = v) (hto : TimOk t) (hrd : RdOk g0 B g2 g3 N la ac) (hN : bankN g0 B g2 g3 = (N : Int)) (hx : 0 ≤ x ∧ x ≤ 7) (hl1 : la.length = n1) (hl2 : ac.length = n2) (w : World) (hr1 : RowI w a1 la) (hr2 : RowI w a2 ac) :
    Calls Try.prog 71 #[.agg #[.int .i64 g0, .int .i64 B, .int .i64 g2, .int .i64 g3], .agg #[.int .i64 t.rcd, .int .i64 t.rp, .int .i64 t.ras, .int .i64 t.rrds, .int .i64 t.rrdl, .int .i64 t.faw, .int .i64 t.ccds, .int .i64 t.ccdl, .int .i64 t.rtp, .int .i64 t.wr, .int .i64 t.wtrs, .int .i64 t.wtrl, .int .i64 t.rtw, .int .i64 t.rfc, .int .i64 t.cke, .int .i64 t.xp, .int .i64 t.xs], .agg #[.slice a1 n1 c1, .slice a2 n2 c2], .agg #[.int .i64 k, .int .i64 x, .int .i64 y, .int .i64 z]] w (Gives (.int .i64 v) w) := by
  obtain ⟨w1, hw1⟩ : ∃ u, (((w.alloc (.cells #[.int .i64 g0, .int .i64 B, .int .i64 g2, .int .i64 g3] 25)).alloc (.cells #[.int .i64 t.rcd, .int .i64 t.rp, .int .i64 t.ras, .int .i64 t.rrds, .int .i64 t.rrdl, .int .i64 t.faw, .int .i64 t.ccds, .int .i64 t.ccdl, .int .i64 t.rtp, .int .i64 t.wr, .int .i64 t.wtrs, .int .i64 t.wtrl, .int .i64 t.rtw, .int .i64 t.rfc, .int .i64 t.cke, .int .i64 t.xp, .int .i64 t.xs] 27)).alloc (.cells #[.slice a1 n1 c1, .slice a2 n2 c2] 33)).alloc (.cells #[.int .i64 k, .int .i64 x, .int .i64 y, .int .i64 z] 39) = u := ⟨_, rfl⟩
  have HB1 : Hid (Below w.heap.size w w1) := by subst hw1; exact ((((Below.refl _ _).alloc (by simp) _).alloc (by simp) _).alloc (by simp; omega) _).alloc (by simp; omega) _
  have g1 : w1.heap[w.heap.size]? = some (.cells #[.int .i64 g0, .int .i64 B, .int .i64 g2, .int .i64 g3] 25) := by subst hw1; exact box4_0 _ _ _ _ _
  have p1 : w1.heap[w.heap.size + 1]? = some (.cells #[.int .i64 t.rcd, .int .i64 t.rp, .int .i64 t.ras, .int .i64 t.rrds, .int .i64 t.rrdl, .int .i64 t.faw, .int .i64 t.ccds, .int .i64 t.ccdl, .int .i64 t.rtp, .int .i64 t.wr, .int .i64 t.wtrs, .int .i64 t.wtrl, .int .i64 t.rtw, .int .i64 t.rfc, .int .i64 t.cke, .int .i64 t.xp, .int .i64 t.xs] 27) := by subst hw1; exact box4_1 _ _ _ _ _
  have r1 : w1.heap[w.heap.size + 1 + 1]? = some (.cells #[.slice a1 n1 c1, .slice a2 n2 c2] 33) := by subst hw1; exact box4_2 _ _ _ _ _
  have q1 : w1.heap[w.heap.size + 1 + 1 + 1]? = some (.cells #[.int .i64 k, .int .i64 x, .int .i64 y, .int .i64 z] 39) := by subst hw1; exact box4_3 _ _ _ _ _
  have HR1 := Lib.hid (hr1.below HB1.out)
  have HR2 := Lib.hid (hr2.below HB1.out)
  have HL1 := Lib.hid hl1
  have HL2 := Lib.hid hl2
  have HV := Lib.hid hv
  have hr := bankN_range g0 B g2 g3
  have hN8 : N ≤ 8 := by omega
  have HBB : Hid (1 ≤ B ∧ B ≤ 4) := hrd.1.2.1
  have HXX := Lib.hid hx
  have h81 : n1 ≤ 81 := by have := hrd.2.1; omega
  have HLO : Hid (LastOk N la) := hrd.2.2.2.1
  have HAO : Hid (ActsOk ac) := hrd.2.2.2.2
  have hn4 : n2 ≤ 4 := by have := hrd.2.2.1; omega
  have HTOP : Hid (∀ m, m ≤ n1 → 0 ≤ atM B t la k x m ∧ atM B t la k x m ≤ 1000128) := fun m hm => ⟨(atM_le B t la k x m).1, atM_top B t la k x (fun i hi => (hrd.2.2.2.1 i hi).1.2) m (by omega)⟩
  have HFAW : Hid (1 ≤ t.faw ∧ t.faw ≤ 64) := hto.nums.2.2.2.2.2.1
  clear hr1 hr2 hv hl1 hl2 hr hx hrd hN hto
  go_enter Try.func71, Try.ntmps71
  go_wp2_with fail
  go_loopw [9, 10] (fun a i wr => ∃ m : Nat, m ≤ n1 ∧ i = .int .i64 m ∧ a = .int .i64 (atM B t la k x m) ∧ Below w1.heap.size w1 wr) (fun _ i _ => n1 - (intOf i).toNat)
  case atStart => exact ⟨0, Nat.zero_le _, rfl, rfl, Below.refl _ _⟩
  case round =>
    obtain ⟨m, hm, rfl, rfl, hbr⟩ := hrel
    have HBR := Lib.hid hbr
    have HBW : Hid (Below w.heap.size w wr) := HB1.out.trans (hbr.mono HB1.out.size)
    have gr := keep_block hbr g1 (lt_of_block g1)
    have pr := keep_block hbr p1 (lt_of_block p1)
    have rr := keep_block hbr r1 (lt_of_block r1)
    have qr := keep_block hbr q1 (lt_of_block q1)
    clear hbr
    obtain ⟨d0, d1⟩ := cells2 rr
    obtain ⟨M, hM⟩ : ∃ M, atM B t la k x m = M := ⟨_, rfl⟩
    rw [hM]
    by_cases hlt : m < n1
    · obtain ⟨bb, off, rfl, hs⟩ := (HR1.out.below HBR.out).at (k := m) (by rw [HL1.out]; exact hlt)
      have HLM := Lib.hid (HLO.out m (by rw [HL1.out]; exact hlt))
      obtain ⟨b, hb⟩ : ∃ b, la.getD m 0 = b := ⟨_, rfl⟩
      have HBV := Lib.hid hb
      rw [hb] at hs HLM
      by_cases hneg : b < 0
      case pos =>
        have tn : decide (b < 0) = true := decide_eq_true hneg
        have HST : Hid (atM B t la k x (m + 1) = M) := by show _ = _; rw [atM_skip B t la k x m (by omega), hM]
        clear hb hM
        go_wp2_with fail
        go_roundw
        case rel => exact ⟨m + 1, by omega, by go_num, by rw [HST.out], HBR.out⟩
        case measure => simp [intOf]; omega
      have tn : decide (b < 0) = false := decide_eq_false hneg
      have HST := Lib.hid (atM_step B t la k x m b hb (by omega))
      have HMM := Lib.hid (HTOP.out m hm)
      rw [hM] at HST HMM
      obtain ⟨r, hr⟩ : ∃ r, m % 9 = r := ⟨_, rfl⟩
      obtain ⟨q, hq⟩ : ∃ q, m / 9 = q := ⟨_, rfl⟩
      have f1 : (m : Int).tmod 9 = (r : Int) := by rw [Int.tmod_eq_emod_of_nonneg (by omega)]; omega
      have f2 : (m : Int).tdiv 9 = (q : Int) := by rw [Int.tdiv_eq_ediv_of_nonneg (by omega)]; omega
      have r8 : r ≤ 8 := by omega
      have q9 : q ≤ 9 := by omega
      have f3 : IntKind.i64.wrap (r : Int) = (r : Int) := IntWalk.i64_in _ (by omega)
      have f4 : IntKind.i64.wrap (q : Int) = (q : Int) := IntWalk.i64_in _ (by omega)
      have f5 : IntKind.i64.wrap ((r : Int) + 1) = (r : Int) + 1 := IntWalk.i64_in _ (by omega)
      have HKI : Hid (kindI m = (r : Int) + 1) := by show _ = _; unfold kindI; rw [hr]; simp
      have hused : (decide (r + 1 ≤ 5) == decide (q < N)) = true := by
        have h1 := HLM.out.2.resolve_right (by omega)
        unfold usedI at h1
        rw [hr, hq] at h1
        exact h1
      have HBI : Hid (bankI m = if r + 1 ≤ 5 then (q : Int) else 0) := by show _ = _; unfold bankI; rw [hr, hq]
      obtain ⟨X, hX⟩ : ∃ X, bankI m = X := ⟨_, rfl⟩
      obtain ⟨G, hG⟩ : ∃ G, gapR B t ((r : Int) + 1) X k x = G := ⟨_, rfl⟩
      have hGr := gapR_range B t ((r : Int) + 1) X k x
      have HG := Lib.hid hG
      rw [HKI.out, hX, hG] at HST
      rw [hX] at HBI
      rw [hG] at hGr
      have HBN := Lib.hid HLM.out.1
      have hb6 : b ≤ 1000000 := HLM.out.1.2
      have f6 : IntKind.i64.wrap (b + G) = b + G := IntWalk.i64_in _ (by omega)
      clear hb hM hr hq hX hG HLM
      by_cases h5 : r + 1 ≤ 5
      case pos =>
        obtain rfl : X = (q : Int) := by rw [HBI.out, if_pos h5]
        have hq8 : q < N := by rw [decide_eq_true h5] at hused; simpa using hused
        have HQ7 : Hid (0 ≤ (q : Int) ∧ (q : Int) ≤ 7) := by show _ ∧ _; omega
        have t5 : decide ((r : Int) + 1 ≤ 5) = true := decide_eq_true (by omega)
        clear hused HBI HKI h5
        have hbn : Below wr.heap.size wr (wr.alloc (.cells #[.int .i64 ((r : Int) + 1), .int .i64 (q : Int), .int .i64 0, .int .i64 0] 39)) := (Below.refl _ _).alloc (Nat.le_refl _) _
        have ST : Hid ((wr.alloc (.cells #[.int .i64 ((r : Int) + 1), .int .i64 (q : Int), .int .i64 0, .int .i64 0] 39)).heap[wr.heap.size]? = some (.cells #[.int .i64 ((r : Int) + 1), .int .i64 (q : Int), .int .i64 0, .int .i64 0] 39) ∧ (wr.alloc (.cells #[.int .i64 ((r : Int) + 1), .int .i64 (q : Int), .int .i64 0, .int .i64 0] 39)).heap[w.heap.size]? = some (.cells #[.int .i64 g0, .int .i64 B, .int .i64 g2, .int .i64 g3] 25) ∧ (wr.alloc (.cells #[.int .i64 ((r : Int) + 1), .int .i64 (q : Int), .int .i64 0, .int .i64 0] 39)).heap[w.heap.size + 1]? = some (.cells #[.int .i64 t.rcd, .int .i64 t.rp, .int .i64 t.ras, .int .i64 t.rrds, .int .i64 t.rrdl, .int .i64 t.faw, .int .i64 t.ccds, .int .i64 t.ccdl, .int .i64 t.rtp, .int .i64 t.wr, .int .i64 t.wtrs, .int .i64 t.wtrl, .int .i64 t.rtw, .int .i64 t.rfc, .int .i64 t.cke, .int .i64 t.xp, .int .i64 t.xs] 27) ∧ (wr.alloc (.cells #[.int .i64 ((r : Int) + 1), .int .i64 (q : Int), .int .i64 0, .int .i64 0] 39)).heap[w.heap.size + 1 + 1]? = some (.cells #[.slice (some ⟨bb, off, none⟩) n1 c1, .slice a2 n2 c2] 33) ∧ (wr.alloc (.cells #[.int .i64 ((r : Int) + 1), .int .i64 (q : Int), .int .i64 0, .int .i64 0] 39)).heap[w.heap.size + 1 + 1 + 1]? = some (.cells #[.int .i64 k, .int .i64 x, .int .i64 y, .int .i64 z] 39) ∧ (wr.alloc (.cells #[.int .i64 ((r : Int) + 1), .int .i64 (q : Int), .int .i64 0, .int .i64 0] 39)).cell? ⟨bb, off + m, none⟩ = some (.int .i64 b) ∧ Below w1.heap.size w1 (wr.alloc (.cells #[.int .i64 ((r : Int) + 1), .int .i64 (q : Int), .int .i64 0, .int .i64 0] 39))) :=
          ⟨heap_alloc_new _ _, keep_block hbn gr (lt_of_block gr), keep_block hbn pr (lt_of_block pr), keep_block hbn rr (lt_of_block rr), keep_block hbn qr (lt_of_block qr), hbn.cell (World.block_lt_of_cell? _ _ hs) |>.trans hs, HBR.out.trans (hbn.mono HBR.out.size)⟩
        clear hbn
        go_wp2_with fail
        generalize wr.alloc (.cells #[.int .i64 ((r : Int) + 1), .int .i64 (q : Int), .int .i64 0, .int .i64 0] 39) = wn at ST ⊢
        obtain ⟨en, gn, pn, rn, qn, hsn, hbn2⟩ := ST.out
        have HBN2 := Lib.hid hbn2
        obtain ⟨c0, c1', c2', c3⟩ := cells4 gn
        obtain ⟨e0, e1, e2, e3⟩ := cells4 en
        obtain ⟨k0, k1, k2, k3⟩ := cells4 qn
        obtain ⟨b0, b1⟩ := cells2 rn
        have zg0 := fun u : Later wn => u.cell c0
        have zg1 := fun u : Later wn => u.cell c1'
        have zg2 := fun u : Later wn => u.cell c2'
        have zg3 := fun u : Later wn => u.cell c3
        have ze0 := fun u : Later wn => u.cell e0
        have ze1 := fun u : Later wn => u.cell e1
        have ze2 := fun u : Later wn => u.cell e2
        have ze3 := fun u : Later wn => u.cell e3
        have zk0 := fun u : Later wn => u.cell k0
        have zk1 := fun u : Later wn => u.cell k1
        have zk2 := fun u : Later wn => u.cell k2
        have zk3 := fun u : Later wn => u.cell k3
        have zr0 := fun u : Later wn => u.cell b0
        have zr1 := fun u : Later wn => u.cell b1
        have zs := fun u : Later wn => u.cell hsn
        clear ST hbn2 gn rn qn en c0 c1' c2' c3 e0 e1 e2 e3 k0 k1 k2 k3 b0 b1 hsn gr pr rr qr
        by_cases hmx : M < b + G
        all_goals
          refine wp_region_later (by kernel_rfl) (by kernel_rfl) ?_
          repeat (first | ((with_reducible refine ld_later ?_ ?_ pn ?_); kernel_rfl; kernel_rfl; go_simp) | go_big_quiet_step ((go_at_call 89; exact Gives.later _ (specL07Gap_is t g0 B g2 g3 ((r : Int) + 1) (q : Int) 0 0 k x y z HBB.out HQ7.out HXX.out G HG.out _))))
          refine wpQuiet_nil ?_
          intro zz
          have HB6 : Hid (Below w1.heap.size w1 zz.to) := HBN2.out.trans (zz.ok.mono HBN2.out.size)
          clear zg0 zg1 zg2 zg3 ze0 ze1 ze2 ze3 zk0 zk1 zk2 zk3 zr0 zr1 zs
          go_wp2_with fail
          go_roundw
          case rel => exact ⟨m + 1, by omega, by go_num, by rw [HST.out]; congr 1; omega, HB6.out⟩
          case measure => simp [intOf]; omega
      case neg =>
        obtain rfl : X = 0 := by rw [HBI.out, if_neg h5]
        have HQ7 : Hid (0 ≤ (0 : Int) ∧ (0 : Int) ≤ 7) := by show _ ∧ _; omega
        have t5 : decide ((r : Int) + 1 ≤ 5) = false := decide_eq_false (by omega)
        clear hused HBI HKI h5
        have hbn : Below wr.heap.size wr (wr.alloc (.cells #[.int .i64 ((r : Int) + 1), .int .i64 0, .int .i64 0, .int .i64 0] 39)) := (Below.refl _ _).alloc (Nat.le_refl _) _
        have ST : Hid ((wr.alloc (.cells #[.int .i64 ((r : Int) + 1), .int .i64 0, .int .i64 0, .int .i64 0] 39)).heap[wr.heap.size]? = some (.cells #[.int .i64 ((r : Int) + 1), .int .i64 0, .int .i64 0, .int .i64 0] 39) ∧ (wr.alloc (.cells #[.int .i64 ((r : Int) + 1), .int .i64 0, .int .i64 0, .int .i64 0] 39)).heap[w.heap.size]? = some (.cells #[.int .i64 g0, .int .i64 B, .int .i64 g2, .int .i64 g3] 25) ∧ (wr.alloc (.cells #[.int .i64 ((r : Int) + 1), .int .i64 0, .int .i64 0, .int .i64 0] 39)).heap[w.heap.size + 1]? = some (.cells #[.int .i64 t.rcd, .int .i64 t.rp, .int .i64 t.ras, .int .i64 t.rrds, .int .i64 t.rrdl, .int .i64 t.faw, .int .i64 t.ccds, .int .i64 t.ccdl, .int .i64 t.rtp, .int .i64 t.wr, .int .i64 t.wtrs, .int .i64 t.wtrl, .int .i64 t.rtw, .int .i64 t.rfc, .int .i64 t.cke, .int .i64 t.xp, .int .i64 t.xs] 27) ∧ (wr.alloc (.cells #[.int .i64 ((r : Int) + 1), .int .i64 0, .int .i64 0, .int .i64 0] 39)).heap[w.heap.size + 1 + 1]? = some (.cells #[.slice (some ⟨bb, off, none⟩) n1 c1, .slice a2 n2 c2] 33) ∧ (wr.alloc (.cells #[.int .i64 ((r : Int) + 1), .int .i64 0, .int .i64 0, .int .i64 0] 39)).heap[w.heap.size + 1 + 1 + 1]? = some (.cells #[.int .i64 k, .int .i64 x, .int .i64 y, .int .i64 z] 39) ∧ (wr.alloc (.cells #[.int .i64 ((r : Int) + 1), .int .i64 0, .int .i64 0, .int .i64 0] 39)).cell? ⟨bb, off + m, none⟩ = some (.int .i64 b) ∧ Below w1.heap.size w1 (wr.alloc (.cells #[.int .i64 ((r : Int) + 1), .int .i64 0, .int .i64 0, .int .i64 0] 39))) :=
          ⟨heap_alloc_new _ _, keep_block hbn gr (lt_of_block gr), keep_block hbn pr (lt_of_block pr), keep_block hbn rr (lt_of_block rr), keep_block hbn qr (lt_of_block qr), hbn.cell (World.block_lt_of_cell? _ _ hs) |>.trans hs, HBR.out.trans (hbn.mono HBR.out.size)⟩
        clear hbn
        go_wp2_with fail
        generalize wr.alloc (.cells #[.int .i64 ((r : Int) + 1), .int .i64 0, .int .i64 0, .int .i64 0] 39) = wn at ST ⊢
        obtain ⟨en, gn, pn, rn, qn, hsn, hbn2⟩ := ST.out
        have HBN2 := Lib.hid hbn2
        obtain ⟨c0, c1', c2', c3⟩ := cells4 gn
        obtain ⟨e0, e1, e2, e3⟩ := cells4 en
        obtain ⟨k0, k1, k2, k3⟩ := cells4 qn
        obtain ⟨b0, b1⟩ := cells2 rn
        have zg0 := fun u : Later wn => u.cell c0
        have zg1 := fun u : Later wn => u.cell c1'
        have zg2 := fun u : Later wn => u.cell c2'
        have zg3 := fun u : Later wn => u.cell c3
        have ze0 := fun u : Later wn => u.cell e0
        have ze1 := fun u : Later wn => u.cell e1
        have ze2 := fun u : Later wn => u.cell e2
        have ze3 := fun u : Later wn => u.cell e3
        have zk0 := fun u : Later wn => u.cell k0
        have zk1 := fun u : Later wn => u.cell k1
        have zk2 := fun u : Later wn => u.cell k2
        have zk3 := fun u : Later wn => u.cell k3
        have zr0 := fun u : Later wn => u.cell b0
        have zr1 := fun u : Later wn => u.cell b1
        have zs := fun u : Later wn => u.cell hsn
        clear ST hbn2 gn rn qn en c0 c1' c2' c3 e0 e1 e2 e3 k0 k1 k2 k3 b0 b1 hsn gr pr rr qr
        by_cases hmx : M < b + G
        all_goals
          refine wp_region_later (by kernel_rfl) (by kernel_rfl) ?_
          repeat (first | ((with_reducible refine ld_later ?_ ?_ pn ?_); kernel_rfl; kernel_rfl; go_simp) | go_big_quiet_step ((go_at_call 89; exact Gives.later _ (specL07Gap_is t g0 B g2 g3 ((r : Int) + 1) 0 0 0 k x y z HBB.out HQ7.out HXX.out G HG.out _))))
          refine wpQuiet_nil ?_
          intro zz
          have HB6 : Hid (Below w1.heap.size w1 zz.to) := HBN2.out.trans (zz.ok.mono HBN2.out.size)
          clear zg0 zg1 zg2 zg3 ze0 ze1 ze2 ze3 zk0 zk1 zk2 zk3 zr0 zr1 zs
          go_wp2_with fail
          go_roundw
          case rel => exact ⟨m + 1, by omega, by go_num, by rw [HST.out]; congr 1; omega, HB6.out⟩
          case measure => simp [intOf]; omega
    obtain rfl : m = n1 := by omega
    have HMM := Lib.hid (HTOP.out m hm)
    rw [hM] at HMM
    have HMA : Hid (atM B t la k x la.length = M) := by show _ = _; rw [HL1.out]; exact hM
    obtain ⟨k0, k1, k2, k3⟩ := cells4 qr
    clear hM hlt
    by_cases hk : k = 1
    case neg =>
      have HE : Hid (v = M) := by show _ = _; rw [← HV.out]; unfold atS; rw [if_neg (fun h => hk h.1), HMA.out]
      have tk : (k == 1) = false := by simp [hk]
      clear hk
      go_wp2_with fail
      go_ret
      exact ⟨ret_i (by rw [HE.out]), HBW.out⟩
    subst hk
    by_cases h4 : n2 = 4
    case neg =>
      have HE : Hid (v = M) := by show _ = _; rw [← HV.out]; unfold atS; rw [if_neg (fun h => h4 (by rw [← HL2.out]; exact h.2)), HMA.out]
      have t4 : ((n2 : Int) == 4) = false := by simp; omega
      clear h4
      go_wp2_with fail
      go_ret
      exact ⟨ret_i (by rw [HE.out]), HBW.out⟩
    obtain ⟨bb, off, rfl, hs⟩ := (HR2.out.below HBR.out).at (k := 0) (by rw [HL2.out]; omega)
    obtain ⟨b, hb⟩ : ∃ b, ac.getD 0 0 = b := ⟨_, rfl⟩
    rw [hb] at hs
    have hbr2 := (HAO.out 0 (by rw [HL2.out]; omega)).1
    rw [hb] at hbr2
    have hf := HFAW.out
    have HE : Hid (v = max M (b + t.faw)) := by show _ = _; rw [← HV.out]; unfold atS; rw [if_pos ⟨rfl, by rw [HL2.out]; exact h4⟩, HMA.out, hb]
    have t4 : ((n2 : Int) == 4) = true := by simp; omega
    obtain ⟨W, hW⟩ : ∃ W, t.faw = W := ⟨_, rfl⟩
    have f6 : IntKind.i64.wrap (b + W) = b + W := IntWalk.i64_in _ (by omega)
    have hn2 : 0 < n2 := by omega
    rw [hW] at HE
    obtain ⟨tf⟩ : Nonempty (wr.cell? ⟨w.heap.size + 1, 5, none⟩ = some (.int .i64 W)) := ⟨by rw [← hW]; simp [World.cell?, pr]⟩
    have zr0 := fun u : Later wr => u.cell d0
    have zr1 := fun u : Later wr => u.cell d1
    have zf := fun u : Later wr => u.cell tf
    rw [Nat.add_zero] at hs
    have zs := fun u : Later wr => u.cell hs
    have hn3 : (0 : Int) < (n2 : Int) := by omega
    have t6 : decide ((0 : Int) < (n2 : Int)) = true := decide_eq_true hn3
    have t7 : decide (0 < n2) = true := decide_eq_true hn2
    clear hb h4 hW hf hbr2
    by_cases hmx : M < b + W
    all_goals
      go_wp2_with fail
      refine wp_region_later (by kernel_rfl) (by kernel_rfl) ?_
      repeat (go_big_quiet_step (fail))
      refine wpQuiet_nil ?_
      rintro w5 ⟨zz, rfl⟩
      have HB5 : Hid (Below w.heap.size w zz.to) := HBW.out.trans (zz.ok.mono HBW.out.size)
      go_wp2
      go_ret
      exact ⟨ret_i (by rw [HE.out]; omega), HB5.out⟩

set_option maxHeartbeats 16000000 in
set_option maxRecDepth 100000 in
theorem specReadyAt_is (t : Tm) (g0 B g2 g3 : Int) (N : Nat) (hN : bankN g0 B g2 g3 = (N : Int)) (a1 : Option Addr) (n1 c1 : Nat) (la : List Int) (a2 : Option Addr) (n2 c2 : Nat) (ac : List Int) (k x y z v : Int) (hv : atV g0 B g2 g3 t N la ac k x y z = v) (hl1 : la.length = n1) (h1 : n1 ≤ 4000000) (hl2 : ac.length = n2) (h2 : n2 ≤ 4000000) (w : World) (hr1 : RowI w a1 la) (hr2 : RowI w a2 ac) :
    Calls Try.prog 36 #[.agg #[.int .i64 g0, .int .i64 B, .int .i64 g2, .int .i64 g3], .agg #[.int .i64 t.rcd, .int .i64 t.rp, .int .i64 t.ras, .int .i64 t.rrds, .int .i64 t.rrdl, .int .i64 t.faw, .int .i64 t.ccds, .int .i64 t.ccdl, .int .i64 t.rtp, .int .i64 t.wr, .int .i64 t.wtrs, .int .i64 t.wtrl, .int .i64 t.rtw, .int .i64 t.rfc, .int .i64 t.cke, .int .i64 t.xp, .int .i64 t.xs], .agg #[.slice a1 n1 c1, .slice a2 n2 c2], .agg #[.int .i64 k, .int .i64 x, .int .i64 y, .int .i64 z]] w (Gives (.int .i64 v) w) := by
  obtain ⟨w1, hw1⟩ : ∃ u, (((w.alloc (.cells #[.int .i64 g0, .int .i64 B, .int .i64 g2, .int .i64 g3] 25)).alloc (.cells #[.int .i64 t.rcd, .int .i64 t.rp, .int .i64 t.ras, .int .i64 t.rrds, .int .i64 t.rrdl, .int .i64 t.faw, .int .i64 t.ccds, .int .i64 t.ccdl, .int .i64 t.rtp, .int .i64 t.wr, .int .i64 t.wtrs, .int .i64 t.wtrl, .int .i64 t.rtw, .int .i64 t.rfc, .int .i64 t.cke, .int .i64 t.xp, .int .i64 t.xs] 27)).alloc (.cells #[.slice a1 n1 c1, .slice a2 n2 c2] 33)).alloc (.cells #[.int .i64 k, .int .i64 x, .int .i64 y, .int .i64 z] 39) = u := ⟨_, rfl⟩
  have HB1 : Hid (Below w.heap.size w w1) := by subst hw1; exact ((((Below.refl _ _).alloc (by simp) _).alloc (by simp) _).alloc (by simp; omega) _).alloc (by simp; omega) _
  have g1 : w1.heap[w.heap.size]? = some (.cells #[.int .i64 g0, .int .i64 B, .int .i64 g2, .int .i64 g3] 25) := by subst hw1; exact box4_0 _ _ _ _ _
  have p1 : w1.heap[w.heap.size + 1]? = some (.cells #[.int .i64 t.rcd, .int .i64 t.rp, .int .i64 t.ras, .int .i64 t.rrds, .int .i64 t.rrdl, .int .i64 t.faw, .int .i64 t.ccds, .int .i64 t.ccdl, .int .i64 t.rtp, .int .i64 t.wr, .int .i64 t.wtrs, .int .i64 t.wtrl, .int .i64 t.rtw, .int .i64 t.rfc, .int .i64 t.cke, .int .i64 t.xp, .int .i64 t.xs] 27) := by subst hw1; exact box4_1 _ _ _ _ _
  have r1 : w1.heap[w.heap.size + 1 + 1]? = some (.cells #[.slice a1 n1 c1, .slice a2 n2 c2] 33) := by subst hw1; exact box4_2 _ _ _ _ _
  have q1 : w1.heap[w.heap.size + 1 + 1 + 1]? = some (.cells #[.int .i64 k, .int .i64 x, .int .i64 y, .int .i64 z] 39) := by subst hw1; exact box4_3 _ _ _ _ _
  have HR1 := Lib.hid (hr1.below HB1.out)
  have HR2 := Lib.hid (hr2.below HB1.out)
  have HL1 := Lib.hid hl1
  have HL2 := Lib.hid hl2
  have HV := Lib.hid hv
  have HN := Lib.hid hN
  have BAD : Hid (¬ (TimOk t ∧ RdOk g0 B g2 g3 N la ac ∧ CmOk k x y z ∧ AdOk g0 B g2 g3 x y z) → v = -1) := fun h => by
    rw [← HV.out]
    exact if_neg (fun h2 => h h2.1)
  clear hr1 hr2 hv hl1 hl2 hN
  by_cases hT : TimOk t
  case neg =>
    have HE : Hid (v = -1) := BAD.out (fun h => hT h.1)
    have KT := Lib.hid (decide_eq_false hT)
    clear hT
    go_enter Try.func36, Try.ntmps36
    go_wp2_with (first | ((with_reducible refine ld_tm ?_ ?_ p1 ?_); kernel_rfl; kernel_rfl; go_simp))
    refine (specTimOk_is t _ KT.out _).mono ?_
    rintro e w2 ⟨rfl, hb2⟩
    have g2' := keep_block hb2 g1 (lt_of_block g1)
    have p2 := keep_block hb2 p1 (lt_of_block p1)
    have r2 := keep_block hb2 r1 (lt_of_block r1)
    have q2 := keep_block hb2 q1 (lt_of_block q1)
    have HB2 : Hid (Below w.heap.size w w2) := HB1.out.trans (hb2.mono HB1.out.size)
    have HA2 := Lib.hid (HR1.out.below hb2)
    have HC2 := Lib.hid (HR2.out.below hb2)
    clear hb2
    go_wp2
    go_ret
    exact ⟨ret_i (by rw [HE.out]), HB2.out⟩
  have KT := Lib.hid (decide_eq_true hT)
  by_cases hR : RdOk g0 B g2 g3 N la ac
  case neg =>
    have HE : Hid (v = -1) := BAD.out (fun h => hR h.2.1)
    have KR := Lib.hid (decide_eq_false hR)
    clear hT hR
    go_enter Try.func36, Try.ntmps36
    go_wp2_with (first | ((with_reducible refine ld_tm ?_ ?_ p1 ?_); kernel_rfl; kernel_rfl; go_simp))
    refine (specTimOk_is t _ KT.out _).mono ?_
    rintro e w2 ⟨rfl, hb2⟩
    have g2' := keep_block hb2 g1 (lt_of_block g1)
    have p2 := keep_block hb2 p1 (lt_of_block p1)
    have r2 := keep_block hb2 r1 (lt_of_block r1)
    have q2 := keep_block hb2 q1 (lt_of_block q1)
    have HB2 : Hid (Below w.heap.size w w2) := HB1.out.trans (hb2.mono HB1.out.size)
    have HA2 := Lib.hid (HR1.out.below hb2)
    have HC2 := Lib.hid (HR2.out.below hb2)
    clear hb2
    obtain ⟨c0, c1', c2', c3⟩ := cells4 g2'
    obtain ⟨d0, d1⟩ := cells2 r2
    go_wp2_with fail
    refine (specReadyOk_is g0 B g2 g3 N HN.out a1 n1 c1 la a2 n2 c2 ac _ KR.out HL1.out h1 HL2.out h2 _ HA2.out HC2.out).mono ?_
    rintro e w3 ⟨rfl, hb3⟩
    have g3' := keep_block hb3 g2' (lt_of_block g2')
    have p3 := keep_block hb3 p2 (lt_of_block p2)
    have r3 := keep_block hb3 r2 (lt_of_block r2)
    have q3 := keep_block hb3 q2 (lt_of_block q2)
    have HB3 : Hid (Below w.heap.size w w3) := HB2.out.trans (hb3.mono HB2.out.size)
    have HA3 := Lib.hid (HA2.out.below hb3)
    have HC3 := Lib.hid (HC2.out.below hb3)
    clear hb3 c0 c1' c2' c3 d0 d1
    go_wp2
    go_ret
    exact ⟨ret_i (by rw [HE.out]), HB3.out⟩
  have KR := Lib.hid (decide_eq_true hR)
  by_cases hC : CmOk k x y z ∧ AdOk g0 B g2 g3 x y z
  case neg =>
    have HE : Hid (v = -1) := BAD.out (fun h => hC h.2.2)
    have KC := Lib.hid (decide_eq_false hC)
    clear hT hR hC
    go_enter Try.func36, Try.ntmps36
    go_wp2_with (first | ((with_reducible refine ld_tm ?_ ?_ p1 ?_); kernel_rfl; kernel_rfl; go_simp))
    refine (specTimOk_is t _ KT.out _).mono ?_
    rintro e w2 ⟨rfl, hb2⟩
    have g2' := keep_block hb2 g1 (lt_of_block g1)
    have p2 := keep_block hb2 p1 (lt_of_block p1)
    have r2 := keep_block hb2 r1 (lt_of_block r1)
    have q2 := keep_block hb2 q1 (lt_of_block q1)
    have HB2 : Hid (Below w.heap.size w w2) := HB1.out.trans (hb2.mono HB1.out.size)
    have HA2 := Lib.hid (HR1.out.below hb2)
    have HC2 := Lib.hid (HR2.out.below hb2)
    clear hb2
    obtain ⟨c0, c1', c2', c3⟩ := cells4 g2'
    obtain ⟨d0, d1⟩ := cells2 r2
    go_wp2_with fail
    refine (specReadyOk_is g0 B g2 g3 N HN.out a1 n1 c1 la a2 n2 c2 ac _ KR.out HL1.out h1 HL2.out h2 _ HA2.out HC2.out).mono ?_
    rintro e w3 ⟨rfl, hb3⟩
    have g3' := keep_block hb3 g2' (lt_of_block g2')
    have p3 := keep_block hb3 p2 (lt_of_block p2)
    have r3 := keep_block hb3 r2 (lt_of_block r2)
    have q3 := keep_block hb3 q2 (lt_of_block q2)
    have HB3 : Hid (Below w.heap.size w w3) := HB2.out.trans (hb3.mono HB2.out.size)
    have HA3 := Lib.hid (HA2.out.below hb3)
    have HC3 := Lib.hid (HC2.out.below hb3)
    clear hb3 c0 c1' c2' c3 d0 d1
    obtain ⟨c0, c1', c2', c3⟩ := cells4 g3'
    obtain ⟨e0, e1, e2, e3⟩ := cells4 q3
    go_wp2_with fail
    refine (specCommandOk_is g0 B g2 g3 k x y z _ KC.out _).mono ?_
    rintro e w4 ⟨rfl, hb4⟩
    have g4' := keep_block hb4 g3' (lt_of_block g3')
    have p4 := keep_block hb4 p3 (lt_of_block p3)
    have r4 := keep_block hb4 r3 (lt_of_block r3)
    have q4 := keep_block hb4 q3 (lt_of_block q3)
    have HB4 : Hid (Below w.heap.size w w4) := HB3.out.trans (hb4.mono HB3.out.size)
    have HA4 := Lib.hid (HA3.out.below hb4)
    have HC4 := Lib.hid (HC3.out.below hb4)
    clear hb4 c0 c1' c2' c3 e0 e1 e2 e3
    go_wp2
    go_ret
    exact ⟨ret_i (by rw [HE.out]), HB4.out⟩
  have KC := Lib.hid (decide_eq_true hC)
  have HTO := Lib.hid hT
  have HRD := Lib.hid hR
  have HXX : Hid (0 ≤ x ∧ x ≤ 7) := by have h3 := ad_bank HN.out hC.2; have := bankN_range g0 B g2 g3; have := HN.out; show _ ∧ _; omega
  obtain ⟨S, hS⟩ : ∃ S, atS B t la ac k x = S := ⟨_, rfl⟩
  have HS := Lib.hid hS
  have HE : Hid (v = if S ≤ 1000000 then S else -1) := by
    show _ = _
    rw [← HV.out, ← hS]
    unfold atV
    by_cases h : atS B t la ac k x ≤ 1000000
    · rw [if_pos ⟨⟨hT, hR, hC⟩, h⟩, if_pos h]
    · rw [if_neg (fun h2 => h h2.2), if_neg h]
  clear hT hR hC hS BAD
  go_enter Try.func36, Try.ntmps36
  go_wp2_with (first | ((with_reducible refine ld_tm ?_ ?_ p1 ?_); kernel_rfl; kernel_rfl; go_simp))
  refine (specTimOk_is t _ KT.out _).mono ?_
  rintro e w2 ⟨rfl, hb2⟩
  have g2' := keep_block hb2 g1 (lt_of_block g1)
  have p2 := keep_block hb2 p1 (lt_of_block p1)
  have r2 := keep_block hb2 r1 (lt_of_block r1)
  have q2 := keep_block hb2 q1 (lt_of_block q1)
  have HB2 : Hid (Below w.heap.size w w2) := HB1.out.trans (hb2.mono HB1.out.size)
  have HA2 := Lib.hid (HR1.out.below hb2)
  have HC2 := Lib.hid (HR2.out.below hb2)
  clear hb2
  obtain ⟨c0, c1', c2', c3⟩ := cells4 g2'
  obtain ⟨d0, d1⟩ := cells2 r2
  go_wp2_with fail
  refine (specReadyOk_is g0 B g2 g3 N HN.out a1 n1 c1 la a2 n2 c2 ac _ KR.out HL1.out h1 HL2.out h2 _ HA2.out HC2.out).mono ?_
  rintro e w3 ⟨rfl, hb3⟩
  have g3' := keep_block hb3 g2' (lt_of_block g2')
  have p3 := keep_block hb3 p2 (lt_of_block p2)
  have r3 := keep_block hb3 r2 (lt_of_block r2)
  have q3 := keep_block hb3 q2 (lt_of_block q2)
  have HB3 : Hid (Below w.heap.size w w3) := HB2.out.trans (hb3.mono HB2.out.size)
  have HA3 := Lib.hid (HA2.out.below hb3)
  have HC3 := Lib.hid (HC2.out.below hb3)
  clear hb3 c0 c1' c2' c3 d0 d1
  obtain ⟨c0, c1', c2', c3⟩ := cells4 g3'
  obtain ⟨e0, e1, e2, e3⟩ := cells4 q3
  go_wp2_with fail
  refine (specCommandOk_is g0 B g2 g3 k x y z _ KC.out _).mono ?_
  rintro e w4 ⟨rfl, hb4⟩
  have g4' := keep_block hb4 g3' (lt_of_block g3')
  have p4 := keep_block hb4 p3 (lt_of_block p3)
  have r4 := keep_block hb4 r3 (lt_of_block r3)
  have q4 := keep_block hb4 q3 (lt_of_block q3)
  have HB4 : Hid (Below w.heap.size w w4) := HB3.out.trans (hb4.mono HB3.out.size)
  have HA4 := Lib.hid (HA3.out.below hb4)
  have HC4 := Lib.hid (HC3.out.below hb4)
  clear hb4 c0 c1' c2' c3 e0 e1 e2 e3
  obtain ⟨c0, c1', c2', c3⟩ := cells4 g4'
  obtain ⟨d0, d1⟩ := cells2 r4
  obtain ⟨e0, e1, e2, e3⟩ := cells4 q4
  go_wp2_with (first | ((with_reducible refine ld_tm ?_ ?_ p4 ?_); kernel_rfl; kernel_rfl; go_simp))
  refine (specAt_is t g0 B g2 g3 N a1 n1 c1 la a2 n2 c2 ac k x y z S HS.out HTO.out HRD.out HN.out HXX.out HL1.out HL2.out _ HA4.out HC4.out).mono ?_
  rintro e w5 ⟨rfl, hb5⟩
  have HB5 : Hid (Below w.heap.size w w5) := HB4.out.trans (hb5.mono HB4.out.size)
  clear hb5 c0 c1' c2' c3 d0 d1 e0 e1 e2 e3
  by_cases hS : S ≤ 1000000
  · have ts : decide ((1000000 : Int) < S) = false := decide_eq_false (by omega)
    rw [if_pos hS] at HE
    clear hS
    go_wp2
    go_ret
    exact ⟨ret_i (by rw [HE.out]), HB5.out⟩
  · have ts : decide ((1000000 : Int) < S) = true := decide_eq_true (by omega)
    rw [if_neg hS] at HE
    clear hS
    go_wp2
    go_ret
    exact ⟨ret_i (by rw [HE.out]), HB5.out⟩

end Go.Proofs.Ythplhjdfajhmpaa

namespace Go.Proofs.Ythplhjdfajhmpaa
open Go.RowKit Go.PlainAid

set_option linter.unusedVariables false

/-- The tail of a row that is read. -/
theorem Kd.Row.drop {α : Type} {k : Kd α} {w : World} {b off : Nat} {l : List α} (h : k.Row w (some ⟨b, off, none⟩) l) (n : Nat) : k.Row w (some ⟨b, off + n * k.K, none⟩) (l.drop n) := by
  by_cases hn : n < l.length
  · obtain ⟨b', off', hb, _⟩ := h.at (i := 0) (by omega)
    cases hb
    refine .inr ⟨b, _, rfl, fun i hi j hj => ?_⟩
    rw [List.length_drop] at hi
    obtain ⟨b', off', hb, hc⟩ := h.at (i := n + i) (by omega)
    cases hb
    have := hc j hj
    rw [Nat.add_mul, ← Nat.add_assoc off] at this
    rw [this, List.getD_eq_getElem?_getD, List.getD_eq_getElem?_getD, List.getElem?_drop]
  · exact .inl (List.drop_of_length_le (by omega))

end Go.Proofs.Ythplhjdfajhmpaa
