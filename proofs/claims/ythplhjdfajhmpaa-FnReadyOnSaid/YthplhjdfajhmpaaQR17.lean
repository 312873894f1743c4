/-
  Texts of one proof, merged: TimC, TimW, TimR, TimG, TrcN, RdyM, RdyX, RdyQ, RdyV, RdyF, TrcX, TrcW, TrcF, TrcV, TrcE, TimD, TrcT.
-/
import Derived.Test.YthplhjdfajhmpaaQR6
import Derived.Test.YthplhjdfajhmpaaQR7
import Derived.Test.YthplhjdfajhmpaaQR8
import Derived.Test.YthplhjdfajhmpaaQR9
import Derived.Test.YthplhjdfajhmpaaQR10
import Derived.Test.YthplhjdfajhmpaaQR11
import Derived.Test.YthplhjdfajhmpaaQR12
import Derived.Test.YthplhjdfajhmpaaQR13
import Derived.Test.YthplhjdfajhmpaaQR14
import Derived.Test.YthplhjdfajhmpaaQR16
import Derived.Great.BuildSlice
import Derived.Laws.CopyOwn
namespace Go.Proofs.Ythplhjdfajhmpaa
open Go.RowKit

set_option linter.unusedVariables false

theorem tm_cells {t : Tm} {w : World} {c : Nat} {ty : TypeId} {fr : Nat × Nat} (h : w.heap[c]? = some (.cells #[.int .i64 t.rcd, .int .i64 t.rp, .int .i64 t.ras, .int .i64 t.rrds, .int .i64 t.rrdl, .int .i64 t.faw, .int .i64 t.ccds, .int .i64 t.ccdl, .int .i64 t.rtp, .int .i64 t.wr, .int .i64 t.wtrs, .int .i64 t.wtrl, .int .i64 t.rtw, .int .i64 t.rfc, .int .i64 t.cke, .int .i64 t.xp, .int .i64 t.xs] ty fr)) :
    w.cell? ⟨c, 0, none⟩ = some (.int .i64 t.rcd) ∧ w.cell? ⟨c, 1, none⟩ = some (.int .i64 t.rp) ∧ w.cell? ⟨c, 2, none⟩ = some (.int .i64 t.ras) ∧ w.cell? ⟨c, 3, none⟩ = some (.int .i64 t.rrds) ∧ w.cell? ⟨c, 4, none⟩ = some (.int .i64 t.rrdl) ∧ w.cell? ⟨c, 5, none⟩ = some (.int .i64 t.faw) ∧ w.cell? ⟨c, 6, none⟩ = some (.int .i64 t.ccds) ∧ w.cell? ⟨c, 7, none⟩ = some (.int .i64 t.ccdl) ∧ w.cell? ⟨c, 8, none⟩ = some (.int .i64 t.rtp) ∧ w.cell? ⟨c, 9, none⟩ = some (.int .i64 t.wr) ∧ w.cell? ⟨c, 10, none⟩ = some (.int .i64 t.wtrs) ∧ w.cell? ⟨c, 11, none⟩ = some (.int .i64 t.wtrl) ∧ w.cell? ⟨c, 12, none⟩ = some (.int .i64 t.rtw) ∧ w.cell? ⟨c, 13, none⟩ = some (.int .i64 t.rfc) ∧ w.cell? ⟨c, 14, none⟩ = some (.int .i64 t.cke) ∧ w.cell? ⟨c, 15, none⟩ = some (.int .i64 t.xp) ∧ w.cell? ⟨c, 16, none⟩ = some (.int .i64 t.xs) := by
  have k : ∀ i, w.cell? ⟨c, i, none⟩ = (#[.int .i64 t.rcd, .int .i64 t.rp, .int .i64 t.ras, .int .i64 t.rrds, .int .i64 t.rrdl, .int .i64 t.faw, .int .i64 t.ccds, .int .i64 t.ccdl, .int .i64 t.rtp, .int .i64 t.wr, .int .i64 t.wtrs, .int .i64 t.wtrl, .int .i64 t.rtw, .int .i64 t.rfc, .int .i64 t.cke, .int .i64 t.xp, .int .i64 t.xs] : Array Value)[i]? := fun i => by simp only [World.cell?, h]; rfl
  exact ⟨k 0, k 1, k 2, k 3, k 4, k 5, k 6, k 7, k 8, k 9, k 10, k 11, k 12, k 13, k 14, k 15, k 16⟩

theorem tm_row {t : Tm} {w : World} {g : Nat} {ty : TypeId} (h : w.heap[g]? = some (.cells #[.int .i64 t.rcd, .int .i64 t.rp, .int .i64 t.ras, .int .i64 t.rrds, .int .i64 t.rrdl, .int .i64 t.faw, .int .i64 t.ccds, .int .i64 t.ccdl, .int .i64 t.rtp, .int .i64 t.wr, .int .i64 t.wtrs, .int .i64 t.wtrl, .int .i64 t.rtw, .int .i64 t.rfc, .int .i64 t.cke, .int .i64 t.xp, .int .i64 t.xs] ty)) (j : Nat) (hj : j < 17) : w.cell? ⟨g, j, none⟩ = some (.int .i64 (t.l.getD j 0)) := by
  obtain ⟨c0, c1, c2, c3, c4, c5, c6, c7, c8, c9, c10, c11, c12, c13, c14, c15, c16⟩ := tm_cells h
  match j, hj with
  | 0, _ => exact c0
  | 1, _ => exact c1
  | 2, _ => exact c2
  | 3, _ => exact c3
  | 4, _ => exact c4
  | 5, _ => exact c5
  | 6, _ => exact c6
  | 7, _ => exact c7
  | 8, _ => exact c8
  | 9, _ => exact c9
  | 10, _ => exact c10
  | 11, _ => exact c11
  | 12, _ => exact c12
  | 13, _ => exact c13
  | 14, _ => exact c14
  | 15, _ => exact c15
  | 16, _ => exact c16
  | n + 17, hn => exact absurd hn (by omega)

theorem tm_all {t : Tm} : (∀ x ∈ t.l, In64 x) ↔ ∀ m, m < 17 → In64 (t.l.getD m 0) := by
  constructor
  · intro h m hm
    have hl : m < t.l.length := hm
    rw [List.getD_eq_getElem?_getD, List.getElem?_eq_getElem hl]
    exact h _ (List.getElem_mem hl)
  · intro h x hx
    obtain ⟨m, hm, rfl⟩ := List.mem_iff_getElem.1 hx
    have := h m hm
    rw [List.getD_eq_getElem?_getD, List.getElem?_eq_getElem hm] at this
    exact this

/-- A load of a whole struct, at the list of a plain region's operations. -/
theorem load_list {P : Program} {ops : Array Oper} {rest : List Oper} {a : Act} {w : World} {Q : Exit → Act → World → Prop} {d : Tmp} {T : TypeId} {x : Operand} {y : TypeId} {p : String} {af : Array Edge} {gd : Option (Nat × Bool)} {c : Nat} {cs : Array Value} {t : TypeId} {fr : Nat × Nat} {ds : TypeDesc}
    (hu : P.underlying T = some ds) (hd : (match ds with | .struct _ | .array _ _ => true | _ => false) = true) (hi : (P.info? T).map (·.size) = some cs.size)
    (hw : Region.wanted ⟨some d, .load T x, y, p, af, gd⟩ (yielded ops a.tmps) = true) (hx : a.eval x = .pointer (some ⟨c, 0, none⟩)) (h : w.heap[c]? = some (.cells cs t fr))
    (k : wpList P ops Q rest (a.put (some d) (.agg cs)) w) : wpList P ops Q (⟨some d, .load T x, y, p, af, gd⟩ :: rest) a w :=
  BigFrame.wpList_want hw fun _ hK => wp_load_row T x rfl c hx t cs fr ds h hu hd hi (hK _ _ k)

/-- A build of a composite value whose cells are named. -/
theorem build_list {P : Program} {ops : Array Oper} {rest : List Oper} {a : Act} {w : World} {Q : Exit → Act → World → Prop} (d : Tmp) {T : TypeId} {parts : Array (Nat × Operand)} {y : TypeId} {p : String} {af : Array Edge} (cells : Array Value)
    (hf : P.built T (parts.map fun (i, x) => (i, a.eval x)).toList = some cells)
    (k : wpList P ops Q rest (a.put (some d) (.agg cells)) w) : wpList P ops Q (⟨some d, .build T parts, y, p, af, none⟩ :: rest) a w :=
  wpList_buildTo rfl T parts rfl (some d) rfl cells hf k

/-- A store of a whole row. -/
theorem store_list {P : Program} {ops : Array Oper} {rest : List Oper} {a : Act} {w : World} {Q : Exit → Act → World → Prop} {T : TypeId} {x v : Operand} {y : TypeId} {p : String} {af : Array Edge} {g : Nat} {cells old : Array Value} {t : TypeId}
    (h : w.heap[g]? = some (.cells old t (0, 0))) (hx : a.eval x = .pointer (some ⟨g, 0, none⟩)) (hy : a.eval v = .agg cells)
    (hi : (P.info? T).map (·.size) = some cells.size) (hold : old.size = cells.size) (h1 : cells.all (·.oneCell') = true)
    (k : wpList P ops Q rest a (w.setRow g cells)) : wpList P ops Q (⟨none, .store T x v, y, p, af, none⟩ :: rest) a w :=
  wpList_store_rowTo rfl T x v rfl rfl g cells hx hy t old h hi hold h1 k

/-- The same in a region that draws its order. -/
theorem load_quiet {P : Program} {ops : Array Oper} {rest : List Oper} {a : Act} {C : World → Prop} {Q : Act → Prop} {d : Tmp} {T : TypeId} {x : Operand} {y : TypeId} {p : String} {af : Array Edge} {gd : Option (Nat × Bool)} {c : Nat} {cs : Array Value} {ds : TypeDesc}
    (hu : P.underlying T = some ds) (hd : (match ds with | .struct _ | .array _ _ => true | _ => false) = true) (hi : (P.info? T).map (·.size) = some cs.size)
    (hw : Region.wanted ⟨some d, .load T x, y, p, af, gd⟩ (yielded ops a.tmps) = true) (hx : a.eval x = .pointer (some ⟨c, 0, none⟩)) (hz : ∀ w, C w → ∃ t fr, w.heap[c]? = some (.cells cs t fr))
    (k : wpQuiet P ops C Q rest (a.put (some d) (.agg cs))) : wpQuiet P ops C Q (⟨some d, .load T x, y, p, af, gd⟩ :: rest) a :=
  BigFrame.wpQuiet_want hw fun _ hK => ⟨_, fun w hw' => by
    obtain ⟨t, fr, h⟩ := hz w hw'
    unfold Oper.quietAt execOp
    simp only [hx, Instr.loadAt, Instr.sureAddr, Sem.run_bind, Sem.run_pure, Result.andThen_ok, run_loadVar_row w c t T cs fr ds h hu hd hi]
    exact ⟨rfl, rfl⟩, hK _ k⟩

theorem ld_later {ops : Array Oper} {rest : List Oper} {a : Act} {w : World} {Q : Act → Prop} {d : Tmp} {x : Operand} {y : TypeId} {p : String} {af : Array Edge} {gd : Option (Nat × Bool)} {c : Nat} {t : Tm} {ty : TypeId} {fr : Nat × Nat}
    (hw : Region.wanted ⟨some d, .load 27 x, y, p, af, gd⟩ (yielded ops a.tmps) = true) (hx : a.eval x = .pointer (some ⟨c, 0, none⟩)) (h : w.heap[c]? = some (.cells #[.int .i64 t.rcd, .int .i64 t.rp, .int .i64 t.ras, .int .i64 t.rrds, .int .i64 t.rrdl, .int .i64 t.faw, .int .i64 t.ccds, .int .i64 t.ccdl, .int .i64 t.rtp, .int .i64 t.wr, .int .i64 t.wtrs, .int .i64 t.wtrl, .int .i64 t.rtw, .int .i64 t.rfc, .int .i64 t.cke, .int .i64 t.xp, .int .i64 t.xs] ty fr))
    (k : wpQuiet Try.prog ops (fun w' => ∃ z : Later w, w' = z.to) Q rest (a.put (some d) (.agg #[.int .i64 t.rcd, .int .i64 t.rp, .int .i64 t.ras, .int .i64 t.rrds, .int .i64 t.rrdl, .int .i64 t.faw, .int .i64 t.ccds, .int .i64 t.ccdl, .int .i64 t.rtp, .int .i64 t.wr, .int .i64 t.wtrs, .int .i64 t.wtrl, .int .i64 t.rtw, .int .i64 t.rfc, .int .i64 t.cke, .int .i64 t.xp, .int .i64 t.xs]))) : wpQuiet Try.prog ops (fun w' => ∃ z : Later w, w' = z.to) Q (⟨some d, .load 27 x, y, p, af, gd⟩ :: rest) a :=
  load_quiet Try.underlying27 rfl (by kernel_rfl) hw hx (fun _ ⟨z, hz⟩ => ⟨ty, fr, hz ▸ z.block h⟩) k

theorem box4_0 (w : World) (A B C D : Obj) : ((((w.alloc A).alloc B).alloc C).alloc D).heap[w.heap.size]? = some A := by
  rw [Below.heap_alloc _ _ _ (by simp <;> omega)]; exact box3_0 w A B C

theorem box4_1 (w : World) (A B C D : Obj) : ((((w.alloc A).alloc B).alloc C).alloc D).heap[w.heap.size + 1]? = some B := by
  rw [Below.heap_alloc _ _ _ (by simp <;> omega)]; exact box3_1 w A B C

theorem box4_2 (w : World) (A B C D : Obj) : ((((w.alloc A).alloc B).alloc C).alloc D).heap[w.heap.size + 1 + 1]? = some C := by
  rw [Below.heap_alloc _ _ _ (by simp)]; exact box3_2 w A B C

theorem box4_3 (w : World) (A B C D : Obj) : ((((w.alloc A).alloc B).alloc C).alloc D).heap[w.heap.size + 1 + 1 + 1]? = some D := by
  have h := box3_2 (w.alloc A) B C D
  rwa [World.size_alloc] at h

theorem ld_tm {ops : Array Oper} {rest : List Oper} {a : Act} {w : World} {Q : Exit → Act → World → Prop} {d : Tmp} {x : Operand} {y : TypeId} {p : String} {af : Array Edge} {gd : Option (Nat × Bool)} {c : Nat} {t : Tm} {ty : TypeId} {fr : Nat × Nat}
    (hw : Region.wanted ⟨some d, .load 27 x, y, p, af, gd⟩ (yielded ops a.tmps) = true) (hx : a.eval x = .pointer (some ⟨c, 0, none⟩)) (h : w.heap[c]? = some (.cells #[.int .i64 t.rcd, .int .i64 t.rp, .int .i64 t.ras, .int .i64 t.rrds, .int .i64 t.rrdl, .int .i64 t.faw, .int .i64 t.ccds, .int .i64 t.ccdl, .int .i64 t.rtp, .int .i64 t.wr, .int .i64 t.wtrs, .int .i64 t.wtrl, .int .i64 t.rtw, .int .i64 t.rfc, .int .i64 t.cke, .int .i64 t.xp, .int .i64 t.xs] ty fr))
    (k : wpList Try.prog ops Q rest (a.put (some d) (.agg #[.int .i64 t.rcd, .int .i64 t.rp, .int .i64 t.ras, .int .i64 t.rrds, .int .i64 t.rrdl, .int .i64 t.faw, .int .i64 t.ccds, .int .i64 t.ccdl, .int .i64 t.rtp, .int .i64 t.wr, .int .i64 t.wtrs, .int .i64 t.wtrl, .int .i64 t.rtw, .int .i64 t.rfc, .int .i64 t.cke, .int .i64 t.xp, .int .i64 t.xs])) w) : wpList Try.prog ops Q (⟨some d, .load 27 x, y, p, af, gd⟩ :: rest) a w :=
  load_list Try.underlying27 rfl (by kernel_rfl) hw hx h k

end Go.Proofs.Ythplhjdfajhmpaa

namespace Go.Proofs.Ythplhjdfajhmpaa
open Go.RowKit

set_option linter.unusedVariables false

theorem specList_is (t : Tm) (w : World) :
    Calls Try.prog 85 #[.agg #[.int .i64 t.rcd, .int .i64 t.rp, .int .i64 t.ras, .int .i64 t.rrds, .int .i64 t.rrdl, .int .i64 t.faw, .int .i64 t.ccds, .int .i64 t.ccdl, .int .i64 t.rtp, .int .i64 t.wr, .int .i64 t.wtrs, .int .i64 t.wtrl, .int .i64 t.rtw, .int .i64 t.rfc, .int .i64 t.cke, .int .i64 t.xp, .int .i64 t.xs]] w fun e w' => ∃ g, e = .returned (.slice (some ⟨g, 0, none⟩) 17 17) ∧ w'.heap[g]? = some (.cells #[.int .i64 t.rcd, .int .i64 t.rp, .int .i64 t.ras, .int .i64 t.rrds, .int .i64 t.rrdl, .int .i64 t.faw, .int .i64 t.ccds, .int .i64 t.ccdl, .int .i64 t.rtp, .int .i64 t.wr, .int .i64 t.wtrs, .int .i64 t.wtrl, .int .i64 t.rtw, .int .i64 t.rfc, .int .i64 t.cke, .int .i64 t.xp, .int .i64 t.xs] 3) ∧ Below w.heap.size w w' := by
  obtain ⟨w1, hw1⟩ : ∃ u, w.alloc (.cells #[.int .i64 t.rcd, .int .i64 t.rp, .int .i64 t.ras, .int .i64 t.rrds, .int .i64 t.rrdl, .int .i64 t.faw, .int .i64 t.ccds, .int .i64 t.ccdl, .int .i64 t.rtp, .int .i64 t.wr, .int .i64 t.wtrs, .int .i64 t.wtrl, .int .i64 t.rtw, .int .i64 t.rfc, .int .i64 t.cke, .int .i64 t.xp, .int .i64 t.xs] 27) = u := ⟨_, rfl⟩
  have HB1 : Hid (Below w.heap.size w w1) := by subst hw1; exact (Below.refl _ _).alloc (Nat.le_refl _) _
  have p1 : w1.heap[w.heap.size]? = some (.cells #[.int .i64 t.rcd, .int .i64 t.rp, .int .i64 t.ras, .int .i64 t.rrds, .int .i64 t.rrdl, .int .i64 t.faw, .int .i64 t.ccds, .int .i64 t.ccdl, .int .i64 t.rtp, .int .i64 t.wr, .int .i64 t.wtrs, .int .i64 t.wtrl, .int .i64 t.rtw, .int .i64 t.rfc, .int .i64 t.cke, .int .i64 t.xp, .int .i64 t.xs] 27) := by subst hw1; exact heap_alloc_new _ _
  obtain ⟨c0, c1, c2, c3, c4, c5, c6, c7, c8, c9, c10, c11, c12, c13, c14, c15, c16⟩ := tm_cells p1
  clear p1
  go_enter Try.func85, Try.ntmps85
  go_wp2
  go_ret
  exact ⟨_, rfl, heap_alloc_new _ _, HB1.out.alloc HB1.out.size _⟩

set_option maxHeartbeats 4000000 in
theorem specTimOk_is (t : Tm) (v : Bool) (hv : decide (TimOk t) = v) (w : World) :
    Calls Try.prog 48 #[.agg #[.int .i64 t.rcd, .int .i64 t.rp, .int .i64 t.ras, .int .i64 t.rrds, .int .i64 t.rrdl, .int .i64 t.faw, .int .i64 t.ccds, .int .i64 t.ccdl, .int .i64 t.rtp, .int .i64 t.wr, .int .i64 t.wtrs, .int .i64 t.wtrl, .int .i64 t.rtw, .int .i64 t.rfc, .int .i64 t.cke, .int .i64 t.xp, .int .i64 t.xs]] w (Gives (.bool v) w) := by
  have HV := Lib.hid hv
  obtain ⟨w1, hw1⟩ : ∃ u, w.alloc (.cells #[.int .i64 t.rcd, .int .i64 t.rp, .int .i64 t.ras, .int .i64 t.rrds, .int .i64 t.rrdl, .int .i64 t.faw, .int .i64 t.ccds, .int .i64 t.ccdl, .int .i64 t.rtp, .int .i64 t.wr, .int .i64 t.wtrs, .int .i64 t.wtrl, .int .i64 t.rtw, .int .i64 t.rfc, .int .i64 t.cke, .int .i64 t.xp, .int .i64 t.xs] 27) = u := ⟨_, rfl⟩
  have HB1 : Hid (Below w.heap.size w w1) := by subst hw1; exact (Below.refl _ _).alloc (Nat.le_refl _) _
  have p1 : w1.heap[w.heap.size]? = some (.cells #[.int .i64 t.rcd, .int .i64 t.rp, .int .i64 t.ras, .int .i64 t.rrds, .int .i64 t.rrdl, .int .i64 t.faw, .int .i64 t.ccds, .int .i64 t.ccdl, .int .i64 t.rtp, .int .i64 t.wr, .int .i64 t.wtrs, .int .i64 t.wtrl, .int .i64 t.rtw, .int .i64 t.rfc, .int .i64 t.cke, .int .i64 t.xp, .int .i64 t.xs] 27) := by subst hw1; exact heap_alloc_new _ _
  clear hv
  go_enter Try.func48, Try.ntmps48
  go_wp2_with (first | ((with_reducible refine ld_tm ?_ ?_ p1 ?_); kernel_rfl; kernel_rfl; go_simp))
  refine (specList_is t _).mono ?_
  rintro e w2 ⟨g, rfl, hg, hb2⟩
  have p2 := keep_block hb2 p1 (lt_of_block p1)
  have HB2 : Hid (Below w.heap.size w w2) := HB1.out.trans (hb2.mono HB1.out.size)
  have ROW := Lib.hid (tm_row hg)
  clear hb2 p1 HB1 hw1 hg
  go_wp2_with fail
  go_loop [4] (fun i => ∃ j : Nat, j ≤ 17 ∧ i = .int .i64 (j : Int) ∧ ∀ m, m < j → In64 (t.l.getD m 0)) (fun i => 18 - (intOf i).toNat)
  case atStart => exact ⟨0, by omega, rfl, fun m hm => absurd hm (Nat.not_lt_zero _)⟩
  case round =>
    obtain ⟨j, hj, rfl, hok⟩ := hrel
    have HOK := Lib.hid hok
    clear hok
    by_cases hlt : j < 17
    · have hI : (j : Int) < 17 := by omega
      have cj := ROW.out j hlt
      obtain ⟨x, hx⟩ : ∃ x, t.l.getD j 0 = x := ⟨_, rfl⟩
      rw [hx] at cj
      have HX := Lib.hid hx
      clear hx
      by_cases hin : In64 x
      · have KI : Hid (decide (1 ≤ x ∧ x ≤ 64) = true) := decide_eq_true hin
        have HOK2 : Hid (∀ m, m < j + 1 → In64 (t.l.getD m 0)) := fun m hm => by
          rcases Nat.lt_succ_iff_lt_or_eq.1 hm with h | h
          · exact HOK.out m h
          · subst h; rw [HX.out]; exact hin
        clear hin
        go_wp2_with fail
        refine (specIn_is _ _ _ _ KI.out _).mono ?_
        rintro e w' ⟨rfl, rfl⟩
        go_wp2
        go_round
        case rel => exact ⟨j + 1, by omega, by go_num, HOK2.out⟩
        case measure => simp [intOf]; omega
      · have KI : Hid (decide (1 ≤ x ∧ x ≤ 64) = false) := decide_eq_false hin
        have HE : Hid (v = false) := by
          show _ = _
          rw [← HV.out]
          exact decide_eq_false fun h => hin (by rw [← HX.out]; exact tm_all.1 h.1 j hlt)
        clear hin
        go_wp2_with fail
        refine (specIn_is _ _ _ _ KI.out _).mono ?_
        rintro e w' ⟨rfl, rfl⟩
        go_wp2
        go_ret
        exact ⟨ret_b HE.out.symm, HB2.out⟩
    · obtain rfl : j = 17 := by omega
      (try rw [show ((17 : Nat) : Int) = 17 from rfl])
      obtain ⟨c0, _, c2, c3, c4, _, c6, c7, _, _, c10, c11, _⟩ := tm_cells p2
      have HE : Hid (v = (decide (t.rcd ≤ t.ras) && (decide (t.rrds ≤ t.rrdl) && (decide (t.ccds ≤ t.ccdl) && decide (t.wtrs ≤ t.wtrl))))) := by
        show _ = _
        rw [← HV.out, Bool.eq_iff_iff]
        simp only [Bool.and_eq_true, decide_eq_true_eq]
        exact ⟨fun h => ⟨h.2.1, h.2.2.1, h.2.2.2.1, h.2.2.2.2⟩, fun h => ⟨tm_all.2 HOK.out, h⟩⟩
      obtain ⟨q0, hq0⟩ : ∃ q, decide (t.rcd ≤ t.ras) = q := ⟨_, rfl⟩
      obtain ⟨q1, hq1⟩ : ∃ q, decide (t.rrds ≤ t.rrdl) = q := ⟨_, rfl⟩
      obtain ⟨q2, hq2⟩ : ∃ q, decide (t.ccds ≤ t.ccdl) = q := ⟨_, rfl⟩
      obtain ⟨q3, hq3⟩ : ∃ q, decide (t.wtrs ≤ t.wtrl) = q := ⟨_, rfl⟩
      rw [hq0, hq1, hq2, hq3] at HE
      clear p2 ROW HOK hj hlt
      cases q0
      · go_wp2
        go_ret
        exact ⟨ret_b HE.out.symm, HB2.out⟩
      cases q1
      · go_wp2
        go_ret
        exact ⟨ret_b HE.out.symm, HB2.out⟩
      cases q2
      · go_wp2
        go_ret
        exact ⟨ret_b HE.out.symm, HB2.out⟩
      go_wp2
      go_ret
      exact ⟨ret_b HE.out.symm, HB2.out⟩

def fastV : Value := .agg #[.int .i64 3, .int .i64 3, .int .i64 7, .int .i64 2, .int .i64 3, .int .i64 10, .int .i64 2, .int .i64 3, .int .i64 3, .int .i64 6, .int .i64 4, .int .i64 5, .int .i64 4, .int .i64 12, .int .i64 3, .int .i64 4, .int .i64 16]

theorem specFast_is (w : World) : Calls Try.prog 104 #[] w (Gives fastV w) := by
  unfold fastV
  have hn := heap_alloc_new w (.cells #[.int .i64 0, .int .i64 0, .int .i64 0, .int .i64 0, .int .i64 0, .int .i64 0, .int .i64 0, .int .i64 0, .int .i64 0, .int .i64 0, .int .i64 0, .int .i64 0, .int .i64 0, .int .i64 0, .int .i64 0, .int .i64 0, .int .i64 0] 27)
  go_enter Try.func104, Try.ntmps104
  go_wp2_with (first | ((with_reducible refine build_list 1 #[.int .i64 3, .int .i64 3, .int .i64 7, .int .i64 2, .int .i64 3, .int .i64 10, .int .i64 2, .int .i64 3, .int .i64 3, .int .i64 6, .int .i64 4, .int .i64 5, .int .i64 4, .int .i64 12, .int .i64 3, .int .i64 4, .int .i64 16] ?_ ?_); kernel_rfl; go_simp) | ((with_reducible refine store_list (cells := #[.int .i64 3, .int .i64 3, .int .i64 7, .int .i64 2, .int .i64 3, .int .i64 10, .int .i64 2, .int .i64 3, .int .i64 3, .int .i64 6, .int .i64 4, .int .i64 5, .int .i64 4, .int .i64 12, .int .i64 3, .int .i64 4, .int .i64 16]) hn ?_ ?_ ?_ ?_ ?_ ?_); kernel_rfl; kernel_rfl; kernel_rfl; kernel_rfl; kernel_rfl))
  have hr := setRow_same _ _ #[.int .i64 3, .int .i64 3, .int .i64 7, .int .i64 2, .int .i64 3, .int .i64 10, .int .i64 2, .int .i64 3, .int .i64 3, .int .i64 6, .int .i64 4, .int .i64 5, .int .i64 4, .int .i64 12, .int .i64 3, .int .i64 4, .int .i64 16] _ _ hn
  refine bodyPost_ret (v := .agg #[.int .i64 3, .int .i64 3, .int .i64 7, .int .i64 2, .int .i64 3, .int .i64 10, .int .i64 2, .int .i64 3, .int .i64 3, .int .i64 6, .int .i64 4, .int .i64 5, .int .i64 4, .int .i64 12, .int .i64 3, .int .i64 4, .int .i64 16]) (results_cell_row rfl _ _ w.heap.size 27 #[.int .i64 3, .int .i64 3, .int .i64 7, .int .i64 2, .int .i64 3, .int .i64 10, .int .i64 2, .int .i64 3, .int .i64 3, .int .i64 6, .int .i64 4, .int .i64 5, .int .i64 4, .int .i64 12, .int .i64 3, .int .i64 4, .int .i64 16] (0, 0) _ rfl hr Try.underlying27 rfl (by kernel_rfl)) rfl ⟨rfl, ?_⟩
  exact below_setRow ((Below.refl _ _).alloc (Nat.le_refl _) _) (Nat.le_refl _) _

set_option maxHeartbeats 16000000 in
theorem specBankGap_is (t : Tm) (a b v : Int) (hv : bankG t a b = v) (w : World) :
    Calls Try.prog 113 #[.agg #[.int .i64 t.rcd, .int .i64 t.rp, .int .i64 t.ras, .int .i64 t.rrds, .int .i64 t.rrdl, .int .i64 t.faw, .int .i64 t.ccds, .int .i64 t.ccdl, .int .i64 t.rtp, .int .i64 t.wr, .int .i64 t.wtrs, .int .i64 t.wtrl, .int .i64 t.rtw, .int .i64 t.rfc, .int .i64 t.cke, .int .i64 t.xp, .int .i64 t.xs], .int .i64 a, .int .i64 b] w (Gives (.int .i64 v) w) := by
  obtain ⟨w1, hw1⟩ : ∃ u, w.alloc (.cells #[.int .i64 t.rcd, .int .i64 t.rp, .int .i64 t.ras, .int .i64 t.rrds, .int .i64 t.rrdl, .int .i64 t.faw, .int .i64 t.ccds, .int .i64 t.ccdl, .int .i64 t.rtp, .int .i64 t.wr, .int .i64 t.wtrs, .int .i64 t.wtrl, .int .i64 t.rtw, .int .i64 t.rfc, .int .i64 t.cke, .int .i64 t.xp, .int .i64 t.xs] 27) = u := ⟨_, rfl⟩
  have HB1 : Hid (Below w.heap.size w w1) := by subst hw1; exact (Below.refl _ _).alloc (Nat.le_refl _) _
  have p1 : w1.heap[w.heap.size]? = some (.cells #[.int .i64 t.rcd, .int .i64 t.rp, .int .i64 t.ras, .int .i64 t.rrds, .int .i64 t.rrdl, .int .i64 t.faw, .int .i64 t.ccds, .int .i64 t.ccdl, .int .i64 t.rtp, .int .i64 t.wr, .int .i64 t.wtrs, .int .i64 t.wtrl, .int .i64 t.rtw, .int .i64 t.rfc, .int .i64 t.cke, .int .i64 t.xp, .int .i64 t.xs] 27) := by subst hw1; exact heap_alloc_new _ _
  by_cases h : TimOk t
  case neg =>
    have K := Lib.hid (decide_eq_false h)
    have HE : Hid (v = 0) := by show _ = _; rw [← hv]; exact if_neg h
    clear hv h
    go_enter Try.func113, Try.ntmps113
    go_wp2_with (first | ((with_reducible refine ld_tm ?_ ?_ p1 ?_); kernel_rfl; kernel_rfl; go_simp))
    refine (specTimOk_is t _ K.out _).mono ?_
    rintro e w2 ⟨rfl, hb2⟩
    have HB2 : Hid (Below w.heap.size w w2) := HB1.out.trans (hb2.mono HB1.out.size)
    clear hb2
    go_wp2
    go_ret
    exact ⟨ret_i HE.out.symm, HB2.out⟩
  have K := Lib.hid (decide_eq_true h)
  have HR : Hid (v = bankR t a b) := by show _ = _; rw [← hv]; exact if_pos h
  obtain ⟨n0, n1, n2, n3, n4, n5, n6, n7, n8, n9, n10, n11, n12, n13, n14, n15, n16⟩ := h.nums
  unfold In64 at *
  have e1 : IntKind.i64.wrap (t.ras + t.rp) = t.ras + t.rp := IntWalk.i64_in _ ⟨by omega, by omega⟩
  have e2 : IntKind.i64.wrap (t.rtp + t.rp) = t.rtp + t.rp := IntWalk.i64_in _ ⟨by omega, by omega⟩
  have e3 : IntKind.i64.wrap (t.wr + t.rp) = t.wr + t.rp := IntWalk.i64_in _ ⟨by omega, by omega⟩
  clear hv h n0 n1 n2 n3 n4 n5 n6 n7 n8 n9 n10 n11 n12 n13 n14 n15 n16
  go_enter Try.func113, Try.ntmps113
  go_wp2_with (first | ((with_reducible refine ld_tm ?_ ?_ p1 ?_); kernel_rfl; kernel_rfl; go_simp))
  refine (specTimOk_is t _ K.out _).mono ?_
  rintro e w2 ⟨rfl, hb2⟩
  have p2 := keep_block hb2 p1 (lt_of_block p1)
  have HB2 : Hid (Below w.heap.size w w2) := HB1.out.trans (hb2.mono HB1.out.size)
  clear hb2 p1 HB1 hw1
  obtain ⟨c0, c1, c2, _, _, _, _, _, c8, c9, _, _, _, c13, _⟩ := tm_cells p2
  clear p2
  rcases (show a = 1 ∨ a = 2 ∨ a = 3 ∨ a = 4 ∨ a = 5 ∨ ¬ (1 ≤ a ∧ a ≤ 5) by omega) with ha | ha | ha | ha | ha | ha
  · subst ha
    rcases (show b = 1 ∨ b = 2 ∨ b = 3 ∨ b = 4 ∨ b = 5 ∨ ¬ (1 ≤ b ∧ b ≤ 5) by omega) with hb | hb | hb | hb | hb | hb
    · subst hb
      have HE : Hid (v = t.ras + t.rp) := by show _ = _; rw [HR.out]; simp [bankR]
      clear HR
      go_wp2
      go_ret
      exact ⟨ret_i HE.out.symm, HB2.out⟩
    · subst hb
      have HE : Hid (v = t.rcd) := by show _ = _; rw [HR.out]; simp [bankR]
      clear HR
      go_wp2
      go_ret
      exact ⟨ret_i HE.out.symm, HB2.out⟩
    · subst hb
      have HE : Hid (v = t.rcd) := by show _ = _; rw [HR.out]; simp [bankR]
      clear HR
      go_wp2
      go_ret
      exact ⟨ret_i HE.out.symm, HB2.out⟩
    · subst hb
      have HE : Hid (v = t.ras) := by show _ = _; rw [HR.out]; simp [bankR]
      clear HR
      go_wp2
      go_ret
      exact ⟨ret_i HE.out.symm, HB2.out⟩
    · subst hb
      have HE : Hid (v = t.ras + t.rp) := by show _ = _; rw [HR.out]; simp [bankR]
      clear HR
      go_wp2
      go_ret
      exact ⟨ret_i HE.out.symm, HB2.out⟩
    · have t1 : ((b : Int) == 1) = false := by simp only [beq_eq_false_iff_ne]; omega
      have t2 : ((b : Int) == 2) = false := by simp only [beq_eq_false_iff_ne]; omega
      have t3 : ((b : Int) == 3) = false := by simp only [beq_eq_false_iff_ne]; omega
      have t4 : ((b : Int) == 4) = false := by simp only [beq_eq_false_iff_ne]; omega
      have t5 : ((b : Int) == 5) = false := by simp only [beq_eq_false_iff_ne]; omega
      have HR0 : Hid (v = 0) := by
        show _ = _
        rw [HR.out]
        unfold bankR
        simp only [show ¬ b = 1 by omega, show ¬ b = 2 by omega, show ¬ b = 3 by omega, show ¬ b = 4 by omega, show ¬ b = 5 by omega, or_self, if_false]
        decide
      clear hb HR
      go_wp2
      go_ret
      exact ⟨ret_i HR0.out.symm, HB2.out⟩
  · subst ha
    rcases (show b = 1 ∨ b = 2 ∨ b = 3 ∨ b = 4 ∨ b = 5 ∨ ¬ (1 ≤ b ∧ b ≤ 5) by omega) with hb | hb | hb | hb | hb | hb
    · subst hb
      have HE : Hid (v = t.rtp + t.rp) := by show _ = _; rw [HR.out]; simp [bankR]
      clear HR
      go_wp2
      go_ret
      exact ⟨ret_i HE.out.symm, HB2.out⟩
    · subst hb
      have HE : Hid (v = 0) := by show _ = _; rw [HR.out]; simp [bankR]
      clear HR
      go_wp2
      go_ret
      exact ⟨ret_i HE.out.symm, HB2.out⟩
    · subst hb
      have HE : Hid (v = 0) := by show _ = _; rw [HR.out]; simp [bankR]
      clear HR
      go_wp2
      go_ret
      exact ⟨ret_i HE.out.symm, HB2.out⟩
    · subst hb
      have HE : Hid (v = t.rtp) := by show _ = _; rw [HR.out]; simp [bankR]
      clear HR
      go_wp2
      go_ret
      exact ⟨ret_i HE.out.symm, HB2.out⟩
    · subst hb
      have HE : Hid (v = t.rtp + t.rp) := by show _ = _; rw [HR.out]; simp [bankR]
      clear HR
      go_wp2
      go_ret
      exact ⟨ret_i HE.out.symm, HB2.out⟩
    · have t1 : ((b : Int) == 1) = false := by simp only [beq_eq_false_iff_ne]; omega
      have t2 : ((b : Int) == 2) = false := by simp only [beq_eq_false_iff_ne]; omega
      have t3 : ((b : Int) == 3) = false := by simp only [beq_eq_false_iff_ne]; omega
      have t4 : ((b : Int) == 4) = false := by simp only [beq_eq_false_iff_ne]; omega
      have t5 : ((b : Int) == 5) = false := by simp only [beq_eq_false_iff_ne]; omega
      have HR0 : Hid (v = 0) := by
        show _ = _
        rw [HR.out]
        unfold bankR
        simp only [show ¬ b = 1 by omega, show ¬ b = 2 by omega, show ¬ b = 3 by omega, show ¬ b = 4 by omega, show ¬ b = 5 by omega, or_self, if_false]
        decide
      clear hb HR
      go_wp2
      go_ret
      exact ⟨ret_i HR0.out.symm, HB2.out⟩
  · subst ha
    rcases (show b = 1 ∨ b = 2 ∨ b = 3 ∨ b = 4 ∨ b = 5 ∨ ¬ (1 ≤ b ∧ b ≤ 5) by omega) with hb | hb | hb | hb | hb | hb
    · subst hb
      have HE : Hid (v = t.wr + t.rp) := by show _ = _; rw [HR.out]; simp [bankR]
      clear HR
      go_wp2
      go_ret
      exact ⟨ret_i HE.out.symm, HB2.out⟩
    · subst hb
      have HE : Hid (v = 0) := by show _ = _; rw [HR.out]; simp [bankR]
      clear HR
      go_wp2
      go_ret
      exact ⟨ret_i HE.out.symm, HB2.out⟩
    · subst hb
      have HE : Hid (v = 0) := by show _ = _; rw [HR.out]; simp [bankR]
      clear HR
      go_wp2
      go_ret
      exact ⟨ret_i HE.out.symm, HB2.out⟩
    · subst hb
      have HE : Hid (v = t.wr) := by show _ = _; rw [HR.out]; simp [bankR]
      clear HR
      go_wp2
      go_ret
      exact ⟨ret_i HE.out.symm, HB2.out⟩
    · subst hb
      have HE : Hid (v = t.wr + t.rp) := by show _ = _; rw [HR.out]; simp [bankR]
      clear HR
      go_wp2
      go_ret
      exact ⟨ret_i HE.out.symm, HB2.out⟩
    · have t1 : ((b : Int) == 1) = false := by simp only [beq_eq_false_iff_ne]; omega
      have t2 : ((b : Int) == 2) = false := by simp only [beq_eq_false_iff_ne]; omega
      have t3 : ((b : Int) == 3) = false := by simp only [beq_eq_false_iff_ne]; omega
      have t4 : ((b : Int) == 4) = false := by simp only [beq_eq_false_iff_ne]; omega
      have t5 : ((b : Int) == 5) = false := by simp only [beq_eq_false_iff_ne]; omega
      have HR0 : Hid (v = 0) := by
        show _ = _
        rw [HR.out]
        unfold bankR
        simp only [show ¬ b = 1 by omega, show ¬ b = 2 by omega, show ¬ b = 3 by omega, show ¬ b = 4 by omega, show ¬ b = 5 by omega, or_self, if_false]
        decide
      clear hb HR
      go_wp2
      go_ret
      exact ⟨ret_i HR0.out.symm, HB2.out⟩
  · subst ha
    rcases (show b = 1 ∨ b = 2 ∨ b = 3 ∨ b = 4 ∨ b = 5 ∨ ¬ (1 ≤ b ∧ b ≤ 5) by omega) with hb | hb | hb | hb | hb | hb
    · subst hb
      have HE : Hid (v = t.rp) := by show _ = _; rw [HR.out]; simp [bankR]
      clear HR
      go_wp2
      go_ret
      exact ⟨ret_i HE.out.symm, HB2.out⟩
    · subst hb
      have HE : Hid (v = 0) := by show _ = _; rw [HR.out]; simp [bankR]
      clear HR
      go_wp2
      go_ret
      exact ⟨ret_i HE.out.symm, HB2.out⟩
    · subst hb
      have HE : Hid (v = 0) := by show _ = _; rw [HR.out]; simp [bankR]
      clear HR
      go_wp2
      go_ret
      exact ⟨ret_i HE.out.symm, HB2.out⟩
    · subst hb
      have HE : Hid (v = 0) := by show _ = _; rw [HR.out]; simp [bankR]
      clear HR
      go_wp2
      go_ret
      exact ⟨ret_i HE.out.symm, HB2.out⟩
    · subst hb
      have HE : Hid (v = t.rp) := by show _ = _; rw [HR.out]; simp [bankR]
      clear HR
      go_wp2
      go_ret
      exact ⟨ret_i HE.out.symm, HB2.out⟩
    · have t1 : ((b : Int) == 1) = false := by simp only [beq_eq_false_iff_ne]; omega
      have t2 : ((b : Int) == 2) = false := by simp only [beq_eq_false_iff_ne]; omega
      have t3 : ((b : Int) == 3) = false := by simp only [beq_eq_false_iff_ne]; omega
      have t4 : ((b : Int) == 4) = false := by simp only [beq_eq_false_iff_ne]; omega
      have t5 : ((b : Int) == 5) = false := by simp only [beq_eq_false_iff_ne]; omega
      have HR0 : Hid (v = 0) := by
        show _ = _
        rw [HR.out]
        unfold bankR
        simp only [show ¬ b = 1 by omega, show ¬ b = 2 by omega, show ¬ b = 3 by omega, show ¬ b = 4 by omega, show ¬ b = 5 by omega, or_self, if_false]
        decide
      clear hb HR
      go_wp2
      go_ret
      exact ⟨ret_i HR0.out.symm, HB2.out⟩
  · subst ha
    rcases (show b = 1 ∨ b = 2 ∨ b = 3 ∨ b = 4 ∨ b = 5 ∨ ¬ (1 ≤ b ∧ b ≤ 5) by omega) with hb | hb | hb | hb | hb | hb
    · subst hb
      have HE : Hid (v = t.rfc) := by show _ = _; rw [HR.out]; simp [bankR]
      clear HR
      go_wp2
      go_ret
      exact ⟨ret_i HE.out.symm, HB2.out⟩
    · subst hb
      have HE : Hid (v = 0) := by show _ = _; rw [HR.out]; simp [bankR]
      clear HR
      go_wp2
      go_ret
      exact ⟨ret_i HE.out.symm, HB2.out⟩
    · subst hb
      have HE : Hid (v = 0) := by show _ = _; rw [HR.out]; simp [bankR]
      clear HR
      go_wp2
      go_ret
      exact ⟨ret_i HE.out.symm, HB2.out⟩
    · subst hb
      have HE : Hid (v = 0) := by show _ = _; rw [HR.out]; simp [bankR]
      clear HR
      go_wp2
      go_ret
      exact ⟨ret_i HE.out.symm, HB2.out⟩
    · subst hb
      have HE : Hid (v = t.rfc) := by show _ = _; rw [HR.out]; simp [bankR]
      clear HR
      go_wp2
      go_ret
      exact ⟨ret_i HE.out.symm, HB2.out⟩
    · have t1 : ((b : Int) == 1) = false := by simp only [beq_eq_false_iff_ne]; omega
      have t2 : ((b : Int) == 2) = false := by simp only [beq_eq_false_iff_ne]; omega
      have t3 : ((b : Int) == 3) = false := by simp only [beq_eq_false_iff_ne]; omega
      have t4 : ((b : Int) == 4) = false := by simp only [beq_eq_false_iff_ne]; omega
      have t5 : ((b : Int) == 5) = false := by simp only [beq_eq_false_iff_ne]; omega
      have HR0 : Hid (v = 0) := by
        show _ = _
        rw [HR.out]
        unfold bankR
        simp only [show ¬ b = 1 by omega, show ¬ b = 2 by omega, show ¬ b = 3 by omega, show ¬ b = 4 by omega, show ¬ b = 5 by omega, or_self, if_false]
        decide
      clear hb HR
      go_wp2
      go_ret
      exact ⟨ret_i HR0.out.symm, HB2.out⟩
  · have s1 : ((a : Int) == 1) = false := by simp only [beq_eq_false_iff_ne]; omega
    have s2 : ((a : Int) == 2) = false := by simp only [beq_eq_false_iff_ne]; omega
    have s3 : ((a : Int) == 3) = false := by simp only [beq_eq_false_iff_ne]; omega
    have s4 : ((a : Int) == 4) = false := by simp only [beq_eq_false_iff_ne]; omega
    have s5 : ((a : Int) == 5) = false := by simp only [beq_eq_false_iff_ne]; omega
    have HE : Hid (v = 0) := by
      show _ = _
      rw [HR.out]
      unfold bankR
      rw [if_neg (by omega), if_neg (by omega), if_neg (by omega), if_neg (by omega), if_neg (by omega)]
    clear ha HR
    by_cases hb : b = 1
    · subst hb
      go_wp2
      go_ret
      exact ⟨ret_i HE.out.symm, HB2.out⟩
    · have t1 : ((b : Int) == 1) = false := by simp only [beq_eq_false_iff_ne]; exact hb
      clear hb
      go_wp2
      go_ret
      exact ⟨ret_i HE.out.symm, HB2.out⟩

theorem specNear_is (n : Bool) (x y v : Int) (hv : nearI n x y = v) (w : World) :
    Calls Try.prog 127 #[.bool n, .int .i64 x, .int .i64 y] w (Says (.int .i64 v) w) := by
  have HV := Lib.hid hv
  clear hv
  cases n
  · go_enter Try.func127, Try.ntmps127
    go_wp2
    go_ret
    exact ⟨ret_i HV.out, rfl⟩
  · go_enter Try.func127, Try.ntmps127
    go_wp2
    go_ret
    exact ⟨ret_i HV.out, rfl⟩

end Go.Proofs.Ythplhjdfajhmpaa

namespace Go.Proofs.Ythplhjdfajhmpaa
open Go.RowKit

set_option linter.unusedVariables false

set_option maxHeartbeats 16000000 in
theorem specRankGap_is (t : Tm) (a b : Int) (n : Bool) (v : Int) (hv : rankG t a b n = v) (w : World) :
    Calls Try.prog 112 #[.agg #[.int .i64 t.rcd, .int .i64 t.rp, .int .i64 t.ras, .int .i64 t.rrds, .int .i64 t.rrdl, .int .i64 t.faw, .int .i64 t.ccds, .int .i64 t.ccdl, .int .i64 t.rtp, .int .i64 t.wr, .int .i64 t.wtrs, .int .i64 t.wtrl, .int .i64 t.rtw, .int .i64 t.rfc, .int .i64 t.cke, .int .i64 t.xp, .int .i64 t.xs], .int .i64 a, .int .i64 b, .bool n] w (Gives (.int .i64 v) w) := by
  obtain ⟨w1, hw1⟩ : ∃ u, w.alloc (.cells #[.int .i64 t.rcd, .int .i64 t.rp, .int .i64 t.ras, .int .i64 t.rrds, .int .i64 t.rrdl, .int .i64 t.faw, .int .i64 t.ccds, .int .i64 t.ccdl, .int .i64 t.rtp, .int .i64 t.wr, .int .i64 t.wtrs, .int .i64 t.wtrl, .int .i64 t.rtw, .int .i64 t.rfc, .int .i64 t.cke, .int .i64 t.xp, .int .i64 t.xs] 27) = u := ⟨_, rfl⟩
  have HB1 : Hid (Below w.heap.size w w1) := by subst hw1; exact (Below.refl _ _).alloc (Nat.le_refl _) _
  have p1 : w1.heap[w.heap.size]? = some (.cells #[.int .i64 t.rcd, .int .i64 t.rp, .int .i64 t.ras, .int .i64 t.rrds, .int .i64 t.rrdl, .int .i64 t.faw, .int .i64 t.ccds, .int .i64 t.ccdl, .int .i64 t.rtp, .int .i64 t.wr, .int .i64 t.wtrs, .int .i64 t.wtrl, .int .i64 t.rtw, .int .i64 t.rfc, .int .i64 t.cke, .int .i64 t.xp, .int .i64 t.xs] 27) := by subst hw1; exact heap_alloc_new _ _
  by_cases h : TimOk t
  case neg =>
    have K := Lib.hid (decide_eq_false h)
    have HE : Hid (v = 0) := by show _ = _; rw [← hv]; exact if_neg (fun hh => h hh.1)
    clear hv h
    go_enter Try.func112, Try.ntmps112
    go_wp2_with (first | ((with_reducible refine ld_tm ?_ ?_ p1 ?_); kernel_rfl; kernel_rfl; go_simp))
    refine (specTimOk_is t _ K.out _).mono ?_
    rintro e w2 ⟨rfl, hb2⟩
    have p2 := keep_block hb2 p1 (lt_of_block p1)
    have HB2 : Hid (Below w.heap.size w w2) := HB1.out.trans (hb2.mono HB1.out.size)
    clear hb2 p1 HB1
    go_wp2
    go_ret
    exact ⟨ret_i HE.out.symm, HB2.out⟩
  have K := Lib.hid (decide_eq_true h)
  by_cases ha : 1 ≤ a ∧ a ≤ 9
  case neg =>
    have KA := Lib.hid (decide_eq_false ha)
    have HE : Hid (v = 0) := by show _ = _; rw [← hv]; exact if_neg (fun hh => ha hh.2.1)
    clear hv h ha
    go_enter Try.func112, Try.ntmps112
    go_wp2_with (first | ((with_reducible refine ld_tm ?_ ?_ p1 ?_); kernel_rfl; kernel_rfl; go_simp))
    refine (specTimOk_is t _ K.out _).mono ?_
    rintro e w2 ⟨rfl, hb2⟩
    have p2 := keep_block hb2 p1 (lt_of_block p1)
    have HB2 : Hid (Below w.heap.size w w2) := HB1.out.trans (hb2.mono HB1.out.size)
    clear hb2 p1 HB1
    go_wp2_with fail
    refine (specIn_is _ _ _ _ KA.out _).mono ?_
    rintro e w' ⟨rfl, rfl⟩
    go_wp2
    go_ret
    exact ⟨ret_i HE.out.symm, HB2.out⟩
  have KA := Lib.hid (decide_eq_true ha)
  by_cases hb : 1 ≤ b ∧ b ≤ 9
  case neg =>
    have KB := Lib.hid (decide_eq_false hb)
    have HE : Hid (v = 0) := by show _ = _; rw [← hv]; exact if_neg (fun hh => hb hh.2.2)
    clear hv h ha hb
    go_enter Try.func112, Try.ntmps112
    go_wp2_with (first | ((with_reducible refine ld_tm ?_ ?_ p1 ?_); kernel_rfl; kernel_rfl; go_simp))
    refine (specTimOk_is t _ K.out _).mono ?_
    rintro e w2 ⟨rfl, hb2⟩
    have p2 := keep_block hb2 p1 (lt_of_block p1)
    have HB2 : Hid (Below w.heap.size w w2) := HB1.out.trans (hb2.mono HB1.out.size)
    clear hb2 p1 HB1
    go_wp2_with fail
    refine (specIn_is _ _ _ _ KA.out _).mono ?_
    rintro e w' ⟨rfl, rfl⟩
    go_wp2_with fail
    refine (specIn_is _ _ _ _ KB.out _).mono ?_
    rintro e w' ⟨rfl, rfl⟩
    go_wp2
    go_ret
    exact ⟨ret_i HE.out.symm, HB2.out⟩
  have KB := Lib.hid (decide_eq_true hb)
  have HR : Hid (v = rankR t a b n) := by show _ = _; rw [← hv]; exact if_pos ⟨h, ha, hb⟩
  have HG : Hid (∀ x, bankG t x 1 = bankR t x 1) := fun x => if_pos h
  clear hv h
  go_enter Try.func112, Try.ntmps112
  go_wp2_with (first | ((with_reducible refine ld_tm ?_ ?_ p1 ?_); kernel_rfl; kernel_rfl; go_simp))
  refine (specTimOk_is t _ K.out _).mono ?_
  rintro e w2 ⟨rfl, hb2⟩
  have p2 := keep_block hb2 p1 (lt_of_block p1)
  have HB2 : Hid (Below w.heap.size w w2) := HB1.out.trans (hb2.mono HB1.out.size)
  clear hb2 p1 HB1
  go_wp2_with fail
  refine (specIn_is _ _ _ _ KA.out _).mono ?_
  rintro e w' ⟨rfl, rfl⟩
  go_wp2_with fail
  refine (specIn_is _ _ _ _ KB.out _).mono ?_
  rintro e w' ⟨rfl, rfl⟩
  obtain ⟨c0, c1, c2, c3, c4, c5, c6, c7, c8, c9, c10, c11, c12, c13, c14, c15, c16⟩ := tm_cells p2
  clear hw1 K KA KB
  rcases (show a = 1 ∨ a = 2 ∨ a = 3 ∨ a = 4 ∨ a = 5 ∨ a = 6 ∨ a = 7 ∨ a = 8 ∨ a = 9 by omega) with ha | ha | ha | ha | ha | ha | ha | ha | ha
  · subst ha
    rcases (show b = 1 ∨ b = 6 ∨ b = 8 ∨ ¬ (b = 1 ∨ b = 6 ∨ b = 8) by omega) with hb | hb | hb | hb
    · subst hb
      have HE : Hid (v = nearI n t.rrdl t.rrds) := by show _ = _; rw [HR.out]; rfl
      clear HR
      go_wp2_with fail
      refine (specNear_is _ _ _ _ HE.out.symm _).mono ?_
      rintro e w' ⟨rfl, rfl⟩
      go_wp2
      go_ret
      exact ⟨rfl, HB2.out⟩
    · subst hb
      have HE : Hid (v = 0) := by show _ = _; rw [HR.out]; rfl
      clear HR
      go_wp2
      go_ret
      exact ⟨ret_i HE.out.symm, HB2.out⟩
    · subst hb
      have HE : Hid (bankG t 1 1 = v) := by show _ = _; rw [HR.out, HG.out]; rfl
      clear HR HG
      go_wp2_with (first | ((with_reducible refine ld_tm ?_ ?_ p2 ?_); kernel_rfl; kernel_rfl; go_simp))
      refine (specBankGap_is t _ _ _ HE.out _).mono ?_
      rintro e w3 ⟨rfl, hb3⟩
      have p3 := keep_block hb3 p2 (lt_of_block p2)
      have HB3 : Hid (Below w.heap.size w w3) := HB2.out.trans (hb3.mono HB2.out.size)
      clear hb3 p2 HB2
      go_wp2
      go_ret
      exact ⟨rfl, HB3.out⟩
    · have t1 : ((b : Int) == 1) = false := by simp only [beq_eq_false_iff_ne]; omega
      have t6 : ((b : Int) == 6) = false := by simp only [beq_eq_false_iff_ne]; omega
      have t8 : ((b : Int) == 8) = false := by simp only [beq_eq_false_iff_ne]; omega
      have u : ((1 : Int) == b) = false := by simp only [beq_eq_false_iff_ne]; omega
      have HE : Hid (v = 0) := by
        show _ = _
        rw [HR.out]
        unfold rankR
        iterate 11 rw [if_neg (by omega)]
      clear HR hb
      go_wp2
      go_ret
      exact ⟨ret_i HE.out.symm, HB2.out⟩
  · subst ha
    rcases (show b = 2 ∨ b = 3 ∨ b = 6 ∨ b = 8 ∨ ¬ (b = 2 ∨ b = 3 ∨ b = 6 ∨ b = 8) by omega) with hb | hb | hb | hb | hb
    · subst hb
      have HE : Hid (v = nearI n t.ccdl t.ccds) := by show _ = _; rw [HR.out]; rfl
      clear HR
      go_wp2_with fail
      refine (specNear_is _ _ _ _ HE.out.symm _).mono ?_
      rintro e w' ⟨rfl, rfl⟩
      go_wp2
      go_ret
      exact ⟨rfl, HB2.out⟩
    · subst hb
      have HE : Hid (v = t.rtw) := by show _ = _; rw [HR.out]; rfl
      clear HR
      go_wp2
      go_ret
      exact ⟨ret_i HE.out.symm, HB2.out⟩
    · subst hb
      have HE : Hid (v = t.rtp) := by show _ = _; rw [HR.out]; rfl
      clear HR
      go_wp2
      go_ret
      exact ⟨ret_i HE.out.symm, HB2.out⟩
    · subst hb
      have HE : Hid (bankG t 2 1 = v) := by show _ = _; rw [HR.out, HG.out]; rfl
      clear HR HG
      go_wp2_with (first | ((with_reducible refine ld_tm ?_ ?_ p2 ?_); kernel_rfl; kernel_rfl; go_simp))
      refine (specBankGap_is t _ _ _ HE.out _).mono ?_
      rintro e w3 ⟨rfl, hb3⟩
      have p3 := keep_block hb3 p2 (lt_of_block p2)
      have HB3 : Hid (Below w.heap.size w w3) := HB2.out.trans (hb3.mono HB2.out.size)
      clear hb3 p2 HB2
      go_wp2
      go_ret
      exact ⟨rfl, HB3.out⟩
    · have t2 : ((b : Int) == 2) = false := by simp only [beq_eq_false_iff_ne]; omega
      have t3 : ((b : Int) == 3) = false := by simp only [beq_eq_false_iff_ne]; omega
      have t6 : ((b : Int) == 6) = false := by simp only [beq_eq_false_iff_ne]; omega
      have t8 : ((b : Int) == 8) = false := by simp only [beq_eq_false_iff_ne]; omega
      have u : ((2 : Int) == b) = false := by simp only [beq_eq_false_iff_ne]; omega
      have HE : Hid (v = 0) := by
        show _ = _
        rw [HR.out]
        unfold rankR
        iterate 11 rw [if_neg (by omega)]
      clear HR hb
      go_wp2
      go_ret
      exact ⟨ret_i HE.out.symm, HB2.out⟩
  · subst ha
    rcases (show b = 2 ∨ b = 3 ∨ b = 6 ∨ b = 8 ∨ ¬ (b = 2 ∨ b = 3 ∨ b = 6 ∨ b = 8) by omega) with hb | hb | hb | hb | hb
    · subst hb
      have HE : Hid (v = nearI n t.wtrl t.wtrs) := by show _ = _; rw [HR.out]; rfl
      clear HR
      go_wp2_with fail
      refine (specNear_is _ _ _ _ HE.out.symm _).mono ?_
      rintro e w' ⟨rfl, rfl⟩
      go_wp2
      go_ret
      exact ⟨rfl, HB2.out⟩
    · subst hb
      have HE : Hid (v = nearI n t.ccdl t.ccds) := by show _ = _; rw [HR.out]; rfl
      clear HR
      go_wp2_with fail
      refine (specNear_is _ _ _ _ HE.out.symm _).mono ?_
      rintro e w' ⟨rfl, rfl⟩
      go_wp2
      go_ret
      exact ⟨rfl, HB2.out⟩
    · subst hb
      have HE : Hid (v = t.wr) := by show _ = _; rw [HR.out]; rfl
      clear HR
      go_wp2
      go_ret
      exact ⟨ret_i HE.out.symm, HB2.out⟩
    · subst hb
      have HE : Hid (bankG t 3 1 = v) := by show _ = _; rw [HR.out, HG.out]; rfl
      clear HR HG
      go_wp2_with (first | ((with_reducible refine ld_tm ?_ ?_ p2 ?_); kernel_rfl; kernel_rfl; go_simp))
      refine (specBankGap_is t _ _ _ HE.out _).mono ?_
      rintro e w3 ⟨rfl, hb3⟩
      have p3 := keep_block hb3 p2 (lt_of_block p2)
      have HB3 : Hid (Below w.heap.size w w3) := HB2.out.trans (hb3.mono HB2.out.size)
      clear hb3 p2 HB2
      go_wp2
      go_ret
      exact ⟨rfl, HB3.out⟩
    · have t2 : ((b : Int) == 2) = false := by simp only [beq_eq_false_iff_ne]; omega
      have t3 : ((b : Int) == 3) = false := by simp only [beq_eq_false_iff_ne]; omega
      have t6 : ((b : Int) == 6) = false := by simp only [beq_eq_false_iff_ne]; omega
      have t8 : ((b : Int) == 8) = false := by simp only [beq_eq_false_iff_ne]; omega
      have u : ((3 : Int) == b) = false := by simp only [beq_eq_false_iff_ne]; omega
      have HE : Hid (v = 0) := by
        show _ = _
        rw [HR.out]
        unfold rankR
        iterate 11 rw [if_neg (by omega)]
      clear HR hb
      go_wp2
      go_ret
      exact ⟨ret_i HE.out.symm, HB2.out⟩
  · subst ha
    rcases (show b = 4 ∨ b = 6 ∨ b = 8 ∨ ¬ (b = 4 ∨ b = 6 ∨ b = 8) by omega) with hb | hb | hb | hb
    · subst hb
      have HE : Hid (v = 0) := by show _ = _; rw [HR.out]; rfl
      clear HR
      go_wp2
      go_ret
      exact ⟨ret_i HE.out.symm, HB2.out⟩
    · subst hb
      have HE : Hid (v = 0) := by show _ = _; rw [HR.out]; rfl
      clear HR
      go_wp2
      go_ret
      exact ⟨ret_i HE.out.symm, HB2.out⟩
    · subst hb
      have HE : Hid (bankG t 4 1 = v) := by show _ = _; rw [HR.out, HG.out]; rfl
      clear HR HG
      go_wp2_with (first | ((with_reducible refine ld_tm ?_ ?_ p2 ?_); kernel_rfl; kernel_rfl; go_simp))
      refine (specBankGap_is t _ _ _ HE.out _).mono ?_
      rintro e w3 ⟨rfl, hb3⟩
      have p3 := keep_block hb3 p2 (lt_of_block p2)
      have HB3 : Hid (Below w.heap.size w w3) := HB2.out.trans (hb3.mono HB2.out.size)
      clear hb3 p2 HB2
      go_wp2
      go_ret
      exact ⟨rfl, HB3.out⟩
    · have t4 : ((b : Int) == 4) = false := by simp only [beq_eq_false_iff_ne]; omega
      have t6 : ((b : Int) == 6) = false := by simp only [beq_eq_false_iff_ne]; omega
      have t8 : ((b : Int) == 8) = false := by simp only [beq_eq_false_iff_ne]; omega
      have u : ((4 : Int) == b) = false := by simp only [beq_eq_false_iff_ne]; omega
      have HE : Hid (v = 0) := by
        show _ = _
        rw [HR.out]
        unfold rankR
        iterate 11 rw [if_neg (by omega)]
      clear HR hb
      go_wp2
      go_ret
      exact ⟨ret_i HE.out.symm, HB2.out⟩
  · subst ha
    rcases (show b = 5 ∨ b = 6 ∨ b = 8 ∨ ¬ (b = 5 ∨ b = 6 ∨ b = 8) by omega) with hb | hb | hb | hb
    · subst hb
      have HE : Hid (v = t.rrdl) := by show _ = _; rw [HR.out]; rfl
      clear HR
      go_wp2
      go_ret
      exact ⟨ret_i HE.out.symm, HB2.out⟩
    · subst hb
      have HE : Hid (v = 0) := by show _ = _; rw [HR.out]; rfl
      clear HR
      go_wp2
      go_ret
      exact ⟨ret_i HE.out.symm, HB2.out⟩
    · subst hb
      have HE : Hid (bankG t 5 1 = v) := by show _ = _; rw [HR.out, HG.out]; rfl
      clear HR HG
      go_wp2_with (first | ((with_reducible refine ld_tm ?_ ?_ p2 ?_); kernel_rfl; kernel_rfl; go_simp))
      refine (specBankGap_is t _ _ _ HE.out _).mono ?_
      rintro e w3 ⟨rfl, hb3⟩
      have p3 := keep_block hb3 p2 (lt_of_block p2)
      have HB3 : Hid (Below w.heap.size w w3) := HB2.out.trans (hb3.mono HB2.out.size)
      clear hb3 p2 HB2
      go_wp2
      go_ret
      exact ⟨rfl, HB3.out⟩
    · have t5 : ((b : Int) == 5) = false := by simp only [beq_eq_false_iff_ne]; omega
      have t6 : ((b : Int) == 6) = false := by simp only [beq_eq_false_iff_ne]; omega
      have t8 : ((b : Int) == 8) = false := by simp only [beq_eq_false_iff_ne]; omega
      have u : ((5 : Int) == b) = false := by simp only [beq_eq_false_iff_ne]; omega
      have HE : Hid (v = 0) := by
        show _ = _
        rw [HR.out]
        unfold rankR
        iterate 11 rw [if_neg (by omega)]
      clear HR hb
      go_wp2
      go_ret
      exact ⟨ret_i HE.out.symm, HB2.out⟩
  · subst ha
    rcases (show b = 6 ∨ b = 7 ∨ b = 8 ∨ ¬ (b = 6 ∨ b = 7 ∨ b = 8) by omega) with hb | hb | hb | hb
    · subst hb
      have HE : Hid (v = 0) := by show _ = _; rw [HR.out]; rfl
      clear HR
      go_wp2
      go_ret
      exact ⟨ret_i HE.out.symm, HB2.out⟩
    · subst hb
      have HE : Hid (v = t.cke) := by show _ = _; rw [HR.out]; rfl
      clear HR
      go_wp2
      go_ret
      exact ⟨ret_i HE.out.symm, HB2.out⟩
    · subst hb
      have HE : Hid (bankG t 6 1 = v) := by show _ = _; rw [HR.out, HG.out]; rfl
      clear HR HG
      go_wp2_with (first | ((with_reducible refine ld_tm ?_ ?_ p2 ?_); kernel_rfl; kernel_rfl; go_simp))
      refine (specBankGap_is t _ _ _ HE.out _).mono ?_
      rintro e w3 ⟨rfl, hb3⟩
      have p3 := keep_block hb3 p2 (lt_of_block p2)
      have HB3 : Hid (Below w.heap.size w w3) := HB2.out.trans (hb3.mono HB2.out.size)
      clear hb3 p2 HB2
      go_wp2
      go_ret
      exact ⟨rfl, HB3.out⟩
    · have t6 : ((b : Int) == 6) = false := by simp only [beq_eq_false_iff_ne]; omega
      have t7 : ((b : Int) == 7) = false := by simp only [beq_eq_false_iff_ne]; omega
      have t8 : ((b : Int) == 8) = false := by simp only [beq_eq_false_iff_ne]; omega
      have u : ((6 : Int) == b) = false := by simp only [beq_eq_false_iff_ne]; omega
      have HE : Hid (v = 0) := by
        show _ = _
        rw [HR.out]
        unfold rankR
        iterate 11 rw [if_neg (by omega)]
      clear HR hb
      go_wp2
      go_ret
      exact ⟨ret_i HE.out.symm, HB2.out⟩
  · subst ha
    have HE : Hid (v = t.xp) := by show _ = _; rw [HR.out]; rfl
    clear HR
    go_wp2
    go_ret
    exact ⟨ret_i HE.out.symm, HB2.out⟩
  · subst ha
    rcases (show b = 6 ∨ b = 8 ∨ b = 9 ∨ ¬ (b = 6 ∨ b = 8 ∨ b = 9) by omega) with hb | hb | hb | hb
    · subst hb
      have HE : Hid (v = 0) := by show _ = _; rw [HR.out]; rfl
      clear HR
      go_wp2
      go_ret
      exact ⟨ret_i HE.out.symm, HB2.out⟩
    · subst hb
      have HE : Hid (bankG t 8 1 = v) := by show _ = _; rw [HR.out, HG.out]; rfl
      clear HR HG
      go_wp2_with (first | ((with_reducible refine ld_tm ?_ ?_ p2 ?_); kernel_rfl; kernel_rfl; go_simp))
      refine (specBankGap_is t _ _ _ HE.out _).mono ?_
      rintro e w3 ⟨rfl, hb3⟩
      have p3 := keep_block hb3 p2 (lt_of_block p2)
      have HB3 : Hid (Below w.heap.size w w3) := HB2.out.trans (hb3.mono HB2.out.size)
      clear hb3 p2 HB2
      go_wp2
      go_ret
      exact ⟨rfl, HB3.out⟩
    · subst hb
      have HE : Hid (v = t.cke) := by show _ = _; rw [HR.out]; rfl
      clear HR
      go_wp2
      go_ret
      exact ⟨ret_i HE.out.symm, HB2.out⟩
    · have t6 : ((b : Int) == 6) = false := by simp only [beq_eq_false_iff_ne]; omega
      have t8 : ((b : Int) == 8) = false := by simp only [beq_eq_false_iff_ne]; omega
      have t9 : ((b : Int) == 9) = false := by simp only [beq_eq_false_iff_ne]; omega
      have u : ((8 : Int) == b) = false := by simp only [beq_eq_false_iff_ne]; omega
      have HE : Hid (v = 0) := by
        show _ = _
        rw [HR.out]
        unfold rankR
        iterate 11 rw [if_neg (by omega)]
      clear HR hb
      go_wp2
      go_ret
      exact ⟨ret_i HE.out.symm, HB2.out⟩
  · subst ha
    have HE : Hid (v = t.xs) := by show _ = _; rw [HR.out]; rfl
    clear HR
    go_wp2
    go_ret
    exact ⟨ret_i HE.out.symm, HB2.out⟩

end Go.Proofs.Ythplhjdfajhmpaa

namespace Go.Proofs.Ythplhjdfajhmpaa
open Go.RowKit

set_option linter.unusedVariables false

/-- The distance of two commands; 0 where something is not valid. -/
def gapG (t : Tm) (g0 B g2 g3 ka xa ya za kb xb yb zb : Int) : Int :=
  if TimOk t ∧ (CmOk ka xa ya za ∧ AdOk g0 B g2 g3 xa ya za) ∧ (CmOk kb xb yb zb ∧ AdOk g0 B g2 g3 xb yb zb) then gapR B t ka xa kb xb else 0

theorem div_facts {x B : Int} (hx : 0 ≤ x ∧ x ≤ 7) (hB : 1 ≤ B ∧ B ≤ 4) : x.tdiv B = x / B ∧ IntKind.i64.wrap (x / B) = x / B := by
  have h1 := Int.ediv_nonneg hx.1 (show 0 ≤ B by omega)
  have h2 := Int.ediv_le_self B hx.1
  exact ⟨Int.tdiv_eq_ediv_of_nonneg hx.1, IntWalk.i64_in _ ⟨by omega, by omega⟩⟩

set_option maxHeartbeats 8000000 in
theorem specL07Gap_is (t : Tm) (g0 B g2 g3 ka xa ya za kb xb yb zb : Int) (hB : 1 ≤ B ∧ B ≤ 4) (hxa : 0 ≤ xa ∧ xa ≤ 7) (hxb : 0 ≤ xb ∧ xb ≤ 7) (v : Int) (hv : gapR B t ka xa kb xb = v) (w : World) :
    Calls Try.prog 89 #[.agg #[.int .i64 g0, .int .i64 B, .int .i64 g2, .int .i64 g3], .agg #[.int .i64 t.rcd, .int .i64 t.rp, .int .i64 t.ras, .int .i64 t.rrds, .int .i64 t.rrdl, .int .i64 t.faw, .int .i64 t.ccds, .int .i64 t.ccdl, .int .i64 t.rtp, .int .i64 t.wr, .int .i64 t.wtrs, .int .i64 t.wtrl, .int .i64 t.rtw, .int .i64 t.rfc, .int .i64 t.cke, .int .i64 t.xp, .int .i64 t.xs], .agg #[.int .i64 ka, .int .i64 xa, .int .i64 ya, .int .i64 za], .agg #[.int .i64 kb, .int .i64 xb, .int .i64 yb, .int .i64 zb]] w (Gives (.int .i64 v) w) := by
  obtain ⟨w1, hw1⟩ : ∃ u, (((w.alloc (.cells #[.int .i64 g0, .int .i64 B, .int .i64 g2, .int .i64 g3] 25)).alloc (.cells #[.int .i64 t.rcd, .int .i64 t.rp, .int .i64 t.ras, .int .i64 t.rrds, .int .i64 t.rrdl, .int .i64 t.faw, .int .i64 t.ccds, .int .i64 t.ccdl, .int .i64 t.rtp, .int .i64 t.wr, .int .i64 t.wtrs, .int .i64 t.wtrl, .int .i64 t.rtw, .int .i64 t.rfc, .int .i64 t.cke, .int .i64 t.xp, .int .i64 t.xs] 27)).alloc (.cells #[.int .i64 ka, .int .i64 xa, .int .i64 ya, .int .i64 za] 39)).alloc (.cells #[.int .i64 kb, .int .i64 xb, .int .i64 yb, .int .i64 zb] 39) = u := ⟨_, rfl⟩
  have HB1 : Hid (Below w.heap.size w w1) := by subst hw1; exact ((((Below.refl _ _).alloc (by simp) _).alloc (by simp) _).alloc (by simp; omega) _).alloc (by simp; omega) _
  have g1 : w1.heap[w.heap.size]? = some (.cells #[.int .i64 g0, .int .i64 B, .int .i64 g2, .int .i64 g3] 25) := by subst hw1; exact box4_0 _ _ _ _ _
  have p1 : w1.heap[w.heap.size + 1]? = some (.cells #[.int .i64 t.rcd, .int .i64 t.rp, .int .i64 t.ras, .int .i64 t.rrds, .int .i64 t.rrdl, .int .i64 t.faw, .int .i64 t.ccds, .int .i64 t.ccdl, .int .i64 t.rtp, .int .i64 t.wr, .int .i64 t.wtrs, .int .i64 t.wtrl, .int .i64 t.rtw, .int .i64 t.rfc, .int .i64 t.cke, .int .i64 t.xp, .int .i64 t.xs] 27) := by subst hw1; exact box4_1 _ _ _ _ _
  have a1 : w1.heap[w.heap.size + 1 + 1]? = some (.cells #[.int .i64 ka, .int .i64 xa, .int .i64 ya, .int .i64 za] 39) := by subst hw1; exact box4_2 _ _ _ _ _
  have b1 : w1.heap[w.heap.size + 1 + 1 + 1]? = some (.cells #[.int .i64 kb, .int .i64 xb, .int .i64 yb, .int .i64 zb] 39) := by subst hw1; exact box4_3 _ _ _ _ _
  obtain ⟨_, cg, _, _⟩ := cells4 g1
  obtain ⟨ca, cx, _, _⟩ := cells4 a1
  obtain ⟨cb, cy, _, _⟩ := cells4 b1
  have zg := fun q : Later w1 => q.cell cg
  have za0 := fun q : Later w1 => q.cell ca
  have za1 := fun q : Later w1 => q.cell cx
  have zb0 := fun q : Later w1 => q.cell cb
  have zb1 := fun q : Later w1 => q.cell cy
  obtain ⟨e1, e2⟩ := div_facts hxa hB
  obtain ⟨e3, e4⟩ := div_facts hxb hB
  have e5 : ¬ (B = 0) := by omega
  clear hB hxa hxb
  by_cases h1 : ka ≤ 5
  case neg =>
    have d1 : decide (ka ≤ 5) = false := decide_eq_false h1
    have HN : nearP B ka xa kb xb = false := decide_eq_false (fun h => h1 h.1.1)
    have HS : sameP ka xa kb xb = false := decide_eq_false (fun h => h1 h.1.1)
    obtain ⟨N, hN⟩ : ∃ N, rankG t ka kb false = N := ⟨_, rfl⟩
    have HRN := Lib.hid hN
    have HE : Hid (v = max (max N 0) 1) := by show _ = _; rw [← hv]; unfold gapR; rw [HN, HS, hN]; rfl
    have rN := rankG_range t ka kb false
    rw [hN] at rN
    clear hv hN HN HS h1
    go_enter Try.func89, Try.ntmps89
    go_wp2_with fail
    refine wp_region_later (by kernel_rfl) (by kernel_rfl) ?_
    repeat (first | ((with_reducible refine ld_later ?_ ?_ p1 ?_); kernel_rfl; kernel_rfl; go_simp) | go_big_quiet_step ((go_at_call 112; exact Gives.later _ (specRankGap_is _ _ _ _ _ HRN.out _))))
    refine wpQuiet_nil ?_
    intro zz
    have p2 := zz.block p1
    obtain ⟨_, cx, _, _⟩ := cells4 (zz.block a1)
    obtain ⟨_, cy, _, _⟩ := cells4 (zz.block b1)
    obtain ⟨ca, _, _, _⟩ := cells4 (zz.block a1)
    obtain ⟨cb, _, _, _⟩ := cells4 (zz.block b1)
    have HB2 : Hid (Below w.heap.size w zz.to) := HB1.out.trans (zz.ok.mono HB1.out.size)
    by_cases hn : N < 1
    · go_wp2
      go_ret
      exact ⟨ret_i (by rw [HE.out]; omega), HB2.out⟩
    · go_wp2
      go_ret
      exact ⟨ret_i (by rw [HE.out]; omega), HB2.out⟩
  by_cases h2 : kb ≤ 5
  case neg =>
    have d1 : decide (ka ≤ 5) = true := decide_eq_true h1
    have d2 : decide (kb ≤ 5) = false := decide_eq_false h2
    have HN : nearP B ka xa kb xb = false := decide_eq_false (fun h => h2 h.1.2)
    have HS : sameP ka xa kb xb = false := decide_eq_false (fun h => h2 h.1.2)
    obtain ⟨N, hN⟩ : ∃ N, rankG t ka kb false = N := ⟨_, rfl⟩
    have HRN := Lib.hid hN
    have HE : Hid (v = max (max N 0) 1) := by show _ = _; rw [← hv]; unfold gapR; rw [HN, HS, hN]; rfl
    have rN := rankG_range t ka kb false
    rw [hN] at rN
    clear hv hN HN HS h1 h2
    go_enter Try.func89, Try.ntmps89
    go_wp2_with fail
    refine wp_region_later (by kernel_rfl) (by kernel_rfl) ?_
    repeat (first | ((with_reducible refine ld_later ?_ ?_ p1 ?_); kernel_rfl; kernel_rfl; go_simp) | go_big_quiet_step ((go_at_call 112; exact Gives.later _ (specRankGap_is _ _ _ _ _ HRN.out _))))
    refine wpQuiet_nil ?_
    intro zz
    have p2 := zz.block p1
    obtain ⟨_, cx, _, _⟩ := cells4 (zz.block a1)
    obtain ⟨_, cy, _, _⟩ := cells4 (zz.block b1)
    obtain ⟨ca, _, _, _⟩ := cells4 (zz.block a1)
    obtain ⟨cb, _, _, _⟩ := cells4 (zz.block b1)
    have HB2 : Hid (Below w.heap.size w zz.to) := HB1.out.trans (zz.ok.mono HB1.out.size)
    by_cases hn : N < 1
    · go_wp2
      go_ret
      exact ⟨ret_i (by rw [HE.out]; omega), HB2.out⟩
    · go_wp2
      go_ret
      exact ⟨ret_i (by rw [HE.out]; omega), HB2.out⟩
  by_cases hs : xa = xb
  case neg =>
    have d1 : decide (ka ≤ 5) = true := decide_eq_true h1
    have d2 : decide (kb ≤ 5) = true := decide_eq_true h2
    obtain ⟨q, hq⟩ : ∃ q, ((xa / B : Int) == xb / B) = q := ⟨_, rfl⟩
    have ds : ((xa : Int) == xb) = false := beq_eq_false_iff_ne.2 hs
    have HN : nearP B ka xa kb xb = q := by rw [← hq]; unfold nearP; rw [Bool.eq_iff_iff]; simp only [decide_eq_true_eq, beq_iff_eq]; exact ⟨fun h => h.2, fun h => ⟨⟨h1, h2⟩, h⟩⟩
    have HS : sameP ka xa kb xb = false := decide_eq_false (fun h => hs h.2)
    obtain ⟨N, hN⟩ : ∃ N, rankG t ka kb q = N := ⟨_, rfl⟩
    have HRN := Lib.hid hN
    have HE : Hid (v = max (max N 0) 1) := by show _ = _; rw [← hv]; unfold gapR; rw [HN, HS, hN]; rfl
    have rN := rankG_range t ka kb q
    rw [hN] at rN
    clear hv hN HN HS h1 h2 hs
    go_enter Try.func89, Try.ntmps89
    go_wp2_with fail
    refine wp_region_later (by kernel_rfl) (by kernel_rfl) ?_
    repeat (first | ((with_reducible refine ld_later ?_ ?_ p1 ?_); kernel_rfl; kernel_rfl; go_simp) | go_big_quiet_step ((go_at_call 112; exact Gives.later _ (specRankGap_is _ _ _ _ _ HRN.out _))))
    refine wpQuiet_nil ?_
    intro zz
    have p2 := zz.block p1
    obtain ⟨_, cx, _, _⟩ := cells4 (zz.block a1)
    obtain ⟨_, cy, _, _⟩ := cells4 (zz.block b1)
    obtain ⟨ca, _, _, _⟩ := cells4 (zz.block a1)
    obtain ⟨cb, _, _, _⟩ := cells4 (zz.block b1)
    have HB2 : Hid (Below w.heap.size w zz.to) := HB1.out.trans (zz.ok.mono HB1.out.size)
    by_cases hn : N < 1
    · go_wp2
      go_ret
      exact ⟨ret_i (by rw [HE.out]; omega), HB2.out⟩
    · go_wp2
      go_ret
      exact ⟨ret_i (by rw [HE.out]; omega), HB2.out⟩
  have d1 : decide (ka ≤ 5) = true := decide_eq_true h1
  have d2 : decide (kb ≤ 5) = true := decide_eq_true h2
  obtain ⟨q, hq⟩ : ∃ q, ((xa / B : Int) == xb / B) = q := ⟨_, rfl⟩
  have ds : ((xa : Int) == xb) = true := beq_iff_eq.2 hs
  have HN : nearP B ka xa kb xb = q := by rw [← hq]; unfold nearP; rw [Bool.eq_iff_iff]; simp only [decide_eq_true_eq, beq_iff_eq]; exact ⟨fun h => h.2, fun h => ⟨⟨h1, h2⟩, h⟩⟩
  have HS : sameP ka xa kb xb = true := decide_eq_true ⟨⟨h1, h2⟩, hs⟩
  obtain ⟨N, hN⟩ : ∃ N, rankG t ka kb q = N := ⟨_, rfl⟩
  have HRN := Lib.hid hN
  obtain ⟨M, hM⟩ : ∃ M, bankG t ka kb = M := ⟨_, rfl⟩
  have HRM := Lib.hid hM
  have HE : Hid (v = max (max N M) 1) := by show _ = _; rw [← hv]; unfold gapR; rw [HN, HS, hN, hM]; rfl
  have rN := rankG_range t ka kb q
  rw [hN] at rN
  clear hv hN HN HS hM h1 h2 hs
  go_enter Try.func89, Try.ntmps89
  go_wp2_with fail
  refine wp_region_later (by kernel_rfl) (by kernel_rfl) ?_
  repeat (first | ((with_reducible refine ld_later ?_ ?_ p1 ?_); kernel_rfl; kernel_rfl; go_simp) | go_big_quiet_step ((go_at_call 112; exact Gives.later _ (specRankGap_is _ _ _ _ _ HRN.out _))))
  refine wpQuiet_nil ?_
  intro zz
  have p2 := zz.block p1
  obtain ⟨_, cx, _, _⟩ := cells4 (zz.block a1)
  obtain ⟨_, cy, _, _⟩ := cells4 (zz.block b1)
  obtain ⟨ca, _, _, _⟩ := cells4 (zz.block a1)
  obtain ⟨cb, _, _, _⟩ := cells4 (zz.block b1)
  have HB2 : Hid (Below w.heap.size w zz.to) := HB1.out.trans (zz.ok.mono HB1.out.size)
  go_wp2_with (first | ((with_reducible refine ld_tm ?_ ?_ p2 ?_); kernel_rfl; kernel_rfl; go_simp))
  refine (specBankGap_is t _ _ _ HRM.out _).mono ?_
  rintro e w3 ⟨rfl, hb3⟩
  have HB3 : Hid (Below w.heap.size w w3) := HB2.out.trans (hb3.mono HB2.out.size)
  clear hb3
  have rM := bankG_range t ka kb
  rw [HRM.out] at rM
  by_cases hnm : N < M
  · by_cases hn : M < 1
    · go_wp2
      go_ret
      exact ⟨ret_i (by rw [HE.out]; omega), HB3.out⟩
    · go_wp2
      go_ret
      exact ⟨ret_i (by rw [HE.out]; omega), HB3.out⟩
  · by_cases hn : N < 1
    · go_wp2
      go_ret
      exact ⟨ret_i (by rw [HE.out]; omega), HB3.out⟩
    · go_wp2
      go_ret
      exact ⟨ret_i (by rw [HE.out]; omega), HB3.out⟩

end Go.Proofs.Ythplhjdfajhmpaa

namespace Go.Proofs.Ythplhjdfajhmpaa

set_option linter.unusedVariables false

/-- Times that exist. -/
def TimesIn (L : List Ev) : Prop := ∀ i, i < L.length → 0 ≤ (L.getD i ev0).t ∧ (L.getD i ev0).t ≤ 1000000

theorem TrOk.times {g0 B g2 g3 : Int} {t : Tm} {n : Nat} {L : List Ev} (h : TrOk g0 B g2 g3 t n L) : TimesIn L := fun i hi => (h.isIn hi).1

theorem TrOk.cmd {g0 B g2 g3 : Int} {t : Tm} {n : Nat} {L : List Ev} (h : TrOk g0 B g2 g3 t n L) {i : Nat} (hi : i < L.length) : CmdIn g0 B g2 g3 (L.getD i ev0) := (evF_zero.1 (h.at hi)).1.1

theorem TrOk.asc {g0 B g2 g3 : Int} {t : Tm} {n : Nat} {L : List Ev} (h : TrOk g0 B g2 g3 t n L) : ∀ {i j : Nat}, i ≤ j → j < L.length → (L.getD i ev0).t ≤ (L.getD j ev0).t := by
  intro i j hij hj
  induction j with
  | zero => obtain rfl : i = 0 := by omega
            exact Int.le_refl _
  | succ j ih =>
    by_cases he : i = j + 1
    · rw [he]; exact Int.le_refl _
    · have h1 := ih (by omega) (by omega)
      have h2 := (evF_zero.1 (h.at hj)).1.2.2
      rw [past_iff (Nat.succ_pos j) (Nat.le_of_lt hj)] at h2
      have h3 : (L.getD j ev0).t < (L.getD (j + 1) ev0).t := h2
      omega

/-- From the index k on; ahead of it no rule reaches beyond the last event. -/
def RecAt (L : List Ev) (k : Nat) : Prop := k ≤ L.length ∧ (0 < L.length → k < L.length) ∧ (k = 0 ∨ (L.getD (k - 1) ev0).t + 128 ≤ (L.getD (L.length - 1) ev0).t)

/-- The earliest time that the distances to these leave. -/
def gapM (g0 B g2 g3 : Int) (t : Tm) (L : List Ev) (k x y z : Int) : Int := L.foldl (fun m e => max m (e.t + gapG t g0 B g2 g3 e.k e.x e.y e.z k x y z)) 0

theorem gapM_le {g0 B g2 g3 : Int} {t : Tm} {L : List Ev} {k x y z : Int} : 0 ≤ gapM g0 B g2 g3 t L k x y z ∧ ∀ e ∈ L, e.t + gapG t g0 B g2 g3 e.k e.x e.y e.z k x y z ≤ gapM g0 B g2 g3 t L k x y z := by
  suffices h : ∀ (L : List Ev) (m : Int), m ≤ L.foldl (fun m e => max m (e.t + gapG t g0 B g2 g3 e.k e.x e.y e.z k x y z)) m ∧ ∀ e ∈ L, e.t + gapG t g0 B g2 g3 e.k e.x e.y e.z k x y z ≤ L.foldl (fun m e => max m (e.t + gapG t g0 B g2 g3 e.k e.x e.y e.z k x y z)) m from h L 0
  intro L
  induction L with
  | nil => intro m; exact ⟨Int.le_refl _, fun e he => by cases he⟩
  | cons d L ih =>
    intro m
    obtain ⟨h1, h2⟩ := ih (max m (d.t + gapG t g0 B g2 g3 d.k d.x d.y d.z k x y z))
    refine ⟨Int.le_trans (Int.le_max_left _ _) h1, fun e he => ?_⟩
    rcases List.mem_cons.1 he with rfl | he
    · exact Int.le_trans (Int.le_max_right _ _) h1
    · exact h2 e he

theorem gapM_is {g0 B g2 g3 : Int} {t : Tm} {L : List Ev} {k x y z : Int} : gapM g0 B g2 g3 t L k x y z = 0 ∨ ∃ e ∈ L, gapM g0 B g2 g3 t L k x y z = e.t + gapG t g0 B g2 g3 e.k e.x e.y e.z k x y z := by
  suffices h : ∀ (L : List Ev) (m : Int), L.foldl (fun m e => max m (e.t + gapG t g0 B g2 g3 e.k e.x e.y e.z k x y z)) m = m ∨ ∃ e ∈ L, L.foldl (fun m e => max m (e.t + gapG t g0 B g2 g3 e.k e.x e.y e.z k x y z)) m = e.t + gapG t g0 B g2 g3 e.k e.x e.y e.z k x y z from h L 0
  intro L
  induction L with
  | nil => intro m; exact .inl rfl
  | cons d L ih =>
    intro m
    rcases ih (max m (d.t + gapG t g0 B g2 g3 d.k d.x d.y d.z k x y z)) with h | ⟨e, he, h⟩
    · rw [List.foldl_cons, h]
      by_cases hm : m ≤ d.t + gapG t g0 B g2 g3 d.k d.x d.y d.z k x y z
      · exact .inr ⟨d, List.mem_cons_self, by omega⟩
      · exact .inl (by omega)
    · exact .inr ⟨e, List.mem_cons_of_mem _ he, h⟩

/-- The first time at which a command of this kind is no fifth activation within FAW, by these events. -/
def fawM (faw : Int) (L : List Ev) (k : Int) : Int := if k = 1 ∧ 4 ≤ (actsT L).length then (actsT L).getD ((actsT L).length - 4) 0 + faw else 0

theorem getD_mem {L : List Ev} {i : Nat} (hi : i < L.length) : L.getD i ev0 ∈ L := by
  rw [List.getD_eq_getElem?_getD, List.getElem?_eq_getElem hi]
  exact List.getElem_mem hi

theorem mem_getD {L : List Ev} {e : Ev} (h : e ∈ L) : ∃ i, i < L.length ∧ L.getD i ev0 = e := by
  obtain ⟨i, hi, rfl⟩ := List.getElem_of_mem h
  exact ⟨i, hi, by rw [List.getD_eq_getElem?_getD, List.getElem?_eq_getElem hi]; rfl⟩

theorem getD_drop {L : List Ev} {k i : Nat} : (L.drop k).getD i ev0 = L.getD (k + i) ev0 := by
  rw [List.getD_eq_getElem?_getD, List.getD_eq_getElem?_getD, List.getElem?_drop]

theorem RecAt.old {g0 B g2 g3 : Int} {t : Tm} {n : Nat} {L : List Ev} {k : Nat} (hr : RecAt L k) (h : TrOk g0 B g2 g3 t n L) {i : Nat} (hi : i < k) : (L.getD i ev0).t + 128 ≤ (L.getD (L.length - 1) ev0).t := by
  rcases hr.2.2 with h0 | h1
  · omega
  · have := h.asc (i := i) (j := k - 1) (by omega) (by have := hr.1; omega)
    omega

theorem actsT_split (L : List Ev) (k : Nat) : actsT L = actsT (L.take k) ++ actsT (L.drop k) := by
  unfold actsT
  rw [← List.map_append, ← List.filter_append, List.take_append_drop]

theorem actsT_mem {L : List Ev} {a : Int} (h : a ∈ actsT L) : ∃ e ∈ L, e.t = a := by
  unfold actsT at h
  obtain ⟨e, he, hx⟩ := List.mem_map.1 h
  exact ⟨e, (List.mem_filter.1 he).1, hx⟩

/-- The fourth activation from the end: of the near ones, or long ago. -/
theorem RecAt.fourth {g0 B g2 g3 : Int} {t : Tm} {n : Nat} {L : List Ev} {k : Nat} (hr : RecAt L k) (h : TrOk g0 B g2 g3 t n L) :
    (4 ≤ (actsT (L.drop k)).length → 4 ≤ (actsT L).length ∧ (actsT L).getD ((actsT L).length - 4) 0 = (actsT (L.drop k)).getD ((actsT (L.drop k)).length - 4) 0) ∧
    (¬ 4 ≤ (actsT (L.drop k)).length → 4 ≤ (actsT L).length → (actsT L).getD ((actsT L).length - 4) 0 + 128 ≤ (L.getD (L.length - 1) ev0).t) := by
  have hs := actsT_split L k
  have hlen : (actsT L).length = (actsT (L.take k)).length + (actsT (L.drop k)).length := by rw [hs, List.length_append]
  constructor
  · intro h4
    refine ⟨by omega, ?_⟩
    rw [List.getD_eq_getElem?_getD, List.getD_eq_getElem?_getD, hlen, hs, List.getElem?_append_right (by omega)]
    congr 2
    omega
  · intro h4 h5
    have hi : (actsT L).length - 4 < (actsT (L.take k)).length := by omega
    have hm : (actsT L).getD ((actsT L).length - 4) 0 ∈ actsT (L.take k) := by
      rw [List.getD_eq_getElem?_getD, hlen, hs, List.getElem?_append_left (by omega), List.getElem?_eq_getElem (by omega)]
      exact List.getElem_mem (by omega)
    obtain ⟨e, he, hx⟩ := actsT_mem hm
    obtain ⟨i, hi, rfl⟩ := mem_getD he
    have hik : i < k := by rw [List.length_take] at hi; omega
    have hil : i < L.length := by rw [List.length_take] at hi; omega
    have e1 : (L.take k).getD i ev0 = L.getD i ev0 := by
      rw [List.getD_eq_getElem?_getD, List.getD_eq_getElem?_getD, List.getElem?_take_of_lt hik]
    rw [e1] at hx
    rw [← hx]
    exact hr.old h hik

theorem past_last {L : List Ev} {e : Ev} (h : Past L e) (h0 : 0 < L.length) : (L.getD (L.length - 1) ev0).t < e.t := by
  have h1 := (past_iff (L := L) (k := L.length) (e := e) h0 (Nat.le_refl _)).1 (by rw [List.take_length]; exact h)
  exact h1

theorem RecAt.faw {g0 B g2 g3 : Int} {t : Tm} (ht : TimOk t) {n : Nat} {L : List Ev} {k : Nat} (hr : RecAt L k) (h : TrOk g0 B g2 g3 t n L) {e : Ev} (he : FormE g0 B g2 g3 L e) :
    decide (e.t < fawM t.faw (L.drop k) e.k) = decide (FawE t.faw L e) := by
  obtain ⟨h1, h2⟩ := hr.fourth h
  have hf := ht.nums.2.2.2.2.2.1
  unfold In64 at hf
  rw [Bool.eq_iff_iff, decide_eq_true_iff, decide_eq_true_iff]
  unfold fawM FawE
  have h0 := he.2.1.1
  by_cases hk : e.k = 1
  · by_cases h4 : 4 ≤ (actsT (L.drop k)).length
    · obtain ⟨h5, h6⟩ := h1 h4
      rw [if_pos ⟨hk, h4⟩, h6]
      constructor
      · intro hlt; exact ⟨hk, h5, by omega⟩
      · rintro ⟨_, _, hlt⟩; omega
    · rw [if_neg (fun hh => h4 hh.2)]
      constructor
      · intro hlt; omega
      · rintro ⟨_, h5, hlt⟩
        have h6 := h2 h4 h5
        have h7 := past_last he.2.2 (by have := actsT_length L; omega)
        omega
  · rw [if_neg (fun hh => hk hh.1)]
    constructor
    · intro hlt; omega
    · rintro ⟨hh, _⟩; exact absurd hh hk

/-- The near events give the earliest time of a command that is one. -/
theorem RecAt.next {g0 B g2 g3 : Int} {t : Tm} (ht : TimOk t) {n : Nat} {L : List Ev} {k : Nat} (hr : RecAt L k) (h : TrOk g0 B g2 g3 t n L) {c x y z : Int} (hc : CmOk c x y z ∧ AdOk g0 B g2 g3 x y z) :
    max (gapM g0 B g2 g3 t (L.drop k) c x y z) (fawM t.faw (L.drop k) c) = nextT B t L c x := by
  have hG : ∀ d ∈ L, gapG t g0 B g2 g3 d.k d.x d.y d.z c x y z = gapR B t d.k d.x c x := fun d hd => by
    obtain ⟨i, hi, rfl⟩ := mem_getD hd
    exact if_pos ⟨ht, h.cmd hi, hc⟩
  obtain ⟨g1, g2'⟩ := gapM_le (g0 := g0) (B := B) (g2 := g2) (g3 := g3) (t := t) (L := L.drop k) (k := c) (x := x) (y := y) (z := z)
  obtain ⟨g3', g4⟩ := gapT_le (B := B) (t := t) (L := L) (k := c) (x := x)
  have hup : gapM g0 B g2 g3 t (L.drop k) c x y z ≤ gapT B t L c x := by
    rcases gapM_is (g0 := g0) (B := B) (g2 := g2) (g3 := g3) (t := t) (L := L.drop k) (k := c) (x := x) (y := y) (z := z) with hz | ⟨d, hd, hz⟩
    · omega
    · have hd' : d ∈ L := List.mem_of_mem_drop hd
      rw [hG d hd'] at hz
      have := g4 d hd'
      omega
  have hlast : 0 < L.length → (L.getD (L.length - 1) ev0).t + 1 ≤ gapM g0 B g2 g3 t (L.drop k) c x y z := fun h0 => by
    have hm : L.getD (L.length - 1) ev0 ∈ L.drop k := by
      have hk := hr.2.1 h0
      have e1 : (L.drop k).getD (L.length - 1 - k) ev0 = L.getD (L.length - 1) ev0 := by rw [getD_drop]; congr 1; omega
      rw [← e1]
      exact getD_mem (by rw [List.length_drop]; omega)
    have h3 := g2' _ hm
    rw [hG _ (List.mem_of_mem_drop hm)] at h3
    have hrg := gapR_range B t (L.getD (L.length - 1) ev0).k (L.getD (L.length - 1) ev0).x c x
    omega
  have hlow : gapT B t L c x ≤ gapM g0 B g2 g3 t (L.drop k) c x y z := by
    rcases gapT_is (B := B) (t := t) (L := L) (k := c) (x := x) with hz | ⟨d, hd, hz⟩
    · omega
    · obtain ⟨i, hi, rfl⟩ := mem_getD hd
      have hrg := gapR_range B t (L.getD i ev0).k (L.getD i ev0).x c x
      have hl := hlast (by omega)
      by_cases hik : i < k
      · have h1 := hr.old h hik
        omega
      · have hm : L.getD i ev0 ∈ L.drop k := by
          have e1 : (L.drop k).getD (i - k) ev0 = L.getD i ev0 := by rw [getD_drop]; congr 1; omega
          rw [← e1]
          exact getD_mem (by rw [List.length_drop]; omega)
        have h3 := g2' _ hm
        rw [hG _ hd] at h3
        omega
  obtain ⟨f1, f2⟩ := hr.fourth h
  have hf := ht.nums.2.2.2.2.2.1
  unfold In64 at hf
  unfold nextT fawM
  by_cases hk : c = 1
  · by_cases h4 : 4 ≤ (actsT (L.drop k)).length
    · obtain ⟨h5, h6⟩ := f1 h4
      rw [if_pos ⟨hk, h4⟩, if_pos ⟨hk, h5⟩, h6]
      omega
    · rw [if_neg (fun hh => h4 hh.2)]
      by_cases h5 : 4 ≤ (actsT L).length
      · have h6 := f2 h4 h5
        have h7 := hlast (by have := actsT_length L; omega)
        rw [if_pos ⟨hk, h5⟩]
        omega
      · rw [if_neg (fun hh => h5 hh.2)]
        omega
  · rw [if_neg (fun hh => hk hh.1), if_neg (fun hh => hk hh.1)]
    omega

theorem TimesIn.mem {L : List Ev} (h : TimesIn L) {e : Ev} (he : e ∈ L) : 0 ≤ e.t ∧ e.t ≤ 1000000 := by
  obtain ⟨i, hi, rfl⟩ := mem_getD he
  exact h i hi

theorem TimesIn.drop {L : List Ev} (h : TimesIn L) (k : Nat) : TimesIn (L.drop k) := fun i hi => by
  rw [getD_drop]
  rw [List.length_drop] at hi
  exact h _ (by omega)

end Go.Proofs.Ythplhjdfajhmpaa

namespace Go.Proofs.Ythplhjdfajhmpaa

set_option linter.unusedVariables false

/-- Is this index used, with N banks? -/
def usedI (N i : Nat) : Bool := decide (i % 9 + 1 ≤ 5) == decide (i / 9 < N)

/-- The last times of a valid summary. -/
def LastOk (N : Nat) (la : List Int) : Prop := ∀ i, i < la.length → (-1 ≤ la.getD i 0 ∧ la.getD i 0 ≤ 1000000) ∧ (usedI N i = true ∨ la.getD i 0 = -1)

instance (N : Nat) (la : List Int) : Decidable (LastOk N la) := inferInstanceAs (Decidable (∀ i, i < la.length → _))

/-- The activations of a valid summary. -/
def ActsOk (ac : List Int) : Prop := ∀ i, i < ac.length → (0 ≤ ac.getD i 0 ∧ ac.getD i 0 ≤ 1000000) ∧ (0 < i → ac.getD (i - 1) 0 < ac.getD i 0)

instance (ac : List Int) : Decidable (ActsOk ac) := inferInstanceAs (Decidable (∀ i, i < ac.length → _))

/-- A valid summary. -/
def RdOk (g0 B g2 g3 : Int) (N : Nat) (la ac : List Int) : Prop := GeoOk g0 B g2 g3 ∧ la.length = 9 * (N + 1) ∧ ac.length ≤ 4 ∧ LastOk N la ∧ ActsOk ac

instance (g0 B g2 g3 : Int) (N : Nat) (la ac : List Int) : Decidable (RdOk g0 B g2 g3 N la ac) := inferInstanceAs (Decidable (_ ∧ _))

/-- Where the last time of such a command stands. -/
def slotI (N : Nat) (k x : Int) : Nat := 9 * (if k ≤ 5 then x.toNat else N) + (k.toNat - 1)

def addL (N : Nat) (la : List Int) (e : Ev) : List Int := la.set (slotI N e.k e.x) e.t

def addA (ac : List Int) (e : Ev) : List Int := if e.k = 1 then (if 4 < (ac ++ [e.t]).length then (ac ++ [e.t]).drop 1 else ac ++ [e.t]) else ac

/-- Is an event added? -/
def CanAdd (g0 B g2 g3 : Int) (N : Nat) (la ac : List Int) (e : Ev) : Prop := RdOk g0 B g2 g3 N la ac ∧ CmdIn g0 B g2 g3 e ∧ (0 ≤ e.t ∧ e.t ≤ 1000000) ∧ ¬ (e.k = 1 ∧ 0 < ac.length ∧ e.t ≤ ac.getD (ac.length - 1) 0)

instance (g0 B g2 g3 : Int) (N : Nat) (la ac : List Int) (e : Ev) : Decidable (CanAdd g0 B g2 g3 N la ac e) := inferInstanceAs (Decidable (_ ∧ _))

def rdL (g0 B g2 g3 : Int) (N : Nat) (la ac : List Int) (e : Ev) : List Int := if CanAdd g0 B g2 g3 N la ac e then addL N la e else la

def rdA (g0 B g2 g3 : Int) (N : Nat) (la ac : List Int) (e : Ev) : List Int := if CanAdd g0 B g2 g3 N la ac e then addA ac e else ac

/-- The summary of no event. -/
def newL (g0 B g2 g3 : Int) (N : Nat) : List Int := if GeoOk g0 B g2 g3 then List.replicate (9 * (N + 1)) (-1) else []

/-- The summary of events. -/
def ofT (g0 B g2 g3 : Int) (N : Nat) (L : List Ev) : List Int × List Int := L.foldl (fun r e => (rdL g0 B g2 g3 N r.1 r.2 e, rdA g0 B g2 g3 N r.1 r.2 e)) (newL g0 B g2 g3 N, [])

theorem ofT_snoc (g0 B g2 g3 : Int) (N : Nat) (P : List Ev) (e : Ev) : ofT g0 B g2 g3 N (P ++ [e]) = (rdL g0 B g2 g3 N (ofT g0 B g2 g3 N P).1 (ofT g0 B g2 g3 N P).2 e, rdA g0 B g2 g3 N (ofT g0 B g2 g3 N P).1 (ofT g0 B g2 g3 N P).2 e) := by simp [ofT]

/-- Kind and bank of an index. -/
def kindI (i : Nat) : Int := ((i % 9 + 1 : Nat) : Int)

def bankI (i : Nat) : Int := if i % 9 + 1 ≤ 5 then ((i / 9 : Nat) : Int) else 0

/-- The earliest time that the first m indices leave. -/
def atM (B : Int) (t : Tm) (la : List Int) (k x : Int) : Nat → Int
  | 0 => 0
  | m + 1 => if la.getD m 0 < 0 then atM B t la k x m else max (atM B t la k x m) (la.getD m 0 + gapR B t (kindI m) (bankI m) k x)

/-- .. and the activations. -/
def atS (B : Int) (t : Tm) (la ac : List Int) (k x : Int) : Int :=
  if k = 1 ∧ ac.length = 4 then max (atM B t la k x la.length) (ac.getD 0 0 + t.faw) else atM B t la k x la.length

theorem atM_le (B : Int) (t : Tm) (la : List Int) (k x : Int) : ∀ m, 0 ≤ atM B t la k x m ∧ ∀ i, i < m → 0 ≤ la.getD i 0 → la.getD i 0 + gapR B t (kindI i) (bankI i) k x ≤ atM B t la k x m
  | 0 => ⟨Int.le_refl _, fun i hi => absurd hi (Nat.not_lt_zero _)⟩
  | m + 1 => by
    obtain ⟨h1, h2⟩ := atM_le B t la k x m
    unfold atM
    split
    · refine ⟨h1, fun i hi h0 => ?_⟩
      by_cases e : i = m
      · subst e; omega
      · exact h2 i (by omega) h0
    · refine ⟨by omega, fun i hi h0 => ?_⟩
      by_cases e : i = m
      · subst e; omega
      · have := h2 i (by omega) h0
        omega

theorem atM_is (B : Int) (t : Tm) (la : List Int) (k x : Int) : ∀ m, atM B t la k x m = 0 ∨ ∃ i, i < m ∧ 0 ≤ la.getD i 0 ∧ atM B t la k x m = la.getD i 0 + gapR B t (kindI i) (bankI i) k x
  | 0 => .inl rfl
  | m + 1 => by
    unfold atM
    split
    · rcases atM_is B t la k x m with h | ⟨i, h1, h2, h3⟩
      · exact .inl h
      · exact .inr ⟨i, by omega, h2, h3⟩
    · by_cases hx : atM B t la k x m ≤ la.getD m 0 + gapR B t (kindI m) (bankI m) k x
      · exact .inr ⟨m, by omega, by omega, by omega⟩
      · rcases atM_is B t la k x m with h | ⟨i, h1, h2, h3⟩
        · exact .inl (by omega)
        · exact .inr ⟨i, by omega, h2, by omega⟩

theorem slot_lt {N : Nat} {k x : Int} (hk : 1 ≤ k ∧ k ≤ 9) (hx : k ≤ 5 → 0 ≤ x ∧ x < (N : Int)) : slotI N k x < 9 * (N + 1) := by
  unfold slotI
  split
  · rename_i h
    have := hx h
    omega
  · omega

theorem slot_parts {N : Nat} {k x : Int} (hk : 1 ≤ k ∧ k ≤ 9) : slotI N k x % 9 + 1 = k.toNat ∧ slotI N k x / 9 = (if k ≤ 5 then x.toNat else N) := by
  unfold slotI
  split <;> omega

theorem slot_used {N : Nat} {k x : Int} (hk : 1 ≤ k ∧ k ≤ 9) (hx : k ≤ 5 → 0 ≤ x ∧ x < (N : Int)) : usedI N (slotI N k x) = true := by
  obtain ⟨h1, h2⟩ := slot_parts (N := N) (x := x) hk
  unfold usedI
  rw [h1, h2, beq_iff_eq]
  split
  · rename_i h
    have := hx h
    rw [decide_eq_true (by omega), decide_eq_true (by omega)]
  · rw [decide_eq_false (by omega), decide_eq_false (by omega)]

theorem slot_gap {N : Nat} {k x y z : Int} (hc : CmOk k x y z) (B : Int) (t : Tm) (c b : Int) : gapR B t (kindI (slotI N k x)) (bankI (slotI N k x)) c b = gapR B t k x c b := by
  obtain ⟨h1, h2⟩ := slot_parts (N := N) (x := x) hc.1
  have e1 : kindI (slotI N k x) = k := by unfold kindI; rw [h1]; have := hc.1; omega
  have e2 : bankI (slotI N k x) = x := by
    unfold bankI
    rw [h1, h2]
    have := hc.1
    have h3 := hc.2.1
    have h4 := hc.2.2.2.2.1
    by_cases hk : k ≤ 5
    · rw [if_pos (by omega), if_pos hk]
      omega
    · rw [if_neg (by omega)]
      omega
  rw [e1, e2]

theorem getD_set_self {l : List Int} {i : Nat} (h : i < l.length) (v : Int) : (l.set i v).getD i 0 = v := by
  rw [List.getD_eq_getElem?_getD, List.getElem?_set_self h]; rfl

theorem getD_set_other {l : List Int} {i j : Nat} (h : i ≠ j) (v : Int) : (l.set i v).getD j 0 = l.getD j 0 := by
  rw [List.getD_eq_getElem?_getD, List.getD_eq_getElem?_getD, List.getElem?_set_ne h]

theorem ad_bank {g0 B g2 g3 x y z : Int} {N : Nat} (hN : bankN g0 B g2 g3 = (N : Int)) (h : AdOk g0 B g2 g3 x y z) : 0 ≤ x ∧ x < (N : Int) := ⟨h.1.1, by have := h.1.2; omega⟩

/-- What the summary of a trace without faults is. -/
structure Summ (N : Nat) (P : List Ev) (la ac : List Int) : Prop where
  len : la.length = 9 * (N + 1)
  acts : ac = (actsT P).drop ((actsT P).length - 4)
  src : ∀ i, i < la.length → la.getD i 0 = -1 ∨ ∃ e ∈ P, slotI N e.k e.x = i ∧ la.getD i 0 = e.t
  top : ∀ e ∈ P, e.t ≤ la.getD (slotI N e.k e.x) 0

theorem acts_sorted {g0 B g2 g3 : Int} {t : Tm} {n : Nat} {L : List Ev} (h : TrOk g0 B g2 g3 t n L) {i j : Nat} (hij : i < j) (hj : j < (actsT L).length) : (actsT L).getD i 0 < (actsT L).getD j 0 := by
  have hlt : ∀ {i j : Nat}, i < j → j < L.length → (L.getD i ev0).t < (L.getD j ev0).t := by
    intro i j hij hj
    obtain ⟨m, rfl⟩ : ∃ m, j = m + 1 := ⟨j - 1, by omega⟩
    have h1 := h.asc (i := i) (j := m) (by omega) (by omega)
    have h2 := (evF_zero.1 (h.at hj)).1.2.2
    rw [past_iff (Nat.succ_pos m) (Nat.le_of_lt hj)] at h2
    have h3 : (L.getD m ev0).t < (L.getD (m + 1) ev0).t := h2
    omega
  have hp : L.Pairwise (fun a b => a.t < b.t) := by
    rw [List.pairwise_iff_getElem]
    intro i j hi hj hij
    have := hlt hij hj
    rw [List.getD_eq_getElem?_getD, List.getD_eq_getElem?_getD, List.getElem?_eq_getElem hi, List.getElem?_eq_getElem hj] at this
    exact this
  have hq : (actsT L).Pairwise (· < ·) := by
    unfold actsT
    rw [List.pairwise_map]
    exact hp.filter _
  rw [List.pairwise_iff_getElem] at hq
  have := hq i j (by omega) hj hij
  rw [List.getD_eq_getElem?_getD, List.getD_eq_getElem?_getD, List.getElem?_eq_getElem (show i < (actsT L).length by omega), List.getElem?_eq_getElem hj]
  exact this

theorem drop_getD (l : List Int) (k i : Nat) : (l.drop k).getD i 0 = l.getD (k + i) 0 := by
  rw [List.getD_eq_getElem?_getD, List.getD_eq_getElem?_getD, List.getElem?_drop]

theorem Summ.ok {g0 B g2 g3 : Int} {t : Tm} {N : Nat} (hg : GeoOk g0 B g2 g3) (hN : bankN g0 B g2 g3 = (N : Int)) {P : List Ev} (h : TrOk g0 B g2 g3 t N P) {la ac : List Int} (s : Summ N P la ac) : RdOk g0 B g2 g3 N la ac := by
  have hrk := (st_ok hg hN h).1
  have hbank : ∀ e ∈ P, e.k ≤ 5 → 0 ≤ e.x ∧ e.x < (N : Int) := fun e he _ => by
    obtain ⟨i, hi, rfl⟩ := mem_getD he
    exact ad_bank hN (h.cmd hi).2
  refine ⟨hg, s.len, ?_, fun i hi => ?_, fun i hi => ?_⟩
  · rw [s.acts, List.length_drop]; omega
  · rcases s.src i hi with h0 | ⟨e, he, hs, ht⟩
    · rw [h0]; exact ⟨by decide, .inr rfl⟩
    · have h1 := (h.mem he).1
      refine ⟨by omega, .inl ?_⟩
      rw [← hs]
      obtain ⟨i, hi, rfl⟩ := mem_getD he
      exact slot_used (h.cmd hi).1.1 (hbank _ he)
  · rw [s.acts, List.length_drop] at hi
    have e1 : ac.getD i 0 = (actsT P).getD ((actsT P).length - 4 + i) 0 := by rw [s.acts, drop_getD]
    rw [e1]
    refine ⟨h.acts (by omega), fun h0 => ?_⟩
    have e2 : ac.getD (i - 1) 0 = (actsT P).getD ((actsT P).length - 4 + (i - 1)) 0 := by rw [s.acts, drop_getD]
    rw [e2]
    exact acts_sorted h (by omega) (by omega)

theorem Summ.can {g0 B g2 g3 : Int} {t : Tm} {N : Nat} (hg : GeoOk g0 B g2 g3) (hN : bankN g0 B g2 g3 = (N : Int)) {P : List Ev} {e : Ev} (h : TrOk g0 B g2 g3 t N (P ++ [e])) {la ac : List Int} (s : Summ N P la ac) : CanAdd g0 B g2 g3 N la ac e := by
  obtain ⟨h1, h2⟩ := h.back
  obtain ⟨hf, _, _, _⟩ := evF_zero.1 h2
  refine ⟨s.ok hg hN h1, hf.1, hf.2.1, fun ⟨_, h0, hle⟩ => ?_⟩
  have hl : ac.length = (actsT P).length - ((actsT P).length - 4) := by rw [s.acts, List.length_drop]
  have e1 : ac.getD (ac.length - 1) 0 = (actsT P).getD ((actsT P).length - 4 + (ac.length - 1)) 0 := by rw [s.acts, drop_getD, ← s.acts]
  have hm : (actsT P).getD ((actsT P).length - 4 + (ac.length - 1)) 0 ∈ actsT P := by
    rw [List.getD_eq_getElem?_getD, List.getElem?_eq_getElem (by omega)]
    exact List.getElem_mem (by omega)
  obtain ⟨d, hd, hx⟩ := actsT_mem hm
  obtain ⟨i, hi, rfl⟩ := mem_getD hd
  have h3 := h1.asc (i := i) (j := P.length - 1) (by omega) (by omega)
  have h4 := past_last hf.2.2 (by omega)
  omega

theorem Summ.add {g0 B g2 g3 : Int} {t : Tm} {N : Nat} (hg : GeoOk g0 B g2 g3) (hN : bankN g0 B g2 g3 = (N : Int)) {P : List Ev} {e : Ev} (h : TrOk g0 B g2 g3 t N (P ++ [e])) {la ac : List Int} (s : Summ N P la ac) : Summ N (P ++ [e]) (addL N la e) (addA ac e) := by
  obtain ⟨h1, h2⟩ := h.back
  obtain ⟨hf, hm, _, _⟩ := evF_zero.1 h2
  have hrk := (st_ok hg hN h1).1
  have hxx : 0 ≤ e.x ∧ e.x < (N : Int) := ad_bank hN hf.1.2
  have hsl : slotI N e.k e.x < la.length := by rw [s.len]; exact slot_lt hf.1.1.1 (fun _ => hxx)
  have hlater : ∀ d ∈ P, d.t < e.t := fun d hd => by
    obtain ⟨i, hi, rfl⟩ := mem_getD hd
    have h3 := h1.asc (i := i) (j := P.length - 1) (by omega) (by omega)
    have h4 := past_last hf.2.2 (by omega)
    omega
  refine ⟨by unfold addL; rw [List.length_set]; exact s.len, ?_, fun i hi => ?_, fun d hd => ?_⟩
  · unfold addA
    rw [actsT_snoc]
    by_cases hk : e.k = 1
    · rw [if_pos hk, if_pos hk, s.acts]
      have e1 : ((actsT P).drop ((actsT P).length - 4) ++ [e.t]).length = (actsT P).length - ((actsT P).length - 4) + 1 := by rw [List.length_append, List.length_drop]; rfl
      rw [e1, List.length_append]
      show _ = (actsT P ++ [e.t]).drop ((actsT P).length + 1 - 4)
      by_cases h4 : 4 ≤ (actsT P).length
      · rw [if_pos (by omega)]
        have e2 : (actsT P).length + 1 - 4 = (actsT P).length - 4 + 1 := by omega
        have e3 : (actsT P ++ [e.t]).drop ((actsT P).length - 4) = (actsT P).drop ((actsT P).length - 4) ++ [e.t] := List.drop_append_of_le_length (by omega)
        have e4 : (actsT P ++ [e.t]).drop ((actsT P).length - 4 + 1) = ((actsT P ++ [e.t]).drop ((actsT P).length - 4)).drop 1 := by rw [List.drop_drop]
        rw [e2, e4, e3]
      · rw [if_neg (by omega)]
        have e2 : (actsT P).length - 4 = 0 := by omega
        have e3 : (actsT P).length + 1 - 4 = 0 := by omega
        rw [e2, e3, List.drop_zero, List.drop_zero]
    · rw [if_neg hk, if_neg hk]; exact s.acts
  · unfold addL at hi ⊢
    rw [List.length_set] at hi
    by_cases hi2 : slotI N e.k e.x = i
    · refine .inr ⟨e, List.mem_append_right _ List.mem_cons_self, hi2, ?_⟩
      rw [← hi2]
      exact getD_set_self hsl _
    · rw [getD_set_other hi2]
      rcases s.src i hi with h0 | ⟨d, hd, hs, ht⟩
      · exact .inl h0
      · exact .inr ⟨d, List.mem_append_left _ hd, hs, ht⟩
  · unfold addL
    by_cases hi2 : slotI N e.k e.x = slotI N d.k d.x
    · rw [← hi2, getD_set_self hsl]
      rcases List.mem_append.1 hd with hd | hd
      · have := hlater d hd; omega
      · rw [List.mem_singleton.1 hd]; exact Int.le_refl _
    · rw [getD_set_other hi2]
      rcases List.mem_append.1 hd with hd | hd
      · exact s.top d hd
      · exact absurd (by rw [List.mem_singleton.1 hd]) hi2

/-- The earliest time by the summary is that by the whole trace. -/
theorem Summ.next {g0 B g2 g3 : Int} {t : Tm} {N : Nat} (hg : GeoOk g0 B g2 g3) (hN : bankN g0 B g2 g3 = (N : Int)) {L : List Ev} (h : TrOk g0 B g2 g3 t N L) {la ac : List Int} (s : Summ N L la ac) (k x : Int) : atS B t la ac k x = nextT B t L k x := by
  have hrk := (st_ok hg hN h).1
  obtain ⟨a1, a2⟩ := atM_le B t la k x la.length
  obtain ⟨b1, b2⟩ := gapT_le (B := B) (t := t) (L := L) (k := k) (x := x)
  have hup : atM B t la k x la.length ≤ gapT B t L k x := by
    rcases atM_is B t la k x la.length with h0 | ⟨i, hi, h0, h1⟩
    · omega
    · rcases s.src i hi with h2 | ⟨e, he, hs, ht⟩
      · omega
      · have h3 := b2 e he
        obtain ⟨j, hj, rfl⟩ := mem_getD he
        have h4 := slot_gap (N := N) (h.cmd hj).1 B t k x
        rw [hs] at h4
        omega
  have hdn : gapT B t L k x ≤ atM B t la k x la.length := by
    rcases gapT_is (B := B) (t := t) (L := L) (k := k) (x := x) with h0 | ⟨e, he, h1⟩
    · omega
    · have ht := s.top e he
      obtain ⟨j, hj, rfl⟩ := mem_getD he
      have hc := (h.cmd hj).1
      have hxx : 0 ≤ (L.getD j ev0).x ∧ (L.getD j ev0).x < (N : Int) := ad_bank hN (h.cmd hj).2
      have hsl : slotI N (L.getD j ev0).k (L.getD j ev0).x < la.length := by rw [s.len]; exact slot_lt hc.1 (fun _ => hxx)
      have h3 := a2 _ hsl (by have := (h.mem he).1; omega)
      rw [slot_gap hc] at h3
      omega
  have hl : ac.length = (actsT L).length - ((actsT L).length - 4) := by rw [s.acts, List.length_drop]
  unfold atS nextT
  by_cases hk : k = 1 ∧ 4 ≤ (actsT L).length
  · have e1 : ac.getD 0 0 = (actsT L).getD ((actsT L).length - 4) 0 := by rw [s.acts, drop_getD, Nat.add_zero]
    rw [if_pos ⟨hk.1, by omega⟩, if_pos hk, e1]
    omega
  · rw [if_neg (fun hh => hk ⟨hh.1, by omega⟩), if_neg hk]
    omega

end Go.Proofs.Ythplhjdfajhmpaa

namespace Go.Proofs.Ythplhjdfajhmpaa
open Go.RowKit Go.PlainAid

set_option linter.unusedVariables false

/-- The rows of a pair lie apart. -/
def Apt (a b : Option Addr) : Prop := ∀ x y, a = some x → b = some y → x.block ≠ y.block

/-- A call that answers a summary whose rows are its own. -/
def GivesRd (n1 n2 : Nat) (la ac : List Int) (w : World) (e : Ending) (w' : World) : Prop :=
  ∃ a1 c1 a2 c2, e = .returned (.agg #[.slice a1 n1 c1, .slice a2 n2 c2]) ∧ OwnI w.heap.size (.slice a1 n1 c1) la w' ∧ OwnI w.heap.size (.slice a2 n2 c2) ac w' ∧ Apt a1 a2 ∧ Below w.heap.size w w'

/-- At most two blocks turned. -/
structure Only2 (g h : Nat) (w w' : World) : Prop where
  os : w'.os = w.os
  tape : w'.tape = w.tape
  output : w'.output = w.output
  size : w.heap.size ≤ w'.heap.size
  block : ∀ k, k < w.heap.size → k ≠ g → k ≠ h → w'.heap[k]? = w.heap[k]?

theorem Only.two {g h : Nat} {a b c : World} (p : Only g a b) (q : Only h b c) : Only2 g h a c :=
  ⟨q.os.trans p.os, q.tape.trans p.tape, q.output.trans p.output, Nat.le_trans p.size q.size, fun k hk h1 h2 => (q.block k (Nat.lt_of_lt_of_le hk p.size) h2).trans (p.block k hk h1)⟩

theorem Only2.below {g h B : Nat} {w w' : World} (p : Only2 g h w w') (hg : B ≤ g) (hh : B ≤ h) (hs : B ≤ w.heap.size) : Below B w w' :=
  ⟨p.os, p.tape, p.output, p.size, fun k hk => p.block k (Nat.lt_of_lt_of_le hk hs) (by omega) (by omega)⟩

end Go.Proofs.Ythplhjdfajhmpaa

namespace Go.Proofs.Ythplhjdfajhmpaa
open Go.RowKit Go.PlainAid

set_option linter.unusedVariables false

/-- The times of a block. -/
def blkL (la : List Int) (b : Nat) : List Int := [la.getD (9 * b + 0) 0, la.getD (9 * b + 1) 0, la.getD (9 * b + 2) 0, la.getD (9 * b + 3) 0, la.getD (9 * b + 4) 0, la.getD (9 * b + 5) 0, la.getD (9 * b + 6) 0, la.getD (9 * b + 7) 0, la.getD (9 * b + 8) 0]

set_option maxHeartbeats 4000000 in
set_option maxRecDepth 100000 in
theorem implTimesOf_is (a1 : Option Addr) (n1 c1 : Nat) (la : List Int) (a2 : Option Addr) (n2 c2 : Nat) (b : Nat) (hb : 9 * b + 9 ≤ n1) (hl : la.length = n1) (h1 : n1 ≤ 3000000) (hc1 : n1 ≤ c1) (w : World) (hr : RowI w a1 la) :
    Calls Try.prog 97 #[.agg #[.slice a1 n1 c1, .slice a2 n2 c2], .int .i64 (b : Int)] w (Gives (.agg #[.int .i64 (la.getD (9 * b + 0) 0), .int .i64 (la.getD (9 * b + 1) 0), .int .i64 (la.getD (9 * b + 2) 0), .int .i64 (la.getD (9 * b + 3) 0), .int .i64 (la.getD (9 * b + 4) 0), .int .i64 (la.getD (9 * b + 5) 0), .int .i64 (la.getD (9 * b + 6) 0), .int .i64 (la.getD (9 * b + 7) 0), .int .i64 (la.getD (9 * b + 8) 0)]) w) := by
  obtain ⟨w1, hw1⟩ : ∃ u, w.alloc (.cells #[.slice a1 n1 c1, .slice a2 n2 c2] 33) = u := ⟨_, rfl⟩
  have HB1 : Hid (Below w.heap.size w w1) := by subst hw1; exact (Below.refl _ _).alloc (Nat.le_refl _) _
  have p1 : w1.heap[w.heap.size]? = some (.cells #[.slice a1 n1 c1, .slice a2 n2 c2] 33) := by subst hw1; exact heap_alloc_new _ _
  have HR0 := Lib.hid hr
  have HL := Lib.hid hl
  clear hr hl
  have HS := Lib.hid HB1.out.size
  go_enter Try.func97, Try.ntmps97
  go_wp2_with fail
  generalize hw2 : (w1.alloc (.cells #[.int .i64 0, .int .i64 0, .int .i64 0, .int .i64 0, .int .i64 0, .int .i64 0, .int .i64 0, .int .i64 0, .int .i64 0] 133)).alloc (.cells #[.int .i64 0, .int .i64 0, .int .i64 0, .int .i64 0, .int .i64 0, .int .i64 0, .int .i64 0, .int .i64 0, .int .i64 0] 133) = w2
  have HB2 : Hid (Below w.heap.size w w2) := by show Below _ _ _; rw [← hw2]; exact (HB1.out.alloc HB1.out.size _).alloc (by have := HB1.out.size; simp; omega) _
  have p2 : w2.heap[w.heap.size]? = some (.cells #[.slice a1 n1 c1, .slice a2 n2 c2] 33) := by rw [← hw2]; exact keep_block ((Below.refl _ _).alloc (Nat.le_refl _) _ |>.alloc (by simp) _) p1 (lt_of_block p1)
  have r2 : w2.heap[w1.heap.size]? = some (.cells #[.int .i64 0, .int .i64 0, .int .i64 0, .int .i64 0, .int .i64 0, .int .i64 0, .int .i64 0, .int .i64 0, .int .i64 0] 133) := by rw [← hw2]; exact heap_alloc2_old _ _ _
  have t2 : w2.heap[w1.heap.size + 1]? = some (.cells #[.int .i64 0, .int .i64 0, .int .i64 0, .int .i64 0, .int .i64 0, .int .i64 0, .int .i64 0, .int .i64 0, .int .i64 0] 133) := by rw [← hw2]; exact heap_alloc2_new _ _ _
  have HR2 : Hid (RowI w2 a1 la) := HR0.out.below HB2.out
  clear hw2 hw1 p1 HB1
  generalize w1.heap.size = rP at r2 t2 HS ⊢
  obtain ⟨bk, off, rfl, -⟩ := HR2.out.at (k := 9 * b) (by rw [HL.out]; omega)
  have wm : IntKind.i64.wrap (9 * (b : Int)) = ((9 * b : Nat) : Int) := by rw [IntWalk.i64_in _ (by omega)]; omega
  obtain ⟨d0, d1⟩ := cells2 p2
  have z0 := fun q : Later w2 => q.cell d0
  have hlt : 9 * b < c1 := by omega
  have hle : 9 * b ≤ n1 := by omega
  have hne : ¬ (9 * b = c1) := by omega
  refine wp_region_later_tail 6 (by kernel_rfl) (by kernel_rfl) ?_
  simp only [List.take_succ_cons, List.take_zero, List.drop_succ_cons, List.drop_zero]
  repeat (go_big_quiet_step (fail))
  refine wpQuiet_nil ?_
  rintro w3 ⟨zz, rfl⟩
  have t3 := zz.block t2
  have r3 := zz.block r2
  have HB3 : Hid (Below w.heap.size w zz.to) := HB2.out.trans (zz.ok.mono HB2.out.size)
  have HR3 : Hid (RowI zz.to (some ⟨bk, off, none⟩) la) := HR2.out.below zz.ok
  generalize zz.to = w3 at t3 r3 HB3 HR3 ⊢
  have hc : ∀ i, i < 9 → w3.cell? ⟨bk, off + 9 * b + i, none⟩ = some (.int .i64 (la.getD (9 * b + i) 0)) := fun i hi => by
    obtain ⟨_, _, e, h⟩ := HR3.out.at (k := 9 * b + i) (by rw [HL.out]; omega)
    cases e
    rw [Nat.add_assoc]
    exact h
  clear zz z0 d0 d1 p2 r2 t2 HR2 HB2
  refine wpList_copy_own rfl (.tmp 7) (.tmp 12) 31 31 rfl 3 Try.underlying31 (by kernel_rfl) (rP + 1) 0 9 9 ⟨bk, off + 9 * b, none⟩ (n1 - 9 * b) (c1 - 9 * b) rfl rfl #[.int .i64 0, .int .i64 0, .int .i64 0, .int .i64 0, .int .i64 0, .int .i64 0, .int .i64 0, .int .i64 0, .int .i64 0] 133 t3 [.int .i64 (la.getD (9 * b + 0) 0), .int .i64 (la.getD (9 * b + 1) 0), .int .i64 (la.getD (9 * b + 2) 0), .int .i64 (la.getD (9 * b + 3) 0), .int .i64 (la.getD (9 * b + 4) 0), .int .i64 (la.getD (9 * b + 5) 0), .int .i64 (la.getD (9 * b + 6) 0), .int .i64 (la.getD (9 * b + 7) 0), .int .i64 (la.getD (9 * b + 8) 0)] (show 9 = Nat.min (n1 - 9 * b) 9 from (Nat.min_eq_right (by omega)).symm) (fun j v hv => ?_) (show 0 + 9 ≤ 9 by decide) (fun v hv => ?_) ?_
  · rw [Addr.add_lit]
    match j, hv with
    | 0, hv => cases hv; exact hc 0 (by decide)
    | 1, hv => cases hv; exact hc 1 (by decide)
    | 2, hv => cases hv; exact hc 2 (by decide)
    | 3, hv => cases hv; exact hc 3 (by decide)
    | 4, hv => cases hv; exact hc 4 (by decide)
    | 5, hv => cases hv; exact hc 5 (by decide)
    | 6, hv => cases hv; exact hc 6 (by decide)
    | 7, hv => cases hv; exact hc 7 (by decide)
    | 8, hv => cases hv; exact hc 8 (by decide)
    | j + 9, hv => simp at hv
  · simp only [List.mem_cons, List.not_mem_nil, or_false] at hv
    rcases hv with rfl | rfl | rfl | rfl | rfl | rfl | rfl | rfl | rfl <;> rfl
  generalize hW : w3.setRow (rP + 1) _ = w4
  have hW' : w3.setRow (rP + 1) #[.int .i64 (la.getD (9 * b + 0) 0), .int .i64 (la.getD (9 * b + 1) 0), .int .i64 (la.getD (9 * b + 2) 0), .int .i64 (la.getD (9 * b + 3) 0), .int .i64 (la.getD (9 * b + 4) 0), .int .i64 (la.getD (9 * b + 5) 0), .int .i64 (la.getD (9 * b + 6) 0), .int .i64 (la.getD (9 * b + 7) 0), .int .i64 (la.getD (9 * b + 8) 0)] = w4 := hW
  have t4 : w4.heap[rP + 1]? = some (.cells #[.int .i64 (la.getD (9 * b + 0) 0), .int .i64 (la.getD (9 * b + 1) 0), .int .i64 (la.getD (9 * b + 2) 0), .int .i64 (la.getD (9 * b + 3) 0), .int .i64 (la.getD (9 * b + 4) 0), .int .i64 (la.getD (9 * b + 5) 0), .int .i64 (la.getD (9 * b + 6) 0), .int .i64 (la.getD (9 * b + 7) 0), .int .i64 (la.getD (9 * b + 8) 0)] 133) := by rw [← hW']; exact setRow_same _ _ _ _ _ t3
  have r4 : w4.heap[rP]? = some (.cells #[.int .i64 0, .int .i64 0, .int .i64 0, .int .i64 0, .int .i64 0, .int .i64 0, .int .i64 0, .int .i64 0, .int .i64 0] 133) := by rw [← hW']; exact (setRow_other _ _ _ _ (by omega)).trans r3
  have HB4 : Hid (Below w.heap.size w w4) := by show Below _ _ _; rw [← hW']; exact below_setRow HB3.out (by have := HS.out; omega) _
  clear hW hW' hc t3 r3 HB3 HR3
  go_wp2_with (first | ((with_reducible refine load_list Try.underlying133 rfl ?_ ?_ ?_ t4 ?_); kernel_rfl; kernel_rfl; kernel_rfl; go_simp) | ((with_reducible refine store_list (cells := #[.int .i64 (la.getD (9 * b + 0) 0), .int .i64 (la.getD (9 * b + 1) 0), .int .i64 (la.getD (9 * b + 2) 0), .int .i64 (la.getD (9 * b + 3) 0), .int .i64 (la.getD (9 * b + 4) 0), .int .i64 (la.getD (9 * b + 5) 0), .int .i64 (la.getD (9 * b + 6) 0), .int .i64 (la.getD (9 * b + 7) 0), .int .i64 (la.getD (9 * b + 8) 0)]) r4 ?_ ?_ ?_ ?_ ?_ ?_); kernel_rfl; kernel_rfl; kernel_rfl; kernel_rfl; kernel_rfl))
  have hr5 := setRow_same w4 rP #[.int .i64 (la.getD (9 * b + 0) 0), .int .i64 (la.getD (9 * b + 1) 0), .int .i64 (la.getD (9 * b + 2) 0), .int .i64 (la.getD (9 * b + 3) 0), .int .i64 (la.getD (9 * b + 4) 0), .int .i64 (la.getD (9 * b + 5) 0), .int .i64 (la.getD (9 * b + 6) 0), .int .i64 (la.getD (9 * b + 7) 0), .int .i64 (la.getD (9 * b + 8) 0)] _ _ r4
  exact bodyPost_ret (v := .agg #[.int .i64 (la.getD (9 * b + 0) 0), .int .i64 (la.getD (9 * b + 1) 0), .int .i64 (la.getD (9 * b + 2) 0), .int .i64 (la.getD (9 * b + 3) 0), .int .i64 (la.getD (9 * b + 4) 0), .int .i64 (la.getD (9 * b + 5) 0), .int .i64 (la.getD (9 * b + 6) 0), .int .i64 (la.getD (9 * b + 7) 0), .int .i64 (la.getD (9 * b + 8) 0)]) (results_cell_row rfl _ _ rP 133 #[.int .i64 (la.getD (9 * b + 0) 0), .int .i64 (la.getD (9 * b + 1) 0), .int .i64 (la.getD (9 * b + 2) 0), .int .i64 (la.getD (9 * b + 3) 0), .int .i64 (la.getD (9 * b + 4) 0), .int .i64 (la.getD (9 * b + 5) 0), .int .i64 (la.getD (9 * b + 6) 0), .int .i64 (la.getD (9 * b + 7) 0), .int .i64 (la.getD (9 * b + 8) 0)] (0, 0) _ rfl hr5 Try.underlying133 rfl (by kernel_rfl)) rfl ⟨rfl, below_setRow HB4.out HS.out _⟩

theorem implTimesOf_at (a1 : Option Addr) (n1 c1 : Nat) (la : List Int) (a2 : Option Addr) (n2 c2 : Nat) (b : Nat) (hb : 9 * b + 9 ≤ n1) (hl : la.length = n1) (h1 : n1 ≤ 3000000) (hc1 : n1 ≤ c1) (x0 x1 x2 x3 x4 x5 x6 x7 x8 : Int) (hx : blkL la b = [x0, x1, x2, x3, x4, x5, x6, x7, x8]) (w : World) (hr : RowI w a1 la) :
    Calls Try.prog 97 #[.agg #[.slice a1 n1 c1, .slice a2 n2 c2], .int .i64 (b : Int)] w (Gives (.agg #[.int .i64 x0, .int .i64 x1, .int .i64 x2, .int .i64 x3, .int .i64 x4, .int .i64 x5, .int .i64 x6, .int .i64 x7, .int .i64 x8]) w) := by
  unfold blkL at hx
  cases hx
  exact implTimesOf_is a1 n1 c1 la a2 n2 c2 b hb hl h1 hc1 w hr

end Go.Proofs.Ythplhjdfajhmpaa

namespace Go.Proofs.Ythplhjdfajhmpaa
open Go.RowKit Go.PlainAid

set_option linter.unusedVariables false

theorem OwnI.apartRd {B n c g : Nat} {a : Option Addr} {l : List Int} {u : World} {vs : Array Value} {fr : Nat × Nat} (h : OwnI B (.slice a n c) l u) (hh : u.heap[g]? = some (.cells vs 33 fr)) : ∀ x, a = some x → x.block ≠ g := by
  rintro x rfl e
  rcases h.2 with ⟨hv, _⟩ | ⟨b, cap, cur, hv, _, hb, _⟩
  · cases hv
  · cases hv
    subst e
    rw [hb] at hh
    injection hh with h1
    injection h1 with _ h2 _
    exact absurd h2 (by decide)

/-- From operation s on a variable is there; behind t it holds a rank with a row of its own. -/
def MadeD (s t base n1 n2 : Nat) (la ac : List Int) (listed : Array Bool) (x : Nat → Value) (u : World) : Prop :=
  (listed.getD t false = true → listed.getD s false = true) ∧
  (listed.getD s false = true → ∃ g, x s = .pointer (some ⟨g, 0, none⟩) ∧ base ≤ g ∧
    (listed.getD t false = false → u.heap[g]? = some (.cells #[.slice none 0 0, .slice none 0 0] 33)) ∧
    (listed.getD t false = true → ∃ aa ca ab cb, u.heap[g]? = some (.cells #[.slice aa n1 ca, .slice ab n2 cb] 33) ∧ OwnI base (.slice aa n1 ca) la u ∧ OwnI base (.slice ab n2 cb) ac u ∧ Apt aa ab))

theorem MadeD.zero (s t base n1 n2 : Nat) (la ac : List Int) (k : Nat) (x : Nat → Value) (u : World) : MadeD s t base n1 n2 la ac (Array.replicate k false) x u :=
  ⟨fun h => (by rw [getD_replicate_false] at h; cases h), fun h => by rw [getD_replicate_false] at h; cases h⟩

theorem MadeD.keep {s t base n1 n2 : Nat} {la ac : List Int} {listed : Array Bool} {x : Nat → Value} {u u' : World} (h : MadeD s t base n1 n2 la ac listed x u) {i : Nat} (hs : i ≠ s) (ht : i ≠ t) (v : Value) (hb : Below u.heap.size u u') :
    MadeD s t base n1 n2 la ac (listed.setIfInBounds i true) (upd x i v) u' := by
  refine ⟨fun h1 => ?_, fun h1 => ?_⟩
  · rw [getD_set_ne false ht] at h1
    exact getD_set_true (h.1 h1)
  · rw [getD_set_ne false hs] at h1
    rw [getD_set_ne false ht]
    obtain ⟨g, e, hg, hz, hf⟩ := h.2 h1
    refine ⟨g, by rw [upd_other _ _ (Ne.symm hs)]; exact e, hg, fun h0 => keep_block hb (hz h0) (lt_of_block (hz h0)), fun h0 => ?_⟩
    obtain ⟨aa, ca, ab, cb, hh, ho, hp, hq⟩ := hf h0
    exact ⟨aa, ca, ab, cb, keep_block hb hh (lt_of_block hh), ho.below hb, hp.below hb, hq⟩

theorem MadeD.new {s t base n1 n2 : Nat} {la ac : List Int} {listed : Array Bool} {x : Nat → Value} {u : World} (h : MadeD s t base n1 n2 la ac listed x u) (hst : s ≠ t) (hs : listed.getD s false = false) (hb : base ≤ u.heap.size) :
    MadeD s t base n1 n2 la ac (listed.setIfInBounds s true) (upd x s (.pointer (some ⟨u.heap.size, 0, none⟩))) (u.alloc (.cells #[.slice none 0 0, .slice none 0 0] 33)) := by
  have ht : listed.getD t false = false := by
    cases e : listed.getD t false with
    | false => rfl
    | true => have := h.1 e; rw [hs] at this; cases this
  refine ⟨fun h1 => ?_, fun h1 => ?_⟩
  · rw [getD_set_ne false hst, ht] at h1; cases h1
  · rw [getD_set_ne false hst, ht]
    exact ⟨_, upd_same _ _ _, hb, fun _ => heap_alloc_new _ _, fun h0 => by cases h0⟩

theorem MadeD.there {s t base n1 n2 : Nat} {la ac : List Int} {listed : Array Bool} {x : Nat → Value} {u : World} (h : MadeD s t base n1 n2 la ac listed x u) (hs : listed.getD s false = true) (ht : listed.getD t false = false) :
    ∃ g, x s = .pointer (some ⟨g, 0, none⟩) ∧ base ≤ g ∧ u.heap[g]? = some (.cells #[.slice none 0 0, .slice none 0 0] 33) := by
  obtain ⟨g, e, hg, hz, _⟩ := h.2 hs
  exact ⟨g, e, hg, hz ht⟩

theorem MadeD.fill {s t base n1 n2 : Nat} {la ac : List Int} {listed : Array Bool} {x : Nat → Value} {u' : World} {g ca cb : Nat} {aa ab : Option Addr} {v : Value} (hst : s ≠ t) (hs : listed.getD s false = true) (ht : t < listed.size) (hx : x s = .pointer (some ⟨g, 0, none⟩)) (hg : base ≤ g)
    (hh : u'.heap[g]? = some (.cells #[.slice aa n1 ca, .slice ab n2 cb] 33)) (ho : OwnI base (.slice aa n1 ca) la u') (hp : OwnI base (.slice ab n2 cb) ac u') (hq : Apt aa ab) : MadeD s t base n1 n2 la ac (listed.setIfInBounds t true) (upd x t v) u' := by
  refine ⟨fun _ => getD_set_true hs, fun _ => ⟨g, by rw [upd_other _ _ hst]; exact hx, hg, fun h0 => ?_, fun _ => ⟨aa, ca, ab, cb, hh, ho, hp, hq⟩⟩⟩
  rw [get_set_same false ht] at h0
  cases h0

theorem MadeD.full {s t base n1 n2 : Nat} {la ac : List Int} {listed : Array Bool} {x : Nat → Value} {u : World} (h : MadeD s t base n1 n2 la ac listed x u) (hs : listed.getD s false = true) (ht : listed.getD t false = true) :
    ∃ g aa ca ab cb, x s = .pointer (some ⟨g, 0, none⟩) ∧ base ≤ g ∧ u.heap[g]? = some (.cells #[.slice aa n1 ca, .slice ab n2 cb] 33) ∧ OwnI base (.slice aa n1 ca) la u ∧ OwnI base (.slice ab n2 cb) ac u ∧ Apt aa ab := by
  obtain ⟨g, e, hg, _, hf⟩ := h.2 hs
  obtain ⟨aa, ca, ab, cb, hh, ho, hp, hq⟩ := hf ht
  exact ⟨g, aa, ca, ab, cb, e, hg, hh, ho, hp, hq⟩

end Go.Proofs.Ythplhjdfajhmpaa

namespace Go.Proofs.Ythplhjdfajhmpaa
open Go.RowKit Go.PlainAid

set_option linter.unusedVariables false

theorem apt_none (a : Option Addr) : Apt a none := fun x y _ hy => by cases hy

theorem ownI_nil (B : Nat) (w : World) : OwnI B (.slice none 0 0) [] w := World.ownsRow_nil _ _ _ _

end Go.Proofs.Ythplhjdfajhmpaa

namespace Go.Proofs.Ythplhjdfajhmpaa
open Go.RowKit Go.PlainAid

set_option linter.unusedVariables false

theorem cells5 {w : World} {c : Nat} {v0 v1 v2 v3 v4 : Value} {t : TypeId} {fr : Nat × Nat} (h : w.heap[c]? = some (.cells #[v0, v1, v2, v3, v4] t fr)) :
    w.cell? ⟨c, 0, none⟩ = some v0 ∧ w.cell? ⟨c, 1, none⟩ = some v1 ∧ w.cell? ⟨c, 2, none⟩ = some v2 ∧ w.cell? ⟨c, 3, none⟩ = some v3 ∧ w.cell? ⟨c, 4, none⟩ = some v4 := by
  simp [World.cell?, h]

end Go.Proofs.Ythplhjdfajhmpaa

namespace Go.Proofs.Ythplhjdfajhmpaa
open Go.RowKit Go.PlainAid

set_option linter.unusedVariables false

/-- What a command leaves that was done to the variable at P; no other old block turns. -/
def DoneX (B P n c : Nat) (a : Option Addr) (l : List Bk) (pw : Int) (w : World) (e : Ending) (w' : World) : Prop :=
  e = .returned (.tuple #[]) ∧ w'.heap[P]? = some (.cells #[.slice a n c, .int .i64 pw] 83) ∧ OwnK B (.slice a n c) l w' ∧ Below B w w' ∧ ∀ i, i < w.heap.size → i ≠ P → (∀ x, a = some x → i ≠ x.block) → w'.heap[i]? = w.heap[i]?

set_option maxHeartbeats 8000000 in
theorem specDoX_is {B P n c : Nat} {a : Option Addr} {l : List Bk} {pw k x y z : Int} (hk : 1 ≤ k ∧ k ≤ 9) (hx : k ≤ 5 → 0 ≤ x ∧ x < (n : Int)) (hl : l.length = n) (h1 : n ≤ 4000000) {w : World}
    (hP : w.heap[P]? = some (.cells #[.slice a n c, .int .i64 pw] 83)) (hO : OwnK B (.slice a n c) l w) (hne : ∀ x, a = some x → x.block ≠ P) (hB : B ≤ P) :
    Calls Try.prog 53 #[.pointer (some ⟨P, 0, none⟩), .agg #[.int .i64 k, .int .i64 x, .int .i64 y, .int .i64 z]] w (DoneX B P n c a (doL l k x y) (doP pw k) w) := by
  obtain ⟨w1, hw1⟩ : ∃ u, w.alloc (.cells #[.int .i64 k, .int .i64 x, .int .i64 y, .int .i64 z] 39) = u := ⟨_, rfl⟩
  have hlt := lt_of_block hP
  have hb1 : Below w.heap.size w w1 := by subst hw1; exact (Below.refl _ _).alloc (Nat.le_refl _) _
  have q1 : w1.heap[w.heap.size]? = some (.cells #[.int .i64 k, .int .i64 x, .int .i64 y, .int .i64 z] 39) := by subst hw1; exact heap_alloc_new _ _
  have p1 := keep_block hb1 hP hlt
  obtain ⟨e0, e1, e2, e3⟩ := cells4 q1
  obtain ⟨d0, d1⟩ := cells2 p1
  have HO := Lib.hid (hO.below hb1)
  have HBB : Hid (Below B w w1) := hb1.mono (by omega)
  have HL := Lib.hid hl
  have HNE := Lib.hid hne
  have FR1 : Hid (∀ i, i < w.heap.size → w1.heap[i]? = w.heap[i]?) := hb1.block
  have HWS : Hid (w.heap.size ≤ w1.heap.size) := hb1.size
  clear hO hl hb1 hP hne
  have same : Hid (∀ (l' : List Bk) (pw' : Int), l' = l → pw' = pw → DoneX B P n c a l' pw' w (.returned (.tuple #[])) w1) := by
    rintro l' pw' rfl rfl
    exact ⟨rfl, p1, HO.out, HBB.out, fun i hi _ _ => FR1.out i hi⟩
  have power : Hid (∀ (l' : List Bk) (pw' : Int), l' = l → DoneX B P n c a l' pw' w (.returned (.tuple #[])) (w1.setCell ⟨P, 1, none⟩ (.int .i64 pw'))) := by
    rintro l' pw' rfl
    exact ⟨rfl, set_cells p1 1 _, HO.out.setCell HNE.out _, HBB.out.setCell hB _, fun i hi hne _ => (Below.heap_setCell w1 ⟨P, 1, none⟩ (.int .i64 pw') i hne).trans (FR1.out i hi)⟩
  have f1 := thawed p1 1
  rcases do_kind hk with rfl | rfl | rfl | rfl | rfl | rfl | h
  · obtain ⟨hx0, hx1⟩ := hx (by omega)
    obtain ⟨j, rfl⟩ := Int.eq_ofNat_of_zero_le hx0
    have hj : j < n := by omega
    obtain ⟨g, rfl, ho0, ho1, hf, hBg, hgl⟩ := HO.out.at (k := j) (by rw [HL.out]; exact hj)
    have HG : Hid (g ≠ P) := HNE.out _ rfl
    have hf0 := hf (j * 2)
    have hf1 := hf (j * 2 + 1)
    obtain ⟨old0, hco0⟩ : ∃ u, w1.cell? ⟨g, j * 2, none⟩ = some u := ⟨_, ho0⟩
    obtain ⟨old1, hco1⟩ : ∃ u, w1.cell? ⟨g, j * 2 + 1, none⟩ = some u := ⟨_, ho1⟩
    have z0 := fun q : Later w1 => q.cell e0
    have z1 := fun q : Later w1 => q.cell e1
    have z2 := fun q : Later w1 => q.cell e2
    have y0 := fun q : Later w1 => q.cell d0
    clear ho0 ho1 hf hx same power f1
    go_enter Try.func53, Try.ntmps53
    go_wp2_with fail
    refine wp_region_later_tail 10 (by kernel_rfl) (by kernel_rfl) ?_
    simp only [List.take_succ_cons, List.take_zero, List.drop_succ_cons, List.drop_zero]
    repeat (go_big_quiet_step (fail))
    refine wpQuiet_nil ?_
    rintro w2 ⟨zz, hz⟩
    have hb2 : Below w1.heap.size w1 w2 := hz ▸ zz.ok
    have p2 := keep_block hb2 p1 (lt_of_block p1)
    have FR2 : Hid (∀ i, i < w1.heap.size → w2.heap[i]? = w1.heap[i]?) := fun i hi => hb2.block i hi
    have hc0 := keep_cell hb2 hco0 hgl
    have hc1 := keep_cell hb2 hco1 hgl
    have O2 := Lib.hid (HO.out.below hb2)
    have HB2 : Hid (Below B w w2) := HBB.out.trans (hb2.mono (by have := lt_of_block p1; omega))
    have ff := O2.out.at (k := j) (by rw [HL.out]; exact hj)
    obtain ⟨g', hg', _, _, hf, _, _⟩ := ff
    cases hg'
    have hf0' := hf (j * 2)
    have hf1' := hf (j * 2 + 1)
    clear z0 z1 z2 y0 hz zz hb2 hco0 hco1 hf0 hf1 hf e0 e1 e2 e3 d0 d1
    go_wp2_with fail
    (try simp only [Exit.inBlock, Exit.then])
    refine bodyPost_ret (v := .tuple #[]) (by simp [results, Try.results53]) rfl ?_
    have FX : Hid (∀ i, i < w.heap.size → i ≠ g → ((w2.setCell ⟨g, j * 2, none⟩ (.bool true)).setCell ⟨g, j * 2 + 1, none⟩ (.int .i64 y)).heap[i]? = w.heap[i]?) := fun i hi e =>
      (Below.heap_setCell (w2.setCell ⟨g, j * 2, none⟩ (.bool true)) ⟨g, j * 2 + 1, none⟩ (.int .i64 y) i e).trans ((Below.heap_setCell w2 ⟨g, j * 2, none⟩ (.bool true) i e).trans ((FR2.out i (by have := HWS.out; omega)).trans (FR1.out i hi)))
    refine ⟨rfl, ?_, ?_, (HB2.out.setCell hBg _).setCell hBg _, fun i hi _ hne => FX.out i hi (hne _ rfl)⟩
    · exact (Below.heap_setCell _ _ _ _ (Ne.symm HG.out)).trans ((Below.heap_setCell _ _ _ _ (Ne.symm HG.out)).trans p2)
    · exact O2.out.stored HL.out (by rw [HL.out]; exact hj) ⟨true, y⟩
  · obtain ⟨hx0, hx1⟩ := hx (by omega)
    obtain ⟨j, rfl⟩ := Int.eq_ofNat_of_zero_le hx0
    have hj : j < n := by omega
    obtain ⟨g, rfl, ho0, ho1, hf, hBg, hgl⟩ := HO.out.at (k := j) (by rw [HL.out]; exact hj)
    have HG : Hid (g ≠ P) := HNE.out _ rfl
    obtain ⟨old0, hco0⟩ : ∃ u, w1.cell? ⟨g, j * 2, none⟩ = some u := ⟨_, ho0⟩
    obtain ⟨old1, hco1⟩ : ∃ u, w1.cell? ⟨g, j * 2 + 1, none⟩ = some u := ⟨_, ho1⟩
    have z0 := fun q : Later w1 => q.cell e0
    have z1 := fun q : Later w1 => q.cell e1
    have y0 := fun q : Later w1 => q.cell d0
    clear ho0 ho1 hf hx same power f1
    go_enter Try.func53, Try.ntmps53
    go_wp2_with fail
    refine wp_region_later_tail 8 (by kernel_rfl) (by kernel_rfl) ?_
    simp only [List.take_succ_cons, List.take_zero, List.drop_succ_cons, List.drop_zero]
    repeat (go_big_quiet_step (fail))
    refine wpQuiet_nil ?_
    rintro w2 ⟨zz, hz⟩
    have hb2 : Below w1.heap.size w1 w2 := hz ▸ zz.ok
    have p2 := keep_block hb2 p1 (lt_of_block p1)
    have FR2 : Hid (∀ i, i < w1.heap.size → w2.heap[i]? = w1.heap[i]?) := fun i hi => hb2.block i hi
    have hc0 := keep_cell hb2 hco0 hgl
    have hc1 := keep_cell hb2 hco1 hgl
    have O2 := Lib.hid (HO.out.below hb2)
    have HB2 : Hid (Below B w w2) := HBB.out.trans (hb2.mono (by have := lt_of_block p1; omega))
    have ff := O2.out.at (k := j) (by rw [HL.out]; exact hj)
    obtain ⟨g', hg', _, _, hf, _, _⟩ := ff
    cases hg'
    have hf0' := hf (j * 2)
    have hf1' := hf (j * 2 + 1)
    clear z0 z1 y0 hz zz hb2 hco0 hco1 hf e0 e1 e2 e3 d0 d1
    go_wp2_with fail
    (try simp only [Exit.inBlock, Exit.then])
    refine bodyPost_ret (v := .tuple #[]) (by simp [results, Try.results53]) rfl ?_
    have FX : Hid (∀ i, i < w.heap.size → i ≠ g → ((w2.setCell ⟨g, j * 2, none⟩ (.bool false)).setCell ⟨g, j * 2 + 1, none⟩ (.int .i64 0)).heap[i]? = w.heap[i]?) := fun i hi e =>
      (Below.heap_setCell (w2.setCell ⟨g, j * 2, none⟩ (.bool false)) ⟨g, j * 2 + 1, none⟩ (.int .i64 0) i e).trans ((Below.heap_setCell w2 ⟨g, j * 2, none⟩ (.bool false) i e).trans ((FR2.out i (by have := HWS.out; omega)).trans (FR1.out i hi)))
    refine ⟨rfl, ?_, ?_, (HB2.out.setCell hBg _).setCell hBg _, fun i hi _ hne => FX.out i hi (hne _ rfl)⟩
    · exact (Below.heap_setCell _ _ _ _ (Ne.symm HG.out)).trans ((Below.heap_setCell _ _ _ _ (Ne.symm HG.out)).trans p2)
    · exact O2.out.stored HL.out (by rw [HL.out]; exact hj) bk0
  · clear hx
    go_enter Try.func53, Try.ntmps53
    go_wp2
    (try simp only [Exit.inBlock, Exit.then])
    refine bodyPost_ret (v := .tuple #[]) (by simp [results, Try.results53]) rfl ?_
    exact power.out _ _ rfl
  · clear hx
    go_enter Try.func53, Try.ntmps53
    go_wp2
    (try simp only [Exit.inBlock, Exit.then])
    refine bodyPost_ret (v := .tuple #[]) (by simp [results, Try.results53]) rfl ?_
    exact power.out _ _ rfl
  · clear hx
    go_enter Try.func53, Try.ntmps53
    go_wp2
    (try simp only [Exit.inBlock, Exit.then])
    refine bodyPost_ret (v := .tuple #[]) (by simp [results, Try.results53]) rfl ?_
    exact power.out _ _ rfl
  · clear hx
    go_enter Try.func53, Try.ntmps53
    go_wp2
    (try simp only [Exit.inBlock, Exit.then])
    refine bodyPost_ret (v := .tuple #[]) (by simp [results, Try.results53]) rfl ?_
    exact power.out _ _ rfl
  · clear hx hk
    rcases h with rfl | rfl | rfl
    all_goals (go_enter Try.func53, Try.ntmps53; go_wp2; (try simp only [Exit.inBlock, Exit.then]); refine bodyPost_ret (v := .tuple #[]) (by simp [results, Try.results53]) rfl ?_; exact same.out _ _ rfl rfl)

theorem closeE_snoc (B : Int) (t : Tm) (P : List Ev) (d e : Ev) : closeE B t (P ++ [d]) e = (closeE B t P e || decide (e.t - d.t < gapR B t d.k d.x e.k e.x)) := by
  unfold closeE
  rw [List.any_append]
  simp

theorem closeE_mem {B : Int} {t : Tm} {P : List Ev} {i : Nat} {e : Ev} (hi : i < P.length) (h : decide (e.t - (P.getD i ev0).t < gapR B t (P.getD i ev0).k (P.getD i ev0).x e.k e.x) = true) : closeE B t P e = true := by
  unfold closeE
  rw [List.any_eq_true]
  refine ⟨P.getD i ev0, ?_, h⟩
  rw [List.getD_eq_getElem?_getD, List.getElem?_eq_getElem hi]
  exact List.getElem_mem _

set_option maxHeartbeats 4000000 in
theorem specClose_is (t : Tm) (g0 B g2 g3 : Int) (a : Option Addr) (n c : Nat) (P : List Ev) (e : Ev) (hB : 1 ≤ B ∧ B ≤ 4) (hP : ∀ i, i < n → EvIn (P.getD i ev0)) (he : EvIn e) (v : Bool) (hv : closeE B t P e = v) (hl : P.length = n) (h1 : n ≤ 3000000) (w : World) (hr : evK.Row w a P) :
    Calls Try.prog 54 #[.agg #[.int .i64 g0, .int .i64 B, .int .i64 g2, .int .i64 g3], .agg #[.int .i64 t.rcd, .int .i64 t.rp, .int .i64 t.ras, .int .i64 t.rrds, .int .i64 t.rrdl, .int .i64 t.faw, .int .i64 t.ccds, .int .i64 t.ccdl, .int .i64 t.rtp, .int .i64 t.wr, .int .i64 t.wtrs, .int .i64 t.wtrl, .int .i64 t.rtw, .int .i64 t.rfc, .int .i64 t.cke, .int .i64 t.xp, .int .i64 t.xs], .slice a n c, .agg #[.int .i64 e.t, .int .i64 e.k, .int .i64 e.x, .int .i64 e.y, .int .i64 e.z]] w (Gives (.bool v) w) := by
  obtain ⟨w1, hw1⟩ : ∃ u, ((w.alloc (.cells #[.int .i64 g0, .int .i64 B, .int .i64 g2, .int .i64 g3] 25)).alloc (.cells #[.int .i64 t.rcd, .int .i64 t.rp, .int .i64 t.ras, .int .i64 t.rrds, .int .i64 t.rrdl, .int .i64 t.faw, .int .i64 t.ccds, .int .i64 t.ccdl, .int .i64 t.rtp, .int .i64 t.wr, .int .i64 t.wtrs, .int .i64 t.wtrl, .int .i64 t.rtw, .int .i64 t.rfc, .int .i64 t.cke, .int .i64 t.xp, .int .i64 t.xs] 27)).alloc (.cells #[.int .i64 e.t, .int .i64 e.k, .int .i64 e.x, .int .i64 e.y, .int .i64 e.z] 41) = u := ⟨_, rfl⟩
  have HB1 : Hid (Below w.heap.size w w1) := by subst hw1; exact (((Below.refl _ _).alloc (Nat.le_refl _) _).alloc (by simp) _).alloc (by simp; omega) _
  have g1 : w1.heap[w.heap.size]? = some (.cells #[.int .i64 g0, .int .i64 B, .int .i64 g2, .int .i64 g3] 25) := by subst hw1; exact box3_0 _ _ _ _
  have p1 : w1.heap[w.heap.size + 1]? = some (.cells #[.int .i64 t.rcd, .int .i64 t.rp, .int .i64 t.ras, .int .i64 t.rrds, .int .i64 t.rrdl, .int .i64 t.faw, .int .i64 t.ccds, .int .i64 t.ccdl, .int .i64 t.rtp, .int .i64 t.wr, .int .i64 t.wtrs, .int .i64 t.wtrl, .int .i64 t.rtw, .int .i64 t.rfc, .int .i64 t.cke, .int .i64 t.xp, .int .i64 t.xs] 27) := by subst hw1; exact box3_1 _ _ _ _
  have q1 : w1.heap[w.heap.size + 1 + 1]? = some (.cells #[.int .i64 e.t, .int .i64 e.k, .int .i64 e.x, .int .i64 e.y, .int .i64 e.z] 41) := by subst hw1; exact box3_2 _ _ _ _
  have HR := Lib.hid (hr.below HB1.out)
  have HL := Lib.hid hl
  have HV := Lib.hid hv
  have HP := Lib.hid hP
  have HEI := Lib.hid he
  have HBB := Lib.hid hB
  clear hr hl hv hP he hB
  go_enter Try.func54, Try.ntmps54
  go_wp2_with fail
  go_loopw [9] (fun i wr => ∃ k : Nat, k ≤ n ∧ i = .int .i64 k ∧ closeE B t (P.take k) e = false ∧ Below w1.heap.size w1 wr) (fun i _ => n - (intOf i).toNat)
  case atStart => exact ⟨0, Nat.zero_le _, rfl, rfl, Below.refl _ _⟩
  case round =>
    obtain ⟨m, hm, rfl, hno, hbr⟩ := hrel
    have HNO := Lib.hid hno
    have HBR := Lib.hid hbr
    have HB2 : Hid (Below w.heap.size w wr) := HB1.out.trans (hbr.mono HB1.out.size)
    have g2' := keep_block hbr g1 (lt_of_block g1)
    have p2 := keep_block hbr p1 (lt_of_block p1)
    have q2 := keep_block hbr q1 (lt_of_block q1)
    clear hno hbr
    by_cases hlt : m < n
    · have HIN := Lib.hid (HP.out m hlt)
      have HT := Lib.hid (take_snoc (L := P) (i := m) (by rw [HL.out]; exact hlt))
      have HMEM := Lib.hid (closeE_mem (B := B) (t := t) (P := P) (i := m) (e := e) (by rw [HL.out]; exact hlt))
      obtain ⟨b, off, rfl, a0, a1, a2, a3, a4⟩ := ev_at (HR.out.below HBR.out) (i := m) (by rw [HL.out]; exact hlt)
      obtain ⟨d, hd⟩ : ∃ d, P.getD m ev0 = d := ⟨_, rfl⟩
      rw [hd] at a0 a1 a2 a3 a4 HIN HT HMEM
      clear hd
      obtain ⟨c0, c1, c2, c3⟩ := cells4 g2'
      obtain ⟨e0, e1, e2, e3, e4⟩ := cells5 q2
      have zg0 := fun q : Later wr => q.cell c0
      have zg1 := fun q : Later wr => q.cell c1
      have zg2 := fun q : Later wr => q.cell c2
      have zg3 := fun q : Later wr => q.cell c3
      have ze0 := fun q : Later wr => q.cell e0
      have ze1 := fun q : Later wr => q.cell e1
      have ze2 := fun q : Later wr => q.cell e2
      have ze3 := fun q : Later wr => q.cell e3
      have ze4 := fun q : Later wr => q.cell e4
      have za0 := fun q : Later wr => q.cell a0
      have za1 := fun q : Later wr => q.cell a1
      have za2 := fun q : Later wr => q.cell a2
      have za3 := fun q : Later wr => q.cell a3
      have za4 := fun q : Later wr => q.cell a4
      have w1' : IntKind.i64.wrap (e.t - d.t) = e.t - d.t := IntWalk.i64_in _ (by have := HIN.out.1; have := HEI.out.1; omega)
      obtain ⟨G, hG⟩ : ∃ G, gapR B t d.k d.x e.k e.x = G := ⟨_, rfl⟩
      have HG := Lib.hid hG
      obtain ⟨q, hq⟩ : ∃ q, decide (e.t - d.t < G) = q := ⟨_, rfl⟩
      have HQ := Lib.hid hq
      clear a0 a1 a2 a3 a4 c0 c1 c2 c3 e0 e1 e2 e3 e4 hG
      go_wp2_with fail
      refine wp_region_later (by kernel_rfl) (by kernel_rfl) ?_
      repeat (first | ((with_reducible refine ld_later ?_ ?_ p2 ?_); kernel_rfl; kernel_rfl; go_simp) | go_big_quiet_step ((go_at_call 89; exact Gives.later _ (specL07Gap_is t g0 B g2 g3 d.k d.x d.y d.z e.k e.x e.y e.z HBB.out HIN.out.2 HEI.out.2 G HG.out _))))
      refine wpQuiet_nil ?_
      intro zz
      have HB3 : Hid (Below w1.heap.size w1 zz.to) := HBR.out.trans (zz.ok.mono HBR.out.size)
      have HB4 : Hid (Below w.heap.size w zz.to) := HB1.out.trans (HB3.out.mono HB1.out.size)
      clear zg0 zg1 zg2 zg3 ze0 ze1 ze2 ze3 ze4 za0 za1 za2 za3 za4
      cases q
      · have HN2 : Hid (closeE B t (P.take (m + 1)) e = false) := by
          show _ = _
          rw [HT.out, closeE_snoc, HNO.out, HG.out, HQ.out]
          rfl
        go_wp2
        go_roundw
        case rel => exact ⟨m + 1, by omega, by go_num, HN2.out, HB3.out⟩
        case measure => simp [intOf]; omega
      · have HE : Hid (v = true) := by show _ = _; rw [← HV.out]; exact HMEM.out (by rw [HG.out]; exact HQ.out)
        go_wp2
        go_ret
        exact ⟨ret_b HE.out.symm, HB4.out⟩
    · obtain rfl : m = n := by omega
      have HE : Hid (v = false) := by
        show _ = _
        have := HNO.out
        rw [List.take_of_length_le (by rw [HL.out]; exact Nat.le_refl _)] at this
        rw [← HV.out]
        exact this
      go_wp2_with fail
      go_ret
      exact ⟨ret_b HE.out.symm, HB2.out⟩

end Go.Proofs.Ythplhjdfajhmpaa

namespace Go.Proofs.Ythplhjdfajhmpaa
open Go.RowKit Go.PlainAid

set_option linter.unusedVariables false

/-- Rows whose blocks stay as they were. -/
theorem ownI_frame {B : Nat} {v : Value} {l : List Int} {w w' : World} (h : OwnI B v l w) (hf : ∀ i, B ≤ i → i < w.heap.size → w'.heap[i]? = w.heap[i]?) : OwnI B v l w' := by
  refine ⟨h.1, ?_⟩
  rcases h.2 with hv | ⟨b, cap, cur, hv, hB, hh, r⟩
  · exact .inl hv
  · exact .inr ⟨b, cap, cur, hv, hB, (hf b hB (lt_of_block hh)).trans hh, r⟩

theorem ownK_frame {B n c : Nat} {a : Option Addr} {l : List Bk} {w w' : World} (h : OwnK B (.slice a n c) l w) (hf : ∀ x, a = some x → w'.heap[x.block]? = w.heap[x.block]?) : OwnK B (.slice a n c) l w' := by
  refine ⟨h.1, ?_⟩
  rcases h.2 with hv | ⟨b, cap, cur, hv, hB, hh, r⟩
  · exact .inl hv
  · cases hv
    exact .inr ⟨b, c, cur, rfl, hB, (hf _ rfl).trans hh, r⟩

/-- A call that answers two numbers. -/
def Gives2 (p : Int × Int) (w : World) (e : Ending) (w' : World) : Prop := e = .returned (.tuple #[.int .i64 p.1, .int .i64 p.2]) ∧ Below w.heap.size w w'

set_option maxHeartbeats 16000000 in
set_option maxRecDepth 100000 in
theorem specFault_is (t : Tm) (g0 B g2 g3 : Int) (a : Option Addr) (n c : Nat) (L : List Ev) (N : Nat) (hN : bankN g0 B g2 g3 = (N : Int)) (v : Int × Int) (hv : traceF g0 B g2 g3 t N L = v) (hl : L.length = n) (h1 : n ≤ 3000000) (hc : n ≤ c) (w : World) (hr : evK.Row w a L) :
    Calls Try.prog 18 #[.agg #[.int .i64 g0, .int .i64 B, .int .i64 g2, .int .i64 g3], .agg #[.int .i64 t.rcd, .int .i64 t.rp, .int .i64 t.ras, .int .i64 t.rrds, .int .i64 t.rrdl, .int .i64 t.faw, .int .i64 t.ccds, .int .i64 t.ccdl, .int .i64 t.rtp, .int .i64 t.wr, .int .i64 t.wtrs, .int .i64 t.wtrl, .int .i64 t.rtw, .int .i64 t.rfc, .int .i64 t.cke, .int .i64 t.xp, .int .i64 t.xs], .slice a n c] w (Gives2 v w) := by
  obtain ⟨w1, hw1⟩ : ∃ u, (w.alloc (.cells #[.int .i64 g0, .int .i64 B, .int .i64 g2, .int .i64 g3] 25)).alloc (.cells #[.int .i64 t.rcd, .int .i64 t.rp, .int .i64 t.ras, .int .i64 t.rrds, .int .i64 t.rrdl, .int .i64 t.faw, .int .i64 t.ccds, .int .i64 t.ccdl, .int .i64 t.rtp, .int .i64 t.wr, .int .i64 t.wtrs, .int .i64 t.wtrl, .int .i64 t.rtw, .int .i64 t.rfc, .int .i64 t.cke, .int .i64 t.xp, .int .i64 t.xs] 27) = u := ⟨_, rfl⟩
  have HB1 : Hid (Below w.heap.size w w1) := by subst hw1; exact ((Below.refl _ _).alloc (Nat.le_refl _) _).alloc (by simp) _
  have g1 : w1.heap[w.heap.size]? = some (.cells #[.int .i64 g0, .int .i64 B, .int .i64 g2, .int .i64 g3] 25) := by subst hw1; exact heap_alloc2_old _ _ _
  have p1 : w1.heap[w.heap.size + 1]? = some (.cells #[.int .i64 t.rcd, .int .i64 t.rp, .int .i64 t.ras, .int .i64 t.rrds, .int .i64 t.rrdl, .int .i64 t.faw, .int .i64 t.ccds, .int .i64 t.ccdl, .int .i64 t.rtp, .int .i64 t.wr, .int .i64 t.wtrs, .int .i64 t.wtrl, .int .i64 t.rtw, .int .i64 t.rfc, .int .i64 t.cke, .int .i64 t.xp, .int .i64 t.xs] 27) := by subst hw1; exact heap_alloc2_new _ _ _
  have HS1 : Hid (w.heap.size + 1 < w1.heap.size) := lt_of_block p1
  have HR := Lib.hid (hr.below HB1.out)
  have HL := Lib.hid hl
  have HV := Lib.hid hv
  have HNN := Lib.hid hN
  obtain ⟨c0, c1, c2, c3⟩ := cells4 g1
  clear hr hl hv hN
  by_cases hg : GeoOk g0 B g2 g3
  case neg =>
    have HE : Hid (v = (1, -1)) := by show _ = _; rw [← HV.out]; exact if_neg (fun h => hg h.1)
    have K := Lib.hid (decide_eq_false hg)
    clear hg
    go_enter Try.func18, Try.ntmps18
    go_wp2_with fail
    refine (specGeoOk_is _ _ _ _ _ K.out _).mono ?_
    rintro e w2 ⟨rfl, hb2⟩
    have HB2 : Hid (Below w.heap.size w w2) := HB1.out.trans (hb2.mono HB1.out.size)
    clear hb2
    go_wp2
    (try simp only [Exit.inBlock, Exit.then])
    refine bodyPost_ret (v := .tuple #[.int .i64 (1), .int .i64 (-1)]) (by simp [results, Try.results18, go_sem]) rfl ⟨by rw [HE.out], HB2.out⟩
  have K := Lib.hid (decide_eq_true hg)
  by_cases ht : TimOk t
  case neg =>
    have HE : Hid (v = (1, -1)) := by show _ = _; rw [← HV.out]; exact if_neg (fun h => ht h.2.1)
    have KT := Lib.hid (decide_eq_false ht)
    clear hg ht
    go_enter Try.func18, Try.ntmps18
    go_wp2_with fail
    refine (specGeoOk_is _ _ _ _ _ K.out _).mono ?_
    rintro e w2 ⟨rfl, hb2⟩
    have p2 := keep_block hb2 p1 (lt_of_block p1)
    have HB2 : Hid (Below w.heap.size w w2) := HB1.out.trans (hb2.mono HB1.out.size)
    clear hb2 c0 c1 c2 c3
    go_wp2_with ((with_reducible refine ld_tm ?_ ?_ p2 ?_); kernel_rfl; kernel_rfl; go_simp)
    refine (specTimOk_is t _ KT.out _).mono ?_
    rintro e w3 ⟨rfl, hb3⟩
    have HB3 : Hid (Below w.heap.size w w3) := HB2.out.trans (hb3.mono HB2.out.size)
    clear hb3
    go_wp2
    (try simp only [Exit.inBlock, Exit.then])
    refine bodyPost_ret (v := .tuple #[.int .i64 (1), .int .i64 (-1)]) (by simp [results, Try.results18, go_sem]) rfl ⟨by rw [HE.out], HB3.out⟩
  have KT := Lib.hid (decide_eq_true ht)
  by_cases hm : n ≤ 2000
  case neg =>
    have HE : Hid (v = (1, -1)) := by show _ = _; rw [← HV.out]; exact if_neg (fun h => hm (by rw [← HL.out]; exact h.2.2))
    have tn : decide (2000 < n) = true := decide_eq_true (by omega)
    have tn' : decide ((2000 : Int) < (n : Int)) = true := decide_eq_true (by omega)
    clear hg ht
    go_enter Try.func18, Try.ntmps18
    go_wp2_with fail
    refine (specGeoOk_is _ _ _ _ _ K.out _).mono ?_
    rintro e w2 ⟨rfl, hb2⟩
    have p2 := keep_block hb2 p1 (lt_of_block p1)
    have HB2 : Hid (Below w.heap.size w w2) := HB1.out.trans (hb2.mono HB1.out.size)
    clear hb2 c0 c1 c2 c3
    go_wp2_with ((with_reducible refine ld_tm ?_ ?_ p2 ?_); kernel_rfl; kernel_rfl; go_simp)
    refine (specTimOk_is t _ KT.out _).mono ?_
    rintro e w3 ⟨rfl, hb3⟩
    have HB3 : Hid (Below w.heap.size w w3) := HB2.out.trans (hb3.mono HB2.out.size)
    clear hb3
    go_wp2
    (try simp only [Exit.inBlock, Exit.then])
    refine bodyPost_ret (v := .tuple #[.int .i64 (1), .int .i64 (-1)]) (by simp [results, Try.results18, go_sem]) rfl ⟨by rw [HE.out], HB3.out⟩
  have tn : decide (2000 < n) = false := decide_eq_false (by omega)
  have tn' : decide ((2000 : Int) < (n : Int)) = false := decide_eq_false (by omega)
  have HBB : Hid (1 ≤ B ∧ B ≤ 4) := hg.2.1
  have HVF : Hid (fstF (evF g0 B g2 g3 t N) [] L = v) := by
    show _ = _
    rw [← HV.out]
    exact (if_pos ⟨hg, ht, by rw [HL.out]; exact hm⟩).symm
  have HRK : Hid (∀ k, TrOk g0 B g2 g3 t N (L.take k) → RkOk g0 B g2 g3 (stL N (L.take k)) (stP (L.take k))) := fun k h => (st_ok hg HNN.out h).1
  obtain ⟨i0, hi, hz0, hz1, hz2⟩ := info_parts infoI
  have hN8 : N ≤ 8 := by have := bankN_range g0 B g2 g3; have := HNN.out; omega
  clear hg ht HV
  go_enter Try.func18, Try.ntmps18
  go_wp2_with fail
  refine (specGeoOk_is _ _ _ _ _ K.out _).mono ?_
  rintro e w2' ⟨rfl, hb2'⟩
  have gb2 := keep_block hb2' g1 (lt_of_block g1)
  have p2' := keep_block hb2' p1 (lt_of_block p1)
  have HB2' : Hid (Below w1.heap.size w1 w2') := hb2'
  clear hb2' c0 c1 c2 c3
  go_wp2_with ((with_reducible refine ld_tm ?_ ?_ p2' ?_); kernel_rfl; kernel_rfl; go_simp)
  refine (specTimOk_is t _ KT.out _).mono ?_
  rintro e w3' ⟨rfl, hb3'⟩
  have gb3 := keep_block hb3' gb2 (lt_of_block gb2)
  have p3' := keep_block hb3' p2' (lt_of_block p2')
  have HB3' : Hid (Below w1.heap.size w1 w3') := HB2'.out.trans (hb3'.mono HB2'.out.size)
  clear hb3' gb2 p2' HB2'
  obtain ⟨c0, c1, c2, c3⟩ := cells4 gb3
  go_wp2_with fail
  refine (specRankNew_is _ _ _ _ N HNN.out _).mono ?_
  rintro e w2 ⟨aa, cc, rfl, own2, hb2⟩
  have gb4 := keep_block hb2 gb3 (lt_of_block gb3)
  have p2 := keep_block hb2 p3' (lt_of_block p3')
  have HB2 : Hid (Below w1.heap.size w1 w2) := HB3'.out.trans (hb2.mono HB3'.out.size)
  have own2' : OwnK w1.heap.size (.slice aa N cc) (List.replicate N bk0) w2 := own2.mono HB3'.out.size
  have HAA : Hid (∀ x, aa = some x → x.block < w2.heap.size) := fun x hx => (own2'.lo x hx).2
  have HS2 : Hid (w1.heap.size ≤ w2.heap.size) := HB2.out.size
  clear hb2 own2 c0 c1 c2 c3 gb3 p3' HB3'
  have hb3 : Below w2.heap.size w2 (w2.alloc (.cells #[.slice aa N cc, .int .i64 0] 83)) := (Below.refl _ _).alloc (Nat.le_refl _) _
  have HS3 : Hid ((w2.alloc (.cells #[.slice aa N cc, .int .i64 0] 83)).heap.size = w2.heap.size + 1) := by show _ = _; simp
  have r3 : (w2.alloc (.cells #[.slice aa N cc, .int .i64 0] 83)).heap[w2.heap.size]? = some (.cells #[.slice aa N cc, .int .i64 0] 83) := heap_alloc_new _ _
  have gb5 := keep_block hb3 gb4 (lt_of_block gb4)
  have p3 := keep_block hb3 p2 (lt_of_block p2)
  have own3 := own2'.below hb3
  have HB3 : Hid (Below w1.heap.size w1 (w2.alloc (.cells #[.slice aa N cc, .int .i64 0] 83))) := HB2.out.trans (hb3.mono HB2.out.size)
  have A4 : Hid (OwnI (w2.alloc (.cells #[.slice aa N cc, .int .i64 0] 83)).heap.size (.slice (some ⟨(w2.alloc (.cells #[.slice aa N cc, .int .i64 0] 83)).heap.size, 0, none⟩) 0 0) [] ((w2.alloc (.cells #[.slice aa N cc, .int .i64 0] 83)).alloc (.cells #[] 3))) := World.ownsRow_made (w2.alloc (.cells #[.slice aa N cc, .int .i64 0] 83)) #[] 0 (Nat.le_refl _) (by decide) rfl
  have hb4 : Below (w2.alloc (.cells #[.slice aa N cc, .int .i64 0] 83)).heap.size (w2.alloc (.cells #[.slice aa N cc, .int .i64 0] 83)) ((w2.alloc (.cells #[.slice aa N cc, .int .i64 0] 83)).alloc (.cells #[] 3)) := (Below.refl _ _).alloc (Nat.le_refl _) _
  have ST : Hid (((w2.alloc (.cells #[.slice aa N cc, .int .i64 0] 83)).alloc (.cells #[] 3)).heap[w.heap.size]? = some (.cells #[.int .i64 g0, .int .i64 B, .int .i64 g2, .int .i64 g3] 25) ∧ ((w2.alloc (.cells #[.slice aa N cc, .int .i64 0] 83)).alloc (.cells #[] 3)).heap[w.heap.size + 1]? = some (.cells #[.int .i64 t.rcd, .int .i64 t.rp, .int .i64 t.ras, .int .i64 t.rrds, .int .i64 t.rrdl, .int .i64 t.faw, .int .i64 t.ccds, .int .i64 t.ccdl, .int .i64 t.rtp, .int .i64 t.wr, .int .i64 t.wtrs, .int .i64 t.wtrl, .int .i64 t.rtw, .int .i64 t.rfc, .int .i64 t.cke, .int .i64 t.xp, .int .i64 t.xs] 27) ∧
      ((w2.alloc (.cells #[.slice aa N cc, .int .i64 0] 83)).alloc (.cells #[] 3)).heap[w2.heap.size]? = some (.cells #[.slice aa N cc, .int .i64 0] 83) ∧ OwnK w1.heap.size (.slice aa N cc) (List.replicate N bk0) ((w2.alloc (.cells #[.slice aa N cc, .int .i64 0] 83)).alloc (.cells #[] 3)) ∧ Below w1.heap.size w1 ((w2.alloc (.cells #[.slice aa N cc, .int .i64 0] 83)).alloc (.cells #[] 3))) :=
    ⟨keep_block hb4 gb5 (lt_of_block gb5), keep_block hb4 p3 (lt_of_block p3), keep_block hb4 r3 (lt_of_block r3), own3.below hb4, HB3.out.trans (hb4.mono HB3.out.size)⟩
  clear hb3 own2' gb4 p2 HB2 hb4 own3 gb5 p3 r3 HB3
  go_wp2_with fail
  generalize (w2.alloc (.cells #[.slice aa N cc, .int .i64 0] 83)) = w3 at HS3 A4 ST ⊢
  go_loopw [9, 10] (fun u i wr => ∃ k : Nat, k ≤ n ∧ i = .int .i64 k ∧ TrOk g0 B g2 g3 t N (L.take k) ∧ wr.heap[w.heap.size]? = some (.cells #[.int .i64 g0, .int .i64 B, .int .i64 g2, .int .i64 g3] 25) ∧ wr.heap[w.heap.size + 1]? = some (.cells #[.int .i64 t.rcd, .int .i64 t.rp, .int .i64 t.ras, .int .i64 t.rrds, .int .i64 t.rrdl, .int .i64 t.faw, .int .i64 t.ccds, .int .i64 t.ccdl, .int .i64 t.rtp, .int .i64 t.wr, .int .i64 t.wtrs, .int .i64 t.wtrl, .int .i64 t.rtw, .int .i64 t.rfc, .int .i64 t.cke, .int .i64 t.xp, .int .i64 t.xs] 27) ∧
      wr.heap[w2.heap.size]? = some (.cells #[.slice aa N cc, .int .i64 (stP (L.take k))] 83) ∧ OwnK w1.heap.size (.slice aa N cc) (stL N (L.take k)) wr ∧ OwnI w3.heap.size u (actsT (L.take k)) wr ∧ Below w1.heap.size w1 wr ∧ w3.heap.size ≤ wr.heap.size) (fun _ i _ => n - (intOf i).toNat)
  case atStart => exact ⟨0, Nat.zero_le _, rfl, TrOk.nil, ST.out.1, ST.out.2.1, ST.out.2.2.1, ST.out.2.2.2.1, by have h := A4.out; rw [HS3.out] at h ⊢; exact h, ST.out.2.2.2.2, by simp⟩
  case round =>
    obtain ⟨m, hm', rfl, htr, gr, pr, rr, ownr, actr, hbr, hsr⟩ := hrel
    obtain ⟨ua, uc, rfl⟩ := actr.shape
    generalize hal : (actsT (L.take m)).length = al at actr ⊢
    have HAL := Lib.hid hal
    have HAM : Hid (al ≤ m) := by have := actsT_length (L.take m); rw [hal, List.length_take] at this; show _ ≤ _; omega
    clear hal
    have HTR := Lib.hid htr
    have HOR := Lib.hid ownr
    have HAR := Lib.hid actr
    have HBR := Lib.hid hbr
    have HSR := Lib.hid hsr
    have HBW : Hid (Below w.heap.size w wr) := HB1.out.trans (hbr.mono HB1.out.size)
    clear htr ownr actr hbr hsr ST A4
    by_cases hlt : m < n
    case neg =>
      obtain rfl : m = n := by omega
      have HE : Hid (v = (0, -1)) := by
        show _ = _
        have h := fstF_none HTR.out
        rw [List.take_of_length_le (by rw [HL.out]; exact Nat.le_refl _)] at h
        rw [← HVF.out]
        exact h
      go_wp2_with fail
      (try simp only [Exit.inBlock, Exit.then])
      refine bodyPost_ret (v := .tuple #[.int .i64 (0), .int .i64 (-1)]) (by simp [results, Try.results18, go_sem]) rfl ⟨by rw [HE.out], HBW.out⟩
    have hml : m < L.length := by rw [HL.out]; exact hlt
    have HT := Lib.hid (take_snoc hml)
    have BAD : Hid (∀ c, c ≠ 0 → evF g0 B g2 g3 t N (L.take m) (L.getD m ev0) = c → v = (c, (m : Int))) := fun c h0 hc => HVF.out.symm.trans (fst_bad HTR.out hml hc h0)
    have GOOD : Hid (evF g0 B g2 g3 t N (L.take m) (L.getD m ev0) = 0 → TrOk g0 B g2 g3 t N (L.take (m + 1))) := fun hc => HTR.out.next hml hc
    have HPA : Hid (∀ e, 0 < m → (Past (L.take m) e ↔ (L.getD (m - 1) ev0).t < e.t)) := fun e h0 => past_iff h0 (by omega)
    obtain ⟨b, off, rfl, a0, a1, a2, a3, a4⟩ := ev_at (HR.out.below HBR.out) (i := m) hml
    have PREV : Hid (0 < m → wr.cell? ⟨b, off + (m - 1) * 5, none⟩ = some (.int .i64 (L.getD (m - 1) ev0).t)) := fun h0 => by
      obtain ⟨b', off', hb', d0, _⟩ := ev_at (HR.out.below HBR.out) (i := m - 1) (by omega)
      cases hb'
      exact d0
    obtain ⟨e, he⟩ : ∃ e, L.getD m ev0 = e := ⟨_, rfl⟩
    rw [he] at a0 a1 a2 a3 a4 BAD GOOD HT
    obtain ⟨wn, hwn⟩ : ∃ u, wr.alloc (.cells #[.int .i64 e.t, .int .i64 e.k, .int .i64 e.x, .int .i64 e.y, .int .i64 e.z] 41) = u := ⟨_, rfl⟩
    have hbn : Below wr.heap.size wr wn := by subst hwn; exact (Below.refl _ _).alloc (Nat.le_refl _) _
    have HSN : Hid (wn.heap.size = wr.heap.size + 1) := by subst hwn; show _ = _; simp
    have qn : wn.heap[wr.heap.size]? = some (.cells #[.int .i64 e.t, .int .i64 e.k, .int .i64 e.x, .int .i64 e.y, .int .i64 e.z] 41) := by subst hwn; exact heap_alloc_new _ _
    have gn := keep_block hbn gr (lt_of_block gr)
    have pn := keep_block hbn pr (lt_of_block pr)
    have rn := keep_block hbn rr (lt_of_block rr)
    have HON := Lib.hid (HOR.out.below hbn)
    have HAN := Lib.hid (HAR.out.below hbn)
    have HBN : Hid (Below w1.heap.size w1 wn) := HBR.out.trans (hbn.mono HBR.out.size)
    have PREVN : Hid (0 < m → wn.cell? ⟨b, off + (m - 1) * 5, none⟩ = some (.int .i64 (L.getD (m - 1) ev0).t)) := fun h0 => (hbn.cell (World.block_lt_of_cell? _ _ (PREV.out h0))).trans (PREV.out h0)
    obtain ⟨q0, q1, q2, q3, q4⟩ := cells5 qn
    obtain ⟨gc0, gc1, gc2, gc3⟩ := cells4 gn
    have zq0 := fun q : Later wn => q.cell q0
    have zq1 := fun q : Later wn => q.cell q1
    have zq2 := fun q : Later wn => q.cell q2
    have zq3 := fun q : Later wn => q.cell q3
    have zq4 := fun q : Later wn => q.cell q4
    have zg0 := fun q : Later wn => q.cell gc0
    have zg1 := fun q : Later wn => q.cell gc1
    have zg2 := fun q : Later wn => q.cell gc2
    have zg3 := fun q : Later wn => q.cell gc3
    clear hbn q0 q1 q2 q3 q4 gc0 gc1 gc2 gc3 PREV HOR HAR
    by_cases hC : CmdIn g0 B g2 g3 e
    case neg =>
      have HE : Hid (v = (1, (m : Int))) := BAD.out 1 (by decide) (evF_form (fun h => hC h.1))
      have KC := Lib.hid (decide_eq_false hC)
      clear hC
      go_wp2_with fail
      refine wp_region_later (by kernel_rfl) (by kernel_rfl) ?_
      repeat (go_big_quiet_step ((go_at_call 50; exact Gives.later _ (specCommandOk_is g0 B g2 g3 e.k e.x e.y e.z _ KC.out _))))
      refine wpQuiet_nil ?_
      rintro w5 ⟨zz, rfl⟩
      have HB5 : Hid (Below w.heap.size w zz.to) := HB1.out.trans ((HBN.out.trans (zz.ok.mono HBN.out.size)).mono HB1.out.size)
      go_wp2
      (try simp only [Exit.inBlock, Exit.then])
      refine bodyPost_ret (v := .tuple #[.int .i64 (1), .int .i64 (m)]) (by simp [results, Try.results18, go_sem]) rfl ⟨by rw [HE.out], HB5.out⟩
    have KC := Lib.hid (decide_eq_true hC)
    by_cases hT : 0 ≤ e.t ∧ e.t ≤ 1000000
    case neg =>
      have HE : Hid (v = (1, (m : Int))) := BAD.out 1 (by decide) (evF_form (fun h => hT h.2.1))
      have KI := Lib.hid (decide_eq_false hT)
      clear hC hT
      go_wp2_with fail
      refine wp_region_later (by kernel_rfl) (by kernel_rfl) ?_
      repeat (go_big_quiet_step (first | (go_at_call 50; exact Gives.later _ (specCommandOk_is g0 B g2 g3 e.k e.x e.y e.z _ KC.out _)) | (go_at_call 51; exact Gives.later_same _ (specIn_is _ _ _ _ KI.out _))))
      refine wpQuiet_nil ?_
      rintro w5 ⟨zz, rfl⟩
      have HB5 : Hid (Below w.heap.size w zz.to) := HB1.out.trans ((HBN.out.trans (zz.ok.mono HBN.out.size)).mono HB1.out.size)
      go_wp2
      (try simp only [Exit.inBlock, Exit.then])
      refine bodyPost_ret (v := .tuple #[.int .i64 (1), .int .i64 (m)]) (by simp [results, Try.results18, go_sem]) rfl ⟨by rw [HE.out], HB5.out⟩
    have KI := Lib.hid (decide_eq_true hT)
    have HEI : Hid (EvIn e) := ⟨hT, hC.1.2.1⟩
    have HKK : Hid (1 ≤ e.k ∧ e.k ≤ 9) := hC.1.1
    have FORM : Hid (Past (L.take m) e → FormE g0 B g2 g3 (L.take m) e) := fun h => ⟨hC, hT, h⟩
    have HXX : Hid (0 ≤ e.x ∧ e.x < (N : Int)) := bank_in (k := e.k) (stL_length N (L.take m)) (HRK.out m HTR.out) hC.2
    clear hC hT
    by_cases hA : 0 < m ∧ ¬ ((L.getD (m - 1) ev0).t < e.t)
    case pos =>
      have t0 : decide (0 < m) = true := decide_eq_true hA.1
      have t0' : decide ((0 : Int) < (m : Int)) = true := decide_eq_true (by have := hA.1; omega)
      have wm : IntKind.i64.wrap ((m : Int) - 1) = ((m - 1 : Nat) : Int) := by have := hA.1; rw [IntWalk.i64_in _ (by omega)]; omega
      have hm1 : m - 1 < n := by have := hA.1; omega
      have zp := fun q : Later wn => q.cell (PREVN.out hA.1)
      have HPE := Lib.hid (HPA.out e hA.1)
      obtain ⟨pt, hpt⟩ : ∃ pt, (L.getD (m - 1) ev0).t = pt := ⟨_, rfl⟩
      simp only [hpt] at zp
      rw [hpt] at HPE
      have hpast : ¬ (pt < e.t) := by rw [← hpt]; exact hA.2
      have HPN : Hid (¬ Past (L.take m) e) := fun h => hpast (HPE.out.1 h)
      clear hpt hA
      have HE : Hid (v = (1, (m : Int))) := BAD.out 1 (by decide) (evF_form (fun h => HPN.out h.2.2))
      have tp : decide (e.t ≤ pt) = true := decide_eq_true (by omega)
      clear hpast
      go_wp2_with fail
      refine wp_region_later (by kernel_rfl) (by kernel_rfl) ?_
      repeat (go_big_quiet_step (first | (go_at_call 50; exact Gives.later _ (specCommandOk_is g0 B g2 g3 e.k e.x e.y e.z _ KC.out _)) | (go_at_call 51; exact Gives.later_same _ (specIn_is _ _ _ _ KI.out _))))
      refine wpQuiet_nil ?_
      rintro w5 ⟨zz, rfl⟩
      have HB5 : Hid (Below w.heap.size w zz.to) := HB1.out.trans ((HBN.out.trans (zz.ok.mono HBN.out.size)).mono HB1.out.size)
      go_wp2
      (try simp only [Exit.inBlock, Exit.then])
      refine bodyPost_ret (v := .tuple #[.int .i64 (1), .int .i64 (m)]) (by simp [results, Try.results18, go_sem]) rfl ⟨by rw [HE.out], HB5.out⟩
    by_cases h0 : 0 < m
    case' pos =>
      have t0 : decide (0 < m) = true := decide_eq_true h0
      have t0' : decide ((0 : Int) < (m : Int)) = true := decide_eq_true (by omega)
      have wm : IntKind.i64.wrap ((m : Int) - 1) = ((m - 1 : Nat) : Int) := by rw [IntWalk.i64_in _ (by omega)]; omega
      have hm1 : m - 1 < n := by omega
      have zp := fun q : Later wn => q.cell (PREVN.out h0)
      have HPE := Lib.hid (HPA.out e h0)
      obtain ⟨pt, hpt⟩ : ∃ pt, (L.getD (m - 1) ev0).t = pt := ⟨_, rfl⟩
      simp only [hpt] at zp
      rw [hpt] at HPE
      have hpast : pt < e.t := by rw [← hpt]; exact Decidable.byContradiction (fun h => hA ⟨h0, h⟩)
      clear hpt
      have FE : Hid (FormE g0 B g2 g3 (L.take m) e) := FORM.out (HPE.out.2 hpast)
      have tp : decide (e.t ≤ pt) = false := decide_eq_false (by omega)
      clear hpast HPE
      go_wp2_with fail
      refine wp_region_later (by kernel_rfl) (by kernel_rfl) ?_
      repeat (go_big_quiet_step (first | (go_at_call 50; exact Gives.later _ (specCommandOk_is g0 B g2 g3 e.k e.x e.y e.z _ KC.out _)) | (go_at_call 51; exact Gives.later_same _ (specIn_is _ _ _ _ KI.out _))))
      refine wpQuiet_nil ?_
      rintro w5 ⟨zz, hzz⟩
      have hb5 : Below wn.heap.size wn w5 := hzz ▸ zz.ok
      clear hzz zz zp t0 t0' wm hm1 tp
    case' neg =>
      have FE : Hid (FormE g0 B g2 g3 (L.take m) e) := FORM.out (by obtain rfl : m = 0 := by omega
                                                                    exact past_zero)
      have t0 : decide (0 < m) = false := decide_eq_false h0
      have t0' : decide ((0 : Int) < (m : Int)) = false := decide_eq_false (by omega)
      go_wp2_with fail
      refine wp_region_later (by kernel_rfl) (by kernel_rfl) ?_
      repeat (go_big_quiet_step (first | (go_at_call 50; exact Gives.later _ (specCommandOk_is g0 B g2 g3 e.k e.x e.y e.z _ KC.out _)) | (go_at_call 51; exact Gives.later_same _ (specIn_is _ _ _ _ KI.out _))))
      refine wpQuiet_nil ?_
      rintro w5 ⟨zz, hzz⟩
      have hb5 : Below wn.heap.size wn w5 := hzz ▸ zz.ok
      clear hzz zz t0 t0'
    all_goals
      clear hA h0 zq0 zq1 zq2 zq3 zq4 zg0 zg1 zg2 zg3 a0 a1 a2 a3 a4 PREVN HPA FORM KC KI
      have g5 := keep_block hb5 gn (lt_of_block gn)
      have p5 := keep_block hb5 pn (lt_of_block pn)
      have r5 := keep_block hb5 rn (lt_of_block rn)
      have q5 := keep_block hb5 qn (lt_of_block qn)
      have own5 := HON.out.below hb5
      have act5 := HAN.out.below hb5
      have HB5 : Hid (Below w1.heap.size w1 w5) := HBN.out.trans (hb5.mono HBN.out.size)
      have HSZ5 : Hid (wr.heap.size < w5.heap.size) := by have := hb5.size; have := HSN.out; show _ < _; omega
      clear hb5 gn pn rn qn HON HAN hwn
      obtain ⟨d0, d1⟩ := cells2 r5
      obtain ⟨q0, q1, q2, q3, q4⟩ := cells5 q5
      obtain ⟨mv, hmv⟩ : ∃ mv, mayR (stL N (L.take m)) (stP (L.take m)) e.k e.x = mv := ⟨_, rfl⟩
      have HMV := Lib.hid hmv
      have HRB := Lib.hid own5.row
      clear hmv
      go_wp2_with fail
      refine (specMay_is aa N cc (stL N (L.take m)) (stP (L.take m)) e.k e.x e.y e.z mv HMV.out HKK.out (fun _ => HXX.out) (stL_length _ _) (by omega) _ HRB.out).mono ?_
      rintro e' w6 ⟨rfl, hb6⟩
      have g6 := keep_block hb6 g5 (lt_of_block g5)
      have p6 := keep_block hb6 p5 (lt_of_block p5)
      have r6 := keep_block hb6 r5 (lt_of_block r5)
      have q6 := keep_block hb6 q5 (lt_of_block q5)
      have own6 := own5.below hb6
      have act6 := act5.below hb6
      have HB6 : Hid (Below w1.heap.size w1 w6) := HB5.out.trans (hb6.mono HB5.out.size)
      have HB6' : Hid (Below w.heap.size w w6) := HB1.out.trans (HB6.out.mono HB1.out.size)
      have HSZ6 : Hid (wr.heap.size < w6.heap.size) := Nat.lt_of_lt_of_le HSZ5.out hb6.size
      clear hb6 g5 p5 r5 q5 own5 act5 HB5 HSZ5 HRB d0 d1 q0 q1 q2 q3 q4
      cases mv
      case false =>
        have HE : Hid (v = (2, (m : Int))) := BAD.out 2 (by decide) (evF_may FE.out HMV.out)
        go_wp2
        (try simp only [Exit.inBlock, Exit.then])
        refine bodyPost_ret (v := .tuple #[.int .i64 (2), .int .i64 (m)]) (by simp [results, Try.results18, go_sem]) rfl ⟨by rw [HE.out], HB6'.out⟩
      case true =>
        have HNE : Hid (∀ x, aa = some x → x.block ≠ w2.heap.size) := fun x hx => by have := HAA.out x hx; omega
        have HDO := Lib.hid (specDoX_is (B := w1.heap.size) (P := w2.heap.size) (y := e.y) (z := e.z) HKK.out (fun _ => HXX.out) (stL_length N (L.take m)) (by omega) r6 own6 HNE.out HS2.out)
        obtain ⟨q0, q1, q2, q3, q4⟩ := cells5 q6
        go_wp2_with fail
        refine HDO.out.mono ?_
        rintro e' w7 ⟨rfl, r7, own7, hb7, hf7⟩
        have g7 := keep_block hb7 g6 (by have := HS1.out; omega)
        have p7 := keep_block hb7 p6 (by have := HS1.out; omega)
        have q7 := (hf7 wr.heap.size HSZ6.out (by have := HSR.out; have := HS3.out; omega) (fun x hx => by have := HAA.out x hx; have := HSR.out; have := HS3.out; omega)).trans q6
        have act7 : OwnI w3.heap.size (.slice ua al uc) (actsT (L.take m)) w7 := ownI_frame act6 (fun i h1 h2 => hf7 i h2 (by have := HS3.out; omega) (fun x hx => by have := HAA.out x hx; have := HS3.out; omega))
        have HB7 : Hid (Below w1.heap.size w1 w7) := HB6.out.trans hb7
        have HSZ7 : Hid (wr.heap.size < w7.heap.size) := lt_of_block q7
        have HRT : Hid (evK.Row w7 (some ⟨b, off, none⟩) (L.take m)) := (HR.out.below HB7.out).take m
        clear hb7 hf7 g6 p6 r6 q6 own6 act6 HB6 HB6' HSZ6 HDO q0 q1 q2 q3 q4
        obtain ⟨gc0, gc1, gc2, gc3⟩ := cells4 g7
        obtain ⟨q0, q1, q2, q3, q4⟩ := cells5 q7
        have zq0 := fun q : Later w7 => q.cell q0
        have zq1 := fun q : Later w7 => q.cell q1
        have zq2 := fun q : Later w7 => q.cell q2
        have zq3 := fun q : Later w7 => q.cell q3
        have zq4 := fun q : Later w7 => q.cell q4
        have zg0 := fun q : Later w7 => q.cell gc0
        have zg1 := fun q : Later w7 => q.cell gc1
        have zg2 := fun q : Later w7 => q.cell gc2
        have zg3 := fun q : Later w7 => q.cell gc3
        obtain ⟨cv, hcv⟩ : ∃ cv, closeE B t (L.take m) e = cv := ⟨_, rfl⟩
        have HCV := Lib.hid hcv
        have HIN : Hid (∀ i, i < m → EvIn ((L.take m).getD i ev0)) := fun i hi => HTR.out.isIn (by rw [List.length_take]; omega)
        have HTL : Hid ((L.take m).length = m) := by show _ = _; rw [List.length_take]; omega
        have hmc : m ≤ c := by omega
        clear hcv q0 q1 q2 q3 q4 gc0 gc1 gc2 gc3
        go_wp2_with fail
        refine wp_region_later (by kernel_rfl) (by kernel_rfl) ?_
        repeat (first | ((with_reducible refine ld_later ?_ ?_ p7 ?_); kernel_rfl; kernel_rfl; go_simp) | go_big_quiet_step ((go_at_call 54; exact Gives.later _ (specClose_is t g0 B g2 g3 _ m _ (L.take m) e HBB.out HIN.out HEI.out cv HCV.out HTL.out (by omega) _ (HRT.out.below (Later.ok _))))))
        refine wpQuiet_nil ?_
        intro zz
        have g8 := zz.block g7
        have p8 := zz.block p7
        have r8 := zz.block r7
        have q8 := zz.block q7
        have own8 := own7.below zz.ok
        have act8 := act7.below zz.ok
        have HB8 : Hid (Below w1.heap.size w1 zz.to) := HB7.out.trans (zz.ok.mono HB7.out.size)
        have HB8' : Hid (Below w.heap.size w zz.to) := HB1.out.trans (HB8.out.mono HB1.out.size)
        have HSZ8 : Hid (w3.heap.size ≤ zz.to.heap.size) := Nat.le_trans HSR.out (Nat.le_trans (Nat.le_of_lt HSZ7.out) zz.ok.size)
        clear zq0 zq1 zq2 zq3 zq4 zg0 zg1 zg2 zg3 g7 p7 r7 q7 own7 act7 HB7 HRT HIN HTL HSZ7
        generalize zz.to = w8 at g8 p8 r8 q8 own8 act8 HB8 HB8' HSZ8 ⊢
        clear zz
        cases cv
        case true =>
          have HE : Hid (v = (3, (m : Int))) := BAD.out 3 (by decide) (evF_gap FE.out HMV.out HCV.out)
          go_wp2
          (try simp only [Exit.inBlock, Exit.then])
          refine bodyPost_ret (v := .tuple #[.int .i64 (3), .int .i64 (m)]) (by simp [results, Try.results18, go_sem]) rfl ⟨by rw [HE.out], HB8'.out⟩
        case false =>
          obtain ⟨q0, q1, q2, q3, q4⟩ := cells5 q8
          by_cases hk1 : e.k = 1
          case neg =>
            have tk : (e.k == 1) = false := by simp [hk1]
            have HZ := Lib.hid (GOOD.out (evF_zero.2 ⟨FE.out, HMV.out, HCV.out, fun h => hk1 h.1⟩))
            have RA : Hid (actsT (L.take (m + 1)) = actsT (L.take m)) := by show _ = _; rw [HT.out, actsT_snoc, if_neg hk1]
            clear hk1
            go_wp2_with fail
            go_roundw
            case rel => exact ⟨m + 1, by omega, by go_num, HZ.out, g8, p8, by rw [HT.out, stP_snoc]; exact r8, by rw [HT.out, stL_snoc]; exact own8, by rw [RA.out]; exact act8, HB8.out, HSZ8.out⟩
            case measure => simp [intOf]; omega
          case pos =>
            have tk : (e.k == 1) = true := by simp [hk1]
            have hll : (actsT (L.take m)).length ≤ n := by rw [HAL.out]; have := HAM.out; omega
            have hal4 : al ≤ n := by have := HAM.out; omega
            obtain ⟨A, hA⟩ : ∃ A, (actsT (L.take m)).getD (al - 4) 0 = A := ⟨_, rfl⟩
            have HA := Lib.hid hA
            have zq0 := fun q : Later w8 => q.cell q0
            obtain ⟨_, _, _, _, _, fw, _⟩ := tm_cells p8
            have zf := fun q : Later w8 => q.cell fw
            by_cases hbad : 4 ≤ al ∧ e.t - A < t.faw
            case pos =>
              have HE : Hid (v = (4, (m : Int))) := BAD.out 4 (by decide) (evF_faw FE.out HMV.out HCV.out ⟨hk1, by rw [HAL.out]; exact hbad.1, by rw [HAL.out, HA.out]; exact hbad.2⟩)
              have t4 : decide (4 ≤ al) = true := decide_eq_true hbad.1
              have t4' : decide ((4 : Int) ≤ (al : Int)) = true := decide_eq_true (by omega)
              have tq : decide (e.t - A < t.faw) = true := decide_eq_true hbad.2
              have hl4 : al - 4 < al := by omega
              have wl : IntKind.i64.wrap ((al : Int) - 4) = ((al - 4 : Nat) : Int) := by rw [IntWalk.i64_in _ (by omega)]; omega
              have hAr := HTR.out.acts (j := al - 4) (by rw [HAL.out]; omega)
              rw [hA] at hAr
              have wA : IntKind.i64.wrap (e.t - A) = e.t - A := IntWalk.i64_in _ (by have := HEI.out.1; omega)
              obtain ⟨ga, rfl, hca, _⟩ := act8.at (k := al - 4) (by rw [HAL.out]; omega)
              have hcA : w8.cell? ⟨ga, al - 4, none⟩ = some (.int .i64 A) := by
                rw [hca, ← hA, List.getD_eq_getElem?_getD, List.getElem?_eq_getElem (by rw [HAL.out]; omega)]
                rfl
              have za := fun q : Later w8 => q.cell hcA
              clear hbad hca hcA hAr hA q0 q1 q2 q3 q4
              obtain ⟨q0, q1, q2, q3, q4⟩ := cells5 q8
              go_wp2_with fail
              refine wp_region_later (by kernel_rfl) (by kernel_rfl) ?_
              repeat (go_big_quiet_step (fail))
              refine wpQuiet_nil ?_
              rintro w9 ⟨zz, hzz⟩
              have hb9 : Below w8.heap.size w8 w9 := hzz ▸ zz.ok
              have HB9 : Hid (Below w.heap.size w w9) := HB8'.out.trans (hb9.mono HB8'.out.size)
              go_wp2
              (try simp only [Exit.inBlock, Exit.then])
              refine bodyPost_ret (v := .tuple #[.int .i64 (4), .int .i64 (m)]) (by simp [results, Try.results18, go_sem]) rfl ⟨by rw [HE.out], HB9.out⟩
            have HZ := Lib.hid (GOOD.out (evF_zero.2 ⟨FE.out, HMV.out, HCV.out, fun h => hbad ⟨by rw [← HAL.out]; exact h.2.1, by have := h.2.2; rw [HAL.out, HA.out] at this; exact this⟩⟩))
            have RA : Hid (actsT (L.take (m + 1)) = actsT (L.take m) ++ [e.t]) := by show _ = _; rw [HT.out, actsT_snoc, if_pos hk1]
            by_cases h4 : 4 ≤ al
            case' pos =>
              have t4 : decide (4 ≤ al) = true := decide_eq_true h4
              have t4' : decide ((4 : Int) ≤ (al : Int)) = true := decide_eq_true (by omega)
              have tq : decide (e.t - A < t.faw) = false := decide_eq_false (fun h => hbad ⟨h4, h⟩)
              have hl4 : al - 4 < al := by omega
              have wl : IntKind.i64.wrap ((al : Int) - 4) = ((al - 4 : Nat) : Int) := by rw [IntWalk.i64_in _ (by omega)]; omega
              have hAr := HTR.out.acts (j := al - 4) (by rw [HAL.out]; omega)
              rw [hA] at hAr
              have wA : IntKind.i64.wrap (e.t - A) = e.t - A := IntWalk.i64_in _ (by have := HEI.out.1; omega)
              obtain ⟨ga, rfl, hca, _⟩ := act8.at (k := al - 4) (by rw [HAL.out]; omega)
              have hcA : w8.cell? ⟨ga, al - 4, none⟩ = some (.int .i64 A) := by
                rw [hca, ← hA, List.getD_eq_getElem?_getD, List.getElem?_eq_getElem (by rw [HAL.out]; omega)]
                rfl
              have za := fun q : Later w8 => q.cell hcA
              clear hca hcA hAr hA
              go_wp2_with fail
              refine wp_region_later (by kernel_rfl) (by kernel_rfl) ?_
              repeat (go_big_quiet_step (fail))
              refine wpQuiet_nil ?_
              rintro w9 ⟨zz, hzz⟩
              have hb9 : Below w8.heap.size w8 w9 := hzz ▸ zz.ok
              clear za tq wl wA hl4 t4 t4' hzz zz
            case' neg =>
              have t4 : decide (4 ≤ al) = false := decide_eq_false h4
              have t4' : decide ((4 : Int) ≤ (al : Int)) = false := decide_eq_false (by omega)
              clear hA
              go_wp2_with fail
              refine wp_region_later (by kernel_rfl) (by kernel_rfl) ?_
              repeat (go_big_quiet_step (fail))
              refine wpQuiet_nil ?_
              rintro w9 ⟨zz, hzz⟩
              have hb9 : Below w8.heap.size w8 w9 := hzz ▸ zz.ok
              clear t4 t4' hzz zz
            all_goals
              have g9 := keep_block hb9 g8 (lt_of_block g8)
              have p9 := keep_block hb9 p8 (lt_of_block p8)
              have r9 := keep_block hb9 r8 (lt_of_block r8)
              have q9 := keep_block hb9 q8 (lt_of_block q8)
              have own9 := own8.below hb9
              have act9 := act8.below hb9
              have HB9 : Hid (Below w1.heap.size w1 w9) := HB8.out.trans (hb9.mono HB8.out.size)
              have hs9 : w3.heap.size ≤ w9.heap.size := Nat.le_trans HSZ8.out hb9.size
              clear zq0 zf hbad h4 hk1 hb9 g8 p8 r8 q8 own8 act8 HB8 HB8' HSZ8 fw q0 q1 q2 q3 q4 HA
              obtain ⟨q0, q1, q2, q3, q4⟩ := cells5 q9
              go_wp2_with (at_builtin; refine wpList_append_own _ rfl _ _ 31 rfl w3.heap.size 3 i0 (.int .i64 0) 1 8 Try.underlying31 hi hz0 hz1 hz2 rfl (by decide) _ _ _ rfl (World.ownsRow.alloc act9 _) ⟨w9.heap.size, 0, none⟩ 1 1 [.int .i64 e.t] rfl rfl (cell_one_new _ _ _) (by intro u hu; simp at hu; subst hu; rfl) (by unfold maxLen; omega) (by omega) (by rw [World.size_alloc]; omega) ?_)
              intro v' w10 hown10 hgrow _
              have R : Hid (OwnI w3.heap.size v' (actsT (L.take (m + 1))) w10) := by
                have := ownI_more hown10
                rw [← RA.out] at this
                exact this
              have hrow : ∀ j, Value.ownBlock _ = some j → w3.heap.size ≤ j := fun j hj => (World.ownsRow.lt act9 j hj).1
              have hb10 : Below w3.heap.size w9 w10 := ((Below.refl w3.heap.size w9).alloc hs9 _).grown hgrow (by rw [World.size_alloc]; omega) hrow
              have g10 := keep_block hb10 g9 (by have := HS1.out; have := HS2.out; have := HS3.out; omega)
              have p10 := keep_block hb10 p9 (by have := HS1.out; have := HS2.out; have := HS3.out; omega)
              have r10 := keep_block hb10 r9 (by have := HS3.out; omega)
              have own10 := Lib.hid (ownK_frame own9 (fun x hx => hb10.block x.block (by have := HAA.out x hx; have := HS3.out; omega)))
              have HB10 : Hid (Below w1.heap.size w1 w10) := HB9.out.trans (hb10.mono (by have := HS2.out; have := HS3.out; omega))
              have HS10 : Hid (w3.heap.size ≤ w10.heap.size) := Nat.le_trans hs9 hb10.size
              clear hb10 hown10 hgrow act9 hrow own9 g9 p9 r9 q9 HB9
              go_wp2_with fail
              go_roundw
              case rel => exact ⟨m + 1, by omega, by go_num, HZ.out, g10, p10, by rw [HT.out, stP_snoc]; exact r10, by rw [HT.out, stL_snoc]; exact own10.out, R.out, HB10.out, HS10.out⟩
              case measure => simp [intOf]; omega

end Go.Proofs.Ythplhjdfajhmpaa

namespace Go.Proofs.Ythplhjdfajhmpaa
open Go.RowKit Go.PlainAid

set_option linter.unusedVariables false

set_option maxHeartbeats 4000000 in
theorem specActs_is (a : Option Addr) (n c : Nat) (L : List Ev) (hl : L.length = n) (h1 : n ≤ 3000000) (w : World) (hr : evK.Row w a L) :
    Calls Try.prog 126 #[.slice a n c] w (GivesI (actsT L) w) := by
  obtain ⟨i0, hi, hz0, hz1, hz2⟩ := info_parts infoI
  have HR := Lib.hid hr
  have HL := Lib.hid hl
  clear hr hl
  go_enter Try.func126, Try.ntmps126
  go_wp2_with fail
  go_loopw [3, 4] (fun v i wr => ∃ k : Nat, k ≤ n ∧ i = .int .i64 k ∧ OwnI w.heap.size v (actsT (L.take k)) wr ∧ Below w.heap.size w wr) (fun _ i _ => n - (intOf i).toNat)
  case atStart => exact ⟨0, Nat.zero_le _, rfl, World.ownsRow_made w #[] 0 (Nat.le_refl _) (by decide) rfl, (Below.refl _ _).alloc (Nat.le_refl _) _⟩
  case round =>
    obtain ⟨m, hm, rfl, hown, hbr⟩ := hrel
    have HO := Lib.hid hown
    have HBR := Lib.hid hbr
    clear hown hbr
    by_cases hlt : m < n
    · obtain ⟨b, off, rfl, a0, a1, _⟩ := ev_at (HR.out.below HBR.out) (i := m) (by rw [HL.out]; exact hlt)
      have HT := Lib.hid (take_snoc (L := L) (i := m) (by rw [HL.out]; exact hlt))
      have hll : (actsT (L.take m)).length ≤ n := Nat.le_trans (actsT_length _) (by rw [List.length_take]; omega)
      obtain ⟨e, he⟩ : ∃ e, L.getD m ev0 = e := ⟨_, rfl⟩
      rw [he] at a0 a1 HT
      clear he
      by_cases hk1 : e.k = 1
      · have tk : (e.k == 1) = true := by simp [hk1]
        have RA : Hid (actsT (L.take (m + 1)) = actsT (L.take m) ++ [e.t]) := by show _ = _; rw [HT.out, actsT_snoc, if_pos hk1]
        have own7 := HO.out
        have hbs := HBR.out.size
        clear HO hk1
        go_wp2_with (at_builtin; refine wpList_append_own _ rfl _ _ 31 rfl w.heap.size 3 i0 (.int .i64 0) 1 8 Try.underlying31 hi hz0 hz1 hz2 rfl (by decide) _ _ _ rfl (World.ownsRow.alloc own7 _) ⟨wr.heap.size, 0, none⟩ 1 1 [.int .i64 e.t] rfl rfl (cell_one_new _ _ _) (by intro u hu; simp at hu; subst hu; rfl) (by unfold maxLen; omega) (by omega) (by rw [World.size_alloc]; omega) ?_)
        intro v' w8 hown8 hgrow _
        have R : Hid (OwnI w.heap.size v' (actsT (L.take (m + 1))) w8) := by
          have := ownI_more hown8
          rw [← RA.out] at this
          exact this
        have hrow : ∀ j, Value.ownBlock u3 = some j → w.heap.size ≤ j := fun j hj => (World.ownsRow.lt own7 j hj).1
        have HB8 : Hid (Below w.heap.size w w8) := HBR.out.trans (((Below.refl w.heap.size wr).alloc hbs _).grown hgrow (by rw [World.size_alloc]; omega) hrow)
        clear hown8 hgrow own7 hrow HBR
        go_wp2_with fail
        go_roundw
        case rel => exact ⟨m + 1, by omega, by go_num, R.out, HB8.out⟩
        case measure => simp [intOf]; omega
      · have tk : (e.k == 1) = false := by simp [hk1]
        have RA : Hid (actsT (L.take (m + 1)) = actsT (L.take m)) := by show _ = _; rw [HT.out, actsT_snoc, if_neg hk1]
        clear hk1
        go_wp2_with fail
        go_roundw
        case rel => exact ⟨m + 1, by omega, by go_num, by rw [RA.out]; exact HO.out, HBR.out⟩
        case measure => simp [intOf]; omega
    · obtain rfl : m = n := by omega
      have hO := HO.out
      rw [List.take_of_length_le (by rw [HL.out]; exact Nat.le_refl _)] at hO
      obtain ⟨aa, cc, hv⟩ := hO.shape
      have HO2 := Lib.hid hO
      have HV := Lib.hid hv
      clear hO hv
      go_wp2_with fail
      go_ret
      refine ⟨aa, cc, by first | rfl | (rw [HV.out]; rfl), ?_, HBR.out⟩
      have := HO2.out
      rw [HV.out] at this
      exact this

/-- What spec.TraceEnd answers. -/
def EndL (g0 B g2 g3 : Int) (N : Nat) (L : List Ev) : List Bk := if endOk g0 B g2 g3 N L = true then stL N L else []

def EndP (g0 B g2 g3 : Int) (N : Nat) (L : List Ev) : Int := if endOk g0 B g2 g3 N L = true then stP L else 0

def SEnd : Prop := ∀ (g0 B g2 g3 : Int) (a : Option Addr) (n c : Nat) (L : List Ev) (N : Nat) (hN : bankN g0 B g2 g3 = (N : Int)) (n' : Nat) (l' : List Bk) (pw' : Int) (v : Bool) (hn' : l'.length = n') (hl' : EndL g0 B g2 g3 N L = l') (hp' : EndP g0 B g2 g3 N L = pw') (hv : (endOk g0 B g2 g3 N L && decide (GeoOk g0 B g2 g3)) = v) (hl : L.length = n) (h1 : n ≤ 3000000) (w : World) (hr : evK.Row w a L),
    Calls Try.prog 124 #[.agg #[.int .i64 g0, .int .i64 B, .int .i64 g2, .int .i64 g3], .slice a n c] w (GivesA n' l' pw' v w)

set_option maxHeartbeats 16000000 in
set_option maxRecDepth 100000 in
theorem specEarly_of (SE : Hid SEnd) (t : Tm) (g0 B g2 g3 : Int) (a : Option Addr) (n c : Nat) (L : List Ev) (k x y z : Int) (N : Nat) (hN : bankN g0 B g2 g3 = (N : Int)) (v : Int) (hv : earlyF g0 B g2 g3 t N L k x y z = v) (hl : L.length = n) (h1 : n ≤ 3000000) (hc : n ≤ c) (w : World) (hr : evK.Row w a L) :
    Calls Try.prog 107 #[.agg #[.int .i64 g0, .int .i64 B, .int .i64 g2, .int .i64 g3], .agg #[.int .i64 t.rcd, .int .i64 t.rp, .int .i64 t.ras, .int .i64 t.rrds, .int .i64 t.rrdl, .int .i64 t.faw, .int .i64 t.ccds, .int .i64 t.ccdl, .int .i64 t.rtp, .int .i64 t.wr, .int .i64 t.wtrs, .int .i64 t.wtrl, .int .i64 t.rtw, .int .i64 t.rfc, .int .i64 t.cke, .int .i64 t.xp, .int .i64 t.xs], .slice a n c, .agg #[.int .i64 k, .int .i64 x, .int .i64 y, .int .i64 z]] w (Gives (.int .i64 v) w) := by
  obtain ⟨w1, hw1⟩ : ∃ u, ((w.alloc (.cells #[.int .i64 g0, .int .i64 B, .int .i64 g2, .int .i64 g3] 25)).alloc (.cells #[.int .i64 t.rcd, .int .i64 t.rp, .int .i64 t.ras, .int .i64 t.rrds, .int .i64 t.rrdl, .int .i64 t.faw, .int .i64 t.ccds, .int .i64 t.ccdl, .int .i64 t.rtp, .int .i64 t.wr, .int .i64 t.wtrs, .int .i64 t.wtrl, .int .i64 t.rtw, .int .i64 t.rfc, .int .i64 t.cke, .int .i64 t.xp, .int .i64 t.xs] 27)).alloc (.cells #[.int .i64 k, .int .i64 x, .int .i64 y, .int .i64 z] 39) = u := ⟨_, rfl⟩
  have HB1 : Hid (Below w.heap.size w w1) := by subst hw1; exact (((Below.refl _ _).alloc (Nat.le_refl _) _).alloc (by simp) _).alloc (by simp; omega) _
  have g1 : w1.heap[w.heap.size]? = some (.cells #[.int .i64 g0, .int .i64 B, .int .i64 g2, .int .i64 g3] 25) := by subst hw1; exact box3_0 _ _ _ _
  have p1 : w1.heap[w.heap.size + 1]? = some (.cells #[.int .i64 t.rcd, .int .i64 t.rp, .int .i64 t.ras, .int .i64 t.rrds, .int .i64 t.rrdl, .int .i64 t.faw, .int .i64 t.ccds, .int .i64 t.ccdl, .int .i64 t.rtp, .int .i64 t.wr, .int .i64 t.wtrs, .int .i64 t.wtrl, .int .i64 t.rtw, .int .i64 t.rfc, .int .i64 t.cke, .int .i64 t.xp, .int .i64 t.xs] 27) := by subst hw1; exact box3_1 _ _ _ _
  have q1 : w1.heap[w.heap.size + 1 + 1]? = some (.cells #[.int .i64 k, .int .i64 x, .int .i64 y, .int .i64 z] 39) := by subst hw1; exact box3_2 _ _ _ _
  have HR := Lib.hid (hr.below HB1.out)
  have HL := Lib.hid hl
  have HV := Lib.hid hv
  have HNN := Lib.hid hN
  obtain ⟨code, hcode⟩ : ∃ code, traceF g0 B g2 g3 t N L = code := ⟨_, rfl⟩
  have HCODE := Lib.hid hcode
  obtain ⟨l', hl'⟩ : ∃ l', EndL g0 B g2 g3 N L = l' := ⟨_, rfl⟩
  have HLL := Lib.hid hl'
  obtain ⟨pw', hp'⟩ : ∃ pw', EndP g0 B g2 g3 N L = pw' := ⟨_, rfl⟩
  have HPP := Lib.hid hp'
  obtain ⟨vv, hvv⟩ : ∃ vv, (endOk g0 B g2 g3 N L && decide (GeoOk g0 B g2 g3)) = vv := ⟨_, rfl⟩
  have HVV := Lib.hid hvv
  obtain ⟨n', hn'⟩ : ∃ n', l'.length = n' := ⟨_, rfl⟩
  have HNP := Lib.hid hn'
  have HN8 : Hid (N ≤ 8) := by have := bankN_range g0 B g2 g3; show _ ≤ _; omega
  have HN48 : Hid (n' ≤ 8) := by
    show _ ≤ _
    rw [← hn', ← hl']
    unfold EndL
    split
    · rw [stL_length]; exact HN8.out
    · exact Nat.zero_le _
  obtain ⟨c0, c1, c2, c3⟩ := cells4 g1
  clear hr hl hv hN hcode hl' hp' hvv hn'
  go_enter Try.func107, Try.ntmps107
  go_wp2_with ((with_reducible refine ld_tm ?_ ?_ p1 ?_); kernel_rfl; kernel_rfl; go_simp)
  refine (specFault_is t g0 B g2 g3 a n c L N HNN.out code HCODE.out HL.out h1 hc _ HR.out).mono ?_
  rintro e w2 ⟨rfl, hb2⟩
  have gb2 := keep_block hb2 g1 (lt_of_block g1)
  have p2 := keep_block hb2 p1 (lt_of_block p1)
  have q2 := keep_block hb2 q1 (lt_of_block q1)
  have HB2 : Hid (Below w1.heap.size w1 w2) := hb2
  clear hb2 c0 c1 c2 c3
  obtain ⟨c0, c1, c2, c3⟩ := cells4 gb2
  go_wp2_with fail
  refine (SE.out g0 B g2 g3 a n c L N HNN.out n' l' pw' vv HNP.out HLL.out HPP.out HVV.out HL.out h1 _ (HR.out.below HB2.out)).mono ?_
  rintro e w3 ⟨aa, cc, rfl, own3, hb3⟩
  have gb3 := keep_block hb3 gb2 (lt_of_block gb2)
  have p3 := keep_block hb3 p2 (lt_of_block p2)
  have q3 := keep_block hb3 q2 (lt_of_block q2)
  have HB3 : Hid (Below w1.heap.size w1 w3) := HB2.out.trans (hb3.mono HB2.out.size)
  have own3' := own3.mono (C := w1.heap.size) HB2.out.size
  clear hb3 c0 c1 c2 c3 gb2 p2 q2 HB2 own3
  have hb4 : Below w3.heap.size w3 (w3.alloc (.cells #[.slice aa n' cc, .int .i64 pw'] 83)) := (Below.refl _ _).alloc (Nat.le_refl _) _
  have gb4 := keep_block hb4 gb3 (lt_of_block gb3)
  have p4 := keep_block hb4 p3 (lt_of_block p3)
  have q4 := keep_block hb4 q3 (lt_of_block q3)
  have r4 := heap_alloc_new w3 (.cells #[.slice aa n' cc, .int .i64 pw'] 83)
  have own4 := own3'.below hb4
  have HB4 : Hid (Below w1.heap.size w1 (w3.alloc (.cells #[.slice aa n' cc, .int .i64 pw'] 83))) := HB3.out.trans (hb4.mono HB3.out.size)
  have HB4' : Hid (Below w.heap.size w (w3.alloc (.cells #[.slice aa n' cc, .int .i64 pw'] 83))) := HB1.out.trans (HB4.out.mono HB1.out.size)
  clear hb4 own3' gb3 p3 q3 HB3
  by_cases hz : code.1 = 0
  case neg =>
    have HE : Hid (v = -1) := by show _ = _; rw [← HV.out]; exact if_neg (fun h => hz (by rw [← HCODE.out]; exact h.1.1))
    have tz : (code.1 != 0) = true := by simp [hz]
    clear hz
    go_wp2
    go_ret
    exact ⟨ret_i HE.out.symm, HB4'.out⟩
  have tz : (code.1 != 0) = false := by simp [hz]
  have HVALID : Hid ((GeoOk g0 B g2 g3 ∧ TimOk t ∧ L.length ≤ 2000) ∧ TrOk g0 B g2 g3 t N L) := by
    have h := HCODE.out
    unfold traceF at h
    by_cases hg : GeoOk g0 B g2 g3 ∧ TimOk t ∧ L.length ≤ 2000
    · rw [if_pos hg] at h
      exact ⟨hg, by unfold TrOk; rw [h]; exact hz⟩
    · rw [if_neg hg] at h
      rw [← h] at hz
      cases hz
  obtain ⟨hrk, hend⟩ := st_ok HVALID.out.1.1 HNN.out HVALID.out.2
  have hvt : vv = true := by rw [← HVV.out, hend, decide_eq_true HVALID.out.1.1]; rfl
  have hle : l' = stL N L := by rw [← HLL.out]; exact if_pos hend
  have hpe : pw' = stP L := by rw [← HPP.out]; exact if_pos hend
  have hne : n' = N := by rw [← HNP.out, hle, stL_length]
  subst hvt
  subst hle
  subst hpe
  subst hne
  have HZ := Lib.hid hz
  clear hz hrk hend HLL HPP HVV HNP
  obtain ⟨av, hav⟩ : ∃ av, allowR g0 B g2 g3 (stL n' L) (stP L) k x y z = av := ⟨_, rfl⟩
  have HAV := Lib.hid hav
  have HRB := Lib.hid own4.row
  clear hav
  obtain ⟨c0, c1, c2, c3⟩ := cells4 gb4
  obtain ⟨d0, d1⟩ := cells2 r4
  obtain ⟨e0, e1, e2, e3⟩ := cells4 q4
  go_wp2_with fail
  clear c0 c1 c2 c3 d0 d1 e0 e1 e2 e3
  generalize (w3.alloc (.cells #[.slice aa n' cc, .int .i64 (stP L)] 83)) = w4 at gb4 p4 q4 r4 own4 HB4 HB4' HRB ⊢
  refine (specAllowed_is g0 B g2 g3 aa n' cc (stL n' L) (stP L) k x y z av HAV.out (stL_length _ _) (by have := HN8.out; omega) _ HRB.out).mono ?_
  rintro e w5 ⟨rfl, hb5⟩
  have gb5 := keep_block hb5 gb4 (lt_of_block gb4)
  have p5 := keep_block hb5 p4 (lt_of_block p4)
  have q5 := keep_block hb5 q4 (lt_of_block q4)
  have HB5 : Hid (Below w1.heap.size w1 w5) := HB4.out.trans (hb5.mono HB4.out.size)
  have HB5' : Hid (Below w.heap.size w w5) := HB1.out.trans (HB5.out.mono HB1.out.size)
  clear hb5 gb4 p4 q4 r4 own4 HB4 HB4' HRB
  cases av
  case false =>
    have HE : Hid (v = -1) := by show _ = _; rw [← HV.out]; exact if_neg (fun h => by have := h.1.2.1; rw [HAV.out] at this; cases this)
    go_wp2
    go_ret
    exact ⟨ret_i HE.out.symm, HB5'.out⟩
  by_cases hlen : n < 2000
  case neg =>
    have HE : Hid (v = -1) := by show _ = _; rw [← HV.out]; exact if_neg (fun h => hlen (by rw [← HL.out]; exact h.1.2.2))
    have tl : decide (2000 ≤ n) = true := decide_eq_true (by omega)
    have tl' : decide ((2000 : Int) ≤ (n : Int)) = true := decide_eq_true (by omega)
    go_wp2
    go_ret
    exact ⟨ret_i HE.out.symm, HB5'.out⟩
  have tl : decide (2000 ≤ n) = false := decide_eq_false (by omega)
  have tl' : decide ((2000 : Int) ≤ (n : Int)) = false := decide_eq_false (by omega)
  have HVV : Hid (v = if nextT B t L k x ≤ 1000000 then nextT B t L k x else -1) := by
    show _ = _
    rw [← HV.out]
    unfold earlyF
    by_cases hT : nextT B t L k x ≤ 1000000
    · rw [if_pos hT, if_pos ⟨⟨by rw [HCODE.out]; exact HZ.out, HAV.out, by rw [HL.out]; exact hlen⟩, hT⟩]
    · rw [if_neg hT, if_neg (fun h => hT h.2)]
  have HXX : Hid (0 ≤ x ∧ x ≤ 7) := (allow_parts HAV.out).2.1.2.1
  have HBB : Hid (1 ≤ B ∧ B ≤ 4) := HVALID.out.1.1.2.1
  go_wp2_with fail
  go_loopw [13, 14] (fun u i wr => ∃ m : Nat, m ≤ n ∧ i = .int .i64 m ∧ u = .int .i64 (gapT B t (L.take m) k x) ∧ Below w5.heap.size w5 wr) (fun _ i _ => n - (intOf i).toNat)
  case atStart => exact ⟨0, Nat.zero_le _, rfl, rfl, Below.refl _ _⟩
  case round =>
    obtain ⟨m, hm, rfl, rfl, hbr⟩ := hrel
    have HBR := Lib.hid hbr
    have HBW : Hid (Below w.heap.size w wr) := HB5'.out.trans (hbr.mono HB5'.out.size)
    have gr := keep_block hbr gb5 (lt_of_block gb5)
    have pr := keep_block hbr p5 (lt_of_block p5)
    have qr := keep_block hbr q5 (lt_of_block q5)
    have HRR := Lib.hid (HR.out.below (HB5.out.trans (hbr.mono HB5.out.size)))
    clear hbr
    by_cases hlt : m < n
    · have hml : m < L.length := by rw [HL.out]; exact hlt
      have HT := Lib.hid (take_snoc hml)
      have HIN := Lib.hid (HVALID.out.2.isIn hml)
      obtain ⟨b, off, rfl, a0, a1, a2, a3, a4⟩ := ev_at HRR.out (i := m) hml
      obtain ⟨d, hd⟩ : ∃ d, L.getD m ev0 = d := ⟨_, rfl⟩
      rw [hd] at a0 a1 a2 a3 a4 HIN HT
      clear hd
      obtain ⟨c0, c1, c2, c3⟩ := cells4 gr
      obtain ⟨e0, e1, e2, e3⟩ := cells4 qr
      have zg0 := fun q : Later wr => q.cell c0
      have zg1 := fun q : Later wr => q.cell c1
      have zg2 := fun q : Later wr => q.cell c2
      have zg3 := fun q : Later wr => q.cell c3
      have ze0 := fun q : Later wr => q.cell e0
      have ze1 := fun q : Later wr => q.cell e1
      have ze2 := fun q : Later wr => q.cell e2
      have ze3 := fun q : Later wr => q.cell e3
      have za0 := fun q : Later wr => q.cell a0
      have za1 := fun q : Later wr => q.cell a1
      have za2 := fun q : Later wr => q.cell a2
      have za3 := fun q : Later wr => q.cell a3
      have za4 := fun q : Later wr => q.cell a4
      obtain ⟨G, hG⟩ : ∃ G, gapR B t d.k d.x k x = G := ⟨_, rfl⟩
      have HG := Lib.hid hG
      have hGr := gapR_range B t d.k d.x k x
      rw [hG] at hGr
      have ws : IntKind.i64.wrap (d.t + G) = d.t + G := IntWalk.i64_in _ (by have := HIN.out.1; omega)
      obtain ⟨M, hM⟩ : ∃ M, gapT B t (L.take m) k x = M := ⟨_, rfl⟩
      rw [hM]
      have HM : Hid (gapT B t (L.take (m + 1)) k x = max M (d.t + G)) := by show _ = _; rw [HT.out, gapT_snoc, hM, hG]
      clear a0 a1 a2 a3 a4 c0 c1 c2 c3 e0 e1 e2 e3 hG hGr hM
      by_cases hx : M < d.t + G
      all_goals
        go_wp2_with fail
        refine wp_region_later (by kernel_rfl) (by kernel_rfl) ?_
        repeat (first | ((with_reducible refine ld_later ?_ ?_ pr ?_); kernel_rfl; kernel_rfl; go_simp) | go_big_quiet_step ((go_at_call 89; exact Gives.later _ (specL07Gap_is t g0 B g2 g3 d.k d.x d.y d.z k x y z HBB.out HIN.out.2 HXX.out G HG.out _))))
        refine wpQuiet_nil ?_
        intro zz
        have HB6 : Hid (Below w5.heap.size w5 zz.to) := HBR.out.trans (zz.ok.mono HBR.out.size)
        clear zg0 zg1 zg2 zg3 ze0 ze1 ze2 ze3 za0 za1 za2 za3 za4
        go_wp2_with fail
        go_roundw
        case rel => exact ⟨m + 1, by omega, by go_num, by rw [HM.out]; congr 1; omega, HB6.out⟩
        case measure => simp [intOf]; omega
    · obtain rfl : m = n := by omega
      have htk : L.take m = L := List.take_of_length_le (by rw [HL.out]; exact Nat.le_refl _)
      rw [htk]
      obtain ⟨M, hM⟩ : ∃ M, gapT B t L k x = M := ⟨_, rfl⟩
      have HM := Lib.hid hM
      have hM0 := (gapT_le (B := B) (t := t) (L := L) (k := k) (x := x)).1
      rw [hM] at hM0 ⊢
      clear hM htk
      go_wp2_with fail
      refine (specActs_is _ _ _ _ HL.out h1 _ HRR.out).mono ?_
      rintro e w7 ⟨ua, uc, rfl, own7, hb7⟩
      have p7 := keep_block hb7 pr (lt_of_block pr)
      have q7 := keep_block hb7 qr (lt_of_block qr)
      have HB7 : Hid (Below w.heap.size w w7) := HBW.out.trans (hb7.mono HBW.out.size)
      obtain ⟨al, hal⟩ : ∃ al, (actsT L).length = al := ⟨_, rfl⟩
      have HAL := Lib.hid hal
      have hall : al ≤ m := by have := actsT_length L; rw [hal, HL.out] at this; exact this
      rw [hal] at own7 ⊢
      clear hb7 gr pr qr hal
      obtain ⟨e0, e1, e2, e3⟩ := cells4 q7
      by_cases hk : k = 1 ∧ 4 ≤ al
      case neg =>
        have HN2 : Hid (nextT B t L k x = M) := by show _ = _; unfold nextT; rw [if_neg (by rw [HAL.out]; exact hk), HM.out]
        rw [HN2.out] at HVV
        have key : Hid (∀ b, (b = if M ≤ 1000000 then M else -1) → b = v) := fun b hb => by rw [hb, ← HVV.out]
        by_cases hk1 : k = 1
        · have tk : (k == 1) = true := by simp [hk1]
          have t4 : decide (4 ≤ al) = false := decide_eq_false (fun h => hk ⟨hk1, h⟩)
          have t4' : decide ((4 : Int) ≤ (al : Int)) = false := decide_eq_false (fun h => hk ⟨hk1, by omega⟩)
          clear hk hk1
          by_cases hb : M ≤ 1000000
          · have tb : decide ((1000000 : Int) < M) = false := decide_eq_false (by omega)
            go_wp2
            go_ret
            exact ⟨ret_i (key.out _ (if_pos hb).symm), HB7.out⟩
          · have tb : decide ((1000000 : Int) < M) = true := decide_eq_true (by omega)
            go_wp2
            go_ret
            exact ⟨ret_i (key.out _ (if_neg (by omega)).symm), HB7.out⟩
        · have tk : (k == 1) = false := by simp [hk1]
          clear hk hk1
          by_cases hb : M ≤ 1000000
          · have tb : decide ((1000000 : Int) < M) = false := decide_eq_false (by omega)
            go_wp2
            go_ret
            exact ⟨ret_i (key.out _ (if_pos hb).symm), HB7.out⟩
          · have tb : decide ((1000000 : Int) < M) = true := decide_eq_true (by omega)
            go_wp2
            go_ret
            exact ⟨ret_i (key.out _ (if_neg (by omega)).symm), HB7.out⟩
      case pos =>
        obtain ⟨A, hA⟩ : ∃ A, (actsT L).getD (al - 4) 0 = A := ⟨_, rfl⟩
        have hAr := HVALID.out.2.acts (j := al - 4) (by rw [HAL.out]; omega)
        rw [hA] at hAr
        have HN2 : Hid (nextT B t L k x = max M (A + t.faw)) := by show _ = _; unfold nextT; rw [if_pos (by rw [HAL.out]; exact hk), HM.out, HAL.out, hA]
        rw [HN2.out] at HVV
        have tk : (k == 1) = true := by simp [hk.1]
        have h4 := hk.2
        have t4 : decide (4 ≤ al) = true := decide_eq_true h4
        have t4' : decide ((4 : Int) ≤ (al : Int)) = true := decide_eq_true (by omega)
        have hl4 : al - 4 < al := by omega
        have wl : IntKind.i64.wrap ((al : Int) - 4) = ((al - 4 : Nat) : Int) := by rw [IntWalk.i64_in _ (by omega)]; omega
        have hfw : 1 ≤ t.faw ∧ t.faw ≤ 64 := HVALID.out.1.2.1.nums.2.2.2.2.2.1
        have wA : IntKind.i64.wrap (A + t.faw) = A + t.faw := IntWalk.i64_in _ (by omega)
        obtain ⟨ga, rfl, hca, _⟩ := own7.at (k := al - 4) (by rw [HAL.out]; omega)
        have hcA : w7.cell? ⟨ga, al - 4, none⟩ = some (.int .i64 A) := by
          rw [hca, ← hA, List.getD_eq_getElem?_getD, List.getElem?_eq_getElem (by rw [HAL.out]; omega)]
          rfl
        have za := fun q : Later w7 => q.cell hcA
        obtain ⟨_, _, _, _, _, fw, _⟩ := tm_cells p7
        have zf := fun q : Later w7 => q.cell fw
        clear hk hA hca hcA
        by_cases hx : M < A + t.faw
        case pos =>
          have hmx : max M (A + t.faw) = A + t.faw := by omega
          rw [hmx] at HVV
          go_wp2_with fail
          refine wp_region_later (by kernel_rfl) (by kernel_rfl) ?_
          repeat (go_big_quiet_step (fail))
          refine wpQuiet_nil ?_
          rintro w8 ⟨zz, rfl⟩
          have HB8 : Hid (Below w.heap.size w zz.to) := HB7.out.trans (zz.ok.mono HB7.out.size)
          clear za zf fw
          by_cases hb : A + t.faw ≤ 1000000
          · have tb : decide ((1000000 : Int) < A + t.faw) = false := decide_eq_false (by omega)
            go_wp2
            go_ret
            exact ⟨ret_i (by rw [HVV.out, if_pos hb]), HB8.out⟩
          · have tb : decide ((1000000 : Int) < A + t.faw) = true := decide_eq_true (by omega)
            go_wp2
            go_ret
            exact ⟨ret_i (by rw [HVV.out, if_neg (by omega)]), HB8.out⟩
        case neg =>
          have hmx : max M (A + t.faw) = M := by omega
          rw [hmx] at HVV
          go_wp2_with fail
          refine wp_region_later (by kernel_rfl) (by kernel_rfl) ?_
          repeat (go_big_quiet_step (fail))
          refine wpQuiet_nil ?_
          rintro w8 ⟨zz, rfl⟩
          have HB8 : Hid (Below w.heap.size w zz.to) := HB7.out.trans (zz.ok.mono HB7.out.size)
          clear za zf fw
          by_cases hb : M ≤ 1000000
          · have tb : decide ((1000000 : Int) < M) = false := decide_eq_false (by omega)
            go_wp2
            go_ret
            exact ⟨ret_i (by rw [HVV.out, if_pos hb]), HB8.out⟩
          · have tb : decide ((1000000 : Int) < M) = true := decide_eq_true (by omega)
            go_wp2
            go_ret
            exact ⟨ret_i (by rw [HVV.out, if_neg (by omega)]), HB8.out⟩

end Go.Proofs.Ythplhjdfajhmpaa

namespace Go.Proofs.Ythplhjdfajhmpaa
open Go.RowKit Go.PlainAid

set_option linter.unusedVariables false

theorem below_allocT {w : World} (o : Obj) : Below w.heap.size w (w.alloc o) := (Below.refl _ _).alloc (Nat.le_refl _) _

set_option maxHeartbeats 16000000 in
set_option maxRecDepth 100000 in
theorem specEnd_is : SEnd := by
  intro g0 B g2 g3 a n c L N hN n' le pwe vv hn' hl' hp' hv hl h1 w hr
  obtain ⟨w1, hw1⟩ : ∃ u, (w.alloc (.cells #[.int .i64 g0, .int .i64 B, .int .i64 g2, .int .i64 g3] 25)).alloc (.cells #[.slice none 0 0, .int .i64 0] 83) = u := ⟨_, rfl⟩
  have HB1 : Hid (Below w.heap.size w w1) := by subst hw1; exact ((Below.refl _ _).alloc (Nat.le_refl _) _).alloc (by simp) _
  have g1 : w1.heap[w.heap.size]? = some (.cells #[.int .i64 g0, .int .i64 B, .int .i64 g2, .int .i64 g3] 25) := by subst hw1; exact heap_alloc2_old _ _ _
  have s1 : w1.heap[w.heap.size + 1]? = some (.cells #[.slice none 0 0, .int .i64 0] 83) := by subst hw1; exact heap_alloc2_new _ _ _
  have HS1 : Hid (w.heap.size + 1 < w1.heap.size) := lt_of_block s1
  have HR := Lib.hid (hr.below HB1.out)
  have HL := Lib.hid hl
  have HNN := Lib.hid hN
  have HNP := Lib.hid hn'
  have HLE := Lib.hid hl'
  have HPE := Lib.hid hp'
  have HVV := Lib.hid hv
  have hN8 : N ≤ 8 := by have := bankN_range g0 B g2 g3; omega
  obtain ⟨c0, c1, c2, c3⟩ := cells4 g1
  clear hr hl hN hn' hl' hp' hv
  go_enter Try.func124, Try.ntmps124
  go_wp2_with fail
  refine (specRankNew_is _ _ _ _ N HNN.out _).mono ?_
  rintro e w2 ⟨ao, co, rfl, own2, hb2⟩
  have gb2 := keep_block hb2 g1 (lt_of_block g1)
  have s2 := keep_block hb2 s1 (lt_of_block s1)
  have HB2 : Hid (Below w1.heap.size w1 w2) := hb2
  have HS2 : Hid (w1.heap.size ≤ w2.heap.size) := hb2.size
  have HAA : Hid (∀ x, ao = some x → x.block < w2.heap.size) := fun x hx => (own2.lo x hx).2
  clear hb2 c0 c1 c2 c3
  have hb3 : Below w2.heap.size w2 (w2.alloc (.cells #[.slice ao N co, .int .i64 0] 83)) := (Below.refl _ _).alloc (Nat.le_refl _) _
  have ST : Hid ((w2.alloc (.cells #[.slice ao N co, .int .i64 0] 83)).heap[w.heap.size]? = some (.cells #[.int .i64 g0, .int .i64 B, .int .i64 g2, .int .i64 g3] 25) ∧ (w2.alloc (.cells #[.slice ao N co, .int .i64 0] 83)).heap[w.heap.size + 1]? = some (.cells #[.slice none 0 0, .int .i64 0] 83) ∧
      (w2.alloc (.cells #[.slice ao N co, .int .i64 0] 83)).heap[w2.heap.size]? = some (.cells #[.slice ao N co, .int .i64 0] 83) ∧ OwnK w1.heap.size (.slice ao N co) (List.replicate N bk0) (w2.alloc (.cells #[.slice ao N co, .int .i64 0] 83)) ∧ Below w1.heap.size w1 (w2.alloc (.cells #[.slice ao N co, .int .i64 0] 83)) ∧ ∀ x, ao = some x → x.block ≠ w2.heap.size) :=
    ⟨keep_block hb3 gb2 (lt_of_block gb2), keep_block hb3 s2 (lt_of_block s2), heap_alloc_new _ _, own2.below hb3, HB2.out.trans (hb3.mono HB2.out.size), fun x hx => by have := HAA.out x hx; omega⟩
  clear hb3 own2 gb2 s2 HB2
  go_wp2_with fail
  generalize (w2.alloc (.cells #[.slice ao N co, .int .i64 0] 83)) = w3 at ST ⊢
  go_loopw [7] (fun i wr => ∃ k : Nat, k ≤ n ∧ i = .int .i64 k ∧ endOk g0 B g2 g3 N (L.take k) = true ∧ wr.heap[w.heap.size]? = some (.cells #[.int .i64 g0, .int .i64 B, .int .i64 g2, .int .i64 g3] 25) ∧ wr.heap[w.heap.size + 1]? = some (.cells #[.slice none 0 0, .int .i64 0] 83) ∧
      (∃ (aa : Option Addr) (cc : Nat), wr.heap[w2.heap.size]? = some (.cells #[.slice aa N cc, .int .i64 (stP (L.take k))] 83) ∧ OwnK w1.heap.size (.slice aa N cc) (stL N (L.take k)) wr ∧ (∀ x, aa = some x → x.block ≠ w2.heap.size)) ∧ Below w1.heap.size w1 wr) (fun i _ => n - (intOf i).toNat)
  case atStart => exact ⟨0, Nat.zero_le _, rfl, rfl, ST.out.1, ST.out.2.1, ⟨ao, co, ST.out.2.2.1, ST.out.2.2.2.1, ST.out.2.2.2.2.2⟩, ST.out.2.2.2.2.1⟩
  case round =>
    clear ST HAA
    obtain ⟨m, hm, rfl, hend, gr, sr, ⟨aa, cc, rr, ownr, hne⟩, hbr⟩ := hrel
    have HEND := Lib.hid hend
    have HON := Lib.hid ownr
    have HBR := Lib.hid hbr
    have HNE := Lib.hid hne
    clear hend ownr hbr hne
    by_cases hlt : m < n
    case pos =>
      have hml : m < L.length := by rw [HL.out]; exact hlt
      have HT := Lib.hid (take_snoc hml)
      have HD := Lib.hid (drop_cons hml)
      obtain ⟨b, off, rfl, a0, a1, a2, a3, a4⟩ := ev_at (HR.out.below HBR.out) (i := m) hml
      obtain ⟨e, he⟩ : ∃ e, L.getD m ev0 = e := ⟨_, rfl⟩
      rw [he] at a0 a1 a2 a3 a4 HT HD
      clear he a0
      obtain ⟨v, hv⟩ : ∃ v, allowR g0 B g2 g3 (stL N (L.take m)) (stP (L.take m)) e.k e.x e.y e.z = v := ⟨_, rfl⟩
      obtain ⟨l', hl'⟩ : ∃ l', afterL g0 B g2 g3 (stL N (L.take m)) (stP (L.take m)) e.k e.x e.y e.z = l' := ⟨_, rfl⟩
      obtain ⟨pw', hp'⟩ : ∃ pw', afterP g0 B g2 g3 (stL N (L.take m)) (stP (L.take m)) e.k e.x e.y e.z = pw' := ⟨_, rfl⟩
      have HV := Lib.hid hv
      have HLP := Lib.hid hl'
      have HPP := Lib.hid hp'
      have NEXT : Hid (allowR g0 B g2 g3 (stL N (L.take m)) (stP (L.take m)) e.k e.x e.y e.z = true → l' = stL N (L.take (m + 1)) ∧ pw' = stP (L.take (m + 1))) := fun h => by
        rw [HT.out, stL_snoc, stP_snoc, ← hl', ← hp']
        exact ⟨if_pos h, if_pos h⟩
      have STOP : Hid (allowR g0 B g2 g3 (stL N (L.take m)) (stP (L.take m)) e.k e.x e.y e.z = false → le = [] ∧ pwe = 0 ∧ vv = false ∧ n' = 0) := fun h => by
        have hno : endOk g0 B g2 g3 N L = false := by
          have h1 := HEND.out
          unfold endOk at h1 ⊢
          have h2 : L = L.take m ++ (e :: L.drop (m + 1)) := by rw [← HD.out, List.take_append_drop]
          rw [h2, endF_append, h1]
          show (true && (allowR g0 B g2 g3 (stL N ([] ++ L.take m)) (stP ([] ++ L.take m)) e.k e.x e.y e.z && _)) = false
          rw [List.nil_append, h]
          rfl
        have h1 : le = [] := by rw [← HLE.out]; exact if_neg (by rw [hno]; simp)
        have h2 : pwe = 0 := by rw [← HPE.out]; exact if_neg (by rw [hno]; simp)
        refine ⟨h1, h2, by rw [← HVV.out, hno]; rfl, by rw [← HNP.out, h1]; rfl⟩
      have GO : Hid (allowR g0 B g2 g3 (stL N (L.take m)) (stP (L.take m)) e.k e.x e.y e.z = true → endOk g0 B g2 g3 N (L.take (m + 1)) = true) := fun h => by
        have h1 := HEND.out
        rw [HT.out]
        unfold endOk at h1 ⊢
        rw [endF_append, h1]
        show (true && (allowR g0 B g2 g3 (stL N ([] ++ L.take m)) (stP ([] ++ L.take m)) e.k e.x e.y e.z && true)) = true
        rw [List.nil_append, h]
        rfl
      clear hv hl' hp' HD
      replace a1 := Lib.hid a1
      replace a2 := Lib.hid a2
      replace a3 := Lib.hid a3
      replace a4 := Lib.hid a4
      go_wp2_with fail
      refine wp_region_flowV (fun k => match k with | 0 => some (.agg #[.int .i64 g0, .int .i64 B, .int .i64 g2, .int .i64 g3]) | 1 => some (.agg #[.slice aa N cc, .int .i64 (stP (L.take m))]) | 2 => some (.slice (some ⟨b, off, none⟩) n c) | 3 => some (.int .i64 (m : Int)) | 4 => some (.pointer (some ⟨b, off + m * 5, none⟩)) | 5 => some (.pointer (some ⟨b, off + m * 5 + 1, none⟩)) | 6 => some (.agg #[.int .i64 e.k, .int .i64 e.x, .int .i64 e.y, .int .i64 e.z]) | 10 => some (.bool v) | 13 => some (.bool v) | _ => none) (fun listed x u => FactW 7 8 (fun q u => ∃ ab cb, q = .tuple #[.agg #[.slice ab N cb, .int .i64 pw'], .bool v] ∧ OwnK (wr.heap.size) (.slice ab N cb) l' u) listed x u ∧ FactW 8 9 (fun q u => ∃ ab cb, q = .tuple #[.agg #[.slice ab N cb, .int .i64 pw'], .bool v] ∧ OwnK (wr.heap.size) (.slice ab N cb) l' u) listed x u ∧ Fact 8 (fun q => ∃ (ab : Option Addr) (cb : Nat), q = .tuple #[.agg #[.slice ab N cb, .int .i64 pw'], .bool v]) listed x ∧ FactW 9 12 (fun q u => ∃ ab cb, q = .agg #[.slice ab N cb, .int .i64 pw'] ∧ OwnK (wr.heap.size) (.slice ab N cb) l' u) listed x u ∧ MadeR 11 12 (wr.heap.size) N l' pw' listed x u) (upd (upd (upd (upd (upd (upd (upd (upd (upd (upd (upd (upd (upd (fun _ => undef) 0 u19) 1 u20) 2 u21) 3 u22) 4 u23) 5 u24) 6 u25) 7 u26) 8 u18) 9 u27) 10 u28) 11 u8) 13 u9) (by kernel_rfl) (by kernel_rfl) ?hx ?hS ?hs ?he
      case hx => simp only [putsX, Act.put, List.setIfInBounds_toArray, List.set_cons_zero, List.set_cons_succ, upd, Nat.reduceEqDiff, reduceIte]
      case hS => exact ⟨FactW.zero _ _ _ _ _ _, FactW.zero _ _ _ _ _ _, Fact.zero _ _ _ _, FactW.zero _ _ _ _ _ _, MadeR.zero _ _ _ _ _ _ _ _ _⟩
      case hs =>
        simp only [flowSteps]
        refine ⟨?s0, ?s1, ?s2, ?s3, ?s4, ?s5, ?s6, ?s7, ?s8, ?s9, ?s10, ?s11, ?s12, ?s13, trivial⟩
        case s0 =>
          intro listed bb u hsz hn hwt hinv
          obtain ⟨x, rfl, hC, hU, h7, h8, p8, h9, hM⟩ := hinv
          simp only [putsX, Act.put, List.setIfInBounds_toArray, List.set_cons_zero, List.set_cons_succ]
          obtain ⟨c0, c1, c2, c3⟩ := cells4 (keep_block hC gr (lt_of_block gr))
          go_wp2_with fail
          refine stepQ_normal ⟨trivial, upd x 0 (.agg #[.int .i64 g0, .int .i64 B, .int .i64 g2, .int .i64 g3]), ?_, hC, hU.step (fun _ h => Option.some.inj h), h7.keep (by decide) (by decide) _ id, h8.keep (by decide) (by decide) _ id, p8.keep (by decide) _, h9.keep (by decide) (by decide) _ id, hM.keep (by decide) (by decide) _ (Below.refl _ _)⟩
          simp only [upd]
          rfl
        case s1 =>
          intro listed bb u hsz hn hwt hinv
          obtain ⟨x, rfl, hC, hU, h7, h8, p8, h9, hM⟩ := hinv
          simp only [putsX, Act.put, List.setIfInBounds_toArray, List.set_cons_zero, List.set_cons_succ]
          obtain ⟨d0, d1⟩ := cells2 (keep_block hC rr (lt_of_block rr))
          go_wp2_with fail
          refine stepQ_normal ⟨trivial, upd x 1 (.agg #[.slice aa N cc, .int .i64 (stP (L.take m))]), ?_, hC, hU.step (fun _ h => Option.some.inj h), h7.keep (by decide) (by decide) _ id, h8.keep (by decide) (by decide) _ id, p8.keep (by decide) _, h9.keep (by decide) (by decide) _ id, hM.keep (by decide) (by decide) _ (Below.refl _ _)⟩
          simp only [upd]
          rfl
        case s2 =>
          intro listed bb u hsz hn hwt hinv
          obtain ⟨x, rfl, hC, hU, h7, h8, p8, h9, hM⟩ := hinv
          simp only [putsX, Act.put, List.setIfInBounds_toArray, List.set_cons_zero, List.set_cons_succ]
          go_wp2_with fail
          refine stepQ_normal ⟨trivial, upd x 2 (.slice (some ⟨b, off, none⟩) n c), ?_, hC, hU.step (fun _ h => Option.some.inj h), h7.keep (by decide) (by decide) _ id, h8.keep (by decide) (by decide) _ id, p8.keep (by decide) _, h9.keep (by decide) (by decide) _ id, hM.keep (by decide) (by decide) _ (Below.refl _ _)⟩
          simp only [upd]
          rfl
        case s3 =>
          intro listed bb u hsz hn hwt hinv
          obtain ⟨x, rfl, hC, hU, h7, h8, p8, h9, hM⟩ := hinv
          simp only [putsX, Act.put, List.setIfInBounds_toArray, List.set_cons_zero, List.set_cons_succ]
          go_wp2_with fail
          refine stepQ_normal ⟨trivial, upd x 3 (.int .i64 (m : Int)), ?_, hC, hU.step (fun _ h => Option.some.inj h), h7.keep (by decide) (by decide) _ id, h8.keep (by decide) (by decide) _ id, p8.keep (by decide) _, h9.keep (by decide) (by decide) _ id, hM.keep (by decide) (by decide) _ (Below.refl _ _)⟩
          simp only [upd]
          rfl
        case s4 =>
          intro listed bb u hsz hn hwt hinv
          obtain ⟨x, rfl, hC, hU, h7, h8, p8, h9, hM⟩ := hinv
          have f2 := Lib.hid (hU 2 _ rfl (hwt 2 (by kernel_rfl)))
          have f3 := Lib.hid (hU 3 _ rfl (hwt 3 (by kernel_rfl)))
          simp only [putsX, Act.put, List.setIfInBounds_toArray, List.set_cons_zero, List.set_cons_succ]
          rw [f2.out]
          rw [f3.out]
          go_wp2_with fail
          refine stepQ_normal ⟨trivial, upd x 4 (.pointer (some ⟨b, off + m * 5, none⟩)), ?_, hC, hU.step (fun _ h => Option.some.inj h), h7.keep (by decide) (by decide) _ id, h8.keep (by decide) (by decide) _ id, p8.keep (by decide) _, h9.keep (by decide) (by decide) _ id, hM.keep (by decide) (by decide) _ (Below.refl _ _)⟩
          simp only [upd]
          simp only [f2.out, f3.out]
          (try rfl)
        case s5 =>
          intro listed bb u hsz hn hwt hinv
          obtain ⟨x, rfl, hC, hU, h7, h8, p8, h9, hM⟩ := hinv
          have f4 := Lib.hid (hU 4 _ rfl (hwt 4 (by kernel_rfl)))
          simp only [putsX, Act.put, List.setIfInBounds_toArray, List.set_cons_zero, List.set_cons_succ]
          rw [f4.out]
          go_wp2_with fail
          refine stepQ_normal ⟨trivial, upd x 5 (.pointer (some ⟨b, off + m * 5 + 1, none⟩)), ?_, hC, hU.step (fun _ h => Option.some.inj h), h7.keep (by decide) (by decide) _ id, h8.keep (by decide) (by decide) _ id, p8.keep (by decide) _, h9.keep (by decide) (by decide) _ id, hM.keep (by decide) (by decide) _ (Below.refl _ _)⟩
          simp only [upd]
          simp only [f4.out]
          (try rfl)
        case s6 =>
          intro listed bb u hsz hn hwt hinv
          obtain ⟨x, rfl, hC, hU, h7, h8, p8, h9, hM⟩ := hinv
          have f5 := Lib.hid (hU 5 _ rfl (hwt 5 (by kernel_rfl)))
          simp only [putsX, Act.put, List.setIfInBounds_toArray, List.set_cons_zero, List.set_cons_succ]
          rw [f5.out]
          have e1 := (hC.cell (World.block_lt_of_cell? _ _ a1.out)).trans a1.out
          have e2 := (hC.cell (World.block_lt_of_cell? _ _ a2.out)).trans a2.out
          have e3 := (hC.cell (World.block_lt_of_cell? _ _ a3.out)).trans a3.out
          have e4 := (hC.cell (World.block_lt_of_cell? _ _ a4.out)).trans a4.out
          go_wp2_with fail
          refine stepQ_normal ⟨trivial, upd x 6 (.agg #[.int .i64 e.k, .int .i64 e.x, .int .i64 e.y, .int .i64 e.z]), ?_, hC, hU.step (fun _ h => Option.some.inj h), h7.keep (by decide) (by decide) _ id, h8.keep (by decide) (by decide) _ id, p8.keep (by decide) _, h9.keep (by decide) (by decide) _ id, hM.keep (by decide) (by decide) _ (Below.refl _ _)⟩
          simp only [upd]
          simp only [f5.out]
          (try rfl)
        case s7 =>
          intro listed bb u hsz hn hwt hinv
          obtain ⟨x, rfl, hC, hU, h7, h8, p8, h9, hM⟩ := hinv
          have f0 := Lib.hid (hU 0 _ rfl (hwt 0 (by kernel_rfl)))
          have f1 := Lib.hid (hU 1 _ rfl (hwt 1 (by kernel_rfl)))
          have f6 := Lib.hid (hU 6 _ rfl (hwt 6 (by kernel_rfl)))
          simp only [putsX, Act.put, List.setIfInBounds_toArray, List.set_cons_zero, List.set_cons_succ]
          have hcall : Calls Try.prog 136 #[x 0, x 1, x 6] u (GivesA N l' pw' v u) := by rw [f0.out, f1.out, f6.out]; exact specAfter_is g0 B g2 g3 aa N cc (stL N (L.take m)) (stP (L.take m)) e.k e.x e.y e.z v l' pw' HV.out HLP.out HPP.out (stL_length _ _) (by omega) (HON.out.none) _ (HON.out.row.below hC)
          go_wp2_with fail
          refine hcall.mono ?_
          rintro e' u' ⟨ab, cb, rfl, own, hb⟩
          go_wp2_with fail
          refine stepQ_normal ⟨trivial, upd x 7 (.tuple #[.agg #[.slice ab N cb, .int .i64 pw'], .bool v]), ?_, hC.trans (hb.mono hC.size), hU.step (fun _ h => by cases h), FactW.new ⟨ab, cb, rfl, own.mono hC.size⟩, h8.keep (by decide) (by decide) _ (fun ⟨b1, b2, b3, b4⟩ => ⟨b1, b2, b3, b4.below (hb)⟩), p8.keep (by decide) _, h9.keep (by decide) (by decide) _ (fun ⟨b1, b2, b3, b4⟩ => ⟨b1, b2, b3, b4.below (hb)⟩), hM.keep (by decide) (by decide) _ (hb)⟩
          simp only [upd]
          rfl
        case s8 =>
          intro listed bb u hsz hn hwt hinv
          obtain ⟨x, rfl, hC, hU, h7, h8, p8, h9, hM⟩ := hinv
          simp only [putsX, Act.put, List.setIfInBounds_toArray, List.set_cons_zero, List.set_cons_succ]
          obtain ⟨ab, cb, fp, hown⟩ := h7 (hwt 7 (by kernel_rfl)) hn
          go_wp2_with fail
          refine stepQ_normal ⟨trivial, upd x 8 (x 7), ?_, hC, hU.step (fun _ h => by cases h), FactW.call (by rw [hsz]; decide), FactW.new ⟨ab, cb, fp, hown⟩, Fact.new ⟨ab, cb, fp⟩, h9.keep (by decide) (by decide) _ id, hM.keep (by decide) (by decide) _ (Below.refl _ _)⟩
          simp only [upd]
          rfl
        case s9 =>
          intro listed bb u hsz hn hwt hinv
          obtain ⟨x, rfl, hC, hU, h7, h8, p8, h9, hM⟩ := hinv
          simp only [putsX, Act.put, List.setIfInBounds_toArray, List.set_cons_zero, List.set_cons_succ]
          obtain ⟨ab, cb, fp, hown⟩ := h8 (hwt 8 (by kernel_rfl)) hn
          have FP := Lib.hid fp
          rw [FP.out]
          clear fp
          go_wp2_with fail
          refine stepQ_normal ⟨trivial, upd x 9 (.agg #[.slice ab N cb, .int .i64 pw']), ?_, hC, hU.step (fun _ h => by cases h), h7.keep (by decide) (by decide) _ id, FactW.call (by rw [hsz]; decide), p8.keep (by decide) _, FactW.new ⟨ab, cb, rfl, hown⟩, hM.keep (by decide) (by decide) _ (Below.refl _ _)⟩
          simp only [upd]
          simp only [FP.out]
          (try rfl)
        case s10 =>
          intro listed bb u hsz hn hwt hinv
          obtain ⟨x, rfl, hC, hU, h7, h8, p8, h9, hM⟩ := hinv
          simp only [putsX, Act.put, List.setIfInBounds_toArray, List.set_cons_zero, List.set_cons_succ]
          obtain ⟨ab, cb, fp⟩ := p8 (hwt 8 (by kernel_rfl))
          have FP := Lib.hid fp
          rw [FP.out]
          clear fp
          go_wp2_with fail
          refine stepQ_normal ⟨trivial, upd x 10 (.bool v), ?_, hC, hU.step (fun _ h => Option.some.inj h), h7.keep (by decide) (by decide) _ id, h8.keep (by decide) (by decide) _ id, p8.keep (by decide) _, h9.keep (by decide) (by decide) _ id, hM.keep (by decide) (by decide) _ (Below.refl _ _)⟩
          simp only [upd]
          simp only [FP.out]
          (try rfl)
        case s11 =>
          intro listed bb u hsz hn hwt hinv
          obtain ⟨x, rfl, hC, hU, h7, h8, p8, h9, hM⟩ := hinv
          simp only [putsX, Act.put, List.setIfInBounds_toArray, List.set_cons_zero, List.set_cons_succ]
          go_wp2_with fail
          refine stepQ_normal ⟨trivial, upd x 11 (.pointer (some ⟨u.heap.size, 0, none⟩)), ?_, hC.alloc hC.size _, hU.step (fun _ h => by cases h), h7.keep (by decide) (by decide) _ (fun ⟨b1, b2, b3, b4⟩ => ⟨b1, b2, b3, b4.below (below_allocT _)⟩), h8.keep (by decide) (by decide) _ (fun ⟨b1, b2, b3, b4⟩ => ⟨b1, b2, b3, b4.below (below_allocT _)⟩), p8.keep (by decide) _, h9.keep (by decide) (by decide) _ (fun ⟨b1, b2, b3, b4⟩ => ⟨b1, b2, b3, b4.below (below_allocT _)⟩), hM.new (by decide) hn hC.size⟩
          simp only [upd]
          rfl
        case s12 =>
          intro listed bb u hsz hn hwt hinv
          obtain ⟨x, rfl, hC, hU, h7, h8, p8, h9, hM⟩ := hinv
          simp only [putsX, Act.put, List.setIfInBounds_toArray, List.set_cons_zero, List.set_cons_succ]
          obtain ⟨g, fg, hg, hh⟩ := hM.there (hwt 11 (by kernel_rfl)) hn
          obtain ⟨ab, cb, fp, hown⟩ := h9 (hwt 9 (by kernel_rfl)) hn
          have FG := Lib.hid fg
          have FP := Lib.hid fp
          rw [FG.out, FP.out]
          obtain ⟨y0, y1⟩ := cells2 hh
          have t0 := thawed hh 0
          have t1 := thawed hh 1
          have hne := hown.apart hh
          have hfin := set_cells (set_cells hh 0 (.slice ab N cb)) 1 (.int .i64 pw')
          have hown2 := (hown.setCell (p := ⟨g, 0, none⟩) hne (.slice ab N cb)).setCell (p := ⟨g, 1, none⟩) hne (.int .i64 pw')
          clear hh fg fp hown hne
          go_wp2_with fail
          refine stepQ_normal ⟨trivial, upd x 12 undef, ?_, (hC.setCell (by exact hg) _).setCell (by exact hg) _, hU.step (fun _ h => by cases h), FactW.gone (hwt 8 (by kernel_rfl)), FactW.gone (hwt 9 (by kernel_rfl)), p8.keep (by decide) _, FactW.call (by rw [hsz]; decide), MadeR.fill (by decide) (hwt 11 (by kernel_rfl)) (by rw [hsz]; decide) FG.out hg hfin hown2⟩
          simp only [upd]
          simp only [FG.out, FP.out]
          (try rfl)
        case s13 =>
          intro listed bb u hsz hn hwt hinv
          obtain ⟨x, rfl, hC, hU, h7, h8, p8, h9, hM⟩ := hinv
          have f10 := Lib.hid (hU 10 _ rfl (hwt 10 (by kernel_rfl)))
          simp only [putsX, Act.put, List.setIfInBounds_toArray, List.set_cons_zero, List.set_cons_succ]
          rw [f10.out]
          go_wp2_with fail
          refine stepQ_normal ⟨trivial, upd x 13 (.bool v), ?_, hC, hU.step (fun _ h => Option.some.inj h), h7.keep (by decide) (by decide) _ id, h8.keep (by decide) (by decide) _ id, p8.keep (by decide) _, h9.keep (by decide) (by decide) _ id, hM.keep (by decide) (by decide) _ (Below.refl _ _)⟩
          simp only [upd]
          simp only [f10.out]
          (try rfl)
      case he =>
        intro listed q u hall hC hU hS
        obtain ⟨h7, h8, p8, h9, hM⟩ := hS
        obtain ⟨sP, ab, cb, fg, hg, hh, hown⟩ := hM.full (hall 11 (by decide)) (hall 12 (by decide))
        have fb := hU 13 _ rfl (hall 13 (by decide))
        simp only [putsX, Act.put, List.setIfInBounds_toArray, List.set_cons_zero, List.set_cons_succ]
        rw [fg, fb]
        clear hall hU h7 h8 p8 h9 hM fg fb
        generalize q 0 = _q0, q 1 = _q1, q 2 = _q2, q 3 = _q3, q 4 = _q4, q 5 = _q5, q 6 = _q6, q 7 = _q7, q 8 = _q8, q 9 = _q9, q 10 = _q10
        have g6 := keep_block hC gr (lt_of_block gr)
        have r6 := keep_block hC rr (lt_of_block rr)
        have s6 := keep_block hC sr (lt_of_block sr)
        have HB6 : Hid (Below w1.heap.size w1 u) := HBR.out.trans (hC.mono HBR.out.size)
        have HB6' : Hid (Below w.heap.size w u) := HB1.out.trans (HB6.out.mono HB1.out.size)
        have HOW := Lib.hid hown
        have HSP : Hid (wr.heap.size ≤ sP) := hg
        have HSZ : Hid (wr.heap.size ≤ u.heap.size) := hC.size
        clear hown hg hC
        cases v
        case false =>
          have HNO := Lib.hid (STOP.out HV.out)
          obtain ⟨y0, y1⟩ := cells2 s6
          have f0 := thawed s6 0
          have f1 := thawed s6 1
          go_wp2_with fail
          (try simp only [Exit.inBlock, Exit.then])
          obtain ⟨rfl, rfl, rfl, rfl⟩ := HNO.out
          refine bodyPost_ret (v := .tuple #[.agg #[.slice none 0 0, .int .i64 0], .bool false]) (by simp [results, Try.results124, go_sem, y0, y1]) rfl ⟨none, 0, rfl, World.ownsRow_nil _ _ _ _, (HB6'.out.setCell (by simp) _).setCell (by simp) _⟩
        case true =>
          obtain ⟨rfl, rfl⟩ := NEXT.out HV.out
          obtain ⟨y0, y1⟩ := cells2 hh
          obtain ⟨x0, x1⟩ := cells2 r6
          have f0 := thawed r6 0
          have f1 := thawed r6 1
          have G1 := (Below.heap_setCell (u.setCell ⟨w2.heap.size, 0, none⟩ (.slice ab N cb)) ⟨w2.heap.size, 1, none⟩ (.int .i64 (stP (L.take (m + 1)))) w.heap.size (by have := HS1.out; have := HS2.out; simp; omega)).trans ((Below.heap_setCell u ⟨w2.heap.size, 0, none⟩ (.slice ab N cb) w.heap.size (by have := HS1.out; have := HS2.out; simp; omega)).trans g6)
          have G2 := (Below.heap_setCell (u.setCell ⟨w2.heap.size, 0, none⟩ (.slice ab N cb)) ⟨w2.heap.size, 1, none⟩ (.int .i64 (stP (L.take (m + 1)))) (w.heap.size + 1) (by have := HS1.out; have := HS2.out; simp; omega)).trans ((Below.heap_setCell u ⟨w2.heap.size, 0, none⟩ (.slice ab N cb) (w.heap.size + 1) (by have := HS1.out; have := HS2.out; simp; omega)).trans s6)
          have G3 := set_cells (set_cells r6 0 (.slice ab N cb)) 1 (.int .i64 (stP (L.take (m + 1))))
          have hwr := lt_of_block rr
          have hab : ∀ x, ab = some x → x.block ≠ w2.heap.size := fun x hx => by have := (HOW.out.lo x hx).1; omega
          have G4 := ((HOW.out.mono (C := w1.heap.size) HBR.out.size).setCell (p := ⟨w2.heap.size, 0, none⟩) hab (.slice ab N cb)).setCell (p := ⟨w2.heap.size, 1, none⟩) hab (.int .i64 (stP (L.take (m + 1))))
          have G5 := (HB6.out.setCell (p := ⟨w2.heap.size, 0, none⟩) HS2.out (.slice ab N cb)).setCell (p := ⟨w2.heap.size, 1, none⟩) HS2.out (.int .i64 (stP (L.take (m + 1))))
          have GG := Lib.hid (And.intro G1 (And.intro G2 (And.intro G3 (And.intro G4 G5))))
          have HAB := Lib.hid hab
          clear G1 G2 G3 G4 G5 hab hwr
          go_wp2_with fail
          go_roundw
          case rel => exact ⟨m + 1, by omega, by go_num, GO.out HV.out, GG.out.1, GG.out.2.1, ⟨ab, cb, GG.out.2.2.1, GG.out.2.2.2.1, HAB.out⟩, GG.out.2.2.2.2⟩
          case measure => simp [intOf]; omega
    case neg =>
      obtain rfl : m = n := by omega
      have htk : L.take m = L := List.take_of_length_le (by rw [HL.out]; exact Nat.le_refl _)
      rw [htk] at rr HEND HON
      have hend := HEND.out
      have hle : le = stL N L := by rw [← HLE.out]; exact if_pos hend
      have hpe : pwe = stP L := by rw [← HPE.out]; exact if_pos hend
      have hne' : n' = N := by rw [← HNP.out, hle, stL_length]
      obtain ⟨gv, hgv⟩ : ∃ gv, decide (GeoOk g0 B g2 g3) = gv := ⟨_, rfl⟩
      have K := Lib.hid hgv
      have hvg : vv = gv := by rw [← HVV.out, hend, hgv]; rfl
      subst hle
      subst hpe
      subst hne'
      subst hvg
      have HBW : Hid (Below w.heap.size w wr) := HB1.out.trans (HBR.out.mono HB1.out.size)
      have HWR : Hid (w.heap.size + 1 < wr.heap.size) := lt_of_block sr
      have HSA : Hid (∀ x, aa = some x → x.block ≠ w.heap.size + 1) := fun x hx => by have := (HON.out.lo x hx).1; have := HS1.out; omega
      clear hend hgv
      go_wp2_with fail
      refine wp_region_float (A := ?A) [.h, .h, .t, .e, .e] (by kernel_rfl) (by kernel_rfl) (fun u => u.heap[w.heap.size]? = some (.cells #[.int .i64 g0, .int .i64 B, .int .i64 g2, .int .i64 g3] 25) ∧ u.heap[w2.heap.size]? = some (.cells #[.slice aa n' cc, .int .i64 (stP L)] 83)) ?hC ?hH ?hT
      case hC => exact ⟨gr, rr⟩
      case hH =>
        intro u hu
        obtain ⟨c0, c1, c2, c3⟩ := cells4 hu.1
        obtain ⟨d0, d1⟩ := cells2 hu.2
        have z0 := fun q : Same u => q.cell c0
        have z1 := fun q : Same u => q.cell c1
        have z2 := fun q : Same u => q.cell c2
        have z3 := fun q : Same u => q.cell c3
        have z4 := fun q : Same u => q.cell d0
        have z5 := fun q : Same u => q.cell d1
        simp only [headsOf]
        repeat (go_big_quiet_step (fail))
        refine wpQuiet_nil ?_
        exact rfl
      case hT =>
        simp only [chainT]
        have hgd : wr.drew.heap[w.heap.size]? = some (.cells #[.int .i64 g0, .int .i64 B, .int .i64 g2, .int .i64 g3] 25) := gr
        have hrd : wr.drew.heap[w2.heap.size]? = some (.cells #[.slice aa n' cc, .int .i64 (stP L)] 83) := rr
        have hsd : wr.drew.heap[w.heap.size + 1]? = some (.cells #[.slice none 0 0, .int .i64 0] 83) := sr
        have HOD : Hid (OwnK w1.heap.size (.slice aa n' cc) (stL n' L) wr.drew) := HON.out
        have HBD : Hid (Below w.heap.size w wr.drew) := Below.drew HBW.out
        clear gr rr sr HON HBW
        generalize wr.drew = w5 at hgd hrd hsd HOD HBD ⊢
        go_wp2_with fail
        refine (specGeoOk_is _ _ _ _ _ K.out _).mono ?_
        rintro e w6 ⟨rfl, hb6⟩
        have g6 := keep_block hb6 hgd (lt_of_block hgd)
        have r6 := keep_block hb6 hrd (lt_of_block hrd)
        have s6 := keep_block hb6 hsd (lt_of_block hsd)
        have HO6 := Lib.hid (HOD.out.below hb6)
        have HB6 : Hid (Below w.heap.size w w6) := HBD.out.trans (hb6.mono HBD.out.size)
        clear hb6 hgd hrd hsd HOD HBD
        go_wp2_with fail
        refine stepQ_normal ⟨⟨g6, r6⟩, ?_⟩
        obtain ⟨y0, y1⟩ := cells2 s6
        have f0 := thawed s6 0
        have f1 := thawed s6 1
        have fin : Hid (OwnK w.heap.size (.slice aa n' cc) (stL n' L) ((w6.setCell ⟨w.heap.size + 1, 0, none⟩ (.slice aa n' cc)).setCell ⟨w.heap.size + 1, 1, none⟩ (.int .i64 (stP L))) ∧ Below w.heap.size w ((w6.setCell ⟨w.heap.size + 1, 0, none⟩ (.slice aa n' cc)).setCell ⟨w.heap.size + 1, 1, none⟩ (.int .i64 (stP L)))) :=
          ⟨((HO6.out.setCell HSA.out _).setCell HSA.out _).mono (by have := HS1.out; omega), (HB6.out.setCell (by simp) _).setCell (by simp) _⟩
        go_wp2_with fail
        refine stepQ_normal ⟨trivial, ?_⟩
        go_wp2_with fail
        refine stepQ_normal ⟨trivial, ?_⟩
        go_wp2_with fail
        (try simp only [Exit.inBlock, Exit.then])
        refine bodyPost_ret (v := .tuple #[.agg #[.slice aa n' cc, .int .i64 (stP L)], .bool vv]) ?_ rfl ⟨_, _, rfl, fin.out.1, fin.out.2⟩
        simp [results, Try.results124, go_sem, y0, y1]

end Go.Proofs.Ythplhjdfajhmpaa

namespace Go.Proofs.Ythplhjdfajhmpaa
open Go.RowKit

set_option linter.unusedVariables false

/-- While a timing is drawn: the cursor at block c, the answer's variable at rb (all 0), the timing's at pb. -/
structure Dr (c B : Nat) (w : World) (rb pb : Nat) (t : Tm) (w' : World) : Prop where
  cur : Cur c B w'
  only : Only c w w'
  res : w'.heap[rb]? = some (.cells #[.int .i64 0, .int .i64 0, .int .i64 0, .int .i64 0, .int .i64 0, .int .i64 0, .int .i64 0, .int .i64 0, .int .i64 0, .int .i64 0, .int .i64 0, .int .i64 0, .int .i64 0, .int .i64 0, .int .i64 0, .int .i64 0, .int .i64 0] 27)
  var : w'.heap[pb]? = some (.cells #[.int .i64 t.rcd, .int .i64 t.rp, .int .i64 t.ras, .int .i64 t.rrds, .int .i64 t.rrdl, .int .i64 t.faw, .int .i64 t.ccds, .int .i64 t.ccdl, .int .i64 t.rtp, .int .i64 t.wr, .int .i64 t.wtrs, .int .i64 t.wtrl, .int .i64 t.rtw, .int .i64 t.rfc, .int .i64 t.cke, .int .i64 t.xp, .int .i64 t.xs] 27)
  lo : w.heap.size ≤ rb ∧ rb < pb ∧ pb < w'.heap.size
  cu : B ≤ c ∧ c < w.heap.size

theorem Dr.on {c B rb pb : Nat} {t : Tm} {w w1 w2 : World} (h : Dr c B w rb pb t w1) (hc : Cur c B w2) (ho : Only c w1 w2) : Dr c B w rb pb t w2 :=
  ⟨hc, h.only.trans ho, (ho.block _ (by have := h.lo; omega) (by have := h.lo; have := h.cu; omega)).trans h.res, (ho.block _ (by have := h.lo; omega) (by have := h.lo; have := h.cu; omega)).trans h.var, ⟨h.lo.1, h.lo.2.1, by have := h.lo; have := ho.size; omega⟩, h.cu⟩

theorem Dr.put {c B rb pb : Nat} {t t' : Tm} {w w1 : World} (h : Dr c B w rb pb t w1) (k : Nat) (u : Value) (hv : (w1.setCell ⟨pb, k, none⟩ u).heap[pb]? = some (.cells #[.int .i64 t'.rcd, .int .i64 t'.rp, .int .i64 t'.ras, .int .i64 t'.rrds, .int .i64 t'.rrdl, .int .i64 t'.faw, .int .i64 t'.ccds, .int .i64 t'.ccdl, .int .i64 t'.rtp, .int .i64 t'.wr, .int .i64 t'.wtrs, .int .i64 t'.wtrl, .int .i64 t'.rtw, .int .i64 t'.rfc, .int .i64 t'.cke, .int .i64 t'.xp, .int .i64 t'.xs] 27)) : Dr c B w rb pb t' (w1.setCell ⟨pb, k, none⟩ u) :=
  ⟨h.cur.setNew (by have := h.lo; have := h.cu; show B ≤ pb; omega) (by have := h.lo; have := h.cu; show pb ≠ c; omega) u, h.only.setNew (by have := h.lo; show w.heap.size ≤ pb; omega) u, (Below.heap_setCell _ _ _ _ (by have := h.lo; show rb ≠ pb; omega)).trans h.res, hv, by have := h.lo; simp [World.setCell]; omega, h.cu⟩

theorem Dr.made {c B : Nat} {t : Tm} {w w2 : World} (hc : Cur c B w) (hBc : B ≤ c) (h2 : Cur c B w2) (ho : Only c (w.alloc (.cells #[.int .i64 0, .int .i64 0, .int .i64 0, .int .i64 0, .int .i64 0, .int .i64 0, .int .i64 0, .int .i64 0, .int .i64 0, .int .i64 0, .int .i64 0, .int .i64 0, .int .i64 0, .int .i64 0, .int .i64 0, .int .i64 0, .int .i64 0] 27)) w2) : Dr c B w w.heap.size w2.heap.size t ((w2.alloc (.cells #[.int .i64 0, .int .i64 0, .int .i64 0, .int .i64 0, .int .i64 0, .int .i64 0, .int .i64 0, .int .i64 0, .int .i64 0, .int .i64 0, .int .i64 0, .int .i64 0, .int .i64 0, .int .i64 0, .int .i64 0, .int .i64 0, .int .i64 0] 27)).setRow w2.heap.size #[.int .i64 t.rcd, .int .i64 t.rp, .int .i64 t.ras, .int .i64 t.rrds, .int .i64 t.rrdl, .int .i64 t.faw, .int .i64 t.ccds, .int .i64 t.ccdl, .int .i64 t.rtp, .int .i64 t.wr, .int .i64 t.wtrs, .int .i64 t.wtrl, .int .i64 t.rtw, .int .i64 t.rfc, .int .i64 t.cke, .int .i64 t.xp, .int .i64 t.xs]) := by
  have hlt := hc.lt
  have hs := ho.size
  rw [World.size_alloc] at hs
  have hn := heap_alloc_new w2 (.cells #[.int .i64 0, .int .i64 0, .int .i64 0, .int .i64 0, .int .i64 0, .int .i64 0, .int .i64 0, .int .i64 0, .int .i64 0, .int .i64 0, .int .i64 0, .int .i64 0, .int .i64 0, .int .i64 0, .int .i64 0, .int .i64 0, .int .i64 0] 27)
  have hr := setRow_same _ _ #[.int .i64 t.rcd, .int .i64 t.rp, .int .i64 t.ras, .int .i64 t.rrds, .int .i64 t.rrdl, .int .i64 t.faw, .int .i64 t.ccds, .int .i64 t.ccdl, .int .i64 t.rtp, .int .i64 t.wr, .int .i64 t.wtrs, .int .i64 t.wtrl, .int .i64 t.rtw, .int .i64 t.rfc, .int .i64 t.cke, .int .i64 t.xp, .int .i64 t.xs] _ _ hn
  have hk : ∀ k, k < w2.heap.size → ((w2.alloc (.cells #[.int .i64 0, .int .i64 0, .int .i64 0, .int .i64 0, .int .i64 0, .int .i64 0, .int .i64 0, .int .i64 0, .int .i64 0, .int .i64 0, .int .i64 0, .int .i64 0, .int .i64 0, .int .i64 0, .int .i64 0, .int .i64 0, .int .i64 0] 27)).setRow w2.heap.size #[.int .i64 t.rcd, .int .i64 t.rp, .int .i64 t.ras, .int .i64 t.rrds, .int .i64 t.rrdl, .int .i64 t.faw, .int .i64 t.ccds, .int .i64 t.ccdl, .int .i64 t.rtp, .int .i64 t.wr, .int .i64 t.wtrs, .int .i64 t.wtrl, .int .i64 t.rtw, .int .i64 t.rfc, .int .i64 t.cke, .int .i64 t.xp, .int .i64 t.xs]).heap[k]? = w2.heap[k]? := fun k hk => by rw [setRow_other _ _ _ _ (Nat.ne_of_lt hk), Below.heap_alloc _ _ _ hk]
  have hb : Below w2.heap.size w2 ((w2.alloc (.cells #[.int .i64 0, .int .i64 0, .int .i64 0, .int .i64 0, .int .i64 0, .int .i64 0, .int .i64 0, .int .i64 0, .int .i64 0, .int .i64 0, .int .i64 0, .int .i64 0, .int .i64 0, .int .i64 0, .int .i64 0, .int .i64 0, .int .i64 0] 27)).setRow w2.heap.size #[.int .i64 t.rcd, .int .i64 t.rp, .int .i64 t.ras, .int .i64 t.rrds, .int .i64 t.rrdl, .int .i64 t.faw, .int .i64 t.ccds, .int .i64 t.ccdl, .int .i64 t.rtp, .int .i64 t.wr, .int .i64 t.wtrs, .int .i64 t.wtrl, .int .i64 t.rtw, .int .i64 t.rfc, .int .i64 t.cke, .int .i64 t.xp, .int .i64 t.xs]) := below_setRow ((Below.refl _ _).alloc (Nat.le_refl _) _) (Nat.le_refl _) _
  exact ⟨h2.keep (hk c h2.lt) (hb.mono (by have := h2.lt; omega)), (((Only.refl c w).alloc _).trans ho).later hb, (hk _ (by omega)).trans ((ho.block _ (by simp) (by omega)).trans (heap_alloc_new _ _)), hr, ⟨Nat.le_refl _, by omega, by simp⟩, ⟨hBc, hlt⟩⟩

theorem Dr.set_rp {c B rb pb : Nat} {t : Tm} {w w1 : World} (h : Dr c B w rb pb t w1) (x : Int) : Dr c B w rb pb { t with rp := x } (w1.setCell ⟨pb, 1, none⟩ (.int .i64 x)) :=
  h.put 1 _ (set_cells h.var 1 _)

theorem Dr.set_faw {c B rb pb : Nat} {t : Tm} {w w1 : World} (h : Dr c B w rb pb t w1) (x : Int) : Dr c B w rb pb { t with faw := x } (w1.setCell ⟨pb, 5, none⟩ (.int .i64 x)) :=
  h.put 5 _ (set_cells h.var 5 _)

theorem Dr.set_wr {c B rb pb : Nat} {t : Tm} {w w1 : World} (h : Dr c B w rb pb t w1) (x : Int) : Dr c B w rb pb { t with wr := x } (w1.setCell ⟨pb, 9, none⟩ (.int .i64 x)) :=
  h.put 9 _ (set_cells h.var 9 _)

theorem Dr.set_rtw {c B rb pb : Nat} {t : Tm} {w w1 : World} (h : Dr c B w rb pb t w1) (x : Int) : Dr c B w rb pb { t with rtw := x } (w1.setCell ⟨pb, 12, none⟩ (.int .i64 x)) :=
  h.put 12 _ (set_cells h.var 12 _)

theorem Dr.set_rfc {c B rb pb : Nat} {t : Tm} {w w1 : World} (h : Dr c B w rb pb t w1) (x : Int) : Dr c B w rb pb { t with rfc := x } (w1.setCell ⟨pb, 13, none⟩ (.int .i64 x)) :=
  h.put 13 _ (set_cells h.var 13 _)

end Go.Proofs.Ythplhjdfajhmpaa

namespace Go.Proofs.Ythplhjdfajhmpaa
open Go.RowKit

set_option linter.unusedVariables false

theorem tim_rp {t : Tm} (h : TimOk t) {x : Int} (hx : 1 ≤ x ∧ x ≤ 64) : TimOk { t with rp := x } := by
  obtain ⟨h1, h2⟩ := h
  refine ⟨fun y hy => ?_, h2⟩
  simp only [Tm.l, List.mem_cons, List.not_mem_nil, or_false] at hy
  have hh := fun z hz => h1 z hz
  simp only [Tm.l, List.mem_cons, List.not_mem_nil, or_false] at hh
  rcases hy with rfl | rfl | rfl | rfl | rfl | rfl | rfl | rfl | rfl | rfl | rfl | rfl | rfl | rfl | rfl | rfl | rfl
  all_goals first | exact hx | exact hh _ (by simp)

theorem tim_rfc {t : Tm} (h : TimOk t) {x : Int} (hx : 1 ≤ x ∧ x ≤ 64) : TimOk { t with rfc := x } := by
  obtain ⟨h1, h2⟩ := h
  refine ⟨fun y hy => ?_, h2⟩
  simp only [Tm.l, List.mem_cons, List.not_mem_nil, or_false] at hy
  have hh := fun z hz => h1 z hz
  simp only [Tm.l, List.mem_cons, List.not_mem_nil, or_false] at hh
  rcases hy with rfl | rfl | rfl | rfl | rfl | rfl | rfl | rfl | rfl | rfl | rfl | rfl | rfl | rfl | rfl | rfl | rfl
  all_goals first | exact hx | exact hh _ (by simp)

theorem tim_wr {t : Tm} (h : TimOk t) {x : Int} (hx : 1 ≤ x ∧ x ≤ 64) : TimOk { t with wr := x } := by
  obtain ⟨h1, h2⟩ := h
  refine ⟨fun y hy => ?_, h2⟩
  simp only [Tm.l, List.mem_cons, List.not_mem_nil, or_false] at hy
  have hh := fun z hz => h1 z hz
  simp only [Tm.l, List.mem_cons, List.not_mem_nil, or_false] at hh
  rcases hy with rfl | rfl | rfl | rfl | rfl | rfl | rfl | rfl | rfl | rfl | rfl | rfl | rfl | rfl | rfl | rfl | rfl
  all_goals first | exact hx | exact hh _ (by simp)

theorem tim_faw {t : Tm} (h : TimOk t) {x : Int} (hx : 1 ≤ x ∧ x ≤ 64) : TimOk { t with faw := x } := by
  obtain ⟨h1, h2⟩ := h
  refine ⟨fun y hy => ?_, h2⟩
  simp only [Tm.l, List.mem_cons, List.not_mem_nil, or_false] at hy
  have hh := fun z hz => h1 z hz
  simp only [Tm.l, List.mem_cons, List.not_mem_nil, or_false] at hh
  rcases hy with rfl | rfl | rfl | rfl | rfl | rfl | rfl | rfl | rfl | rfl | rfl | rfl | rfl | rfl | rfl | rfl | rfl
  all_goals first | exact hx | exact hh _ (by simp)

theorem tim_rtw {t : Tm} (h : TimOk t) {x : Int} (hx : 1 ≤ x ∧ x ≤ 64) : TimOk { t with rtw := x } := by
  obtain ⟨h1, h2⟩ := h
  refine ⟨fun y hy => ?_, h2⟩
  simp only [Tm.l, List.mem_cons, List.not_mem_nil, or_false] at hy
  have hh := fun z hz => h1 z hz
  simp only [Tm.l, List.mem_cons, List.not_mem_nil, or_false] at hh
  rcases hy with rfl | rfl | rfl | rfl | rfl | rfl | rfl | rfl | rfl | rfl | rfl | rfl | rfl | rfl | rfl | rfl | rfl
  all_goals first | exact hx | exact hh _ (by simp)

/-- What a drawn timing leaves: a valid one. -/
def DrewTmOk (c B : Nat) (w : World) (e : Ending) (w' : World) : Prop := ∃ t : Tm, e = .returned (.agg #[.int .i64 t.rcd, .int .i64 t.rp, .int .i64 t.ras, .int .i64 t.rrds, .int .i64 t.rrdl, .int .i64 t.faw, .int .i64 t.ccds, .int .i64 t.ccdl, .int .i64 t.rtp, .int .i64 t.wr, .int .i64 t.wtrs, .int .i64 t.wtrl, .int .i64 t.rtw, .int .i64 t.rfc, .int .i64 t.cke, .int .i64 t.xp, .int .i64 t.xs]) ∧ TimOk t ∧ Cur c B w' ∧ Only c w w'

set_option maxHeartbeats 8000000 in
theorem l07TimeOk_any {c B : Nat} {w : World} (hcur : Cur c B w) : Calls Try.prog 77 #[.pointer (some ⟨c, 0, none⟩)] w (DrewTmOk c B w) := by
  have hBc : B ≤ c := by obtain ⟨_, _, _, _, _, _, _, h, _⟩ := hcur; exact h
  have HC := Lib.hid hcur
  have SPEC : Hid (∀ w, Calls Try.prog 104 #[] w (Gives (.agg #[.int .i64 fastT.rcd, .int .i64 fastT.rp, .int .i64 fastT.ras, .int .i64 fastT.rrds, .int .i64 fastT.rrdl, .int .i64 fastT.faw, .int .i64 fastT.ccds, .int .i64 fastT.ccdl, .int .i64 fastT.rtp, .int .i64 fastT.wr, .int .i64 fastT.wtrs, .int .i64 fastT.wtrl, .int .i64 fastT.rtw, .int .i64 fastT.rfc, .int .i64 fastT.cke, .int .i64 fastT.xp, .int .i64 fastT.xs]) w)) := fun w => specFast_is w
  obtain ⟨t, ht⟩ : ∃ t, fastT = t := ⟨_, rfl⟩
  rw [ht] at SPEC
  have OK : Hid (TimOk t) := by show TimOk _; rw [← ht]; exact fast_ok
  clear ht hcur
  go_enter Try.func77, Try.ntmps77
  go_wp2_with fail
  refine (SPEC.out _).mono ?_
  rintro e w1 ⟨rfl, hb1⟩
  have hn := heap_alloc_new w1 (.cells #[.int .i64 0, .int .i64 0, .int .i64 0, .int .i64 0, .int .i64 0, .int .i64 0, .int .i64 0, .int .i64 0, .int .i64 0, .int .i64 0, .int .i64 0, .int .i64 0, .int .i64 0, .int .i64 0, .int .i64 0, .int .i64 0, .int .i64 0] 27)
  have D := Lib.hid (Dr.made (t := t) HC.out hBc ((HC.out.alloc _).keep (hb1.block _ (by have := HC.out.lt; simp; omega)) (hb1.mono (by have := HC.out.lt; simp; omega))) ((Only.refl _ _).later hb1))
  have HS : Hid (w.heap.size < w1.heap.size) := by have := hb1.size; rw [World.size_alloc] at this; exact this
  clear hb1
  go_wp2_with ((with_reducible refine store_list (cells := #[.int .i64 t.rcd, .int .i64 t.rp, .int .i64 t.ras, .int .i64 t.rrds, .int .i64 t.rrdl, .int .i64 t.faw, .int .i64 t.ccds, .int .i64 t.ccdl, .int .i64 t.rtp, .int .i64 t.wr, .int .i64 t.wtrs, .int .i64 t.wtrl, .int .i64 t.rtw, .int .i64 t.rfc, .int .i64 t.cke, .int .i64 t.xp, .int .i64 t.xs]) hn ?_ ?_ ?_ ?_ ?_ ?_); kernel_rfl; kernel_rfl; kernel_rfl; kernel_rfl; kernel_rfl)
  obtain ⟨PB, hPB⟩ : ∃ p, w1.heap.size = p := ⟨_, rfl⟩
  generalize ((w1.alloc (.cells #[.int .i64 0, .int .i64 0, .int .i64 0, .int .i64 0, .int .i64 0, .int .i64 0, .int .i64 0, .int .i64 0, .int .i64 0, .int .i64 0, .int .i64 0, .int .i64 0, .int .i64 0, .int .i64 0, .int .i64 0, .int .i64 0, .int .i64 0] 27)).setRow w1.heap.size #[.int .i64 t.rcd, .int .i64 t.rp, .int .i64 t.ras, .int .i64 t.rrds, .int .i64 t.rrdl, .int .i64 t.faw, .int .i64 t.ccds, .int .i64 t.ccdl, .int .i64 t.rtp, .int .i64 t.wr, .int .i64 t.wtrs, .int .i64 t.wtrl, .int .i64 t.rtw, .int .i64 t.rfc, .int .i64 t.cke, .int .i64 t.xp, .int .i64 t.xs]) = v1 at D ⊢
  rw [hPB] at D
  (try simp only [hPB])
  clear hn hPB HS SPEC HC hBc
  refine (l01Once_any D.out.cur 2 (by omega)).mono ?_
  rintro e w2 ⟨x, rfl, hc, ho⟩
  have E := Lib.hid (D.out.on hc ho)
  clear D hc ho
  cases x
  · have p := E.out.var
    have z := E.out.res
    go_wp2_with (first | (first | ((with_reducible refine ld_tm ?_ ?_ p ?_); kernel_rfl; kernel_rfl; go_simp)) | ((with_reducible refine store_list (cells := #[.int .i64 t.rcd, .int .i64 t.rp, .int .i64 t.ras, .int .i64 t.rrds, .int .i64 t.rrdl, .int .i64 t.faw, .int .i64 t.ccds, .int .i64 t.ccdl, .int .i64 t.rtp, .int .i64 t.wr, .int .i64 t.wtrs, .int .i64 t.wtrl, .int .i64 t.rtw, .int .i64 t.rfc, .int .i64 t.cke, .int .i64 t.xp, .int .i64 t.xs]) z ?_ ?_ ?_ ?_ ?_ ?_); kernel_rfl; kernel_rfl; kernel_rfl; kernel_rfl; kernel_rfl))
    have hr := setRow_same _ _ #[.int .i64 t.rcd, .int .i64 t.rp, .int .i64 t.ras, .int .i64 t.rrds, .int .i64 t.rrdl, .int .i64 t.faw, .int .i64 t.ccds, .int .i64 t.ccdl, .int .i64 t.rtp, .int .i64 t.wr, .int .i64 t.wtrs, .int .i64 t.wtrl, .int .i64 t.rtw, .int .i64 t.rfc, .int .i64 t.cke, .int .i64 t.xp, .int .i64 t.xs] _ _ z
    refine bodyPost_ret (v := .agg #[.int .i64 t.rcd, .int .i64 t.rp, .int .i64 t.ras, .int .i64 t.rrds, .int .i64 t.rrdl, .int .i64 t.faw, .int .i64 t.ccds, .int .i64 t.ccdl, .int .i64 t.rtp, .int .i64 t.wr, .int .i64 t.wtrs, .int .i64 t.wtrl, .int .i64 t.rtw, .int .i64 t.rfc, .int .i64 t.cke, .int .i64 t.xp, .int .i64 t.xs]) (results_cell_row rfl _ _ w.heap.size 27 #[.int .i64 t.rcd, .int .i64 t.rp, .int .i64 t.ras, .int .i64 t.rrds, .int .i64 t.rrdl, .int .i64 t.faw, .int .i64 t.ccds, .int .i64 t.ccdl, .int .i64 t.rtp, .int .i64 t.wr, .int .i64 t.wtrs, .int .i64 t.wtrl, .int .i64 t.rtw, .int .i64 t.rfc, .int .i64 t.cke, .int .i64 t.xp, .int .i64 t.xs] (0, 0) _ rfl hr Try.underlying27 rfl (by kernel_rfl)) rfl ⟨t, rfl, OK.out, ?_, ?_⟩
    · exact (E.out.cur).keep (setRow_other _ _ _ _ (by have := E.out.cu; omega)) (below_setRow (Below.refl _ _) (by have := E.out.cu; omega) _)
    · exact E.out.only.trans' ⟨rfl, rfl, rfl, by simp⟩ (fun k hk hne => setRow_other _ _ _ _ (by omega))
  have D := Lib.hid E.out
  clear E
  go_wp2_with fail
  refine (l01Below_any D.out.cur 6 (by omega)).mono ?_
  rintro e w3 ⟨x3, rfl, h0, h1, hc, ho⟩
  rw [topOf_pos (by omega)] at h1
  have E := Lib.hid (D.out.on hc ho)
  have e1 : IntKind.i64.wrap (1 + x3) = 1 + x3 := IntWalk.i64_in _ ⟨by omega, by omega⟩
  obtain ⟨c0, c1, c2, c3, c4, c5, c6, c7, c8, c9, c10, c11, c12, c13, c14, c15, c16⟩ := tm_cells E.out.var
  have fz := thawed E.out.var 1
  have D2 := E.out.set_rp (1 + x3)
  have OK0' := tim_rp OK.out (x := 1 + x3) (by omega)
  obtain ⟨t0, htm⟩ : ∃ u : Tm, { t with rp := 1 + x3 } = u := ⟨_, rfl⟩
  rw [htm] at OK0'
  have OK0 : Hid (TimOk t0) := OK0'
  clear OK0'
  rw [htm] at D2
  have D3 := Lib.hid D2
  clear hc ho D h0 h1 D2 htm
  go_wp2_with fail
  generalize (w3.setCell ⟨PB, 1, none⟩ (.int .i64 (1 + x3))) = v3 at D3 ⊢
  have D := D3
  clear c0 c1 c2 c3 c4 c5 c6 c7 c8 c9 c10 c11 c12 c13 c14 c15 c16 fz e1 E D3
  go_wp2_with fail
  refine (l01Below_any D.out.cur 20 (by omega)).mono ?_
  rintro e w4 ⟨x4, rfl, h0, h1, hc, ho⟩
  rw [topOf_pos (by omega)] at h1
  have E := Lib.hid (D.out.on hc ho)
  have e1 : IntKind.i64.wrap (4 + x4) = 4 + x4 := IntWalk.i64_in _ ⟨by omega, by omega⟩
  obtain ⟨c0, c1, c2, c3, c4, c5, c6, c7, c8, c9, c10, c11, c12, c13, c14, c15, c16⟩ := tm_cells E.out.var
  have fz := thawed E.out.var 13
  have D2 := E.out.set_rfc (4 + x4)
  have OK1' := tim_rfc OK0.out (x := 4 + x4) (by omega)
  obtain ⟨t1, htm⟩ : ∃ u : Tm, { t0 with rfc := 4 + x4 } = u := ⟨_, rfl⟩
  rw [htm] at OK1'
  have OK1 : Hid (TimOk t1) := OK1'
  clear OK1'
  rw [htm] at D2
  have D3 := Lib.hid D2
  clear hc ho D h0 h1 D2 htm
  go_wp2_with fail
  generalize (w4.setCell ⟨PB, 13, none⟩ (.int .i64 (4 + x4))) = v4 at D3 ⊢
  have D := D3
  clear c0 c1 c2 c3 c4 c5 c6 c7 c8 c9 c10 c11 c12 c13 c14 c15 c16 fz e1 E D3
  go_wp2_with fail
  refine (l01Below_any D.out.cur 9 (by omega)).mono ?_
  rintro e w5 ⟨x5, rfl, h0, h1, hc, ho⟩
  rw [topOf_pos (by omega)] at h1
  have E := Lib.hid (D.out.on hc ho)
  have e1 : IntKind.i64.wrap (1 + x5) = 1 + x5 := IntWalk.i64_in _ ⟨by omega, by omega⟩
  obtain ⟨c0, c1, c2, c3, c4, c5, c6, c7, c8, c9, c10, c11, c12, c13, c14, c15, c16⟩ := tm_cells E.out.var
  have fz := thawed E.out.var 9
  have D2 := E.out.set_wr (1 + x5)
  have OK2' := tim_wr OK1.out (x := 1 + x5) (by omega)
  obtain ⟨t2, htm⟩ : ∃ u : Tm, { t1 with wr := 1 + x5 } = u := ⟨_, rfl⟩
  rw [htm] at OK2'
  have OK2 : Hid (TimOk t2) := OK2'
  clear OK2'
  rw [htm] at D2
  have D3 := Lib.hid D2
  clear hc ho D h0 h1 D2 htm
  go_wp2_with fail
  generalize (w5.setCell ⟨PB, 9, none⟩ (.int .i64 (1 + x5))) = v5 at D3 ⊢
  have D := D3
  clear c0 c1 c2 c3 c4 c5 c6 c7 c8 c9 c10 c11 c12 c13 c14 c15 c16 fz e1 E D3
  go_wp2_with fail
  refine (l01Below_any D.out.cur 20 (by omega)).mono ?_
  rintro e w6 ⟨x6, rfl, h0, h1, hc, ho⟩
  rw [topOf_pos (by omega)] at h1
  have E := Lib.hid (D.out.on hc ho)
  have e1 : IntKind.i64.wrap (4 + x6) = 4 + x6 := IntWalk.i64_in _ ⟨by omega, by omega⟩
  obtain ⟨c0, c1, c2, c3, c4, c5, c6, c7, c8, c9, c10, c11, c12, c13, c14, c15, c16⟩ := tm_cells E.out.var
  have fz := thawed E.out.var 5
  have D2 := E.out.set_faw (4 + x6)
  have OK3' := tim_faw OK2.out (x := 4 + x6) (by omega)
  obtain ⟨t3, htm⟩ : ∃ u : Tm, { t2 with faw := 4 + x6 } = u := ⟨_, rfl⟩
  rw [htm] at OK3'
  have OK3 : Hid (TimOk t3) := OK3'
  clear OK3'
  rw [htm] at D2
  have D3 := Lib.hid D2
  clear hc ho D h0 h1 D2 htm
  go_wp2_with fail
  generalize (w6.setCell ⟨PB, 5, none⟩ (.int .i64 (4 + x6))) = v6 at D3 ⊢
  have D := D3
  clear c0 c1 c2 c3 c4 c5 c6 c7 c8 c9 c10 c11 c12 c13 c14 c15 c16 fz e1 E D3
  go_wp2_with fail
  refine (l01Below_any D.out.cur 8 (by omega)).mono ?_
  rintro e w7 ⟨x7, rfl, h0, h1, hc, ho⟩
  rw [topOf_pos (by omega)] at h1
  have E := Lib.hid (D.out.on hc ho)
  have e1 : IntKind.i64.wrap (1 + x7) = 1 + x7 := IntWalk.i64_in _ ⟨by omega, by omega⟩
  obtain ⟨c0, c1, c2, c3, c4, c5, c6, c7, c8, c9, c10, c11, c12, c13, c14, c15, c16⟩ := tm_cells E.out.var
  have fz := thawed E.out.var 12
  have D2 := E.out.set_rtw (1 + x7)
  have OK4' := tim_rtw OK3.out (x := 1 + x7) (by omega)
  obtain ⟨t4, htm⟩ : ∃ u : Tm, { t3 with rtw := 1 + x7 } = u := ⟨_, rfl⟩
  rw [htm] at OK4'
  have OK4 : Hid (TimOk t4) := OK4'
  clear OK4'
  rw [htm] at D2
  have D3 := Lib.hid D2
  clear hc ho D h0 h1 D2 htm
  have p := D3.out.var
  have z := D3.out.res
  go_wp2_with (first | (first | ((with_reducible refine ld_tm ?_ ?_ p ?_); kernel_rfl; kernel_rfl; go_simp)) | ((with_reducible refine store_list (cells := #[.int .i64 t4.rcd, .int .i64 t4.rp, .int .i64 t4.ras, .int .i64 t4.rrds, .int .i64 t4.rrdl, .int .i64 t4.faw, .int .i64 t4.ccds, .int .i64 t4.ccdl, .int .i64 t4.rtp, .int .i64 t4.wr, .int .i64 t4.wtrs, .int .i64 t4.wtrl, .int .i64 t4.rtw, .int .i64 t4.rfc, .int .i64 t4.cke, .int .i64 t4.xp, .int .i64 t4.xs]) z ?_ ?_ ?_ ?_ ?_ ?_); kernel_rfl; kernel_rfl; kernel_rfl; kernel_rfl; kernel_rfl))
  have hr := setRow_same _ _ #[.int .i64 t4.rcd, .int .i64 t4.rp, .int .i64 t4.ras, .int .i64 t4.rrds, .int .i64 t4.rrdl, .int .i64 t4.faw, .int .i64 t4.ccds, .int .i64 t4.ccdl, .int .i64 t4.rtp, .int .i64 t4.wr, .int .i64 t4.wtrs, .int .i64 t4.wtrl, .int .i64 t4.rtw, .int .i64 t4.rfc, .int .i64 t4.cke, .int .i64 t4.xp, .int .i64 t4.xs] _ _ z
  refine bodyPost_ret (v := .agg #[.int .i64 t4.rcd, .int .i64 t4.rp, .int .i64 t4.ras, .int .i64 t4.rrds, .int .i64 t4.rrdl, .int .i64 t4.faw, .int .i64 t4.ccds, .int .i64 t4.ccdl, .int .i64 t4.rtp, .int .i64 t4.wr, .int .i64 t4.wtrs, .int .i64 t4.wtrl, .int .i64 t4.rtw, .int .i64 t4.rfc, .int .i64 t4.cke, .int .i64 t4.xp, .int .i64 t4.xs]) (results_cell_row rfl _ _ w.heap.size 27 #[.int .i64 t4.rcd, .int .i64 t4.rp, .int .i64 t4.ras, .int .i64 t4.rrds, .int .i64 t4.rrdl, .int .i64 t4.faw, .int .i64 t4.ccds, .int .i64 t4.ccdl, .int .i64 t4.rtp, .int .i64 t4.wr, .int .i64 t4.wtrs, .int .i64 t4.wtrl, .int .i64 t4.rtw, .int .i64 t4.rfc, .int .i64 t4.cke, .int .i64 t4.xp, .int .i64 t4.xs] (0, 0) _ rfl hr Try.underlying27 rfl (by kernel_rfl)) rfl ⟨t4, rfl, OK4.out, ?_, ?_⟩
  · exact (D3.out.cur).keep (setRow_other _ _ _ _ (by have := D3.out.cu; omega)) (below_setRow (Below.refl _ _) (by have := D3.out.cu; omega) _)
  · exact D3.out.only.trans' ⟨rfl, rfl, rfl, by simp⟩ (fun k hk hne => setRow_other _ _ _ _ (by omega))

end Go.Proofs.Ythplhjdfajhmpaa
