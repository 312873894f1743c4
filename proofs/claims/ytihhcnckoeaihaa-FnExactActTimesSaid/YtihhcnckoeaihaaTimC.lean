/-
  A timing in its cells.
-/
import Derived.Test.YtihhcnckoeaihaaTimM
import Derived.Test.YtihhcnckoeaihaaCmdW
import Derived.Test.YtihhcnckoeaihaaGeoI
import Derived.Test.YtihhcnckoeaihaaMade
import Derived.Great.BuildSlice
import Derived.Laws.CopyOwn
namespace Go.Proofs.Ytihhcnckoeaihaa
open Go.RowKit

set_option linter.unusedVariables false

theorem tm_cells {t : Tm} {w : World} {c : Nat} {ty : TypeId} {fr : Nat × Nat} (h : w.heap[c]? = some (.cells #[.int .i64 t.rcd, .int .i64 t.rp, .int .i64 t.ras, .int .i64 t.rrds, .int .i64 t.rrdl, .int .i64 t.faw, .int .i64 t.ccds, .int .i64 t.ccdl, .int .i64 t.rtp, .int .i64 t.wr, .int .i64 t.wtrs, .int .i64 t.wtrl, .int .i64 t.rtw, .int .i64 t.rfc, .int .i64 t.cke, .int .i64 t.xp, .int .i64 t.xs] ty fr)) :
    w.cell? ⟨c, 0, none⟩ = some (.int .i64 t.rcd) ∧ w.cell? ⟨c, 1, none⟩ = some (.int .i64 t.rp) ∧ w.cell? ⟨c, 2, none⟩ = some (.int .i64 t.ras) ∧ w.cell? ⟨c, 3, none⟩ = some (.int .i64 t.rrds) ∧ w.cell? ⟨c, 4, none⟩ = some (.int .i64 t.rrdl) ∧ w.cell? ⟨c, 5, none⟩ = some (.int .i64 t.faw) ∧ w.cell? ⟨c, 6, none⟩ = some (.int .i64 t.ccds) ∧ w.cell? ⟨c, 7, none⟩ = some (.int .i64 t.ccdl) ∧ w.cell? ⟨c, 8, none⟩ = some (.int .i64 t.rtp) ∧ w.cell? ⟨c, 9, none⟩ = some (.int .i64 t.wr) ∧ w.cell? ⟨c, 10, none⟩ = some (.int .i64 t.wtrs) ∧ w.cell? ⟨c, 11, none⟩ = some (.int .i64 t.wtrl) ∧ w.cell? ⟨c, 12, none⟩ = some (.int .i64 t.rtw) ∧ w.cell? ⟨c, 13, none⟩ = some (.int .i64 t.rfc) ∧ w.cell? ⟨c, 14, none⟩ = some (.int .i64 t.cke) ∧ w.cell? ⟨c, 15, none⟩ = some (.int .i64 t.xp) ∧ w.cell? ⟨c, 16, none⟩ = some (.int .i64 t.xs) := by
  have k : ∀ i, w.cell? ⟨c, i, none⟩ = (#[.int .i64 t.rcd, .int .i64 t.rp, .int .i64 t.ras, .int .i64 t.rrds, .int .i64 t.rrdl, .int .i64 t.faw, .int .i64 t.ccds, .int .i64 t.ccdl, .int .i64 t.rtp, .int .i64 t.wr, .int .i64 t.wtrs, .int .i64 t.wtrl, .int .i64 t.rtw, .int .i64 t.rfc, .int .i64 t.cke, .int .i64 t.xp, .int .i64 t.xs] : Array Value)[i]? := fun i => by simp only [World.cell?, h]; rfl
  exact ⟨k 0, k 1, k 2, k 3, k 4, k 5, k 6, k 7, k 8, k 9, k 10, k 11, k 12, k 13, k 14, k 15, k 16⟩

theorem tm_row {t : Tm} {w : World} {g : Nat} {ty : TypeId} (h : w.heap[g]? = some (.cells #[.int .i64 t.rcd, .int .i64 t.rp, .int .i64 t.ras, .int .i64 t.rrds, .int .i64 t.rrdl, .int .i64 t.faw, .int .i64 t.ccds, .int .i64 t.ccdl, .int .i64 t.rtp, .int .i64 t.wr, .int .i64 t.wtrs, .int .i64 t.wtrl, .int .i64 t.rtw, .int .i64 t.rfc, .int .i64 t.cke, .int .i64 t.xp, .int .i64 t.xs] ty)) (j : Nat) (hj : j < 17) : w.cell? ⟨g, j, none⟩ = some (.int .i64 (t.l.getD j 0)) := by
  obtain ⟨c0, c1, c2, c3, c4, c5, c6, c7, c8, c9, c10, c11, c12, c13, c14, c15, c16⟩ := tm_cells h
  match j, hj with
  | 0, _ => exact c0
  | 1, _ => exact c1
  | 2, _ => exact c2
  | 3, _ => exact c3
  | 4, _ => exact c4
  | 5, _ => exact c5
  | 6, _ => exact c6
  | 7, _ => exact c7
  | 8, _ => exact c8
  | 9, _ => exact c9
  | 10, _ => exact c10
  | 11, _ => exact c11
  | 12, _ => exact c12
  | 13, _ => exact c13
  | 14, _ => exact c14
  | 15, _ => exact c15
  | 16, _ => exact c16
  | n + 17, hn => exact absurd hn (by omega)

theorem tm_all {t : Tm} : (∀ x ∈ t.l, In64 x) ↔ ∀ m, m < 17 → In64 (t.l.getD m 0) := by
  constructor
  · intro h m hm
    have hl : m < t.l.length := hm
    rw [List.getD_eq_getElem?_getD, List.getElem?_eq_getElem hl]
    exact h _ (List.getElem_mem hl)
  · intro h x hx
    obtain ⟨m, hm, rfl⟩ := List.mem_iff_getElem.1 hx
    have := h m hm
    rw [List.getD_eq_getElem?_getD, List.getElem?_eq_getElem hm] at this
    exact this

theorem tm_load_run {t : Tm} {w : World} {c : Nat} {ty : TypeId} {fr : Nat × Nat} (h : w.heap[c]? = some (.cells #[.int .i64 t.rcd, .int .i64 t.rp, .int .i64 t.ras, .int .i64 t.rrds, .int .i64 t.rrdl, .int .i64 t.faw, .int .i64 t.ccds, .int .i64 t.ccdl, .int .i64 t.rtp, .int .i64 t.wr, .int .i64 t.wtrs, .int .i64 t.wtrl, .int .i64 t.rtw, .int .i64 t.rfc, .int .i64 t.cke, .int .i64 t.xp, .int .i64 t.xs] ty fr)) : (Instr.loadAt 32 (.pointer (some ⟨c, 0, none⟩))).run Try.prog w = .ok (.agg #[.int .i64 t.rcd, .int .i64 t.rp, .int .i64 t.ras, .int .i64 t.rrds, .int .i64 t.rrdl, .int .i64 t.faw, .int .i64 t.ccds, .int .i64 t.ccdl, .int .i64 t.rtp, .int .i64 t.wr, .int .i64 t.wtrs, .int .i64 t.wtrl, .int .i64 t.rtw, .int .i64 t.rfc, .int .i64 t.cke, .int .i64 t.xp, .int .i64 t.xs]) w := by
  have k := run_loadVar_row (P := Try.prog) w c ty 32 #[.int .i64 t.rcd, .int .i64 t.rp, .int .i64 t.ras, .int .i64 t.rrds, .int .i64 t.rrdl, .int .i64 t.faw, .int .i64 t.ccds, .int .i64 t.ccdl, .int .i64 t.rtp, .int .i64 t.wr, .int .i64 t.wtrs, .int .i64 t.wtrl, .int .i64 t.rtw, .int .i64 t.rfc, .int .i64 t.cke, .int .i64 t.xp, .int .i64 t.xs] fr _ h Try.underlying32 rfl (by kernel_rfl)
  simp only [Instr.loadAt, Instr.sureAddr, Sem.run_bind, Sem.run_pure, Result.andThen_ok, k]

/-- A load of a whole struct, at the list of a plain region's operations. -/
theorem load_list {P : Program} {ops : Array Oper} {rest : List Oper} {a : Act} {w : World} {Q : Exit → Act → World → Prop} {d : Tmp} {T : TypeId} {x : Operand} {y : TypeId} {p : String} {af : Array Edge} {gd : Option (Nat × Bool)} {c : Nat} {cs : Array Value} {t : TypeId} {fr : Nat × Nat} {ds : TypeDesc}
    (hu : P.underlying T = some ds) (hd : (match ds with | .struct _ | .array _ _ => true | _ => false) = true) (hi : (P.info? T).map (·.size) = some cs.size)
    (hw : Region.wanted ⟨some d, .load T x, y, p, af, gd⟩ (yielded ops a.tmps) = true) (hx : a.eval x = .pointer (some ⟨c, 0, none⟩)) (h : w.heap[c]? = some (.cells cs t fr))
    (k : wpList P ops Q rest (a.put (some d) (.agg cs)) w) : wpList P ops Q (⟨some d, .load T x, y, p, af, gd⟩ :: rest) a w :=
  BigFrame.wpList_want hw fun _ hK => wp_load_row T x rfl c hx t cs fr ds h hu hd hi (hK _ _ k)

/-- A build of a composite value whose cells are named. -/
theorem build_list {P : Program} {ops : Array Oper} {rest : List Oper} {a : Act} {w : World} {Q : Exit → Act → World → Prop} (d : Tmp) {T : TypeId} {parts : Array (Nat × Operand)} {y : TypeId} {p : String} {af : Array Edge} (cells : Array Value)
    (hf : P.built T (parts.map fun (i, x) => (i, a.eval x)).toList = some cells)
    (k : wpList P ops Q rest (a.put (some d) (.agg cells)) w) : wpList P ops Q (⟨some d, .build T parts, y, p, af, none⟩ :: rest) a w :=
  wpList_buildTo rfl T parts rfl (some d) rfl cells hf k

/-- A store of a whole row. -/
theorem store_list {P : Program} {ops : Array Oper} {rest : List Oper} {a : Act} {w : World} {Q : Exit → Act → World → Prop} {T : TypeId} {x v : Operand} {y : TypeId} {p : String} {af : Array Edge} {g : Nat} {cells old : Array Value} {t : TypeId}
    (h : w.heap[g]? = some (.cells old t (0, 0))) (hx : a.eval x = .pointer (some ⟨g, 0, none⟩)) (hy : a.eval v = .agg cells)
    (hi : (P.info? T).map (·.size) = some cells.size) (hold : old.size = cells.size) (h1 : cells.all (·.oneCell') = true)
    (k : wpList P ops Q rest a (w.setRow g cells)) : wpList P ops Q (⟨none, .store T x v, y, p, af, none⟩ :: rest) a w :=
  wpList_store_rowTo rfl T x v rfl rfl g cells hx hy t old h hi hold h1 k

/-- The same in a region that draws its order. -/
theorem load_quiet {P : Program} {ops : Array Oper} {rest : List Oper} {a : Act} {C : World → Prop} {Q : Act → Prop} {d : Tmp} {T : TypeId} {x : Operand} {y : TypeId} {p : String} {af : Array Edge} {gd : Option (Nat × Bool)} {c : Nat} {cs : Array Value} {ds : TypeDesc}
    (hu : P.underlying T = some ds) (hd : (match ds with | .struct _ | .array _ _ => true | _ => false) = true) (hi : (P.info? T).map (·.size) = some cs.size)
    (hw : Region.wanted ⟨some d, .load T x, y, p, af, gd⟩ (yielded ops a.tmps) = true) (hx : a.eval x = .pointer (some ⟨c, 0, none⟩)) (hz : ∀ w, C w → ∃ t fr, w.heap[c]? = some (.cells cs t fr))
    (k : wpQuiet P ops C Q rest (a.put (some d) (.agg cs))) : wpQuiet P ops C Q (⟨some d, .load T x, y, p, af, gd⟩ :: rest) a :=
  BigFrame.wpQuiet_want hw fun _ hK => ⟨_, fun w hw' => by
    obtain ⟨t, fr, h⟩ := hz w hw'
    unfold Oper.quietAt execOp
    simp only [hx, Instr.loadAt, Instr.sureAddr, Sem.run_bind, Sem.run_pure, Result.andThen_ok, run_loadVar_row w c t T cs fr ds h hu hd hi]
    exact ⟨rfl, rfl⟩, hK _ k⟩

theorem ld_later {ops : Array Oper} {rest : List Oper} {a : Act} {w : World} {Q : Act → Prop} {d : Tmp} {x : Operand} {y : TypeId} {p : String} {af : Array Edge} {gd : Option (Nat × Bool)} {c : Nat} {t : Tm} {ty : TypeId} {fr : Nat × Nat}
    (hw : Region.wanted ⟨some d, .load 32 x, y, p, af, gd⟩ (yielded ops a.tmps) = true) (hx : a.eval x = .pointer (some ⟨c, 0, none⟩)) (h : w.heap[c]? = some (.cells #[.int .i64 t.rcd, .int .i64 t.rp, .int .i64 t.ras, .int .i64 t.rrds, .int .i64 t.rrdl, .int .i64 t.faw, .int .i64 t.ccds, .int .i64 t.ccdl, .int .i64 t.rtp, .int .i64 t.wr, .int .i64 t.wtrs, .int .i64 t.wtrl, .int .i64 t.rtw, .int .i64 t.rfc, .int .i64 t.cke, .int .i64 t.xp, .int .i64 t.xs] ty fr))
    (k : wpQuiet Try.prog ops (fun w' => ∃ z : Later w, w' = z.to) Q rest (a.put (some d) (.agg #[.int .i64 t.rcd, .int .i64 t.rp, .int .i64 t.ras, .int .i64 t.rrds, .int .i64 t.rrdl, .int .i64 t.faw, .int .i64 t.ccds, .int .i64 t.ccdl, .int .i64 t.rtp, .int .i64 t.wr, .int .i64 t.wtrs, .int .i64 t.wtrl, .int .i64 t.rtw, .int .i64 t.rfc, .int .i64 t.cke, .int .i64 t.xp, .int .i64 t.xs]))) : wpQuiet Try.prog ops (fun w' => ∃ z : Later w, w' = z.to) Q (⟨some d, .load 32 x, y, p, af, gd⟩ :: rest) a :=
  load_quiet Try.underlying32 rfl (by kernel_rfl) hw hx (fun _ ⟨z, hz⟩ => ⟨ty, fr, hz ▸ z.block h⟩) k

theorem box4_0 (w : World) (A B C D : Obj) : ((((w.alloc A).alloc B).alloc C).alloc D).heap[w.heap.size]? = some A := by
  rw [Below.heap_alloc _ _ _ (by simp <;> omega)]; exact box3_0 w A B C

theorem box4_1 (w : World) (A B C D : Obj) : ((((w.alloc A).alloc B).alloc C).alloc D).heap[w.heap.size + 1]? = some B := by
  rw [Below.heap_alloc _ _ _ (by simp <;> omega)]; exact box3_1 w A B C

theorem box4_2 (w : World) (A B C D : Obj) : ((((w.alloc A).alloc B).alloc C).alloc D).heap[w.heap.size + 1 + 1]? = some C := by
  rw [Below.heap_alloc _ _ _ (by simp)]; exact box3_2 w A B C

theorem box4_3 (w : World) (A B C D : Obj) : ((((w.alloc A).alloc B).alloc C).alloc D).heap[w.heap.size + 1 + 1 + 1]? = some D := by
  have h := box3_2 (w.alloc A) B C D
  rwa [World.size_alloc] at h

theorem ld_tm {ops : Array Oper} {rest : List Oper} {a : Act} {w : World} {Q : Exit → Act → World → Prop} {d : Tmp} {x : Operand} {y : TypeId} {p : String} {af : Array Edge} {gd : Option (Nat × Bool)} {c : Nat} {t : Tm} {ty : TypeId} {fr : Nat × Nat}
    (hw : Region.wanted ⟨some d, .load 32 x, y, p, af, gd⟩ (yielded ops a.tmps) = true) (hx : a.eval x = .pointer (some ⟨c, 0, none⟩)) (h : w.heap[c]? = some (.cells #[.int .i64 t.rcd, .int .i64 t.rp, .int .i64 t.ras, .int .i64 t.rrds, .int .i64 t.rrdl, .int .i64 t.faw, .int .i64 t.ccds, .int .i64 t.ccdl, .int .i64 t.rtp, .int .i64 t.wr, .int .i64 t.wtrs, .int .i64 t.wtrl, .int .i64 t.rtw, .int .i64 t.rfc, .int .i64 t.cke, .int .i64 t.xp, .int .i64 t.xs] ty fr))
    (k : wpList Try.prog ops Q rest (a.put (some d) (.agg #[.int .i64 t.rcd, .int .i64 t.rp, .int .i64 t.ras, .int .i64 t.rrds, .int .i64 t.rrdl, .int .i64 t.faw, .int .i64 t.ccds, .int .i64 t.ccdl, .int .i64 t.rtp, .int .i64 t.wr, .int .i64 t.wtrs, .int .i64 t.wtrl, .int .i64 t.rtw, .int .i64 t.rfc, .int .i64 t.cke, .int .i64 t.xp, .int .i64 t.xs])) w) : wpList Try.prog ops Q (⟨some d, .load 32 x, y, p, af, gd⟩ :: rest) a w :=
  load_list Try.underlying32 rfl (by kernel_rfl) hw hx h k

end Go.Proofs.Ytihhcnckoeaihaa
