/-
  Texts of one proof, merged: ArrYV, ArrYJ, ArrYL, ArrW2, ArrYT, ArrW3.
-/
import Derived.Test.YtfpfgaifhmgpiaaDoorQL1415
import Derived.Test.YtfpfgaifhmgpiaaDoorQL1418
import Derived.Test.YtfpfgaifhmgpiaaDoorQL1419
namespace Go.Proofs.YtfpfgaifhmgpiaaDoor
open Go.RowKit Go.PlainAid

set_option linter.unusedVariables false

/-- The rows of a bank of an array whose addresses are known. -/
theorem rowsAt_is (ga gb bk : Int) {m D B0 g0 o0 n0 c0 g1 o1 n1 c1 g2 o2 n2 c2 : Nat} {x : Arr} {w : World} (h : arrK.rd w [.slice (some ⟨g0, o0, none⟩) n0 c0, .slice (some ⟨g1, o1, none⟩) n1 c1, .slice (some ⟨g2, o2, none⟩) n2 c2] x) (ha : ArrOk ga gb (m : Int) (D : Int) x) (hr : AdOk ga gb (m : Int) (D : Int) bk 0 0) (hB0 : bk * (m : Int) = B0) :
    Calls Tryd.prog 38 #[.agg #[.int .i64 ga, .int .i64 gb, .int .i64 (m : Int), .int .i64 (D : Int)], .agg #[.slice (some ⟨g0, o0, none⟩) n0 c0, .slice (some ⟨g1, o1, none⟩) n1 c1, .slice (some ⟨g2, o2, none⟩) n2 c2], .int .i64 bk] w fun e w' => ∃ (R : Nat) (q : Nat → Nat) (v : Nat → Value) (B : Nat), e = .returned (.slice (some ⟨R, 0, none⟩) m m) ∧ RowsT w' B m (rowF g0 o0 c0 g1 o1 g2 o2 D B0) R m m q v ∧ Below w.heap.size w w' := by
  refine (implRows_is ga gb bk h ha hr hB0).mono ?_
  rintro e w' ⟨g0', o0', n0', c0', g1', o1', n1', c1', g2', o2', n2', c2', R, q, v, B, ec, rfl, _, hrow, hb⟩
  simp only [List.cons.injEq, Value.slice.injEq, Option.some.injEq, Addr.mk.injEq, and_true] at ec
  obtain ⟨⟨⟨rfl, rfl⟩, rfl, rfl⟩, ⟨⟨rfl, rfl⟩, rfl, rfl⟩, ⟨rfl, rfl⟩, rfl, rfl⟩ := ec
  exact ⟨R, q, v, B, rfl, hrow, hb⟩

/-- The addresses of a valid array's rows. -/
theorem arr_addrs {ga gb bk : Int} {m D : Nat} {a0 a1 a2 : Option Addr} {n0 c0 n1 c1 n2 c2 : Nat} {x : Arr} {w : World} (h : arrK.rd w [.slice a0 n0 c0, .slice a1 n1 c1, .slice a2 n2 c2] x) (ha : ArrOk ga gb (m : Int) (D : Int) x) (hr : AdOk ga gb (m : Int) (D : Int) bk 0 0) :
    ∃ g0 o0 g1 o1 g2 o2, a0 = some ⟨g0, o0, none⟩ ∧ a1 = some ⟨g1, o1, none⟩ ∧ a2 = some ⟨g2, o2, none⟩ := by
  obtain ⟨b0, k0, d0, b1, k1, d1, b2, k2, d2, e, h0, h1, h2⟩ := arr_rd h
  simp only [List.cons.injEq, Value.slice.injEq, and_true] at e
  obtain ⟨⟨rfl, rfl, rfl⟩, ⟨rfl, rfl, rfl⟩, rfl, rfl, rfl⟩ := e
  obtain ⟨i', D', _, hD', _, hic, _⟩ := row_near ha hr
  obtain ⟨j, hj, hj1, hj2, _⟩ := row_place ha hr
  have hD8 := ha.1.2.2.2
  have hx0 : 0 < x.1.length := by omega
  obtain ⟨g0, o0, e0⟩ := row_addr h0 hx0
  obtain ⟨g1, o1, e1⟩ := row_addr h1 (by omega)
  obtain ⟨g2, o2, e2⟩ := row_addr h2 (by omega)
  exact ⟨g0, o0, g1, o1, g2, o2, e0, e1, e2⟩

theorem goneAt_is {g0 o0 c0 g1 o1 g2 o2 D B0 i Q : Nat} {vv : Value} {la lh ua uh : Int} {w u : World} (hC : Below w.heap.size w u) (hq : u.heap[Q]? = some (.cells (rowF g0 o0 c0 g1 o1 g2 o2 D B0 i vv) 110 (0, 0)))
    (hy : w.cell? ⟨g1, o1 + (B0 + i), none⟩ = some (.int .i64 ua)) (hz : w.cell? ⟨g2, o2 + (B0 + i), none⟩ = some (.int .i64 uh)) (b : Bool) (hb : decide (la < ua ∨ lh < uh) = b) :
    Calls Tryd.prog 43 #[.pointer (some ⟨Q, 0, none⟩), .agg #[.int .i64 la, .int .i64 lh]] u (Gives (.bool b) u) :=
  implGone_is hq ((hC.cell (World.block_lt_of_cell? _ _ hy)).trans hy) ((hC.cell (World.block_lt_of_cell? _ _ hz)).trans hz) b hb

set_option maxHeartbeats 16000000 in
set_option maxRecDepth 100000 in
theorem implRowDecayed_is : IRowDecayed := by
  intro ga gb gr gd la lh bk rw cs x v hv w h hf
  obtain ⟨a0, n0, c0, a1, n1, c1, a2, n2, c2, rfl, h0, h1, h2⟩ := arr_rd h
  obtain ⟨w1, hw1⟩ : ∃ u, ((w.alloc (.cells #[.int .i64 ga, .int .i64 gb, .int .i64 gr, .int .i64 gd] 25)).alloc (.cells #[.int .i64 la, .int .i64 lh] 27)).alloc (.cells #[.slice a0 n0 c0, .slice a1 n1 c1, .slice a2 n2 c2] 31) = u := ⟨_, rfl⟩
  obtain ⟨gg1, ll1, pp1, hb1⟩ := alloc3 hw1
  have HB1 := Lib.hid hb1
  have H1 := Lib.hid (arrK.below h hb1)
  have HV := Lib.hid hv
  have HF := Lib.hid hf
  obtain ⟨x0, x1, x2, x3⟩ := cells4 gg1
  obtain ⟨y0, y1⟩ := cells2 ll1
  obtain ⟨z0, z1, z2⟩ := cells3 pp1
  clear h h0 h1 h2 hb1 hv hf
  by_cases ha : ArrOk ga gb gr gd x
  case neg =>
    have KA := Lib.hid (decide_eq_false ha)
    have HE : Hid (false = v) := by rw [← HV.out]; exact (decide_eq_false (fun h => ha h.1)).symm
    clear ha
    have zx0 := fun q : Later w1 => q.cell x0
    have zx1 := fun q : Later w1 => q.cell x1
    have zx2 := fun q : Later w1 => q.cell x2
    have zx3 := fun q : Later w1 => q.cell x3
    have zz0 := fun q : Later w1 => q.cell z0
    have zz1 := fun q : Later w1 => q.cell z1
    have zz2 := fun q : Later w1 => q.cell z2
    clear x0 x1 x2 x3 y0 y1 z0 z1 z2
    go_enter Tryd.func15, Tryd.ntmps15
    go_wp2_with fail
    refine wp_region_later (by kernel_rfl) (by kernel_rfl) ?_
    repeat (go_big_quiet_step (first | (go_at_call 14; exact Gives.later _ (implArrayOk_is _ _ _ _ _ _ false KA.out _ (arrK.below H1.out (Later.ok _)) HF.out))))
    refine wpQuiet_nil ?_
    rintro w2 ⟨zz, hz⟩
    have HB2 : Hid (Below w.heap.size w w2) := HB1.out.trans ((hz ▸ zz.ok : Below w1.heap.size w1 w2).mono HB1.out.size)
    clear zx0 zx1 zx2 zx3 zz0 zz1 zz2 hz zz
    go_wp2_with fail
    go_ret
    exact ⟨ret_b HE.out, HB2.out⟩
  have KA := Lib.hid (decide_eq_true ha)
  by_cases hr : AdOk ga gb gr gd bk rw 0
  case neg =>
    have KR := Lib.hid (decide_eq_false hr)
    have HE : Hid (false = v) := by rw [← HV.out]; exact (decide_eq_false (fun h => hr h.2.1)).symm
    clear ha hr
    have zx0 := fun q : Later w1 => q.cell x0
    have zx1 := fun q : Later w1 => q.cell x1
    have zx2 := fun q : Later w1 => q.cell x2
    have zx3 := fun q : Later w1 => q.cell x3
    have zz0 := fun q : Later w1 => q.cell z0
    have zz1 := fun q : Later w1 => q.cell z1
    have zz2 := fun q : Later w1 => q.cell z2
    clear x0 x1 x2 x3 y0 y1 z0 z1 z2
    go_enter Tryd.func15, Tryd.ntmps15
    go_wp2_with fail
    refine wp_region_later (by kernel_rfl) (by kernel_rfl) ?_
    repeat (go_big_quiet_step (first | (go_at_call 14; exact Gives.later _ (implArrayOk_is _ _ _ _ _ _ true KA.out _ (arrK.below H1.out (Later.ok _)) HF.out)) | (go_at_call 37; exact Gives.later _ (implRowExists_is _ _ _ _ _ _ false KR.out _))))
    refine wpQuiet_nil ?_
    rintro w2 ⟨zz, hz⟩
    have HB2 : Hid (Below w.heap.size w w2) := HB1.out.trans ((hz ▸ zz.ok : Below w1.heap.size w1 w2).mono HB1.out.size)
    clear zx0 zx1 zx2 zx3 zz0 zz1 zz2 hz zz
    go_wp2_with fail
    go_ret
    exact ⟨ret_b HE.out, HB2.out⟩
  have KR := Lib.hid (decide_eq_true hr)
  obtain ⟨pl, hpl, hp1, hp2, _, hq1, _⟩ := row_place ha hr
  have hgeo := ha.1
  obtain ⟨m, rfl⟩ : ∃ m : Nat, gr = m := ⟨gr.toNat, by have := hgeo.2.2.1; omega⟩
  obtain ⟨D, rfl⟩ : ∃ D : Nat, gd = D := ⟨gd.toNat, by have := hgeo.2.2.2; omega⟩
  obtain ⟨i, rfl⟩ : ∃ i : Nat, rw = i := ⟨rw.toNat, by have := hr.2.1; omega⟩
  obtain ⟨B0, hB0⟩ : ∃ B0 : Nat, bk * (m : Int) = B0 := ⟨(bk * (m : Int)).toNat, by omega⟩
  have hr0 : AdOk ga gb (m : Int) (D : Int) bk 0 0 := ⟨hr.1, ⟨by omega, by have := hr.2.1; omega⟩, hr.2.2⟩
  obtain ⟨g0, o0, g1, o1, g2, o2, rfl, rfl, rfl⟩ := arr_addrs H1.out ha hr0
  have hlt : i < m := by have := hr.2.1; omega
  have hli : (i : Int) < (m : Int) := by omega
  have hpe : pl = B0 + i := by omega
  subst hpe
  obtain ⟨_, _, _, _, _, _, _, _, _, ec, _, h1, h2⟩ := arr_rd H1.out
  simp only [List.cons.injEq, Value.slice.injEq, and_true] at ec
  obtain ⟨⟨rfl, rfl, rfl⟩, ⟨rfl, rfl, rfl⟩, rfl, rfl, rfl⟩ := ec
  obtain ⟨_, _, e1, cy⟩ := (ints_row h1).at hp1
  cases e1
  obtain ⟨_, _, e2, cz⟩ := (ints_row h2).at hp2
  cases e2
  have KG : Hid (decide (la < x.2.1.getD (B0 + i) 0 ∨ lh < x.2.2.getD (B0 + i) 0) = v) := by
    show _ = _
    rw [← HV.out]
    have e : (bk * (m : Int) + (i : Int)).toNat = B0 + i := by omega
    refine decide_eq_decide.2 ⟨fun h => ⟨ha, hr, ?_⟩, fun h => ?_⟩
    · rw [e]; exact h
    · have := h.2.2
      rw [e] at this; exact this
  have CY := Lib.hid cy
  have CZ := Lib.hid cz
  have HA := Lib.hid ha
  have HR0 := Lib.hid hr0
  have HB0 := Lib.hid hB0
  clear ha hr hgeo hB0 hr0 h1 h2 cy cz hp1 hp2 hpl hq1 HV x0 x1 x2 x3 y0 y1 z0 z1 z2
  go_enter Tryd.func15, Tryd.ntmps15
  go_wp2_with fail
  refine wp_region_flowV (fun k => match k with | 0 => some (.agg #[.int .i64 ga, .int .i64 gb, .int .i64 (m : Int), .int .i64 (D : Int)]) | 1 => some (.agg #[.slice (some ⟨g0, o0, none⟩) n0 c0, .slice (some ⟨g1, o1, none⟩) n1 c1, .slice (some ⟨g2, o2, none⟩) n2 c2]) | 2 => some (.bool true) | 3 => some (.bool true) | 4 => some (.agg #[.int .i64 ga, .int .i64 gb, .int .i64 (m : Int), .int .i64 (D : Int)]) | 5 => some (.int .i64 bk) | 6 => some (.int .i64 (i : Int)) | 7 => some (.bool true) | 8 => some (.bool true) | 9 => some (.bool true) | 10 => some (.agg #[.int .i64 ga, .int .i64 gb, .int .i64 (m : Int), .int .i64 (D : Int)]) | 11 => some (.agg #[.slice (some ⟨g0, o0, none⟩) n0 c0, .slice (some ⟨g1, o1, none⟩) n1 c1, .slice (some ⟨g2, o2, none⟩) n2 c2]) | 12 => some (.int .i64 bk) | 14 => some (.int .i64 (i : Int)) | 17 => some (.agg #[.int .i64 la, .int .i64 lh]) | 18 => some (.bool v) | 19 => some (.bool v) | 20 => some (.bool v) | _ => none) (fun listed x u => FactW 13 15 (fun q u => ∃ (R : Nat) (qq : Nat → Nat) (vv : Nat → Value) (B : Nat), q = .slice (some ⟨R, 0, none⟩) m m ∧ RowsT u B m (rowF g0 o0 c0 g1 o1 g2 o2 D B0) R m m qq vv) listed x u ∧ FactW 15 16 (fun q u => ∃ (R : Nat) (qq : Nat → Nat) (vv : Nat → Value) (B : Nat), q = .pointer (some ⟨R, i, none⟩) ∧ RowsT u B m (rowF g0 o0 c0 g1 o1 g2 o2 D B0) R m m qq vv) listed x u ∧ FactW 16 18 (fun q u => ∃ (Q : Nat) (vv : Value), q = .pointer (some ⟨Q, 0, none⟩) ∧ u.heap[Q]? = some (.cells (rowF g0 o0 c0 g1 o1 g2 o2 D B0 i vv) 110 (0, 0))) listed x u) (upd (fun _ => undef) 20 (.bool false)) (by kernel_rfl) (by kernel_rfl) ?hxR ?hSR ?hsR ?heR
  case hxR => simp only [putsX, Act.put, List.setIfInBounds_toArray, List.set_cons_zero, List.set_cons_succ, upd, Nat.reduceEqDiff, reduceIte]
  case hSR => exact ⟨FactW.zero _ _ _ _ _ _, FactW.zero _ _ _ _ _ _, FactW.zero _ _ _ _ _ _⟩
  case hsR =>
    simp only [flowSteps]
    refine ⟨?sR_0, ?sR_1, ?sR_2, ?sR_3, ?sR_4, ?sR_5, ?sR_6, ?sR_7, ?sR_8, ?sR_9, ?sR_10, ?sR_11, ?sR_12, ?sR_13, ?sR_14, ?sR_15, ?sR_16, ?sR_17, ?sR_18, ?sR_19, ?sR_20, trivial⟩
    case sR_0 =>
      intro listed bb u hsz hn hwt hinv
      obtain ⟨x, rfl, hC, hU, hS, hT, hQ⟩ := hinv
      simp only [putsX, Act.put, List.setIfInBounds_toArray, List.set_cons_zero, List.set_cons_succ]
      obtain ⟨d0, d1, d2, d3⟩ := cells4 (keep_block hC gg1 (lt_of_block gg1))
      go_wp2_with fail
      refine stepQ_normal ⟨trivial, upd x 0 (.agg #[.int .i64 ga, .int .i64 gb, .int .i64 (m : Int), .int .i64 (D : Int)]), ?_, hC, hU.step (fun _ h => Option.some.inj h), hS.keep (by decide) (by decide) _ id, hT.keep (by decide) (by decide) _ id, hQ.keep (by decide) (by decide) _ id⟩
      simp only [upd]
      rfl
    case sR_1 =>
      intro listed bb u hsz hn hwt hinv
      obtain ⟨x, rfl, hC, hU, hS, hT, hQ⟩ := hinv
      simp only [putsX, Act.put, List.setIfInBounds_toArray, List.set_cons_zero, List.set_cons_succ]
      obtain ⟨d0, d1, d2⟩ := cells3 (keep_block hC pp1 (lt_of_block pp1))
      go_wp2_with fail
      refine stepQ_normal ⟨trivial, upd x 1 (.agg #[.slice (some ⟨g0, o0, none⟩) n0 c0, .slice (some ⟨g1, o1, none⟩) n1 c1, .slice (some ⟨g2, o2, none⟩) n2 c2]), ?_, hC, hU.step (fun _ h => Option.some.inj h), hS.keep (by decide) (by decide) _ id, hT.keep (by decide) (by decide) _ id, hQ.keep (by decide) (by decide) _ id⟩
      simp only [upd]
      rfl
    case sR_2 =>
      intro listed bb u hsz hn hwt hinv
      obtain ⟨x, rfl, hC, hU, hS, hT, hQ⟩ := hinv
      have f0 := Lib.hid (hU 0 _ rfl (hwt 0 (by kernel_rfl)))
      have f1 := Lib.hid (hU 1 _ rfl (hwt 1 (by kernel_rfl)))
      simp only [putsX, Act.put, List.setIfInBounds_toArray, List.set_cons_zero, List.set_cons_succ]
      have hcall : Calls Tryd.prog 14 #[x 0, x 1] u (Gives (.bool true) u) := by rw [f0.out, f1.out]; exact implArrayOk_is ga gb (m : Int) (D : Int) _ _ true KA.out u (arrK.below H1.out hC) HF.out
      go_wp2_with fail
      refine hcall.mono ?_
      rintro e' u' ⟨rfl, hb⟩
      go_wp2_with fail
      refine stepQ_normal ⟨trivial, upd x 2 (.bool true), ?_, hC.trans (hb.mono hC.size), hU.step (fun _ h => Option.some.inj h), hS.keep (by decide) (by decide) _ (fun ⟨R, qq, vv, B, e, hr⟩ => ⟨R, qq, vv, B, e, hr.below (hb)⟩), hT.keep (by decide) (by decide) _ (fun ⟨R, qq, vv, B, e, hr⟩ => ⟨R, qq, vv, B, e, hr.below (hb)⟩), hQ.keep (by decide) (by decide) _ (fun ⟨Q, vv, e, hh⟩ => ⟨Q, vv, e, keep_block (hb) hh (lt_of_block hh)⟩)⟩
      simp only [upd]
      rfl
    case sR_3 =>
      intro listed bb u hsz hn hwt hinv
      obtain ⟨x, rfl, hC, hU, hS, hT, hQ⟩ := hinv
      have f2 := Lib.hid (hU 2 _ rfl (hwt 2 (by kernel_rfl)))
      simp only [putsX, Act.put, List.setIfInBounds_toArray, List.set_cons_zero, List.set_cons_succ]
      rw [f2.out]
      go_wp2_with fail
      refine stepQ_normal ⟨trivial, upd x 3 (.bool true), ?_, hC, hU.step (fun _ h => Option.some.inj h), hS.keep (by decide) (by decide) _ id, hT.keep (by decide) (by decide) _ id, hQ.keep (by decide) (by decide) _ id⟩
      simp only [upd]
      simp only [f2.out]
      (try rfl)
    case sR_4 =>
      refine guardStep (fun listed bb u hsz hn hwt hinv => ?_) ?_
      · obtain ⟨x, rfl, hC, hU, hS, hT, hQ⟩ := hinv
        have f3 := Lib.hid (hU 3 _ rfl (hwt 3 (by kernel_rfl)))
        simp only [putsX, Act.put, List.setIfInBounds_toArray, List.set_cons_zero, List.set_cons_succ]
        rw [f3.out]
        (show _ = true; kernel_rfl)
      intro listed bb u hsz hn hwt hinv
      obtain ⟨x, rfl, hC, hU, hS, hT, hQ⟩ := hinv
      simp only [putsX, Act.put, List.setIfInBounds_toArray, List.set_cons_zero, List.set_cons_succ]
      obtain ⟨d0, d1, d2, d3⟩ := cells4 (keep_block hC gg1 (lt_of_block gg1))
      go_wp2_with fail
      refine stepQ_normal ⟨trivial, upd x 4 (.agg #[.int .i64 ga, .int .i64 gb, .int .i64 (m : Int), .int .i64 (D : Int)]), ?_, hC, hU.step (fun _ h => Option.some.inj h), hS.keep (by decide) (by decide) _ id, hT.keep (by decide) (by decide) _ id, hQ.keep (by decide) (by decide) _ id⟩
      simp only [upd]
      rfl
    case sR_5 =>
      refine guardStep (fun listed bb u hsz hn hwt hinv => ?_) ?_
      · obtain ⟨x, rfl, hC, hU, hS, hT, hQ⟩ := hinv
        have f3 := Lib.hid (hU 3 _ rfl (hwt 3 (by kernel_rfl)))
        simp only [putsX, Act.put, List.setIfInBounds_toArray, List.set_cons_zero, List.set_cons_succ]
        rw [f3.out]
        (show _ = true; kernel_rfl)
      intro listed bb u hsz hn hwt hinv
      obtain ⟨x, rfl, hC, hU, hS, hT, hQ⟩ := hinv
      simp only [putsX, Act.put, List.setIfInBounds_toArray, List.set_cons_zero, List.set_cons_succ]
      go_wp2_with fail
      refine stepQ_normal ⟨trivial, upd x 5 (.int .i64 bk), ?_, hC, hU.step (fun _ h => Option.some.inj h), hS.keep (by decide) (by decide) _ id, hT.keep (by decide) (by decide) _ id, hQ.keep (by decide) (by decide) _ id⟩
      simp only [upd]
      rfl
    case sR_6 =>
      refine guardStep (fun listed bb u hsz hn hwt hinv => ?_) ?_
      · obtain ⟨x, rfl, hC, hU, hS, hT, hQ⟩ := hinv
        have f3 := Lib.hid (hU 3 _ rfl (hwt 3 (by kernel_rfl)))
        simp only [putsX, Act.put, List.setIfInBounds_toArray, List.set_cons_zero, List.set_cons_succ]
        rw [f3.out]
        (show _ = true; kernel_rfl)
      intro listed bb u hsz hn hwt hinv
      obtain ⟨x, rfl, hC, hU, hS, hT, hQ⟩ := hinv
      simp only [putsX, Act.put, List.setIfInBounds_toArray, List.set_cons_zero, List.set_cons_succ]
      go_wp2_with fail
      refine stepQ_normal ⟨trivial, upd x 6 (.int .i64 (i : Int)), ?_, hC, hU.step (fun _ h => Option.some.inj h), hS.keep (by decide) (by decide) _ id, hT.keep (by decide) (by decide) _ id, hQ.keep (by decide) (by decide) _ id⟩
      simp only [upd]
      rfl
    case sR_7 =>
      refine guardStep (fun listed bb u hsz hn hwt hinv => ?_) ?_
      · obtain ⟨x, rfl, hC, hU, hS, hT, hQ⟩ := hinv
        have f3 := Lib.hid (hU 3 _ rfl (hwt 3 (by kernel_rfl)))
        simp only [putsX, Act.put, List.setIfInBounds_toArray, List.set_cons_zero, List.set_cons_succ]
        rw [f3.out]
        (show _ = true; kernel_rfl)
      intro listed bb u hsz hn hwt hinv
      obtain ⟨x, rfl, hC, hU, hS, hT, hQ⟩ := hinv
      have f4 := Lib.hid (hU 4 _ rfl (hwt 4 (by kernel_rfl)))
      have f5 := Lib.hid (hU 5 _ rfl (hwt 5 (by kernel_rfl)))
      have f6 := Lib.hid (hU 6 _ rfl (hwt 6 (by kernel_rfl)))
      simp only [putsX, Act.put, List.setIfInBounds_toArray, List.set_cons_zero, List.set_cons_succ]
      have hcall : Calls Tryd.prog 37 #[x 4, x 5, x 6] u (Gives (.bool true) u) := by rw [f4.out, f5.out, f6.out]; exact implRowExists_is ga gb (m : Int) (D : Int) bk (i : Int) true KR.out u
      go_wp2_with fail
      refine hcall.mono ?_
      rintro e' u' ⟨rfl, hb⟩
      go_wp2_with fail
      refine stepQ_normal ⟨trivial, upd x 7 (.bool true), ?_, hC.trans (hb.mono hC.size), hU.step (fun _ h => Option.some.inj h), hS.keep (by decide) (by decide) _ (fun ⟨R, qq, vv, B, e, hr⟩ => ⟨R, qq, vv, B, e, hr.below (hb)⟩), hT.keep (by decide) (by decide) _ (fun ⟨R, qq, vv, B, e, hr⟩ => ⟨R, qq, vv, B, e, hr.below (hb)⟩), hQ.keep (by decide) (by decide) _ (fun ⟨Q, vv, e, hh⟩ => ⟨Q, vv, e, keep_block (hb) hh (lt_of_block hh)⟩)⟩
      simp only [upd]
      rfl
    case sR_8 =>
      intro listed bb u hsz hn hwt hinv
      obtain ⟨x, rfl, hC, hU, hS, hT, hQ⟩ := hinv
      have f3 := Lib.hid (hU 3 _ rfl (hwt 3 (by kernel_rfl)))
      have f7 := Lib.hid (hU 7 _ rfl (hwt 7 (by kernel_rfl)))
      simp only [putsX, Act.put, List.setIfInBounds_toArray, List.set_cons_zero, List.set_cons_succ]
      rw [f3.out]
      rw [f7.out]
      go_wp2_with fail
      refine stepQ_normal ⟨trivial, upd x 8 (.bool true), ?_, hC, hU.step (fun _ h => Option.some.inj h), hS.keep (by decide) (by decide) _ id, hT.keep (by decide) (by decide) _ id, hQ.keep (by decide) (by decide) _ id⟩
      simp only [upd]
      simp only [f3.out, f7.out]
      (try rfl)
    case sR_9 =>
      intro listed bb u hsz hn hwt hinv
      obtain ⟨x, rfl, hC, hU, hS, hT, hQ⟩ := hinv
      have f8 := Lib.hid (hU 8 _ rfl (hwt 8 (by kernel_rfl)))
      simp only [putsX, Act.put, List.setIfInBounds_toArray, List.set_cons_zero, List.set_cons_succ]
      rw [f8.out]
      go_wp2_with fail
      refine stepQ_normal ⟨trivial, upd x 9 (.bool true), ?_, hC, hU.step (fun _ h => Option.some.inj h), hS.keep (by decide) (by decide) _ id, hT.keep (by decide) (by decide) _ id, hQ.keep (by decide) (by decide) _ id⟩
      simp only [upd]
      simp only [f8.out]
      (try rfl)
    case sR_10 =>
      refine guardStep (fun listed bb u hsz hn hwt hinv => ?_) ?_
      · obtain ⟨x, rfl, hC, hU, hS, hT, hQ⟩ := hinv
        have f9 := Lib.hid (hU 9 _ rfl (hwt 9 (by kernel_rfl)))
        simp only [putsX, Act.put, List.setIfInBounds_toArray, List.set_cons_zero, List.set_cons_succ]
        rw [f9.out]
        (show _ = true; kernel_rfl)
      intro listed bb u hsz hn hwt hinv
      obtain ⟨x, rfl, hC, hU, hS, hT, hQ⟩ := hinv
      simp only [putsX, Act.put, List.setIfInBounds_toArray, List.set_cons_zero, List.set_cons_succ]
      obtain ⟨d0, d1, d2, d3⟩ := cells4 (keep_block hC gg1 (lt_of_block gg1))
      go_wp2_with fail
      refine stepQ_normal ⟨trivial, upd x 10 (.agg #[.int .i64 ga, .int .i64 gb, .int .i64 (m : Int), .int .i64 (D : Int)]), ?_, hC, hU.step (fun _ h => Option.some.inj h), hS.keep (by decide) (by decide) _ id, hT.keep (by decide) (by decide) _ id, hQ.keep (by decide) (by decide) _ id⟩
      simp only [upd]
      rfl
    case sR_11 =>
      refine guardStep (fun listed bb u hsz hn hwt hinv => ?_) ?_
      · obtain ⟨x, rfl, hC, hU, hS, hT, hQ⟩ := hinv
        have f9 := Lib.hid (hU 9 _ rfl (hwt 9 (by kernel_rfl)))
        simp only [putsX, Act.put, List.setIfInBounds_toArray, List.set_cons_zero, List.set_cons_succ]
        rw [f9.out]
        (show _ = true; kernel_rfl)
      intro listed bb u hsz hn hwt hinv
      obtain ⟨x, rfl, hC, hU, hS, hT, hQ⟩ := hinv
      simp only [putsX, Act.put, List.setIfInBounds_toArray, List.set_cons_zero, List.set_cons_succ]
      obtain ⟨d0, d1, d2⟩ := cells3 (keep_block hC pp1 (lt_of_block pp1))
      go_wp2_with fail
      refine stepQ_normal ⟨trivial, upd x 11 (.agg #[.slice (some ⟨g0, o0, none⟩) n0 c0, .slice (some ⟨g1, o1, none⟩) n1 c1, .slice (some ⟨g2, o2, none⟩) n2 c2]), ?_, hC, hU.step (fun _ h => Option.some.inj h), hS.keep (by decide) (by decide) _ id, hT.keep (by decide) (by decide) _ id, hQ.keep (by decide) (by decide) _ id⟩
      simp only [upd]
      rfl
    case sR_12 =>
      refine guardStep (fun listed bb u hsz hn hwt hinv => ?_) ?_
      · obtain ⟨x, rfl, hC, hU, hS, hT, hQ⟩ := hinv
        have f9 := Lib.hid (hU 9 _ rfl (hwt 9 (by kernel_rfl)))
        simp only [putsX, Act.put, List.setIfInBounds_toArray, List.set_cons_zero, List.set_cons_succ]
        rw [f9.out]
        (show _ = true; kernel_rfl)
      intro listed bb u hsz hn hwt hinv
      obtain ⟨x, rfl, hC, hU, hS, hT, hQ⟩ := hinv
      simp only [putsX, Act.put, List.setIfInBounds_toArray, List.set_cons_zero, List.set_cons_succ]
      go_wp2_with fail
      refine stepQ_normal ⟨trivial, upd x 12 (.int .i64 bk), ?_, hC, hU.step (fun _ h => Option.some.inj h), hS.keep (by decide) (by decide) _ id, hT.keep (by decide) (by decide) _ id, hQ.keep (by decide) (by decide) _ id⟩
      simp only [upd]
      rfl
    case sR_13 =>
      refine guardStep (fun listed bb u hsz hn hwt hinv => ?_) ?_
      · obtain ⟨x, rfl, hC, hU, hS, hT, hQ⟩ := hinv
        have f9 := Lib.hid (hU 9 _ rfl (hwt 9 (by kernel_rfl)))
        simp only [putsX, Act.put, List.setIfInBounds_toArray, List.set_cons_zero, List.set_cons_succ]
        rw [f9.out]
        (show _ = true; kernel_rfl)
      intro listed bb u hsz hn hwt hinv
      obtain ⟨x, rfl, hC, hU, hS, hT, hQ⟩ := hinv
      have f10 := Lib.hid (hU 10 _ rfl (hwt 10 (by kernel_rfl)))
      have f11 := Lib.hid (hU 11 _ rfl (hwt 11 (by kernel_rfl)))
      have f12 := Lib.hid (hU 12 _ rfl (hwt 12 (by kernel_rfl)))
      simp only [putsX, Act.put, List.setIfInBounds_toArray, List.set_cons_zero, List.set_cons_succ]
      have hcall : Calls Tryd.prog 38 #[x 10, x 11, x 12] u (fun e w' => ∃ (R : Nat) (qq : Nat → Nat) (vv : Nat → Value) (B : Nat), e = .returned (.slice (some ⟨R, 0, none⟩) m m) ∧ RowsT w' B m (rowF g0 o0 c0 g1 o1 g2 o2 D B0) R m m qq vv ∧ Below u.heap.size u w') := by rw [f10.out, f11.out, f12.out]; exact (rowsAt_is ga gb bk (arrK.below H1.out hC) HA.out HR0.out HB0.out)
      go_wp2_with fail
      refine hcall.mono ?_
      rintro e' u' ⟨R, qq, vv, B, rfl, hr, hb⟩
      go_wp2_with fail
      refine stepQ_normal ⟨trivial, upd x 13 (.slice (some ⟨R, 0, none⟩) m m), ?_, hC.trans (hb.mono hC.size), hU.step (fun _ h => by cases h), FactW.new ⟨R, qq, vv, B, rfl, hr⟩, hT.keep (by decide) (by decide) _ (fun ⟨R, qq, vv, B, e, hr⟩ => ⟨R, qq, vv, B, e, hr.below (hb)⟩), hQ.keep (by decide) (by decide) _ (fun ⟨Q, vv, e, hh⟩ => ⟨Q, vv, e, keep_block (hb) hh (lt_of_block hh)⟩)⟩
      simp only [upd]
      rfl
    case sR_14 =>
      refine guardStep (fun listed bb u hsz hn hwt hinv => ?_) ?_
      · obtain ⟨x, rfl, hC, hU, hS, hT, hQ⟩ := hinv
        have f9 := Lib.hid (hU 9 _ rfl (hwt 9 (by kernel_rfl)))
        simp only [putsX, Act.put, List.setIfInBounds_toArray, List.set_cons_zero, List.set_cons_succ]
        rw [f9.out]
        (show _ = true; kernel_rfl)
      intro listed bb u hsz hn hwt hinv
      obtain ⟨x, rfl, hC, hU, hS, hT, hQ⟩ := hinv
      simp only [putsX, Act.put, List.setIfInBounds_toArray, List.set_cons_zero, List.set_cons_succ]
      go_wp2_with fail
      refine stepQ_normal ⟨trivial, upd x 14 (.int .i64 (i : Int)), ?_, hC, hU.step (fun _ h => Option.some.inj h), hS.keep (by decide) (by decide) _ id, hT.keep (by decide) (by decide) _ id, hQ.keep (by decide) (by decide) _ id⟩
      simp only [upd]
      rfl
    case sR_15 =>
      refine guardStep (fun listed bb u hsz hn hwt hinv => ?_) ?_
      · obtain ⟨x, rfl, hC, hU, hS, hT, hQ⟩ := hinv
        have f9 := Lib.hid (hU 9 _ rfl (hwt 9 (by kernel_rfl)))
        simp only [putsX, Act.put, List.setIfInBounds_toArray, List.set_cons_zero, List.set_cons_succ]
        rw [f9.out]
        (show _ = true; kernel_rfl)
      intro listed bb u hsz hn hwt hinv
      obtain ⟨x, rfl, hC, hU, hS, hT, hQ⟩ := hinv
      have f14 := Lib.hid (hU 14 _ rfl (hwt 14 (by kernel_rfl)))
      simp only [putsX, Act.put, List.setIfInBounds_toArray, List.set_cons_zero, List.set_cons_succ]
      obtain ⟨R, qq, vv, B, fp, hr⟩ := hS (hwt 13 (by kernel_rfl)) hn
      have FP := Lib.hid fp
      rw [FP.out, f14.out]
      clear fp
      go_wp2_with fail
      refine stepQ_normal ⟨trivial, upd x 15 (.pointer (some ⟨R, i, none⟩)), ?_, hC, hU.step (fun _ h => by cases h), FactW.call (by rw [hsz]; decide), FactW.new ⟨R, qq, vv, B, rfl, hr⟩, hQ.keep (by decide) (by decide) _ id⟩
      simp only [upd]
      simp only [FP.out, f14.out]
      (try rfl)
    case sR_16 =>
      refine guardStep (fun listed bb u hsz hn hwt hinv => ?_) ?_
      · obtain ⟨x, rfl, hC, hU, hS, hT, hQ⟩ := hinv
        have f9 := Lib.hid (hU 9 _ rfl (hwt 9 (by kernel_rfl)))
        simp only [putsX, Act.put, List.setIfInBounds_toArray, List.set_cons_zero, List.set_cons_succ]
        rw [f9.out]
        (show _ = true; kernel_rfl)
      intro listed bb u hsz hn hwt hinv
      obtain ⟨x, rfl, hC, hU, hS, hT, hQ⟩ := hinv
      simp only [putsX, Act.put, List.setIfInBounds_toArray, List.set_cons_zero, List.set_cons_succ]
      obtain ⟨R, qq, vv, B, fp, hr⟩ := hT (hwt 15 (by kernel_rfl)) hn
      have FP := Lib.hid fp
      rw [FP.out]
      obtain ⟨hc, _⟩ := hr.cell hlt
      rw [if_pos hlt] at hc
      have d0 : u.cell? ⟨R, i, none⟩ = some (.pointer (some ⟨qq i, 0, none⟩)) := hc
      have hqb := (hr.qb i hlt).2
      clear fp hc
      go_wp2_with fail
      refine stepQ_normal ⟨trivial, upd x 16 (.pointer (some ⟨qq i, 0, none⟩)), ?_, hC, hU.step (fun _ h => by cases h), hS.keep (by decide) (by decide) _ id, FactW.call (by rw [hsz]; decide), FactW.new ⟨qq i, vv i, rfl, hqb⟩⟩
      simp only [upd]
      simp only [FP.out]
      (try rfl)
    case sR_17 =>
      refine guardStep (fun listed bb u hsz hn hwt hinv => ?_) ?_
      · obtain ⟨x, rfl, hC, hU, hS, hT, hQ⟩ := hinv
        have f9 := Lib.hid (hU 9 _ rfl (hwt 9 (by kernel_rfl)))
        simp only [putsX, Act.put, List.setIfInBounds_toArray, List.set_cons_zero, List.set_cons_succ]
        rw [f9.out]
        (show _ = true; kernel_rfl)
      intro listed bb u hsz hn hwt hinv
      obtain ⟨x, rfl, hC, hU, hS, hT, hQ⟩ := hinv
      simp only [putsX, Act.put, List.setIfInBounds_toArray, List.set_cons_zero, List.set_cons_succ]
      obtain ⟨d0, d1⟩ := cells2 (keep_block hC ll1 (lt_of_block ll1))
      go_wp2_with fail
      refine stepQ_normal ⟨trivial, upd x 17 (.agg #[.int .i64 la, .int .i64 lh]), ?_, hC, hU.step (fun _ h => Option.some.inj h), hS.keep (by decide) (by decide) _ id, hT.keep (by decide) (by decide) _ id, hQ.keep (by decide) (by decide) _ id⟩
      simp only [upd]
      rfl
    case sR_18 =>
      refine guardStep (fun listed bb u hsz hn hwt hinv => ?_) ?_
      · obtain ⟨x, rfl, hC, hU, hS, hT, hQ⟩ := hinv
        have f9 := Lib.hid (hU 9 _ rfl (hwt 9 (by kernel_rfl)))
        simp only [putsX, Act.put, List.setIfInBounds_toArray, List.set_cons_zero, List.set_cons_succ]
        rw [f9.out]
        (show _ = true; kernel_rfl)
      intro listed bb u hsz hn hwt hinv
      obtain ⟨x, rfl, hC, hU, hS, hT, hQ⟩ := hinv
      have f17 := Lib.hid (hU 17 _ rfl (hwt 17 (by kernel_rfl)))
      simp only [putsX, Act.put, List.setIfInBounds_toArray, List.set_cons_zero, List.set_cons_succ]
      obtain ⟨Q, vv, fp, hh⟩ := hQ (hwt 16 (by kernel_rfl)) hn
      have hgone := goneAt_is hC hh CY.out CZ.out v KG.out
      have hcall : Calls Tryd.prog 43 #[x 16, x 17] u (Gives (.bool v) u) := by rw [fp, f17.out]; exact hgone
      clear fp
      go_wp2_with fail
      refine hcall.mono ?_
      rintro e' u' ⟨rfl, hb⟩
      go_wp2_with fail
      refine stepQ_normal ⟨trivial, upd x 18 (.bool v), ?_, hC.trans (hb.mono hC.size), hU.step (fun _ h => Option.some.inj h), hS.keep (by decide) (by decide) _ (fun ⟨R, qq, vv, B, e, hr⟩ => ⟨R, qq, vv, B, e, hr.below (hb)⟩), hT.keep (by decide) (by decide) _ (fun ⟨R, qq, vv, B, e, hr⟩ => ⟨R, qq, vv, B, e, hr.below (hb)⟩), FactW.call (by rw [hsz]; decide)⟩
      simp only [upd]
      rfl
    case sR_19 =>
      intro listed bb u hsz hn hwt hinv
      obtain ⟨x, rfl, hC, hU, hS, hT, hQ⟩ := hinv
      have f9 := Lib.hid (hU 9 _ rfl (hwt 9 (by kernel_rfl)))
      have f18 := Lib.hid (hU 18 _ rfl (hwt 18 (by kernel_rfl)))
      simp only [putsX, Act.put, List.setIfInBounds_toArray, List.set_cons_zero, List.set_cons_succ]
      rw [f9.out]
      rw [f18.out]
      go_wp2_with fail
      refine stepQ_normal ⟨trivial, upd x 19 (.bool v), ?_, hC, hU.step (fun _ h => Option.some.inj h), hS.keep (by decide) (by decide) _ id, hT.keep (by decide) (by decide) _ id, hQ.keep (by decide) (by decide) _ id⟩
      simp only [upd]
      simp only [f9.out, f18.out]
      (try rfl)
    case sR_20 =>
      intro listed bb u hsz hn hwt hinv
      obtain ⟨x, rfl, hC, hU, hS, hT, hQ⟩ := hinv
      have f19 := Lib.hid (hU 19 _ rfl (hwt 19 (by kernel_rfl)))
      simp only [putsX, Act.put, List.setIfInBounds_toArray, List.set_cons_zero, List.set_cons_succ]
      rw [f19.out]
      go_wp2_with fail
      refine stepQ_normal ⟨trivial, upd x 20 (.bool v), ?_, hC, hU.step (fun _ h => Option.some.inj h), hS.keep (by decide) (by decide) _ id, hT.keep (by decide) (by decide) _ id, hQ.keep (by decide) (by decide) _ id⟩
      simp only [upd]
      simp only [f19.out]
      (try rfl)
  case heR =>
    intro listed q u hall hC hU _
    have fq := hU 20 _ rfl (hall 20 (by decide))
    have HB2 : Hid (Below w.heap.size w u) := HB1.out.trans (hC.mono HB1.out.size)
    simp only [putsX, Act.put, List.setIfInBounds_toArray, List.set_cons_zero, List.set_cons_succ]
    rw [fq]
    clear hall hU hC fq
    generalize q 0 = _q0, q 1 = _q1, q 2 = _q2, q 3 = _q3, q 4 = _q4, q 5 = _q5, q 6 = _q6, q 7 = _q7, q 8 = _q8, q 9 = _q9, q 10 = _q10, q 11 = _q11, q 12 = _q12, q 13 = _q13, q 14 = _q14, q 15 = _q15, q 16 = _q16, q 17 = _q17, q 18 = _q18, q 19 = _q19
    go_wp2_with fail
    go_ret
    exact ⟨rfl, HB2.out⟩

end Go.Proofs.YtfpfgaifhmgpiaaDoor

namespace Go.Proofs.YtfpfgaifhmgpiaaDoor
open Go.RowKit Go.PlainAid

set_option linter.unusedVariables false

/-- A symbol of a cell of an array of the call's own, and the cell's mark. -/
theorem cell_place2 {w : World} {S : List Nat} {cs : List Value} {x : Arr} (h : arrK.own w S cs x) {j : Nat} (hj : j < x.1.length) {c : List Int × Bool} (hc : x.1.getD j ([], false) = c) :
    ∃ g off n0 c0 v1 v2 a n k S1, cs = [.slice (some ⟨g, off, none⟩) n0 c0, v1, v2] ∧ j < n0 ∧ g ∈ S ∧ n0 ≤ maxLen ∧ n = c.1.length ∧ w.cell? ⟨g, off + j * 2, none⟩ = some (.slice a n k) ∧ w.cell? ⟨g, off + j * 2 + 1, none⟩ = some (.bool c.2) ∧ (∀ b ∈ S1, b ∈ S ∧ b ≠ g) ∧ intsK.own w S1 [.slice a n k] c.1 ∧
      ∀ w' y, OnlyS S1 w w' → intsK.own w' S1 [.slice a n k] y → arrK.own w' S cs (x.1.set j (y, c.2), x.2) := by
  obtain ⟨a0, n0, c0, a1, n1, c1, a2, n2, c2, S0, S1, S2, rfl, rfl, hnd, h0, h1, h2⟩ := arr_own h
  obtain ⟨l0, _, m0, _⟩ := Kn.row_len (cellsK.read h0)
  obtain ⟨g, off, ds, T, rfl, hg, hT, hcell, _, hel, hin, _, _⟩ := Kn.own_at h0 hj
  have he : x.1[j] = c := by rw [← hc, List.getD_eq_getElem?_getD, List.getElem?_eq_getElem hj]; rfl
  rw [he] at hel
  obtain ⟨a, n, k, rfl, hi⟩ := cell_own hel
  obtain ⟨q1, _, _, _⟩ := Kn.row_len (intsK.read hi)
  obtain ⟨u0, u1, u2⟩ := nodup3 hnd
  have hT1 : ∀ b ∈ S1, b ∉ T := fun b hb hb' => (u1 b hb).1 (hT b hb').1
  have hT2 : ∀ b ∈ S2, b ∉ T := fun b hb hb' => (u2 b hb).1 (hT b hb').1
  refine ⟨g, off, n0, c0, _, _, a, n, k, T, rfl, by have : x.1.length = n0 := l0; omega, List.mem_append_left _ hg, m0, q1.symm, hcell 0 (by decide), hcell 1 (by decide), fun b hb => ⟨List.mem_append_left _ (hT b hb).1, (hT b hb).2⟩, hi, fun w' y ho hy => ?_⟩
  exact arr_of (hin w' (y, c.2) ho (cell_of c.2 hy)) (intsK.ownKeep h1 ho hT1) (intsK.ownKeep h2 ho hT2) hnd

end Go.Proofs.YtfpfgaifhmgpiaaDoor

namespace Go.Proofs.YtfpfgaifhmgpiaaDoor
open Go.RowKit Go.PlainAid

set_option linter.unusedVariables false

set_option maxHeartbeats 8000000 in
set_option maxRecDepth 100000 in
theorem implLoadCell_is : ILoadCell := by
  intro ga gb gr gd bx br bc cs x w h hf
  have HF := Lib.hid hf
  clear hf
  obtain ⟨a0, n0, c0, a1, n1, c1, a2, n2, c2, rfl, h0, h1, h2⟩ := arr_rd h
  obtain ⟨w1, hw1⟩ : ∃ u, (((w.alloc (.cells #[.int .i64 ga, .int .i64 gb, .int .i64 gr, .int .i64 gd] 25)).alloc (.cells #[.slice a0 n0 c0, .slice a1 n1 c1, .slice a2 n2 c2] 31)).alloc (.cells #[.int .i64 bx, .int .i64 br, .int .i64 bc] 45)).alloc (.cells #[.slice none 0 0, .bool false] 41) = u := ⟨_, rfl⟩
  obtain ⟨g1, p1, l1, r1, hb1⟩ := alloc4 hw1
  have HB1 := Lib.hid hb1
  have H1 := Lib.hid (arrK.below h HB1.out)
  have HX := Lib.hid (cellsK.below h0 HB1.out)
  clear h h0 h1 h2
  obtain ⟨x0, x1, x2, x3⟩ := cells4 g1
  obtain ⟨y0, y1, y2⟩ := cells3 p1
  go_enter Tryd.func17, Tryd.ntmps17
  by_cases ha : ArrOk ga gb gr gd x
  case neg =>
    have KA := Lib.hid (decide_eq_false ha)
    have HE : Hid (loadF ga gb gr gd x bx br bc = (([], false), false)) := if_neg (fun h => ha h.1)
    clear ha
    go_wp2_with fail
    refine (implArrayOk_is ga gb gr gd _ _ false KA.out _ H1.out HF.out).mono ?_
    rintro e w4 ⟨rfl, hb4⟩
    have HBQ : Hid (Below w.heap.size w w4) := HB1.out.trans (hb4.mono HB1.out.size)
    have rr := keep_block hb4 r1 (lt_of_block r1)
    have gg := keep_block hb4 g1 (lt_of_block g1)
    have ll := keep_block hb4 l1 (lt_of_block l1)
    have pp := keep_block hb4 p1 (lt_of_block p1)
    have H4 := Lib.hid (cellsK.below HX.out hb4)
    clear hb4 g1 l1 p1 r1 x0 x1 x2 x3 y0 y1 y2
    obtain ⟨x0, x1, x2, x3⟩ := cells4 gg
    obtain ⟨y0, y1, y2⟩ := cells3 ll
    have f0 := thawed rr 0
    have f1 := thawed rr 1
    obtain ⟨s0, s1⟩ := cells2 rr
    go_wp2_with fail
    (try simp only [Exit.inBlock, Exit.then])
    refine bodyPost_ret (v := .tuple #[.agg #[.slice none 0 0, .bool false], .bool false]) ?_ rfl ⟨[.slice none 0 0, .bool false], [], ?_, ?_, fun b hb => (by cases hb), ?_⟩
    · simp [results, Tryd.results17, go_sem, s0, s1]
    · rw [HE.out]
    · rw [HE.out]
      exact cell_of false (ints_none _)
    · exact (HBQ.out.setCell (by show _ ≤ w.heap.size + 1 + 1 + 1; omega) _).setCell (by show _ ≤ w.heap.size + 1 + 1 + 1; omega) _
  have KA := Lib.hid (decide_eq_true ha)
  by_cases hn : AdOk ga gb gr gd bx br bc
  case neg =>
    have KN := Lib.hid (decide_eq_false hn)
    have HE : Hid (loadF ga gb gr gd x bx br bc = (([], false), false)) := if_neg (fun h => hn h.2)
    clear ha hn
    go_wp2_with fail
    refine (implArrayOk_is ga gb gr gd _ _ true KA.out _ H1.out HF.out).mono ?_
    rintro e w4 ⟨rfl, hb4⟩
    have HBQ : Hid (Below w.heap.size w w4) := HB1.out.trans (hb4.mono HB1.out.size)
    have rr := keep_block hb4 r1 (lt_of_block r1)
    have gg := keep_block hb4 g1 (lt_of_block g1)
    have ll := keep_block hb4 l1 (lt_of_block l1)
    have pp := keep_block hb4 p1 (lt_of_block p1)
    have H4 := Lib.hid (cellsK.below HX.out hb4)
    clear hb4 g1 l1 p1 r1 x0 x1 x2 x3 y0 y1 y2
    obtain ⟨x0, x1, x2, x3⟩ := cells4 gg
    obtain ⟨y0, y1, y2⟩ := cells3 ll
    go_wp2_with fail
    refine (implAddrOk_is ga gb gr gd bx br bc false KN.out _).mono ?_
    rintro e w5 ⟨rfl, hb5⟩
    have HBR : Hid (Below w.heap.size w w5) := HBQ.out.trans (hb5.mono HBQ.out.size)
    have r5 := keep_block hb5 rr (lt_of_block rr)
    have g5 := keep_block hb5 gg (lt_of_block gg)
    have l5 := keep_block hb5 ll (lt_of_block ll)
    have p5 := keep_block hb5 pp (lt_of_block pp)
    have H5 := Lib.hid (cellsK.below H4.out hb5)
    clear HBQ H4 rr gg ll pp hb5 x0 x1 x2 x3 y0 y1 y2
    have HBQ := HBR
    have rr := r5
    have gg := g5
    have ll := l5
    have pp := p5
    clear HBR r5 g5 l5 p5
    have f0 := thawed rr 0
    have f1 := thawed rr 1
    obtain ⟨s0, s1⟩ := cells2 rr
    go_wp2_with fail
    (try simp only [Exit.inBlock, Exit.then])
    refine bodyPost_ret (v := .tuple #[.agg #[.slice none 0 0, .bool false], .bool false]) ?_ rfl ⟨[.slice none 0 0, .bool false], [], ?_, ?_, fun b hb => (by cases hb), ?_⟩
    · simp [results, Tryd.results17, go_sem, s0, s1]
    · rw [HE.out]
    · rw [HE.out]
      exact cell_of false (ints_none _)
    · exact (HBQ.out.setCell (by show _ ≤ w.heap.size + 1 + 1 + 1; omega) _).setCell (by show _ ≤ w.heap.size + 1 + 1 + 1; omega) _
  have KN := Lib.hid (decide_eq_true hn)
  obtain ⟨j, hj, hjl⟩ := cell_index ha hn
  have HE : Hid (loadF ga gb gr gd x bx br bc = (x.1.getD j ([], false), true)) := by
    show _ = _
    unfold loadF
    rw [if_pos ⟨ha, hn⟩, hj]
    rfl
  have HJ := Lib.hid hj
  have HJL := Lib.hid hjl
  have HSY : Hid (∀ c ∈ x.1, SymOk c.1 11) := ha.2.2.2.2.1
  clear ha hn hj hjl
  go_wp2_with fail
  refine (implArrayOk_is ga gb gr gd _ _ true KA.out _ H1.out HF.out).mono ?_
  rintro e w4 ⟨rfl, hb4⟩
  have HBQ : Hid (Below w.heap.size w w4) := HB1.out.trans (hb4.mono HB1.out.size)
  have rr := keep_block hb4 r1 (lt_of_block r1)
  have gg := keep_block hb4 g1 (lt_of_block g1)
  have ll := keep_block hb4 l1 (lt_of_block l1)
  have pp := keep_block hb4 p1 (lt_of_block p1)
  have H4 := Lib.hid (cellsK.below HX.out hb4)
  clear hb4 g1 l1 p1 r1 x0 x1 x2 x3 y0 y1 y2
  obtain ⟨x0, x1, x2, x3⟩ := cells4 gg
  obtain ⟨y0, y1, y2⟩ := cells3 ll
  go_wp2_with fail
  refine (implAddrOk_is ga gb gr gd bx br bc true KN.out _).mono ?_
  rintro e w5 ⟨rfl, hb5⟩
  have HBR : Hid (Below w.heap.size w w5) := HBQ.out.trans (hb5.mono HBQ.out.size)
  have r5 := keep_block hb5 rr (lt_of_block rr)
  have g5 := keep_block hb5 gg (lt_of_block gg)
  have l5 := keep_block hb5 ll (lt_of_block ll)
  have p5 := keep_block hb5 pp (lt_of_block pp)
  have H5 := Lib.hid (cellsK.below H4.out hb5)
  clear HBQ H4 rr gg ll pp hb5 x0 x1 x2 x3 y0 y1 y2
  have HBQ := HBR
  have rr := r5
  have gg := g5
  have ll := l5
  have pp := p5
  clear HBR r5 g5 l5 p5
  obtain ⟨l0, _, m0, _⟩ := Kn.row_len H5.out
  have l0' : x.1.length = n0 := l0
  have hjn : j < n0 := by have := HJL.out; omega
  unfold maxLen at m0
  obtain ⟨gA, oA, ds, rfl, hcell, hel⟩ := Kn.row_at H5.out HJL.out
  have hgd : x.1.getD j ([], false) = x.1[j] := by rw [List.getD_eq_getElem?_getD, List.getElem?_eq_getElem HJL.out]; rfl
  have hsym := HSY.out x.1[j] (List.getElem_mem _)
  rw [hgd] at HE
  generalize x.1[j] = c at hel hsym HE
  obtain ⟨s, pz⟩ := c
  obtain ⟨xa, xn, xc, rfl, hs⟩ := cell_rd hel
  have b0 : w5.cell? ⟨gA, oA + j * 2, none⟩ = some (.slice xa xn xc) := hcell 0 (by decide)
  have b1 : w5.cell? ⟨gA, oA + j * 2 + 1, none⟩ = some (.bool pz) := hcell 1 (by decide)
  have hs11 : (s.length : Int) = 11 := hsym.2
  have HS : Hid (intsK.rd w5 [.slice xa xn xc] s) := hs
  obtain ⟨p0, p1, p2⟩ := cells3 pp
  obtain ⟨x0, x1, x2, x3⟩ := cells4 gg
  obtain ⟨y0, y1, y2⟩ := cells3 ll
  have z0 := fun q : Later w5 => q.cell p0
  have z3 := fun q : Later w5 => q.cell b0
  have z4 := fun q : Later w5 => q.cell b1
  have zx0 := fun q : Later w5 => q.cell x0
  have zx1 := fun q : Later w5 => q.cell x1
  have zx2 := fun q : Later w5 => q.cell x2
  have zx3 := fun q : Later w5 => q.cell x3
  have zy0 := fun q : Later w5 => q.cell y0
  have zy1 := fun q : Later w5 => q.cell y1
  have zy2 := fun q : Later w5 => q.cell y2
  clear hs hel hsym hcell hgd b0 b1 p0 p1 p2 x0 x1 x2 x3 y0 y1 y2 l0 l0'
  go_wp2_with fail
  refine wp_region_later_tail 7 (by kernel_rfl) (by kernel_rfl) ?_
  simp only [List.take_succ_cons, List.take_zero, List.drop_succ_cons, List.drop_zero]
  repeat (go_big_quiet_step (first | (go_at_call 46; exact Gives.later _ (implIndex_is ga gb gr gd bx br bc (j : Int) HJ.out _))))
  refine wpQuiet_nil ?_
  rintro R0 ⟨zz, hz⟩
  have hbR : Below w5.heap.size w5 R0 := hz ▸ zz.ok
  have HBX : Hid (Below w.heap.size w R0) := HBQ.out.trans (hbR.mono HBQ.out.size)
  have rR := keep_block hbR rr (lt_of_block rr)
  have HSR := Lib.hid (intsK.below HS.out hbR)
  clear z0 z3 z4 zx0 zx1 zx2 zx3 zy0 zy1 zy2 hz zz hbR gg ll pp rr
  go_wp2_with fail
  refine (implCell_k (p := pz) HSR.out (by omega)).mono ?_
  rintro e R1 ⟨cs6, S6, rfl, own6, hS6, hb6⟩
  obtain ⟨ya, yn, yc, rfl, hi6⟩ := cell_own own6
  have HB7 : Hid (Below w.heap.size w R1) := HBX.out.trans (hb6.mono HBX.out.size)
  have r7 := keep_block hb6 rR (lt_of_block rR)
  have HS6 : Hid (∀ b ∈ S6, w.heap.size + 1 + 1 + 1 < b) := fun b hb => by
    have := hS6 b hb
    have := lt_of_block rR
    show w.heap.size + 1 + 1 + 1 < b
    omega
  have HO7 := Lib.hid hi6
  clear own6 hS6 hb6 hi6 rR HBX
  have f0 := thawed r7 0
  have f1 := thawed r7 1
  have o8 := set_cells (set_cells r7 0 (.slice ya yn yc)) 1 (.bool pz)
  obtain ⟨t0, t1⟩ := cells2 o8
  obtain ⟨s0, s1⟩ := cells2 r7
  go_wp2_with fail
  (try simp only [Exit.inBlock, Exit.then])
  have q0 : ∀ b ∈ S6, b ≠ w.heap.size + 1 + 1 + 1 := fun b hb => by have := HS6.out b hb; omega
  refine bodyPost_ret (v := .tuple #[.agg #[.slice ya yn yc, .bool pz], .bool true]) ?_ rfl ⟨[.slice ya yn yc, .bool pz], S6, ?_, ?_, fun b hb => ?_, ?_⟩
  · simp [results, Tryd.results17, go_sem, t0, t1]
  · rw [HE.out]
  · rw [HE.out]
    exact cell_of pz (intsK.ownSet (intsK.ownSet HO7.out (fun b hb => q0 b hb) _) (fun b hb => q0 b hb) _)
  · have := HS6.out b hb; omega
  · exact (HB7.out.setCell (by show _ ≤ w.heap.size + 1 + 1 + 1; omega) _).setCell (by show _ ≤ w.heap.size + 1 + 1 + 1; omega) _

end Go.Proofs.YtfpfgaifhmgpiaaDoor

namespace Go.Proofs.YtfpfgaifhmgpiaaDoor
open Go.RowKit Go.PlainAid

set_option linter.unusedVariables false

theorem bankC_at {b r d : Int} (hg : (1 ≤ b ∧ b ≤ 2) ∧ (2 ≤ r ∧ r ≤ 4) ∧ (1 ≤ d ∧ d ≤ 2)) (w : World) : Calls Tryd.prog 12 #[.agg #[.int .i64 1, .int .i64 b, .int .i64 r, .int .i64 d]] w (Gives (.int .i64 b) w) :=
  specBank_is 1 b r d b (bank_small hg) w

theorem sameTwo_is {a b : Option Addr} {ca cb : Nat} {l : List Int} {w : World} {m n : Nat} (e : m = n) (hn : l.length = n) (ha : RowI w a l) (hb : RowI w b l) (hl : (n : Int) ≤ 9223372036854775807) :
    Calls Tryd.prog 21 #[.slice a m ca, .slice b n cb] w (Gives (.bool true) w) := by
  subst e
  exact sameIntsC_is hn ha hb hl

theorem sensedB_at {Gv : World → Prop} (H : ISenseBank Gv) {ga gb gr gd la lh bk : Int} {cs : List Value} {x y : Arr} {w : World} (hv : sensedB ga gb gr gd la lh x bk = y) (h : arrK.rd w cs x) (hf : ArrFit x) (hG : Gv w) :
    Calls Tryd.prog 20 #[.agg #[.int .i64 ga, .int .i64 gb, .int .i64 gr, .int .i64 gd], .agg #[.int .i64 la, .int .i64 lh], .agg cs.toArray, .int .i64 bk] w (GivesS arrK y w) := by
  have := H ga gb gr gd la lh bk cs x w h hf hG
  rwa [hv] at this

theorem arr_lens {w : World} {a0 a1 a2 : Option Addr} {n0 c0 n1 c1 n2 c2 : Nat} {x : Arr} (h : arrK.rd w [.slice a0 n0 c0, .slice a1 n1 c1, .slice a2 n2 c2] x) :
    x.1.length = n0 ∧ x.2.1.length = n1 ∧ x.2.2.length = n2 ∧ intsK.rd w [.slice a1 n1 c1] x.2.1 ∧ intsK.rd w [.slice a2 n2 c2] x.2.2 := by
  obtain ⟨b0, m0, d0, b1, m1, d1, b2, m2, d2, e, h0, h1, h2⟩ := arr_rd h
  simp only [List.cons.injEq, Value.slice.injEq, and_true] at e
  obtain ⟨⟨rfl, rfl, rfl⟩, ⟨rfl, rfl, rfl⟩, rfl, rfl, rfl⟩ := e
  exact ⟨(Kn.row_len h0).1, (Kn.row_len h1).1, (Kn.row_len h2).1, h1, h2⟩

theorem bank_rows {b r d bv : Int} {B0 : Nat} {x : Arr} (hg : (1 ≤ b ∧ b ≤ 2) ∧ (2 ≤ r ∧ r ≤ 4) ∧ (1 ≤ d ∧ d ≤ 2)) (h : ArrOk 1 b r d x) (hB : bv * r = B0) (hr : AdOk 1 b r d bv 0 0) : B0 + r.toNat ≤ x.2.1.length := by
  have h2 := h.2.2.1
  have h1 := hr.1
  rw [bank_small hg] at h1 h2
  have h3 : (bv + 1) * r ≤ b * r := Int.mul_le_mul_of_nonneg_right (by omega) (by omega)
  rw [Int.add_mul, hB, Int.one_mul] at h3
  omega

theorem senseB_ok {b r d bv la lh : Int} {B0 : Nat} {x : Arr} (hg : (1 ≤ b ∧ b ≤ 2) ∧ (2 ≤ r ∧ r ≤ 4) ∧ (1 ≤ d ∧ d ≤ 2)) (h : ArrOk 1 b r d x) (hB : bv * r = B0) (hr : AdOk 1 b r d bv 0 0) : ArrOk 1 b r d (bankF r d la lh x B0 r.toNat) := by
  refine bank_ok h ?_
  have h1 := bank_rows hg h hB hr
  have h2 := h.2.2.1
  have h3 := h.2.1
  unfold lineN at h3
  rw [← h2] at h3
  obtain ⟨dn, rfl⟩ := Int.eq_ofNat_of_zero_le (a := d) (by omega)
  have h4 : (B0 + r.toNat) * dn ≤ x.2.1.length * dn := Nat.mul_le_mul_right _ h1
  rw [Int.toNat_natCast]
  have h5 : x.1.length = x.2.1.length * dn := by exact_mod_cast h3
  omega

theorem bank_range {r bv : Int} {B0 k : Nat} (hr : 2 ≤ r ∧ r ≤ 4) (hB : bv * r = B0) (hq : (k : Int) / r = bv) : B0 ≤ k ∧ k < B0 + r.toNat := by
  have h1 := Int.emod_add_mul_ediv (k : Int) r
  have h2 := Int.emod_nonneg (k : Int) (b := r) (by omega)
  have h3 := Int.emod_lt_of_pos (k : Int) (b := r) (by omega)
  rw [hq, Int.mul_comm, hB] at h1
  omega

set_option maxHeartbeats 8000000 in
set_option maxRecDepth 100000 in
theorem fnAges_of (Gv : World → Prop) (TIME : Hid ITimePasses) (BANK : Hid (ISenseBank Gv)) (AOK : Hid IArrayOk) (a0 : Option Addr) (len cap : Nat) (zs : List Int) (w : World) (hr : IsRow .u8 w a0 len cap zs) (GK : Hid (∀ u : World, Below w.heap.size w u → Gv u)) :
    Calls Tryd.prog 5 #[.slice a0 len cap] w fun e w' => e = .returned (.bool true) ∧ Below w.heap.size w w' := by
  have hl := hr.len_le
  unfold maxLen at hl
  by_cases hbig : (1048576 : Int) < (len : Int)
  · go_enter Tryd.func5, Tryd.ntmps5
    go_wp2_with (go_at_call 9; refine (big_any _ _ _ _ (by omega)).mono ?_; rintro e w' ⟨rfl, rfl⟩)
    go_ret
    exact ⟨rfl, Below.refl _ _⟩
  have HR := Lib.hid hr
  clear hr
  go_enter Tryd.func5, Tryd.ntmps5
  go_wp2_with (go_at_call 9; refine (big_any _ _ _ _ (by omega)).mono ?_; rintro e w' ⟨rfl, rfl⟩)
  refine (drawArray_any HR.out).mono ?_
  rintro e w1 ⟨b, r, d, la, lh, cs, S, xx, rfl, hg, hlm, hok, hage, hhit, own1, hs1, hb1⟩
  have HG := Lib.hid hg
  have HLM := Lib.hid hlm
  obtain ⟨xa0, xn0, xc0, xa1, xn1, xc1, xa2, xn2, xc2, rfl, _, _, _⟩ := arr_rd (arrK.read own1)
  have HR1 := Lib.hid (HR.out.below (fun x h => HR.out.lt h) hb1)
  have HB1 := Lib.hid hb1
  have HOK := Lib.hid hok
  have HAGE := Lib.hid hage
  have HHIT := Lib.hid hhit
  clear hb1 hg hlm hok hage hhit
  go_wp2_with fail
  obtain ⟨w2, hw2⟩ : ∃ u, ((w1.alloc (.cells #[.int .i64 1, .int .i64 b, .int .i64 r, .int .i64 d] 25)).alloc (.cells #[.int .i64 la, .int .i64 lh] 27)).alloc (.cells #[.slice xa0 xn0 xc0, .slice xa1 xn1 xc1, .slice xa2 xn2 xc2] 31) = u := ⟨_, rfl⟩
  obtain ⟨gg2, ll2, qx2, hb2⟩ := alloc3 hw2
  have X2 : Hid (arrK.own w2 S [.slice xa0 xn0 xc0, .slice xa1 xn1 xc1, .slice xa2 xn2 xc2] xx) := arrK.ownBelow own1 hb2
  have BX : Hid (∀ g ∈ S, w.heap.size ≤ g) := hs1
  obtain ⟨PG, hPG⟩ : ∃ P, w1.heap.size = P := ⟨_, rfl⟩
  have hlt1 : ∀ g ∈ S, g < PG := fun g hg => by rw [← hPG]; exact arrK.lt own1 g hg
  have HXN : Hid (PG ∉ S ∧ PG + 1 ∉ S ∧ PG + 1 + 1 ∉ S) := ⟨fun h => by have := hlt1 _ h; omega, fun h => by have := hlt1 _ h; omega, fun h => by have := hlt1 _ h; omega⟩
  have HR2 := Lib.hid (HR1.out.below (fun x h => HR1.out.lt h) hb2)
  have HB2 : Hid (Below w.heap.size w w2) := HB1.out.trans (hb2.mono HB1.out.size)
  rw [hw2]
  clear hb2 hw2 HB1 HR1 HR own1 hs1 hlt1
  rw [hPG] at gg2 ll2 qx2
  simp only [hPG]
  clear hPG
  refine (drawPlaces_any HR2.out).mono ?_
  rintro e w3 ⟨Pg, Pc, lp, rfl, hlp, hpo, own3, hb3⟩
  obtain ⟨op, pp3⟩ : ∃ o, w3.heap[Pg]? = some o := by
    obtain ⟨g', e', _, _, _, hlt⟩ := own3.at (k := 0) (by rw [hlp]; decide)
    cases e'
    exact ⟨_, Array.getElem?_eq_getElem hlt⟩
  have hpc : ∀ i (hi : i < 12), ∀ u : World, u.heap[Pg]? = some op → u.cell? ⟨Pg, i, none⟩ = some (.int .i64 (lp.getD i 0)) := by
    intro i hi u hu
    obtain ⟨g', e', hc', _, _, _⟩ := own3.at (k := i) (by rw [hlp]; exact hi)
    cases e'
    rw [getD_get (by omega), ← hc']
    simp only [World.cell?, hu, pp3]
  have hpp : ∀ i (hi : i < 12), 0 ≤ lp.getD i 0 ∧ lp.getD i 0 ≤ 9999 := fun i hi => place_in hlp hpo i hi
  obtain ⟨p0, hp0⟩ : ∃ p, lp.getD 0 0 = p := ⟨_, rfl⟩
  obtain ⟨p1, hp1⟩ : ∃ p, lp.getD 1 0 = p := ⟨_, rfl⟩
  obtain ⟨p2, hp2⟩ : ∃ p, lp.getD 2 0 = p := ⟨_, rfl⟩
  obtain ⟨p3, hp3⟩ : ∃ p, lp.getD 3 0 = p := ⟨_, rfl⟩
  have HPC0 := Lib.hid (hp0 ▸ hpc 0 (by decide))
  have HPC1 := Lib.hid (hp1 ▸ hpc 1 (by decide))
  have HPC2 := Lib.hid (hp2 ▸ hpc 2 (by decide))
  have HPC3 := Lib.hid (hp3 ▸ hpc 3 (by decide))
  have HP0 := Lib.hid (hp0 ▸ hpp 0 (by decide))
  have HP1 := Lib.hid (hp1 ▸ hpp 1 (by decide))
  have HP2 := Lib.hid (hp2 ▸ hpp 2 (by decide))
  have HP3 := Lib.hid (hp3 ▸ hpp 3 (by decide))
  clear hlp hpo hpc hpp hp0 hp1 hp2 hp3 own3
  have gg3 := keep_block hb3 gg2 (lt_of_block gg2)
  have ll3 := keep_block hb3 ll2 (lt_of_block ll2)
  have qX3 := keep_block hb3 qx2 (lt_of_block qx2)
  have X3 : Hid (arrK.own w3 S [.slice xa0 xn0 xc0, .slice xa1 xn1 xc1, .slice xa2 xn2 xc2] xx) := arrK.ownBelow X2.out hb3
  have HB3 : Hid (Below w.heap.size w w3) := HB2.out.trans (hb3.mono HB2.out.size)
  clear hb3 gg2 ll2 qx2 X2 HB2 HR2
  clear BX HXN HP2 HP3 HPC2 HPC3
  obtain ⟨nv, en, hnv⟩ := tmodN HP0.out.1 50 (by decide)
  obtain ⟨bv, eb, hbv⟩ := tmodN HP1.out.1 b.toNat (by have := HG.out.1; omega)
  rw [Int.toNat_of_nonneg (by have := HG.out.1; omega)] at eb
  have en : p0.tmod 50 = (nv : Int) := en
  have HNV : Hid (nv < 50) := hnv
  have HBV : Hid ((bv : Int) ≤ b - 1) := by show _ ≤ _; have := HG.out.1; omega
  have HFIT := Lib.hid (arr_fit HOK.out)
  clear hnv hbv
  have SZT : Hid (w.heap.size ≤ w3.heap.size) := HB3.out.size
  go_wp2_with fail
  refine wp_region_flowV (fun k => match k with | 0 => some (.agg #[.int .i64 1, .int .i64 b, .int .i64 r, .int .i64 d]) | 1 => some (.agg #[.slice xa0 xn0 xc0, .slice xa1 xn1 xc1, .slice xa2 xn2 xc2]) | 2 => some (.slice (some ⟨Pg, 0, none⟩) 12 Pc) | 3 => some (.pointer (some ⟨Pg, 0, none⟩)) | 4 => some (.int .i64 p0) | 5 => some (.int .i64 (nv : Int)) | _ => none) (fun listed x u => FactW 6 8 (HasK arrK (timesF 1 b r d (nv : Int) xx) w3.heap.size) listed x u ∧ MadeK arrK 31 #[.slice none 0 0, .slice none 0 0, .slice none 0 0] 7 8 w3.heap.size (timesF 1 b r d (nv : Int) xx) listed x u) (fun _ => undef) (by kernel_rfl) (by kernel_rfl) ?hxR1 ?hSR1 ?hsR1 ?heR1
  case hxR1 => simp only [putsX, Act.put, List.setIfInBounds_toArray, List.set_cons_zero, List.set_cons_succ]
  case hSR1 => exact ⟨FactW.zero _ _ _ _ _ _, MadeK.zero _ _ _ _ _ _ _ _ _ _⟩
  case hsR1 =>
    simp only [flowSteps]
    refine ⟨?sR1_0, ?sR1_1, ?sR1_2, ?sR1_3, ?sR1_4, ?sR1_5, ?sR1_6, ?sR1_7, ?sR1_8, trivial⟩
    case sR1_0 =>
      intro listed bb u hsz hn hwt hinv
      obtain ⟨x, rfl, hC, hU, hO, hM⟩ := hinv
      simp only [putsX, Act.put, List.setIfInBounds_toArray, List.set_cons_zero, List.set_cons_succ]
      obtain ⟨d0, d1, d2, d3⟩ := cells4 (keep_block hC gg3 (lt_of_block gg3))
      go_wp2_with fail
      refine stepQ_normal ⟨trivial, upd x 0 (.agg #[.int .i64 1, .int .i64 b, .int .i64 r, .int .i64 d]), ?_, hC, hU.step (fun _ h => Option.some.inj h), hO.keep (by decide) (by decide) _ id, hM.keep (by decide) (by decide) _ (Below.refl _ _)⟩
      simp only [upd]
      rfl
    case sR1_1 =>
      intro listed bb u hsz hn hwt hinv
      obtain ⟨x, rfl, hC, hU, hO, hM⟩ := hinv
      simp only [putsX, Act.put, List.setIfInBounds_toArray, List.set_cons_zero, List.set_cons_succ]
      obtain ⟨d0, d1, d2⟩ := cells3 (keep_block hC qX3 (lt_of_block qX3))
      go_wp2_with fail
      refine stepQ_normal ⟨trivial, upd x 1 (.agg #[.slice xa0 xn0 xc0, .slice xa1 xn1 xc1, .slice xa2 xn2 xc2]), ?_, hC, hU.step (fun _ h => Option.some.inj h), hO.keep (by decide) (by decide) _ id, hM.keep (by decide) (by decide) _ (Below.refl _ _)⟩
      simp only [upd]
      rfl
    case sR1_2 =>
      intro listed bb u hsz hn hwt hinv
      obtain ⟨x, rfl, hC, hU, hO, hM⟩ := hinv
      simp only [putsX, Act.put, List.setIfInBounds_toArray, List.set_cons_zero, List.set_cons_succ]
      go_wp2_with fail
      refine stepQ_normal ⟨trivial, upd x 2 (.slice (some ⟨Pg, 0, none⟩) 12 Pc), ?_, hC, hU.step (fun _ h => Option.some.inj h), hO.keep (by decide) (by decide) _ id, hM.keep (by decide) (by decide) _ (Below.refl _ _)⟩
      simp only [upd]
      rfl
    case sR1_3 =>
      intro listed bb u hsz hn hwt hinv
      obtain ⟨x, rfl, hC, hU, hO, hM⟩ := hinv
      have f2 := Lib.hid (hU 2 _ rfl (hwt 2 (by kernel_rfl)))
      simp only [putsX, Act.put, List.setIfInBounds_toArray, List.set_cons_zero, List.set_cons_succ]
      rw [f2.out]
      go_wp2_with fail
      refine stepQ_normal ⟨trivial, upd x 3 (.pointer (some ⟨Pg, 0, none⟩)), ?_, hC, hU.step (fun _ h => Option.some.inj h), hO.keep (by decide) (by decide) _ id, hM.keep (by decide) (by decide) _ (Below.refl _ _)⟩
      simp only [upd]
      simp only [f2.out]
      (try rfl)
    case sR1_4 =>
      intro listed bb u hsz hn hwt hinv
      obtain ⟨x, rfl, hC, hU, hO, hM⟩ := hinv
      have f3 := Lib.hid (hU 3 _ rfl (hwt 3 (by kernel_rfl)))
      simp only [putsX, Act.put, List.setIfInBounds_toArray, List.set_cons_zero, List.set_cons_succ]
      rw [f3.out]
      have d0 := HPC0.out u (keep_block hC pp3 (lt_of_block pp3))
      go_wp2_with fail
      refine stepQ_normal ⟨trivial, upd x 4 (.int .i64 p0), ?_, hC, hU.step (fun _ h => Option.some.inj h), hO.keep (by decide) (by decide) _ id, hM.keep (by decide) (by decide) _ (Below.refl _ _)⟩
      simp only [upd]
      simp only [f3.out]
      (try rfl)
    case sR1_5 =>
      intro listed bb u hsz hn hwt hinv
      obtain ⟨x, rfl, hC, hU, hO, hM⟩ := hinv
      have f4 := Lib.hid (hU 4 _ rfl (hwt 4 (by kernel_rfl)))
      simp only [putsX, Act.put, List.setIfInBounds_toArray, List.set_cons_zero, List.set_cons_succ]
      rw [f4.out]
      go_wp2_with fail
      refine stepQ_normal ⟨trivial, upd x 5 (.int .i64 (nv : Int)), ?_, hC, hU.step (fun _ h => Option.some.inj h), hO.keep (by decide) (by decide) _ id, hM.keep (by decide) (by decide) _ (Below.refl _ _)⟩
      simp only [upd]
      simp only [f4.out]
      (try rfl)
    case sR1_6 =>
      intro listed bb u hsz hn hwt hinv
      obtain ⟨x, rfl, hC, hU, hO, hM⟩ := hinv
      have f0 := Lib.hid (hU 0 _ rfl (hwt 0 (by kernel_rfl)))
      have f1 := Lib.hid (hU 1 _ rfl (hwt 1 (by kernel_rfl)))
      have f5 := Lib.hid (hU 5 _ rfl (hwt 5 (by kernel_rfl)))
      simp only [putsX, Act.put, List.setIfInBounds_toArray, List.set_cons_zero, List.set_cons_succ]
      have hcall : Calls Tryd.prog 19 #[x 0, x 1, x 5] u (GivesS arrK (timesF 1 b r d (nv : Int) xx) u) := by rw [f0.out, f1.out, f5.out]; exact (TIME.out 1 b r d (nv : Int) _ xx _ (arrK.read (arrK.ownBelow X3.out hC)) HFIT.out)
      go_wp2_with fail
      refine hcall.mono ?_
      rintro e' u' ⟨cs, SS, rfl, own, hss, hb⟩
      go_wp2_with fail
      refine stepQ_normal ⟨trivial, upd x 6 (.agg cs.toArray), ?_, hC.trans (hb.mono hC.size), hU.step (fun _ h => by cases h), FactW.new ⟨cs, SS, rfl, own, fun b h => Nat.le_trans hC.size (hss b h)⟩, hM.keep (by decide) (by decide) _ (hb)⟩
      simp only [upd]
      rfl
    case sR1_7 =>
      intro listed bb u hsz hn hwt hinv
      obtain ⟨x, rfl, hC, hU, hO, hM⟩ := hinv
      simp only [putsX, Act.put, List.setIfInBounds_toArray, List.set_cons_zero, List.set_cons_succ]
      go_wp2_with fail
      refine stepQ_normal ⟨trivial, upd x 7 (.pointer (some ⟨u.heap.size, 0, none⟩)), ?_, hC.alloc hC.size _, hU.step (fun _ h => by cases h), hO.keep (by decide) (by decide) _ (fun h => HasK.below h (below_allocK _ _)), hM.new (by decide) hn hC.size⟩
      simp only [upd]
      rfl
    case sR1_8 =>
      intro listed bb u hsz hn hwt hinv
      obtain ⟨x, rfl, hC, hU, hO, hM⟩ := hinv
      simp only [putsX, Act.put, List.setIfInBounds_toArray, List.set_cons_zero, List.set_cons_succ]
      obtain ⟨g, fg, hg, hh⟩ := hM.there (hwt 7 (by kernel_rfl)) hn
      obtain ⟨cs, SS, fp, own, hss⟩ := hO (hwt 6 (by kernel_rfl)) hn
      obtain ⟨a0, n0, c0, a1, n1, c1, a2, n2, c2, rfl, _, _, _⟩ := arr_rd (arrK.read own)
      have FG := Lib.hid fg
      have FP := Lib.hid fp
      rw [FG.out, FP.out]
      obtain ⟨y0, y1, y2⟩ := cells3 hh
      have t0 := thawed hh 0
      have t1 := thawed hh 1
      have t2 := thawed hh 2
      have hng : g ∉ SS := arrTy.notin own hh (by decide)
      have own0 := own
      have hfin := set_cells (set_cells (set_cells (hh) 0 (.slice a0 n0 c0)) 1 (.slice a1 n1 c1)) 2 (.slice a2 n2 c2)
      have OW := Lib.hid (Kn.ownSet arrK (Kn.ownSet arrK (Kn.ownSet arrK own0 (p := ⟨g, 0, none⟩) (fun b h e => hng ((show b = g from e) ▸ h)) (.slice a0 n0 c0)) (p := ⟨g, 1, none⟩) (fun b h e => hng ((show b = g from e) ▸ h)) (.slice a1 n1 c1)) (p := ⟨g, 2, none⟩) (fun b h e => hng ((show b = g from e) ▸ h)) (.slice a2 n2 c2))
      have HSS := Lib.hid hss
      have HNG := Lib.hid hng
      clear hh fg fp own own0 hss hng
      go_wp2_with fail
      refine stepQ_normal ⟨trivial, upd x 8 undef, ?_, (((hC).setCell (by exact hg) _).setCell (by exact hg) _).setCell (by exact hg) _, hU.step (fun _ h => by cases h), FactW.call (by rw [hsz]; decide), MadeK.fill (by decide) (hwt 7 (by kernel_rfl)) (by rw [hsz]; decide) FG.out hg hfin OW.out HNG.out HSS.out⟩
      simp only [upd]
      simp only [FG.out, FP.out]
      (try rfl)
  case heR1 =>
    intro listed q w4 hall hC hU hS
    obtain ⟨hO, hM⟩ := hS
    obtain ⟨PT, cs, ST, fg, hgP, hh, own, hng, hss⟩ := hM.full (hall 7 (by decide)) (hall 8 (by decide))
    obtain ⟨Ta0, Tn0, Tc0, Ta1, Tn1, Tc1, Ta2, Tn2, Tc2, rfl, _, _, _⟩ := arr_rd (arrK.read own)
    simp only [putsX, Act.put, List.setIfInBounds_toArray, List.set_cons_zero, List.set_cons_succ]
    rw [fg]
    clear hall hU fg hO hM
    generalize q 0 = _q0, q 1 = _q1, q 2 = _q2, q 3 = _q3, q 4 = _q4, q 5 = _q5, q 6 = _q6
    have gg4 := keep_block hC gg3 (lt_of_block gg3)
    have ll4 := keep_block hC ll3 (lt_of_block ll3)
    have pp4 := keep_block hC pp3 (lt_of_block pp3)
    have qX4 := keep_block hC qX3 (lt_of_block qX3)
    have X4 : Hid (arrK.own w4 S [.slice xa0 xn0 xc0, .slice xa1 xn1 xc1, .slice xa2 xn2 xc2] xx) := arrK.ownBelow X3.out hC
    have HB4 : Hid (Below w.heap.size w w4) := HB3.out.trans (hC.mono HB3.out.size)
    have BT : Hid (∀ b ∈ ST, w3.heap.size ≤ b) := hss
    have T4 : Hid (arrK.own w4 ST [.slice Ta0 Tn0 Tc0, .slice Ta1 Tn1 Tc1, .slice Ta2 Tn2 Tc2] (timesF 1 b r d (nv : Int) xx)) := own
    have qT4 := hh
    have NXqT : Hid (PT ∉ S) := fun h => by have h1 := arrK.lt X3.out _ h; omega
    have DXT : Hid (∀ b ∈ S, b ∉ ST) := fun b h1 h2 => by have h3 := arrK.lt X3.out b h1; have h4 := BT.out b h2; omega
    have NTgg : Hid (PG ∉ ST) := fun h => by have h1 := lt_of_block gg3; have h2 := BT.out _ h; omega
    have NTll : Hid ((PG + 1) ∉ ST) := fun h => by have h1 := lt_of_block ll3; have h2 := BT.out _ h; omega
    have NTpp : Hid (Pg ∉ ST) := fun h => by have h1 := lt_of_block pp3; have h2 := BT.out _ h; omega
    have NTqX : Hid ((PG + 1 + 1) ∉ ST) := fun h => by have h1 := lt_of_block qX3; have h2 := BT.out _ h; omega
    have NTqT : Hid (PT ∉ ST) := hng
    clear own hss hh hC hng hgP
    clear gg3 ll3 pp3 qX3 X3 HB3
    have hb0 : ¬ (b = 0) := by have := HG.out.1; omega
    go_wp2_with fail
    refine wp_region_flowV (fun k => match k with | 0 => some (.slice (some ⟨Pg, 0, none⟩) 12 Pc) | 1 => some (.pointer (some ⟨Pg, 1, none⟩)) | 2 => some (.int .i64 p1) | 3 => some (.agg #[.int .i64 1, .int .i64 b, .int .i64 r, .int .i64 d]) | 4 => some (.int .i64 b) | 5 => some (.int .i64 (bv : Int)) | 6 => some (.int .i64 (bv : Int)) | _ => none) (fun listed x u => True) (fun _ => undef) (by kernel_rfl) (by kernel_rfl) ?hxR2 ?hSR2 ?hsR2 ?heR2
    case hxR2 => simp only [putsX, Act.put, List.setIfInBounds_toArray, List.set_cons_zero, List.set_cons_succ]
    case hSR2 => exact trivial
    case hsR2 =>
      simp only [flowSteps]
      refine ⟨?sR2_0, ?sR2_1, ?sR2_2, ?sR2_3, ?sR2_4, ?sR2_5, ?sR2_6, trivial⟩
      case sR2_0 =>
        intro listed bb u hsz hn hwt hinv
        obtain ⟨x, rfl, hC, hU, _⟩ := hinv
        simp only [putsX, Act.put, List.setIfInBounds_toArray, List.set_cons_zero, List.set_cons_succ]
        go_wp2_with fail
        refine stepQ_normal ⟨trivial, upd x 0 (.slice (some ⟨Pg, 0, none⟩) 12 Pc), ?_, hC, hU.step (fun _ h => Option.some.inj h), trivial⟩
        simp only [upd]
        rfl
      case sR2_1 =>
        intro listed bb u hsz hn hwt hinv
        obtain ⟨x, rfl, hC, hU, _⟩ := hinv
        have f0 := Lib.hid (hU 0 _ rfl (hwt 0 (by kernel_rfl)))
        simp only [putsX, Act.put, List.setIfInBounds_toArray, List.set_cons_zero, List.set_cons_succ]
        rw [f0.out]
        go_wp2_with fail
        refine stepQ_normal ⟨trivial, upd x 1 (.pointer (some ⟨Pg, 1, none⟩)), ?_, hC, hU.step (fun _ h => Option.some.inj h), trivial⟩
        simp only [upd]
        simp only [f0.out]
        (try rfl)
      case sR2_2 =>
        intro listed bb u hsz hn hwt hinv
        obtain ⟨x, rfl, hC, hU, _⟩ := hinv
        have f1 := Lib.hid (hU 1 _ rfl (hwt 1 (by kernel_rfl)))
        simp only [putsX, Act.put, List.setIfInBounds_toArray, List.set_cons_zero, List.set_cons_succ]
        rw [f1.out]
        have d0 := HPC1.out u (keep_block hC pp4 (lt_of_block pp4))
        go_wp2_with fail
        refine stepQ_normal ⟨trivial, upd x 2 (.int .i64 p1), ?_, hC, hU.step (fun _ h => Option.some.inj h), trivial⟩
        simp only [upd]
        simp only [f1.out]
        (try rfl)
      case sR2_3 =>
        intro listed bb u hsz hn hwt hinv
        obtain ⟨x, rfl, hC, hU, _⟩ := hinv
        simp only [putsX, Act.put, List.setIfInBounds_toArray, List.set_cons_zero, List.set_cons_succ]
        obtain ⟨d0, d1, d2, d3⟩ := cells4 (keep_block hC gg4 (lt_of_block gg4))
        go_wp2_with fail
        refine stepQ_normal ⟨trivial, upd x 3 (.agg #[.int .i64 1, .int .i64 b, .int .i64 r, .int .i64 d]), ?_, hC, hU.step (fun _ h => Option.some.inj h), trivial⟩
        simp only [upd]
        rfl
      case sR2_4 =>
        intro listed bb u hsz hn hwt hinv
        obtain ⟨x, rfl, hC, hU, _⟩ := hinv
        have f3 := Lib.hid (hU 3 _ rfl (hwt 3 (by kernel_rfl)))
        simp only [putsX, Act.put, List.setIfInBounds_toArray, List.set_cons_zero, List.set_cons_succ]
        have hcall : Calls Tryd.prog 12 #[x 3] u (Gives (.int .i64 b) u) := by rw [f3.out]; exact (bankC_at HG.out u)
        go_wp2_with fail
        refine hcall.mono ?_
        rintro e' u' ⟨rfl, hb⟩
        go_wp2_with fail
        refine stepQ_normal ⟨trivial, upd x 4 (.int .i64 b), ?_, hC.trans (hb.mono hC.size), hU.step (fun _ h => Option.some.inj h), trivial⟩
        simp only [upd]
        rfl
      case sR2_5 =>
        intro listed bb u hsz hn hwt hinv
        obtain ⟨x, rfl, hC, hU, _⟩ := hinv
        have f2 := Lib.hid (hU 2 _ rfl (hwt 2 (by kernel_rfl)))
        have f4 := Lib.hid (hU 4 _ rfl (hwt 4 (by kernel_rfl)))
        simp only [putsX, Act.put, List.setIfInBounds_toArray, List.set_cons_zero, List.set_cons_succ]
        rw [f2.out]
        rw [f4.out]
        go_wp2_with fail
        refine stepQ_normal ⟨trivial, upd x 5 (.int .i64 (bv : Int)), ?_, hC, hU.step (fun _ h => Option.some.inj h), trivial⟩
        simp only [upd]
        simp only [f2.out, f4.out]
        (try rfl)
      case sR2_6 =>
        intro listed bb u hsz hn hwt hinv
        obtain ⟨x, rfl, hC, hU, _⟩ := hinv
        have f5 := Lib.hid (hU 5 _ rfl (hwt 5 (by kernel_rfl)))
        simp only [putsX, Act.put, List.setIfInBounds_toArray, List.set_cons_zero, List.set_cons_succ]
        rw [f5.out]
        go_wp2_with fail
        refine stepQ_normal ⟨trivial, upd x 6 (.int .i64 (bv : Int)), ?_, hC, hU.step (fun _ h => Option.some.inj h), trivial⟩
        simp only [upd]
        simp only [f5.out]
        (try rfl)
    case heR2 =>
      intro listed q w5 hall hC hU _
      have fq6 := hU 6 _ rfl (hall 6 (by decide))
      simp only [putsX, Act.put, List.setIfInBounds_toArray, List.set_cons_zero, List.set_cons_succ]
      rw [fq6]
      clear hall hU fq6
      generalize q 0 = _q0, q 1 = _q1, q 2 = _q2, q 3 = _q3, q 4 = _q4, q 5 = _q5
      have gg5 := keep_block hC gg4 (lt_of_block gg4)
      have ll5 := keep_block hC ll4 (lt_of_block ll4)
      have pp5 := keep_block hC pp4 (lt_of_block pp4)
      have qX5 := keep_block hC qX4 (lt_of_block qX4)
      have qT5 := keep_block hC qT4 (lt_of_block qT4)
      have X5 : Hid (arrK.own w5 S [.slice xa0 xn0 xc0, .slice xa1 xn1 xc1, .slice xa2 xn2 xc2] xx) := arrK.ownBelow X4.out hC
      have T5 : Hid (arrK.own w5 ST [.slice Ta0 Tn0 Tc0, .slice Ta1 Tn1 Tc1, .slice Ta2 Tn2 Tc2] (timesF 1 b r d (nv : Int) xx)) := arrK.ownBelow T4.out hC
      have HB5 : Hid (Below w.heap.size w w5) := HB4.out.trans (hC.mono HB4.out.size)
      clear hC
      clear gg4 ll4 pp4 qX4 qT4 X4 T4 HB4
      have hnv2 : 0 ≤ (nv : Int) ∧ (nv : Int) ≤ 49 := ⟨by omega, by have := HNV.out; omega⟩
      have e1 : timesF 1 b r d (nv : Int) xx = timeF (nv : Int) xx := if_pos ⟨HOK.out, by omega, by omega⟩
      have hok2 := time_ok HOK.out (n := (nv : Int)) (by omega)
      have hr2 : AdOk 1 b r d (bv : Int) 0 0 := ⟨by rw [bank_small HG.out]; have := HBV.out; omega, by have := HG.out.2.1; omega, by have := HG.out.2.2; omega⟩
      rw [e1] at T5
      obtain ⟨B0, hB0⟩ : ∃ B0 : Nat, (bv : Int) * r = B0 := ⟨bv * r.toNat, by have := HG.out.2.1; rw [Int.natCast_mul, Int.toNat_of_nonneg (by omega)]⟩
      have e2 : sensedB 1 b r d la lh (timeF (nv : Int) xx) (bv : Int) = bankF r d la lh (timeF (nv : Int) xx) B0 r.toNat := by
        unfold sensedB
        rw [if_pos ⟨hok2, hr2⟩, hB0, Int.toNat_natCast]
      obtain ⟨yy, hyy⟩ : ∃ y, sensedB 1 b r d la lh (timeF (nv : Int) xx) (bv : Int) = y := ⟨_, rfl⟩
      have HFIT2 := Lib.hid (arr_fit hok2)
      have HY := Lib.hid (hyy ▸ e2)
      have HYY := Lib.hid hyy
      have HB0 := Lib.hid hB0
      have HOK2 := Lib.hid hok2
      have HR2 := Lib.hid hr2
      have HNV2 := Lib.hid hnv2
      clear hnv2 e1 hok2 hr2 hB0 e2 hyy
      obtain ⟨kgg0, kgg1, kgg2, kgg3⟩ := cells4 gg5
      obtain ⟨kll0, kll1⟩ := cells2 ll5
      obtain ⟨kqT0, kqT1, kqT2⟩ := cells3 qT5
      go_wp2_with fail
      have SZY : Hid (w.heap.size ≤ w5.heap.size) := HB5.out.size
      refine (sensedB_at BANK.out HYY.out (arrK.read T5.out) HFIT2.out (GK.out _ HB5.out)).mono ?_
      rintro e w6 ⟨cs, SY, rfl, own6, hs6, hb6⟩
      have gg6 := keep_block hb6 gg5 (lt_of_block gg5)
      have ll6 := keep_block hb6 ll5 (lt_of_block ll5)
      have pp6 := keep_block hb6 pp5 (lt_of_block pp5)
      have qX6 := keep_block hb6 qX5 (lt_of_block qX5)
      have qT6 := keep_block hb6 qT5 (lt_of_block qT5)
      have X6 : Hid (arrK.own w6 S [.slice xa0 xn0 xc0, .slice xa1 xn1 xc1, .slice xa2 xn2 xc2] xx) := arrK.ownBelow X5.out hb6
      have T6 : Hid (arrK.own w6 ST [.slice Ta0 Tn0 Tc0, .slice Ta1 Tn1 Tc1, .slice Ta2 Tn2 Tc2] (timeF (nv : Int) xx)) := arrK.ownBelow T5.out hb6
      have HB6 : Hid (Below w.heap.size w w6) := HB5.out.trans (hb6.mono HB5.out.size)
      have BY : Hid (∀ b ∈ SY, w5.heap.size ≤ b) := hs6
      clear hs6
      obtain ⟨Ya0, Yn0, Yc0, Ya1, Yn1, Yc1, Ya2, Yn2, Yc2, rfl, _, _, _⟩ := arr_rd (arrK.read own6)
      have Y6 : Hid (arrK.own w6 SY [.slice Ya0 Yn0 Yc0, .slice Ya1 Yn1 Yc1, .slice Ya2 Yn2 Yc2] yy) := own6
      have DXY : Hid (∀ b ∈ S, b ∉ SY) := fun b h1 h2 => by have h3 := arrK.lt X5.out b h1; have h4 := BY.out b h2; omega
      have DTY : Hid (∀ b ∈ ST, b ∉ SY) := fun b h1 h2 => by have h3 := arrK.lt T5.out b h1; have h4 := BY.out b h2; omega
      have NYgg : Hid (PG ∉ SY) := fun h => by have h1 := lt_of_block gg5; have h2 := BY.out _ h; omega
      have NYll : Hid ((PG + 1) ∉ SY) := fun h => by have h1 := lt_of_block ll5; have h2 := BY.out _ h; omega
      have NYpp : Hid (Pg ∉ SY) := fun h => by have h1 := lt_of_block pp5; have h2 := BY.out _ h; omega
      have NYqX : Hid ((PG + 1 + 1) ∉ SY) := fun h => by have h1 := lt_of_block qX5; have h2 := BY.out _ h; omega
      have NYqT : Hid (PT ∉ SY) := fun h => by have h1 := lt_of_block qT5; have h2 := BY.out _ h; omega
      clear own6 hb6
      clear gg5 ll5 pp5 qX5 qT5 X5 T5 HB5
      obtain ⟨PY, hPY⟩ : ∃ P, w6.heap.size = P := ⟨_, rfl⟩
      have NXqY : Hid (PY ∉ S) := fun h => by have h1 := arrK.lt X6.out _ h; omega
      have NTqY : Hid (PY ∉ ST) := fun h => by have h1 := arrK.lt T6.out _ h; omega
      have NYqY : Hid (PY ∉ SY) := fun h => by have h1 := arrK.lt Y6.out _ h; omega
      have HPY := Lib.hid hPY
      clear hPY
      have hb7 : Below w6.heap.size w6 (w6.alloc (.cells #[.slice Ya0 Yn0 Yc0, .slice Ya1 Yn1 Yc1, .slice Ya2 Yn2 Yc2] 31)) := (Below.refl _ _).alloc (Nat.le_refl _) _
      have gg7 := keep_block hb7 gg6 (lt_of_block gg6)
      have ll7 := keep_block hb7 ll6 (lt_of_block ll6)
      have pp7 := keep_block hb7 pp6 (lt_of_block pp6)
      have qX7 := keep_block hb7 qX6 (lt_of_block qX6)
      have qT7 := keep_block hb7 qT6 (lt_of_block qT6)
      have X7 : Hid (arrK.own (w6.alloc (.cells #[.slice Ya0 Yn0 Yc0, .slice Ya1 Yn1 Yc1, .slice Ya2 Yn2 Yc2] 31)) S [.slice xa0 xn0 xc0, .slice xa1 xn1 xc1, .slice xa2 xn2 xc2] xx) := arrK.ownBelow X6.out hb7
      have T7 : Hid (arrK.own (w6.alloc (.cells #[.slice Ya0 Yn0 Yc0, .slice Ya1 Yn1 Yc1, .slice Ya2 Yn2 Yc2] 31)) ST [.slice Ta0 Tn0 Tc0, .slice Ta1 Tn1 Tc1, .slice Ta2 Tn2 Tc2] (timeF (nv : Int) xx)) := arrK.ownBelow T6.out hb7
      have Y7 : Hid (arrK.own (w6.alloc (.cells #[.slice Ya0 Yn0 Yc0, .slice Ya1 Yn1 Yc1, .slice Ya2 Yn2 Yc2] 31)) SY [.slice Ya0 Yn0 Yc0, .slice Ya1 Yn1 Yc1, .slice Ya2 Yn2 Yc2] yy) := arrK.ownBelow Y6.out hb7
      have qY7 := heap_alloc_new w6 (.cells #[.slice Ya0 Yn0 Yc0, .slice Ya1 Yn1 Yc1, .slice Ya2 Yn2 Yc2] 31)
      have HB7 : Hid (Below w.heap.size w (w6.alloc (.cells #[.slice Ya0 Yn0 Yc0, .slice Ya1 Yn1 Yc1, .slice Ya2 Yn2 Yc2] 31))) := HB6.out.trans (hb7.mono HB6.out.size)
      obtain ⟨_, lx1, lx2, _, rx2⟩ := arr_lens (arrK.read X7.out)
      obtain ⟨_, lt1, lt2, _, rt2⟩ := arr_lens (arrK.read T7.out)
      obtain ⟨_, ly1, ly2, _, _⟩ := arr_lens (arrK.read Y7.out)
      have hyl := bank_place (gr := r) (gd := d) (la := la) (lh := lh) (b := B0) HOK2.out.2.2.2.1 r.toNat (bank_rows HG.out HOK2.out HB0.out HR2.out)
      rw [← HY.out] at hyl
      have hx2 := HOK.out.2.2.2.1
      have htl : (timeF (nv : Int) xx).2.1.length = xx.2.1.length := List.length_map ..
      have q1 : ((Tn1 : Int) != (xn1 : Int)) = false := bne_eq_false_iff_eq.2 (by omega)
      have q2 : ((Yn1 : Int) != (xn1 : Int)) = false := bne_eq_false_iff_eq.2 (by have := hyl.1; omega)
      have q3 : ((Yn2 : Int) != (xn2 : Int)) = false := bne_eq_false_iff_eq.2 (by have := hyl.2.1; omega)
      have HYL := Lib.hid hyl.2.2
      have HL1 : Hid (xx.2.1.length = xn1 ∧ xx.2.1.length = Tn1 ∧ xx.2.1.length = Yn1 ∧ xx.2.1.length = Yn2 ∧ xx.2.2.length = xn2) := ⟨by omega, by omega, by have := hyl.1; omega, by have := hyl.2.1; omega, by omega⟩
      have HRX := Lib.hid (ints_row rx2)
      have HRT : Hid (RowI _ _ xx.2.2) := Lib.hid (ints_row rt2)
      have hxn : (xn2 : Int) ≤ 9223372036854775807 := by have := (arr_fit HOK.out).2.2.2; omega
      have HXN := Lib.hid hxn
      have HTX : Hid (Tn2 = xn2) := lt2.symm.trans lx2
      clear hyl lx1 lx2 lt1 lt2 ly1 ly2 rx2 rt2 hx2 htl hxn
      obtain ⟨eqY0, eqY1, eqY2⟩ := cells3 qY7
      obtain ⟨eqT0, eqT1, eqT2⟩ := cells3 qT7
      obtain ⟨eqX0, eqX1, eqX2⟩ := cells3 qX7
      go_wp2_with fail
      clear hb7 eqY0 eqY1 eqY2 eqT0 eqT1 eqT2 eqX0 eqX1 eqX2
      clear gg6 ll6 pp6 qX6 qT6 X6 T6 Y6 HB6
      generalize (w6.alloc (.cells #[.slice Ya0 Yn0 Yc0, .slice Ya1 Yn1 Yc1, .slice Ya2 Yn2 Yc2] 31)) = w7 at gg7 ll7 pp7 qX7 qT7 X7 T7 Y7 qY7 HB7 HRX HRT ⊢
      rw [HPY.out] at qY7
      (try simp only [HPY.out])
      clear HPY
      clear kgg0 kgg1 kgg2 kgg3 kll0 kll1 kqT0 kqT1 kqT2
      refine (sameTwo_is HTX.out HL1.out.2.2.2.2 HRT.out HRX.out HXN.out).mono ?_
      rintro e w8 ⟨rfl, hb8⟩
      have gg8 := keep_block hb8 gg7 (lt_of_block gg7)
      have ll8 := keep_block hb8 ll7 (lt_of_block ll7)
      have pp8 := keep_block hb8 pp7 (lt_of_block pp7)
      have qX8 := keep_block hb8 qX7 (lt_of_block qX7)
      have qT8 := keep_block hb8 qT7 (lt_of_block qT7)
      have qY8 := keep_block hb8 qY7 (lt_of_block qY7)
      have X8 : Hid (arrK.own w8 S [.slice xa0 xn0 xc0, .slice xa1 xn1 xc1, .slice xa2 xn2 xc2] xx) := arrK.ownBelow X7.out hb8
      have T8 : Hid (arrK.own w8 ST [.slice Ta0 Tn0 Tc0, .slice Ta1 Tn1 Tc1, .slice Ta2 Tn2 Tc2] (timeF (nv : Int) xx)) := arrK.ownBelow T7.out hb8
      have Y8 : Hid (arrK.own w8 SY [.slice Ya0 Yn0 Yc0, .slice Ya1 Yn1 Yc1, .slice Ya2 Yn2 Yc2] yy) := arrK.ownBelow Y7.out hb8
      have HB8 : Hid (Below w.heap.size w w8) := HB7.out.trans (hb8.mono HB7.out.size)
      clear gg7 ll7 pp7 qX7 qT7 qY7 X7 T7 Y7 HB7
      clear hb8 HRX HRT q1 q2 q3
      have Hgg := Lib.hid gg8
      have Hll := Lib.hid ll8
      have Hpp := Lib.hid pp8
      have HqX := Lib.hid qX8
      have HqT := Lib.hid qT8
      have HqY := Lib.hid qY8
      clear gg8 ll8 pp8 qX8 qT8 qY8
      go_wp2_with fail
      go_loopw [10] (fun i wr => ∃ k : Nat, k ≤ xn1 ∧ i = .int .i64 (k : Int) ∧ Below w8.heap.size w8 wr) (fun i _ => xn1 + 1 - (intOf i).toNat)
      case atStart => exact ⟨0, Nat.zero_le _, rfl, Below.refl _ _⟩
      case round =>
        obtain ⟨k, hk, rfl, hbr⟩ := hrel
        have HBR := Lib.hid hbr
        have ggr := keep_block hbr Hgg.out (lt_of_block Hgg.out)
        have qXr := keep_block hbr HqX.out (lt_of_block HqX.out)
        have qTr := keep_block hbr HqT.out (lt_of_block HqT.out)
        have qYr := keep_block hbr HqY.out (lt_of_block HqY.out)
        have ppr := keep_block hbr Hpp.out (lt_of_block Hpp.out)
        have hp := HPC0.out wr ppr
        obtain ⟨eX0, eX1, eX2⟩ := cells3 qXr
        obtain ⟨eT0, eT1, eT2⟩ := cells3 qTr
        obtain ⟨eY0, eY1, eY2⟩ := cells3 qYr
        obtain ⟨eg0, eg1, eg2, eg3⟩ := cells4 ggr
        obtain ⟨_, _, _, rx1, _⟩ := arr_lens (arrK.read (arrK.ownBelow X8.out hbr))
        obtain ⟨_, _, _, rt1, _⟩ := arr_lens (arrK.read (arrK.ownBelow T8.out hbr))
        clear ppr qXr qTr qYr ggr
        by_cases hlt : k < xn1
        case neg =>
          have tlt : decide ((k : Int) < (xn1 : Int)) = false := decide_eq_false (by omega)
          have HBE : Hid (Below w.heap.size w wr) := HB8.out.trans (hbr.mono HB8.out.size)
          have YR := Lib.hid (arrK.read (arrK.ownBelow Y8.out hbr))
          have HOKY : Hid (decide (ArrOk 1 b r d yy) = true) := decide_eq_true (by rw [HY.out]; exact senseB_ok HG.out HOK2.out HB0.out HR2.out)
          have HFITY : Hid (ArrFit yy) := arr_fit (of_decide_eq_true HOKY.out)
          clear rx1 rt1 hp hbr HBR
          go_wp2_with fail
          refine (AOK.out 1 b r d _ yy true HOKY.out _ YR.out HFITY.out).mono ?_
          rintro e w2 ⟨rfl, hb2⟩
          have HB2 : Hid (Below w.heap.size w w2) := HBE.out.trans (hb2.mono HBE.out.size)
          clear hb2 HBE YR eX0 eX1 eX2 eT0 eT1 eT2 eY0 eY1 eY2 eg0 eg1 eg2 eg3
          go_wp2_with fail
          go_ret
          exact ⟨rfl, HB2.out⟩
        have tlt : decide ((k : Int) < (xn1 : Int)) = true := decide_eq_true (by omega)
        have tlt' : (k : Int) < (xn1 : Int) := by omega
        have tltT : (k : Int) < (Tn1 : Int) := by have := HL1.out; omega
        have wk : IntKind.i64.wrap ((k : Int) + 1) = (k : Int) + 1 := IntWalk.i64_in _ (by have := HXN.out; have := HL1.out; have := HOK.out.2.2.2.1; omega)
        obtain ⟨v, hv⟩ : ∃ v, xx.2.1.getD k 0 = v := ⟨_, rfl⟩
        have hkx : k < xx.2.1.length := by have := HL1.out; omega
        have htl : (timeF (nv : Int) xx).2.1.length = xx.2.1.length := List.length_map ..
        have htp := time_place hkx HNV2.out HAGE.out
        rw [hv] at htp
        have hv1 : v ≤ 600 := hv ▸ (mem_getDI (P := fun v => v ≤ 600)).1 HAGE.out k hkx
        have hv0 : 0 ≤ v := hv ▸ ((mem_getDI (P := fun v => AgeOk v)).1 HOK.out.2.2.2.2.2.1 k hkx).1
        obtain ⟨gx, ox, exa, cx⟩ := (ints_row rx1).at (k := k) hkx
        obtain ⟨gt, ot, eta, ct⟩ := (ints_row rt1).at (k := k) (by rw [htl]; exact hkx)
        rw [hv] at cx
        rw [htp] at ct
        rw [exa] at eX1
        rw [eta] at eT1
        have wv : IntKind.i64.wrap (v + (nv : Int)) = v + (nv : Int) := IntWalk.i64_in _ (by have := HNV2.out; omega)
        have tvv : (v + (nv : Int) != v + (nv : Int)) = false := by simp
        have z0 := fun q : Later wr => q.cell eX1
        have z1 := fun q : Later wr => q.cell eT1
        have z2 := fun q : Later wr => q.cell cx
        have z3 := fun q : Later wr => q.cell ct
        have z4 := fun q : Later wr => q.cell hp
        have HKX := Lib.hid hkx
        clear rx1 rt1 hbr hv hv0 hv1 htl htp exa eta hkx
        go_wp2_with fail
        refine wp_region_later (by kernel_rfl) (by kernel_rfl) ?_
        repeat (go_big_quiet_step (fail))
        refine wpQuiet_nil ?_
        rintro w2 ⟨zz, rfl⟩
        have hb2 : Below w8.heap.size w8 zz.to := HBR.out.trans (zz.ok.mono HBR.out.size)
        clear z0 z1 z2 z3 z4 eX0 eX1 eX2 eT0 eT1 eT2 eY0 eY1 eY2 eg0 eg1 eg2 eg3 cx ct hp HBR
        generalize zz.to = w2 at hb2 ⊢
        have HB2 := Lib.hid hb2
        have gg2 := keep_block hb2 Hgg.out (lt_of_block Hgg.out)
        have qY2 := keep_block hb2 HqY.out (lt_of_block HqY.out)
        have qX2 := keep_block hb2 HqX.out (lt_of_block HqX.out)
        obtain ⟨eX0, eX1, eX2⟩ := cells3 qX2
        obtain ⟨eY0, eY1, eY2⟩ := cells3 qY2
        obtain ⟨eg0, eg1, eg2, eg3⟩ := cells4 gg2
        obtain ⟨_, _, _, ry1, ry2⟩ := arr_lens (arrK.read (arrK.ownBelow Y8.out hb2))
        have hr0 : ¬ (r = 0) := by have := HG.out.2.1; omega
        have eq : (k : Int).tdiv r = (k : Int) / r := Int.tdiv_eq_ediv_of_nonneg (by omega)
        obtain ⟨q, hq⟩ : ∃ q : Int, (k : Int) / r = q := ⟨_, rfl⟩
        have hq0 : 0 ≤ q := hq ▸ Int.ediv_nonneg (by omega) (by have := HG.out.2.1; omega)
        have hqk : q ≤ (k : Int) := hq ▸ Int.ediv_le_self _ (by omega)
        rw [hq] at eq
        have wq : IntKind.i64.wrap q = q := IntWalk.i64_in _ (by have := HXN.out; have := HL1.out; have := HOK.out.2.2.2.1; have := HKX.out; omega)
        by_cases hbk : q = (bv : Int)
        · subst hbk
          have tq : (((bv : Int)) == (bv : Int)) = true := by simp
          have hm : B0 ≤ k ∧ k < B0 + r.toNat := bank_range HG.out.2.1 HB0.out hq
          obtain ⟨h0, h1, _⟩ := HYL.out k hm.1 hm.2
          have hky1 : k < yy.2.1.length := by have := (arr_lens (arrK.read Y8.out)).2.1; have := HL1.out; have := HKX.out; omega
          have hky2 : k < yy.2.2.length := by have := (arr_lens (arrK.read Y8.out)).2.2.1; have := HL1.out; have := HKX.out; omega
          obtain ⟨gy, oy, eya, cy⟩ := (ints_row ry1).at (k := k) hky1
          obtain ⟨gz, oz, eza, cz⟩ := (ints_row ry2).at (k := k) hky2
          rw [h0] at cy
          obtain ⟨h, hh⟩ : ∃ h, yy.2.2.getD k 0 = h := ⟨_, rfl⟩
          rw [hh] at h1 cz
          rw [eya] at eY1
          rw [eza] at eY2
          have th : decide (1 < h) = false := decide_eq_false (by omega)
          have tly : (k : Int) < (Yn1 : Int) := by have := HL1.out; have := HKX.out; omega
          have tlz : (k : Int) < (Yn2 : Int) := by have := HL1.out; have := HKX.out; omega
          clear ry1 ry2 hq hq0 hqk hm h0 h1 hky1 hky2 eya eza hh hb2 gg2 qY2 qX2
          go_wp2_with fail
          go_roundw
          case rel => exact ⟨k + 1, by have := HKX.out; have := HL1.out; omega, by go_num, HB2.out⟩
          case measure => have := HKX.out; have := HL1.out; simp [intOf]; omega
        · have tq : (q == (bv : Int)) = false := beq_eq_false_iff_ne.2 hbk
          clear ry1 ry2 hq hq0 hqk hbk hb2 gg2 qY2 qX2
          go_wp2_with fail
          go_roundw
          case rel => exact ⟨k + 1, by have := HKX.out; have := HL1.out; omega, by go_num, HB2.out⟩
          case measure => have := HKX.out; have := HL1.out; simp [intOf]; omega

end Go.Proofs.YtfpfgaifhmgpiaaDoor

namespace Go.Proofs.YtfpfgaifhmgpiaaDoor
open Go.RowKit Go.PlainAid

set_option linter.unusedVariables false

set_option maxHeartbeats 8000000 in
set_option maxRecDepth 100000 in
theorem implTimePasses_is : ITimePasses := by
  intro ga gb gr gd n cs x w h hf
  obtain ⟨a0, n0, c0, a1, n1, c1, a2, n2, c2, rfl, h0, h1, h2⟩ := arr_rd h
  obtain ⟨w1, hw1⟩ : ∃ u, ((w.alloc (.cells #[.int .i64 ga, .int .i64 gb, .int .i64 gr, .int .i64 gd] 25)).alloc (.cells #[.slice a0 n0 c0, .slice a1 n1 c1, .slice a2 n2 c2] 31)).alloc (.cells #[.slice none 0 0, .slice none 0 0, .slice none 0 0] 31) = u := ⟨_, rfl⟩
  obtain ⟨g1, p1, r1, hb1⟩ := alloc3 hw1
  have HB1 := Lib.hid hb1
  have HF := Lib.hid hf
  have H := Lib.hid h
  have H1 := Lib.hid (arrK.below h HB1.out)
  clear h hf h0 h1 h2
  obtain ⟨x0, x1, x2, x3⟩ := cells4 g1
  obtain ⟨y0, y1, y2⟩ := cells3 p1
  go_enter Tryd.func19, Tryd.ntmps19
  go_wp2_with fail
  refine (implCopyA_is H1.out HF.out).mono ?_
  rintro e w2 ⟨cs2, S2, rfl, own2, hS2, hb2⟩
  obtain ⟨d0, m0, k0, d1, m1, k1, d2, m2, k2, S0, S1', S2', rfl, rfl, _⟩ := arr_own own2
  obtain ⟨w3, hw3⟩ : ∃ u, w2.alloc (.cells #[.slice d0 m0 k0, .slice d1 m1 k1, .slice d2 m2 k2] 31) = u := ⟨_, rfl⟩
  have hb3 : Below w2.heap.size w2 w3 := by subst hw3; exact (Below.refl _ _).alloc (Nat.le_refl _) _
  have q3 : w3.heap[w2.heap.size]? = some (.cells #[.slice d0 m0 k0, .slice d1 m1 k1, .slice d2 m2 k2] 31) := by subst hw3; exact heap_alloc_new _ _
  have HO3 := Lib.hid (arrK.ownBelow own2 hb3)
  have HB2 : Hid (Below w.heap.size w w2) := HB1.out.trans (hb2.mono HB1.out.size)
  have HB3 : Hid (Below w.heap.size w w3) := HB2.out.trans (hb3.mono HB2.out.size)
  have H3 := Lib.hid (arrK.below (arrK.below H1.out hb2) hb3)
  have hlt : ∀ b ∈ S0 ++ (S1' ++ S2'), b < w2.heap.size := fun b hb => arrK.lt own2 b hb
  have hge : ∀ b ∈ S0 ++ (S1' ++ S2'), w1.heap.size ≤ b := fun b hb => hS2 b hb
  generalize hU2 : S0 ++ (S1' ++ S2') = T2 at own2 hS2 HO3 hlt hge
  have HS2 : Hid (∀ b ∈ T2, w1.heap.size ≤ b) := hge
  have HNP : Hid (w2.heap.size ∉ T2) := fun hb => by have := hlt _ hb; omega
  have HNR : Hid (∀ b ∈ T2, b ≠ w.heap.size + 1 + 1) := fun b hb e => by have := hge b hb; have := lt_of_block r1; omega
  have HRR : Hid (w.heap.size ≤ w.heap.size + 1 + 1) := by show _ ≤ _; omega
  have HPR : Hid (w.heap.size + 1 + 1 ≠ w2.heap.size) := fun e => by have := lt_of_block r1; have := hb2.size; omega
  have HPW : Hid (w.heap.size ≤ w2.heap.size) := HB2.out.size
  have g3 := keep_block hb3 (keep_block hb2 g1 (lt_of_block g1)) (Nat.lt_of_lt_of_le (lt_of_block g1) hb2.size)
  have p3 := keep_block hb3 (keep_block hb2 p1 (lt_of_block p1)) (Nat.lt_of_lt_of_le (lt_of_block p1) hb2.size)
  have r3 := keep_block hb3 (keep_block hb2 r1 (lt_of_block r1)) (Nat.lt_of_lt_of_le (lt_of_block r1) hb2.size)
  clear own2 hS2 hb2 hb3 g1 p1 r1 x0 x1 x2 x3 y0 y1 y2 hlt hge hU2
  obtain ⟨x0, x1, x2, x3⟩ := cells4 g3
  obtain ⟨y0, y1, y2⟩ := cells3 p3
  obtain ⟨z0, z1, z2⟩ := cells3 q3
  go_wp2_with fail
  by_cases ha : ArrOk ga gb gr gd x
  case neg =>
    have KA := Lib.hid (decide_eq_false ha)
    have HE : Hid (timesF ga gb gr gd n x = x) := if_neg (fun h => ha h.1)
    clear ha
    refine (implArrayOk_is ga gb gr gd _ _ false KA.out _ H3.out HF.out).mono ?_
    rintro e w4 ⟨rfl, hb4⟩
    have HBQ : Hid (Below w.heap.size w w4) := HB3.out.trans (hb4.mono HB3.out.size)
    have qq := keep_block hb4 q3 (lt_of_block q3)
    have rr := keep_block hb4 r3 (lt_of_block r3)
    have HO4 := Lib.hid (arrK.ownBelow HO3.out hb4)
    clear hb4 g3 p3 q3 r3 x0 x1 x2 x3 y0 y1 y2 z0 z1 z2
    obtain ⟨v0, v1, v2⟩ := cells3 rr
    have f0 := thawed rr 0
    have f1 := thawed rr 1
    have f2 := thawed rr 2
    obtain ⟨u0, u1, u2⟩ := cells3 qq
    have o5 := set_cells (set_cells (set_cells rr 0 (.slice d0 m0 k0)) 1 (.slice d1 m1 k1)) 2 (.slice d2 m2 k2)
    obtain ⟨t0, t1, t2⟩ := cells3 o5
    go_wp2_with fail
    (try simp only [Exit.inBlock, Exit.then])
    refine bodyPost_ret (v := .agg #[.slice d0 m0 k0, .slice d1 m1 k1, .slice d2 m2 k2]) ?_ rfl ⟨_, T2, rfl, ?_, fun b hb => ?_, ?_⟩
    · simp [results, Tryd.results19, go_sem, t0, t1, t2]
    · rw [HE.out]
      exact arrK.ownSet (arrK.ownSet (arrK.ownSet HO4.out (fun b hb => HNR.out b hb) _) (fun b hb => HNR.out b hb) _) (fun b hb => HNR.out b hb) _
    · have := HS2.out b hb; have := HB1.out.size; omega
    · exact ((HBQ.out.setCell HRR.out _).setCell HRR.out _).setCell HRR.out _
  have KA := Lib.hid (decide_eq_true ha)
  by_cases hn : 0 ≤ n ∧ n ≤ 100000
  case neg =>
    have HE : Hid (timesF ga gb gr gd n x = x) := if_neg (fun h => hn h.2)
    by_cases hn0 : n < 0
    case pos =>
      have tn0 : decide (n < 0) = true := decide_eq_true hn0
      clear ha hn hn0
      refine (implArrayOk_is ga gb gr gd _ _ true KA.out _ H3.out HF.out).mono ?_
      rintro e w4 ⟨rfl, hb4⟩
      have HBQ : Hid (Below w.heap.size w w4) := HB3.out.trans (hb4.mono HB3.out.size)
      have qq := keep_block hb4 q3 (lt_of_block q3)
      have rr := keep_block hb4 r3 (lt_of_block r3)
      have HO4 := Lib.hid (arrK.ownBelow HO3.out hb4)
      clear hb4 g3 p3 q3 r3 x0 x1 x2 x3 y0 y1 y2 z0 z1 z2
      obtain ⟨v0, v1, v2⟩ := cells3 rr
      have f0 := thawed rr 0
      have f1 := thawed rr 1
      have f2 := thawed rr 2
      obtain ⟨u0, u1, u2⟩ := cells3 qq
      have o5 := set_cells (set_cells (set_cells rr 0 (.slice d0 m0 k0)) 1 (.slice d1 m1 k1)) 2 (.slice d2 m2 k2)
      obtain ⟨t0, t1, t2⟩ := cells3 o5
      go_wp2_with fail
      (try simp only [Exit.inBlock, Exit.then])
      refine bodyPost_ret (v := .agg #[.slice d0 m0 k0, .slice d1 m1 k1, .slice d2 m2 k2]) ?_ rfl ⟨_, T2, rfl, ?_, fun b hb => ?_, ?_⟩
      · simp [results, Tryd.results19, go_sem, t0, t1, t2]
      · rw [HE.out]
        exact arrK.ownSet (arrK.ownSet (arrK.ownSet HO4.out (fun b hb => HNR.out b hb) _) (fun b hb => HNR.out b hb) _) (fun b hb => HNR.out b hb) _
      · have := HS2.out b hb; have := HB1.out.size; omega
      · exact ((HBQ.out.setCell HRR.out _).setCell HRR.out _).setCell HRR.out _
    case neg =>
      have tn0 : decide (n < 0) = false := decide_eq_false hn0
      have tn1 : decide (100000 < n) = true := decide_eq_true (by omega)
      clear ha hn hn0
      refine (implArrayOk_is ga gb gr gd _ _ true KA.out _ H3.out HF.out).mono ?_
      rintro e w4 ⟨rfl, hb4⟩
      have HBQ : Hid (Below w.heap.size w w4) := HB3.out.trans (hb4.mono HB3.out.size)
      have qq := keep_block hb4 q3 (lt_of_block q3)
      have rr := keep_block hb4 r3 (lt_of_block r3)
      have HO4 := Lib.hid (arrK.ownBelow HO3.out hb4)
      clear hb4 g3 p3 q3 r3 x0 x1 x2 x3 y0 y1 y2 z0 z1 z2
      obtain ⟨v0, v1, v2⟩ := cells3 rr
      have f0 := thawed rr 0
      have f1 := thawed rr 1
      have f2 := thawed rr 2
      obtain ⟨u0, u1, u2⟩ := cells3 qq
      have o5 := set_cells (set_cells (set_cells rr 0 (.slice d0 m0 k0)) 1 (.slice d1 m1 k1)) 2 (.slice d2 m2 k2)
      obtain ⟨t0, t1, t2⟩ := cells3 o5
      go_wp2_with fail
      (try simp only [Exit.inBlock, Exit.then])
      refine bodyPost_ret (v := .agg #[.slice d0 m0 k0, .slice d1 m1 k1, .slice d2 m2 k2]) ?_ rfl ⟨_, T2, rfl, ?_, fun b hb => ?_, ?_⟩
      · simp [results, Tryd.results19, go_sem, t0, t1, t2]
      · rw [HE.out]
        exact arrK.ownSet (arrK.ownSet (arrK.ownSet HO4.out (fun b hb => HNR.out b hb) _) (fun b hb => HNR.out b hb) _) (fun b hb => HNR.out b hb) _
      · have := HS2.out b hb; have := HB1.out.size; omega
      · exact ((HBQ.out.setCell HRR.out _).setCell HRR.out _).setCell HRR.out _
  have tn0 : decide (n < 0) = false := decide_eq_false (by omega)
  have tn1 : decide (100000 < n) = false := decide_eq_false (by omega)
  have HN := Lib.hid hn
  have HE : Hid (timesF ga gb gr gd n x = timeF n x) := if_pos ⟨ha, hn⟩
  have HAG : Hid (∀ v ∈ x.2.1, AgeOk v) := ha.2.2.2.2.2.1
  clear ha hn
  refine (implArrayOk_is ga gb gr gd _ _ true KA.out _ H3.out HF.out).mono ?_
  rintro e w4 ⟨rfl, hb4⟩
  have HBQ : Hid (Below w.heap.size w w4) := HB3.out.trans (hb4.mono HB3.out.size)
  have q4 := keep_block hb4 q3 (lt_of_block q3)
  have r4 := keep_block hb4 r3 (lt_of_block r3)
  have own4 := arrK.ownBelow HO3.out hb4
  obtain ⟨ea0, en0, ec0, ea1, en1, ec1, ea2, en2, ec2, U0, U1, U2, e0, eT, hnd, h0, h1, h2⟩ := arr_own own4
  simp only [List.cons.injEq, Value.slice.injEq, and_true] at e0
  obtain ⟨⟨rfl, rfl, rfl⟩, ⟨rfl, rfl, rfl⟩, rfl, rfl, rfl⟩ := e0
  obtain ⟨hl, _, hm, _⟩ := Kn.row_len (intsK.read h1)
  unfold maxLen at hm
  obtain ⟨u0, u1, u2⟩ := nodup3 (eT ▸ hnd)
  obtain ⟨xl, y, z⟩ := x
  have HL : Hid (y.length = m1) := hl
  have H0 : Hid (cellsK.own w4 U0 [.slice d0 m0 k0] xl) := h0
  have H1' : Hid (intsK.own w4 U1 [.slice d1 m1 k1] y) := h1
  have H2 : Hid (intsK.own w4 U2 [.slice d2 m2 k2] z) := h2
  have HND : Hid ((U0 ++ (U1 ++ U2)).Nodup) := eT ▸ hnd
  have Q0 := Lib.hid u0
  have Q2 := Lib.hid u2
  have HAGE : Hid (∀ v ∈ y, AgeOk v) := HAG.out
  have HET := Lib.hid eT
  have HTI : Hid (∀ b ∈ U1, b ∈ T2) := fun b hb => by show b ∈ T2; rw [eT]; exact List.mem_append_right _ (List.mem_append_left _ hb)
  clear hb4 g3 p3 q3 r3 x0 x1 x2 x3 y0 y1 y2 z0 z1 z2 own4 hnd h0 h1 h2 hl u0 u1 u2 eT HO3 H3
  obtain ⟨z0, z1, z2⟩ := cells3 q4
  go_wp2_with fail
  clear z0 z1 z2
  go_loopw [27] (fun i wr => ∃ k : Nat, k ≤ m1 ∧ i = .int .i64 k ∧ intsK.own wr U1 [.slice d1 m1 k1] ((y.take k).map (ageP n) ++ y.drop k) ∧ OnlyS U1 w4 wr) (fun i _ => m1 + 1 - (intOf i).toNat)
  case atStart => exact ⟨0, Nat.zero_le _, rfl, by simpa using H1'.out, OnlyS.refl _ _⟩
  case round =>
    obtain ⟨k, hk, rfl, hown, hon⟩ := hrel
    have pr := (hon.block _ (lt_of_block q4) (fun hb => HNP.out (HTI.out _ hb))).trans q4
    have HON := Lib.hid hon
    have HOW := Lib.hid hown
    obtain ⟨p0, p1, p2⟩ := cells3 pr
    clear hon hown
    by_cases hlt : k < m1
    case neg =>
      obtain rfl : k = m1 := by omega
      have hI : decide ((k : Int) < (k : Int)) = false := decide_eq_false (by omega)
      have HFF : Hid (intsK.own wr U1 [.slice d1 k k1] (y.map (ageP n))) := by
        have := HOW.out
        rw [List.take_of_length_le (by rw [HL.out]; exact Nat.le_refl _), List.drop_of_length_le (by rw [HL.out]; exact Nat.le_refl _), List.append_nil] at this
        exact this
      have HO6 : Hid (arrK.own wr T2 [.slice d0 m0 k0, .slice d1 k k1, .slice d2 m2 k2] (timeF n (xl, y, z))) := by
        show arrK.own _ _ _ _
        rw [HET.out]
        exact arr_of (cellsK.ownKeep H0.out HON.out (fun b hb => (Q0.out b hb).1)) HFF.out (intsK.ownKeep H2.out HON.out (fun b hb => (Q2.out b hb).2)) HND.out
      have rr := (HON.out.block _ (lt_of_block r4) (fun hb => HNR.out _ (HTI.out _ hb) rfl)).trans r4
      have HB6 : Hid (Below w.heap.size w wr) := HBQ.out.trans (HON.out.below (fun b hb => by have := HS2.out b (HTI.out b hb); have := HB1.out.size; omega) HBQ.out.size)
      have qq := pr
      have HBQ := HB6
      clear pr p0 p1 p2 HOW HFF HB6
      obtain ⟨v0, v1, v2⟩ := cells3 rr
      have f0 := thawed rr 0
      have f1 := thawed rr 1
      have f2 := thawed rr 2
      obtain ⟨u0, u1, u2⟩ := cells3 qq
      have o5 := set_cells (set_cells (set_cells rr 0 (.slice d0 m0 k0)) 1 (.slice d1 k k1)) 2 (.slice d2 m2 k2)
      obtain ⟨t0, t1, t2⟩ := cells3 o5
      go_wp2_with fail
      (try simp only [Exit.inBlock, Exit.then])
      refine bodyPost_ret (v := .agg #[.slice d0 m0 k0, .slice d1 k k1, .slice d2 m2 k2]) ?_ rfl ⟨_, T2, rfl, ?_, fun b hb => ?_, ?_⟩
      · simp [results, Tryd.results19, go_sem, t0, t1, t2]
      · rw [HE.out]
        exact arrK.ownSet (arrK.ownSet (arrK.ownSet HO6.out (fun b hb => HNR.out b hb) _) (fun b hb => HNR.out b hb) _) (fun b hb => HNR.out b hb) _
      · have := HS2.out b hb; have := HB1.out.size; omega
      · exact ((HBQ.out.setCell HRR.out _).setCell HRR.out _).setCell HRR.out _
    have hI : decide ((k : Int) < (m1 : Int)) = true := decide_eq_true (by omega)
    have wk : IntKind.i64.wrap ((k : Int) + 1) = (k : Int) + 1 := IntWalk.i64_in _ (by omega)
    have hky : k < y.length := by rw [HL.out]; exact hlt
    have hkc : k < ((y.take k).map (ageP n) ++ y.drop k).length := by rw [List.length_append, List.length_map, List.length_take, List.length_drop]; omega
    obtain ⟨g, off, rfl, hgS, hc, hf, hgl, hset⟩ := ints_place HOW.out hkc
    rw [map_at hky] at hc
    have hstep := Lib.hid (map_step (f := ageP n) hky)
    have hage := HAGE.out y[k] (List.getElem_mem _)
    obtain ⟨v, hv⟩ : ∃ v, y[k] = v := ⟨_, rfl⟩
    rw [hv] at hc hage hstep
    have hage2 : 0 ≤ v ∧ v ≤ 100000 := hage
    have hn2 := HN.out
    have wv : IntKind.i64.wrap (v + n) = v + n := IntWalk.i64_in _ (by omega)
    have z0 := fun q : Later wr => q.cell p0
    have z1 := fun q : Later wr => q.cell p1
    have z2 := fun q : Later wr => q.cell hc
    clear hset hv hage
    go_wp2_with fail
    refine wp_region_later_tail 12 (by kernel_rfl) (by kernel_rfl) ?_
    simp only [List.take_succ_cons, List.take_zero, List.drop_succ_cons, List.drop_zero]
    repeat (go_big_quiet_step (fail))
    refine wpQuiet_nil ?_
    rintro w6 ⟨zz, hz⟩
    have hb6 : Below wr.heap.size wr w6 := hz ▸ zz.ok
    have O6 := intsK.ownBelow HOW.out hb6
    obtain ⟨g', off', hg', _, hc6, hf6, _, hset6⟩ := ints_place O6 hkc
    cases hg'
    have hR6 := hset6 (ageP n v)
    rw [hstep.out] at hR6
    have HR6 := Lib.hid hR6
    have HN6 : Hid (OnlyS U1 w4 w6) := HON.out.trans (Below.onlyS hb6)
    clear z0 z1 z2 hz zz hb6 O6 hset6 hR6
    go_wp2_with fail
    refine ⟨⟨k + 1, by omega, rfl, HR6.out, HN6.out.setCell hgS _⟩, ?_⟩
    show m1 + 1 - ((k : Int) + 1).toNat < m1 + 1 - (k : Int).toNat
    omega

end Go.Proofs.YtfpfgaifhmgpiaaDoor

namespace Go.Proofs.YtfpfgaifhmgpiaaDoor
open Go.RowKit Go.PlainAid

set_option linter.unusedVariables false

set_option maxHeartbeats 8000000 in
set_option maxRecDepth 100000 in
theorem fnSensed_of (Gv : World → Prop) (SEN : Hid (ISenseRow Gv)) (AOK : Hid IArrayOk) (DEC : Hid IRowDecayed) (a0 : Option Addr) (len cap : Nat) (zs : List Int) (w : World) (hr : IsRow .u8 w a0 len cap zs) (GK : Hid (∀ u : World, Below w.heap.size w u → Gv u)) :
    Calls Tryd.prog 3 #[.slice a0 len cap] w fun e w' => e = .returned (.bool true) ∧ Below w.heap.size w w' := by
  have hl := hr.len_le
  unfold maxLen at hl
  by_cases hbig : (1048576 : Int) < (len : Int)
  · go_enter Tryd.func3, Tryd.ntmps3
    go_wp2_with (go_at_call 9; refine (big_any _ _ _ _ (by omega)).mono ?_; rintro e w' ⟨rfl, rfl⟩)
    go_ret
    exact ⟨rfl, Below.refl _ _⟩
  have HR := Lib.hid hr
  clear hr
  go_enter Tryd.func3, Tryd.ntmps3
  go_wp2_with (go_at_call 9; refine (big_any _ _ _ _ (by omega)).mono ?_; rintro e w' ⟨rfl, rfl⟩)
  refine (drawArray_any HR.out).mono ?_
  rintro e w1 ⟨b, r, d, la, lh, cs, S, xx, rfl, hg, hlm, hok, hage, hhit, own1, hs1, hb1⟩
  have HG := Lib.hid hg
  have HLM := Lib.hid hlm
  obtain ⟨xa0, xn0, xc0, xa1, xn1, xc1, xa2, xn2, xc2, rfl, _, _, _⟩ := arr_rd (arrK.read own1)
  have HR1 := Lib.hid (HR.out.below (fun x h => HR.out.lt h) hb1)
  have HB1 := Lib.hid hb1
  have HOK := Lib.hid hok
  have HAGE := Lib.hid hage
  have HHIT := Lib.hid hhit
  clear hb1 hg hlm hok hage hhit
  go_wp2_with fail
  obtain ⟨w2, hw2⟩ : ∃ u, ((w1.alloc (.cells #[.int .i64 1, .int .i64 b, .int .i64 r, .int .i64 d] 25)).alloc (.cells #[.int .i64 la, .int .i64 lh] 27)).alloc (.cells #[.slice xa0 xn0 xc0, .slice xa1 xn1 xc1, .slice xa2 xn2 xc2] 31) = u := ⟨_, rfl⟩
  obtain ⟨gg2, ll2, qx2, hb2⟩ := alloc3 hw2
  have X2 : Hid (arrK.own w2 S [.slice xa0 xn0 xc0, .slice xa1 xn1 xc1, .slice xa2 xn2 xc2] xx) := arrK.ownBelow own1 hb2
  have BX : Hid (∀ g ∈ S, w.heap.size ≤ g) := hs1
  obtain ⟨PG, hPG⟩ : ∃ P, w1.heap.size = P := ⟨_, rfl⟩
  have hlt1 : ∀ g ∈ S, g < PG := fun g hg => by rw [← hPG]; exact arrK.lt own1 g hg
  have HXN : Hid (PG ∉ S ∧ PG + 1 ∉ S ∧ PG + 1 + 1 ∉ S) := ⟨fun h => by have := hlt1 _ h; omega, fun h => by have := hlt1 _ h; omega, fun h => by have := hlt1 _ h; omega⟩
  have HR2 := Lib.hid (HR1.out.below (fun x h => HR1.out.lt h) hb2)
  have HB2 : Hid (Below w.heap.size w w2) := HB1.out.trans (hb2.mono HB1.out.size)
  rw [hw2]
  clear hb2 hw2 HB1 HR1 HR own1 hs1 hlt1
  rw [hPG] at gg2 ll2 qx2
  simp only [hPG]
  clear hPG
  refine (drawPlaces_any HR2.out).mono ?_
  rintro e w3 ⟨Pg, Pc, lp, rfl, hlp, hpo, own3, hb3⟩
  obtain ⟨op, pp3⟩ : ∃ o, w3.heap[Pg]? = some o := by
    obtain ⟨g', e', _, _, _, hlt⟩ := own3.at (k := 0) (by rw [hlp]; decide)
    cases e'
    exact ⟨_, Array.getElem?_eq_getElem hlt⟩
  have hpc : ∀ i (hi : i < 12), ∀ u : World, u.heap[Pg]? = some op → u.cell? ⟨Pg, i, none⟩ = some (.int .i64 (lp.getD i 0)) := by
    intro i hi u hu
    obtain ⟨g', e', hc', _, _, _⟩ := own3.at (k := i) (by rw [hlp]; exact hi)
    cases e'
    rw [getD_get (by omega), ← hc']
    simp only [World.cell?, hu, pp3]
  have hpp : ∀ i (hi : i < 12), 0 ≤ lp.getD i 0 ∧ lp.getD i 0 ≤ 9999 := fun i hi => place_in hlp hpo i hi
  obtain ⟨p0, hp0⟩ : ∃ p, lp.getD 0 0 = p := ⟨_, rfl⟩
  obtain ⟨p1, hp1⟩ : ∃ p, lp.getD 1 0 = p := ⟨_, rfl⟩
  obtain ⟨p2, hp2⟩ : ∃ p, lp.getD 2 0 = p := ⟨_, rfl⟩
  obtain ⟨p3, hp3⟩ : ∃ p, lp.getD 3 0 = p := ⟨_, rfl⟩
  have HPC0 := Lib.hid (hp0 ▸ hpc 0 (by decide))
  have HPC1 := Lib.hid (hp1 ▸ hpc 1 (by decide))
  have HPC2 := Lib.hid (hp2 ▸ hpc 2 (by decide))
  have HPC3 := Lib.hid (hp3 ▸ hpc 3 (by decide))
  have HP0 := Lib.hid (hp0 ▸ hpp 0 (by decide))
  have HP1 := Lib.hid (hp1 ▸ hpp 1 (by decide))
  have HP2 := Lib.hid (hp2 ▸ hpp 2 (by decide))
  have HP3 := Lib.hid (hp3 ▸ hpp 3 (by decide))
  clear hlp hpo hpc hpp hp0 hp1 hp2 hp3 own3
  have gg3 := keep_block hb3 gg2 (lt_of_block gg2)
  have ll3 := keep_block hb3 ll2 (lt_of_block ll2)
  have qX3 := keep_block hb3 qx2 (lt_of_block qx2)
  have X3 : Hid (arrK.own w3 S [.slice xa0 xn0 xc0, .slice xa1 xn1 xc1, .slice xa2 xn2 xc2] xx) := arrK.ownBelow X2.out hb3
  have HB3 : Hid (Below w.heap.size w w3) := HB2.out.trans (hb3.mono HB2.out.size)
  clear hb3 gg2 ll2 qx2 X2 HB2 HR2
  clear BX HXN HP2 HP3 HPC2 HPC3 HAGE
  obtain ⟨bI, eb, hbI⟩ : ∃ x : Int, p0.tmod b = x ∧ (0 ≤ x ∧ x ≤ b - 1) := by
    obtain ⟨bv, eb, hbv⟩ := tmodN HP0.out.1 b.toNat (by have := HG.out.1; omega)
    rw [Int.toNat_of_nonneg (by have := HG.out.1; omega)] at eb
    exact ⟨bv, eb, by omega, by have := HG.out.1; omega⟩
  obtain ⟨rI, er, hrI⟩ : ∃ x : Int, p1.tmod r = x ∧ (0 ≤ x ∧ x ≤ r - 1) := by
    obtain ⟨rv, er, hrv⟩ := tmodN HP1.out.1 r.toNat (by have := HG.out.2.1; omega)
    rw [Int.toNat_of_nonneg (by have := HG.out.2.1; omega)] at er
    exact ⟨rv, er, by omega, by have := HG.out.2.1; omega⟩
  have HRV : Hid (0 ≤ rI ∧ rI ≤ r - 1) := hrI
  have HBV : Hid (0 ≤ bI ∧ bI ≤ b - 1) := hbI
  have HFIT := Lib.hid (arr_fit HOK.out)
  have hb0 : ¬ (b = 0) := by have := HG.out.1; omega
  have hr0 : ¬ (r = 0) := by have := HG.out.2.1; omega
  clear hrI hbI
  go_wp2_with fail
  refine wp_region_flowV (fun k => match k with | 0 => some (.slice (some ⟨Pg, 0, none⟩) 12 Pc) | 1 => some (.pointer (some ⟨Pg, 0, none⟩)) | 2 => some (.int .i64 p0) | 3 => some (.agg #[.int .i64 1, .int .i64 b, .int .i64 r, .int .i64 d]) | 4 => some (.int .i64 b) | 5 => some (.int .i64 bI) | 6 => some (.int .i64 bI) | _ => none) (fun listed x u => True) (fun _ => undef) (by kernel_rfl) (by kernel_rfl) ?hxR1 ?hSR1 ?hsR1 ?heR1
  case hxR1 => simp only [putsX, Act.put, List.setIfInBounds_toArray, List.set_cons_zero, List.set_cons_succ]
  case hSR1 => exact trivial
  case hsR1 =>
    simp only [flowSteps]
    refine ⟨?sR1_0, ?sR1_1, ?sR1_2, ?sR1_3, ?sR1_4, ?sR1_5, ?sR1_6, trivial⟩
    case sR1_0 =>
      intro listed bb u hsz hn hwt hinv
      obtain ⟨x, rfl, hC, hU, _⟩ := hinv
      simp only [putsX, Act.put, List.setIfInBounds_toArray, List.set_cons_zero, List.set_cons_succ]
      go_wp2_with fail
      refine stepQ_normal ⟨trivial, upd x 0 (.slice (some ⟨Pg, 0, none⟩) 12 Pc), ?_, hC, hU.step (fun _ h => Option.some.inj h), trivial⟩
      simp only [upd]
      rfl
    case sR1_1 =>
      intro listed bb u hsz hn hwt hinv
      obtain ⟨x, rfl, hC, hU, _⟩ := hinv
      have f0 := Lib.hid (hU 0 _ rfl (hwt 0 (by kernel_rfl)))
      simp only [putsX, Act.put, List.setIfInBounds_toArray, List.set_cons_zero, List.set_cons_succ]
      rw [f0.out]
      go_wp2_with fail
      refine stepQ_normal ⟨trivial, upd x 1 (.pointer (some ⟨Pg, 0, none⟩)), ?_, hC, hU.step (fun _ h => Option.some.inj h), trivial⟩
      simp only [upd]
      simp only [f0.out]
      (try rfl)
    case sR1_2 =>
      intro listed bb u hsz hn hwt hinv
      obtain ⟨x, rfl, hC, hU, _⟩ := hinv
      have f1 := Lib.hid (hU 1 _ rfl (hwt 1 (by kernel_rfl)))
      simp only [putsX, Act.put, List.setIfInBounds_toArray, List.set_cons_zero, List.set_cons_succ]
      rw [f1.out]
      have d0 := HPC0.out u (keep_block hC pp3 (lt_of_block pp3))
      go_wp2_with fail
      refine stepQ_normal ⟨trivial, upd x 2 (.int .i64 p0), ?_, hC, hU.step (fun _ h => Option.some.inj h), trivial⟩
      simp only [upd]
      simp only [f1.out]
      (try rfl)
    case sR1_3 =>
      intro listed bb u hsz hn hwt hinv
      obtain ⟨x, rfl, hC, hU, _⟩ := hinv
      simp only [putsX, Act.put, List.setIfInBounds_toArray, List.set_cons_zero, List.set_cons_succ]
      obtain ⟨d0, d1, d2, d3⟩ := cells4 (keep_block hC gg3 (lt_of_block gg3))
      go_wp2_with fail
      refine stepQ_normal ⟨trivial, upd x 3 (.agg #[.int .i64 1, .int .i64 b, .int .i64 r, .int .i64 d]), ?_, hC, hU.step (fun _ h => Option.some.inj h), trivial⟩
      simp only [upd]
      rfl
    case sR1_4 =>
      intro listed bb u hsz hn hwt hinv
      obtain ⟨x, rfl, hC, hU, _⟩ := hinv
      have f3 := Lib.hid (hU 3 _ rfl (hwt 3 (by kernel_rfl)))
      simp only [putsX, Act.put, List.setIfInBounds_toArray, List.set_cons_zero, List.set_cons_succ]
      have hcall : Calls Tryd.prog 12 #[x 3] u (Gives (.int .i64 b) u) := by rw [f3.out]; exact (bankC_at HG.out u)
      go_wp2_with fail
      refine hcall.mono ?_
      rintro e' u' ⟨rfl, hb⟩
      go_wp2_with fail
      refine stepQ_normal ⟨trivial, upd x 4 (.int .i64 b), ?_, hC.trans (hb.mono hC.size), hU.step (fun _ h => Option.some.inj h), trivial⟩
      simp only [upd]
      rfl
    case sR1_5 =>
      intro listed bb u hsz hn hwt hinv
      obtain ⟨x, rfl, hC, hU, _⟩ := hinv
      have f2 := Lib.hid (hU 2 _ rfl (hwt 2 (by kernel_rfl)))
      have f4 := Lib.hid (hU 4 _ rfl (hwt 4 (by kernel_rfl)))
      simp only [putsX, Act.put, List.setIfInBounds_toArray, List.set_cons_zero, List.set_cons_succ]
      rw [f2.out]
      rw [f4.out]
      go_wp2_with fail
      refine stepQ_normal ⟨trivial, upd x 5 (.int .i64 bI), ?_, hC, hU.step (fun _ h => Option.some.inj h), trivial⟩
      simp only [upd]
      simp only [f2.out, f4.out]
      (try rfl)
    case sR1_6 =>
      intro listed bb u hsz hn hwt hinv
      obtain ⟨x, rfl, hC, hU, _⟩ := hinv
      have f5 := Lib.hid (hU 5 _ rfl (hwt 5 (by kernel_rfl)))
      simp only [putsX, Act.put, List.setIfInBounds_toArray, List.set_cons_zero, List.set_cons_succ]
      rw [f5.out]
      go_wp2_with fail
      refine stepQ_normal ⟨trivial, upd x 6 (.int .i64 bI), ?_, hC, hU.step (fun _ h => Option.some.inj h), trivial⟩
      simp only [upd]
      simp only [f5.out]
      (try rfl)
  case heR1 =>
    intro listed q w4 hall hC hU _
    have fq6 := hU 6 _ rfl (hall 6 (by decide))
    simp only [putsX, Act.put, List.setIfInBounds_toArray, List.set_cons_zero, List.set_cons_succ]
    rw [fq6]
    clear hall hU fq6
    generalize q 0 = _q0, q 1 = _q1, q 2 = _q2, q 3 = _q3, q 4 = _q4, q 5 = _q5
    have gg4 := keep_block hC gg3 (lt_of_block gg3)
    have ll4 := keep_block hC ll3 (lt_of_block ll3)
    have pp4 := keep_block hC pp3 (lt_of_block pp3)
    have qX4 := keep_block hC qX3 (lt_of_block qX3)
    have X4 : Hid (arrK.own w4 S [.slice xa0 xn0 xc0, .slice xa1 xn1 xc1, .slice xa2 xn2 xc2] xx) := arrK.ownBelow X3.out hC
    have HB4 : Hid (Below w.heap.size w w4) := HB3.out.trans (hC.mono HB3.out.size)
    clear hC
    clear gg3 ll3 pp3 qX3 X3 HB3
    go_wp2_with fail
    refine wp_region_flowV (fun k => match k with | 0 => some (.slice (some ⟨Pg, 0, none⟩) 12 Pc) | 1 => some (.pointer (some ⟨Pg, 1, none⟩)) | 2 => some (.int .i64 p1) | 3 => some (.pointer (some ⟨PG, 2, none⟩)) | 4 => some (.int .i64 r) | 5 => some (.int .i64 rI) | 6 => some (.int .i64 rI) | _ => none) (fun listed x u => True) (fun _ => undef) (by kernel_rfl) (by kernel_rfl) ?hxR2 ?hSR2 ?hsR2 ?heR2
    case hxR2 => simp only [putsX, Act.put, List.setIfInBounds_toArray, List.set_cons_zero, List.set_cons_succ]
    case hSR2 => exact trivial
    case hsR2 =>
      simp only [flowSteps]
      refine ⟨?sR2_0, ?sR2_1, ?sR2_2, ?sR2_3, ?sR2_4, ?sR2_5, ?sR2_6, trivial⟩
      case sR2_0 =>
        intro listed bb u hsz hn hwt hinv
        obtain ⟨x, rfl, hC, hU, _⟩ := hinv
        simp only [putsX, Act.put, List.setIfInBounds_toArray, List.set_cons_zero, List.set_cons_succ]
        go_wp2_with fail
        refine stepQ_normal ⟨trivial, upd x 0 (.slice (some ⟨Pg, 0, none⟩) 12 Pc), ?_, hC, hU.step (fun _ h => Option.some.inj h), trivial⟩
        simp only [upd]
        rfl
      case sR2_1 =>
        intro listed bb u hsz hn hwt hinv
        obtain ⟨x, rfl, hC, hU, _⟩ := hinv
        have f0 := Lib.hid (hU 0 _ rfl (hwt 0 (by kernel_rfl)))
        simp only [putsX, Act.put, List.setIfInBounds_toArray, List.set_cons_zero, List.set_cons_succ]
        rw [f0.out]
        go_wp2_with fail
        refine stepQ_normal ⟨trivial, upd x 1 (.pointer (some ⟨Pg, 1, none⟩)), ?_, hC, hU.step (fun _ h => Option.some.inj h), trivial⟩
        simp only [upd]
        simp only [f0.out]
        (try rfl)
      case sR2_2 =>
        intro listed bb u hsz hn hwt hinv
        obtain ⟨x, rfl, hC, hU, _⟩ := hinv
        have f1 := Lib.hid (hU 1 _ rfl (hwt 1 (by kernel_rfl)))
        simp only [putsX, Act.put, List.setIfInBounds_toArray, List.set_cons_zero, List.set_cons_succ]
        rw [f1.out]
        have d0 := HPC1.out u (keep_block hC pp4 (lt_of_block pp4))
        go_wp2_with fail
        refine stepQ_normal ⟨trivial, upd x 2 (.int .i64 p1), ?_, hC, hU.step (fun _ h => Option.some.inj h), trivial⟩
        simp only [upd]
        simp only [f1.out]
        (try rfl)
      case sR2_3 =>
        intro listed bb u hsz hn hwt hinv
        obtain ⟨x, rfl, hC, hU, _⟩ := hinv
        simp only [putsX, Act.put, List.setIfInBounds_toArray, List.set_cons_zero, List.set_cons_succ]
        go_wp2_with fail
        refine stepQ_normal ⟨trivial, upd x 3 (.pointer (some ⟨PG, 2, none⟩)), ?_, hC, hU.step (fun _ h => Option.some.inj h), trivial⟩
        simp only [upd]
        rfl
      case sR2_4 =>
        intro listed bb u hsz hn hwt hinv
        obtain ⟨x, rfl, hC, hU, _⟩ := hinv
        have f3 := Lib.hid (hU 3 _ rfl (hwt 3 (by kernel_rfl)))
        simp only [putsX, Act.put, List.setIfInBounds_toArray, List.set_cons_zero, List.set_cons_succ]
        rw [f3.out]
        obtain ⟨d0, d1, d2, d3⟩ := cells4 (keep_block hC gg4 (lt_of_block gg4))
        go_wp2_with fail
        refine stepQ_normal ⟨trivial, upd x 4 (.int .i64 r), ?_, hC, hU.step (fun _ h => Option.some.inj h), trivial⟩
        simp only [upd]
        simp only [f3.out]
        (try rfl)
      case sR2_5 =>
        intro listed bb u hsz hn hwt hinv
        obtain ⟨x, rfl, hC, hU, _⟩ := hinv
        have f2 := Lib.hid (hU 2 _ rfl (hwt 2 (by kernel_rfl)))
        have f4 := Lib.hid (hU 4 _ rfl (hwt 4 (by kernel_rfl)))
        simp only [putsX, Act.put, List.setIfInBounds_toArray, List.set_cons_zero, List.set_cons_succ]
        rw [f2.out]
        rw [f4.out]
        go_wp2_with fail
        refine stepQ_normal ⟨trivial, upd x 5 (.int .i64 rI), ?_, hC, hU.step (fun _ h => Option.some.inj h), trivial⟩
        simp only [upd]
        simp only [f2.out, f4.out]
        (try rfl)
      case sR2_6 =>
        intro listed bb u hsz hn hwt hinv
        obtain ⟨x, rfl, hC, hU, _⟩ := hinv
        have f5 := Lib.hid (hU 5 _ rfl (hwt 5 (by kernel_rfl)))
        simp only [putsX, Act.put, List.setIfInBounds_toArray, List.set_cons_zero, List.set_cons_succ]
        rw [f5.out]
        go_wp2_with fail
        refine stepQ_normal ⟨trivial, upd x 6 (.int .i64 rI), ?_, hC, hU.step (fun _ h => Option.some.inj h), trivial⟩
        simp only [upd]
        simp only [f5.out]
        (try rfl)
    case heR2 =>
      intro listed q w5 hall hC hU _
      have fq6 := hU 6 _ rfl (hall 6 (by decide))
      simp only [putsX, Act.put, List.setIfInBounds_toArray, List.set_cons_zero, List.set_cons_succ]
      rw [fq6]
      clear hall hU fq6
      generalize q 0 = _q0, q 1 = _q1, q 2 = _q2, q 3 = _q3, q 4 = _q4, q 5 = _q5
      have gg5 := keep_block hC gg4 (lt_of_block gg4)
      have ll5 := keep_block hC ll4 (lt_of_block ll4)
      have pp5 := keep_block hC pp4 (lt_of_block pp4)
      have qX5 := keep_block hC qX4 (lt_of_block qX4)
      have X5 : Hid (arrK.own w5 S [.slice xa0 xn0 xc0, .slice xa1 xn1 xc1, .slice xa2 xn2 xc2] xx) := arrK.ownBelow X4.out hC
      have HB5 : Hid (Below w.heap.size w w5) := HB4.out.trans (hC.mono HB4.out.size)
      clear hC
      clear gg4 ll4 pp4 qX4 X4 HB4
      have hrd : AdOk 1 b r d bI rI 0 := ⟨by rw [bank_small HG.out]; have := HBV.out; omega, by have := HRV.out; omega, by have := HG.out.2.2; omega⟩
      obtain ⟨j, ej, hj, hj1, es, hoks, hdecs⟩ := sensed_math (la := la) (lh := lh) HOK.out hrd HLM.out.1.1 HLM.out.2.1 HHIT.out
      obtain ⟨B0, hB0⟩ : ∃ x : Int, bI * r = x := ⟨_, rfl⟩
      obtain ⟨jI, hjI⟩ : ∃ x : Int, (j : Int) = x := ⟨_, rfl⟩
      have HJI := Lib.hid hjI
      obtain ⟨yy, hyy⟩ : ∃ y, sensedF 1 b r d la lh xx bI rI = y := ⟨_, rfl⟩
      have HYY := Lib.hid hyy
      rw [hyy] at es
      rw [← es] at hoks hdecs
      have hjB : B0 + rI = jI := by rw [hB0] at ej; omega
      have HES := Lib.hid es
      have HJ := Lib.hid hj
      have HJ1 : Hid (0 < rI → 1 ≤ j) := hj1
      have HJB := Lib.hid hjB
      have HB0 := Lib.hid hB0
      have HOKX : Hid (decide (ArrOk 1 b r d xx) = true) := decide_eq_true HOK.out
      have HOKY : Hid (decide (ArrOk 1 b r d yy) = true) := decide_eq_true hoks
      have HFITY := Lib.hid (arr_fit hoks)
      have HDN : Hid (decide (decF 1 b r d la lh yy bI rI) = false) := decide_eq_false hdecs
      have HSEN : Hid (∀ (cs : List Value) (u : World), arrK.rd u cs xx → Gv u → Calls Tryd.prog 13 #[.agg #[.int .i64 1, .int .i64 b, .int .i64 r, .int .i64 d], .agg #[.int .i64 la, .int .i64 lh], .agg cs.toArray, .int .i64 bI, .int .i64 rI] u (GivesS arrK yy u)) := fun cs u h hG => by rw [← HYY.out]; exact SEN.out 1 b r d la lh bI rI cs xx u h HFIT.out hG
      clear hrd hjI ej hj hj1 es hoks hdecs hB0 hyy hjB eb er hb0 hr0
      obtain ⟨kgg0, kgg1, kgg2, kgg3⟩ := cells4 gg5
      obtain ⟨kll0, kll1⟩ := cells2 ll5
      obtain ⟨kqX0, kqX1, kqX2⟩ := cells3 qX5
      go_wp2_with fail
      have SZY : Hid (w.heap.size ≤ w5.heap.size) := HB5.out.size
      refine (HSEN.out _ _ (arrK.read X5.out) (GK.out _ HB5.out)).mono ?_
      rintro e w6 ⟨cs, SY, rfl, own6, hs6, hb6⟩
      have gg6 := keep_block hb6 gg5 (lt_of_block gg5)
      have ll6 := keep_block hb6 ll5 (lt_of_block ll5)
      have pp6 := keep_block hb6 pp5 (lt_of_block pp5)
      have qX6 := keep_block hb6 qX5 (lt_of_block qX5)
      have X6 : Hid (arrK.own w6 S [.slice xa0 xn0 xc0, .slice xa1 xn1 xc1, .slice xa2 xn2 xc2] xx) := arrK.ownBelow X5.out hb6
      have HB6 : Hid (Below w.heap.size w w6) := HB5.out.trans (hb6.mono HB5.out.size)
      have BY : Hid (∀ b ∈ SY, w5.heap.size ≤ b) := hs6
      clear hs6
      obtain ⟨Ya0, Yn0, Yc0, Ya1, Yn1, Yc1, Ya2, Yn2, Yc2, rfl, _, _, _⟩ := arr_rd (arrK.read own6)
      have Y6 : Hid (arrK.own w6 SY [.slice Ya0 Yn0 Yc0, .slice Ya1 Yn1 Yc1, .slice Ya2 Yn2 Yc2] yy) := own6
      have DXY : Hid (∀ b ∈ S, b ∉ SY) := fun b h1 h2 => by have h3 := arrK.lt X5.out b h1; have h4 := BY.out b h2; omega
      have NYgg : Hid (PG ∉ SY) := fun h => by have h1 := lt_of_block gg5; have h2 := BY.out _ h; omega
      have NYll : Hid ((PG + 1) ∉ SY) := fun h => by have h1 := lt_of_block ll5; have h2 := BY.out _ h; omega
      have NYpp : Hid (Pg ∉ SY) := fun h => by have h1 := lt_of_block pp5; have h2 := BY.out _ h; omega
      have NYqX : Hid ((PG + 1 + 1) ∉ SY) := fun h => by have h1 := lt_of_block qX5; have h2 := BY.out _ h; omega
      clear own6 hb6
      clear gg5 ll5 pp5 qX5 X5 HB5
      obtain ⟨PY, hPY⟩ : ∃ P, w6.heap.size = P := ⟨_, rfl⟩
      have NXqY : Hid (PY ∉ S) := fun h => by have h1 := arrK.lt X6.out _ h; omega
      have NYqY : Hid (PY ∉ SY) := fun h => by have h1 := arrK.lt Y6.out _ h; omega
      have HPY := Lib.hid hPY
      clear hPY
      have hb7 : Below w6.heap.size w6 (w6.alloc (.cells #[.slice Ya0 Yn0 Yc0, .slice Ya1 Yn1 Yc1, .slice Ya2 Yn2 Yc2] 31)) := (Below.refl _ _).alloc (Nat.le_refl _) _
      have gg7 := keep_block hb7 gg6 (lt_of_block gg6)
      have ll7 := keep_block hb7 ll6 (lt_of_block ll6)
      have pp7 := keep_block hb7 pp6 (lt_of_block pp6)
      have qX7 := keep_block hb7 qX6 (lt_of_block qX6)
      have X7 : Hid (arrK.own (w6.alloc (.cells #[.slice Ya0 Yn0 Yc0, .slice Ya1 Yn1 Yc1, .slice Ya2 Yn2 Yc2] 31)) S [.slice xa0 xn0 xc0, .slice xa1 xn1 xc1, .slice xa2 xn2 xc2] xx) := arrK.ownBelow X6.out hb7
      have Y7 : Hid (arrK.own (w6.alloc (.cells #[.slice Ya0 Yn0 Yc0, .slice Ya1 Yn1 Yc1, .slice Ya2 Yn2 Yc2] 31)) SY [.slice Ya0 Yn0 Yc0, .slice Ya1 Yn1 Yc1, .slice Ya2 Yn2 Yc2] yy) := arrK.ownBelow Y6.out hb7
      have qY7 := heap_alloc_new w6 (.cells #[.slice Ya0 Yn0 Yc0, .slice Ya1 Yn1 Yc1, .slice Ya2 Yn2 Yc2] 31)
      have HB7 : Hid (Below w.heap.size w (w6.alloc (.cells #[.slice Ya0 Yn0 Yc0, .slice Ya1 Yn1 Yc1, .slice Ya2 Yn2 Yc2] 31))) := HB6.out.trans (hb7.mono HB6.out.size)
      obtain ⟨egg0, egg1, egg2, egg3⟩ := cells4 gg7
      obtain ⟨eqX0, eqX1, eqX2⟩ := cells3 qX7
      go_wp2_with fail
      clear hb7 egg0 egg1 egg2 egg3 eqX0 eqX1 eqX2
      clear gg6 ll6 pp6 qX6 X6 Y6 HB6
      generalize (w6.alloc (.cells #[.slice Ya0 Yn0 Yc0, .slice Ya1 Yn1 Yc1, .slice Ya2 Yn2 Yc2] 31)) = w7 at gg7 ll7 pp7 qX7 X7 Y7 qY7 HB7 ⊢
      rw [HPY.out] at qY7
      (try simp only [HPY.out])
      clear HPY
      clear kgg0 kgg1 kgg2 kgg3 kll0 kll1 kqX0 kqX1 kqX2
      refine (AOK.out 1 b r d _ xx true HOKX.out _ (arrK.read X7.out) HFIT.out).mono ?_
      rintro e w8 ⟨rfl, hb8⟩
      have gg8 := keep_block hb8 gg7 (lt_of_block gg7)
      have ll8 := keep_block hb8 ll7 (lt_of_block ll7)
      have pp8 := keep_block hb8 pp7 (lt_of_block pp7)
      have qX8 := keep_block hb8 qX7 (lt_of_block qX7)
      have qY8 := keep_block hb8 qY7 (lt_of_block qY7)
      have X8 : Hid (arrK.own w8 S [.slice xa0 xn0 xc0, .slice xa1 xn1 xc1, .slice xa2 xn2 xc2] xx) := arrK.ownBelow X7.out hb8
      have Y8 : Hid (arrK.own w8 SY [.slice Ya0 Yn0 Yc0, .slice Ya1 Yn1 Yc1, .slice Ya2 Yn2 Yc2] yy) := arrK.ownBelow Y7.out hb8
      have HB8 : Hid (Below w.heap.size w w8) := HB7.out.trans (hb8.mono HB7.out.size)
      clear gg7 ll7 pp7 qX7 qY7 X7 Y7 HB7
      clear hb8
      obtain ⟨kgg0, kgg1, kgg2, kgg3⟩ := cells4 gg8
      obtain ⟨kqY0, kqY1, kqY2⟩ := cells3 qY8
      go_wp2_with fail
      refine (AOK.out 1 b r d _ yy true HOKY.out _ (arrK.read Y8.out) HFITY.out).mono ?_
      rintro e w9 ⟨rfl, hb9⟩
      clear kgg0 kgg1 kgg2 kgg3 kqY0 kqY1 kqY2
      have gg9 := keep_block hb9 gg8 (lt_of_block gg8)
      have ll9 := keep_block hb9 ll8 (lt_of_block ll8)
      have pp9 := keep_block hb9 pp8 (lt_of_block pp8)
      have qX9 := keep_block hb9 qX8 (lt_of_block qX8)
      have qY9 := keep_block hb9 qY8 (lt_of_block qY8)
      have X9 : Hid (arrK.own w9 S [.slice xa0 xn0 xc0, .slice xa1 xn1 xc1, .slice xa2 xn2 xc2] xx) := arrK.ownBelow X8.out hb9
      have Y9 : Hid (arrK.own w9 SY [.slice Ya0 Yn0 Yc0, .slice Ya1 Yn1 Yc1, .slice Ya2 Yn2 Yc2] yy) := arrK.ownBelow Y8.out hb9
      have HB9 : Hid (Below w.heap.size w w9) := HB8.out.trans (hb9.mono HB8.out.size)
      clear gg8 ll8 pp8 qX8 qY8 X8 Y8 HB8
      clear hb9
      have Hgg := Lib.hid gg9
      have Hll := Lib.hid ll9
      have Hpp := Lib.hid pp9
      have HqX := Lib.hid qX9
      have HqY := Lib.hid qY9
      clear gg9 ll9 pp9 qX9 qY9
      have HXL : Hid (xx.2.1.length = xn1 ∧ xx.2.2.length = xn2 ∧ yy.2.1.length = Yn1 ∧ yy.2.2.length = Yn2 ∧ xx.2.2.length = xx.2.1.length ∧ yy.2.1.length = xx.2.1.length ∧ yy.2.2.length = xx.2.1.length) := by
        obtain ⟨_, lx1, lx2, _, _⟩ := arr_lens (arrK.read X9.out)
        obtain ⟨_, ly1, ly2, _, _⟩ := arr_lens (arrK.read Y9.out)
        have hxl := HOK.out.2.2.2.1
        have e1 := HOK.out.2.2.1
        have e2 := (of_decide_eq_true HOKY.out).2.2.1
        have e3 := (of_decide_eq_true HOKY.out).2.2.2.1
        exact ⟨lx1, lx2, ly1, ly2, hxl, by omega, by omega⟩
      have HXN : Hid ((xn1 : Int) ≤ 9223372036854775806) := by show _ ≤ _; have := (arr_fit HOK.out).2.2.1; have := HXL.out; omega
      go_wp2_with fail
      go_loopw [10] (fun i wr => ∃ k : Nat, k ≤ xn1 ∧ i = .int .i64 (k : Int) ∧ Below w9.heap.size w9 wr) (fun i _ => xn1 + 1 - (intOf i).toNat)
      case atStart => exact ⟨0, Nat.zero_le _, rfl, Below.refl _ _⟩
      case round =>
        obtain ⟨k, hk, rfl, hbr⟩ := hrel
        have HBR := Lib.hid hbr
        have ggr := keep_block hbr Hgg.out (lt_of_block Hgg.out)
        have llr := keep_block hbr Hll.out (lt_of_block Hll.out)
        have qXr := keep_block hbr HqX.out (lt_of_block HqX.out)
        have qYr := keep_block hbr HqY.out (lt_of_block HqY.out)
        obtain ⟨eX0, eX1, eX2⟩ := cells3 qXr
        obtain ⟨eY0, eY1, eY2⟩ := cells3 qYr
        obtain ⟨eg0, eg1, eg2, eg3⟩ := cells4 ggr
        obtain ⟨el0, el1⟩ := cells2 llr
        obtain ⟨_, _, _, rx1, rx2⟩ := arr_lens (arrK.read (arrK.ownBelow X9.out hbr))
        obtain ⟨_, _, _, ry1, ry2⟩ := arr_lens (arrK.read (arrK.ownBelow Y9.out hbr))
        clear qXr qYr ggr llr
        by_cases hlt : k < xn1
        case neg =>
          have tlt : decide ((k : Int) < (xn1 : Int)) = false := decide_eq_false (by omega)
          have HBE : Hid (Below w.heap.size w wr) := HB9.out.trans (hbr.mono HB9.out.size)
          have YR := Lib.hid (arrK.read (arrK.ownBelow Y9.out hbr))
          clear rx1 rx2 ry1 ry2 hbr HBR
          go_wp2_with fail
          refine (DEC.out 1 b r d la lh bI rI _ yy false HDN.out _ YR.out HFITY.out).mono ?_
          rintro e w2 ⟨rfl, hb2⟩
          have HB2 : Hid (Below w.heap.size w w2) := HBE.out.trans (hb2.mono HBE.out.size)
          clear hb2 HBE YR eX0 eX1 eX2 eY0 eY1 eY2 eg0 eg1 eg2 eg3 el0 el1
          go_wp2_with fail
          go_ret
          exact ⟨rfl, HB2.out⟩
        have tlt : decide ((k : Int) < (xn1 : Int)) = true := decide_eq_true (by omega)
        have tlt' : (k : Int) < (xn1 : Int) := by omega
        have tl2 : (k : Int) < (xn2 : Int) := by have := HXL.out; omega
        have tl3 : (k : Int) < (Yn1 : Int) := by have := HXL.out; omega
        have tl4 : (k : Int) < (Yn2 : Int) := by have := HXL.out; omega
        have wk : IntKind.i64.wrap ((k : Int) + 1) = (k : Int) + 1 := IntWalk.i64_in _ (by have := HXN.out; omega)
        have hkx : k < xx.2.1.length := by have := HXL.out; omega
        have hsp := sense_place (gr := r) (gd := d) (la := la) (lh := lh) (rw := rI) hkx HXL.out.2.2.2.2.1 HJ1.out HHIT.out
        rw [← HES.out] at hsp
        obtain ⟨u, hu⟩ : ∃ u, xx.2.1.getD k 0 = u := ⟨_, rfl⟩
        obtain ⟨h, hh⟩ : ∃ h, xx.2.2.getD k 0 = h := ⟨_, rfl⟩
        have hh20 : h ≤ 20 := hh ▸ (mem_getDI (P := fun v => v ≤ 20)).1 HHIT.out k (by have := HXL.out; omega)
        have hh0 : 0 ≤ h := hh ▸ ((mem_getDI (P := fun v => AgeOk v)).1 HOK.out.2.2.2.2.2.2 k (by have := HXL.out; omega)).1
        obtain ⟨g1, o1, exa, c1⟩ := (ints_row rx1).at (k := k) hkx
        obtain ⟨g2, o2, exb, c2⟩ := (ints_row rx2).at (k := k) (by have := HXL.out; omega)
        obtain ⟨g3, o3, eya, c3⟩ := (ints_row ry1).at (k := k) (by have := HXL.out; omega)
        obtain ⟨g4, o4, eyb, c4⟩ := (ints_row ry2).at (k := k) (by have := HXL.out; omega)
        rw [hu] at c1 hsp
        rw [hh] at c2 hsp
        rw [exa] at eX1
        rw [exb] at eX2
        rw [eya] at eY1
        rw [eyb] at eY2
        have wh : IntKind.i64.wrap (h + 1) = h + 1 := IntWalk.i64_in _ (by omega)
        have thh : (h != h) = false := by simp
        have thh1 : (h + 1 != h + 1) = false := by simp
        have tuu : (u != u) = false := by simp
        have hjx : 0 ≤ jI ∧ jI ≤ 9223372036854775805 := by have := HJI.out; have := HJ.out; have := HXL.out; have := HXN.out; omega
        have wB : IntKind.i64.wrap (bI * r) = B0 := by rw [HB0.out]; exact IntWalk.i64_in _ (by have := HJB.out; have := HRV.out; have := HG.out.2.1; omega)
        have wj : IntKind.i64.wrap (B0 + rI) = jI := by rw [HJB.out]; exact IntWalk.i64_in _ (by omega)
        have wj1 : IntKind.i64.wrap (jI - 1) = jI - 1 := IntWalk.i64_in _ (by omega)
        have wj2 : IntKind.i64.wrap (jI + 1) = jI + 1 := IntWalk.i64_in _ (by omega)
        have wr1 : IntKind.i64.wrap (r - 1) = r - 1 := IntWalk.i64_in _ (by have := HG.out.2.1; omega)
        have HKX := Lib.hid hkx
        have HLT := Lib.hid hlt
        have hhr : h + 1 ≤ 21 := by omega
        clear rx1 rx2 ry1 ry2 hbr hu hh hh0 hh20 exa exb eya eyb hkx hlt hhr hjx
        by_cases hc : k = j
        · have t5 : ((k : Int) == jI) = true := by rw [beq_iff_eq]; have := HJI.out; omega
          have t1 : ((k : Int) == jI - 1) = false := by rw [beq_eq_false_iff_ne]; have := HJI.out; omega
          have t3 : ((k : Int) == jI + 1) = false := by rw [beq_eq_false_iff_ne]; have := HJI.out; omega
          rw [if_pos hc, if_pos hc] at hsp
          rw [hsp.1] at c3
          rw [hsp.2] at c4
          clear hsp hc
          go_wp2_with fail
          go_roundw
          case rel => exact ⟨k + 1, by have := HLT.out; omega, by go_num, HBR.out⟩
          case measure => have := HLT.out; simp [intOf]; omega
        have hkj := hc
        by_cases hc : (k + 1 = j ∧ 0 < rI) ∨ (k = j + 1 ∧ rI < r - 1)
        · rw [if_neg hkj, if_neg hkj] at hsp
          by_cases h1 : k + 1 = j
          · have t5 : ((k : Int) == jI) = false := by rw [beq_eq_false_iff_ne]; have := HJI.out; omega
            have t1 : ((k : Int) == jI - 1) = true := by rw [beq_iff_eq]; have := HJI.out; omega
            have t2 : decide (0 < rI) = true := decide_eq_true (by omega)
            rw [if_pos hc] at hsp
            rw [hsp.1] at c3
            rw [hsp.2] at c4
            clear hsp hc hkj h1
            have z0 := fun q : Later wr => q.cell eX1
            have z1 := fun q : Later wr => q.cell eX2
            have z2 := fun q : Later wr => q.cell eY1
            have z3 := fun q : Later wr => q.cell eY2
            have z4 := fun q : Later wr => q.cell c1
            have z5 := fun q : Later wr => q.cell c2
            have z6 := fun q : Later wr => q.cell c3
            have z7 := fun q : Later wr => q.cell c4
            go_wp2_with fail
            refine wp_region_later (by kernel_rfl) (by kernel_rfl) ?_
            repeat (go_big_quiet_step (fail))
            refine wpQuiet_nil ?_
            rintro w2 ⟨zz, rfl⟩
            have HB2 : Hid (Below w9.heap.size w9 zz.to) := HBR.out.trans (zz.ok.mono HBR.out.size)
            clear z0 z1 z2 z3 z4 z5 z6 z7 eX0 eX1 eX2 eY0 eY1 eY2 eg0 eg1 eg2 eg3 c1 c2 c3 c4
            generalize zz.to = w2 at HB2 ⊢
            go_wp2_with fail
            go_roundw
            case rel => exact ⟨k + 1, by have := HLT.out; omega, by go_num, HB2.out⟩
            case measure => have := HLT.out; simp [intOf]; omega
          · have t5 : ((k : Int) == jI) = false := by rw [beq_eq_false_iff_ne]; have := HJI.out; omega
            have t1 : ((k : Int) == jI - 1) = false := by rw [beq_eq_false_iff_ne]; have := HJI.out; omega
            have t3 : ((k : Int) == jI + 1) = true := by rw [beq_iff_eq]; have := HJI.out; omega
            have t4 : decide (rI < r - 1) = true := decide_eq_true (by omega)
            rw [if_pos hc] at hsp
            rw [hsp.1] at c3
            rw [hsp.2] at c4
            clear hsp hc hkj h1
            have z0 := fun q : Later wr => q.cell eX1
            have z1 := fun q : Later wr => q.cell eX2
            have z2 := fun q : Later wr => q.cell eY1
            have z3 := fun q : Later wr => q.cell eY2
            have z4 := fun q : Later wr => q.cell c1
            have z5 := fun q : Later wr => q.cell c2
            have z6 := fun q : Later wr => q.cell c3
            have z7 := fun q : Later wr => q.cell c4
            go_wp2_with fail
            refine wp_region_later (by kernel_rfl) (by kernel_rfl) ?_
            repeat (go_big_quiet_step (fail))
            refine wpQuiet_nil ?_
            rintro w2 ⟨zz, rfl⟩
            have HB2 : Hid (Below w9.heap.size w9 zz.to) := HBR.out.trans (zz.ok.mono HBR.out.size)
            clear z0 z1 z2 z3 z4 z5 z6 z7 eX0 eX1 eX2 eY0 eY1 eY2 eg0 eg1 eg2 eg3 c1 c2 c3 c4
            generalize zz.to = w2 at HB2 ⊢
            go_wp2_with fail
            go_roundw
            case rel => exact ⟨k + 1, by have := HLT.out; omega, by go_num, HB2.out⟩
            case measure => have := HLT.out; simp [intOf]; omega
        rw [if_neg hkj, if_neg hkj] at hsp
        by_cases h1 : k + 1 = j
        · have t5 : ((k : Int) == jI) = false := by rw [beq_eq_false_iff_ne]; have := HJI.out; omega
          have t1 : ((k : Int) == jI - 1) = true := by rw [beq_iff_eq]; have := HJI.out; omega
          have t2 : decide (0 < rI) = false := decide_eq_false (by omega)
          have t3 : ((k : Int) == jI + 1) = false := by rw [beq_eq_false_iff_ne]; have := HJI.out; omega
          rw [if_neg hc] at hsp
          rw [hsp.1] at c3
          rw [hsp.2] at c4
          clear hsp hc hkj h1
          have z0 := fun q : Later wr => q.cell eX1
          have z1 := fun q : Later wr => q.cell eX2
          have z2 := fun q : Later wr => q.cell eY1
          have z3 := fun q : Later wr => q.cell eY2
          have z4 := fun q : Later wr => q.cell c1
          have z5 := fun q : Later wr => q.cell c2
          have z6 := fun q : Later wr => q.cell c3
          have z7 := fun q : Later wr => q.cell c4
          go_wp2_with fail
          refine wp_region_later (by kernel_rfl) (by kernel_rfl) ?_
          repeat (go_big_quiet_step (fail))
          refine wpQuiet_nil ?_
          rintro w2 ⟨zz, rfl⟩
          have HB2 : Hid (Below w9.heap.size w9 zz.to) := HBR.out.trans (zz.ok.mono HBR.out.size)
          clear z0 z1 z2 z3 z4 z5 z6 z7 eX0 eX1 eX2 eY0 eY1 eY2 eg0 eg1 eg2 eg3 c1 c2 c3 c4
          generalize zz.to = w2 at HB2 ⊢
          go_wp2_with fail
          go_roundw
          case rel => exact ⟨k + 1, by have := HLT.out; omega, by go_num, HB2.out⟩
          case measure => have := HLT.out; simp [intOf]; omega
        by_cases h2 : k = j + 1
        · have t5 : ((k : Int) == jI) = false := by rw [beq_eq_false_iff_ne]; have := HJI.out; omega
          have t1 : ((k : Int) == jI - 1) = false := by rw [beq_eq_false_iff_ne]; have := HJI.out; omega
          have t3 : ((k : Int) == jI + 1) = true := by rw [beq_iff_eq]; have := HJI.out; omega
          have t4 : decide (rI < r - 1) = false := decide_eq_false (by omega)
          rw [if_neg hc] at hsp
          rw [hsp.1] at c3
          rw [hsp.2] at c4
          clear hsp hc hkj h1 h2
          have z0 := fun q : Later wr => q.cell eX1
          have z1 := fun q : Later wr => q.cell eX2
          have z2 := fun q : Later wr => q.cell eY1
          have z3 := fun q : Later wr => q.cell eY2
          have z4 := fun q : Later wr => q.cell c1
          have z5 := fun q : Later wr => q.cell c2
          have z6 := fun q : Later wr => q.cell c3
          have z7 := fun q : Later wr => q.cell c4
          go_wp2_with fail
          refine wp_region_later (by kernel_rfl) (by kernel_rfl) ?_
          repeat (go_big_quiet_step (fail))
          refine wpQuiet_nil ?_
          rintro w2 ⟨zz, rfl⟩
          have HB2 : Hid (Below w9.heap.size w9 zz.to) := HBR.out.trans (zz.ok.mono HBR.out.size)
          clear z0 z1 z2 z3 z4 z5 z6 z7 eX0 eX1 eX2 eY0 eY1 eY2 eg0 eg1 eg2 eg3 c1 c2 c3 c4
          generalize zz.to = w2 at HB2 ⊢
          go_wp2_with fail
          go_roundw
          case rel => exact ⟨k + 1, by have := HLT.out; omega, by go_num, HB2.out⟩
          case measure => have := HLT.out; simp [intOf]; omega
        · have t5 : ((k : Int) == jI) = false := by rw [beq_eq_false_iff_ne]; have := HJI.out; omega
          have t1 : ((k : Int) == jI - 1) = false := by rw [beq_eq_false_iff_ne]; have := HJI.out; omega
          have t3 : ((k : Int) == jI + 1) = false := by rw [beq_eq_false_iff_ne]; have := HJI.out; omega
          rw [if_neg hc] at hsp
          rw [hsp.1] at c3
          rw [hsp.2] at c4
          clear hsp hc hkj h1 h2
          have z0 := fun q : Later wr => q.cell eX1
          have z1 := fun q : Later wr => q.cell eX2
          have z2 := fun q : Later wr => q.cell eY1
          have z3 := fun q : Later wr => q.cell eY2
          have z4 := fun q : Later wr => q.cell c1
          have z5 := fun q : Later wr => q.cell c2
          have z6 := fun q : Later wr => q.cell c3
          have z7 := fun q : Later wr => q.cell c4
          go_wp2_with fail
          refine wp_region_later (by kernel_rfl) (by kernel_rfl) ?_
          repeat (go_big_quiet_step (fail))
          refine wpQuiet_nil ?_
          rintro w2 ⟨zz, rfl⟩
          have HB2 : Hid (Below w9.heap.size w9 zz.to) := HBR.out.trans (zz.ok.mono HBR.out.size)
          clear z0 z1 z2 z3 z4 z5 z6 z7 eX0 eX1 eX2 eY0 eY1 eY2 eg0 eg1 eg2 eg3 c1 c2 c3 c4
          generalize zz.to = w2 at HB2 ⊢
          go_wp2_with fail
          go_roundw
          case rel => exact ⟨k + 1, by have := HLT.out; omega, by go_num, HB2.out⟩
          case measure => have := HLT.out; simp [intOf]; omega

end Go.Proofs.YtfpfgaifhmgpiaaDoor
