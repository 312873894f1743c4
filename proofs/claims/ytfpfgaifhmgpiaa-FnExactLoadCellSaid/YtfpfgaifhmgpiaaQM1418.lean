/-
  Texts of one proof, merged: ArrX5, ArrZ5, ArrYP, ArrYQ, ArrYR, ArrYV, ArrZ6, ArrX6, ArrYL, ArrZ7.
-/
import Derived.Test.YtfpfgaifhmgpiaaQM1414
import Derived.Test.YtfpfgaifhmgpiaaQM1417
namespace Go.Proofs.Ytfpfgaifhmgpiaa
open Go.RowKit Go.PlainAid

set_option linter.unusedVariables false

set_option maxHeartbeats 16000000 in
set_option maxRecDepth 100000 in
theorem exArrayOk_of (IMPL : Hid IArrayOk) (ea eb ec ed : Int) (lx : List Value) (w : World) (s : Sh.Fits w (.and (.row (.and (.row (.num .i64)) (.and .flag .fin))) (.and (.row (.num .i64)) (.and (.row (.num .i64)) .fin))) lx) :
    Calls Try.prog 5 #[.agg #[.int .i64 ea, .int .i64 eb, .int .i64 ec, .int .i64 ed], .agg lx.toArray] w fun e w' => e = .returned (.bool true) ∧ Below w.heap.size w w' := by
  obtain ⟨xx, hx⟩ := arr_in s
  obtain ⟨a0, n0, c0, a1, n1, c1, a2, n2, c2, rfl, _, _, _⟩ := arr_rd hx
  have HX0 := Lib.hid hx
  obtain ⟨sv, hsv⟩ : ∃ v, szF 1048576 (arrN xx) = v := ⟨_, rfl⟩
  have HSV := Lib.hid hsv
  obtain ⟨v, hv⟩ : ∃ z, decide (ArrOk ea eb ec ed xx) = z := ⟨_, rfl⟩
  have HV := Lib.hid hv
  have tvv : (v != v) = false := by simp
  clear hv
  obtain ⟨w1, hw1⟩ : ∃ u, ((w.alloc (.cells #[.int .i64 ea, .int .i64 eb, .int .i64 ec, .int .i64 ed] 48)).alloc (.cells #[.slice a0 n0 c0, .slice a1 n1 c1, .slice a2 n2 c2] 51)) = u := ⟨_, rfl⟩
  have HB1 : Hid (Below w.heap.size w w1) := by subst hw1; exact ((Below.refl _ _).alloc (Nat.le_refl _) _).alloc (by simp) _
  have gg1 : w1.heap[w.heap.size]? = some (.cells #[.int .i64 ea, .int .i64 eb, .int .i64 ec, .int .i64 ed] 48) := by subst hw1; exact heap_alloc2_old _ _ _
  have mm1 : w1.heap[w.heap.size + 1]? = some (.cells #[.slice a0 n0 c0, .slice a1 n1 c1, .slice a2 n2 c2] 51) := by subst hw1; exact heap_alloc2_new _ _ _
  clear hx hsv
  go_enter Try.func5, Try.ntmps5
  obtain ⟨kmm0, kmm1, kmm2⟩ := cells3 mm1
  go_wp2_with fail
  refine (szArray_k (arrK.below HX0.out HB1.out) 1048576 sv (by decide) (by decide) HSV.out).mono ?_
  rintro e w2 ⟨rfl, hb2⟩
  clear kmm0 kmm1 kmm2
  have gg2 := keep_block hb2 gg1 (lt_of_block gg1)
  have mm2 := keep_block hb2 mm1 (lt_of_block mm1)
  have HB2 : Hid (Below w.heap.size w w2) := HB1.out.trans (hb2.mono HB1.out.size)
  clear gg1 mm1 HB1
  clear hb2
  clear hw1
  by_cases hs : sv < 0
  · have ts : decide (sv < 0) = true := decide_eq_true hs
    go_wp2_with fail
    go_ret
    exact ⟨rfl, HB2.out⟩
  have ts : decide (sv < 0) = false := decide_eq_false hs
  have hfit := arr_size (x := xx) (by rw [HSV.out]; exact hs)
  have HFIT := Lib.hid hfit.1
  have HCNT := Lib.hid hfit.2
  clear hs hfit
  go_wp2_with fail
  refine wp_region_flowV (fun k => match k with | 0 => some (.agg #[.int .i64 ea, .int .i64 eb, .int .i64 ec, .int .i64 ed]) | 1 => some (.agg #[.int .i64 ea, .int .i64 eb, .int .i64 ec, .int .i64 ed]) | 2 => some (.agg #[.slice a0 n0 c0, .slice a1 n1 c1, .slice a2 n2 c2]) | 4 => some (.bool v) | 5 => some (.bool v) | _ => none) (fun listed x u => FactW 3 4 (HasK arrK xx w2.heap.size) listed x u) (fun _ => undef) (by kernel_rfl) (by kernel_rfl) ?hxR1 ?hSR1 ?hsR1 ?heR1
  case hxR1 => simp only [putsX, Act.put, List.setIfInBounds_toArray, List.set_cons_zero, List.set_cons_succ]
  case hSR1 => exact FactW.zero _ _ _ _ _ _
  case hsR1 =>
    simp only [flowSteps]
    refine ⟨?sR1_0, ?sR1_1, ?sR1_2, ?sR1_3, ?sR1_4, ?sR1_5, trivial⟩
    case sR1_0 =>
      intro listed bb u hsz hn hwt hinv
      obtain ⟨x, rfl, hC, hU, hA0⟩ := hinv
      simp only [putsX, Act.put, List.setIfInBounds_toArray, List.set_cons_zero, List.set_cons_succ]
      obtain ⟨d0, d1, d2, d3⟩ := cells4 (keep_block hC gg2 (lt_of_block gg2))
      go_wp2_with fail
      refine stepQ_normal ⟨trivial, upd x 0 (.agg #[.int .i64 ea, .int .i64 eb, .int .i64 ec, .int .i64 ed]), ?_, hC, hU.step (fun _ h => Option.some.inj h), hA0.keep (by decide) (by decide) _ id⟩
      simp only [upd]
      rfl
    case sR1_1 =>
      intro listed bb u hsz hn hwt hinv
      obtain ⟨x, rfl, hC, hU, hA0⟩ := hinv
      have f0 := Lib.hid (hU 0 _ rfl (hwt 0 (by kernel_rfl)))
      simp only [putsX, Act.put, List.setIfInBounds_toArray, List.set_cons_zero, List.set_cons_succ]
      have hcall : Calls Try.prog 24 #[x 0] u (Gives (.agg #[.int .i64 ea, .int .i64 eb, .int .i64 ec, .int .i64 ed]) u) := by rw [f0.out]; exact toGeometry_any _ _ _ _ _
      go_wp2_with fail
      refine hcall.mono ?_
      rintro e' u' ⟨rfl, hb⟩
      go_wp2_with fail
      refine stepQ_normal ⟨trivial, upd x 1 (.agg #[.int .i64 ea, .int .i64 eb, .int .i64 ec, .int .i64 ed]), ?_, hC.trans (hb.mono hC.size), hU.step (fun _ h => Option.some.inj h), hA0.keep (by decide) (by decide) _ (fun h => HasK.below h (hb))⟩
      simp only [upd]
      rfl
    case sR1_2 =>
      intro listed bb u hsz hn hwt hinv
      obtain ⟨x, rfl, hC, hU, hA0⟩ := hinv
      simp only [putsX, Act.put, List.setIfInBounds_toArray, List.set_cons_zero, List.set_cons_succ]
      obtain ⟨d0, d1, d2⟩ := cells3 (keep_block hC mm2 (lt_of_block mm2))
      go_wp2_with fail
      refine stepQ_normal ⟨trivial, upd x 2 (.agg #[.slice a0 n0 c0, .slice a1 n1 c1, .slice a2 n2 c2]), ?_, hC, hU.step (fun _ h => Option.some.inj h), hA0.keep (by decide) (by decide) _ id⟩
      simp only [upd]
      rfl
    case sR1_3 =>
      intro listed bb u hsz hn hwt hinv
      obtain ⟨x, rfl, hC, hU, hA0⟩ := hinv
      have f2 := Lib.hid (hU 2 _ rfl (hwt 2 (by kernel_rfl)))
      simp only [putsX, Act.put, List.setIfInBounds_toArray, List.set_cons_zero, List.set_cons_succ]
      have hbu := HB2.out.trans (hC.mono HB2.out.size)
      have hcall : Calls Try.prog 25 #[x 2] u (GivesS arrK xx u) := by rw [f2.out]; exact toArray_k (arrK.below HX0.out hbu) HFIT.out.1 HFIT.out.2.1 HFIT.out.2.2.1 HFIT.out.2.2.2
      go_wp2_with fail
      refine hcall.mono ?_
      rintro e' u' ⟨cs, SS, rfl, own, hss, hb⟩
      go_wp2_with fail
      refine stepQ_normal ⟨trivial, upd x 3 (.agg cs.toArray), ?_, hC.trans (hb.mono hC.size), hU.step (fun _ h => by cases h), FactW.new ⟨cs, SS, rfl, own, fun b h => Nat.le_trans hC.size (hss b h)⟩⟩
      simp only [upd]
      rfl
    case sR1_4 =>
      intro listed bb u hsz hn hwt hinv
      obtain ⟨x, rfl, hC, hU, hA0⟩ := hinv
      have f1 := Lib.hid (hU 1 _ rfl (hwt 1 (by kernel_rfl)))
      simp only [putsX, Act.put, List.setIfInBounds_toArray, List.set_cons_zero, List.set_cons_succ]
      obtain ⟨cs0, S0, fp0, ow0, _⟩ := hA0 (hwt 3 (by kernel_rfl)) hn
      have hcall : Calls Try.prog 23 #[x 1, x 3] u (Gives (.bool v) u) := by rw [f1.out, fp0]; exact specArrayOk_is ea eb ec ed (arrK.read ow0) v HV.out
      clear fp0
      go_wp2_with fail
      refine hcall.mono ?_
      rintro e' u' ⟨rfl, hb⟩
      go_wp2_with fail
      refine stepQ_normal ⟨trivial, upd x 4 (.bool v), ?_, hC.trans (hb.mono hC.size), hU.step (fun _ h => Option.some.inj h), FactW.call (by rw [hsz]; decide)⟩
      simp only [upd]
      rfl
    case sR1_5 =>
      intro listed bb u hsz hn hwt hinv
      obtain ⟨x, rfl, hC, hU, hA0⟩ := hinv
      have f4 := Lib.hid (hU 4 _ rfl (hwt 4 (by kernel_rfl)))
      simp only [putsX, Act.put, List.setIfInBounds_toArray, List.set_cons_zero, List.set_cons_succ]
      rw [f4.out]
      go_wp2_with fail
      refine stepQ_normal ⟨trivial, upd x 5 (.bool v), ?_, hC, hU.step (fun _ h => Option.some.inj h), hA0.keep (by decide) (by decide) _ id⟩
      simp only [upd]
      simp only [f4.out]
      (try rfl)
  case heR1 =>
    intro listed q w3 hall hC hU hS
    have hA0 := hS
    have fq4 := hU 4 _ rfl (hall 4 (by decide))
    have fq5 := hU 5 _ rfl (hall 5 (by decide))
    simp only [putsX, Act.put, List.setIfInBounds_toArray, List.set_cons_zero, List.set_cons_succ]
    rw [fq4, fq5]
    clear hall hU fq4 fq5 hA0
    generalize q 0 = _q0, q 1 = _q1, q 2 = _q2, q 3 = _q3
    have gg3 := keep_block hC gg2 (lt_of_block gg2)
    have mm3 := keep_block hC mm2 (lt_of_block mm2)
    have HB3 : Hid (Below w.heap.size w w3) := HB2.out.trans (hC.mono HB2.out.size)
    clear hC
    clear gg2 mm2 HB2
    obtain ⟨kmm0, kmm1, kmm2⟩ := cells3 mm3
    go_wp2_with fail
    refine (toArray_k (arrK.below HX0.out HB3.out) HFIT.out.1 HFIT.out.2.1 HFIT.out.2.2.1 HFIT.out.2.2.2).mono ?_
    rintro e w4 ⟨cs, SX, rfl, own4, hs4, hb4⟩
    clear kmm0 kmm1 kmm2
    have gg4 := keep_block hb4 gg3 (lt_of_block gg3)
    have mm4 := keep_block hb4 mm3 (lt_of_block mm3)
    have HB4 : Hid (Below w.heap.size w w4) := HB3.out.trans (hb4.mono HB3.out.size)
    have BX : Hid (∀ b ∈ SX, w3.heap.size ≤ b) := hs4
    clear hs4
    obtain ⟨Xa0, Xn0, Xc0, Xa1, Xn1, Xc1, Xa2, Xn2, Xc2, rfl, _, _, _⟩ := arr_rd (arrK.read own4)
    have X4 : Hid (arrK.own w4 SX [.slice Xa0 Xn0 Xc0, .slice Xa1 Xn1 Xc1, .slice Xa2 Xn2 Xc2] xx) := own4
    have NXgg : Hid (w.heap.size ∉ SX) := fun h => by have h1 := lt_of_block gg3; have h2 := BX.out _ h; omega
    have NXmm : Hid ((w.heap.size + 1) ∉ SX) := fun h => by have h1 := lt_of_block mm3; have h2 := BX.out _ h; omega
    clear own4 hb4
    clear gg3 mm3 HB3
    obtain ⟨PX, hPX⟩ : ∃ P, w4.heap.size = P := ⟨_, rfl⟩
    have NXqX : Hid (PX ∉ SX) := fun h => by have h1 := arrK.lt X4.out _ h; omega
    have HPX := Lib.hid hPX
    clear hPX
    have hb5 : Below w4.heap.size w4 (w4.alloc (.cells #[.slice Xa0 Xn0 Xc0, .slice Xa1 Xn1 Xc1, .slice Xa2 Xn2 Xc2] 31)) := (Below.refl _ _).alloc (Nat.le_refl _) _
    have gg5 := keep_block hb5 gg4 (lt_of_block gg4)
    have mm5 := keep_block hb5 mm4 (lt_of_block mm4)
    have X5 : Hid (arrK.own (w4.alloc (.cells #[.slice Xa0 Xn0 Xc0, .slice Xa1 Xn1 Xc1, .slice Xa2 Xn2 Xc2] 31)) SX [.slice Xa0 Xn0 Xc0, .slice Xa1 Xn1 Xc1, .slice Xa2 Xn2 Xc2] xx) := arrK.ownBelow X4.out hb5
    have qX5 := heap_alloc_new w4 (.cells #[.slice Xa0 Xn0 Xc0, .slice Xa1 Xn1 Xc1, .slice Xa2 Xn2 Xc2] 31)
    have HB5 : Hid (Below w.heap.size w (w4.alloc (.cells #[.slice Xa0 Xn0 Xc0, .slice Xa1 Xn1 Xc1, .slice Xa2 Xn2 Xc2] 31))) := HB4.out.trans (hb5.mono HB4.out.size)
    go_wp2_with fail
    clear hb5
    clear gg4 mm4 X4 HB4
    generalize (w4.alloc (.cells #[.slice Xa0 Xn0 Xc0, .slice Xa1 Xn1 Xc1, .slice Xa2 Xn2 Xc2] 31)) = w5 at gg5 mm5 X5 qX5 HB5 ⊢
    rw [HPX.out] at qX5
    (try simp only [HPX.out])
    clear HPX
    go_wp2_with fail
    refine wp_region_flowV (fun k => match k with | 0 => some (.agg #[.int .i64 ea, .int .i64 eb, .int .i64 ec, .int .i64 ed]) | 1 => some (.agg #[.int .i64 ea, .int .i64 eb, .int .i64 ec, .int .i64 ed]) | 2 => some (.agg #[.slice Xa0 Xn0 Xc0, .slice Xa1 Xn1 Xc1, .slice Xa2 Xn2 Xc2]) | 3 => some (.bool v) | 4 => some (.bool v) | _ => none) (fun listed x u => True) (fun _ => undef) (by kernel_rfl) (by kernel_rfl) ?hxR2 ?hSR2 ?hsR2 ?heR2
    case hxR2 => simp only [putsX, Act.put, List.setIfInBounds_toArray, List.set_cons_zero, List.set_cons_succ]
    case hSR2 => exact trivial
    case hsR2 =>
      simp only [flowSteps]
      refine ⟨?sR2_0, ?sR2_1, ?sR2_2, ?sR2_3, ?sR2_4, trivial⟩
      case sR2_0 =>
        intro listed bb u hsz hn hwt hinv
        obtain ⟨x, rfl, hC, hU, _⟩ := hinv
        simp only [putsX, Act.put, List.setIfInBounds_toArray, List.set_cons_zero, List.set_cons_succ]
        obtain ⟨d0, d1, d2, d3⟩ := cells4 (keep_block hC gg5 (lt_of_block gg5))
        go_wp2_with fail
        refine stepQ_normal ⟨trivial, upd x 0 (.agg #[.int .i64 ea, .int .i64 eb, .int .i64 ec, .int .i64 ed]), ?_, hC, hU.step (fun _ h => Option.some.inj h), trivial⟩
        simp only [upd]
        rfl
      case sR2_1 =>
        intro listed bb u hsz hn hwt hinv
        obtain ⟨x, rfl, hC, hU, _⟩ := hinv
        have f0 := Lib.hid (hU 0 _ rfl (hwt 0 (by kernel_rfl)))
        simp only [putsX, Act.put, List.setIfInBounds_toArray, List.set_cons_zero, List.set_cons_succ]
        have hcall : Calls Try.prog 24 #[x 0] u (Gives (.agg #[.int .i64 ea, .int .i64 eb, .int .i64 ec, .int .i64 ed]) u) := by rw [f0.out]; exact toGeometry_any _ _ _ _ _
        go_wp2_with fail
        refine hcall.mono ?_
        rintro e' u' ⟨rfl, hb⟩
        go_wp2_with fail
        refine stepQ_normal ⟨trivial, upd x 1 (.agg #[.int .i64 ea, .int .i64 eb, .int .i64 ec, .int .i64 ed]), ?_, hC.trans (hb.mono hC.size), hU.step (fun _ h => Option.some.inj h), trivial⟩
        simp only [upd]
        rfl
      case sR2_2 =>
        intro listed bb u hsz hn hwt hinv
        obtain ⟨x, rfl, hC, hU, _⟩ := hinv
        simp only [putsX, Act.put, List.setIfInBounds_toArray, List.set_cons_zero, List.set_cons_succ]
        obtain ⟨d0, d1, d2⟩ := cells3 (keep_block hC qX5 (lt_of_block qX5))
        go_wp2_with fail
        refine stepQ_normal ⟨trivial, upd x 2 (.agg #[.slice Xa0 Xn0 Xc0, .slice Xa1 Xn1 Xc1, .slice Xa2 Xn2 Xc2]), ?_, hC, hU.step (fun _ h => Option.some.inj h), trivial⟩
        simp only [upd]
        rfl
      case sR2_3 =>
        intro listed bb u hsz hn hwt hinv
        obtain ⟨x, rfl, hC, hU, _⟩ := hinv
        have f1 := Lib.hid (hU 1 _ rfl (hwt 1 (by kernel_rfl)))
        have f2 := Lib.hid (hU 2 _ rfl (hwt 2 (by kernel_rfl)))
        simp only [putsX, Act.put, List.setIfInBounds_toArray, List.set_cons_zero, List.set_cons_succ]
        have hcall : Calls Try.prog 26 #[x 1, x 2] u (Gives (.bool v) u) := by rw [f1.out, f2.out]; exact IMPL.out ea eb ec ed _ xx v HV.out u (arrK.read (arrK.ownBelow X5.out hC)) HFIT.out
        go_wp2_with fail
        refine hcall.mono ?_
        rintro e' u' ⟨rfl, hb⟩
        go_wp2_with fail
        refine stepQ_normal ⟨trivial, upd x 3 (.bool v), ?_, hC.trans (hb.mono hC.size), hU.step (fun _ h => Option.some.inj h), trivial⟩
        simp only [upd]
        rfl
      case sR2_4 =>
        intro listed bb u hsz hn hwt hinv
        obtain ⟨x, rfl, hC, hU, _⟩ := hinv
        have f3 := Lib.hid (hU 3 _ rfl (hwt 3 (by kernel_rfl)))
        simp only [putsX, Act.put, List.setIfInBounds_toArray, List.set_cons_zero, List.set_cons_succ]
        rw [f3.out]
        go_wp2_with fail
        refine stepQ_normal ⟨trivial, upd x 4 (.bool v), ?_, hC, hU.step (fun _ h => Option.some.inj h), trivial⟩
        simp only [upd]
        simp only [f3.out]
        (try rfl)
    case heR2 =>
      intro listed q w6 hall hC hU hS
      have fq3 := hU 3 _ rfl (hall 3 (by decide))
      have fq4 := hU 4 _ rfl (hall 4 (by decide))
      simp only [putsX, Act.put, List.setIfInBounds_toArray, List.set_cons_zero, List.set_cons_succ]
      rw [fq3, fq4]
      clear hall hU fq3 fq4 
      generalize q 0 = _q0, q 1 = _q1, q 2 = _q2
      have gg6 := keep_block hC gg5 (lt_of_block gg5)
      have mm6 := keep_block hC mm5 (lt_of_block mm5)
      have qX6 := keep_block hC qX5 (lt_of_block qX5)
      have X6 : Hid (arrK.own w6 SX [.slice Xa0 Xn0 Xc0, .slice Xa1 Xn1 Xc1, .slice Xa2 Xn2 Xc2] xx) := arrK.ownBelow X5.out hC
      have HB6 : Hid (Below w.heap.size w w6) := HB5.out.trans (hC.mono HB5.out.size)
      clear hC
      clear gg5 mm5 qX5 X5 HB5
      go_wp2_with fail
      refine wp_region_flowV (fun k => match k with | 0 => some (.agg #[.slice Xa0 Xn0 Xc0, .slice Xa1 Xn1 Xc1, .slice Xa2 Xn2 Xc2]) | 1 => some (.agg #[.slice a0 n0 c0, .slice a1 n1 c1, .slice a2 n2 c2]) | 3 => some (.bool true) | 4 => some (.bool false) | _ => none) (fun listed x u => FactW 2 3 (HasK arrK xx w6.heap.size) listed x u) (fun _ => undef) (by kernel_rfl) (by kernel_rfl) ?hxR3 ?hSR3 ?hsR3 ?heR3
      case hxR3 => simp only [putsX, Act.put, List.setIfInBounds_toArray, List.set_cons_zero, List.set_cons_succ]
      case hSR3 => exact FactW.zero _ _ _ _ _ _
      case hsR3 =>
        simp only [flowSteps]
        refine ⟨?sR3_0, ?sR3_1, ?sR3_2, ?sR3_3, ?sR3_4, trivial⟩
        case sR3_0 =>
          intro listed bb u hsz hn hwt hinv
          obtain ⟨x, rfl, hC, hU, hA0⟩ := hinv
          simp only [putsX, Act.put, List.setIfInBounds_toArray, List.set_cons_zero, List.set_cons_succ]
          obtain ⟨d0, d1, d2⟩ := cells3 (keep_block hC qX6 (lt_of_block qX6))
          go_wp2_with fail
          refine stepQ_normal ⟨trivial, upd x 0 (.agg #[.slice Xa0 Xn0 Xc0, .slice Xa1 Xn1 Xc1, .slice Xa2 Xn2 Xc2]), ?_, hC, hU.step (fun _ h => Option.some.inj h), hA0.keep (by decide) (by decide) _ id⟩
          simp only [upd]
          rfl
        case sR3_1 =>
          intro listed bb u hsz hn hwt hinv
          obtain ⟨x, rfl, hC, hU, hA0⟩ := hinv
          simp only [putsX, Act.put, List.setIfInBounds_toArray, List.set_cons_zero, List.set_cons_succ]
          obtain ⟨d0, d1, d2⟩ := cells3 (keep_block hC mm6 (lt_of_block mm6))
          go_wp2_with fail
          refine stepQ_normal ⟨trivial, upd x 1 (.agg #[.slice a0 n0 c0, .slice a1 n1 c1, .slice a2 n2 c2]), ?_, hC, hU.step (fun _ h => Option.some.inj h), hA0.keep (by decide) (by decide) _ id⟩
          simp only [upd]
          rfl
        case sR3_2 =>
          intro listed bb u hsz hn hwt hinv
          obtain ⟨x, rfl, hC, hU, hA0⟩ := hinv
          have f1 := Lib.hid (hU 1 _ rfl (hwt 1 (by kernel_rfl)))
          simp only [putsX, Act.put, List.setIfInBounds_toArray, List.set_cons_zero, List.set_cons_succ]
          have hbu := HB6.out.trans (hC.mono HB6.out.size)
          have hcall : Calls Try.prog 25 #[x 1] u (GivesS arrK xx u) := by rw [f1.out]; exact toArray_k (arrK.below HX0.out hbu) HFIT.out.1 HFIT.out.2.1 HFIT.out.2.2.1 HFIT.out.2.2.2
          go_wp2_with fail
          refine hcall.mono ?_
          rintro e' u' ⟨cs, SS, rfl, own, hss, hb⟩
          go_wp2_with fail
          refine stepQ_normal ⟨trivial, upd x 2 (.agg cs.toArray), ?_, hC.trans (hb.mono hC.size), hU.step (fun _ h => by cases h), FactW.new ⟨cs, SS, rfl, own, fun b h => Nat.le_trans hC.size (hss b h)⟩⟩
          simp only [upd]
          rfl
        case sR3_3 =>
          intro listed bb u hsz hn hwt hinv
          obtain ⟨x, rfl, hC, hU, hA0⟩ := hinv
          have f0 := Lib.hid (hU 0 _ rfl (hwt 0 (by kernel_rfl)))
          simp only [putsX, Act.put, List.setIfInBounds_toArray, List.set_cons_zero, List.set_cons_succ]
          obtain ⟨cs0, S0, fp0, ow0, _⟩ := hA0 (hwt 2 (by kernel_rfl)) hn
          have hcall : Calls Try.prog 27 #[x 0, x 2] u (Gives (.bool true) u) := by rw [f0.out, fp0]; exact eqArr_cs (arrK.read (arrK.ownBelow X6.out hC)) (arrK.read ow0)
          clear fp0
          go_wp2_with fail
          refine hcall.mono ?_
          rintro e' u' ⟨rfl, hb⟩
          go_wp2_with fail
          refine stepQ_normal ⟨trivial, upd x 3 (.bool true), ?_, hC.trans (hb.mono hC.size), hU.step (fun _ h => Option.some.inj h), FactW.call (by rw [hsz]; decide)⟩
          simp only [upd]
          rfl
        case sR3_4 =>
          intro listed bb u hsz hn hwt hinv
          obtain ⟨x, rfl, hC, hU, hA0⟩ := hinv
          have f3 := Lib.hid (hU 3 _ rfl (hwt 3 (by kernel_rfl)))
          simp only [putsX, Act.put, List.setIfInBounds_toArray, List.set_cons_zero, List.set_cons_succ]
          rw [f3.out]
          go_wp2_with fail
          refine stepQ_normal ⟨trivial, upd x 4 (.bool false), ?_, hC, hU.step (fun _ h => Option.some.inj h), hA0.keep (by decide) (by decide) _ id⟩
          simp only [upd]
          simp only [f3.out]
          (try rfl)
      case heR3 =>
        intro listed q w7 hall hC hU hS
        have hA0 := hS
        have fq3 := hU 3 _ rfl (hall 3 (by decide))
        have fq4 := hU 4 _ rfl (hall 4 (by decide))
        simp only [putsX, Act.put, List.setIfInBounds_toArray, List.set_cons_zero, List.set_cons_succ]
        rw [fq3, fq4]
        clear hall hU fq3 fq4 hA0
        generalize q 0 = _q0, q 1 = _q1, q 2 = _q2
        have gg7 := keep_block hC gg6 (lt_of_block gg6)
        have mm7 := keep_block hC mm6 (lt_of_block mm6)
        have qX7 := keep_block hC qX6 (lt_of_block qX6)
        have X7 : Hid (arrK.own w7 SX [.slice Xa0 Xn0 Xc0, .slice Xa1 Xn1 Xc1, .slice Xa2 Xn2 Xc2] xx) := arrK.ownBelow X6.out hC
        have HB7 : Hid (Below w.heap.size w w7) := HB6.out.trans (hC.mono HB6.out.size)
        clear hC
        clear gg6 mm6 qX6 X6 HB6
        go_wp2_with fail
        go_ret
        exact ⟨rfl, HB7.out⟩

set_option maxHeartbeats 16000000 in
set_option maxRecDepth 100000 in
theorem exRowDecayed_of (IMPL : Hid IRowDecayed) (ea eb ec ed : Int) (la lh : Int) (lx : List Value) (bk : Int) (rw : Int) (w : World) (s : Sh.Fits w (.and (.row (.and (.row (.num .i64)) (.and .flag .fin))) (.and (.row (.num .i64)) (.and (.row (.num .i64)) .fin))) lx) :
    Calls Try.prog 7 #[.agg #[.int .i64 ea, .int .i64 eb, .int .i64 ec, .int .i64 ed], .agg #[.int .i64 la, .int .i64 lh], .agg lx.toArray, .int .i64 bk, .int .i64 rw] w fun e w' => e = .returned (.bool true) ∧ Below w.heap.size w w' := by
  obtain ⟨xx, hx⟩ := arr_in s
  obtain ⟨a0, n0, c0, a1, n1, c1, a2, n2, c2, rfl, _, _, _⟩ := arr_rd hx
  have HX0 := Lib.hid hx
  obtain ⟨sv, hsv⟩ : ∃ v, szF 1048576 (arrN xx) = v := ⟨_, rfl⟩
  have HSV := Lib.hid hsv
  obtain ⟨v, hv⟩ : ∃ z, decide (decF ea eb ec ed la lh xx bk rw) = z := ⟨_, rfl⟩
  have HV := Lib.hid hv
  have tvv : (v != v) = false := by simp
  clear hv
  obtain ⟨w1, hw1⟩ : ∃ u, (((w.alloc (.cells #[.int .i64 ea, .int .i64 eb, .int .i64 ec, .int .i64 ed] 48)).alloc (.cells #[.int .i64 la, .int .i64 lh] 61)).alloc (.cells #[.slice a0 n0 c0, .slice a1 n1 c1, .slice a2 n2 c2] 51)) = u := ⟨_, rfl⟩
  obtain ⟨gg1, ll1, mm1, hb1⟩ := alloc3 hw1
  have HB1 : Hid (Below w.heap.size w w1) := hb1
  clear hb1
  clear hx hsv
  go_enter Try.func7, Try.ntmps7
  obtain ⟨kmm0, kmm1, kmm2⟩ := cells3 mm1
  go_wp2_with fail
  refine (szArray_k (arrK.below HX0.out HB1.out) 1048576 sv (by decide) (by decide) HSV.out).mono ?_
  rintro e w2 ⟨rfl, hb2⟩
  clear kmm0 kmm1 kmm2
  have gg2 := keep_block hb2 gg1 (lt_of_block gg1)
  have ll2 := keep_block hb2 ll1 (lt_of_block ll1)
  have mm2 := keep_block hb2 mm1 (lt_of_block mm1)
  have HB2 : Hid (Below w.heap.size w w2) := HB1.out.trans (hb2.mono HB1.out.size)
  clear gg1 ll1 mm1 HB1
  clear hb2
  clear hw1
  by_cases hs : sv < 0
  · have ts : decide (sv < 0) = true := decide_eq_true hs
    go_wp2_with fail
    go_ret
    exact ⟨rfl, HB2.out⟩
  have ts : decide (sv < 0) = false := decide_eq_false hs
  have hfit := arr_size (x := xx) (by rw [HSV.out]; exact hs)
  have HFIT := Lib.hid hfit.1
  have HCNT := Lib.hid hfit.2
  clear hs hfit
  go_wp2_with fail
  refine wp_region_flowV (fun k => match k with | 0 => some (.agg #[.int .i64 ea, .int .i64 eb, .int .i64 ec, .int .i64 ed]) | 1 => some (.agg #[.int .i64 ea, .int .i64 eb, .int .i64 ec, .int .i64 ed]) | 2 => some (.agg #[.int .i64 la, .int .i64 lh]) | 3 => some (.agg #[.int .i64 la, .int .i64 lh]) | 4 => some (.agg #[.slice a0 n0 c0, .slice a1 n1 c1, .slice a2 n2 c2]) | 6 => some (.int .i64 bk) | 7 => some (.int .i64 rw) | 8 => some (.bool v) | 9 => some (.bool v) | _ => none) (fun listed x u => FactW 5 8 (HasK arrK xx w2.heap.size) listed x u) (fun _ => undef) (by kernel_rfl) (by kernel_rfl) ?hxR1 ?hSR1 ?hsR1 ?heR1
  case hxR1 => simp only [putsX, Act.put, List.setIfInBounds_toArray, List.set_cons_zero, List.set_cons_succ]
  case hSR1 => exact FactW.zero _ _ _ _ _ _
  case hsR1 =>
    simp only [flowSteps]
    refine ⟨?sR1_0, ?sR1_1, ?sR1_2, ?sR1_3, ?sR1_4, ?sR1_5, ?sR1_6, ?sR1_7, ?sR1_8, ?sR1_9, trivial⟩
    case sR1_0 =>
      intro listed bb u hsz hn hwt hinv
      obtain ⟨x, rfl, hC, hU, hA0⟩ := hinv
      simp only [putsX, Act.put, List.setIfInBounds_toArray, List.set_cons_zero, List.set_cons_succ]
      obtain ⟨d0, d1, d2, d3⟩ := cells4 (keep_block hC gg2 (lt_of_block gg2))
      go_wp2_with fail
      refine stepQ_normal ⟨trivial, upd x 0 (.agg #[.int .i64 ea, .int .i64 eb, .int .i64 ec, .int .i64 ed]), ?_, hC, hU.step (fun _ h => Option.some.inj h), hA0.keep (by decide) (by decide) _ id⟩
      simp only [upd]
      rfl
    case sR1_1 =>
      intro listed bb u hsz hn hwt hinv
      obtain ⟨x, rfl, hC, hU, hA0⟩ := hinv
      have f0 := Lib.hid (hU 0 _ rfl (hwt 0 (by kernel_rfl)))
      simp only [putsX, Act.put, List.setIfInBounds_toArray, List.set_cons_zero, List.set_cons_succ]
      have hcall : Calls Try.prog 24 #[x 0] u (Gives (.agg #[.int .i64 ea, .int .i64 eb, .int .i64 ec, .int .i64 ed]) u) := by rw [f0.out]; exact toGeometry_any _ _ _ _ _
      go_wp2_with fail
      refine hcall.mono ?_
      rintro e' u' ⟨rfl, hb⟩
      go_wp2_with fail
      refine stepQ_normal ⟨trivial, upd x 1 (.agg #[.int .i64 ea, .int .i64 eb, .int .i64 ec, .int .i64 ed]), ?_, hC.trans (hb.mono hC.size), hU.step (fun _ h => Option.some.inj h), hA0.keep (by decide) (by decide) _ (fun h => HasK.below h (hb))⟩
      simp only [upd]
      rfl
    case sR1_2 =>
      intro listed bb u hsz hn hwt hinv
      obtain ⟨x, rfl, hC, hU, hA0⟩ := hinv
      simp only [putsX, Act.put, List.setIfInBounds_toArray, List.set_cons_zero, List.set_cons_succ]
      obtain ⟨d0, d1⟩ := cells2 (keep_block hC ll2 (lt_of_block ll2))
      go_wp2_with fail
      refine stepQ_normal ⟨trivial, upd x 2 (.agg #[.int .i64 la, .int .i64 lh]), ?_, hC, hU.step (fun _ h => Option.some.inj h), hA0.keep (by decide) (by decide) _ id⟩
      simp only [upd]
      rfl
    case sR1_3 =>
      intro listed bb u hsz hn hwt hinv
      obtain ⟨x, rfl, hC, hU, hA0⟩ := hinv
      have f2 := Lib.hid (hU 2 _ rfl (hwt 2 (by kernel_rfl)))
      simp only [putsX, Act.put, List.setIfInBounds_toArray, List.set_cons_zero, List.set_cons_succ]
      have hcall : Calls Try.prog 33 #[x 2] u (Gives (.agg #[.int .i64 la, .int .i64 lh]) u) := by rw [f2.out]; exact toLimits_any _ _ _
      go_wp2_with fail
      refine hcall.mono ?_
      rintro e' u' ⟨rfl, hb⟩
      go_wp2_with fail
      refine stepQ_normal ⟨trivial, upd x 3 (.agg #[.int .i64 la, .int .i64 lh]), ?_, hC.trans (hb.mono hC.size), hU.step (fun _ h => Option.some.inj h), hA0.keep (by decide) (by decide) _ (fun h => HasK.below h (hb))⟩
      simp only [upd]
      rfl
    case sR1_4 =>
      intro listed bb u hsz hn hwt hinv
      obtain ⟨x, rfl, hC, hU, hA0⟩ := hinv
      simp only [putsX, Act.put, List.setIfInBounds_toArray, List.set_cons_zero, List.set_cons_succ]
      obtain ⟨d0, d1, d2⟩ := cells3 (keep_block hC mm2 (lt_of_block mm2))
      go_wp2_with fail
      refine stepQ_normal ⟨trivial, upd x 4 (.agg #[.slice a0 n0 c0, .slice a1 n1 c1, .slice a2 n2 c2]), ?_, hC, hU.step (fun _ h => Option.some.inj h), hA0.keep (by decide) (by decide) _ id⟩
      simp only [upd]
      rfl
    case sR1_5 =>
      intro listed bb u hsz hn hwt hinv
      obtain ⟨x, rfl, hC, hU, hA0⟩ := hinv
      have f4 := Lib.hid (hU 4 _ rfl (hwt 4 (by kernel_rfl)))
      simp only [putsX, Act.put, List.setIfInBounds_toArray, List.set_cons_zero, List.set_cons_succ]
      have hbu := HB2.out.trans (hC.mono HB2.out.size)
      have hcall : Calls Try.prog 25 #[x 4] u (GivesS arrK xx u) := by rw [f4.out]; exact toArray_k (arrK.below HX0.out hbu) HFIT.out.1 HFIT.out.2.1 HFIT.out.2.2.1 HFIT.out.2.2.2
      go_wp2_with fail
      refine hcall.mono ?_
      rintro e' u' ⟨cs, SS, rfl, own, hss, hb⟩
      go_wp2_with fail
      refine stepQ_normal ⟨trivial, upd x 5 (.agg cs.toArray), ?_, hC.trans (hb.mono hC.size), hU.step (fun _ h => by cases h), FactW.new ⟨cs, SS, rfl, own, fun b h => Nat.le_trans hC.size (hss b h)⟩⟩
      simp only [upd]
      rfl
    case sR1_6 =>
      intro listed bb u hsz hn hwt hinv
      obtain ⟨x, rfl, hC, hU, hA0⟩ := hinv
      simp only [putsX, Act.put, List.setIfInBounds_toArray, List.set_cons_zero, List.set_cons_succ]
      go_wp2_with fail
      refine stepQ_normal ⟨trivial, upd x 6 (.int .i64 bk), ?_, hC, hU.step (fun _ h => Option.some.inj h), hA0.keep (by decide) (by decide) _ id⟩
      simp only [upd]
      rfl
    case sR1_7 =>
      intro listed bb u hsz hn hwt hinv
      obtain ⟨x, rfl, hC, hU, hA0⟩ := hinv
      simp only [putsX, Act.put, List.setIfInBounds_toArray, List.set_cons_zero, List.set_cons_succ]
      go_wp2_with fail
      refine stepQ_normal ⟨trivial, upd x 7 (.int .i64 rw), ?_, hC, hU.step (fun _ h => Option.some.inj h), hA0.keep (by decide) (by decide) _ id⟩
      simp only [upd]
      rfl
    case sR1_8 =>
      intro listed bb u hsz hn hwt hinv
      obtain ⟨x, rfl, hC, hU, hA0⟩ := hinv
      have f1 := Lib.hid (hU 1 _ rfl (hwt 1 (by kernel_rfl)))
      have f3 := Lib.hid (hU 3 _ rfl (hwt 3 (by kernel_rfl)))
      have f6 := Lib.hid (hU 6 _ rfl (hwt 6 (by kernel_rfl)))
      have f7 := Lib.hid (hU 7 _ rfl (hwt 7 (by kernel_rfl)))
      simp only [putsX, Act.put, List.setIfInBounds_toArray, List.set_cons_zero, List.set_cons_succ]
      obtain ⟨cs0, S0, fp0, ow0, _⟩ := hA0 (hwt 5 (by kernel_rfl)) hn
      have hcall : Calls Try.prog 32 #[x 1, x 3, x 5, x 6, x 7] u (Gives (.bool v) u) := by rw [f1.out, f3.out, fp0, f6.out, f7.out]; exact specDecayed_is ea eb ec ed la lh bk rw (arrK.read ow0) v HV.out
      clear fp0
      go_wp2_with fail
      refine hcall.mono ?_
      rintro e' u' ⟨rfl, hb⟩
      go_wp2_with fail
      refine stepQ_normal ⟨trivial, upd x 8 (.bool v), ?_, hC.trans (hb.mono hC.size), hU.step (fun _ h => Option.some.inj h), FactW.call (by rw [hsz]; decide)⟩
      simp only [upd]
      rfl
    case sR1_9 =>
      intro listed bb u hsz hn hwt hinv
      obtain ⟨x, rfl, hC, hU, hA0⟩ := hinv
      have f8 := Lib.hid (hU 8 _ rfl (hwt 8 (by kernel_rfl)))
      simp only [putsX, Act.put, List.setIfInBounds_toArray, List.set_cons_zero, List.set_cons_succ]
      rw [f8.out]
      go_wp2_with fail
      refine stepQ_normal ⟨trivial, upd x 9 (.bool v), ?_, hC, hU.step (fun _ h => Option.some.inj h), hA0.keep (by decide) (by decide) _ id⟩
      simp only [upd]
      simp only [f8.out]
      (try rfl)
  case heR1 =>
    intro listed q w3 hall hC hU hS
    have hA0 := hS
    have fq8 := hU 8 _ rfl (hall 8 (by decide))
    have fq9 := hU 9 _ rfl (hall 9 (by decide))
    simp only [putsX, Act.put, List.setIfInBounds_toArray, List.set_cons_zero, List.set_cons_succ]
    rw [fq8, fq9]
    clear hall hU fq8 fq9 hA0
    generalize q 0 = _q0, q 1 = _q1, q 2 = _q2, q 3 = _q3, q 4 = _q4, q 5 = _q5, q 6 = _q6, q 7 = _q7
    have gg3 := keep_block hC gg2 (lt_of_block gg2)
    have ll3 := keep_block hC ll2 (lt_of_block ll2)
    have mm3 := keep_block hC mm2 (lt_of_block mm2)
    have HB3 : Hid (Below w.heap.size w w3) := HB2.out.trans (hC.mono HB2.out.size)
    clear hC
    clear gg2 ll2 mm2 HB2
    obtain ⟨kmm0, kmm1, kmm2⟩ := cells3 mm3
    go_wp2_with fail
    refine (toArray_k (arrK.below HX0.out HB3.out) HFIT.out.1 HFIT.out.2.1 HFIT.out.2.2.1 HFIT.out.2.2.2).mono ?_
    rintro e w4 ⟨cs, SX, rfl, own4, hs4, hb4⟩
    clear kmm0 kmm1 kmm2
    have gg4 := keep_block hb4 gg3 (lt_of_block gg3)
    have ll4 := keep_block hb4 ll3 (lt_of_block ll3)
    have mm4 := keep_block hb4 mm3 (lt_of_block mm3)
    have HB4 : Hid (Below w.heap.size w w4) := HB3.out.trans (hb4.mono HB3.out.size)
    have BX : Hid (∀ b ∈ SX, w3.heap.size ≤ b) := hs4
    clear hs4
    obtain ⟨Xa0, Xn0, Xc0, Xa1, Xn1, Xc1, Xa2, Xn2, Xc2, rfl, _, _, _⟩ := arr_rd (arrK.read own4)
    have X4 : Hid (arrK.own w4 SX [.slice Xa0 Xn0 Xc0, .slice Xa1 Xn1 Xc1, .slice Xa2 Xn2 Xc2] xx) := own4
    have NXgg : Hid (w.heap.size ∉ SX) := fun h => by have h1 := lt_of_block gg3; have h2 := BX.out _ h; omega
    have NXll : Hid ((w.heap.size + 1) ∉ SX) := fun h => by have h1 := lt_of_block ll3; have h2 := BX.out _ h; omega
    have NXmm : Hid ((w.heap.size + 1 + 1) ∉ SX) := fun h => by have h1 := lt_of_block mm3; have h2 := BX.out _ h; omega
    clear own4 hb4
    clear gg3 ll3 mm3 HB3
    obtain ⟨PX, hPX⟩ : ∃ P, w4.heap.size = P := ⟨_, rfl⟩
    have NXqX : Hid (PX ∉ SX) := fun h => by have h1 := arrK.lt X4.out _ h; omega
    have HPX := Lib.hid hPX
    clear hPX
    have hb5 : Below w4.heap.size w4 (w4.alloc (.cells #[.slice Xa0 Xn0 Xc0, .slice Xa1 Xn1 Xc1, .slice Xa2 Xn2 Xc2] 31)) := (Below.refl _ _).alloc (Nat.le_refl _) _
    have gg5 := keep_block hb5 gg4 (lt_of_block gg4)
    have ll5 := keep_block hb5 ll4 (lt_of_block ll4)
    have mm5 := keep_block hb5 mm4 (lt_of_block mm4)
    have X5 : Hid (arrK.own (w4.alloc (.cells #[.slice Xa0 Xn0 Xc0, .slice Xa1 Xn1 Xc1, .slice Xa2 Xn2 Xc2] 31)) SX [.slice Xa0 Xn0 Xc0, .slice Xa1 Xn1 Xc1, .slice Xa2 Xn2 Xc2] xx) := arrK.ownBelow X4.out hb5
    have qX5 := heap_alloc_new w4 (.cells #[.slice Xa0 Xn0 Xc0, .slice Xa1 Xn1 Xc1, .slice Xa2 Xn2 Xc2] 31)
    have HB5 : Hid (Below w.heap.size w (w4.alloc (.cells #[.slice Xa0 Xn0 Xc0, .slice Xa1 Xn1 Xc1, .slice Xa2 Xn2 Xc2] 31))) := HB4.out.trans (hb5.mono HB4.out.size)
    go_wp2_with fail
    clear hb5
    clear gg4 ll4 mm4 X4 HB4
    generalize (w4.alloc (.cells #[.slice Xa0 Xn0 Xc0, .slice Xa1 Xn1 Xc1, .slice Xa2 Xn2 Xc2] 31)) = w5 at gg5 ll5 mm5 X5 qX5 HB5 ⊢
    rw [HPX.out] at qX5
    (try simp only [HPX.out])
    clear HPX
    go_wp2_with fail
    refine wp_region_flowV (fun k => match k with | 0 => some (.agg #[.int .i64 ea, .int .i64 eb, .int .i64 ec, .int .i64 ed]) | 1 => some (.agg #[.int .i64 ea, .int .i64 eb, .int .i64 ec, .int .i64 ed]) | 2 => some (.agg #[.int .i64 la, .int .i64 lh]) | 3 => some (.agg #[.int .i64 la, .int .i64 lh]) | 4 => some (.agg #[.slice Xa0 Xn0 Xc0, .slice Xa1 Xn1 Xc1, .slice Xa2 Xn2 Xc2]) | 5 => some (.int .i64 bk) | 6 => some (.int .i64 rw) | 7 => some (.bool v) | 8 => some (.bool v) | _ => none) (fun listed x u => True) (fun _ => undef) (by kernel_rfl) (by kernel_rfl) ?hxR2 ?hSR2 ?hsR2 ?heR2
    case hxR2 => simp only [putsX, Act.put, List.setIfInBounds_toArray, List.set_cons_zero, List.set_cons_succ]
    case hSR2 => exact trivial
    case hsR2 =>
      simp only [flowSteps]
      refine ⟨?sR2_0, ?sR2_1, ?sR2_2, ?sR2_3, ?sR2_4, ?sR2_5, ?sR2_6, ?sR2_7, ?sR2_8, trivial⟩
      case sR2_0 =>
        intro listed bb u hsz hn hwt hinv
        obtain ⟨x, rfl, hC, hU, _⟩ := hinv
        simp only [putsX, Act.put, List.setIfInBounds_toArray, List.set_cons_zero, List.set_cons_succ]
        obtain ⟨d0, d1, d2, d3⟩ := cells4 (keep_block hC gg5 (lt_of_block gg5))
        go_wp2_with fail
        refine stepQ_normal ⟨trivial, upd x 0 (.agg #[.int .i64 ea, .int .i64 eb, .int .i64 ec, .int .i64 ed]), ?_, hC, hU.step (fun _ h => Option.some.inj h), trivial⟩
        simp only [upd]
        rfl
      case sR2_1 =>
        intro listed bb u hsz hn hwt hinv
        obtain ⟨x, rfl, hC, hU, _⟩ := hinv
        have f0 := Lib.hid (hU 0 _ rfl (hwt 0 (by kernel_rfl)))
        simp only [putsX, Act.put, List.setIfInBounds_toArray, List.set_cons_zero, List.set_cons_succ]
        have hcall : Calls Try.prog 24 #[x 0] u (Gives (.agg #[.int .i64 ea, .int .i64 eb, .int .i64 ec, .int .i64 ed]) u) := by rw [f0.out]; exact toGeometry_any _ _ _ _ _
        go_wp2_with fail
        refine hcall.mono ?_
        rintro e' u' ⟨rfl, hb⟩
        go_wp2_with fail
        refine stepQ_normal ⟨trivial, upd x 1 (.agg #[.int .i64 ea, .int .i64 eb, .int .i64 ec, .int .i64 ed]), ?_, hC.trans (hb.mono hC.size), hU.step (fun _ h => Option.some.inj h), trivial⟩
        simp only [upd]
        rfl
      case sR2_2 =>
        intro listed bb u hsz hn hwt hinv
        obtain ⟨x, rfl, hC, hU, _⟩ := hinv
        simp only [putsX, Act.put, List.setIfInBounds_toArray, List.set_cons_zero, List.set_cons_succ]
        obtain ⟨d0, d1⟩ := cells2 (keep_block hC ll5 (lt_of_block ll5))
        go_wp2_with fail
        refine stepQ_normal ⟨trivial, upd x 2 (.agg #[.int .i64 la, .int .i64 lh]), ?_, hC, hU.step (fun _ h => Option.some.inj h), trivial⟩
        simp only [upd]
        rfl
      case sR2_3 =>
        intro listed bb u hsz hn hwt hinv
        obtain ⟨x, rfl, hC, hU, _⟩ := hinv
        have f2 := Lib.hid (hU 2 _ rfl (hwt 2 (by kernel_rfl)))
        simp only [putsX, Act.put, List.setIfInBounds_toArray, List.set_cons_zero, List.set_cons_succ]
        have hcall : Calls Try.prog 33 #[x 2] u (Gives (.agg #[.int .i64 la, .int .i64 lh]) u) := by rw [f2.out]; exact toLimits_any _ _ _
        go_wp2_with fail
        refine hcall.mono ?_
        rintro e' u' ⟨rfl, hb⟩
        go_wp2_with fail
        refine stepQ_normal ⟨trivial, upd x 3 (.agg #[.int .i64 la, .int .i64 lh]), ?_, hC.trans (hb.mono hC.size), hU.step (fun _ h => Option.some.inj h), trivial⟩
        simp only [upd]
        rfl
      case sR2_4 =>
        intro listed bb u hsz hn hwt hinv
        obtain ⟨x, rfl, hC, hU, _⟩ := hinv
        simp only [putsX, Act.put, List.setIfInBounds_toArray, List.set_cons_zero, List.set_cons_succ]
        obtain ⟨d0, d1, d2⟩ := cells3 (keep_block hC qX5 (lt_of_block qX5))
        go_wp2_with fail
        refine stepQ_normal ⟨trivial, upd x 4 (.agg #[.slice Xa0 Xn0 Xc0, .slice Xa1 Xn1 Xc1, .slice Xa2 Xn2 Xc2]), ?_, hC, hU.step (fun _ h => Option.some.inj h), trivial⟩
        simp only [upd]
        rfl
      case sR2_5 =>
        intro listed bb u hsz hn hwt hinv
        obtain ⟨x, rfl, hC, hU, _⟩ := hinv
        simp only [putsX, Act.put, List.setIfInBounds_toArray, List.set_cons_zero, List.set_cons_succ]
        go_wp2_with fail
        refine stepQ_normal ⟨trivial, upd x 5 (.int .i64 bk), ?_, hC, hU.step (fun _ h => Option.some.inj h), trivial⟩
        simp only [upd]
        rfl
      case sR2_6 =>
        intro listed bb u hsz hn hwt hinv
        obtain ⟨x, rfl, hC, hU, _⟩ := hinv
        simp only [putsX, Act.put, List.setIfInBounds_toArray, List.set_cons_zero, List.set_cons_succ]
        go_wp2_with fail
        refine stepQ_normal ⟨trivial, upd x 6 (.int .i64 rw), ?_, hC, hU.step (fun _ h => Option.some.inj h), trivial⟩
        simp only [upd]
        rfl
      case sR2_7 =>
        intro listed bb u hsz hn hwt hinv
        obtain ⟨x, rfl, hC, hU, _⟩ := hinv
        have f1 := Lib.hid (hU 1 _ rfl (hwt 1 (by kernel_rfl)))
        have f3 := Lib.hid (hU 3 _ rfl (hwt 3 (by kernel_rfl)))
        have f4 := Lib.hid (hU 4 _ rfl (hwt 4 (by kernel_rfl)))
        have f5 := Lib.hid (hU 5 _ rfl (hwt 5 (by kernel_rfl)))
        have f6 := Lib.hid (hU 6 _ rfl (hwt 6 (by kernel_rfl)))
        simp only [putsX, Act.put, List.setIfInBounds_toArray, List.set_cons_zero, List.set_cons_succ]
        have hcall : Calls Try.prog 34 #[x 1, x 3, x 4, x 5, x 6] u (Gives (.bool v) u) := by rw [f1.out, f3.out, f4.out, f5.out, f6.out]; exact IMPL.out ea eb ec ed la lh bk rw _ xx v HV.out u (arrK.read (arrK.ownBelow X5.out hC)) HFIT.out
        go_wp2_with fail
        refine hcall.mono ?_
        rintro e' u' ⟨rfl, hb⟩
        go_wp2_with fail
        refine stepQ_normal ⟨trivial, upd x 7 (.bool v), ?_, hC.trans (hb.mono hC.size), hU.step (fun _ h => Option.some.inj h), trivial⟩
        simp only [upd]
        rfl
      case sR2_8 =>
        intro listed bb u hsz hn hwt hinv
        obtain ⟨x, rfl, hC, hU, _⟩ := hinv
        have f7 := Lib.hid (hU 7 _ rfl (hwt 7 (by kernel_rfl)))
        simp only [putsX, Act.put, List.setIfInBounds_toArray, List.set_cons_zero, List.set_cons_succ]
        rw [f7.out]
        go_wp2_with fail
        refine stepQ_normal ⟨trivial, upd x 8 (.bool v), ?_, hC, hU.step (fun _ h => Option.some.inj h), trivial⟩
        simp only [upd]
        simp only [f7.out]
        (try rfl)
    case heR2 =>
      intro listed q w6 hall hC hU hS
      have fq7 := hU 7 _ rfl (hall 7 (by decide))
      have fq8 := hU 8 _ rfl (hall 8 (by decide))
      simp only [putsX, Act.put, List.setIfInBounds_toArray, List.set_cons_zero, List.set_cons_succ]
      rw [fq7, fq8]
      clear hall hU fq7 fq8 
      generalize q 0 = _q0, q 1 = _q1, q 2 = _q2, q 3 = _q3, q 4 = _q4, q 5 = _q5, q 6 = _q6
      have gg6 := keep_block hC gg5 (lt_of_block gg5)
      have ll6 := keep_block hC ll5 (lt_of_block ll5)
      have mm6 := keep_block hC mm5 (lt_of_block mm5)
      have qX6 := keep_block hC qX5 (lt_of_block qX5)
      have X6 : Hid (arrK.own w6 SX [.slice Xa0 Xn0 Xc0, .slice Xa1 Xn1 Xc1, .slice Xa2 Xn2 Xc2] xx) := arrK.ownBelow X5.out hC
      have HB6 : Hid (Below w.heap.size w w6) := HB5.out.trans (hC.mono HB5.out.size)
      clear hC
      clear gg5 ll5 mm5 qX5 X5 HB5
      go_wp2_with fail
      refine wp_region_flowV (fun k => match k with | 0 => some (.agg #[.slice Xa0 Xn0 Xc0, .slice Xa1 Xn1 Xc1, .slice Xa2 Xn2 Xc2]) | 1 => some (.agg #[.slice a0 n0 c0, .slice a1 n1 c1, .slice a2 n2 c2]) | 3 => some (.bool true) | 4 => some (.bool false) | _ => none) (fun listed x u => FactW 2 3 (HasK arrK xx w6.heap.size) listed x u) (fun _ => undef) (by kernel_rfl) (by kernel_rfl) ?hxR3 ?hSR3 ?hsR3 ?heR3
      case hxR3 => simp only [putsX, Act.put, List.setIfInBounds_toArray, List.set_cons_zero, List.set_cons_succ]
      case hSR3 => exact FactW.zero _ _ _ _ _ _
      case hsR3 =>
        simp only [flowSteps]
        refine ⟨?sR3_0, ?sR3_1, ?sR3_2, ?sR3_3, ?sR3_4, trivial⟩
        case sR3_0 =>
          intro listed bb u hsz hn hwt hinv
          obtain ⟨x, rfl, hC, hU, hA0⟩ := hinv
          simp only [putsX, Act.put, List.setIfInBounds_toArray, List.set_cons_zero, List.set_cons_succ]
          obtain ⟨d0, d1, d2⟩ := cells3 (keep_block hC qX6 (lt_of_block qX6))
          go_wp2_with fail
          refine stepQ_normal ⟨trivial, upd x 0 (.agg #[.slice Xa0 Xn0 Xc0, .slice Xa1 Xn1 Xc1, .slice Xa2 Xn2 Xc2]), ?_, hC, hU.step (fun _ h => Option.some.inj h), hA0.keep (by decide) (by decide) _ id⟩
          simp only [upd]
          rfl
        case sR3_1 =>
          intro listed bb u hsz hn hwt hinv
          obtain ⟨x, rfl, hC, hU, hA0⟩ := hinv
          simp only [putsX, Act.put, List.setIfInBounds_toArray, List.set_cons_zero, List.set_cons_succ]
          obtain ⟨d0, d1, d2⟩ := cells3 (keep_block hC mm6 (lt_of_block mm6))
          go_wp2_with fail
          refine stepQ_normal ⟨trivial, upd x 1 (.agg #[.slice a0 n0 c0, .slice a1 n1 c1, .slice a2 n2 c2]), ?_, hC, hU.step (fun _ h => Option.some.inj h), hA0.keep (by decide) (by decide) _ id⟩
          simp only [upd]
          rfl
        case sR3_2 =>
          intro listed bb u hsz hn hwt hinv
          obtain ⟨x, rfl, hC, hU, hA0⟩ := hinv
          have f1 := Lib.hid (hU 1 _ rfl (hwt 1 (by kernel_rfl)))
          simp only [putsX, Act.put, List.setIfInBounds_toArray, List.set_cons_zero, List.set_cons_succ]
          have hbu := HB6.out.trans (hC.mono HB6.out.size)
          have hcall : Calls Try.prog 25 #[x 1] u (GivesS arrK xx u) := by rw [f1.out]; exact toArray_k (arrK.below HX0.out hbu) HFIT.out.1 HFIT.out.2.1 HFIT.out.2.2.1 HFIT.out.2.2.2
          go_wp2_with fail
          refine hcall.mono ?_
          rintro e' u' ⟨cs, SS, rfl, own, hss, hb⟩
          go_wp2_with fail
          refine stepQ_normal ⟨trivial, upd x 2 (.agg cs.toArray), ?_, hC.trans (hb.mono hC.size), hU.step (fun _ h => by cases h), FactW.new ⟨cs, SS, rfl, own, fun b h => Nat.le_trans hC.size (hss b h)⟩⟩
          simp only [upd]
          rfl
        case sR3_3 =>
          intro listed bb u hsz hn hwt hinv
          obtain ⟨x, rfl, hC, hU, hA0⟩ := hinv
          have f0 := Lib.hid (hU 0 _ rfl (hwt 0 (by kernel_rfl)))
          simp only [putsX, Act.put, List.setIfInBounds_toArray, List.set_cons_zero, List.set_cons_succ]
          obtain ⟨cs0, S0, fp0, ow0, _⟩ := hA0 (hwt 2 (by kernel_rfl)) hn
          have hcall : Calls Try.prog 27 #[x 0, x 2] u (Gives (.bool true) u) := by rw [f0.out, fp0]; exact eqArr_cs (arrK.read (arrK.ownBelow X6.out hC)) (arrK.read ow0)
          clear fp0
          go_wp2_with fail
          refine hcall.mono ?_
          rintro e' u' ⟨rfl, hb⟩
          go_wp2_with fail
          refine stepQ_normal ⟨trivial, upd x 3 (.bool true), ?_, hC.trans (hb.mono hC.size), hU.step (fun _ h => Option.some.inj h), FactW.call (by rw [hsz]; decide)⟩
          simp only [upd]
          rfl
        case sR3_4 =>
          intro listed bb u hsz hn hwt hinv
          obtain ⟨x, rfl, hC, hU, hA0⟩ := hinv
          have f3 := Lib.hid (hU 3 _ rfl (hwt 3 (by kernel_rfl)))
          simp only [putsX, Act.put, List.setIfInBounds_toArray, List.set_cons_zero, List.set_cons_succ]
          rw [f3.out]
          go_wp2_with fail
          refine stepQ_normal ⟨trivial, upd x 4 (.bool false), ?_, hC, hU.step (fun _ h => Option.some.inj h), hA0.keep (by decide) (by decide) _ id⟩
          simp only [upd]
          simp only [f3.out]
          (try rfl)
      case heR3 =>
        intro listed q w7 hall hC hU hS
        have hA0 := hS
        have fq3 := hU 3 _ rfl (hall 3 (by decide))
        have fq4 := hU 4 _ rfl (hall 4 (by decide))
        simp only [putsX, Act.put, List.setIfInBounds_toArray, List.set_cons_zero, List.set_cons_succ]
        rw [fq3, fq4]
        clear hall hU fq3 fq4 hA0
        generalize q 0 = _q0, q 1 = _q1, q 2 = _q2
        have gg7 := keep_block hC gg6 (lt_of_block gg6)
        have ll7 := keep_block hC ll6 (lt_of_block ll6)
        have mm7 := keep_block hC mm6 (lt_of_block mm6)
        have qX7 := keep_block hC qX6 (lt_of_block qX6)
        have X7 : Hid (arrK.own w7 SX [.slice Xa0 Xn0 Xc0, .slice Xa1 Xn1 Xc1, .slice Xa2 Xn2 Xc2] xx) := arrK.ownBelow X6.out hC
        have HB7 : Hid (Below w.heap.size w w7) := HB6.out.trans (hC.mono HB6.out.size)
        clear hC
        clear gg6 ll6 mm6 qX6 X6 HB6
        go_wp2_with fail
        go_ret
        exact ⟨rfl, HB7.out⟩

end Go.Proofs.Ytfpfgaifhmgpiaa

namespace Go.Proofs.Ytfpfgaifhmgpiaa
open Go.RowKit

set_option linter.unusedVariables false

theorem exArrayOk_walk (ea eb ec ed : Int) (lx : List Value) (w : World) (_ : (Lit.int .i64 ea).wf = true) (_ : (Lit.int .i64 eb).wf = true) (_ : (Lit.int .i64 ec).wf = true) (_ : (Lit.int .i64 ed).wf = true) (s : Sh.Fits w (.and (.row (.and (.row (.num .i64)) (.and .flag .fin))) (.and (.row (.num .i64)) (.and (.row (.num .i64)) .fin))) lx) :
    Calls Try.prog 5 #[.agg #[.int .i64 ea, .int .i64 eb, .int .i64 ec, .int .i64 ed], .agg lx.toArray] w fun e w' => e = .returned (.bool true) ∧ Below w.heap.size w w' := exArrayOk_of (Lib.hid implArrayOk_is) ea eb ec ed lx w s

end Go.Proofs.Ytfpfgaifhmgpiaa

namespace Go.Proofs.Ytfpfgaifhmgpiaa
open Go.RowKit Go.PlainAid

set_option linter.unusedVariables false

def ptrV (q : Nat) : Value := .pointer (some ⟨q, 0, none⟩)

theorem infoP : (Try.prog.info? 102).map (fun i => (i.zero, i.size, i.bytes)) = some (some (.pointer none), 1, 8) := by kernel_rfl

theorem ownsRow_same {w w' : World} {B n K : Nat} {T : TypeId} {v : Value} {xs : List Value} (h : w.ownsRow B T K v n xs) (hs : ∀ g, v.ownBlock = some g → w'.heap[g]? = w.heap[g]?) : w'.ownsRow B T K v n xs := by
  refine ⟨h.1, ?_⟩
  rcases h.2 with hv | ⟨b, cap, cur, hv, hB, hh, r⟩
  · exact .inl hv
  · exact .inr ⟨b, cap, cur, hv, hB, by rw [hs b (by rw [hv]; rfl)]; exact hh, r⟩

/-- A block of another type is no block of a row. -/
theorem ownsRow_ne {w : World} {B n K g : Nat} {T T' : TypeId} {v : Value} {xs : List Value} {vs : Array Value} (h : w.ownsRow B T K v n xs) (hg : w.heap[g]? = some (.cells vs T' (0, 0))) (hT : T' ≠ T) : v.ownBlock ≠ some g := by
  intro e
  rcases h.2 with ⟨hv, _⟩ | ⟨b, cap, cur, hv, hB, hh, r⟩
  · rw [hv] at e; cases e
  · rw [hv] at e
    have e2 : b = g := Option.some.inj e
    subst e2
    rw [hg] at hh
    injection hh with hh
    injection hh with _ e3
    exact hT e3

/-- The neighbours of a row, of which the first j are linked. -/
def nbrs (q : Nat → Nat) (j i : Nat) : List Value := (if 0 < i ∧ i < j then [ptrV (q (i - 1))] else []) ++ (if i + 1 < j then [ptrV (q (i + 1))] else [])

theorem nbrs_length (q : Nat → Nat) (j i : Nat) : (nbrs q j i).length ≤ 2 := by
  unfold nbrs
  rw [List.length_append]
  split <;> split <;> simp

theorem nbrs_cong {q q' : Nat → Nat} {j i : Nat} (h : ∀ l, l < j → q l = q' l) (hi : i ≤ j) : nbrs q j i = nbrs q' j i := by
  unfold nbrs
  by_cases h0 : 0 < i ∧ i < j
  · rw [if_pos h0, if_pos h0, h (i - 1) (by omega)]
    by_cases h1 : i + 1 < j
    · rw [if_pos h1, if_pos h1, h _ h1]
    · rw [if_neg h1, if_neg h1]
  · rw [if_neg h0, if_neg h0]
    by_cases h1 : i + 1 < j
    · rw [if_pos h1, if_pos h1, h _ h1]
    · rw [if_neg h1, if_neg h1]

def upf {α : Type} (f : Nat → α) (k : Nat) (x : α) : Nat → α := fun i => if i = k then x else f i

theorem upf_same {α : Type} (f : Nat → α) (k : Nat) (x : α) : upf f k x k = x := if_pos rfl

theorem upf_ne {α : Type} (f : Nat → α) {k i : Nat} (x : α) (h : i ≠ k) : upf f k x i = f i := if_neg h

def rowsL (m k : Nat) (q : Nat → Nat) : List Value := (List.range m).map fun i => if i < k then ptrV (q i) else .pointer none

theorem rowsL_length (m k : Nat) (q : Nat → Nat) : (rowsL m k q).length = m := by simp [rowsL]

theorem rowsL_get {m k i : Nat} (q : Nat → Nat) (hi : i < m) : (rowsL m k q)[i]? = some (if i < k then ptrV (q i) else .pointer none) := by
  unfold rowsL
  rw [List.getElem?_map, List.getElem?_range hi]
  rfl

theorem rowsL_set {m k : Nat} (q : Nat → Nat) (g : Nat) (hk : k < m) : (rowsL m k q).set k (ptrV g) = rowsL m (k + 1) (upf q k g) := by
  apply List.ext_getElem?
  intro i
  by_cases hi : i < m
  · rw [rowsL_get _ hi]
    by_cases hik : k = i
    · subst hik
      rw [List.getElem?_set_self (by rw [rowsL_length]; exact hi), if_pos (by omega), upf_same]
    · rw [List.getElem?_set_ne hik, rowsL_get _ hi]
      by_cases h1 : i < k
      · rw [if_pos h1, if_pos (by omega), upf_ne _ _ (fun e => hik e.symm)]
      · rw [if_neg h1, if_neg (by omega)]
  · rw [List.getElem?_eq_none (by rw [List.length_set, rowsL_length]; omega), List.getElem?_eq_none (by rw [rowsL_length]; omega)]

/-- The first k rows of a bank have been made, the first j of them linked. -/
structure RowsT (w : World) (B m : Nat) (F : Nat → Value → Array Value) (R k j : Nat) (q : Nat → Nat) (v : Nat → Value) : Prop where
  rb : w.ownsRow B 102 1 (.slice (some ⟨R, 0, none⟩) m m) m (rowsL m k q)
  qb : ∀ i, i < k → B ≤ q i ∧ w.heap[q i]? = some (.cells (F i (v i)) 124 (0, 0))
  vb : ∀ i, i < k → w.ownsRow B 102 1 (v i) (nbrs q j i).length (nbrs q j i)
  vv : ∀ i l, i < k → l < k → i ≠ l → ∀ g, (v i).ownBlock = some g → (v l).ownBlock ≠ some g
  vR : ∀ i, i < k → (v i).ownBlock ≠ some R
  qq : ∀ i l, i < k → l < k → i ≠ l → q i ≠ q l

theorem RowsT.same {w w' : World} {B m R k j : Nat} {F : Nat → Value → Array Value} {q : Nat → Nat} {v : Nat → Value} (h : RowsT w B m F R k j q v) (hs : ∀ g, B ≤ g → g < w.heap.size → w'.heap[g]? = w.heap[g]?) : RowsT w' B m F R k j q v := by
  have hr : ∀ {v : Value} {n : Nat} {xs : List Value}, w.ownsRow B 102 1 v n xs → w'.ownsRow B 102 1 v n xs := fun ho => ownsRow_same ho (fun g hg => by have := World.ownsRow.lt ho g hg; exact hs g this.1 this.2)
  exact ⟨hr h.rb, fun i hi => ⟨(h.qb i hi).1, (hs _ (h.qb i hi).1 (lt_of_block (h.qb i hi).2)).trans (h.qb i hi).2⟩, fun i hi => hr (h.vb i hi), h.vv, h.vR, h.qq⟩

theorem RowsT.below {w w' : World} {B m R k j : Nat} {F : Nat → Value → Array Value} {q : Nat → Nat} {v : Nat → Value} (h : RowsT w B m F R k j q v) (hb : Below w.heap.size w w') : RowsT w' B m F R k j q v :=
  h.same (fun g _ hg => hb.block g hg)

theorem RowsT.keep {w w' : World} {B m R k j : Nat} {F : Nat → Value → Array Value} {q : Nat → Nat} {v : Nat → Value} (h : RowsT w B m F R k j q v) {S : List Nat} (ho : OnlyS S w w') (hS : ∀ b ∈ S, b < B) : RowsT w' B m F R k j q v :=
  h.same (fun g hB hg => ho.block g hg (fun hm => by have := hS g hm; omega))

theorem RowsT.start {w : World} {B m R : Nat} {F : Nat → Value → Array Value} (h : w.ownsRow B 102 1 (.slice (some ⟨R, 0, none⟩) m m) m (madeCells #[.pointer none] m).toList) (q : Nat → Nat) (v : Nat → Value) : RowsT w B m F R 0 0 q v := by
  refine ⟨?_, fun i hi => absurd hi (Nat.not_lt_zero _), fun i hi => absurd hi (Nat.not_lt_zero _), fun i l hi => absurd hi (Nat.not_lt_zero _), fun i hi => absurd hi (Nat.not_lt_zero _), fun i l hi => absurd hi (Nat.not_lt_zero _)⟩
  have e : (madeCells #[.pointer none] m).toList = rowsL m 0 q := by
    have h1 := made_flat [.pointer none] 1 m rfl (by decide)
    rw [Nat.mul_one] at h1
    refine h1.trans ?_
    apply List.ext_getElem?
    intro i
    by_cases hi : i < m
    · rw [rowsL_get _ hi, if_neg (Nat.not_lt_zero _)]
      clear h h1
      induction m generalizing i with
      | zero => omega
      | succ m ih =>
        rw [List.replicate_succ, List.flatten_cons]
        cases i with
        | zero => rfl
        | succ i => exact ih i (by omega)
    · rw [List.getElem?_eq_none (by simp; omega), List.getElem?_eq_none (by rw [rowsL_length]; omega)]
  rw [← e]
  exact h

/-- One row more, not yet linked. -/
theorem RowsT.add {w : World} {B m R k j : Nat} {F : Nat → Value → Array Value} {q : Nat → Nat} {v : Nat → Value} (h : RowsT w B m F R k j q v) (hk : k < m) (hj : j ≤ k) (hB : B ≤ w.heap.size) :
    RowsT ((w.alloc (.cells (F k (.slice none 0 0)) 124)).setCell ⟨R, k, none⟩ (ptrV w.heap.size)) B m F R (k + 1) j (upf q k w.heap.size) (upf v k (.slice none 0 0)) := by
  have hbA : Below w.heap.size w (w.alloc (.cells (F k (.slice none 0 0)) 124)) := (Below.refl _ _).alloc (Nat.le_refl _) _
  have h' := h.below hbA
  have hRlt : R < w.heap.size := (World.ownsRow.lt h.rb R rfl).2
  have hne : ∀ b, b ≠ R → ((w.alloc (.cells (F k (.slice none 0 0)) 124)).setCell ⟨R, k, none⟩ (ptrV w.heap.size)).heap[b]? = (w.alloc (.cells (F k (.slice none 0 0)) 124)).heap[b]? := fun b hb => Below.heap_setCell _ _ _ _ hb
  have hqR : ∀ i, i < k → q i ≠ R := fun i hi e => ownsRow_ne h.rb (h.qb i hi).2 (by decide) (by rw [e]; rfl)
  have hqlt : ∀ i, i < k → q i < w.heap.size := fun i hi => lt_of_block (h.qb i hi).2
  refine ⟨?_, fun i hi => ?_, fun i hi => ?_, fun i l hi hl hil g hg => ?_, fun i hi => ?_, fun i l hi hl hil => ?_⟩
  · have := (World.ownsRow.stored h'.rb k (ptrV w.heap.size)).1
    rw [rowsL_set q _ hk] at this
    exact this
  · by_cases hik : i = k
    · subst hik
      rw [upf_same, upf_same]
      exact ⟨hB, (hne _ (by omega)).trans (heap_alloc_new _ _)⟩
    · rw [upf_ne _ _ hik, upf_ne _ _ hik]
      have hi' : i < k := by omega
      exact ⟨(h'.qb i hi').1, (hne _ (hqR i hi')).trans (h'.qb i hi').2⟩
  · have e : nbrs (upf q k w.heap.size) j i = nbrs q j i := by
      by_cases hij : i ≤ j
      · exact nbrs_cong (fun l hl => upf_ne _ _ (by omega)) hij
      · unfold nbrs
        rw [if_neg (by omega), if_neg (by omega), if_neg (by omega), if_neg (by omega)]
    rw [e]
    by_cases hik : i = k
    · subst hik
      rw [upf_same]
      have e2 : nbrs q j i = [] := by
        unfold nbrs
        rw [if_neg (by omega), if_neg (by omega)]
        rfl
      rw [e2]
      exact World.ownsRow_nil _ _ _ _
    · rw [upf_ne _ _ hik]
      have hi' : i < k := by omega
      exact ownsRow_same (h'.vb i hi') (fun g hg => hne g (fun e => h.vR i hi' (by rw [hg, e])))
  · by_cases hik : i = k
    · subst hik
      rw [upf_same] at hg
      cases hg
    · rw [upf_ne _ _ hik] at hg
      by_cases hlk : l = k
      · subst hlk
        rw [upf_same]
        intro e; cases e
      · rw [upf_ne _ _ hlk]
        exact h.vv i l (by omega) (by omega) hil g hg
  · by_cases hik : i = k
    · subst hik
      rw [upf_same]
      intro e; cases e
    · rw [upf_ne _ _ hik]
      exact h.vR i (by omega)
  · by_cases hik : i = k
    · subst hik
      rw [upf_same, upf_ne _ _ (fun e => hil e.symm)]
      have := hqlt l (by omega)
      omega
    · rw [upf_ne _ _ hik]
      by_cases hlk : l = k
      · subst hlk
        rw [upf_same]
        have := hqlt i (by omega)
        omega
      · rw [upf_ne _ _ hlk]
        exact h.qq i l (by omega) (by omega) hil

/-- What the link of two rows leaves. -/
structure Linked (w w' : World) (B Qa Qb na nb : Nat) (Fa Fb : Value → Array Value) (va vb va' vb' : Value) (xa xb : List Value) : Prop where
  os : w'.os = w.os
  tape : w'.tape = w.tape
  output : w'.output = w.output
  size : w.heap.size ≤ w'.heap.size
  rest : ∀ b, b < w.heap.size → b ≠ Qa → b ≠ Qb → va.ownBlock ≠ some b → vb.ownBlock ≠ some b → w'.heap[b]? = w.heap[b]?
  ba : w'.heap[Qa]? = some (.cells (Fa va') 124 (0, 0))
  bb : w'.heap[Qb]? = some (.cells (Fb vb') 124 (0, 0))
  oa : w'.ownsRow B 102 1 va' (na + 1) (xa ++ [ptrV Qb])
  ob : w'.ownsRow B 102 1 vb' (nb + 1) (xb ++ [ptrV Qa])
  na' : va'.ownBlock = va.ownBlock ∨ ∃ g, va'.ownBlock = some g ∧ w.heap.size ≤ g
  nb' : vb'.ownBlock = vb.ownBlock ∨ ∃ g, vb'.ownBlock = some g ∧ w.heap.size ≤ g
  ab : ∀ g, va'.ownBlock = some g → vb'.ownBlock ≠ some g

/-- Two rows more are linked. -/
theorem RowsT.link {w w' : World} {B m R k : Nat} {F : Nat → Value → Array Value} {q : Nat → Nat} {v : Nat → Value} {va' vb' : Value} (h : RowsT w B m F R (k + 1 + 1) (k + 1) q v)
    (hL : Linked w w' B (q k) (q (k + 1)) (nbrs q (k + 1) k).length (nbrs q (k + 1) (k + 1)).length (F k) (F (k + 1)) (v k) (v (k + 1)) va' vb' (nbrs q (k + 1) k) (nbrs q (k + 1) (k + 1))) :
    RowsT w' B m F R (k + 1 + 1) (k + 1 + 1) q (upf (upf v k va') (k + 1) vb') := by
  have hRlt : R < w.heap.size := (World.ownsRow.lt h.rb R rfl).2
  have hqR : ∀ i, i < k + 1 + 1 → q i ≠ R := fun i hi e => ownsRow_ne h.rb (h.qb i hi).2 (by decide) (by rw [e]; rfl)
  have hR' : w'.heap[R]? = w.heap[R]? := hL.rest R hRlt (fun e => hqR k (by omega) e.symm) (fun e => hqR (k + 1) (by omega) e.symm) (h.vR k (by omega)) (h.vR (k + 1) (by omega))
  have hvq : ∀ i l, i < k + 1 + 1 → l < k + 1 + 1 → (v i).ownBlock ≠ some (q l) := fun i l hi hl => ownsRow_ne (h.vb i hi) (h.qb l hl).2 (by decide)
  have hk1 : ∀ i, i < k + 1 + 1 → i ≠ k → i ≠ k + 1 → i < k := fun i h1 h2 h3 => by omega
  have g1 : upf (upf v k va') (k + 1) vb' k = va' := by rw [upf_ne _ _ (by omega), upf_same]
  have g2 : upf (upf v k va') (k + 1) vb' (k + 1) = vb' := upf_same _ _ _
  have g3 : ∀ i, i < k → upf (upf v k va') (k + 1) vb' i = v i := fun i hi => by rw [upf_ne _ _ (by omega), upf_ne _ _ (by omega)]
  have n1 : nbrs q (k + 1 + 1) k = nbrs q (k + 1) k ++ [ptrV (q (k + 1))] := by
    unfold nbrs
    rw [if_neg (show ¬ k + 1 < k + 1 by omega), if_pos (show k + 1 < k + 1 + 1 by omega), List.append_nil]
    by_cases h0 : 0 < k
    · rw [if_pos ⟨h0, by omega⟩, if_pos ⟨h0, by omega⟩]
    · rw [if_neg (fun q => h0 q.1), if_neg (fun q => h0 q.1)]
  have n2 : nbrs q (k + 1 + 1) (k + 1) = nbrs q (k + 1) (k + 1) ++ [ptrV (q k)] := by
    unfold nbrs
    rw [if_neg (show ¬ (0 < k + 1 ∧ k + 1 < k + 1) by omega), if_neg (show ¬ k + 1 + 1 < k + 1 by omega), if_pos (show 0 < k + 1 ∧ k + 1 < k + 1 + 1 by omega), if_neg (show ¬ k + 1 + 1 < k + 1 + 1 by omega)]
    rfl
  have n3 : ∀ i, i < k → nbrs q (k + 1 + 1) i = nbrs q (k + 1) i := fun i hi => by
    unfold nbrs
    rw [if_pos (show i + 1 < k + 1 + 1 by omega), if_pos (show i + 1 < k + 1 by omega)]
    by_cases h0 : 0 < i
    · rw [if_pos ⟨h0, by omega⟩, if_pos ⟨h0, by omega⟩]
    · rw [if_neg (fun q => h0 q.1), if_neg (fun q => h0 q.1)]
  have hlt : ∀ i, i < k + 1 + 1 → ∀ g, (v i).ownBlock = some g → g < w.heap.size := fun i hi g hg => (World.ownsRow.lt (h.vb i hi) g hg).2
  refine ⟨ownsRow_same h.rb (fun g hg => by have e : R = g := Option.some.inj hg; rw [← e]; exact hR'), fun i hi => ?_, fun i hi => ?_, fun i l hi hl hil g hg => ?_, fun i hi => ?_, h.qq⟩
  · refine ⟨(h.qb i hi).1, ?_⟩
    by_cases h1 : i = k
    · subst h1; rw [g1]; exact hL.ba
    · by_cases h2 : i = k + 1
      · subst h2; rw [g2]; exact hL.bb
      · rw [g3 i (hk1 i hi h1 h2)]
        exact (hL.rest _ (lt_of_block (h.qb i hi).2) (h.qq i k hi (by omega) h1) (h.qq i (k + 1) hi (by omega) h2) (hvq k i (by omega) hi) (hvq (k + 1) i (by omega) hi)).trans (h.qb i hi).2
  · by_cases h1 : i = k
    · subst h1; rw [g1, n1, List.length_append]; exact hL.oa
    · by_cases h2 : i = k + 1
      · subst h2; rw [g2, n2, List.length_append]; exact hL.ob
      · have hik := hk1 i hi h1 h2
        rw [g3 i hik, n3 i hik]
        refine ownsRow_same (h.vb i hi) (fun g hg => hL.rest g (hlt i hi g hg) (fun e => hvq i k hi (by omega) (by rw [hg, e])) (fun e => hvq i (k + 1) hi (by omega) (by rw [hg, e])) (fun e => h.vv i k hi (by omega) h1 g hg e) (fun e => h.vv i (k + 1) hi (by omega) h2 g hg e))
  · have hnew : ∀ l, l < k → ∀ g, (v l).ownBlock = some g → va'.ownBlock ≠ some g ∧ vb'.ownBlock ≠ some g := fun l hl g hg => by
      have hgl := hlt l (by omega) g hg
      constructor
      · rcases hL.na' with e | ⟨g', e, hge⟩
        · rw [e]; exact fun e2 => h.vv l k (by omega) (by omega) (by omega) g hg e2
        · rw [e]; intro e2; have := Option.some.inj e2; omega
      · rcases hL.nb' with e | ⟨g', e, hge⟩
        · rw [e]; exact fun e2 => h.vv l (k + 1) (by omega) (by omega) (by omega) g hg e2
        · rw [e]; intro e2; have := Option.some.inj e2; omega
    by_cases h1 : i = k
    · subst h1
      rw [g1] at hg
      by_cases h2 : l = i + 1
      · subst h2; rw [g2]; exact hL.ab g hg
      · rw [g3 l (by omega)]
        exact fun e => (hnew l (by omega) g e).1 hg
    · by_cases h2 : i = k + 1
      · subst h2
        rw [g2] at hg
        by_cases h3 : l = k
        · subst h3; rw [g1]; exact fun e => hL.ab g e hg
        · rw [g3 l (by omega)]
          exact fun e => (hnew l (by omega) g e).2 hg
      · have hik := hk1 i hi h1 h2
        rw [g3 i hik] at hg
        by_cases h3 : l = k
        · subst h3; rw [g1]; exact (hnew i hik g hg).1
        · by_cases h4 : l = k + 1
          · subst h4; rw [g2]; exact (hnew i hik g hg).2
          · rw [g3 l (by omega)]
            exact h.vv i l hi hl hil g hg
  · by_cases h1 : i = k
    · subst h1
      rw [g1]
      rcases hL.na' with e | ⟨g', e, hge⟩
      · rw [e]; exact h.vR i (by omega)
      · rw [e]; intro e2; have := Option.some.inj e2; omega
    · by_cases h2 : i = k + 1
      · subst h2
        rw [g2]
        rcases hL.nb' with e | ⟨g', e, hge⟩
        · rw [e]; exact h.vR (k + 1) (by omega)
        · rw [e]; intro e2; have := Option.some.inj e2; omega
      · rw [g3 i (hk1 i hi h1 h2)]
        exact h.vR i hi

end Go.Proofs.Ytfpfgaifhmgpiaa

namespace Go.Proofs.Ytfpfgaifhmgpiaa
open Go.RowKit Go.PlainAid

set_option linter.unusedVariables false

theorem ownsRow_shape {w : World} {B n K : Nat} {T : TypeId} {v : Value} {xs : List Value} (h : w.ownsRow B T K v n xs) : ∃ a c, v = .slice a n c := by
  rcases h.2 with ⟨rfl, h0⟩ | ⟨g, cap, cur, rfl, _⟩
  · exact ⟨none, 0, by rw [h0]⟩
  · exact ⟨_, cap, rfl⟩

set_option maxHeartbeats 8000000 in
set_option maxRecDepth 100000 in
theorem implBecome_is {B Qa Qb na nb : Nat} {a0 a1 a2 b0 b1 b2 va vb : Value} {xa xb : List Value} {w : World} (hne : Qa ≠ Qb)
    (ha : w.heap[Qa]? = some (.cells #[a0, a1, a2, va] 124 (0, 0))) (hb : w.heap[Qb]? = some (.cells #[b0, b1, b2, vb] 124 (0, 0)))
    (oa : w.ownsRow B 102 1 va na xa) (ob : w.ownsRow B 102 1 vb nb xb) (hab : ∀ g, va.ownBlock = some g → vb.ownBlock ≠ some g) (hna : na ≤ 2) (hnb : nb ≤ 2) (hB : B ≤ w.heap.size) :
    Calls Try.prog 104 #[.pointer (some ⟨Qa, 0, none⟩), .pointer (some ⟨Qb, 0, none⟩)] w fun e w' => e = .returned (.tuple #[]) ∧ ∃ va' vb', Linked w w' B Qa Qb na nb (fun v => #[a0, a1, a2, v]) (fun v => #[b0, b1, b2, v]) va vb va' vb' xa xb := by
  obtain ⟨i0, hi, hz0, hz1, hz2⟩ := info_parts infoP
  have hva : va.ownBlock ≠ some Qa ∧ va.ownBlock ≠ some Qb := ⟨ownsRow_ne oa ha (by decide), ownsRow_ne oa hb (by decide)⟩
  have hvb : vb.ownBlock ≠ some Qa ∧ vb.ownBlock ≠ some Qb := ⟨ownsRow_ne ob ha (by decide), ownsRow_ne ob hb (by decide)⟩
  obtain ⟨aa, ac, hva0⟩ := ownsRow_shape oa
  obtain ⟨ba, bc, hvb0⟩ := ownsRow_shape ob
  have hla : ∀ g, va.ownBlock = some g → g < w.heap.size := fun g hg => (World.ownsRow.lt oa g hg).2
  have hlb : ∀ g, vb.ownBlock = some g → g < w.heap.size := fun g hg => (World.ownsRow.lt ob g hg).2
  subst hva0
  subst hvb0
  have hqa := lt_of_block ha
  have hqb := lt_of_block hb
  have hw1 : (w.alloc (.cells #[.pointer (some ⟨Qb, 0, none⟩)] 102)).heap.size = w.heap.size + 1 := size_alloc _ _
  have OA := Lib.hid (World.ownsRow.alloc oa (.cells #[.pointer (some ⟨Qb, 0, none⟩)] 102))
  have OB := Lib.hid (World.ownsRow.alloc ob (.cells #[.pointer (some ⟨Qb, 0, none⟩)] 102))
  have A1 := Lib.hid ((heap_alloc_old w (.cells #[.pointer (some ⟨Qb, 0, none⟩)] 102) hqa).trans ha)
  have B1 := Lib.hid ((heap_alloc_old w (.cells #[.pointer (some ⟨Qb, 0, none⟩)] 102) hqb).trans hb)
  have HW1 := Lib.hid hw1
  have HVA := Lib.hid hva
  have HVB := Lib.hid hvb
  have HAB := Lib.hid hab
  have HLA := Lib.hid hla
  have HLB := Lib.hid hlb
  obtain ⟨x0, x1, x2, x3⟩ := cells4 ha
  have hB1 : B ≤ (w.alloc (.cells #[.pointer (some ⟨Qb, 0, none⟩)] 102)).heap.size := by rw [hw1]; omega
  clear oa ob hva hvb hab hla hlb ha hb hw1
  go_enter Try.func104, Try.ntmps104
  go_wp2_with (at_builtin; refine wpList_append_own_at _ rfl _ _ 103 rfl B 102 i0 (.pointer none) 1 8 Try.underlying103 hi hz0 hz1 hz2 rfl (by decide) _ na xa rfl OA.out ⟨w.heap.size, 0, none⟩ 1 1 [.pointer (some ⟨Qb, 0, none⟩)] rfl rfl (World.news_of_block (heap_alloc_new w _)) (by intro q hq; rw [List.mem_singleton.1 hq]; rfl) (by unfold maxLen; omega) (by omega) hB1 ?_)
  intro v3 w3 hown3 hgrow3 _ hat3
  obtain ⟨ca, cc, hv3⟩ := ownsRow_shape hown3
  subst hv3
  have A3 : w3.heap[Qa]? = _ := (hgrow3.block Qa (by rw [HW1.out]; omega) (fun e => HVA.out.1 e.symm)).trans A1.out
  have B3 : w3.heap[Qb]? = _ := (hgrow3.block Qb (by rw [HW1.out]; omega) (fun e => HVA.out.2 e.symm)).trans B1.out
  have OB3 := ownsRow_same OB.out (fun g hg => hgrow3.block g (by rw [HW1.out]; have := HLB.out g hg; omega) (fun e => HAB.out g e.symm hg))
  have hs3 : w.heap.size + 1 ≤ w3.heap.size := by have := hgrow3.size; rw [HW1.out] at this; exact this
  have B4 : (w3.setCell ⟨Qa, 3, none⟩ (.slice ca (na + 1) cc)).heap[Qb]? = _ := keep_set B3 (fun e => hne e.symm)
  have hs4 : (w3.setCell ⟨Qa, 3, none⟩ (.slice ca (na + 1) cc)).heap.size = w3.heap.size := by simp [World.setCell]
  have HA4 : Hid ((w3.setCell ⟨Qa, 3, none⟩ (.slice ca (na + 1) cc)).heap[Qa]? = some (.cells #[a0, a1, a2, .slice ca (na + 1) cc] 124 (0, 0))) := set_cells A3 3 _
  have HB4 := Lib.hid B4
  have h3A : (Value.slice ca (na + 1) cc).ownBlock ≠ some Qa := ownsRow_ne hown3 A3 (by decide)
  have OA4 := Lib.hid (ownsRow_same (w' := w3.setCell ⟨Qa, 3, none⟩ (.slice ca (na + 1) cc)) hown3 (fun g hg => Below.heap_setCell _ _ _ _ (fun e => h3A (by rw [hg]; exact congrArg some e))))
  have OB4 := Lib.hid (World.ownsRow.alloc (ownsRow_same (w' := w3.setCell ⟨Qa, 3, none⟩ (.slice ca (na + 1) cc)) OB3 (fun g hg => Below.heap_setCell _ _ _ _ (fun e => HVB.out.1 (by rw [hg]; exact congrArg some e)))) (.cells #[.pointer (some ⟨Qa, 0, none⟩)] 102))
  have HR3 : Hid (∀ b, b < w.heap.size → (Value.slice aa na ac).ownBlock ≠ some b → w3.heap[b]? = w.heap[b]?) := fun b hb hn => (hgrow3.block b (by rw [HW1.out]; omega) (fun e => hn e.symm)).trans (heap_alloc_old _ _ hb)
  have HO3 : Hid (w3.os = w.os ∧ w3.tape = w.tape ∧ w3.output = w.output) := ⟨hgrow3.os, hgrow3.tape, hgrow3.output⟩
  have HN3 : Hid ((Value.slice ca (na + 1) cc).ownBlock = (Value.slice aa na ac).ownBlock ∨ ∃ g, (Value.slice ca (na + 1) cc).ownBlock = some g ∧ w.heap.size ≤ g) := by
    rcases hat3 with h | h
    · exact .inl h
    · exact .inr ⟨_, h, by first | omega | (rw [HW1.out]; omega)⟩
  have HL3 : Hid (∀ g, (Value.slice ca (na + 1) cc).ownBlock = some g → g < w3.heap.size) := fun g hg => (World.ownsRow.lt hown3 g hg).2
  have HS3 := Lib.hid hs3
  have HS4 := Lib.hid hs4
  have hw5 : ((w3.setCell ⟨Qa, 3, none⟩ (.slice ca (na + 1) cc)).alloc (.cells #[.pointer (some ⟨Qa, 0, none⟩)] 102)).heap.size = w3.heap.size + 1 := (size_alloc _ _).trans (by rw [hs4])
  have HW5 := Lib.hid hw5
  have hB5 : B ≤ ((w3.setCell ⟨Qa, 3, none⟩ (.slice ca (na + 1) cc)).alloc (.cells #[.pointer (some ⟨Qa, 0, none⟩)] 102)).heap.size := by rw [hw5]; omega
  have hx5 := World.news_of_block (heap_alloc_new (w3.setCell ⟨Qa, 3, none⟩ (.slice ca (na + 1) cc)) (.cells #[.pointer (some ⟨Qa, 0, none⟩)] 102))
  rw [hs4] at hx5
  have HX5 := Lib.hid hx5
  clear hx5
  have f3 := thawed A3 3
  obtain ⟨y0, y1, y2, y3⟩ := cells4 A3
  obtain ⟨z0, z1, z2, z3⟩ := cells4 B4
  clear hown3 hgrow3 hat3 OA OB A1 B1 OB3 hs3 hs4 h3A B3 A3 B4 hw5 x0 x1 x2 x3
  go_wp2_with (at_builtin; refine wpList_append_own_at _ rfl _ _ 103 rfl B 102 i0 (.pointer none) 1 8 Try.underlying103 hi hz0 hz1 hz2 rfl (by decide) _ nb xb rfl OB4.out ⟨_, 0, none⟩ 1 1 [.pointer (some ⟨Qa, 0, none⟩)] rfl rfl HX5.out (by intro q hq; rw [List.mem_singleton.1 hq]; rfl) (by unfold maxLen; omega) (by omega) hB5 ?_)
  intro v6 w6 hown6 hgrow6 _ hat6
  obtain ⟨da, dc, hv6⟩ := ownsRow_shape hown6
  subst hv6
  have hqa5 : Qa < w3.heap.size := by have := HS3.out; omega
  have hqb5 : Qb < w3.heap.size := by have := HS3.out; omega
  have A6 : w6.heap[Qa]? = some (.cells #[a0, a1, a2, .slice ca (na + 1) cc] 124 (0, 0)) := (hgrow6.block Qa (by rw [HW5.out]; omega) (fun e => HVB.out.1 e.symm)).trans ((heap_alloc_old _ _ (by rw [HS4.out]; omega)).trans HA4.out)
  have B6 : w6.heap[Qb]? = some (.cells #[b0, b1, b2, .slice ba nb bc] 124 (0, 0)) := (hgrow6.block Qb (by rw [HW5.out]; omega) (fun e => HVB.out.2 e.symm)).trans ((heap_alloc_old _ _ (by rw [HS4.out]; omega)).trans HB4.out)
  have hca : ∀ g, (Value.slice ca (na + 1) cc).ownBlock = some g → (Value.slice ba nb bc).ownBlock ≠ some g := fun g hg e => by
    rcases HN3.out with h | ⟨g', h, hge⟩
    · exact HAB.out g (h.symm.trans hg) e
    · have e2 : g' = g := Option.some.inj (h.symm.trans hg)
      have := HLB.out g e
      omega
  have OA6 := ownsRow_same OA4.out (fun g hg => (hgrow6.block g (by rw [HW5.out]; have := HL3.out g hg; omega) (fun e => hca g hg e.symm)).trans (heap_alloc_old _ _ (by rw [HS4.out]; exact HL3.out g hg)))
  have h6B : (Value.slice da (nb + 1) dc).ownBlock ≠ some Qb := ownsRow_ne hown6 B6 (by decide)
  have h6A : (Value.slice ca (na + 1) cc).ownBlock ≠ some Qb := ownsRow_ne OA6 B6 (by decide)
  have HLK : Hid (Linked w (w6.setCell ⟨Qb, 3, none⟩ (.slice da (nb + 1) dc)) B Qa Qb na nb (fun v => #[a0, a1, a2, v]) (fun v => #[b0, b1, b2, v]) (.slice aa na ac) (.slice ba nb bc) (.slice ca (na + 1) cc) (.slice da (nb + 1) dc) xa xb) := by
    refine ⟨?_, ?_, ?_, ?_, fun b hb h1 h2 h3 h4 => ?_, keep_set A6 hne, set_cells B6 3 _, ?_, ?_, HN3.out, ?_, fun g hg e => ?_⟩
    · exact hgrow6.os.trans HO3.out.1
    · exact hgrow6.tape.trans HO3.out.2.1
    · exact hgrow6.output.trans HO3.out.2.2
    · have h1 := hgrow6.size
      rw [HW5.out] at h1
      have h2 := HS3.out
      have h3 : (w6.setCell ⟨Qb, 3, none⟩ (.slice da (nb + 1) dc)).heap.size = w6.heap.size := by simp [World.setCell]
      omega
    · have hb3 : b < w3.heap.size := by have := HS3.out; omega
      exact (Below.heap_setCell _ _ _ _ h2).trans ((hgrow6.block b (by rw [HW5.out]; omega) (fun e => h4 e.symm)).trans ((heap_alloc_old _ _ (by rw [HS4.out]; exact hb3)).trans ((Below.heap_setCell _ _ _ _ h1).trans (HR3.out b hb h3))))
    · exact ownsRow_same OA6 (fun g hg => Below.heap_setCell _ _ _ _ (fun e => h6A (by rw [hg]; exact congrArg some e)))
    · exact ownsRow_same hown6 (fun g hg => Below.heap_setCell _ _ _ _ (fun e => h6B (by rw [hg]; exact congrArg some e)))
    · rcases hat6 with h | h
      · exact .inl h
      · exact .inr ⟨_, h, by have := HS3.out; first | omega | (rw [HW5.out]; omega)⟩
    · rcases hat6 with h | h
      · exact hca g hg (h.symm.trans e)
      · have e2 := Option.some.inj (h.symm.trans e)
        have := HL3.out g hg
        (try rw [HW5.out] at e2)
        omega
  have g3 := thawed B6 3
  obtain ⟨u0, u1, u2, u3⟩ := cells4 B6
  clear hown6 hgrow6 hat6 A6 B6 OA6 hca h6A h6B y0 y1 y2 y3 z0 z1 z2 z3 f3
  go_wp2_with fail
  (try simp only [Exit.inBlock, Exit.then])
  exact bodyPost_end (v := .tuple #[]) (by simp [results, Try.results104]) rfl ⟨rfl, _, _, HLK.out⟩

set_option maxHeartbeats 4000000 in
set_option maxRecDepth 100000 in
theorem implGone_is {Q : Nat} {a0 v : Value} {pa ph : Addr} {la lh ua uh : Int} {w : World} (hq : w.heap[Q]? = some (.cells #[a0, .pointer (some pa), .pointer (some ph), v] 124 (0, 0))) (ha : w.cell? pa = some (.int .i64 ua)) (hh : w.cell? ph = some (.int .i64 uh)) (b : Bool) (hb : decide (la < ua ∨ lh < uh) = b) :
    Calls Try.prog 82 #[.pointer (some ⟨Q, 0, none⟩), .agg #[.int .i64 la, .int .i64 lh]] w (Gives (.bool b) w) := by
  obtain ⟨w1, hw1⟩ : ∃ u, w.alloc (.cells #[.int .i64 la, .int .i64 lh] 27) = u := ⟨_, rfl⟩
  have hb1 : Below w.heap.size w w1 := by subst hw1; exact (Below.refl _ _).alloc (Nat.le_refl _) _
  have l1 : w1.heap[w.heap.size]? = some (.cells #[.int .i64 la, .int .i64 lh] 27) := hw1 ▸ heap_alloc_new w _
  have HB1 := Lib.hid hb1
  have HV := Lib.hid hb
  obtain ⟨x0, x1⟩ := cells2 l1
  obtain ⟨y0, y1, y2, y3⟩ := cells4 (keep_block hb1 hq (lt_of_block hq))
  have c0 := (hb1.cell (World.block_lt_of_cell? _ _ ha)).trans ha
  have c1 := (hb1.cell (World.block_lt_of_cell? _ _ hh)).trans hh
  have z0 := fun q : Later w1 => q.cell x0
  have z1 := fun q : Later w1 => q.cell x1
  have z2 := fun q : Later w1 => q.cell y1
  have z3 := fun q : Later w1 => q.cell y2
  have z4 := fun q : Later w1 => q.cell c0
  have z5 := fun q : Later w1 => q.cell c1
  clear hq ha hh hb hb1 l1 x0 x1 y0 y1 y2 y3 c0 c1
  by_cases k1 : la < ua
  case pos =>
    have d1 : decide (la < ua) = true := decide_eq_true k1
    have HE : Hid (true = b) := by rw [← HV.out]; exact (decide_eq_true (Or.inl k1)).symm
    clear k1
    go_enter Try.func82, Try.ntmps82
    go_wp2_with fail
    refine wp_region_later (by kernel_rfl) (by kernel_rfl) ?_
    repeat (go_big_quiet_step (fail))
    refine wpQuiet_nil ?_
    rintro w2 ⟨zz, hz⟩
    have HB2 : Hid (Below w.heap.size w w2) := HB1.out.trans ((hz ▸ zz.ok : Below w1.heap.size w1 w2).mono HB1.out.size)
    clear z0 z1 z2 z3 z4 z5 hz zz
    go_wp2_with fail
    go_ret
    exact ⟨ret_b HE.out, HB2.out⟩
  case neg =>
    have d1 : decide (la < ua) = false := decide_eq_false k1
    obtain ⟨bb, hbb⟩ : ∃ bb, decide (lh < uh) = bb := ⟨_, rfl⟩
    have HE : Hid (bb = b) := by rw [← HV.out, ← hbb]; exact decide_eq_decide.2 ⟨Or.inr, fun h => h.resolve_left k1⟩
    clear k1
    go_enter Try.func82, Try.ntmps82
    go_wp2_with fail
    refine wp_region_later (by kernel_rfl) (by kernel_rfl) ?_
    repeat (go_big_quiet_step (fail))
    refine wpQuiet_nil ?_
    rintro w2 ⟨zz, hz⟩
    have HB2 : Hid (Below w.heap.size w w2) := HB1.out.trans ((hz ▸ zz.ok : Below w1.heap.size w1 w2).mono HB1.out.size)
    clear z0 z1 z2 z3 z4 z5 hz zz
    go_wp2_with fail
    go_ret
    exact ⟨ret_b HE.out, HB2.out⟩

end Go.Proofs.Ytfpfgaifhmgpiaa

namespace Go.Proofs.Ytfpfgaifhmgpiaa
open Go.RowKit Go.PlainAid

set_option linter.unusedVariables false

/-- What a row's variable holds. -/
def rowF (g0 o0 c0 g1 o1 g2 o2 D B0 : Nat) (i : Nat) (v : Value) : Array Value :=
  #[.slice (some ⟨g0, o0 + (B0 + i) * D * 2, none⟩) D (c0 - (B0 + i) * D), .pointer (some ⟨g1, o1 + (B0 + i), none⟩), .pointer (some ⟨g2, o2 + (B0 + i), none⟩), v]

theorem RowsT.one {w : World} {B m R : Nat} {F : Nat → Value → Array Value} {q : Nat → Nat} {v : Nat → Value} (h : RowsT w B m F R 1 0 q v) : RowsT w B m F R 1 1 q v := by
  refine ⟨h.rb, h.qb, fun i hi => ?_, h.vv, h.vR, h.qq⟩
  have := h.vb i hi
  have e : nbrs q 1 i = nbrs q 0 i := by
    unfold nbrs
    rw [if_neg (by omega), if_neg (by omega), if_neg (by omega), if_neg (by omega)]
  rw [e]
  exact this

theorem RowsT.cell {w : World} {B m R k j i : Nat} {F : Nat → Value → Array Value} {q : Nat → Nat} {v : Nat → Value} (h : RowsT w B m F R k j q v) (hi : i < m) :
    w.cell? ⟨R, i, none⟩ = some (if i < k then ptrV (q i) else .pointer none) ∧ w.frozen? ⟨R, i, none⟩ = false := by
  have hc := World.ownsRow.cells h.rb (g := R) rfl i _ (rowsL_get q hi)
  rw [Addr.add_lit, Nat.zero_add] at hc
  refine ⟨hc, ?_⟩
  rcases h.rb.2 with ⟨hv, _⟩ | ⟨b, cap, cur, hv, hB, hh, r⟩
  · cases hv
  · cases hv
    simp [World.frozen?, hh]

theorem cells_slice (gc oc n0 c0 L D : Nat) (hD : 0 < D) (h : L + D ≤ c0) (u : World) :
    (Instr.slice 28 (.slice (some ⟨gc, oc, none⟩) n0 c0) (some (.int .i64 (L : Int))) (some (.int .i64 ((L + D : Nat) : Int))) none).run Try.prog u = .ok (.slice (some ⟨gc, oc + L * 2, none⟩) D (c0 - L)) u := by
  have h1 : ¬ (c0 - L = 0) := by omega
  have h2 : ¬ (c0 = L) := by omega
  have h3 : (L : Int) ≤ ((L + D : Nat) : Int) := by omega
  have h4 : ((L + D : Nat) : Int) ≤ (c0 : Int) := by omega
  have ht : Try.prog.underlying 28 = some (.slice (Try.prog.elem 28)) := by kernel_rfl
  have hs : ∀ u : World, (sizeOf (Try.prog.elem 28)).run Try.prog u = .ok 2 u := fun u => by kernel_rfl
  rw [run_slice_lh (ht := ht) (h0 := by omega) (h1 := h3) (h2 := h4), hs]
  simp [sliced, h2, Result.andThen, Addr.add_lit]
  omega

theorem Linked.below {w w' : World} {B Qa Qb na nb : Nat} {Fa Fb : Value → Array Value} {va vb va' vb' : Value} {xa xb : List Value} (h : Linked w w' B Qa Qb na nb Fa Fb va vb va' vb' xa xb)
    (ha : B ≤ Qa) (hb : B ≤ Qb) (oa : ∀ g, va.ownBlock = some g → B ≤ g) (ob : ∀ g, vb.ownBlock = some g → B ≤ g) (hs : B ≤ w.heap.size) : Below B w w' :=
  ⟨h.os, h.tape, h.output, h.size, fun k hk => h.rest k (by omega) (by omega) (by omega) (fun e => by have := oa k e; omega) (fun e => by have := ob k e; omega)⟩

/-- A row of cells, a row of ints that is not empty lies at an address. -/
theorem row_addr {α : Type} {k : Kn α} {T : TypeId} {w : World} {a : Option Addr} {n c : Nat} {l : List α} (h : (k.row T).rd w [.slice a n c] l) (hl : 0 < l.length) : ∃ g off, a = some ⟨g, off, none⟩ := by
  obtain ⟨g, off, _, e, _⟩ := Kn.row_at h hl
  exact ⟨g, off, e⟩

set_option maxHeartbeats 16000000 in
set_option maxRecDepth 100000 in
theorem implRows_is (ga gb bk : Int) {m D B0 : Nat} {cs : List Value} {x : Arr} {w : World} (h : arrK.rd w cs x) (ha : ArrOk ga gb (m : Int) (D : Int) x) (hr : AdOk ga gb (m : Int) (D : Int) bk 0 0) (hB0 : bk * (m : Int) = B0) :
    Calls Try.prog 81 #[.agg #[.int .i64 ga, .int .i64 gb, .int .i64 (m : Int), .int .i64 (D : Int)], .agg cs.toArray, .int .i64 bk] w fun e w' => ∃ g0 o0 n0 c0 g1 o1 n1 c1 g2 o2 n2 c2 R q v B, cs = [.slice (some ⟨g0, o0, none⟩) n0 c0, .slice (some ⟨g1, o1, none⟩) n1 c1, .slice (some ⟨g2, o2, none⟩) n2 c2] ∧ e = .returned (.slice (some ⟨R, 0, none⟩) m m) ∧ w.heap.size ≤ B ∧ RowsT w' B m (rowF g0 o0 c0 g1 o1 g2 o2 D B0) R m m q v ∧ Below w.heap.size w w' := by
  obtain ⟨a0, n0, c0, a1, n1, c1, a2, n2, c2, rfl, h0, h1, h2⟩ := arr_rd h
  obtain ⟨l0, lc0, lm0, _⟩ := Kn.row_len h0
  obtain ⟨l1, _, lm1, _⟩ := Kn.row_len h1
  obtain ⟨l2, _, lm2, _⟩ := Kn.row_len h2
  unfold maxLen at lm0 lm1 lm2
  have hgeo := ha.1
  have hm16 : 2 ≤ m ∧ m ≤ 16 := by have := hgeo.2.2.1; omega
  have hD8 : 1 ≤ D ∧ D ≤ 8 := by have := hgeo.2.2.2; omega
  have HPL : Hid (∀ k, k < m → B0 + k < n1 ∧ B0 + k < n2 ∧ B0 + k < 128 ∧ (B0 + k) * D + D ≤ c0) := fun k hk => by
    have hak : AdOk ga gb (m : Int) (D : Int) bk (k : Int) 0 := ⟨hr.1, ⟨by omega, by omega⟩, hr.2.2⟩
    obtain ⟨i, hi, hi1, hi2, hi3, _⟩ := row_place ha hak
    obtain ⟨i', D', hi', hD', _, hic, _⟩ := row_near ha hak
    have e1 : i = B0 + k := by omega
    have e2 : i' = B0 + k := by omega
    have e3 : D' = D := by omega
    subst e1 e2 e3
    exact ⟨by omega, by omega, hi3, by omega⟩
  have hp0 := HPL.out 0 (by omega)
  have hx0 : 0 < x.1.length := by
    obtain ⟨i', D', _, hD', _, hic, _⟩ := row_near ha hr
    have e3 : D' = D := by omega
    subst e3
    omega
  obtain ⟨g0, o0, rfl⟩ := row_addr h0 hx0
  obtain ⟨g1, o1, rfl⟩ := row_addr h1 (by have : x.2.1.length = n1 := l1; omega)
  obtain ⟨g2, o2, rfl⟩ := row_addr h2 (by have : x.2.2.length = n2 := l2; omega)
  obtain ⟨w1, hw1⟩ : ∃ u, (w.alloc (.cells #[.int .i64 ga, .int .i64 gb, .int .i64 (m : Int), .int .i64 (D : Int)] 25)).alloc (.cells #[.slice (some ⟨g0, o0, none⟩) n0 c0, .slice (some ⟨g1, o1, none⟩) n1 c1, .slice (some ⟨g2, o2, none⟩) n2 c2] 31) = u := ⟨_, rfl⟩
  have HB1 : Hid (Below w.heap.size w w1) := by subst hw1; exact ((Below.refl _ _).alloc (Nat.le_refl _) _).alloc (by simp) _
  have gg1 : w1.heap[w.heap.size]? = some (.cells #[.int .i64 ga, .int .i64 gb, .int .i64 (m : Int), .int .i64 (D : Int)] 25) := by subst hw1; exact heap_alloc2_old _ _ _
  have pp1 : w1.heap[w.heap.size + 1]? = some (.cells #[.slice (some ⟨g0, o0, none⟩) n0 c0, .slice (some ⟨g1, o1, none⟩) n1 c1, .slice (some ⟨g2, o2, none⟩) n2 c2] 31) := by subst hw1; exact heap_alloc2_new _ _ _
  obtain ⟨i0, hi, hz0, hz1, hz2⟩ := info_parts infoP
  have w0 : IntKind.i64.wrap (B0 : Int) = (B0 : Int) := IntWalk.i64_in _ (by have := hp0.2.2.1; omega)
  clear h h0 h1 h2 ha hr l0 l1 l2 hgeo hp0 hx0
  obtain ⟨x0, x1, x2, x3⟩ := cells4 gg1
  go_enter Try.func81, Try.ntmps81
  go_wp2_with (at_make; refine wpList_make_full _ rfl _ _ 103 rfl w1.heap.size 102 i0 (.pointer none) 1 Try.underlying103 hi hz0 hz1 _ _ _ _ m rfl rfl rfl rfl (by rw [hz2]; omega) (by unfold maxLen; omega) (Nat.le_refl _) ?_)
  intro w2 hown hgr
  have hb2 : Below w1.heap.size w1 w2 := (Below.refl _ _).grown hgr (Nat.le_refl _) (fun k hk => by cases hk)
  have HR0 : Hid (RowsT w2 w1.heap.size m (rowF g0 o0 c0 g1 o1 g2 o2 D B0) w1.heap.size 0 0 (fun _ => 0) (fun _ => undef)) := RowsT.start hown _ _
  have HB2 := Lib.hid hb2
  clear hown hgr hb2 x0 x1 x2 x3
  obtain ⟨R, hRR⟩ : ∃ R, w1.heap.size = R := ⟨_, rfl⟩
  simp only [hRR] at HR0 HB2 ⊢
  have HRR := Lib.hid hRR
  clear hRR
  go_wp2_with fail
  go_loopw [15] (fun i wr => ∃ (k : Nat) (q : Nat → Nat) (v : Nat → Value), k ≤ m ∧ i = .int .i64 k ∧ RowsT wr R m (rowF g0 o0 c0 g1 o1 g2 o2 D B0) R k k q v ∧ Below R w1 wr) (fun i _ => m + 1 - (intOf i).toNat)
  case atStart => exact ⟨0, _, _, Nat.zero_le _, rfl, HR0.out, HB2.out⟩
  case round =>
    obtain ⟨k, q, v, hk, rfl, hrows, hbw⟩ := hrel
    have HRW := Lib.hid hrows
    have HBW := Lib.hid hbw
    have HS1 : Hid (w.heap.size + 1 < R) := by have := lt_of_block pp1; rw [HRR.out] at this; exact this
    have HBB : Hid (Below w.heap.size w wr) := HB1.out.trans (hbw.mono (by have := HS1.out; omega))
    have gr' : wr.heap[w.heap.size]? = _ := (hbw.block _ (by have := HS1.out; omega)).trans gg1
    have pr' : wr.heap[w.heap.size + 1]? = _ := (hbw.block _ HS1.out).trans pp1
    clear hrows hbw
    by_cases hlt : k < m
    case neg =>
      obtain rfl : k = m := by omega
      have hI : decide ((k : Int) < (k : Int)) = false := decide_eq_false (by omega)
      go_wp2_with fail
      go_ret
      exact ⟨g0, o0, n0, c0, g1, o1, n1, c1, g2, o2, n2, c2, R, q, v, R, rfl, rfl, by have := HS1.out; omega, HRW.out, HBB.out⟩
    have hI : decide ((k : Int) < (m : Int)) = true := decide_eq_true (by omega)
    have wk : IntKind.i64.wrap ((k : Int) + 1) = (k : Int) + 1 := IntWalk.i64_in _ (by omega)
    obtain ⟨P, hP⟩ : ∃ P, B0 + k = P := ⟨_, rfl⟩
    obtain ⟨L, hL⟩ : ∃ L, P * D = L := ⟨_, rfl⟩
    obtain ⟨U, hU⟩ : ∃ U, L + D = U := ⟨_, rfl⟩
    obtain ⟨P1, hP1⟩ : ∃ P1, P + 1 = P1 := ⟨_, rfl⟩
    have hpl := HPL.out k hlt
    rw [hP] at hpl
    rw [hL] at hpl
    obtain ⟨hp1, hp2, hp3, hp4⟩ := hpl
    have hLs : L ≤ 1024 := by rw [← hL]; have : P * D ≤ 128 * 8 := Nat.mul_le_mul (by omega) (by omega); omega
    have e1 : (B0 : Int) + (k : Int) = (P : Int) := by omega
    have w2' : IntKind.i64.wrap (P : Int) = (P : Int) := IntWalk.i64_in _ (by omega)
    have e2 : (P : Int) * (D : Int) = (L : Int) := by rw [← hL]; exact (Int.natCast_mul P D).symm
    have w3' : IntKind.i64.wrap (L : Int) = (L : Int) := IntWalk.i64_in _ (by omega)
    have e3 : (P : Int) + 1 = (P1 : Int) := by omega
    have w4' : IntKind.i64.wrap (P1 : Int) = (P1 : Int) := IntWalk.i64_in _ (by omega)
    have e4 : (P1 : Int) * (D : Int) = (U : Int) := by rw [← hP1, ← hU, ← hL]; push_cast; rw [Int.add_mul, Int.one_mul]
    have w5' : IntKind.i64.wrap (U : Int) = (U : Int) := IntWalk.i64_in _ (by omega)
    have sl : ∀ u : World, (Instr.slice 28 (.slice (some ⟨g0, o0, none⟩) n0 c0) (some (.int .i64 (L : Int))) (some (.int .i64 (U : Int))) none).run Try.prog u = .ok (.slice (some ⟨g0, o0 + L * 2, none⟩) D (c0 - L)) u := fun u => by rw [← hU]; exact cells_slice g0 o0 n0 c0 L D (by omega) hp4 u
    have hi1 : (P : Int) < (n1 : Int) := by omega
    have hi2 : (P : Int) < (n2 : Int) := by omega
    have hFk : Hid (rowF g0 o0 c0 g1 o1 g2 o2 D B0 k (.slice none 0 0) = #[.slice (some ⟨g0, o0 + L * 2, none⟩) D (c0 - L), .pointer (some ⟨g1, o1 + P, none⟩), .pointer (some ⟨g2, o2 + P, none⟩), .slice none 0 0]) := by
      show rowF _ _ _ _ _ _ _ _ _ _ _ = _
      unfold rowF
      rw [hP, hL]
    have HP := Lib.hid hP
    clear hL hU hP1 hP
    obtain ⟨x0, x1, x2, x3⟩ := cells4 gr'
    obtain ⟨y0, y1, y2⟩ := cells3 pr'
    go_wp2_with fail
    refine wp_region_float (A := ?A) [.h, .h, .h, .h, .h, .h, .h, .h, .h, .h, .h, .h, .h, .h, .h, .h, .h, .h, .h, .h, .h, .h, .h, .t, .h, .e] (by kernel_rfl) (by kernel_rfl) (fun u => u.cell? ⟨w.heap.size, 3, none⟩ = some (.int .i64 (D : Int)) ∧ u.cell? ⟨w.heap.size + 1, 0, none⟩ = some (.slice (some ⟨g0, o0, none⟩) n0 c0) ∧ u.cell? ⟨w.heap.size + 1, 1, none⟩ = some (.slice (some ⟨g1, o1, none⟩) n1 c1) ∧ u.cell? ⟨w.heap.size + 1, 2, none⟩ = some (.slice (some ⟨g2, o2, none⟩) n2 c2)) ?hC ?hH ?hT
    case hC => exact ⟨x3, y0, y1, y2⟩
    case hH =>
      intro u hu
      obtain ⟨t0, t1, t2, t3⟩ := hu
      have z0 := fun t : Same u => t.cell t0
      have z1 := fun t : Same u => t.cell t1
      have z2 := fun t : Same u => t.cell t2
      have z3 := fun t : Same u => t.cell t3
      simp only [headsOf]
      repeat (go_big_quiet_step (fail))
      refine wpQuiet_nil ?_
      exact rfl
    case hT =>
      simp only [chainT]
      have hdr : Below wr.heap.size wr wr.drew := ⟨rfl, rfl, rfl, Nat.le_refl _, fun _ _ => rfl⟩
      have hRs : R ≤ wr.heap.size := by have := HBW.out.size; rw [HRR.out] at this; exact this
      have HRD := Lib.hid (HRW.out.below hdr)
      have HBD : Hid (Below R w1 wr.drew) := HBW.out.trans (hdr.mono hRs)
      have HRS : Hid (R ≤ wr.drew.heap.size) := hRs
      have x3' : wr.drew.cell? ⟨w.heap.size, 3, none⟩ = some (.int .i64 (D : Int)) := x3
      have y0' : wr.drew.cell? ⟨w.heap.size + 1, 0, none⟩ = some (.slice (some ⟨g0, o0, none⟩) n0 c0) := y0
      have y1' : wr.drew.cell? ⟨w.heap.size + 1, 1, none⟩ = some (.slice (some ⟨g1, o1, none⟩) n1 c1) := y1
      have y2' : wr.drew.cell? ⟨w.heap.size + 1, 2, none⟩ = some (.slice (some ⟨g2, o2, none⟩) n2 c2) := y2
      clear x0 x1 x2 x3 y0 y1 y2 HRW HBW HBB gr' pr' hdr hRs sl
      generalize wr.drew = u0 at *
      have hbA : Below u0.heap.size u0 (u0.alloc (.cells #[.slice (some ⟨g0, o0 + L * 2, none⟩) D (c0 - L), .pointer (some ⟨g1, o1 + P, none⟩), .pointer (some ⟨g2, o2 + P, none⟩), .slice none 0 0] 124)) := (Below.refl _ _).alloc (Nat.le_refl _) _
      have C3 := (hbA.cell (World.block_lt_of_cell? _ _ x3')).trans x3'
      have C0 := (hbA.cell (World.block_lt_of_cell? _ _ y0')).trans y0'
      have C1 := (hbA.cell (World.block_lt_of_cell? _ _ y1')).trans y1'
      have C2 := (hbA.cell (World.block_lt_of_cell? _ _ y2')).trans y2'
      obtain ⟨hrc, hrf⟩ := (HRD.out.below hbA).cell hlt
      rw [if_neg (Nat.lt_irrefl k)] at hrc
      have hadd := HRD.out.add hlt (Nat.le_refl k) HRS.out
      rw [hFk.out] at hadd
      have HAD := Lib.hid hadd
      have HBN : Hid (Below R w1 ((u0.alloc (.cells #[.slice (some ⟨g0, o0 + L * 2, none⟩) D (c0 - L), .pointer (some ⟨g1, o1 + P, none⟩), .pointer (some ⟨g2, o2 + P, none⟩), .slice none 0 0] 124)).setCell ⟨R, k, none⟩ (ptrV u0.heap.size))) := (HBD.out.trans (hbA.mono HRS.out)).setCell (Nat.le_refl _) _
      clear x3' y0' y1' y2' hadd HRD HBD hbA
      go_wp2_with fail
      refine stepQ_normal ⟨⟨C3, C0, C1, C2⟩, ?_⟩
      clear C3 C0 C1 C2
      go_wp2_with fail
      refine stepQ_normal ⟨trivial, ?_⟩
      clear hrc hrf
      obtain ⟨q', hq'⟩ : ∃ f, upf q k u0.heap.size = f := ⟨_, rfl⟩
      obtain ⟨v', hv'⟩ : ∃ f, upf v k (.slice none 0 0) = f := ⟨_, rfl⟩
      rw [hq', hv'] at HAD
      unfold ptrV at HAD HBN
      generalize ((u0.alloc (.cells #[.slice (some ⟨g0, o0 + L * 2, none⟩) D (c0 - L), .pointer (some ⟨g1, o1 + P, none⟩), .pointer (some ⟨g2, o2 + P, none⟩), .slice none 0 0] 124)).setCell ⟨R, k, none⟩ (.pointer (some ⟨u0.heap.size, 0, none⟩))) = w6 at HAD HBN ⊢
      clear hq' hv' hFk e1 e2 e3 e4 w2' w3' w4' w5' hi1 hi2 HRS
      rcases Nat.eq_zero_or_pos k with hk0 | hk0
      · subst hk0
        go_wp2_with fail
        go_roundw
        case rel => exact ⟨1, q', v', by omega, by go_num, HAD.out.one, HBN.out⟩
        case measure => simp [intOf] <;> omega
      · obtain ⟨l, hl⟩ : ∃ l, k = l + 1 := ⟨k - 1, by omega⟩
        have HK := Lib.hid hl
        have tp : decide ((0 : Int) < (k : Int)) = true := decide_eq_true (by omega)
        have tp' : decide (0 < k) = true := decide_eq_true hk0
        have ek : (k : Int) - 1 = (l : Int) := by omega
        have wl : IntKind.i64.wrap (l : Int) = (l : Int) := IntWalk.i64_in _ (by omega)
        have hlm : l < m := by omega
        have hl1 : (l : Int) < (m : Int) := by omega
        obtain ⟨hcl, _⟩ := HAD.out.cell hlm
        obtain ⟨hck, _⟩ := HAD.out.cell hlt
        rw [if_pos (by omega)] at hcl hck
        have hne : q' l ≠ q' k := HAD.out.qq l k (by omega) (by omega) (by omega)
        have hqa := HAD.out.qb l (by omega)
        have hqb := HAD.out.qb k (by omega)
        have hva := HAD.out.vb l (by omega)
        have hvb := HAD.out.vb k (by omega)
        have hvv := HAD.out.vv l k (by omega) (by omega) (by omega)
        have hna := nbrs_length q' k l
        have hnb := nbrs_length q' k k
        have hcl' : w6.cell? ⟨R, l, none⟩ = some (.pointer (some ⟨q' l, 0, none⟩)) := hcl
        have hck' : w6.cell? ⟨R, k, none⟩ = some (.pointer (some ⟨q' k, 0, none⟩)) := hck
        have hR6 : R ≤ w6.heap.size := by have := HBN.out.size; rw [HRR.out] at this; exact this
        have hLK : ∀ (w7 w8 : World), Below w6.heap.size w6 w7 → ∀ va' vb', Linked w7 w8 R (q' l) (q' k) (nbrs q' k l).length (nbrs q' k k).length (fun v => #[.slice (some ⟨g0, o0 + (B0 + l) * D * 2, none⟩) D (c0 - (B0 + l) * D), .pointer (some ⟨g1, o1 + (B0 + l), none⟩), .pointer (some ⟨g2, o2 + (B0 + l), none⟩), v]) (fun v => #[.slice (some ⟨g0, o0 + (B0 + k) * D * 2, none⟩) D (c0 - (B0 + k) * D), .pointer (some ⟨g1, o1 + (B0 + k), none⟩), .pointer (some ⟨g2, o2 + (B0 + k), none⟩), v]) (v' l) (v' k) va' vb' (nbrs q' k l) (nbrs q' k k) →
            RowsT w8 R m (rowF g0 o0 c0 g1 o1 g2 o2 D B0) R (k + 1) (k + 1) q' (upf (upf v' l va') k vb') ∧ Below R w1 w8 := by
          intro w7 w8 hb7 va' vb' hL
          have hB8 : Below R w1 w8 := (HBN.out.trans (hb7.mono hR6)).trans (hL.below hqa.1 hqb.1 (fun g hg => (World.ownsRow.lt hva g hg).1) (fun g hg => (World.ownsRow.lt hvb g hg).1) (Nat.le_trans hR6 hb7.size))
          refine ⟨?_, hB8⟩
          have h6 := HAD.out.below hb7
          clear hcl hck hcl' hck' hqa hqb hva hvb hvv
          subst hl
          exact h6.link hL
        have HLK := Lib.hid hLK
        have HNE := Lib.hid hne
        have HQA := Lib.hid hqa.2
        have HQB := Lib.hid hqb.2
        have HVA := Lib.hid hva
        have HVB := Lib.hid hvb
        have HVV := Lib.hid hvv
        have HNA := Lib.hid hna
        have HNB := Lib.hid hnb
        have HR6 := Lib.hid hR6
        have z0 := fun q : Later w6 => q.cell hcl'
        have z1 := fun q : Later w6 => q.cell hck'
        clear hLK hne hqa hqb hva hvb hvv hna hnb hR6 hcl hck hcl' hck' hl
        go_wp2_with fail
        refine wp_region_later_tail 9 (by kernel_rfl) (by kernel_rfl) ?_
        simp only [List.take_succ_cons, List.take_zero, List.drop_succ_cons, List.drop_zero]
        repeat (go_big_quiet_step (fail))
        refine wpQuiet_nil ?_
        rintro w7 ⟨zz, hz⟩
        have hb7 : Below w6.heap.size w6 w7 := hz ▸ zz.ok
        have HB7 := Lib.hid hb7
        clear z0 z1 hz zz
        have hr7 := fun {n : Nat} {v : Value} {xs : List Value} (h : w6.ownsRow R 102 1 v n xs) => ownsRow_below h hb7
        have hqa7 := keep_block hb7 HQA.out (lt_of_block HQA.out)
        have hqb7 := keep_block hb7 HQB.out (lt_of_block HQB.out)
        have HQA7 := Lib.hid hqa7
        have HQB7 := Lib.hid hqb7
        have HVA7 := Lib.hid (hr7 HVA.out)
        have HVB7 := Lib.hid (hr7 HVB.out)
        have HR7 : Hid (R ≤ w7.heap.size) := Nat.le_trans HR6.out hb7.size
        clear hb7 hr7 hqa7 hqb7
        go_wp2_with fail
        refine (implBecome_is HNE.out HQA7.out HQB7.out HVA7.out HVB7.out HVV.out HNA.out HNB.out HR7.out).mono ?_
        rintro e w8 ⟨rfl, va', vb', hL⟩
        obtain ⟨hrow, hbel⟩ := HLK.out w7 w8 HB7.out va' vb' hL
        have HROW := Lib.hid hrow
        have HBEL := Lib.hid hbel
        clear hrow hbel hL
        go_wp2_with fail
        go_roundw
        case rel => exact ⟨k + 1, q', _, by omega, by go_num, HROW.out, HBEL.out⟩
        case measure => simp [intOf]; omega

end Go.Proofs.Ytfpfgaifhmgpiaa

namespace Go.Proofs.Ytfpfgaifhmgpiaa
open Go.RowKit Go.PlainAid

set_option linter.unusedVariables false

/-- The rows of a bank of an array whose addresses are known. -/
theorem rowsAt_is (ga gb bk : Int) {m D B0 g0 o0 n0 c0 g1 o1 n1 c1 g2 o2 n2 c2 : Nat} {x : Arr} {w : World} (h : arrK.rd w [.slice (some ⟨g0, o0, none⟩) n0 c0, .slice (some ⟨g1, o1, none⟩) n1 c1, .slice (some ⟨g2, o2, none⟩) n2 c2] x) (ha : ArrOk ga gb (m : Int) (D : Int) x) (hr : AdOk ga gb (m : Int) (D : Int) bk 0 0) (hB0 : bk * (m : Int) = B0) :
    Calls Try.prog 81 #[.agg #[.int .i64 ga, .int .i64 gb, .int .i64 (m : Int), .int .i64 (D : Int)], .agg #[.slice (some ⟨g0, o0, none⟩) n0 c0, .slice (some ⟨g1, o1, none⟩) n1 c1, .slice (some ⟨g2, o2, none⟩) n2 c2], .int .i64 bk] w fun e w' => ∃ (R : Nat) (q : Nat → Nat) (v : Nat → Value) (B : Nat), e = .returned (.slice (some ⟨R, 0, none⟩) m m) ∧ RowsT w' B m (rowF g0 o0 c0 g1 o1 g2 o2 D B0) R m m q v ∧ Below w.heap.size w w' := by
  refine (implRows_is ga gb bk h ha hr hB0).mono ?_
  rintro e w' ⟨g0', o0', n0', c0', g1', o1', n1', c1', g2', o2', n2', c2', R, q, v, B, ec, rfl, _, hrow, hb⟩
  simp only [List.cons.injEq, Value.slice.injEq, Option.some.injEq, Addr.mk.injEq, and_true] at ec
  obtain ⟨⟨⟨rfl, rfl⟩, rfl, rfl⟩, ⟨⟨rfl, rfl⟩, rfl, rfl⟩, ⟨rfl, rfl⟩, rfl, rfl⟩ := ec
  exact ⟨R, q, v, B, rfl, hrow, hb⟩

/-- The addresses of a valid array's rows. -/
theorem arr_addrs {ga gb bk : Int} {m D : Nat} {a0 a1 a2 : Option Addr} {n0 c0 n1 c1 n2 c2 : Nat} {x : Arr} {w : World} (h : arrK.rd w [.slice a0 n0 c0, .slice a1 n1 c1, .slice a2 n2 c2] x) (ha : ArrOk ga gb (m : Int) (D : Int) x) (hr : AdOk ga gb (m : Int) (D : Int) bk 0 0) :
    ∃ g0 o0 g1 o1 g2 o2, a0 = some ⟨g0, o0, none⟩ ∧ a1 = some ⟨g1, o1, none⟩ ∧ a2 = some ⟨g2, o2, none⟩ := by
  obtain ⟨b0, k0, d0, b1, k1, d1, b2, k2, d2, e, h0, h1, h2⟩ := arr_rd h
  simp only [List.cons.injEq, Value.slice.injEq, and_true] at e
  obtain ⟨⟨rfl, rfl, rfl⟩, ⟨rfl, rfl, rfl⟩, rfl, rfl, rfl⟩ := e
  obtain ⟨i', D', _, hD', _, hic, _⟩ := row_near ha hr
  obtain ⟨j, hj, hj1, hj2, _⟩ := row_place ha hr
  have hD8 := ha.1.2.2.2
  have hx0 : 0 < x.1.length := by omega
  obtain ⟨g0, o0, e0⟩ := row_addr h0 hx0
  obtain ⟨g1, o1, e1⟩ := row_addr h1 (by omega)
  obtain ⟨g2, o2, e2⟩ := row_addr h2 (by omega)
  exact ⟨g0, o0, g1, o1, g2, o2, e0, e1, e2⟩

theorem goneAt_is {g0 o0 c0 g1 o1 g2 o2 D B0 i Q : Nat} {vv : Value} {la lh ua uh : Int} {w u : World} (hC : Below w.heap.size w u) (hq : u.heap[Q]? = some (.cells (rowF g0 o0 c0 g1 o1 g2 o2 D B0 i vv) 124 (0, 0)))
    (hy : w.cell? ⟨g1, o1 + (B0 + i), none⟩ = some (.int .i64 ua)) (hz : w.cell? ⟨g2, o2 + (B0 + i), none⟩ = some (.int .i64 uh)) (b : Bool) (hb : decide (la < ua ∨ lh < uh) = b) :
    Calls Try.prog 82 #[.pointer (some ⟨Q, 0, none⟩), .agg #[.int .i64 la, .int .i64 lh]] u (Gives (.bool b) u) :=
  implGone_is hq ((hC.cell (World.block_lt_of_cell? _ _ hy)).trans hy) ((hC.cell (World.block_lt_of_cell? _ _ hz)).trans hz) b hb

set_option maxHeartbeats 16000000 in
set_option maxRecDepth 100000 in
theorem implRowDecayed_is : IRowDecayed := by
  intro ga gb gr gd la lh bk rw cs x v hv w h hf
  obtain ⟨a0, n0, c0, a1, n1, c1, a2, n2, c2, rfl, h0, h1, h2⟩ := arr_rd h
  obtain ⟨w1, hw1⟩ : ∃ u, ((w.alloc (.cells #[.int .i64 ga, .int .i64 gb, .int .i64 gr, .int .i64 gd] 25)).alloc (.cells #[.int .i64 la, .int .i64 lh] 27)).alloc (.cells #[.slice a0 n0 c0, .slice a1 n1 c1, .slice a2 n2 c2] 31) = u := ⟨_, rfl⟩
  obtain ⟨gg1, ll1, pp1, hb1⟩ := alloc3 hw1
  have HB1 := Lib.hid hb1
  have H1 := Lib.hid (arrK.below h hb1)
  have HV := Lib.hid hv
  have HF := Lib.hid hf
  obtain ⟨x0, x1, x2, x3⟩ := cells4 gg1
  obtain ⟨y0, y1⟩ := cells2 ll1
  obtain ⟨z0, z1, z2⟩ := cells3 pp1
  clear h h0 h1 h2 hb1 hv hf
  by_cases ha : ArrOk ga gb gr gd x
  case neg =>
    have KA := Lib.hid (decide_eq_false ha)
    have HE : Hid (false = v) := by rw [← HV.out]; exact (decide_eq_false (fun h => ha h.1)).symm
    clear ha
    have zx0 := fun q : Later w1 => q.cell x0
    have zx1 := fun q : Later w1 => q.cell x1
    have zx2 := fun q : Later w1 => q.cell x2
    have zx3 := fun q : Later w1 => q.cell x3
    have zz0 := fun q : Later w1 => q.cell z0
    have zz1 := fun q : Later w1 => q.cell z1
    have zz2 := fun q : Later w1 => q.cell z2
    clear x0 x1 x2 x3 y0 y1 z0 z1 z2
    go_enter Try.func34, Try.ntmps34
    go_wp2_with fail
    refine wp_region_later (by kernel_rfl) (by kernel_rfl) ?_
    repeat (go_big_quiet_step (first | (go_at_call 26; exact Gives.later _ (implArrayOk_is _ _ _ _ _ _ false KA.out _ (arrK.below H1.out (Later.ok _)) HF.out))))
    refine wpQuiet_nil ?_
    rintro w2 ⟨zz, hz⟩
    have HB2 : Hid (Below w.heap.size w w2) := HB1.out.trans ((hz ▸ zz.ok : Below w1.heap.size w1 w2).mono HB1.out.size)
    clear zx0 zx1 zx2 zx3 zz0 zz1 zz2 hz zz
    go_wp2_with fail
    go_ret
    exact ⟨ret_b HE.out, HB2.out⟩
  have KA := Lib.hid (decide_eq_true ha)
  by_cases hr : AdOk ga gb gr gd bk rw 0
  case neg =>
    have KR := Lib.hid (decide_eq_false hr)
    have HE : Hid (false = v) := by rw [← HV.out]; exact (decide_eq_false (fun h => hr h.2.1)).symm
    clear ha hr
    have zx0 := fun q : Later w1 => q.cell x0
    have zx1 := fun q : Later w1 => q.cell x1
    have zx2 := fun q : Later w1 => q.cell x2
    have zx3 := fun q : Later w1 => q.cell x3
    have zz0 := fun q : Later w1 => q.cell z0
    have zz1 := fun q : Later w1 => q.cell z1
    have zz2 := fun q : Later w1 => q.cell z2
    clear x0 x1 x2 x3 y0 y1 z0 z1 z2
    go_enter Try.func34, Try.ntmps34
    go_wp2_with fail
    refine wp_region_later (by kernel_rfl) (by kernel_rfl) ?_
    repeat (go_big_quiet_step (first | (go_at_call 26; exact Gives.later _ (implArrayOk_is _ _ _ _ _ _ true KA.out _ (arrK.below H1.out (Later.ok _)) HF.out)) | (go_at_call 80; exact Gives.later _ (implRowExists_is _ _ _ _ _ _ false KR.out _))))
    refine wpQuiet_nil ?_
    rintro w2 ⟨zz, hz⟩
    have HB2 : Hid (Below w.heap.size w w2) := HB1.out.trans ((hz ▸ zz.ok : Below w1.heap.size w1 w2).mono HB1.out.size)
    clear zx0 zx1 zx2 zx3 zz0 zz1 zz2 hz zz
    go_wp2_with fail
    go_ret
    exact ⟨ret_b HE.out, HB2.out⟩
  have KR := Lib.hid (decide_eq_true hr)
  obtain ⟨pl, hpl, hp1, hp2, _, hq1, _⟩ := row_place ha hr
  have hgeo := ha.1
  obtain ⟨m, rfl⟩ : ∃ m : Nat, gr = m := ⟨gr.toNat, by have := hgeo.2.2.1; omega⟩
  obtain ⟨D, rfl⟩ : ∃ D : Nat, gd = D := ⟨gd.toNat, by have := hgeo.2.2.2; omega⟩
  obtain ⟨i, rfl⟩ : ∃ i : Nat, rw = i := ⟨rw.toNat, by have := hr.2.1; omega⟩
  obtain ⟨B0, hB0⟩ : ∃ B0 : Nat, bk * (m : Int) = B0 := ⟨(bk * (m : Int)).toNat, by omega⟩
  have hr0 : AdOk ga gb (m : Int) (D : Int) bk 0 0 := ⟨hr.1, ⟨by omega, by have := hr.2.1; omega⟩, hr.2.2⟩
  obtain ⟨g0, o0, g1, o1, g2, o2, rfl, rfl, rfl⟩ := arr_addrs H1.out ha hr0
  have hlt : i < m := by have := hr.2.1; omega
  have hli : (i : Int) < (m : Int) := by omega
  have hpe : pl = B0 + i := by omega
  subst hpe
  obtain ⟨_, _, _, _, _, _, _, _, _, ec, _, h1, h2⟩ := arr_rd H1.out
  simp only [List.cons.injEq, Value.slice.injEq, and_true] at ec
  obtain ⟨⟨rfl, rfl, rfl⟩, ⟨rfl, rfl, rfl⟩, rfl, rfl, rfl⟩ := ec
  obtain ⟨_, _, e1, cy⟩ := (ints_row h1).at hp1
  cases e1
  obtain ⟨_, _, e2, cz⟩ := (ints_row h2).at hp2
  cases e2
  have KG : Hid (decide (la < x.2.1.getD (B0 + i) 0 ∨ lh < x.2.2.getD (B0 + i) 0) = v) := by
    show _ = _
    rw [← HV.out]
    have e : (bk * (m : Int) + (i : Int)).toNat = B0 + i := by omega
    refine decide_eq_decide.2 ⟨fun h => ⟨ha, hr, ?_⟩, fun h => ?_⟩
    · rw [e]; exact h
    · have := h.2.2
      rw [e] at this; exact this
  have CY := Lib.hid cy
  have CZ := Lib.hid cz
  have HA := Lib.hid ha
  have HR0 := Lib.hid hr0
  have HB0 := Lib.hid hB0
  clear ha hr hgeo hB0 hr0 h1 h2 cy cz hp1 hp2 hpl hq1 HV x0 x1 x2 x3 y0 y1 z0 z1 z2
  go_enter Try.func34, Try.ntmps34
  go_wp2_with fail
  refine wp_region_flowV (fun k => match k with | 0 => some (.agg #[.int .i64 ga, .int .i64 gb, .int .i64 (m : Int), .int .i64 (D : Int)]) | 1 => some (.agg #[.slice (some ⟨g0, o0, none⟩) n0 c0, .slice (some ⟨g1, o1, none⟩) n1 c1, .slice (some ⟨g2, o2, none⟩) n2 c2]) | 2 => some (.bool true) | 3 => some (.bool true) | 4 => some (.agg #[.int .i64 ga, .int .i64 gb, .int .i64 (m : Int), .int .i64 (D : Int)]) | 5 => some (.int .i64 bk) | 6 => some (.int .i64 (i : Int)) | 7 => some (.bool true) | 8 => some (.bool true) | 9 => some (.bool true) | 10 => some (.agg #[.int .i64 ga, .int .i64 gb, .int .i64 (m : Int), .int .i64 (D : Int)]) | 11 => some (.agg #[.slice (some ⟨g0, o0, none⟩) n0 c0, .slice (some ⟨g1, o1, none⟩) n1 c1, .slice (some ⟨g2, o2, none⟩) n2 c2]) | 12 => some (.int .i64 bk) | 14 => some (.int .i64 (i : Int)) | 17 => some (.agg #[.int .i64 la, .int .i64 lh]) | 18 => some (.bool v) | 19 => some (.bool v) | 20 => some (.bool v) | _ => none) (fun listed x u => FactW 13 15 (fun q u => ∃ (R : Nat) (qq : Nat → Nat) (vv : Nat → Value) (B : Nat), q = .slice (some ⟨R, 0, none⟩) m m ∧ RowsT u B m (rowF g0 o0 c0 g1 o1 g2 o2 D B0) R m m qq vv) listed x u ∧ FactW 15 16 (fun q u => ∃ (R : Nat) (qq : Nat → Nat) (vv : Nat → Value) (B : Nat), q = .pointer (some ⟨R, i, none⟩) ∧ RowsT u B m (rowF g0 o0 c0 g1 o1 g2 o2 D B0) R m m qq vv) listed x u ∧ FactW 16 18 (fun q u => ∃ (Q : Nat) (vv : Value), q = .pointer (some ⟨Q, 0, none⟩) ∧ u.heap[Q]? = some (.cells (rowF g0 o0 c0 g1 o1 g2 o2 D B0 i vv) 124 (0, 0))) listed x u) (upd (fun _ => undef) 20 (.bool false)) (by kernel_rfl) (by kernel_rfl) ?hxR ?hSR ?hsR ?heR
  case hxR => simp only [putsX, Act.put, List.setIfInBounds_toArray, List.set_cons_zero, List.set_cons_succ, upd, Nat.reduceEqDiff, reduceIte]
  case hSR => exact ⟨FactW.zero _ _ _ _ _ _, FactW.zero _ _ _ _ _ _, FactW.zero _ _ _ _ _ _⟩
  case hsR =>
    simp only [flowSteps]
    refine ⟨?sR_0, ?sR_1, ?sR_2, ?sR_3, ?sR_4, ?sR_5, ?sR_6, ?sR_7, ?sR_8, ?sR_9, ?sR_10, ?sR_11, ?sR_12, ?sR_13, ?sR_14, ?sR_15, ?sR_16, ?sR_17, ?sR_18, ?sR_19, ?sR_20, trivial⟩
    case sR_0 =>
      intro listed bb u hsz hn hwt hinv
      obtain ⟨x, rfl, hC, hU, hS, hT, hQ⟩ := hinv
      simp only [putsX, Act.put, List.setIfInBounds_toArray, List.set_cons_zero, List.set_cons_succ]
      obtain ⟨d0, d1, d2, d3⟩ := cells4 (keep_block hC gg1 (lt_of_block gg1))
      go_wp2_with fail
      refine stepQ_normal ⟨trivial, upd x 0 (.agg #[.int .i64 ga, .int .i64 gb, .int .i64 (m : Int), .int .i64 (D : Int)]), ?_, hC, hU.step (fun _ h => Option.some.inj h), hS.keep (by decide) (by decide) _ id, hT.keep (by decide) (by decide) _ id, hQ.keep (by decide) (by decide) _ id⟩
      simp only [upd]
      rfl
    case sR_1 =>
      intro listed bb u hsz hn hwt hinv
      obtain ⟨x, rfl, hC, hU, hS, hT, hQ⟩ := hinv
      simp only [putsX, Act.put, List.setIfInBounds_toArray, List.set_cons_zero, List.set_cons_succ]
      obtain ⟨d0, d1, d2⟩ := cells3 (keep_block hC pp1 (lt_of_block pp1))
      go_wp2_with fail
      refine stepQ_normal ⟨trivial, upd x 1 (.agg #[.slice (some ⟨g0, o0, none⟩) n0 c0, .slice (some ⟨g1, o1, none⟩) n1 c1, .slice (some ⟨g2, o2, none⟩) n2 c2]), ?_, hC, hU.step (fun _ h => Option.some.inj h), hS.keep (by decide) (by decide) _ id, hT.keep (by decide) (by decide) _ id, hQ.keep (by decide) (by decide) _ id⟩
      simp only [upd]
      rfl
    case sR_2 =>
      intro listed bb u hsz hn hwt hinv
      obtain ⟨x, rfl, hC, hU, hS, hT, hQ⟩ := hinv
      have f0 := Lib.hid (hU 0 _ rfl (hwt 0 (by kernel_rfl)))
      have f1 := Lib.hid (hU 1 _ rfl (hwt 1 (by kernel_rfl)))
      simp only [putsX, Act.put, List.setIfInBounds_toArray, List.set_cons_zero, List.set_cons_succ]
      have hcall : Calls Try.prog 26 #[x 0, x 1] u (Gives (.bool true) u) := by rw [f0.out, f1.out]; exact implArrayOk_is ga gb (m : Int) (D : Int) _ _ true KA.out u (arrK.below H1.out hC) HF.out
      go_wp2_with fail
      refine hcall.mono ?_
      rintro e' u' ⟨rfl, hb⟩
      go_wp2_with fail
      refine stepQ_normal ⟨trivial, upd x 2 (.bool true), ?_, hC.trans (hb.mono hC.size), hU.step (fun _ h => Option.some.inj h), hS.keep (by decide) (by decide) _ (fun ⟨R, qq, vv, B, e, hr⟩ => ⟨R, qq, vv, B, e, hr.below (hb)⟩), hT.keep (by decide) (by decide) _ (fun ⟨R, qq, vv, B, e, hr⟩ => ⟨R, qq, vv, B, e, hr.below (hb)⟩), hQ.keep (by decide) (by decide) _ (fun ⟨Q, vv, e, hh⟩ => ⟨Q, vv, e, keep_block (hb) hh (lt_of_block hh)⟩)⟩
      simp only [upd]
      rfl
    case sR_3 =>
      intro listed bb u hsz hn hwt hinv
      obtain ⟨x, rfl, hC, hU, hS, hT, hQ⟩ := hinv
      have f2 := Lib.hid (hU 2 _ rfl (hwt 2 (by kernel_rfl)))
      simp only [putsX, Act.put, List.setIfInBounds_toArray, List.set_cons_zero, List.set_cons_succ]
      rw [f2.out]
      go_wp2_with fail
      refine stepQ_normal ⟨trivial, upd x 3 (.bool true), ?_, hC, hU.step (fun _ h => Option.some.inj h), hS.keep (by decide) (by decide) _ id, hT.keep (by decide) (by decide) _ id, hQ.keep (by decide) (by decide) _ id⟩
      simp only [upd]
      simp only [f2.out]
      (try rfl)
    case sR_4 =>
      refine guardStep (fun listed bb u hsz hn hwt hinv => ?_) ?_
      · obtain ⟨x, rfl, hC, hU, hS, hT, hQ⟩ := hinv
        have f3 := Lib.hid (hU 3 _ rfl (hwt 3 (by kernel_rfl)))
        simp only [putsX, Act.put, List.setIfInBounds_toArray, List.set_cons_zero, List.set_cons_succ]
        rw [f3.out]
        (show _ = true; kernel_rfl)
      intro listed bb u hsz hn hwt hinv
      obtain ⟨x, rfl, hC, hU, hS, hT, hQ⟩ := hinv
      simp only [putsX, Act.put, List.setIfInBounds_toArray, List.set_cons_zero, List.set_cons_succ]
      obtain ⟨d0, d1, d2, d3⟩ := cells4 (keep_block hC gg1 (lt_of_block gg1))
      go_wp2_with fail
      refine stepQ_normal ⟨trivial, upd x 4 (.agg #[.int .i64 ga, .int .i64 gb, .int .i64 (m : Int), .int .i64 (D : Int)]), ?_, hC, hU.step (fun _ h => Option.some.inj h), hS.keep (by decide) (by decide) _ id, hT.keep (by decide) (by decide) _ id, hQ.keep (by decide) (by decide) _ id⟩
      simp only [upd]
      rfl
    case sR_5 =>
      refine guardStep (fun listed bb u hsz hn hwt hinv => ?_) ?_
      · obtain ⟨x, rfl, hC, hU, hS, hT, hQ⟩ := hinv
        have f3 := Lib.hid (hU 3 _ rfl (hwt 3 (by kernel_rfl)))
        simp only [putsX, Act.put, List.setIfInBounds_toArray, List.set_cons_zero, List.set_cons_succ]
        rw [f3.out]
        (show _ = true; kernel_rfl)
      intro listed bb u hsz hn hwt hinv
      obtain ⟨x, rfl, hC, hU, hS, hT, hQ⟩ := hinv
      simp only [putsX, Act.put, List.setIfInBounds_toArray, List.set_cons_zero, List.set_cons_succ]
      go_wp2_with fail
      refine stepQ_normal ⟨trivial, upd x 5 (.int .i64 bk), ?_, hC, hU.step (fun _ h => Option.some.inj h), hS.keep (by decide) (by decide) _ id, hT.keep (by decide) (by decide) _ id, hQ.keep (by decide) (by decide) _ id⟩
      simp only [upd]
      rfl
    case sR_6 =>
      refine guardStep (fun listed bb u hsz hn hwt hinv => ?_) ?_
      · obtain ⟨x, rfl, hC, hU, hS, hT, hQ⟩ := hinv
        have f3 := Lib.hid (hU 3 _ rfl (hwt 3 (by kernel_rfl)))
        simp only [putsX, Act.put, List.setIfInBounds_toArray, List.set_cons_zero, List.set_cons_succ]
        rw [f3.out]
        (show _ = true; kernel_rfl)
      intro listed bb u hsz hn hwt hinv
      obtain ⟨x, rfl, hC, hU, hS, hT, hQ⟩ := hinv
      simp only [putsX, Act.put, List.setIfInBounds_toArray, List.set_cons_zero, List.set_cons_succ]
      go_wp2_with fail
      refine stepQ_normal ⟨trivial, upd x 6 (.int .i64 (i : Int)), ?_, hC, hU.step (fun _ h => Option.some.inj h), hS.keep (by decide) (by decide) _ id, hT.keep (by decide) (by decide) _ id, hQ.keep (by decide) (by decide) _ id⟩
      simp only [upd]
      rfl
    case sR_7 =>
      refine guardStep (fun listed bb u hsz hn hwt hinv => ?_) ?_
      · obtain ⟨x, rfl, hC, hU, hS, hT, hQ⟩ := hinv
        have f3 := Lib.hid (hU 3 _ rfl (hwt 3 (by kernel_rfl)))
        simp only [putsX, Act.put, List.setIfInBounds_toArray, List.set_cons_zero, List.set_cons_succ]
        rw [f3.out]
        (show _ = true; kernel_rfl)
      intro listed bb u hsz hn hwt hinv
      obtain ⟨x, rfl, hC, hU, hS, hT, hQ⟩ := hinv
      have f4 := Lib.hid (hU 4 _ rfl (hwt 4 (by kernel_rfl)))
      have f5 := Lib.hid (hU 5 _ rfl (hwt 5 (by kernel_rfl)))
      have f6 := Lib.hid (hU 6 _ rfl (hwt 6 (by kernel_rfl)))
      simp only [putsX, Act.put, List.setIfInBounds_toArray, List.set_cons_zero, List.set_cons_succ]
      have hcall : Calls Try.prog 80 #[x 4, x 5, x 6] u (Gives (.bool true) u) := by rw [f4.out, f5.out, f6.out]; exact implRowExists_is ga gb (m : Int) (D : Int) bk (i : Int) true KR.out u
      go_wp2_with fail
      refine hcall.mono ?_
      rintro e' u' ⟨rfl, hb⟩
      go_wp2_with fail
      refine stepQ_normal ⟨trivial, upd x 7 (.bool true), ?_, hC.trans (hb.mono hC.size), hU.step (fun _ h => Option.some.inj h), hS.keep (by decide) (by decide) _ (fun ⟨R, qq, vv, B, e, hr⟩ => ⟨R, qq, vv, B, e, hr.below (hb)⟩), hT.keep (by decide) (by decide) _ (fun ⟨R, qq, vv, B, e, hr⟩ => ⟨R, qq, vv, B, e, hr.below (hb)⟩), hQ.keep (by decide) (by decide) _ (fun ⟨Q, vv, e, hh⟩ => ⟨Q, vv, e, keep_block (hb) hh (lt_of_block hh)⟩)⟩
      simp only [upd]
      rfl
    case sR_8 =>
      intro listed bb u hsz hn hwt hinv
      obtain ⟨x, rfl, hC, hU, hS, hT, hQ⟩ := hinv
      have f3 := Lib.hid (hU 3 _ rfl (hwt 3 (by kernel_rfl)))
      have f7 := Lib.hid (hU 7 _ rfl (hwt 7 (by kernel_rfl)))
      simp only [putsX, Act.put, List.setIfInBounds_toArray, List.set_cons_zero, List.set_cons_succ]
      rw [f3.out]
      rw [f7.out]
      go_wp2_with fail
      refine stepQ_normal ⟨trivial, upd x 8 (.bool true), ?_, hC, hU.step (fun _ h => Option.some.inj h), hS.keep (by decide) (by decide) _ id, hT.keep (by decide) (by decide) _ id, hQ.keep (by decide) (by decide) _ id⟩
      simp only [upd]
      simp only [f3.out, f7.out]
      (try rfl)
    case sR_9 =>
      intro listed bb u hsz hn hwt hinv
      obtain ⟨x, rfl, hC, hU, hS, hT, hQ⟩ := hinv
      have f8 := Lib.hid (hU 8 _ rfl (hwt 8 (by kernel_rfl)))
      simp only [putsX, Act.put, List.setIfInBounds_toArray, List.set_cons_zero, List.set_cons_succ]
      rw [f8.out]
      go_wp2_with fail
      refine stepQ_normal ⟨trivial, upd x 9 (.bool true), ?_, hC, hU.step (fun _ h => Option.some.inj h), hS.keep (by decide) (by decide) _ id, hT.keep (by decide) (by decide) _ id, hQ.keep (by decide) (by decide) _ id⟩
      simp only [upd]
      simp only [f8.out]
      (try rfl)
    case sR_10 =>
      refine guardStep (fun listed bb u hsz hn hwt hinv => ?_) ?_
      · obtain ⟨x, rfl, hC, hU, hS, hT, hQ⟩ := hinv
        have f9 := Lib.hid (hU 9 _ rfl (hwt 9 (by kernel_rfl)))
        simp only [putsX, Act.put, List.setIfInBounds_toArray, List.set_cons_zero, List.set_cons_succ]
        rw [f9.out]
        (show _ = true; kernel_rfl)
      intro listed bb u hsz hn hwt hinv
      obtain ⟨x, rfl, hC, hU, hS, hT, hQ⟩ := hinv
      simp only [putsX, Act.put, List.setIfInBounds_toArray, List.set_cons_zero, List.set_cons_succ]
      obtain ⟨d0, d1, d2, d3⟩ := cells4 (keep_block hC gg1 (lt_of_block gg1))
      go_wp2_with fail
      refine stepQ_normal ⟨trivial, upd x 10 (.agg #[.int .i64 ga, .int .i64 gb, .int .i64 (m : Int), .int .i64 (D : Int)]), ?_, hC, hU.step (fun _ h => Option.some.inj h), hS.keep (by decide) (by decide) _ id, hT.keep (by decide) (by decide) _ id, hQ.keep (by decide) (by decide) _ id⟩
      simp only [upd]
      rfl
    case sR_11 =>
      refine guardStep (fun listed bb u hsz hn hwt hinv => ?_) ?_
      · obtain ⟨x, rfl, hC, hU, hS, hT, hQ⟩ := hinv
        have f9 := Lib.hid (hU 9 _ rfl (hwt 9 (by kernel_rfl)))
        simp only [putsX, Act.put, List.setIfInBounds_toArray, List.set_cons_zero, List.set_cons_succ]
        rw [f9.out]
        (show _ = true; kernel_rfl)
      intro listed bb u hsz hn hwt hinv
      obtain ⟨x, rfl, hC, hU, hS, hT, hQ⟩ := hinv
      simp only [putsX, Act.put, List.setIfInBounds_toArray, List.set_cons_zero, List.set_cons_succ]
      obtain ⟨d0, d1, d2⟩ := cells3 (keep_block hC pp1 (lt_of_block pp1))
      go_wp2_with fail
      refine stepQ_normal ⟨trivial, upd x 11 (.agg #[.slice (some ⟨g0, o0, none⟩) n0 c0, .slice (some ⟨g1, o1, none⟩) n1 c1, .slice (some ⟨g2, o2, none⟩) n2 c2]), ?_, hC, hU.step (fun _ h => Option.some.inj h), hS.keep (by decide) (by decide) _ id, hT.keep (by decide) (by decide) _ id, hQ.keep (by decide) (by decide) _ id⟩
      simp only [upd]
      rfl
    case sR_12 =>
      refine guardStep (fun listed bb u hsz hn hwt hinv => ?_) ?_
      · obtain ⟨x, rfl, hC, hU, hS, hT, hQ⟩ := hinv
        have f9 := Lib.hid (hU 9 _ rfl (hwt 9 (by kernel_rfl)))
        simp only [putsX, Act.put, List.setIfInBounds_toArray, List.set_cons_zero, List.set_cons_succ]
        rw [f9.out]
        (show _ = true; kernel_rfl)
      intro listed bb u hsz hn hwt hinv
      obtain ⟨x, rfl, hC, hU, hS, hT, hQ⟩ := hinv
      simp only [putsX, Act.put, List.setIfInBounds_toArray, List.set_cons_zero, List.set_cons_succ]
      go_wp2_with fail
      refine stepQ_normal ⟨trivial, upd x 12 (.int .i64 bk), ?_, hC, hU.step (fun _ h => Option.some.inj h), hS.keep (by decide) (by decide) _ id, hT.keep (by decide) (by decide) _ id, hQ.keep (by decide) (by decide) _ id⟩
      simp only [upd]
      rfl
    case sR_13 =>
      refine guardStep (fun listed bb u hsz hn hwt hinv => ?_) ?_
      · obtain ⟨x, rfl, hC, hU, hS, hT, hQ⟩ := hinv
        have f9 := Lib.hid (hU 9 _ rfl (hwt 9 (by kernel_rfl)))
        simp only [putsX, Act.put, List.setIfInBounds_toArray, List.set_cons_zero, List.set_cons_succ]
        rw [f9.out]
        (show _ = true; kernel_rfl)
      intro listed bb u hsz hn hwt hinv
      obtain ⟨x, rfl, hC, hU, hS, hT, hQ⟩ := hinv
      have f10 := Lib.hid (hU 10 _ rfl (hwt 10 (by kernel_rfl)))
      have f11 := Lib.hid (hU 11 _ rfl (hwt 11 (by kernel_rfl)))
      have f12 := Lib.hid (hU 12 _ rfl (hwt 12 (by kernel_rfl)))
      simp only [putsX, Act.put, List.setIfInBounds_toArray, List.set_cons_zero, List.set_cons_succ]
      have hcall : Calls Try.prog 81 #[x 10, x 11, x 12] u (fun e w' => ∃ (R : Nat) (qq : Nat → Nat) (vv : Nat → Value) (B : Nat), e = .returned (.slice (some ⟨R, 0, none⟩) m m) ∧ RowsT w' B m (rowF g0 o0 c0 g1 o1 g2 o2 D B0) R m m qq vv ∧ Below u.heap.size u w') := by rw [f10.out, f11.out, f12.out]; exact (rowsAt_is ga gb bk (arrK.below H1.out hC) HA.out HR0.out HB0.out)
      go_wp2_with fail
      refine hcall.mono ?_
      rintro e' u' ⟨R, qq, vv, B, rfl, hr, hb⟩
      go_wp2_with fail
      refine stepQ_normal ⟨trivial, upd x 13 (.slice (some ⟨R, 0, none⟩) m m), ?_, hC.trans (hb.mono hC.size), hU.step (fun _ h => by cases h), FactW.new ⟨R, qq, vv, B, rfl, hr⟩, hT.keep (by decide) (by decide) _ (fun ⟨R, qq, vv, B, e, hr⟩ => ⟨R, qq, vv, B, e, hr.below (hb)⟩), hQ.keep (by decide) (by decide) _ (fun ⟨Q, vv, e, hh⟩ => ⟨Q, vv, e, keep_block (hb) hh (lt_of_block hh)⟩)⟩
      simp only [upd]
      rfl
    case sR_14 =>
      refine guardStep (fun listed bb u hsz hn hwt hinv => ?_) ?_
      · obtain ⟨x, rfl, hC, hU, hS, hT, hQ⟩ := hinv
        have f9 := Lib.hid (hU 9 _ rfl (hwt 9 (by kernel_rfl)))
        simp only [putsX, Act.put, List.setIfInBounds_toArray, List.set_cons_zero, List.set_cons_succ]
        rw [f9.out]
        (show _ = true; kernel_rfl)
      intro listed bb u hsz hn hwt hinv
      obtain ⟨x, rfl, hC, hU, hS, hT, hQ⟩ := hinv
      simp only [putsX, Act.put, List.setIfInBounds_toArray, List.set_cons_zero, List.set_cons_succ]
      go_wp2_with fail
      refine stepQ_normal ⟨trivial, upd x 14 (.int .i64 (i : Int)), ?_, hC, hU.step (fun _ h => Option.some.inj h), hS.keep (by decide) (by decide) _ id, hT.keep (by decide) (by decide) _ id, hQ.keep (by decide) (by decide) _ id⟩
      simp only [upd]
      rfl
    case sR_15 =>
      refine guardStep (fun listed bb u hsz hn hwt hinv => ?_) ?_
      · obtain ⟨x, rfl, hC, hU, hS, hT, hQ⟩ := hinv
        have f9 := Lib.hid (hU 9 _ rfl (hwt 9 (by kernel_rfl)))
        simp only [putsX, Act.put, List.setIfInBounds_toArray, List.set_cons_zero, List.set_cons_succ]
        rw [f9.out]
        (show _ = true; kernel_rfl)
      intro listed bb u hsz hn hwt hinv
      obtain ⟨x, rfl, hC, hU, hS, hT, hQ⟩ := hinv
      have f14 := Lib.hid (hU 14 _ rfl (hwt 14 (by kernel_rfl)))
      simp only [putsX, Act.put, List.setIfInBounds_toArray, List.set_cons_zero, List.set_cons_succ]
      obtain ⟨R, qq, vv, B, fp, hr⟩ := hS (hwt 13 (by kernel_rfl)) hn
      have FP := Lib.hid fp
      rw [FP.out, f14.out]
      clear fp
      go_wp2_with fail
      refine stepQ_normal ⟨trivial, upd x 15 (.pointer (some ⟨R, i, none⟩)), ?_, hC, hU.step (fun _ h => by cases h), FactW.call (by rw [hsz]; decide), FactW.new ⟨R, qq, vv, B, rfl, hr⟩, hQ.keep (by decide) (by decide) _ id⟩
      simp only [upd]
      simp only [FP.out, f14.out]
      (try rfl)
    case sR_16 =>
      refine guardStep (fun listed bb u hsz hn hwt hinv => ?_) ?_
      · obtain ⟨x, rfl, hC, hU, hS, hT, hQ⟩ := hinv
        have f9 := Lib.hid (hU 9 _ rfl (hwt 9 (by kernel_rfl)))
        simp only [putsX, Act.put, List.setIfInBounds_toArray, List.set_cons_zero, List.set_cons_succ]
        rw [f9.out]
        (show _ = true; kernel_rfl)
      intro listed bb u hsz hn hwt hinv
      obtain ⟨x, rfl, hC, hU, hS, hT, hQ⟩ := hinv
      simp only [putsX, Act.put, List.setIfInBounds_toArray, List.set_cons_zero, List.set_cons_succ]
      obtain ⟨R, qq, vv, B, fp, hr⟩ := hT (hwt 15 (by kernel_rfl)) hn
      have FP := Lib.hid fp
      rw [FP.out]
      obtain ⟨hc, _⟩ := hr.cell hlt
      rw [if_pos hlt] at hc
      have d0 : u.cell? ⟨R, i, none⟩ = some (.pointer (some ⟨qq i, 0, none⟩)) := hc
      have hqb := (hr.qb i hlt).2
      clear fp hc
      go_wp2_with fail
      refine stepQ_normal ⟨trivial, upd x 16 (.pointer (some ⟨qq i, 0, none⟩)), ?_, hC, hU.step (fun _ h => by cases h), hS.keep (by decide) (by decide) _ id, FactW.call (by rw [hsz]; decide), FactW.new ⟨qq i, vv i, rfl, hqb⟩⟩
      simp only [upd]
      simp only [FP.out]
      (try rfl)
    case sR_17 =>
      refine guardStep (fun listed bb u hsz hn hwt hinv => ?_) ?_
      · obtain ⟨x, rfl, hC, hU, hS, hT, hQ⟩ := hinv
        have f9 := Lib.hid (hU 9 _ rfl (hwt 9 (by kernel_rfl)))
        simp only [putsX, Act.put, List.setIfInBounds_toArray, List.set_cons_zero, List.set_cons_succ]
        rw [f9.out]
        (show _ = true; kernel_rfl)
      intro listed bb u hsz hn hwt hinv
      obtain ⟨x, rfl, hC, hU, hS, hT, hQ⟩ := hinv
      simp only [putsX, Act.put, List.setIfInBounds_toArray, List.set_cons_zero, List.set_cons_succ]
      obtain ⟨d0, d1⟩ := cells2 (keep_block hC ll1 (lt_of_block ll1))
      go_wp2_with fail
      refine stepQ_normal ⟨trivial, upd x 17 (.agg #[.int .i64 la, .int .i64 lh]), ?_, hC, hU.step (fun _ h => Option.some.inj h), hS.keep (by decide) (by decide) _ id, hT.keep (by decide) (by decide) _ id, hQ.keep (by decide) (by decide) _ id⟩
      simp only [upd]
      rfl
    case sR_18 =>
      refine guardStep (fun listed bb u hsz hn hwt hinv => ?_) ?_
      · obtain ⟨x, rfl, hC, hU, hS, hT, hQ⟩ := hinv
        have f9 := Lib.hid (hU 9 _ rfl (hwt 9 (by kernel_rfl)))
        simp only [putsX, Act.put, List.setIfInBounds_toArray, List.set_cons_zero, List.set_cons_succ]
        rw [f9.out]
        (show _ = true; kernel_rfl)
      intro listed bb u hsz hn hwt hinv
      obtain ⟨x, rfl, hC, hU, hS, hT, hQ⟩ := hinv
      have f17 := Lib.hid (hU 17 _ rfl (hwt 17 (by kernel_rfl)))
      simp only [putsX, Act.put, List.setIfInBounds_toArray, List.set_cons_zero, List.set_cons_succ]
      obtain ⟨Q, vv, fp, hh⟩ := hQ (hwt 16 (by kernel_rfl)) hn
      have hgone := goneAt_is hC hh CY.out CZ.out v KG.out
      have hcall : Calls Try.prog 82 #[x 16, x 17] u (Gives (.bool v) u) := by rw [fp, f17.out]; exact hgone
      clear fp
      go_wp2_with fail
      refine hcall.mono ?_
      rintro e' u' ⟨rfl, hb⟩
      go_wp2_with fail
      refine stepQ_normal ⟨trivial, upd x 18 (.bool v), ?_, hC.trans (hb.mono hC.size), hU.step (fun _ h => Option.some.inj h), hS.keep (by decide) (by decide) _ (fun ⟨R, qq, vv, B, e, hr⟩ => ⟨R, qq, vv, B, e, hr.below (hb)⟩), hT.keep (by decide) (by decide) _ (fun ⟨R, qq, vv, B, e, hr⟩ => ⟨R, qq, vv, B, e, hr.below (hb)⟩), FactW.call (by rw [hsz]; decide)⟩
      simp only [upd]
      rfl
    case sR_19 =>
      intro listed bb u hsz hn hwt hinv
      obtain ⟨x, rfl, hC, hU, hS, hT, hQ⟩ := hinv
      have f9 := Lib.hid (hU 9 _ rfl (hwt 9 (by kernel_rfl)))
      have f18 := Lib.hid (hU 18 _ rfl (hwt 18 (by kernel_rfl)))
      simp only [putsX, Act.put, List.setIfInBounds_toArray, List.set_cons_zero, List.set_cons_succ]
      rw [f9.out]
      rw [f18.out]
      go_wp2_with fail
      refine stepQ_normal ⟨trivial, upd x 19 (.bool v), ?_, hC, hU.step (fun _ h => Option.some.inj h), hS.keep (by decide) (by decide) _ id, hT.keep (by decide) (by decide) _ id, hQ.keep (by decide) (by decide) _ id⟩
      simp only [upd]
      simp only [f9.out, f18.out]
      (try rfl)
    case sR_20 =>
      intro listed bb u hsz hn hwt hinv
      obtain ⟨x, rfl, hC, hU, hS, hT, hQ⟩ := hinv
      have f19 := Lib.hid (hU 19 _ rfl (hwt 19 (by kernel_rfl)))
      simp only [putsX, Act.put, List.setIfInBounds_toArray, List.set_cons_zero, List.set_cons_succ]
      rw [f19.out]
      go_wp2_with fail
      refine stepQ_normal ⟨trivial, upd x 20 (.bool v), ?_, hC, hU.step (fun _ h => Option.some.inj h), hS.keep (by decide) (by decide) _ id, hT.keep (by decide) (by decide) _ id, hQ.keep (by decide) (by decide) _ id⟩
      simp only [upd]
      simp only [f19.out]
      (try rfl)
  case heR =>
    intro listed q u hall hC hU _
    have fq := hU 20 _ rfl (hall 20 (by decide))
    have HB2 : Hid (Below w.heap.size w u) := HB1.out.trans (hC.mono HB1.out.size)
    simp only [putsX, Act.put, List.setIfInBounds_toArray, List.set_cons_zero, List.set_cons_succ]
    rw [fq]
    clear hall hU hC fq
    generalize q 0 = _q0, q 1 = _q1, q 2 = _q2, q 3 = _q3, q 4 = _q4, q 5 = _q5, q 6 = _q6, q 7 = _q7, q 8 = _q8, q 9 = _q9, q 10 = _q10, q 11 = _q11, q 12 = _q12, q 13 = _q13, q 14 = _q14, q 15 = _q15, q 16 = _q16, q 17 = _q17, q 18 = _q18, q 19 = _q19
    go_wp2_with fail
    go_ret
    exact ⟨rfl, HB2.out⟩

end Go.Proofs.Ytfpfgaifhmgpiaa

namespace Go.Proofs.Ytfpfgaifhmgpiaa
open Go.RowKit

set_option linter.unusedVariables false

theorem exRowDecayed_walk (ea eb ec ed : Int) (la lh : Int) (lx : List Value) (bk : Int) (rw : Int) (w : World) (_ : (Lit.int .i64 ea).wf = true) (_ : (Lit.int .i64 eb).wf = true) (_ : (Lit.int .i64 ec).wf = true) (_ : (Lit.int .i64 ed).wf = true) (_ : (Lit.int .i64 la).wf = true) (_ : (Lit.int .i64 lh).wf = true) (s : Sh.Fits w (.and (.row (.and (.row (.num .i64)) (.and .flag .fin))) (.and (.row (.num .i64)) (.and (.row (.num .i64)) .fin))) lx) (_ : (Lit.int .i64 bk).wf = true) (_ : (Lit.int .i64 rw).wf = true) :
    Calls Try.prog 7 #[.agg #[.int .i64 ea, .int .i64 eb, .int .i64 ec, .int .i64 ed], .agg #[.int .i64 la, .int .i64 lh], .agg lx.toArray, .int .i64 bk, .int .i64 rw] w fun e w' => e = .returned (.bool true) ∧ Below w.heap.size w w' := exRowDecayed_of (Lib.hid implRowDecayed_is) ea eb ec ed la lh lx bk rw w s

end Go.Proofs.Ytfpfgaifhmgpiaa

namespace Go.Proofs.Ytfpfgaifhmgpiaa
open Go.RowKit Go.PlainAid

set_option linter.unusedVariables false

theorem load_fit {ga gb gr gd bx br bc : Int} {x : Arr} (h : ArrFit x) : (loadF ga gb gr gd x bx br bc).1.1.length ≤ 4000000 := by
  unfold loadF
  split
  · show (x.1.getD _ ([], false)).1.length ≤ _
    rw [List.getD_eq_getElem?_getD]
    cases e : x.1[(idxF ga gb gr gd bx br bc).toNat]? with
    | none => simp
    | some c => exact h.2.1 c (List.mem_of_getElem? e)
  · simp

set_option maxHeartbeats 16000000 in
set_option maxRecDepth 100000 in
theorem exLoadCell_of (IMPL : Hid ILoadCell) (ea eb ec ed : Int) (lx : List Value) (bx br bc : Int) (w : World) (s : Sh.Fits w (.and (.row (.and (.row (.num .i64)) (.and .flag .fin))) (.and (.row (.num .i64)) (.and (.row (.num .i64)) .fin))) lx) :
    Calls Try.prog 9 #[.agg #[.int .i64 ea, .int .i64 eb, .int .i64 ec, .int .i64 ed], .agg lx.toArray, .agg #[.int .i64 bx, .int .i64 br, .int .i64 bc]] w fun e w' => e = .returned (.bool true) ∧ Below w.heap.size w w' := by
  obtain ⟨xx, hx⟩ := arr_in s
  obtain ⟨a0, n0, c0, a1, n1, c1, a2, n2, c2, rfl, _, _, _⟩ := arr_rd hx
  have HX0 := Lib.hid hx
  obtain ⟨sv, hsv⟩ : ∃ v, szF 1048576 (arrN xx) = v := ⟨_, rfl⟩
  have HSV := Lib.hid hsv
  obtain ⟨⟨⟨yl, yp⟩, ok⟩, hy⟩ : ∃ z, loadF ea eb ec ed xx bx br bc = z := ⟨_, rfl⟩
  have HY := Lib.hid hy
  have tkk : (ok != ok) = false := by simp
  have SPEC : Hid (∀ (u : World) (cs : List Value), arrK.rd u cs xx → ArrFit xx → Calls Try.prog 19 #[.agg #[.int .i64 ea, .int .i64 eb, .int .i64 ec, .int .i64 ed], .agg cs.toArray, .agg #[.int .i64 bx, .int .i64 br, .int .i64 bc]] u (GivesC (yl, yp) ok u)) := fun u cs h hf => by have := specLoadCell_is ea eb ec ed bx br bc h; rw [HY.out] at this; exact this
  have IM : Hid (∀ (u : World) (cs : List Value), arrK.rd u cs xx → ArrFit xx → Calls Try.prog 18 #[.agg #[.int .i64 ea, .int .i64 eb, .int .i64 ec, .int .i64 ed], .agg cs.toArray, .agg #[.int .i64 bx, .int .i64 br, .int .i64 bc]] u (GivesC (yl, yp) ok u)) := fun u cs h hf => by have := IMPL.out ea eb ec ed bx br bc cs xx u h hf; rw [HY.out] at this; exact this
  have HCY : Hid (ArrFit xx → yl.length ≤ 4000000) := fun h => by
    have h1 := load_fit (ga := ea) (gb := eb) (gr := ec) (gd := ed) (bx := bx) (br := br) (bc := bc) h
    rw [HY.out] at h1
    exact h1
  clear hy
  obtain ⟨w1, hw1⟩ : ∃ u, (((w.alloc (.cells #[.int .i64 ea, .int .i64 eb, .int .i64 ec, .int .i64 ed] 48)).alloc (.cells #[.slice a0 n0 c0, .slice a1 n1 c1, .slice a2 n2 c2] 51)).alloc (.cells #[.int .i64 bx, .int .i64 br, .int .i64 bc] 65)) = u := ⟨_, rfl⟩
  obtain ⟨gg1, mm1, aa1, hb1⟩ := alloc3 hw1
  have HB1 : Hid (Below w.heap.size w w1) := hb1
  clear hb1
  clear hx hsv
  go_enter Try.func9, Try.ntmps9
  obtain ⟨kmm0, kmm1, kmm2⟩ := cells3 mm1
  go_wp2_with fail
  refine (szArray_k (arrK.below HX0.out HB1.out) 1048576 sv (by decide) (by decide) HSV.out).mono ?_
  rintro e w2 ⟨rfl, hb2⟩
  clear kmm0 kmm1 kmm2
  have gg2 := keep_block hb2 gg1 (lt_of_block gg1)
  have mm2 := keep_block hb2 mm1 (lt_of_block mm1)
  have aa2 := keep_block hb2 aa1 (lt_of_block aa1)
  have HB2 : Hid (Below w.heap.size w w2) := HB1.out.trans (hb2.mono HB1.out.size)
  clear gg1 mm1 aa1 HB1
  clear hb2
  clear hw1
  by_cases hs : sv < 0
  · have ts : decide (sv < 0) = true := decide_eq_true hs
    go_wp2_with fail
    go_ret
    exact ⟨rfl, HB2.out⟩
  have ts : decide (sv < 0) = false := decide_eq_false hs
  have hfit := arr_size (x := xx) (by rw [HSV.out]; exact hs)
  have HFIT := Lib.hid hfit.1
  have HCNT := Lib.hid hfit.2
  clear hs hfit
  have HC := HCY.out HFIT.out
  have HCYN : Hid (yl.length ≤ 4000000) := HC
  have t1x : decide (((1 + aCnt xx : Nat) : Int) < 0) = false := decide_eq_false (by omega)
  have t1y : decide (((1 + yl.length : Nat) : Int) < 0) = false := decide_eq_false (by omega)
  have tyy : (((1 + yl.length : Nat) : Int) != ((1 + yl.length : Nat) : Int)) = false := by simp
  obtain ⟨ky, hky⟩ : ∃ z : Int, ((1 + yl.length : Nat) : Int) = z := ⟨_, rfl⟩
  obtain ⟨kx, hkx⟩ : ∃ z : Int, ((1 + aCnt xx : Nat) : Int) = z := ⟨_, rfl⟩
  rw [hky] at t1y tyy
  rw [hkx] at t1x
  have HKY := Lib.hid hky
  have HKX := Lib.hid hkx
  clear HC hky hkx
  go_wp2_with fail
  refine wp_region_flowV (fun k => match k with | 0 => some (.agg #[.int .i64 ea, .int .i64 eb, .int .i64 ec, .int .i64 ed]) | 1 => some (.agg #[.int .i64 ea, .int .i64 eb, .int .i64 ec, .int .i64 ed]) | 2 => some (.agg #[.slice a0 n0 c0, .slice a1 n1 c1, .slice a2 n2 c2]) | 4 => some (.agg #[.int .i64 bx, .int .i64 br, .int .i64 bc]) | 5 => some (.agg #[.int .i64 bx, .int .i64 br, .int .i64 bc]) | 9 => some (.bool ok) | 12 => some (.bool ok) | _ => none) (fun listed x u => FactW 3 6 (HasK arrK xx w2.heap.size) listed x u ∧ FactW 6 7 (HasT cellK (yl, yp) (.bool ok) w2.heap.size) listed x u ∧ FactW 7 8 (HasT cellK (yl, yp) (.bool ok) w2.heap.size) listed x u ∧ Fact 7 (fun q => ∃ cs : List Value, q = .tuple #[.agg cs.toArray, .bool ok]) listed x ∧ FactW 8 11 (HasK cellK (yl, yp) w2.heap.size) listed x u ∧ MadeK cellK 42 #[.slice none 0 0, .bool false] 10 11 w2.heap.size (yl, yp) listed x u) (fun _ => undef) (by kernel_rfl) (by kernel_rfl) ?hxR1 ?hSR1 ?hsR1 ?heR1
  case hxR1 => simp only [putsX, Act.put, List.setIfInBounds_toArray, List.set_cons_zero, List.set_cons_succ]
  case hSR1 => exact ⟨FactW.zero _ _ _ _ _ _, FactW.zero _ _ _ _ _ _, FactW.zero _ _ _ _ _ _, Fact.zero _ _ _ _, FactW.zero _ _ _ _ _ _, MadeK.zero _ _ _ _ _ _ _ _ _ _⟩
  case hsR1 =>
    simp only [flowSteps]
    refine ⟨?sR1_0, ?sR1_1, ?sR1_2, ?sR1_3, ?sR1_4, ?sR1_5, ?sR1_6, ?sR1_7, ?sR1_8, ?sR1_9, ?sR1_10, ?sR1_11, ?sR1_12, trivial⟩
    case sR1_0 =>
      intro listed bb u hsz hn hwt hinv
      obtain ⟨x, rfl, hC, hU, hA0, hT, hV, hP, hO, hM⟩ := hinv
      simp only [putsX, Act.put, List.setIfInBounds_toArray, List.set_cons_zero, List.set_cons_succ]
      obtain ⟨d0, d1, d2, d3⟩ := cells4 (keep_block hC gg2 (lt_of_block gg2))
      go_wp2_with fail
      refine stepQ_normal ⟨trivial, upd x 0 (.agg #[.int .i64 ea, .int .i64 eb, .int .i64 ec, .int .i64 ed]), ?_, hC, hU.step (fun _ h => Option.some.inj h), hA0.keep (by decide) (by decide) _ id, hT.keep (by decide) (by decide) _ id, hV.keep (by decide) (by decide) _ id, hP.keep (by decide) _, hO.keep (by decide) (by decide) _ id, hM.keep (by decide) (by decide) _ (Below.refl _ _)⟩
      simp only [upd]
      rfl
    case sR1_1 =>
      intro listed bb u hsz hn hwt hinv
      obtain ⟨x, rfl, hC, hU, hA0, hT, hV, hP, hO, hM⟩ := hinv
      have f0 := Lib.hid (hU 0 _ rfl (hwt 0 (by kernel_rfl)))
      simp only [putsX, Act.put, List.setIfInBounds_toArray, List.set_cons_zero, List.set_cons_succ]
      have hcall : Calls Try.prog 24 #[x 0] u (Gives (.agg #[.int .i64 ea, .int .i64 eb, .int .i64 ec, .int .i64 ed]) u) := by rw [f0.out]; exact toGeometry_any _ _ _ _ _
      go_wp2_with fail
      refine hcall.mono ?_
      rintro e' u' ⟨rfl, hb⟩
      go_wp2_with fail
      refine stepQ_normal ⟨trivial, upd x 1 (.agg #[.int .i64 ea, .int .i64 eb, .int .i64 ec, .int .i64 ed]), ?_, hC.trans (hb.mono hC.size), hU.step (fun _ h => Option.some.inj h), hA0.keep (by decide) (by decide) _ (fun h => HasK.below h (hb)), hT.keep (by decide) (by decide) _ (fun h => HasT.below h (hb)), hV.keep (by decide) (by decide) _ (fun h => HasT.below h (hb)), hP.keep (by decide) _, hO.keep (by decide) (by decide) _ (fun h => HasK.below h (hb)), hM.keep (by decide) (by decide) _ (hb)⟩
      simp only [upd]
      rfl
    case sR1_2 =>
      intro listed bb u hsz hn hwt hinv
      obtain ⟨x, rfl, hC, hU, hA0, hT, hV, hP, hO, hM⟩ := hinv
      simp only [putsX, Act.put, List.setIfInBounds_toArray, List.set_cons_zero, List.set_cons_succ]
      obtain ⟨d0, d1, d2⟩ := cells3 (keep_block hC mm2 (lt_of_block mm2))
      go_wp2_with fail
      refine stepQ_normal ⟨trivial, upd x 2 (.agg #[.slice a0 n0 c0, .slice a1 n1 c1, .slice a2 n2 c2]), ?_, hC, hU.step (fun _ h => Option.some.inj h), hA0.keep (by decide) (by decide) _ id, hT.keep (by decide) (by decide) _ id, hV.keep (by decide) (by decide) _ id, hP.keep (by decide) _, hO.keep (by decide) (by decide) _ id, hM.keep (by decide) (by decide) _ (Below.refl _ _)⟩
      simp only [upd]
      rfl
    case sR1_3 =>
      intro listed bb u hsz hn hwt hinv
      obtain ⟨x, rfl, hC, hU, hA0, hT, hV, hP, hO, hM⟩ := hinv
      have f2 := Lib.hid (hU 2 _ rfl (hwt 2 (by kernel_rfl)))
      simp only [putsX, Act.put, List.setIfInBounds_toArray, List.set_cons_zero, List.set_cons_succ]
      have hbu := HB2.out.trans (hC.mono HB2.out.size)
      have hcall : Calls Try.prog 25 #[x 2] u (GivesS arrK xx u) := by rw [f2.out]; exact toArray_k (arrK.below HX0.out hbu) HFIT.out.1 HFIT.out.2.1 HFIT.out.2.2.1 HFIT.out.2.2.2
      go_wp2_with fail
      refine hcall.mono ?_
      rintro e' u' ⟨cs, SS, rfl, own, hss, hb⟩
      go_wp2_with fail
      refine stepQ_normal ⟨trivial, upd x 3 (.agg cs.toArray), ?_, hC.trans (hb.mono hC.size), hU.step (fun _ h => by cases h), FactW.new ⟨cs, SS, rfl, own, fun b h => Nat.le_trans hC.size (hss b h)⟩, hT.keep (by decide) (by decide) _ (fun h => HasT.below h (hb)), hV.keep (by decide) (by decide) _ (fun h => HasT.below h (hb)), hP.keep (by decide) _, hO.keep (by decide) (by decide) _ (fun h => HasK.below h (hb)), hM.keep (by decide) (by decide) _ (hb)⟩
      simp only [upd]
      rfl
    case sR1_4 =>
      intro listed bb u hsz hn hwt hinv
      obtain ⟨x, rfl, hC, hU, hA0, hT, hV, hP, hO, hM⟩ := hinv
      simp only [putsX, Act.put, List.setIfInBounds_toArray, List.set_cons_zero, List.set_cons_succ]
      obtain ⟨d0, d1, d2⟩ := cells3 (keep_block hC aa2 (lt_of_block aa2))
      go_wp2_with fail
      refine stepQ_normal ⟨trivial, upd x 4 (.agg #[.int .i64 bx, .int .i64 br, .int .i64 bc]), ?_, hC, hU.step (fun _ h => Option.some.inj h), hA0.keep (by decide) (by decide) _ id, hT.keep (by decide) (by decide) _ id, hV.keep (by decide) (by decide) _ id, hP.keep (by decide) _, hO.keep (by decide) (by decide) _ id, hM.keep (by decide) (by decide) _ (Below.refl _ _)⟩
      simp only [upd]
      rfl
    case sR1_5 =>
      intro listed bb u hsz hn hwt hinv
      obtain ⟨x, rfl, hC, hU, hA0, hT, hV, hP, hO, hM⟩ := hinv
      have f4 := Lib.hid (hU 4 _ rfl (hwt 4 (by kernel_rfl)))
      simp only [putsX, Act.put, List.setIfInBounds_toArray, List.set_cons_zero, List.set_cons_succ]
      have hcall : Calls Try.prog 36 #[x 4] u (Gives (.agg #[.int .i64 bx, .int .i64 br, .int .i64 bc]) u) := by rw [f4.out]; exact toAddr_any _ _ _ _
      go_wp2_with fail
      refine hcall.mono ?_
      rintro e' u' ⟨rfl, hb⟩
      go_wp2_with fail
      refine stepQ_normal ⟨trivial, upd x 5 (.agg #[.int .i64 bx, .int .i64 br, .int .i64 bc]), ?_, hC.trans (hb.mono hC.size), hU.step (fun _ h => Option.some.inj h), hA0.keep (by decide) (by decide) _ (fun h => HasK.below h (hb)), hT.keep (by decide) (by decide) _ (fun h => HasT.below h (hb)), hV.keep (by decide) (by decide) _ (fun h => HasT.below h (hb)), hP.keep (by decide) _, hO.keep (by decide) (by decide) _ (fun h => HasK.below h (hb)), hM.keep (by decide) (by decide) _ (hb)⟩
      simp only [upd]
      rfl
    case sR1_6 =>
      intro listed bb u hsz hn hwt hinv
      obtain ⟨x, rfl, hC, hU, hA0, hT, hV, hP, hO, hM⟩ := hinv
      have f1 := Lib.hid (hU 1 _ rfl (hwt 1 (by kernel_rfl)))
      have f5 := Lib.hid (hU 5 _ rfl (hwt 5 (by kernel_rfl)))
      simp only [putsX, Act.put, List.setIfInBounds_toArray, List.set_cons_zero, List.set_cons_succ]
      obtain ⟨cs0, S0, fp0, ow0, _⟩ := hA0 (hwt 3 (by kernel_rfl)) hn
      have hcall : Calls Try.prog 19 #[x 1, x 3, x 5] u (GivesC (yl, yp) ok u) := by rw [f1.out, fp0, f5.out]; exact SPEC.out u _ (arrK.read ow0) HFIT.out
      clear fp0
      go_wp2_with fail
      refine hcall.mono ?_
      rintro e' u' ⟨cs, SS, rfl, own, hss, hb⟩
      go_wp2_with fail
      refine stepQ_normal ⟨trivial, upd x 6 (.tuple #[.agg cs.toArray, .bool ok]), ?_, hC.trans (hb.mono hC.size), hU.step (fun _ h => by cases h), FactW.call (by rw [hsz]; decide), FactW.new ⟨cs, SS, rfl, own, fun b h => Nat.le_trans hC.size (hss b h)⟩, hV.keep (by decide) (by decide) _ (fun h => HasT.below h (hb)), hP.keep (by decide) _, hO.keep (by decide) (by decide) _ (fun h => HasK.below h (hb)), hM.keep (by decide) (by decide) _ (hb)⟩
      simp only [upd]
      rfl
    case sR1_7 =>
      intro listed bb u hsz hn hwt hinv
      obtain ⟨x, rfl, hC, hU, hA0, hT, hV, hP, hO, hM⟩ := hinv
      simp only [putsX, Act.put, List.setIfInBounds_toArray, List.set_cons_zero, List.set_cons_succ]
      obtain ⟨cs, SS, fp, own, hss⟩ := hT (hwt 6 (by kernel_rfl)) hn
      have FP := Lib.hid fp
      rw [FP.out]
      clear fp
      go_wp2_with fail
      refine stepQ_normal ⟨trivial, upd x 7 (.tuple #[.agg cs.toArray, .bool ok]), ?_, hC, hU.step (fun _ h => by cases h), hA0.keep (by decide) (by decide) _ id, FactW.call (by rw [hsz]; decide), FactW.new ⟨cs, SS, rfl, own, hss⟩, Fact.new ⟨cs, rfl⟩, hO.keep (by decide) (by decide) _ id, hM.keep (by decide) (by decide) _ (Below.refl _ _)⟩
      simp only [upd]
      simp only [FP.out]
      (try rfl)
    case sR1_8 =>
      intro listed bb u hsz hn hwt hinv
      obtain ⟨x, rfl, hC, hU, hA0, hT, hV, hP, hO, hM⟩ := hinv
      simp only [putsX, Act.put, List.setIfInBounds_toArray, List.set_cons_zero, List.set_cons_succ]
      obtain ⟨cs, SS, fp, own, hss⟩ := hV (hwt 7 (by kernel_rfl)) hn
      have FP := Lib.hid fp
      rw [FP.out]
      clear fp
      go_wp2_with fail
      refine stepQ_normal ⟨trivial, upd x 8 (.agg cs.toArray), ?_, hC, hU.step (fun _ h => by cases h), hA0.keep (by decide) (by decide) _ id, hT.keep (by decide) (by decide) _ id, FactW.call (by rw [hsz]; decide), hP.keep (by decide) _, FactW.new ⟨cs, SS, rfl, own, hss⟩, hM.keep (by decide) (by decide) _ (Below.refl _ _)⟩
      simp only [upd]
      simp only [FP.out]
      (try rfl)
    case sR1_9 =>
      intro listed bb u hsz hn hwt hinv
      obtain ⟨x, rfl, hC, hU, hA0, hT, hV, hP, hO, hM⟩ := hinv
      simp only [putsX, Act.put, List.setIfInBounds_toArray, List.set_cons_zero, List.set_cons_succ]
      obtain ⟨cs, fp⟩ := hP (hwt 7 (by kernel_rfl))
      have FP := Lib.hid fp
      rw [FP.out]
      clear fp
      go_wp2_with fail
      refine stepQ_normal ⟨trivial, upd x 9 (.bool ok), ?_, hC, hU.step (fun _ h => Option.some.inj h), hA0.keep (by decide) (by decide) _ id, hT.keep (by decide) (by decide) _ id, hV.keep (by decide) (by decide) _ id, hP.keep (by decide) _, hO.keep (by decide) (by decide) _ id, hM.keep (by decide) (by decide) _ (Below.refl _ _)⟩
      simp only [upd]
      simp only [FP.out]
      (try rfl)
    case sR1_10 =>
      intro listed bb u hsz hn hwt hinv
      obtain ⟨x, rfl, hC, hU, hA0, hT, hV, hP, hO, hM⟩ := hinv
      simp only [putsX, Act.put, List.setIfInBounds_toArray, List.set_cons_zero, List.set_cons_succ]
      go_wp2_with fail
      refine stepQ_normal ⟨trivial, upd x 10 (.pointer (some ⟨u.heap.size, 0, none⟩)), ?_, hC.alloc hC.size _, hU.step (fun _ h => by cases h), hA0.keep (by decide) (by decide) _ (fun h => HasK.below h (below_allocK _ _)), hT.keep (by decide) (by decide) _ (fun h => HasT.below h (below_allocK _ _)), hV.keep (by decide) (by decide) _ (fun h => HasT.below h (below_allocK _ _)), hP.keep (by decide) _, hO.keep (by decide) (by decide) _ (fun h => HasK.below h (below_allocK _ _)), hM.new (by decide) hn hC.size⟩
      simp only [upd]
      rfl
    case sR1_11 =>
      intro listed bb u hsz hn hwt hinv
      obtain ⟨x, rfl, hC, hU, hA0, hT, hV, hP, hO, hM⟩ := hinv
      simp only [putsX, Act.put, List.setIfInBounds_toArray, List.set_cons_zero, List.set_cons_succ]
      obtain ⟨g, fg, hg, hh⟩ := hM.there (hwt 10 (by kernel_rfl)) hn
      obtain ⟨cs, SS, fp, own, hss⟩ := hO (hwt 8 (by kernel_rfl)) hn
      obtain ⟨a0, n0, c0, rfl, _⟩ := cell_rd (cellK.read own)
      have FG := Lib.hid fg
      have FP := Lib.hid fp
      rw [FG.out, FP.out]
      obtain ⟨y0, y1⟩ := cells2 hh
      have t0 := thawed hh 0
      have t1 := thawed hh 1
      have hng : g ∉ SS := cellTy.notin own hh (by decide)
      have own0 := own
      have hfin := set_cells (set_cells (hh) 0 (.slice a0 n0 c0)) 1 (.bool yp)
      have OW := Lib.hid (Kn.ownSet cellK (Kn.ownSet cellK own0 (p := ⟨g, 0, none⟩) (fun b h e => hng ((show b = g from e) ▸ h)) (.slice a0 n0 c0)) (p := ⟨g, 1, none⟩) (fun b h e => hng ((show b = g from e) ▸ h)) (.bool yp))
      have HSS := Lib.hid hss
      have HNG := Lib.hid hng
      clear hh fg fp own own0 hss hng
      go_wp2_with fail
      refine stepQ_normal ⟨trivial, upd x 11 undef, ?_, ((hC).setCell (by exact hg) _).setCell (by exact hg) _, hU.step (fun _ h => by cases h), FactW.gone (hwt 6 (by kernel_rfl)), FactW.gone (hwt 7 (by kernel_rfl)), FactW.gone (hwt 8 (by kernel_rfl)), hP.keep (by decide) _, FactW.call (by rw [hsz]; decide), MadeK.fill (by decide) (hwt 10 (by kernel_rfl)) (by rw [hsz]; decide) FG.out hg hfin OW.out HNG.out HSS.out⟩
      simp only [upd]
      simp only [FG.out, FP.out]
      (try rfl)
    case sR1_12 =>
      intro listed bb u hsz hn hwt hinv
      obtain ⟨x, rfl, hC, hU, hA0, hT, hV, hP, hO, hM⟩ := hinv
      have f9 := Lib.hid (hU 9 _ rfl (hwt 9 (by kernel_rfl)))
      simp only [putsX, Act.put, List.setIfInBounds_toArray, List.set_cons_zero, List.set_cons_succ]
      rw [f9.out]
      go_wp2_with fail
      refine stepQ_normal ⟨trivial, upd x 12 (.bool ok), ?_, hC, hU.step (fun _ h => Option.some.inj h), hA0.keep (by decide) (by decide) _ id, hT.keep (by decide) (by decide) _ id, hV.keep (by decide) (by decide) _ id, hP.keep (by decide) _, hO.keep (by decide) (by decide) _ id, hM.keep (by decide) (by decide) _ (Below.refl _ _)⟩
      simp only [upd]
      simp only [f9.out]
      (try rfl)
  case heR1 =>
    intro listed q w3 hall hC hU hS
    obtain ⟨hA0, hT, hV, hP, hO, hM⟩ := hS
    obtain ⟨PV, cs, SV, fg, hgP, hh, own, hng, hss⟩ := hM.full (hall 10 (by decide)) (hall 11 (by decide))
    obtain ⟨Va0, Vn0, Vc0, rfl, _⟩ := cell_rd (cellK.read own)
    simp only [putsX, Act.put, List.setIfInBounds_toArray, List.set_cons_zero, List.set_cons_succ]
    rw [fg]
    have fa := hU 12 _ rfl (hall 12 (by decide))
    rw [fa]
    clear fa
    clear hall hU fg hA0 hT hV hP hO hM
    generalize q 0 = _q0, q 1 = _q1, q 2 = _q2, q 3 = _q3, q 4 = _q4, q 5 = _q5, q 6 = _q6, q 7 = _q7, q 8 = _q8, q 9 = _q9
    have gg3 := keep_block hC gg2 (lt_of_block gg2)
    have mm3 := keep_block hC mm2 (lt_of_block mm2)
    have aa3 := keep_block hC aa2 (lt_of_block aa2)
    have HB3 : Hid (Below w.heap.size w w3) := HB2.out.trans (hC.mono HB2.out.size)
    have BV : Hid (∀ b ∈ SV, w2.heap.size ≤ b) := hss
    have V3 : Hid (cellK.own w3 SV [.slice Va0 Vn0 Vc0, .bool yp] (yl, yp)) := own
    have qV3 := hh
    have NVgg : Hid (w.heap.size ∉ SV) := fun h => by have h1 := lt_of_block gg2; have h2 := BV.out _ h; omega
    have NVmm : Hid ((w.heap.size + 1) ∉ SV) := fun h => by have h1 := lt_of_block mm2; have h2 := BV.out _ h; omega
    have NVaa : Hid ((w.heap.size + 1 + 1) ∉ SV) := fun h => by have h1 := lt_of_block aa2; have h2 := BV.out _ h; omega
    have NVqV : Hid (PV ∉ SV) := hng
    clear own hss hh hC hng hgP
    clear gg2 mm2 aa2 HB2
    have SZX : Hid (w.heap.size ≤ w3.heap.size) := HB3.out.size
    obtain ⟨kmm0, kmm1, kmm2⟩ := cells3 mm3
    go_wp2_with fail
    refine (toArray_k (arrK.below HX0.out HB3.out) HFIT.out.1 HFIT.out.2.1 HFIT.out.2.2.1 HFIT.out.2.2.2).mono ?_
    rintro e w4 ⟨cs, SX, rfl, own4, hs4, hb4⟩
    clear kmm0 kmm1 kmm2
    have gg4 := keep_block hb4 gg3 (lt_of_block gg3)
    have mm4 := keep_block hb4 mm3 (lt_of_block mm3)
    have aa4 := keep_block hb4 aa3 (lt_of_block aa3)
    have qV4 := keep_block hb4 qV3 (lt_of_block qV3)
    have V4 : Hid (cellK.own w4 SV [.slice Va0 Vn0 Vc0, .bool yp] (yl, yp)) := cellK.ownBelow V3.out hb4
    have HB4 : Hid (Below w.heap.size w w4) := HB3.out.trans (hb4.mono HB3.out.size)
    have BX : Hid (∀ b ∈ SX, w3.heap.size ≤ b) := hs4
    clear hs4
    obtain ⟨Xa0, Xn0, Xc0, Xa1, Xn1, Xc1, Xa2, Xn2, Xc2, rfl, _, _, _⟩ := arr_rd (arrK.read own4)
    have X4 : Hid (arrK.own w4 SX [.slice Xa0 Xn0 Xc0, .slice Xa1 Xn1 Xc1, .slice Xa2 Xn2 Xc2] xx) := own4
    have DVX : Hid (∀ b ∈ SV, b ∉ SX) := fun b h1 h2 => by have h3 := cellK.lt V3.out b h1; have h4 := BX.out b h2; omega
    have NXgg : Hid (w.heap.size ∉ SX) := fun h => by have h1 := lt_of_block gg3; have h2 := BX.out _ h; omega
    have NXmm : Hid ((w.heap.size + 1) ∉ SX) := fun h => by have h1 := lt_of_block mm3; have h2 := BX.out _ h; omega
    have NXaa : Hid ((w.heap.size + 1 + 1) ∉ SX) := fun h => by have h1 := lt_of_block aa3; have h2 := BX.out _ h; omega
    have NXqV : Hid (PV ∉ SX) := fun h => by have h1 := lt_of_block qV3; have h2 := BX.out _ h; omega
    clear own4 hb4
    clear gg3 mm3 aa3 qV3 V3 HB3
    obtain ⟨PX, hPX⟩ : ∃ P, w4.heap.size = P := ⟨_, rfl⟩
    have NVqX : Hid (PX ∉ SV) := fun h => by have h1 := cellK.lt V4.out _ h; omega
    have NXqX : Hid (PX ∉ SX) := fun h => by have h1 := arrK.lt X4.out _ h; omega
    have HPX := Lib.hid hPX
    clear hPX
    have hb5 : Below w4.heap.size w4 (w4.alloc (.cells #[.slice Xa0 Xn0 Xc0, .slice Xa1 Xn1 Xc1, .slice Xa2 Xn2 Xc2] 31)) := (Below.refl _ _).alloc (Nat.le_refl _) _
    have gg5 := keep_block hb5 gg4 (lt_of_block gg4)
    have mm5 := keep_block hb5 mm4 (lt_of_block mm4)
    have aa5 := keep_block hb5 aa4 (lt_of_block aa4)
    have qV5 := keep_block hb5 qV4 (lt_of_block qV4)
    have V5 : Hid (cellK.own (w4.alloc (.cells #[.slice Xa0 Xn0 Xc0, .slice Xa1 Xn1 Xc1, .slice Xa2 Xn2 Xc2] 31)) SV [.slice Va0 Vn0 Vc0, .bool yp] (yl, yp)) := cellK.ownBelow V4.out hb5
    have X5 : Hid (arrK.own (w4.alloc (.cells #[.slice Xa0 Xn0 Xc0, .slice Xa1 Xn1 Xc1, .slice Xa2 Xn2 Xc2] 31)) SX [.slice Xa0 Xn0 Xc0, .slice Xa1 Xn1 Xc1, .slice Xa2 Xn2 Xc2] xx) := arrK.ownBelow X4.out hb5
    have qX5 := heap_alloc_new w4 (.cells #[.slice Xa0 Xn0 Xc0, .slice Xa1 Xn1 Xc1, .slice Xa2 Xn2 Xc2] 31)
    have HB5 : Hid (Below w.heap.size w (w4.alloc (.cells #[.slice Xa0 Xn0 Xc0, .slice Xa1 Xn1 Xc1, .slice Xa2 Xn2 Xc2] 31))) := HB4.out.trans (hb5.mono HB4.out.size)
    go_wp2_with fail
    clear hb5
    clear gg4 mm4 aa4 qV4 V4 X4 HB4
    generalize (w4.alloc (.cells #[.slice Xa0 Xn0 Xc0, .slice Xa1 Xn1 Xc1, .slice Xa2 Xn2 Xc2] 31)) = w5 at gg5 mm5 aa5 qV5 V5 X5 qX5 HB5 ⊢
    rw [HPX.out] at qX5
    (try simp only [HPX.out])
    clear HPX
    have SZG : Hid (w.heap.size ≤ w5.heap.size) := HB5.out.size
    go_wp2_with fail
    refine wp_region_flowV (fun k => match k with | 0 => some (.agg #[.int .i64 ea, .int .i64 eb, .int .i64 ec, .int .i64 ed]) | 1 => some (.agg #[.int .i64 ea, .int .i64 eb, .int .i64 ec, .int .i64 ed]) | 2 => some (.agg #[.slice Xa0 Xn0 Xc0, .slice Xa1 Xn1 Xc1, .slice Xa2 Xn2 Xc2]) | 3 => some (.agg #[.int .i64 bx, .int .i64 br, .int .i64 bc]) | 4 => some (.agg #[.int .i64 bx, .int .i64 br, .int .i64 bc]) | 8 => some (.bool ok) | 11 => some (.bool ok) | _ => none) (fun listed x u => FactW 5 6 (HasT cellK (yl, yp) (.bool ok) w5.heap.size) listed x u ∧ FactW 6 7 (HasT cellK (yl, yp) (.bool ok) w5.heap.size) listed x u ∧ Fact 6 (fun q => ∃ cs : List Value, q = .tuple #[.agg cs.toArray, .bool ok]) listed x ∧ FactW 7 10 (HasK cellK (yl, yp) w5.heap.size) listed x u ∧ MadeK cellK 42 #[.slice none 0 0, .bool false] 9 10 w5.heap.size (yl, yp) listed x u) (fun _ => undef) (by kernel_rfl) (by kernel_rfl) ?hxR2 ?hSR2 ?hsR2 ?heR2
    case hxR2 => simp only [putsX, Act.put, List.setIfInBounds_toArray, List.set_cons_zero, List.set_cons_succ]
    case hSR2 => exact ⟨FactW.zero _ _ _ _ _ _, FactW.zero _ _ _ _ _ _, Fact.zero _ _ _ _, FactW.zero _ _ _ _ _ _, MadeK.zero _ _ _ _ _ _ _ _ _ _⟩
    case hsR2 =>
      simp only [flowSteps]
      refine ⟨?sR2_0, ?sR2_1, ?sR2_2, ?sR2_3, ?sR2_4, ?sR2_5, ?sR2_6, ?sR2_7, ?sR2_8, ?sR2_9, ?sR2_10, ?sR2_11, trivial⟩
      case sR2_0 =>
        intro listed bb u hsz hn hwt hinv
        obtain ⟨x, rfl, hC, hU, hT, hV, hP, hO, hM⟩ := hinv
        simp only [putsX, Act.put, List.setIfInBounds_toArray, List.set_cons_zero, List.set_cons_succ]
        obtain ⟨d0, d1, d2, d3⟩ := cells4 (keep_block hC gg5 (lt_of_block gg5))
        go_wp2_with fail
        refine stepQ_normal ⟨trivial, upd x 0 (.agg #[.int .i64 ea, .int .i64 eb, .int .i64 ec, .int .i64 ed]), ?_, hC, hU.step (fun _ h => Option.some.inj h), hT.keep (by decide) (by decide) _ id, hV.keep (by decide) (by decide) _ id, hP.keep (by decide) _, hO.keep (by decide) (by decide) _ id, hM.keep (by decide) (by decide) _ (Below.refl _ _)⟩
        simp only [upd]
        rfl
      case sR2_1 =>
        intro listed bb u hsz hn hwt hinv
        obtain ⟨x, rfl, hC, hU, hT, hV, hP, hO, hM⟩ := hinv
        have f0 := Lib.hid (hU 0 _ rfl (hwt 0 (by kernel_rfl)))
        simp only [putsX, Act.put, List.setIfInBounds_toArray, List.set_cons_zero, List.set_cons_succ]
        have hcall : Calls Try.prog 24 #[x 0] u (Gives (.agg #[.int .i64 ea, .int .i64 eb, .int .i64 ec, .int .i64 ed]) u) := by rw [f0.out]; exact toGeometry_any _ _ _ _ _
        go_wp2_with fail
        refine hcall.mono ?_
        rintro e' u' ⟨rfl, hb⟩
        go_wp2_with fail
        refine stepQ_normal ⟨trivial, upd x 1 (.agg #[.int .i64 ea, .int .i64 eb, .int .i64 ec, .int .i64 ed]), ?_, hC.trans (hb.mono hC.size), hU.step (fun _ h => Option.some.inj h), hT.keep (by decide) (by decide) _ (fun h => HasT.below h (hb)), hV.keep (by decide) (by decide) _ (fun h => HasT.below h (hb)), hP.keep (by decide) _, hO.keep (by decide) (by decide) _ (fun h => HasK.below h (hb)), hM.keep (by decide) (by decide) _ (hb)⟩
        simp only [upd]
        rfl
      case sR2_2 =>
        intro listed bb u hsz hn hwt hinv
        obtain ⟨x, rfl, hC, hU, hT, hV, hP, hO, hM⟩ := hinv
        simp only [putsX, Act.put, List.setIfInBounds_toArray, List.set_cons_zero, List.set_cons_succ]
        obtain ⟨d0, d1, d2⟩ := cells3 (keep_block hC qX5 (lt_of_block qX5))
        go_wp2_with fail
        refine stepQ_normal ⟨trivial, upd x 2 (.agg #[.slice Xa0 Xn0 Xc0, .slice Xa1 Xn1 Xc1, .slice Xa2 Xn2 Xc2]), ?_, hC, hU.step (fun _ h => Option.some.inj h), hT.keep (by decide) (by decide) _ id, hV.keep (by decide) (by decide) _ id, hP.keep (by decide) _, hO.keep (by decide) (by decide) _ id, hM.keep (by decide) (by decide) _ (Below.refl _ _)⟩
        simp only [upd]
        rfl
      case sR2_3 =>
        intro listed bb u hsz hn hwt hinv
        obtain ⟨x, rfl, hC, hU, hT, hV, hP, hO, hM⟩ := hinv
        simp only [putsX, Act.put, List.setIfInBounds_toArray, List.set_cons_zero, List.set_cons_succ]
        obtain ⟨d0, d1, d2⟩ := cells3 (keep_block hC aa5 (lt_of_block aa5))
        go_wp2_with fail
        refine stepQ_normal ⟨trivial, upd x 3 (.agg #[.int .i64 bx, .int .i64 br, .int .i64 bc]), ?_, hC, hU.step (fun _ h => Option.some.inj h), hT.keep (by decide) (by decide) _ id, hV.keep (by decide) (by decide) _ id, hP.keep (by decide) _, hO.keep (by decide) (by decide) _ id, hM.keep (by decide) (by decide) _ (Below.refl _ _)⟩
        simp only [upd]
        rfl
      case sR2_4 =>
        intro listed bb u hsz hn hwt hinv
        obtain ⟨x, rfl, hC, hU, hT, hV, hP, hO, hM⟩ := hinv
        have f3 := Lib.hid (hU 3 _ rfl (hwt 3 (by kernel_rfl)))
        simp only [putsX, Act.put, List.setIfInBounds_toArray, List.set_cons_zero, List.set_cons_succ]
        have hcall : Calls Try.prog 36 #[x 3] u (Gives (.agg #[.int .i64 bx, .int .i64 br, .int .i64 bc]) u) := by rw [f3.out]; exact toAddr_any _ _ _ _
        go_wp2_with fail
        refine hcall.mono ?_
        rintro e' u' ⟨rfl, hb⟩
        go_wp2_with fail
        refine stepQ_normal ⟨trivial, upd x 4 (.agg #[.int .i64 bx, .int .i64 br, .int .i64 bc]), ?_, hC.trans (hb.mono hC.size), hU.step (fun _ h => Option.some.inj h), hT.keep (by decide) (by decide) _ (fun h => HasT.below h (hb)), hV.keep (by decide) (by decide) _ (fun h => HasT.below h (hb)), hP.keep (by decide) _, hO.keep (by decide) (by decide) _ (fun h => HasK.below h (hb)), hM.keep (by decide) (by decide) _ (hb)⟩
        simp only [upd]
        rfl
      case sR2_5 =>
        intro listed bb u hsz hn hwt hinv
        obtain ⟨x, rfl, hC, hU, hT, hV, hP, hO, hM⟩ := hinv
        have f1 := Lib.hid (hU 1 _ rfl (hwt 1 (by kernel_rfl)))
        have f2 := Lib.hid (hU 2 _ rfl (hwt 2 (by kernel_rfl)))
        have f4 := Lib.hid (hU 4 _ rfl (hwt 4 (by kernel_rfl)))
        simp only [putsX, Act.put, List.setIfInBounds_toArray, List.set_cons_zero, List.set_cons_succ]
        have hcall : Calls Try.prog 18 #[x 1, x 2, x 4] u (GivesC (yl, yp) ok u) := by rw [f1.out, f2.out, f4.out]; exact IM.out u _ (arrK.read (arrK.ownBelow X5.out hC)) HFIT.out
        go_wp2_with fail
        refine hcall.mono ?_
        rintro e' u' ⟨cs, SS, rfl, own, hss, hb⟩
        go_wp2_with fail
        refine stepQ_normal ⟨trivial, upd x 5 (.tuple #[.agg cs.toArray, .bool ok]), ?_, hC.trans (hb.mono hC.size), hU.step (fun _ h => by cases h), FactW.new ⟨cs, SS, rfl, own, fun b h => Nat.le_trans hC.size (hss b h)⟩, hV.keep (by decide) (by decide) _ (fun h => HasT.below h (hb)), hP.keep (by decide) _, hO.keep (by decide) (by decide) _ (fun h => HasK.below h (hb)), hM.keep (by decide) (by decide) _ (hb)⟩
        simp only [upd]
        rfl
      case sR2_6 =>
        intro listed bb u hsz hn hwt hinv
        obtain ⟨x, rfl, hC, hU, hT, hV, hP, hO, hM⟩ := hinv
        simp only [putsX, Act.put, List.setIfInBounds_toArray, List.set_cons_zero, List.set_cons_succ]
        obtain ⟨cs, SS, fp, own, hss⟩ := hT (hwt 5 (by kernel_rfl)) hn
        have FP := Lib.hid fp
        rw [FP.out]
        clear fp
        go_wp2_with fail
        refine stepQ_normal ⟨trivial, upd x 6 (.tuple #[.agg cs.toArray, .bool ok]), ?_, hC, hU.step (fun _ h => by cases h), FactW.call (by rw [hsz]; decide), FactW.new ⟨cs, SS, rfl, own, hss⟩, Fact.new ⟨cs, rfl⟩, hO.keep (by decide) (by decide) _ id, hM.keep (by decide) (by decide) _ (Below.refl _ _)⟩
        simp only [upd]
        simp only [FP.out]
        (try rfl)
      case sR2_7 =>
        intro listed bb u hsz hn hwt hinv
        obtain ⟨x, rfl, hC, hU, hT, hV, hP, hO, hM⟩ := hinv
        simp only [putsX, Act.put, List.setIfInBounds_toArray, List.set_cons_zero, List.set_cons_succ]
        obtain ⟨cs, SS, fp, own, hss⟩ := hV (hwt 6 (by kernel_rfl)) hn
        have FP := Lib.hid fp
        rw [FP.out]
        clear fp
        go_wp2_with fail
        refine stepQ_normal ⟨trivial, upd x 7 (.agg cs.toArray), ?_, hC, hU.step (fun _ h => by cases h), hT.keep (by decide) (by decide) _ id, FactW.call (by rw [hsz]; decide), hP.keep (by decide) _, FactW.new ⟨cs, SS, rfl, own, hss⟩, hM.keep (by decide) (by decide) _ (Below.refl _ _)⟩
        simp only [upd]
        simp only [FP.out]
        (try rfl)
      case sR2_8 =>
        intro listed bb u hsz hn hwt hinv
        obtain ⟨x, rfl, hC, hU, hT, hV, hP, hO, hM⟩ := hinv
        simp only [putsX, Act.put, List.setIfInBounds_toArray, List.set_cons_zero, List.set_cons_succ]
        obtain ⟨cs, fp⟩ := hP (hwt 6 (by kernel_rfl))
        have FP := Lib.hid fp
        rw [FP.out]
        clear fp
        go_wp2_with fail
        refine stepQ_normal ⟨trivial, upd x 8 (.bool ok), ?_, hC, hU.step (fun _ h => Option.some.inj h), hT.keep (by decide) (by decide) _ id, hV.keep (by decide) (by decide) _ id, hP.keep (by decide) _, hO.keep (by decide) (by decide) _ id, hM.keep (by decide) (by decide) _ (Below.refl _ _)⟩
        simp only [upd]
        simp only [FP.out]
        (try rfl)
      case sR2_9 =>
        intro listed bb u hsz hn hwt hinv
        obtain ⟨x, rfl, hC, hU, hT, hV, hP, hO, hM⟩ := hinv
        simp only [putsX, Act.put, List.setIfInBounds_toArray, List.set_cons_zero, List.set_cons_succ]
        go_wp2_with fail
        refine stepQ_normal ⟨trivial, upd x 9 (.pointer (some ⟨u.heap.size, 0, none⟩)), ?_, hC.alloc hC.size _, hU.step (fun _ h => by cases h), hT.keep (by decide) (by decide) _ (fun h => HasT.below h (below_allocK _ _)), hV.keep (by decide) (by decide) _ (fun h => HasT.below h (below_allocK _ _)), hP.keep (by decide) _, hO.keep (by decide) (by decide) _ (fun h => HasK.below h (below_allocK _ _)), hM.new (by decide) hn hC.size⟩
        simp only [upd]
        rfl
      case sR2_10 =>
        intro listed bb u hsz hn hwt hinv
        obtain ⟨x, rfl, hC, hU, hT, hV, hP, hO, hM⟩ := hinv
        simp only [putsX, Act.put, List.setIfInBounds_toArray, List.set_cons_zero, List.set_cons_succ]
        obtain ⟨g, fg, hg, hh⟩ := hM.there (hwt 9 (by kernel_rfl)) hn
        obtain ⟨cs, SS, fp, own, hss⟩ := hO (hwt 7 (by kernel_rfl)) hn
        obtain ⟨a0, n0, c0, rfl, _⟩ := cell_rd (cellK.read own)
        have FG := Lib.hid fg
        have FP := Lib.hid fp
        rw [FG.out, FP.out]
        obtain ⟨y0, y1⟩ := cells2 hh
        have t0 := thawed hh 0
        have t1 := thawed hh 1
        have hng : g ∉ SS := cellTy.notin own hh (by decide)
        have own0 := own
        have hfin := set_cells (set_cells (hh) 0 (.slice a0 n0 c0)) 1 (.bool yp)
        have OW := Lib.hid (Kn.ownSet cellK (Kn.ownSet cellK own0 (p := ⟨g, 0, none⟩) (fun b h e => hng ((show b = g from e) ▸ h)) (.slice a0 n0 c0)) (p := ⟨g, 1, none⟩) (fun b h e => hng ((show b = g from e) ▸ h)) (.bool yp))
        have HSS := Lib.hid hss
        have HNG := Lib.hid hng
        clear hh fg fp own own0 hss hng
        go_wp2_with fail
        refine stepQ_normal ⟨trivial, upd x 10 undef, ?_, ((hC).setCell (by exact hg) _).setCell (by exact hg) _, hU.step (fun _ h => by cases h), FactW.gone (hwt 6 (by kernel_rfl)), FactW.gone (hwt 7 (by kernel_rfl)), hP.keep (by decide) _, FactW.call (by rw [hsz]; decide), MadeK.fill (by decide) (hwt 9 (by kernel_rfl)) (by rw [hsz]; decide) FG.out hg hfin OW.out HNG.out HSS.out⟩
        simp only [upd]
        simp only [FG.out, FP.out]
        (try rfl)
      case sR2_11 =>
        intro listed bb u hsz hn hwt hinv
        obtain ⟨x, rfl, hC, hU, hT, hV, hP, hO, hM⟩ := hinv
        have f8 := Lib.hid (hU 8 _ rfl (hwt 8 (by kernel_rfl)))
        simp only [putsX, Act.put, List.setIfInBounds_toArray, List.set_cons_zero, List.set_cons_succ]
        rw [f8.out]
        go_wp2_with fail
        refine stepQ_normal ⟨trivial, upd x 11 (.bool ok), ?_, hC, hU.step (fun _ h => Option.some.inj h), hT.keep (by decide) (by decide) _ id, hV.keep (by decide) (by decide) _ id, hP.keep (by decide) _, hO.keep (by decide) (by decide) _ id, hM.keep (by decide) (by decide) _ (Below.refl _ _)⟩
        simp only [upd]
        simp only [f8.out]
        (try rfl)
    case heR2 =>
      intro listed q w6 hall hC hU hS
      obtain ⟨hT, hV, hP, hO, hM⟩ := hS
      obtain ⟨PG, cs, SG, fg, hgP, hh, own, hng, hss⟩ := hM.full (hall 9 (by decide)) (hall 10 (by decide))
      obtain ⟨Ga0, Gn0, Gc0, rfl, _⟩ := cell_rd (cellK.read own)
      simp only [putsX, Act.put, List.setIfInBounds_toArray, List.set_cons_zero, List.set_cons_succ]
      rw [fg]
      have fa := hU 11 _ rfl (hall 11 (by decide))
      rw [fa]
      clear fa
      clear hall hU fg hT hV hP hO hM
      generalize q 0 = _q0, q 1 = _q1, q 2 = _q2, q 3 = _q3, q 4 = _q4, q 5 = _q5, q 6 = _q6, q 7 = _q7, q 8 = _q8
      have gg6 := keep_block hC gg5 (lt_of_block gg5)
      have mm6 := keep_block hC mm5 (lt_of_block mm5)
      have aa6 := keep_block hC aa5 (lt_of_block aa5)
      have qV6 := keep_block hC qV5 (lt_of_block qV5)
      have qX6 := keep_block hC qX5 (lt_of_block qX5)
      have V6 : Hid (cellK.own w6 SV [.slice Va0 Vn0 Vc0, .bool yp] (yl, yp)) := cellK.ownBelow V5.out hC
      have X6 : Hid (arrK.own w6 SX [.slice Xa0 Xn0 Xc0, .slice Xa1 Xn1 Xc1, .slice Xa2 Xn2 Xc2] xx) := arrK.ownBelow X5.out hC
      have HB6 : Hid (Below w.heap.size w w6) := HB5.out.trans (hC.mono HB5.out.size)
      have BG : Hid (∀ b ∈ SG, w5.heap.size ≤ b) := hss
      have G6 : Hid (cellK.own w6 SG [.slice Ga0 Gn0 Gc0, .bool yp] (yl, yp)) := own
      have qG6 := hh
      have NVqG : Hid (PG ∉ SV) := fun h => by have h1 := cellK.lt V5.out _ h; omega
      have NXqG : Hid (PG ∉ SX) := fun h => by have h1 := arrK.lt X5.out _ h; omega
      have DVG : Hid (∀ b ∈ SV, b ∉ SG) := fun b h1 h2 => by have h3 := cellK.lt V5.out b h1; have h4 := BG.out b h2; omega
      have DXG : Hid (∀ b ∈ SX, b ∉ SG) := fun b h1 h2 => by have h3 := arrK.lt X5.out b h1; have h4 := BG.out b h2; omega
      have NGgg : Hid (w.heap.size ∉ SG) := fun h => by have h1 := lt_of_block gg5; have h2 := BG.out _ h; omega
      have NGmm : Hid ((w.heap.size + 1) ∉ SG) := fun h => by have h1 := lt_of_block mm5; have h2 := BG.out _ h; omega
      have NGaa : Hid ((w.heap.size + 1 + 1) ∉ SG) := fun h => by have h1 := lt_of_block aa5; have h2 := BG.out _ h; omega
      have NGqV : Hid (PV ∉ SG) := fun h => by have h1 := lt_of_block qV5; have h2 := BG.out _ h; omega
      have NGqX : Hid (PX ∉ SG) := fun h => by have h1 := lt_of_block qX5; have h2 := BG.out _ h; omega
      have NGqG : Hid (PG ∉ SG) := hng
      clear own hss hh hC hng hgP
      clear gg5 mm5 aa5 qV5 qX5 V5 X5 HB5
      obtain ⟨kqG0, kqG1⟩ := cells2 qG6
      obtain ⟨kqV0, kqV1⟩ := cells2 qV6
      go_wp2_with fail
      refine (eqCell_cs (cellK.read G6.out) (cellK.read V6.out)).mono ?_
      rintro e w7 ⟨rfl, hb7⟩
      clear kqG0 kqG1 kqV0 kqV1
      have gg7 := keep_block hb7 gg6 (lt_of_block gg6)
      have mm7 := keep_block hb7 mm6 (lt_of_block mm6)
      have aa7 := keep_block hb7 aa6 (lt_of_block aa6)
      have qV7 := keep_block hb7 qV6 (lt_of_block qV6)
      have qX7 := keep_block hb7 qX6 (lt_of_block qX6)
      have qG7 := keep_block hb7 qG6 (lt_of_block qG6)
      have V7 : Hid (cellK.own w7 SV [.slice Va0 Vn0 Vc0, .bool yp] (yl, yp)) := cellK.ownBelow V6.out hb7
      have X7 : Hid (arrK.own w7 SX [.slice Xa0 Xn0 Xc0, .slice Xa1 Xn1 Xc1, .slice Xa2 Xn2 Xc2] xx) := arrK.ownBelow X6.out hb7
      have G7 : Hid (cellK.own w7 SG [.slice Ga0 Gn0 Gc0, .bool yp] (yl, yp)) := cellK.ownBelow G6.out hb7
      have HB7 : Hid (Below w.heap.size w w7) := HB6.out.trans (hb7.mono HB6.out.size)
      clear gg6 mm6 aa6 qV6 qX6 qG6 V6 X6 G6 HB6
      clear hb7
      go_wp2_with fail
      refine wp_region_flowV (fun k => match k with | 0 => some (.agg #[.slice Xa0 Xn0 Xc0, .slice Xa1 Xn1 Xc1, .slice Xa2 Xn2 Xc2]) | 1 => some (.agg #[.slice a0 n0 c0, .slice a1 n1 c1, .slice a2 n2 c2]) | 3 => some (.bool true) | 4 => some (.bool false) | _ => none) (fun listed x u => FactW 2 3 (HasK arrK xx w7.heap.size) listed x u) (fun _ => undef) (by kernel_rfl) (by kernel_rfl) ?hxR3 ?hSR3 ?hsR3 ?heR3
      case hxR3 => simp only [putsX, Act.put, List.setIfInBounds_toArray, List.set_cons_zero, List.set_cons_succ]
      case hSR3 => exact FactW.zero _ _ _ _ _ _
      case hsR3 =>
        simp only [flowSteps]
        refine ⟨?sR3_0, ?sR3_1, ?sR3_2, ?sR3_3, ?sR3_4, trivial⟩
        case sR3_0 =>
          intro listed bb u hsz hn hwt hinv
          obtain ⟨x, rfl, hC, hU, hA0⟩ := hinv
          simp only [putsX, Act.put, List.setIfInBounds_toArray, List.set_cons_zero, List.set_cons_succ]
          obtain ⟨d0, d1, d2⟩ := cells3 (keep_block hC qX7 (lt_of_block qX7))
          go_wp2_with fail
          refine stepQ_normal ⟨trivial, upd x 0 (.agg #[.slice Xa0 Xn0 Xc0, .slice Xa1 Xn1 Xc1, .slice Xa2 Xn2 Xc2]), ?_, hC, hU.step (fun _ h => Option.some.inj h), hA0.keep (by decide) (by decide) _ id⟩
          simp only [upd]
          rfl
        case sR3_1 =>
          intro listed bb u hsz hn hwt hinv
          obtain ⟨x, rfl, hC, hU, hA0⟩ := hinv
          simp only [putsX, Act.put, List.setIfInBounds_toArray, List.set_cons_zero, List.set_cons_succ]
          obtain ⟨d0, d1, d2⟩ := cells3 (keep_block hC mm7 (lt_of_block mm7))
          go_wp2_with fail
          refine stepQ_normal ⟨trivial, upd x 1 (.agg #[.slice a0 n0 c0, .slice a1 n1 c1, .slice a2 n2 c2]), ?_, hC, hU.step (fun _ h => Option.some.inj h), hA0.keep (by decide) (by decide) _ id⟩
          simp only [upd]
          rfl
        case sR3_2 =>
          intro listed bb u hsz hn hwt hinv
          obtain ⟨x, rfl, hC, hU, hA0⟩ := hinv
          have f1 := Lib.hid (hU 1 _ rfl (hwt 1 (by kernel_rfl)))
          simp only [putsX, Act.put, List.setIfInBounds_toArray, List.set_cons_zero, List.set_cons_succ]
          have hbu := HB7.out.trans (hC.mono HB7.out.size)
          have hcall : Calls Try.prog 25 #[x 1] u (GivesS arrK xx u) := by rw [f1.out]; exact toArray_k (arrK.below HX0.out hbu) HFIT.out.1 HFIT.out.2.1 HFIT.out.2.2.1 HFIT.out.2.2.2
          go_wp2_with fail
          refine hcall.mono ?_
          rintro e' u' ⟨cs, SS, rfl, own, hss, hb⟩
          go_wp2_with fail
          refine stepQ_normal ⟨trivial, upd x 2 (.agg cs.toArray), ?_, hC.trans (hb.mono hC.size), hU.step (fun _ h => by cases h), FactW.new ⟨cs, SS, rfl, own, fun b h => Nat.le_trans hC.size (hss b h)⟩⟩
          simp only [upd]
          rfl
        case sR3_3 =>
          intro listed bb u hsz hn hwt hinv
          obtain ⟨x, rfl, hC, hU, hA0⟩ := hinv
          have f0 := Lib.hid (hU 0 _ rfl (hwt 0 (by kernel_rfl)))
          simp only [putsX, Act.put, List.setIfInBounds_toArray, List.set_cons_zero, List.set_cons_succ]
          obtain ⟨cs0, S0, fp0, ow0, _⟩ := hA0 (hwt 2 (by kernel_rfl)) hn
          have hcall : Calls Try.prog 27 #[x 0, x 2] u (Gives (.bool true) u) := by rw [f0.out, fp0]; exact eqArr_cs (arrK.read (arrK.ownBelow X7.out hC)) (arrK.read ow0)
          clear fp0
          go_wp2_with fail
          refine hcall.mono ?_
          rintro e' u' ⟨rfl, hb⟩
          go_wp2_with fail
          refine stepQ_normal ⟨trivial, upd x 3 (.bool true), ?_, hC.trans (hb.mono hC.size), hU.step (fun _ h => Option.some.inj h), FactW.call (by rw [hsz]; decide)⟩
          simp only [upd]
          rfl
        case sR3_4 =>
          intro listed bb u hsz hn hwt hinv
          obtain ⟨x, rfl, hC, hU, hA0⟩ := hinv
          have f3 := Lib.hid (hU 3 _ rfl (hwt 3 (by kernel_rfl)))
          simp only [putsX, Act.put, List.setIfInBounds_toArray, List.set_cons_zero, List.set_cons_succ]
          rw [f3.out]
          go_wp2_with fail
          refine stepQ_normal ⟨trivial, upd x 4 (.bool false), ?_, hC, hU.step (fun _ h => Option.some.inj h), hA0.keep (by decide) (by decide) _ id⟩
          simp only [upd]
          simp only [f3.out]
          (try rfl)
      case heR3 =>
        intro listed q w8 hall hC hU hS
        have hA0 := hS
        have fq3 := hU 3 _ rfl (hall 3 (by decide))
        have fq4 := hU 4 _ rfl (hall 4 (by decide))
        simp only [putsX, Act.put, List.setIfInBounds_toArray, List.set_cons_zero, List.set_cons_succ]
        rw [fq3, fq4]
        clear hall hU fq3 fq4 hA0
        generalize q 0 = _q0, q 1 = _q1, q 2 = _q2
        have gg8 := keep_block hC gg7 (lt_of_block gg7)
        have mm8 := keep_block hC mm7 (lt_of_block mm7)
        have aa8 := keep_block hC aa7 (lt_of_block aa7)
        have qV8 := keep_block hC qV7 (lt_of_block qV7)
        have qX8 := keep_block hC qX7 (lt_of_block qX7)
        have qG8 := keep_block hC qG7 (lt_of_block qG7)
        have V8 : Hid (cellK.own w8 SV [.slice Va0 Vn0 Vc0, .bool yp] (yl, yp)) := cellK.ownBelow V7.out hC
        have X8 : Hid (arrK.own w8 SX [.slice Xa0 Xn0 Xc0, .slice Xa1 Xn1 Xc1, .slice Xa2 Xn2 Xc2] xx) := arrK.ownBelow X7.out hC
        have G8 : Hid (cellK.own w8 SG [.slice Ga0 Gn0 Gc0, .bool yp] (yl, yp)) := cellK.ownBelow G7.out hC
        have HB8 : Hid (Below w.heap.size w w8) := HB7.out.trans (hC.mono HB7.out.size)
        clear hC
        clear gg7 mm7 aa7 qV7 qX7 qG7 V7 X7 G7 HB7
        obtain ⟨kqX0, kqX1, kqX2⟩ := cells3 qX8
        go_wp2_with fail
        refine (markArr_v X8.out (Nat.le_trans HCNT.out (by decide)) kx HKX.out).mono ?_
        rintro e w9 ⟨rfl, own9, ho9⟩
        clear kqX0 kqX1 kqX2
        have gg9 := (ho9.block _ (lt_of_block gg8) NXgg.out).trans gg8
        have mm9 := (ho9.block _ (lt_of_block mm8) NXmm.out).trans mm8
        have aa9 := (ho9.block _ (lt_of_block aa8) NXaa.out).trans aa8
        have qV9 := (ho9.block _ (lt_of_block qV8) NXqV.out).trans qV8
        have qX9 := (ho9.block _ (lt_of_block qX8) NXqX.out).trans qX8
        have qG9 := (ho9.block _ (lt_of_block qG8) NXqG.out).trans qG8
        have V9 : Hid (cellK.own w9 SV [.slice Va0 Vn0 Vc0, .bool yp] (yl, yp)) := cellK.ownKeep V8.out ho9 DVX.out
        have G9 : Hid (cellK.own w9 SG [.slice Ga0 Gn0 Gc0, .bool yp] (yl, yp)) := cellK.ownKeep G8.out ho9 (fun b h1 h2 => DXG.out b h2 h1)
        have HB9 : Hid (Below w.heap.size w w9) := HB8.out.trans (ho9.below (fun b h => Nat.le_trans SZX.out (BX.out b h)) HB8.out.size)
        have X9 : Hid (arrK.own w9 SX [.slice Xa0 Xn0 Xc0, .slice Xa1 Xn1 Xc1, .slice Xa2 Xn2 Xc2] (aMk xx 1)) := own9
        clear own9 ho9
        clear gg8 mm8 aa8 qV8 qX8 qG8 V8 X8 G8 HB8
        clear X9
        obtain ⟨kqG0, kqG1⟩ := cells2 qG9
        obtain ⟨kqV0, kqV1⟩ := cells2 qV9
        go_wp2_with fail
        refine (eqCell_cs (cellK.read G9.out) (cellK.read V9.out)).mono ?_
        rintro e w10 ⟨rfl, hb10⟩
        clear kqG0 kqG1 kqV0 kqV1
        have gg10 := keep_block hb10 gg9 (lt_of_block gg9)
        have mm10 := keep_block hb10 mm9 (lt_of_block mm9)
        have aa10 := keep_block hb10 aa9 (lt_of_block aa9)
        have qV10 := keep_block hb10 qV9 (lt_of_block qV9)
        have qX10 := keep_block hb10 qX9 (lt_of_block qX9)
        have qG10 := keep_block hb10 qG9 (lt_of_block qG9)
        have V10 : Hid (cellK.own w10 SV [.slice Va0 Vn0 Vc0, .bool yp] (yl, yp)) := cellK.ownBelow V9.out hb10
        have G10 : Hid (cellK.own w10 SG [.slice Ga0 Gn0 Gc0, .bool yp] (yl, yp)) := cellK.ownBelow G9.out hb10
        have HB10 : Hid (Below w.heap.size w w10) := HB9.out.trans (hb10.mono HB9.out.size)
        clear gg9 mm9 aa9 qV9 qX9 qG9 V9 G9 HB9
        clear hb10
        obtain ⟨kqG0, kqG1⟩ := cells2 qG10
        go_wp2_with fail
        refine (markCell_v G10.out HCYN.out ky HKY.out).mono ?_
        rintro e w11 ⟨rfl, own11, ho11⟩
        clear kqG0 kqG1
        have gg11 := (ho11.block _ (lt_of_block gg10) NGgg.out).trans gg10
        have mm11 := (ho11.block _ (lt_of_block mm10) NGmm.out).trans mm10
        have aa11 := (ho11.block _ (lt_of_block aa10) NGaa.out).trans aa10
        have qV11 := (ho11.block _ (lt_of_block qV10) NGqV.out).trans qV10
        have qX11 := (ho11.block _ (lt_of_block qX10) NGqX.out).trans qX10
        have qG11 := (ho11.block _ (lt_of_block qG10) NGqG.out).trans qG10
        have V11 : Hid (cellK.own w11 SV [.slice Va0 Vn0 Vc0, .bool yp] (yl, yp)) := cellK.ownKeep V10.out ho11 DVG.out
        have HB11 : Hid (Below w.heap.size w w11) := HB10.out.trans (ho11.below (fun b h => Nat.le_trans SZG.out (BG.out b h)) HB10.out.size)
        have G11 : Hid (cellK.own w11 SG [.slice Ga0 Gn0 Gc0, .bool yp] (marksI 1 yl.length, yp)) := own11
        clear own11 ho11
        clear gg10 mm10 aa10 qV10 qX10 qG10 V10 G10 HB10
        obtain ⟨kqG0, kqG1⟩ := cells2 qG11
        go_wp2_with fail
        refine (heldCell_v (cellK.read G11.out) HCYN.out ky HKY.out).mono ?_
        rintro e w12 ⟨rfl, hb12⟩
        clear kqG0 kqG1
        have gg12 := keep_block hb12 gg11 (lt_of_block gg11)
        have mm12 := keep_block hb12 mm11 (lt_of_block mm11)
        have aa12 := keep_block hb12 aa11 (lt_of_block aa11)
        have qV12 := keep_block hb12 qV11 (lt_of_block qV11)
        have qX12 := keep_block hb12 qX11 (lt_of_block qX11)
        have qG12 := keep_block hb12 qG11 (lt_of_block qG11)
        have V12 : Hid (cellK.own w12 SV [.slice Va0 Vn0 Vc0, .bool yp] (yl, yp)) := cellK.ownBelow V11.out hb12
        have G12 : Hid (cellK.own w12 SG [.slice Ga0 Gn0 Gc0, .bool yp] (marksI 1 yl.length, yp)) := cellK.ownBelow G11.out hb12
        have HB12 : Hid (Below w.heap.size w w12) := HB11.out.trans (hb12.mono HB11.out.size)
        clear gg11 mm11 aa11 qV11 qX11 qG11 V11 G11 HB11
        clear hb12
        go_wp2_with fail
        refine wp_region_flowV (fun k => match k with | 0 => some (.agg #[.int .i64 ea, .int .i64 eb, .int .i64 ec, .int .i64 ed]) | 1 => some (.agg #[.int .i64 ea, .int .i64 eb, .int .i64 ec, .int .i64 ed]) | 2 => some (.agg #[.slice a0 n0 c0, .slice a1 n1 c1, .slice a2 n2 c2]) | 4 => some (.agg #[.int .i64 bx, .int .i64 br, .int .i64 bc]) | 5 => some (.agg #[.int .i64 bx, .int .i64 br, .int .i64 bc]) | 9 => some (.bool ok) | 12 => some (.bool ok) | _ => none) (fun listed x u => FactW 3 6 (HasK arrK xx w12.heap.size) listed x u ∧ FactW 6 7 (HasT cellK (yl, yp) (.bool ok) w12.heap.size) listed x u ∧ FactW 7 8 (HasT cellK (yl, yp) (.bool ok) w12.heap.size) listed x u ∧ Fact 7 (fun q => ∃ cs : List Value, q = .tuple #[.agg cs.toArray, .bool ok]) listed x ∧ FactW 8 11 (HasK cellK (yl, yp) w12.heap.size) listed x u ∧ MadeK cellK 42 #[.slice none 0 0, .bool false] 10 11 w12.heap.size (yl, yp) listed x u) (fun _ => undef) (by kernel_rfl) (by kernel_rfl) ?hxR4 ?hSR4 ?hsR4 ?heR4
        case hxR4 => simp only [putsX, Act.put, List.setIfInBounds_toArray, List.set_cons_zero, List.set_cons_succ]
        case hSR4 => exact ⟨FactW.zero _ _ _ _ _ _, FactW.zero _ _ _ _ _ _, FactW.zero _ _ _ _ _ _, Fact.zero _ _ _ _, FactW.zero _ _ _ _ _ _, MadeK.zero _ _ _ _ _ _ _ _ _ _⟩
        case hsR4 =>
          simp only [flowSteps]
          refine ⟨?sR4_0, ?sR4_1, ?sR4_2, ?sR4_3, ?sR4_4, ?sR4_5, ?sR4_6, ?sR4_7, ?sR4_8, ?sR4_9, ?sR4_10, ?sR4_11, ?sR4_12, trivial⟩
          case sR4_0 =>
            intro listed bb u hsz hn hwt hinv
            obtain ⟨x, rfl, hC, hU, hA0, hT, hV, hP, hO, hM⟩ := hinv
            simp only [putsX, Act.put, List.setIfInBounds_toArray, List.set_cons_zero, List.set_cons_succ]
            obtain ⟨d0, d1, d2, d3⟩ := cells4 (keep_block hC gg12 (lt_of_block gg12))
            go_wp2_with fail
            refine stepQ_normal ⟨trivial, upd x 0 (.agg #[.int .i64 ea, .int .i64 eb, .int .i64 ec, .int .i64 ed]), ?_, hC, hU.step (fun _ h => Option.some.inj h), hA0.keep (by decide) (by decide) _ id, hT.keep (by decide) (by decide) _ id, hV.keep (by decide) (by decide) _ id, hP.keep (by decide) _, hO.keep (by decide) (by decide) _ id, hM.keep (by decide) (by decide) _ (Below.refl _ _)⟩
            simp only [upd]
            rfl
          case sR4_1 =>
            intro listed bb u hsz hn hwt hinv
            obtain ⟨x, rfl, hC, hU, hA0, hT, hV, hP, hO, hM⟩ := hinv
            have f0 := Lib.hid (hU 0 _ rfl (hwt 0 (by kernel_rfl)))
            simp only [putsX, Act.put, List.setIfInBounds_toArray, List.set_cons_zero, List.set_cons_succ]
            have hcall : Calls Try.prog 24 #[x 0] u (Gives (.agg #[.int .i64 ea, .int .i64 eb, .int .i64 ec, .int .i64 ed]) u) := by rw [f0.out]; exact toGeometry_any _ _ _ _ _
            go_wp2_with fail
            refine hcall.mono ?_
            rintro e' u' ⟨rfl, hb⟩
            go_wp2_with fail
            refine stepQ_normal ⟨trivial, upd x 1 (.agg #[.int .i64 ea, .int .i64 eb, .int .i64 ec, .int .i64 ed]), ?_, hC.trans (hb.mono hC.size), hU.step (fun _ h => Option.some.inj h), hA0.keep (by decide) (by decide) _ (fun h => HasK.below h (hb)), hT.keep (by decide) (by decide) _ (fun h => HasT.below h (hb)), hV.keep (by decide) (by decide) _ (fun h => HasT.below h (hb)), hP.keep (by decide) _, hO.keep (by decide) (by decide) _ (fun h => HasK.below h (hb)), hM.keep (by decide) (by decide) _ (hb)⟩
            simp only [upd]
            rfl
          case sR4_2 =>
            intro listed bb u hsz hn hwt hinv
            obtain ⟨x, rfl, hC, hU, hA0, hT, hV, hP, hO, hM⟩ := hinv
            simp only [putsX, Act.put, List.setIfInBounds_toArray, List.set_cons_zero, List.set_cons_succ]
            obtain ⟨d0, d1, d2⟩ := cells3 (keep_block hC mm12 (lt_of_block mm12))
            go_wp2_with fail
            refine stepQ_normal ⟨trivial, upd x 2 (.agg #[.slice a0 n0 c0, .slice a1 n1 c1, .slice a2 n2 c2]), ?_, hC, hU.step (fun _ h => Option.some.inj h), hA0.keep (by decide) (by decide) _ id, hT.keep (by decide) (by decide) _ id, hV.keep (by decide) (by decide) _ id, hP.keep (by decide) _, hO.keep (by decide) (by decide) _ id, hM.keep (by decide) (by decide) _ (Below.refl _ _)⟩
            simp only [upd]
            rfl
          case sR4_3 =>
            intro listed bb u hsz hn hwt hinv
            obtain ⟨x, rfl, hC, hU, hA0, hT, hV, hP, hO, hM⟩ := hinv
            have f2 := Lib.hid (hU 2 _ rfl (hwt 2 (by kernel_rfl)))
            simp only [putsX, Act.put, List.setIfInBounds_toArray, List.set_cons_zero, List.set_cons_succ]
            have hbu := HB12.out.trans (hC.mono HB12.out.size)
            have hcall : Calls Try.prog 25 #[x 2] u (GivesS arrK xx u) := by rw [f2.out]; exact toArray_k (arrK.below HX0.out hbu) HFIT.out.1 HFIT.out.2.1 HFIT.out.2.2.1 HFIT.out.2.2.2
            go_wp2_with fail
            refine hcall.mono ?_
            rintro e' u' ⟨cs, SS, rfl, own, hss, hb⟩
            go_wp2_with fail
            refine stepQ_normal ⟨trivial, upd x 3 (.agg cs.toArray), ?_, hC.trans (hb.mono hC.size), hU.step (fun _ h => by cases h), FactW.new ⟨cs, SS, rfl, own, fun b h => Nat.le_trans hC.size (hss b h)⟩, hT.keep (by decide) (by decide) _ (fun h => HasT.below h (hb)), hV.keep (by decide) (by decide) _ (fun h => HasT.below h (hb)), hP.keep (by decide) _, hO.keep (by decide) (by decide) _ (fun h => HasK.below h (hb)), hM.keep (by decide) (by decide) _ (hb)⟩
            simp only [upd]
            rfl
          case sR4_4 =>
            intro listed bb u hsz hn hwt hinv
            obtain ⟨x, rfl, hC, hU, hA0, hT, hV, hP, hO, hM⟩ := hinv
            simp only [putsX, Act.put, List.setIfInBounds_toArray, List.set_cons_zero, List.set_cons_succ]
            obtain ⟨d0, d1, d2⟩ := cells3 (keep_block hC aa12 (lt_of_block aa12))
            go_wp2_with fail
            refine stepQ_normal ⟨trivial, upd x 4 (.agg #[.int .i64 bx, .int .i64 br, .int .i64 bc]), ?_, hC, hU.step (fun _ h => Option.some.inj h), hA0.keep (by decide) (by decide) _ id, hT.keep (by decide) (by decide) _ id, hV.keep (by decide) (by decide) _ id, hP.keep (by decide) _, hO.keep (by decide) (by decide) _ id, hM.keep (by decide) (by decide) _ (Below.refl _ _)⟩
            simp only [upd]
            rfl
          case sR4_5 =>
            intro listed bb u hsz hn hwt hinv
            obtain ⟨x, rfl, hC, hU, hA0, hT, hV, hP, hO, hM⟩ := hinv
            have f4 := Lib.hid (hU 4 _ rfl (hwt 4 (by kernel_rfl)))
            simp only [putsX, Act.put, List.setIfInBounds_toArray, List.set_cons_zero, List.set_cons_succ]
            have hcall : Calls Try.prog 36 #[x 4] u (Gives (.agg #[.int .i64 bx, .int .i64 br, .int .i64 bc]) u) := by rw [f4.out]; exact toAddr_any _ _ _ _
            go_wp2_with fail
            refine hcall.mono ?_
            rintro e' u' ⟨rfl, hb⟩
            go_wp2_with fail
            refine stepQ_normal ⟨trivial, upd x 5 (.agg #[.int .i64 bx, .int .i64 br, .int .i64 bc]), ?_, hC.trans (hb.mono hC.size), hU.step (fun _ h => Option.some.inj h), hA0.keep (by decide) (by decide) _ (fun h => HasK.below h (hb)), hT.keep (by decide) (by decide) _ (fun h => HasT.below h (hb)), hV.keep (by decide) (by decide) _ (fun h => HasT.below h (hb)), hP.keep (by decide) _, hO.keep (by decide) (by decide) _ (fun h => HasK.below h (hb)), hM.keep (by decide) (by decide) _ (hb)⟩
            simp only [upd]
            rfl
          case sR4_6 =>
            intro listed bb u hsz hn hwt hinv
            obtain ⟨x, rfl, hC, hU, hA0, hT, hV, hP, hO, hM⟩ := hinv
            have f1 := Lib.hid (hU 1 _ rfl (hwt 1 (by kernel_rfl)))
            have f5 := Lib.hid (hU 5 _ rfl (hwt 5 (by kernel_rfl)))
            simp only [putsX, Act.put, List.setIfInBounds_toArray, List.set_cons_zero, List.set_cons_succ]
            obtain ⟨cs0, S0, fp0, ow0, _⟩ := hA0 (hwt 3 (by kernel_rfl)) hn
            have hcall : Calls Try.prog 18 #[x 1, x 3, x 5] u (GivesC (yl, yp) ok u) := by rw [f1.out, fp0, f5.out]; exact IM.out u _ (arrK.read ow0) HFIT.out
            clear fp0
            go_wp2_with fail
            refine hcall.mono ?_
            rintro e' u' ⟨cs, SS, rfl, own, hss, hb⟩
            go_wp2_with fail
            refine stepQ_normal ⟨trivial, upd x 6 (.tuple #[.agg cs.toArray, .bool ok]), ?_, hC.trans (hb.mono hC.size), hU.step (fun _ h => by cases h), FactW.call (by rw [hsz]; decide), FactW.new ⟨cs, SS, rfl, own, fun b h => Nat.le_trans hC.size (hss b h)⟩, hV.keep (by decide) (by decide) _ (fun h => HasT.below h (hb)), hP.keep (by decide) _, hO.keep (by decide) (by decide) _ (fun h => HasK.below h (hb)), hM.keep (by decide) (by decide) _ (hb)⟩
            simp only [upd]
            rfl
          case sR4_7 =>
            intro listed bb u hsz hn hwt hinv
            obtain ⟨x, rfl, hC, hU, hA0, hT, hV, hP, hO, hM⟩ := hinv
            simp only [putsX, Act.put, List.setIfInBounds_toArray, List.set_cons_zero, List.set_cons_succ]
            obtain ⟨cs, SS, fp, own, hss⟩ := hT (hwt 6 (by kernel_rfl)) hn
            have FP := Lib.hid fp
            rw [FP.out]
            clear fp
            go_wp2_with fail
            refine stepQ_normal ⟨trivial, upd x 7 (.tuple #[.agg cs.toArray, .bool ok]), ?_, hC, hU.step (fun _ h => by cases h), hA0.keep (by decide) (by decide) _ id, FactW.call (by rw [hsz]; decide), FactW.new ⟨cs, SS, rfl, own, hss⟩, Fact.new ⟨cs, rfl⟩, hO.keep (by decide) (by decide) _ id, hM.keep (by decide) (by decide) _ (Below.refl _ _)⟩
            simp only [upd]
            simp only [FP.out]
            (try rfl)
          case sR4_8 =>
            intro listed bb u hsz hn hwt hinv
            obtain ⟨x, rfl, hC, hU, hA0, hT, hV, hP, hO, hM⟩ := hinv
            simp only [putsX, Act.put, List.setIfInBounds_toArray, List.set_cons_zero, List.set_cons_succ]
            obtain ⟨cs, SS, fp, own, hss⟩ := hV (hwt 7 (by kernel_rfl)) hn
            have FP := Lib.hid fp
            rw [FP.out]
            clear fp
            go_wp2_with fail
            refine stepQ_normal ⟨trivial, upd x 8 (.agg cs.toArray), ?_, hC, hU.step (fun _ h => by cases h), hA0.keep (by decide) (by decide) _ id, hT.keep (by decide) (by decide) _ id, FactW.call (by rw [hsz]; decide), hP.keep (by decide) _, FactW.new ⟨cs, SS, rfl, own, hss⟩, hM.keep (by decide) (by decide) _ (Below.refl _ _)⟩
            simp only [upd]
            simp only [FP.out]
            (try rfl)
          case sR4_9 =>
            intro listed bb u hsz hn hwt hinv
            obtain ⟨x, rfl, hC, hU, hA0, hT, hV, hP, hO, hM⟩ := hinv
            simp only [putsX, Act.put, List.setIfInBounds_toArray, List.set_cons_zero, List.set_cons_succ]
            obtain ⟨cs, fp⟩ := hP (hwt 7 (by kernel_rfl))
            have FP := Lib.hid fp
            rw [FP.out]
            clear fp
            go_wp2_with fail
            refine stepQ_normal ⟨trivial, upd x 9 (.bool ok), ?_, hC, hU.step (fun _ h => Option.some.inj h), hA0.keep (by decide) (by decide) _ id, hT.keep (by decide) (by decide) _ id, hV.keep (by decide) (by decide) _ id, hP.keep (by decide) _, hO.keep (by decide) (by decide) _ id, hM.keep (by decide) (by decide) _ (Below.refl _ _)⟩
            simp only [upd]
            simp only [FP.out]
            (try rfl)
          case sR4_10 =>
            intro listed bb u hsz hn hwt hinv
            obtain ⟨x, rfl, hC, hU, hA0, hT, hV, hP, hO, hM⟩ := hinv
            simp only [putsX, Act.put, List.setIfInBounds_toArray, List.set_cons_zero, List.set_cons_succ]
            go_wp2_with fail
            refine stepQ_normal ⟨trivial, upd x 10 (.pointer (some ⟨u.heap.size, 0, none⟩)), ?_, hC.alloc hC.size _, hU.step (fun _ h => by cases h), hA0.keep (by decide) (by decide) _ (fun h => HasK.below h (below_allocK _ _)), hT.keep (by decide) (by decide) _ (fun h => HasT.below h (below_allocK _ _)), hV.keep (by decide) (by decide) _ (fun h => HasT.below h (below_allocK _ _)), hP.keep (by decide) _, hO.keep (by decide) (by decide) _ (fun h => HasK.below h (below_allocK _ _)), hM.new (by decide) hn hC.size⟩
            simp only [upd]
            rfl
          case sR4_11 =>
            intro listed bb u hsz hn hwt hinv
            obtain ⟨x, rfl, hC, hU, hA0, hT, hV, hP, hO, hM⟩ := hinv
            simp only [putsX, Act.put, List.setIfInBounds_toArray, List.set_cons_zero, List.set_cons_succ]
            obtain ⟨g, fg, hg, hh⟩ := hM.there (hwt 10 (by kernel_rfl)) hn
            obtain ⟨cs, SS, fp, own, hss⟩ := hO (hwt 8 (by kernel_rfl)) hn
            obtain ⟨a0, n0, c0, rfl, _⟩ := cell_rd (cellK.read own)
            have FG := Lib.hid fg
            have FP := Lib.hid fp
            rw [FG.out, FP.out]
            obtain ⟨y0, y1⟩ := cells2 hh
            have t0 := thawed hh 0
            have t1 := thawed hh 1
            have hng : g ∉ SS := cellTy.notin own hh (by decide)
            have own0 := own
            have hfin := set_cells (set_cells (hh) 0 (.slice a0 n0 c0)) 1 (.bool yp)
            have OW := Lib.hid (Kn.ownSet cellK (Kn.ownSet cellK own0 (p := ⟨g, 0, none⟩) (fun b h e => hng ((show b = g from e) ▸ h)) (.slice a0 n0 c0)) (p := ⟨g, 1, none⟩) (fun b h e => hng ((show b = g from e) ▸ h)) (.bool yp))
            have HSS := Lib.hid hss
            have HNG := Lib.hid hng
            clear hh fg fp own own0 hss hng
            go_wp2_with fail
            refine stepQ_normal ⟨trivial, upd x 11 undef, ?_, ((hC).setCell (by exact hg) _).setCell (by exact hg) _, hU.step (fun _ h => by cases h), FactW.gone (hwt 6 (by kernel_rfl)), FactW.gone (hwt 7 (by kernel_rfl)), FactW.gone (hwt 8 (by kernel_rfl)), hP.keep (by decide) _, FactW.call (by rw [hsz]; decide), MadeK.fill (by decide) (hwt 10 (by kernel_rfl)) (by rw [hsz]; decide) FG.out hg hfin OW.out HNG.out HSS.out⟩
            simp only [upd]
            simp only [FG.out, FP.out]
            (try rfl)
          case sR4_12 =>
            intro listed bb u hsz hn hwt hinv
            obtain ⟨x, rfl, hC, hU, hA0, hT, hV, hP, hO, hM⟩ := hinv
            have f9 := Lib.hid (hU 9 _ rfl (hwt 9 (by kernel_rfl)))
            simp only [putsX, Act.put, List.setIfInBounds_toArray, List.set_cons_zero, List.set_cons_succ]
            rw [f9.out]
            go_wp2_with fail
            refine stepQ_normal ⟨trivial, upd x 12 (.bool ok), ?_, hC, hU.step (fun _ h => Option.some.inj h), hA0.keep (by decide) (by decide) _ id, hT.keep (by decide) (by decide) _ id, hV.keep (by decide) (by decide) _ id, hP.keep (by decide) _, hO.keep (by decide) (by decide) _ id, hM.keep (by decide) (by decide) _ (Below.refl _ _)⟩
            simp only [upd]
            simp only [f9.out]
            (try rfl)
        case heR4 =>
          intro listed q w13 hall hC hU hS
          obtain ⟨hA0, hT, hV, hP, hO, hM⟩ := hS
          obtain ⟨PH, cs, SH, fg, hgP, hh, own, hng, hss⟩ := hM.full (hall 10 (by decide)) (hall 11 (by decide))
          obtain ⟨Ha0, Hn0, Hc0, rfl, _⟩ := cell_rd (cellK.read own)
          simp only [putsX, Act.put, List.setIfInBounds_toArray, List.set_cons_zero, List.set_cons_succ]
          rw [fg]
          have fa := hU 12 _ rfl (hall 12 (by decide))
          rw [fa]
          clear fa
          clear hall hU fg hA0 hT hV hP hO hM
          generalize q 0 = _q0, q 1 = _q1, q 2 = _q2, q 3 = _q3, q 4 = _q4, q 5 = _q5, q 6 = _q6, q 7 = _q7, q 8 = _q8, q 9 = _q9
          have gg13 := keep_block hC gg12 (lt_of_block gg12)
          have mm13 := keep_block hC mm12 (lt_of_block mm12)
          have aa13 := keep_block hC aa12 (lt_of_block aa12)
          have qV13 := keep_block hC qV12 (lt_of_block qV12)
          have qX13 := keep_block hC qX12 (lt_of_block qX12)
          have qG13 := keep_block hC qG12 (lt_of_block qG12)
          have V13 : Hid (cellK.own w13 SV [.slice Va0 Vn0 Vc0, .bool yp] (yl, yp)) := cellK.ownBelow V12.out hC
          have G13 : Hid (cellK.own w13 SG [.slice Ga0 Gn0 Gc0, .bool yp] (marksI 1 yl.length, yp)) := cellK.ownBelow G12.out hC
          have HB13 : Hid (Below w.heap.size w w13) := HB12.out.trans (hC.mono HB12.out.size)
          have BH : Hid (∀ b ∈ SH, w12.heap.size ≤ b) := hss
          have H13 : Hid (cellK.own w13 SH [.slice Ha0 Hn0 Hc0, .bool yp] (yl, yp)) := own
          have qH13 := hh
          have NVqH : Hid (PH ∉ SV) := fun h => by have h1 := cellK.lt V12.out _ h; omega
          have NGqH : Hid (PH ∉ SG) := fun h => by have h1 := cellK.lt G12.out _ h; omega
          have DVH : Hid (∀ b ∈ SV, b ∉ SH) := fun b h1 h2 => by have h3 := cellK.lt V12.out b h1; have h4 := BH.out b h2; omega
          have DGH : Hid (∀ b ∈ SG, b ∉ SH) := fun b h1 h2 => by have h3 := cellK.lt G12.out b h1; have h4 := BH.out b h2; omega
          have NHgg : Hid (w.heap.size ∉ SH) := fun h => by have h1 := lt_of_block gg12; have h2 := BH.out _ h; omega
          have NHmm : Hid ((w.heap.size + 1) ∉ SH) := fun h => by have h1 := lt_of_block mm12; have h2 := BH.out _ h; omega
          have NHaa : Hid ((w.heap.size + 1 + 1) ∉ SH) := fun h => by have h1 := lt_of_block aa12; have h2 := BH.out _ h; omega
          have NHqV : Hid (PV ∉ SH) := fun h => by have h1 := lt_of_block qV12; have h2 := BH.out _ h; omega
          have NHqX : Hid (PX ∉ SH) := fun h => by have h1 := lt_of_block qX12; have h2 := BH.out _ h; omega
          have NHqG : Hid (PG ∉ SH) := fun h => by have h1 := lt_of_block qG12; have h2 := BH.out _ h; omega
          have NHqH : Hid (PH ∉ SH) := hng
          clear own hss hh hC hng hgP
          clear gg12 mm12 aa12 qV12 qX12 qG12 V12 G12 HB12
          obtain ⟨kqH0, kqH1⟩ := cells2 qH13
          obtain ⟨kqV0, kqV1⟩ := cells2 qV13
          go_wp2_with fail
          refine (eqCell_cs (cellK.read H13.out) (cellK.read V13.out)).mono ?_
          rintro e w14 ⟨rfl, hb14⟩
          clear kqH0 kqH1 kqV0 kqV1
          have gg14 := keep_block hb14 gg13 (lt_of_block gg13)
          have mm14 := keep_block hb14 mm13 (lt_of_block mm13)
          have aa14 := keep_block hb14 aa13 (lt_of_block aa13)
          have qV14 := keep_block hb14 qV13 (lt_of_block qV13)
          have qX14 := keep_block hb14 qX13 (lt_of_block qX13)
          have qG14 := keep_block hb14 qG13 (lt_of_block qG13)
          have qH14 := keep_block hb14 qH13 (lt_of_block qH13)
          have V14 : Hid (cellK.own w14 SV [.slice Va0 Vn0 Vc0, .bool yp] (yl, yp)) := cellK.ownBelow V13.out hb14
          have G14 : Hid (cellK.own w14 SG [.slice Ga0 Gn0 Gc0, .bool yp] (marksI 1 yl.length, yp)) := cellK.ownBelow G13.out hb14
          have H14 : Hid (cellK.own w14 SH [.slice Ha0 Hn0 Hc0, .bool yp] (yl, yp)) := cellK.ownBelow H13.out hb14
          have HB14 : Hid (Below w.heap.size w w14) := HB13.out.trans (hb14.mono HB13.out.size)
          clear gg13 mm13 aa13 qV13 qX13 qG13 qH13 V13 G13 H13 HB13
          clear hb14
          obtain ⟨kqG0, kqG1⟩ := cells2 qG14
          go_wp2_with fail
          refine (heldCell_v (cellK.read G14.out) HCYN.out ky HKY.out).mono ?_
          rintro e w15 ⟨rfl, hb15⟩
          clear kqG0 kqG1
          have gg15 := keep_block hb15 gg14 (lt_of_block gg14)
          have mm15 := keep_block hb15 mm14 (lt_of_block mm14)
          have aa15 := keep_block hb15 aa14 (lt_of_block aa14)
          have qV15 := keep_block hb15 qV14 (lt_of_block qV14)
          have qX15 := keep_block hb15 qX14 (lt_of_block qX14)
          have qG15 := keep_block hb15 qG14 (lt_of_block qG14)
          have qH15 := keep_block hb15 qH14 (lt_of_block qH14)
          have V15 : Hid (cellK.own w15 SV [.slice Va0 Vn0 Vc0, .bool yp] (yl, yp)) := cellK.ownBelow V14.out hb15
          have G15 : Hid (cellK.own w15 SG [.slice Ga0 Gn0 Gc0, .bool yp] (marksI 1 yl.length, yp)) := cellK.ownBelow G14.out hb15
          have H15 : Hid (cellK.own w15 SH [.slice Ha0 Hn0 Hc0, .bool yp] (yl, yp)) := cellK.ownBelow H14.out hb15
          have HB15 : Hid (Below w.heap.size w w15) := HB14.out.trans (hb15.mono HB14.out.size)
          clear gg14 mm14 aa14 qV14 qX14 qG14 qH14 V14 G14 H14 HB14
          clear hb15
          go_wp2_with fail
          go_ret
          exact ⟨rfl, HB15.out⟩

end Go.Proofs.Ytfpfgaifhmgpiaa

namespace Go.Proofs.Ytfpfgaifhmgpiaa
open Go.RowKit Go.PlainAid

set_option linter.unusedVariables false

set_option maxHeartbeats 8000000 in
set_option maxRecDepth 100000 in
theorem implLoadCell_is : ILoadCell := by
  intro ga gb gr gd bx br bc cs x w h hf
  have HF := Lib.hid hf
  clear hf
  obtain ⟨a0, n0, c0, a1, n1, c1, a2, n2, c2, rfl, h0, h1, h2⟩ := arr_rd h
  obtain ⟨w1, hw1⟩ : ∃ u, (((w.alloc (.cells #[.int .i64 ga, .int .i64 gb, .int .i64 gr, .int .i64 gd] 25)).alloc (.cells #[.slice a0 n0 c0, .slice a1 n1 c1, .slice a2 n2 c2] 31)).alloc (.cells #[.int .i64 bx, .int .i64 br, .int .i64 bc] 37)).alloc (.cells #[.slice none 0 0, .bool false] 42) = u := ⟨_, rfl⟩
  obtain ⟨g1, p1, l1, r1, hb1⟩ := alloc4 hw1
  have HB1 := Lib.hid hb1
  have H1 := Lib.hid (arrK.below h HB1.out)
  have HX := Lib.hid (cellsK.below h0 HB1.out)
  clear h h0 h1 h2
  obtain ⟨x0, x1, x2, x3⟩ := cells4 g1
  obtain ⟨y0, y1, y2⟩ := cells3 p1
  go_enter Try.func18, Try.ntmps18
  by_cases ha : ArrOk ga gb gr gd x
  case neg =>
    have KA := Lib.hid (decide_eq_false ha)
    have HE : Hid (loadF ga gb gr gd x bx br bc = (([], false), false)) := if_neg (fun h => ha h.1)
    clear ha
    go_wp2_with fail
    refine (implArrayOk_is ga gb gr gd _ _ false KA.out _ H1.out HF.out).mono ?_
    rintro e w4 ⟨rfl, hb4⟩
    have HBQ : Hid (Below w.heap.size w w4) := HB1.out.trans (hb4.mono HB1.out.size)
    have rr := keep_block hb4 r1 (lt_of_block r1)
    have gg := keep_block hb4 g1 (lt_of_block g1)
    have ll := keep_block hb4 l1 (lt_of_block l1)
    have pp := keep_block hb4 p1 (lt_of_block p1)
    have H4 := Lib.hid (cellsK.below HX.out hb4)
    clear hb4 g1 l1 p1 r1 x0 x1 x2 x3 y0 y1 y2
    obtain ⟨x0, x1, x2, x3⟩ := cells4 gg
    obtain ⟨y0, y1, y2⟩ := cells3 ll
    have f0 := thawed rr 0
    have f1 := thawed rr 1
    obtain ⟨s0, s1⟩ := cells2 rr
    go_wp2_with fail
    (try simp only [Exit.inBlock, Exit.then])
    refine bodyPost_ret (v := .tuple #[.agg #[.slice none 0 0, .bool false], .bool false]) ?_ rfl ⟨[.slice none 0 0, .bool false], [], ?_, ?_, fun b hb => (by cases hb), ?_⟩
    · simp [results, Try.results18, go_sem, s0, s1]
    · rw [HE.out]
    · rw [HE.out]
      exact cell_of false (ints_none _)
    · exact (HBQ.out.setCell (by show _ ≤ w.heap.size + 1 + 1 + 1; omega) _).setCell (by show _ ≤ w.heap.size + 1 + 1 + 1; omega) _
  have KA := Lib.hid (decide_eq_true ha)
  by_cases hn : AdOk ga gb gr gd bx br bc
  case neg =>
    have KN := Lib.hid (decide_eq_false hn)
    have HE : Hid (loadF ga gb gr gd x bx br bc = (([], false), false)) := if_neg (fun h => hn h.2)
    clear ha hn
    go_wp2_with fail
    refine (implArrayOk_is ga gb gr gd _ _ true KA.out _ H1.out HF.out).mono ?_
    rintro e w4 ⟨rfl, hb4⟩
    have HBQ : Hid (Below w.heap.size w w4) := HB1.out.trans (hb4.mono HB1.out.size)
    have rr := keep_block hb4 r1 (lt_of_block r1)
    have gg := keep_block hb4 g1 (lt_of_block g1)
    have ll := keep_block hb4 l1 (lt_of_block l1)
    have pp := keep_block hb4 p1 (lt_of_block p1)
    have H4 := Lib.hid (cellsK.below HX.out hb4)
    clear hb4 g1 l1 p1 r1 x0 x1 x2 x3 y0 y1 y2
    obtain ⟨x0, x1, x2, x3⟩ := cells4 gg
    obtain ⟨y0, y1, y2⟩ := cells3 ll
    go_wp2_with fail
    refine (implAddrOk_is ga gb gr gd bx br bc false KN.out _).mono ?_
    rintro e w5 ⟨rfl, hb5⟩
    have HBR : Hid (Below w.heap.size w w5) := HBQ.out.trans (hb5.mono HBQ.out.size)
    have r5 := keep_block hb5 rr (lt_of_block rr)
    have g5 := keep_block hb5 gg (lt_of_block gg)
    have l5 := keep_block hb5 ll (lt_of_block ll)
    have p5 := keep_block hb5 pp (lt_of_block pp)
    have H5 := Lib.hid (cellsK.below H4.out hb5)
    clear HBQ H4 rr gg ll pp hb5 x0 x1 x2 x3 y0 y1 y2
    have HBQ := HBR
    have rr := r5
    have gg := g5
    have ll := l5
    have pp := p5
    clear HBR r5 g5 l5 p5
    have f0 := thawed rr 0
    have f1 := thawed rr 1
    obtain ⟨s0, s1⟩ := cells2 rr
    go_wp2_with fail
    (try simp only [Exit.inBlock, Exit.then])
    refine bodyPost_ret (v := .tuple #[.agg #[.slice none 0 0, .bool false], .bool false]) ?_ rfl ⟨[.slice none 0 0, .bool false], [], ?_, ?_, fun b hb => (by cases hb), ?_⟩
    · simp [results, Try.results18, go_sem, s0, s1]
    · rw [HE.out]
    · rw [HE.out]
      exact cell_of false (ints_none _)
    · exact (HBQ.out.setCell (by show _ ≤ w.heap.size + 1 + 1 + 1; omega) _).setCell (by show _ ≤ w.heap.size + 1 + 1 + 1; omega) _
  have KN := Lib.hid (decide_eq_true hn)
  obtain ⟨j, hj, hjl⟩ := cell_index ha hn
  have HE : Hid (loadF ga gb gr gd x bx br bc = (x.1.getD j ([], false), true)) := by
    show _ = _
    unfold loadF
    rw [if_pos ⟨ha, hn⟩, hj]
    rfl
  have HJ := Lib.hid hj
  have HJL := Lib.hid hjl
  have HSY : Hid (∀ c ∈ x.1, SymOk c.1 11) := ha.2.2.2.2.1
  clear ha hn hj hjl
  go_wp2_with fail
  refine (implArrayOk_is ga gb gr gd _ _ true KA.out _ H1.out HF.out).mono ?_
  rintro e w4 ⟨rfl, hb4⟩
  have HBQ : Hid (Below w.heap.size w w4) := HB1.out.trans (hb4.mono HB1.out.size)
  have rr := keep_block hb4 r1 (lt_of_block r1)
  have gg := keep_block hb4 g1 (lt_of_block g1)
  have ll := keep_block hb4 l1 (lt_of_block l1)
  have pp := keep_block hb4 p1 (lt_of_block p1)
  have H4 := Lib.hid (cellsK.below HX.out hb4)
  clear hb4 g1 l1 p1 r1 x0 x1 x2 x3 y0 y1 y2
  obtain ⟨x0, x1, x2, x3⟩ := cells4 gg
  obtain ⟨y0, y1, y2⟩ := cells3 ll
  go_wp2_with fail
  refine (implAddrOk_is ga gb gr gd bx br bc true KN.out _).mono ?_
  rintro e w5 ⟨rfl, hb5⟩
  have HBR : Hid (Below w.heap.size w w5) := HBQ.out.trans (hb5.mono HBQ.out.size)
  have r5 := keep_block hb5 rr (lt_of_block rr)
  have g5 := keep_block hb5 gg (lt_of_block gg)
  have l5 := keep_block hb5 ll (lt_of_block ll)
  have p5 := keep_block hb5 pp (lt_of_block pp)
  have H5 := Lib.hid (cellsK.below H4.out hb5)
  clear HBQ H4 rr gg ll pp hb5 x0 x1 x2 x3 y0 y1 y2
  have HBQ := HBR
  have rr := r5
  have gg := g5
  have ll := l5
  have pp := p5
  clear HBR r5 g5 l5 p5
  obtain ⟨l0, _, m0, _⟩ := Kn.row_len H5.out
  have l0' : x.1.length = n0 := l0
  have hjn : j < n0 := by have := HJL.out; omega
  unfold maxLen at m0
  obtain ⟨gA, oA, ds, rfl, hcell, hel⟩ := Kn.row_at H5.out HJL.out
  have hgd : x.1.getD j ([], false) = x.1[j] := by rw [List.getD_eq_getElem?_getD, List.getElem?_eq_getElem HJL.out]; rfl
  have hsym := HSY.out x.1[j] (List.getElem_mem _)
  rw [hgd] at HE
  generalize x.1[j] = c at hel hsym HE
  obtain ⟨s, pz⟩ := c
  obtain ⟨xa, xn, xc, rfl, hs⟩ := cell_rd hel
  have b0 : w5.cell? ⟨gA, oA + j * 2, none⟩ = some (.slice xa xn xc) := hcell 0 (by decide)
  have b1 : w5.cell? ⟨gA, oA + j * 2 + 1, none⟩ = some (.bool pz) := hcell 1 (by decide)
  have hs11 : (s.length : Int) = 11 := hsym.2
  have HS : Hid (intsK.rd w5 [.slice xa xn xc] s) := hs
  obtain ⟨p0, p1, p2⟩ := cells3 pp
  obtain ⟨x0, x1, x2, x3⟩ := cells4 gg
  obtain ⟨y0, y1, y2⟩ := cells3 ll
  have z0 := fun q : Later w5 => q.cell p0
  have z3 := fun q : Later w5 => q.cell b0
  have z4 := fun q : Later w5 => q.cell b1
  have zx0 := fun q : Later w5 => q.cell x0
  have zx1 := fun q : Later w5 => q.cell x1
  have zx2 := fun q : Later w5 => q.cell x2
  have zx3 := fun q : Later w5 => q.cell x3
  have zy0 := fun q : Later w5 => q.cell y0
  have zy1 := fun q : Later w5 => q.cell y1
  have zy2 := fun q : Later w5 => q.cell y2
  clear hs hel hsym hcell hgd b0 b1 p0 p1 p2 x0 x1 x2 x3 y0 y1 y2 l0 l0'
  go_wp2_with fail
  refine wp_region_later_tail 7 (by kernel_rfl) (by kernel_rfl) ?_
  simp only [List.take_succ_cons, List.take_zero, List.drop_succ_cons, List.drop_zero]
  repeat (go_big_quiet_step (first | (go_at_call 55; exact Gives.later _ (implIndex_is ga gb gr gd bx br bc (j : Int) HJ.out _))))
  refine wpQuiet_nil ?_
  rintro R0 ⟨zz, hz⟩
  have hbR : Below w5.heap.size w5 R0 := hz ▸ zz.ok
  have HBX : Hid (Below w.heap.size w R0) := HBQ.out.trans (hbR.mono HBQ.out.size)
  have rR := keep_block hbR rr (lt_of_block rr)
  have HSR := Lib.hid (intsK.below HS.out hbR)
  clear z0 z3 z4 zx0 zx1 zx2 zx3 zy0 zy1 zy2 hz zz hbR gg ll pp rr
  go_wp2_with fail
  refine (implCell_k (p := pz) HSR.out (by omega)).mono ?_
  rintro e R1 ⟨cs6, S6, rfl, own6, hS6, hb6⟩
  obtain ⟨ya, yn, yc, rfl, hi6⟩ := cell_own own6
  have HB7 : Hid (Below w.heap.size w R1) := HBX.out.trans (hb6.mono HBX.out.size)
  have r7 := keep_block hb6 rR (lt_of_block rR)
  have HS6 : Hid (∀ b ∈ S6, w.heap.size + 1 + 1 + 1 < b) := fun b hb => by
    have := hS6 b hb
    have := lt_of_block rR
    show w.heap.size + 1 + 1 + 1 < b
    omega
  have HO7 := Lib.hid hi6
  clear own6 hS6 hb6 hi6 rR HBX
  have f0 := thawed r7 0
  have f1 := thawed r7 1
  have o8 := set_cells (set_cells r7 0 (.slice ya yn yc)) 1 (.bool pz)
  obtain ⟨t0, t1⟩ := cells2 o8
  obtain ⟨s0, s1⟩ := cells2 r7
  go_wp2_with fail
  (try simp only [Exit.inBlock, Exit.then])
  have q0 : ∀ b ∈ S6, b ≠ w.heap.size + 1 + 1 + 1 := fun b hb => by have := HS6.out b hb; omega
  refine bodyPost_ret (v := .tuple #[.agg #[.slice ya yn yc, .bool pz], .bool true]) ?_ rfl ⟨[.slice ya yn yc, .bool pz], S6, ?_, ?_, fun b hb => ?_, ?_⟩
  · simp [results, Try.results18, go_sem, t0, t1]
  · rw [HE.out]
  · rw [HE.out]
    exact cell_of pz (intsK.ownSet (intsK.ownSet HO7.out (fun b hb => q0 b hb) _) (fun b hb => q0 b hb) _)
  · have := HS6.out b hb; omega
  · exact (HB7.out.setCell (by show _ ≤ w.heap.size + 1 + 1 + 1; omega) _).setCell (by show _ ≤ w.heap.size + 1 + 1 + 1; omega) _

end Go.Proofs.Ytfpfgaifhmgpiaa

namespace Go.Proofs.Ytfpfgaifhmgpiaa
open Go.RowKit

set_option linter.unusedVariables false

theorem exLoadCell_walk (ea eb ec ed : Int) (lx : List Value) (bx br bc : Int) (w : World) (_ : (Lit.int .i64 ea).wf = true) (_ : (Lit.int .i64 eb).wf = true) (_ : (Lit.int .i64 ec).wf = true) (_ : (Lit.int .i64 ed).wf = true) (s : Sh.Fits w (.and (.row (.and (.row (.num .i64)) (.and .flag .fin))) (.and (.row (.num .i64)) (.and (.row (.num .i64)) .fin))) lx) (_ : (Lit.int .i64 bx).wf = true) (_ : (Lit.int .i64 br).wf = true) (_ : (Lit.int .i64 bc).wf = true) :
    Calls Try.prog 9 #[.agg #[.int .i64 ea, .int .i64 eb, .int .i64 ec, .int .i64 ed], .agg lx.toArray, .agg #[.int .i64 bx, .int .i64 br, .int .i64 bc]] w fun e w' => e = .returned (.bool true) ∧ Below w.heap.size w w' := exLoadCell_of (Lib.hid implLoadCell_is) ea eb ec ed lx bx br bc w s

end Go.Proofs.Ytfpfgaifhmgpiaa
