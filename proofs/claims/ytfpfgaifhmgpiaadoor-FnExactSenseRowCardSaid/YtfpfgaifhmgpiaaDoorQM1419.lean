/-
  Texts of one proof, merged: ArrX2, ArrX7, LinI.
-/
import Derived.Test.YtfpfgaifhmgpiaaDoorQM143
import Derived.Test.YtfpfgaifhmgpiaaDoorQM1417
import Derived.Test.YtfpfgaifhmgpiaaDoorQM1418
namespace Go.Proofs.YtfpfgaifhmgpiaaDoor
open Go.RowKit Go.PlainAid

set_option linter.unusedVariables false

set_option maxHeartbeats 16000000 in
set_option maxRecDepth 100000 in
theorem exSenseBank_of (Gv : World → Prop) (IMPL : Hid (ISenseBank Gv)) (ea eb ec ed : Int) (la lh : Int) (lx : List Value) (bk : Int) (w : World) (s : Sh.Fits w (.and (.row (.and (.row (.num .i64)) (.and .flag .fin))) (.and (.row (.num .i64)) (.and (.row (.num .i64)) .fin))) lx) (GK : Hid (∀ w', Below w.heap.size w w' → Gv w')) :
    Calls Tryd.prog 8 #[.agg #[.int .i64 ea, .int .i64 eb, .int .i64 ec, .int .i64 ed], .agg #[.int .i64 la, .int .i64 lh], .agg lx.toArray, .int .i64 bk] w fun e w' => e = .returned (.bool true) ∧ Below w.heap.size w w' := by
  obtain ⟨xx, hx⟩ := arr_in s
  obtain ⟨a0, n0, c0, a1, n1, c1, a2, n2, c2, rfl, _, _, _⟩ := arr_rd hx
  have HX0 := Lib.hid hx
  obtain ⟨sv, hsv⟩ : ∃ v, szF 1048576 (arrN xx) = v := ⟨_, rfl⟩
  have HSV := Lib.hid hsv
  obtain ⟨yy, hy⟩ : ∃ z, sensedB ea eb ec ed la lh xx bk = z := ⟨_, rfl⟩
  have HY := Lib.hid hy
  have SPEC : Hid (∀ (u : World) (cs : List Value), arrK.rd u cs xx → ArrFit xx → Calls Tryd.prog 31 #[.agg #[.int .i64 ea, .int .i64 eb, .int .i64 ec, .int .i64 ed], .agg #[.int .i64 la, .int .i64 lh], .agg cs.toArray, .int .i64 bk] u (GivesS arrK yy u)) := fun u cs h hf => by rw [← HY.out]; exact specSenseBank_is ea eb ec ed la lh bk h hf
  have IM : Hid (∀ (u : World) (cs : List Value), arrK.rd u cs xx → ArrFit xx → Gv u → Calls Tryd.prog 20 #[.agg #[.int .i64 ea, .int .i64 eb, .int .i64 ec, .int .i64 ed], .agg #[.int .i64 la, .int .i64 lh], .agg cs.toArray, .int .i64 bk] u (GivesS arrK yy u)) := fun u cs h hf hG => by rw [← HY.out]; exact IMPL.out ea eb ec ed la lh bk cs xx u h hf hG
  have HCY : Hid (aCnt xx ≤ 2097152 → aCnt yy ≤ 3000000) := fun h => by rw [← HY.out]; rw [sensedB_cnt]; omega
  clear hy
  obtain ⟨w1, hw1⟩ : ∃ u, (((w.alloc (.cells #[.int .i64 ea, .int .i64 eb, .int .i64 ec, .int .i64 ed] 51)).alloc (.cells #[.int .i64 la, .int .i64 lh] 56)).alloc (.cells #[.slice a0 n0 c0, .slice a1 n1 c1, .slice a2 n2 c2] 59)) = u := ⟨_, rfl⟩
  obtain ⟨gg1, ll1, mm1, hb1⟩ := alloc3 hw1
  have HB1 : Hid (Below w.heap.size w w1) := hb1
  clear hb1
  clear hx hsv
  go_enter Tryd.func8, Tryd.ntmps8
  obtain ⟨kmm0, kmm1, kmm2⟩ := cells3 mm1
  go_wp2_with fail
  refine (szArray_k (arrK.below HX0.out HB1.out) 1048576 sv (by decide) (by decide) HSV.out).mono ?_
  rintro e w2 ⟨rfl, hb2⟩
  clear kmm0 kmm1 kmm2
  have gg2 := keep_block hb2 gg1 (lt_of_block gg1)
  have ll2 := keep_block hb2 ll1 (lt_of_block ll1)
  have mm2 := keep_block hb2 mm1 (lt_of_block mm1)
  have HB2 : Hid (Below w.heap.size w w2) := HB1.out.trans (hb2.mono HB1.out.size)
  clear gg1 ll1 mm1 HB1
  clear hb2
  clear hw1
  by_cases hs : sv < 0
  · have ts : decide (sv < 0) = true := decide_eq_true hs
    go_wp2_with fail
    go_ret
    exact ⟨rfl, HB2.out⟩
  have ts : decide (sv < 0) = false := decide_eq_false hs
  have hfit := arr_size (x := xx) (by rw [HSV.out]; exact hs)
  have HFIT := Lib.hid hfit.1
  have HCNT := Lib.hid hfit.2
  clear hs hfit
  have HC := HCY.out HCNT.out
  have HCYN := Lib.hid HC
  have t1x : decide (((1 + aCnt xx : Nat) : Int) < 0) = false := decide_eq_false (by omega)
  have t1y : decide (((1 + aCnt yy : Nat) : Int) < 0) = false := decide_eq_false (by omega)
  have tyy : (((1 + aCnt yy : Nat) : Int) != ((1 + aCnt yy : Nat) : Int)) = false := by simp
  obtain ⟨ky, hky⟩ : ∃ z : Int, ((1 + aCnt yy : Nat) : Int) = z := ⟨_, rfl⟩
  obtain ⟨kx, hkx⟩ : ∃ z : Int, ((1 + aCnt xx : Nat) : Int) = z := ⟨_, rfl⟩
  rw [hky] at t1y tyy
  rw [hkx] at t1x
  have HKY := Lib.hid hky
  have HKX := Lib.hid hkx
  clear HC hky hkx
  go_wp2_with fail
  refine wp_region_flowV (fun k => match k with | 0 => some (.agg #[.int .i64 ea, .int .i64 eb, .int .i64 ec, .int .i64 ed]) | 1 => some (.agg #[.int .i64 ea, .int .i64 eb, .int .i64 ec, .int .i64 ed]) | 2 => some (.agg #[.int .i64 la, .int .i64 lh]) | 3 => some (.agg #[.int .i64 la, .int .i64 lh]) | 4 => some (.agg #[.slice a0 n0 c0, .slice a1 n1 c1, .slice a2 n2 c2]) | 6 => some (.int .i64 bk) | _ => none) (fun listed x u => FactW 5 7 (HasK arrK xx w2.heap.size) listed x u ∧ FactW 7 9 (HasK arrK yy w2.heap.size) listed x u ∧ MadeK arrK 31 #[.slice none 0 0, .slice none 0 0, .slice none 0 0] 8 9 w2.heap.size yy listed x u) (fun _ => undef) (by kernel_rfl) (by kernel_rfl) ?hxR1 ?hSR1 ?hsR1 ?heR1
  case hxR1 => simp only [putsX, Act.put, List.setIfInBounds_toArray, List.set_cons_zero, List.set_cons_succ]
  case hSR1 => exact ⟨FactW.zero _ _ _ _ _ _, FactW.zero _ _ _ _ _ _, MadeK.zero _ _ _ _ _ _ _ _ _ _⟩
  case hsR1 =>
    simp only [flowSteps]
    refine ⟨?sR1_0, ?sR1_1, ?sR1_2, ?sR1_3, ?sR1_4, ?sR1_5, ?sR1_6, ?sR1_7, ?sR1_8, ?sR1_9, trivial⟩
    case sR1_0 =>
      intro listed bb u hsz hn hwt hinv
      obtain ⟨x, rfl, hC, hU, hA0, hO, hM⟩ := hinv
      simp only [putsX, Act.put, List.setIfInBounds_toArray, List.set_cons_zero, List.set_cons_succ]
      obtain ⟨d0, d1, d2, d3⟩ := cells4 (keep_block hC gg2 (lt_of_block gg2))
      go_wp2_with fail
      refine stepQ_normal ⟨trivial, upd x 0 (.agg #[.int .i64 ea, .int .i64 eb, .int .i64 ec, .int .i64 ed]), ?_, hC, hU.step (fun _ h => Option.some.inj h), hA0.keep (by decide) (by decide) _ id, hO.keep (by decide) (by decide) _ id, hM.keep (by decide) (by decide) _ (Below.refl _ _)⟩
      simp only [upd]
      rfl
    case sR1_1 =>
      intro listed bb u hsz hn hwt hinv
      obtain ⟨x, rfl, hC, hU, hA0, hO, hM⟩ := hinv
      have f0 := Lib.hid (hU 0 _ rfl (hwt 0 (by kernel_rfl)))
      simp only [putsX, Act.put, List.setIfInBounds_toArray, List.set_cons_zero, List.set_cons_succ]
      have hcall : Calls Tryd.prog 22 #[x 0] u (Gives (.agg #[.int .i64 ea, .int .i64 eb, .int .i64 ec, .int .i64 ed]) u) := by rw [f0.out]; exact toGeometry_any _ _ _ _ _
      go_wp2_with fail
      refine hcall.mono ?_
      rintro e' u' ⟨rfl, hb⟩
      go_wp2_with fail
      refine stepQ_normal ⟨trivial, upd x 1 (.agg #[.int .i64 ea, .int .i64 eb, .int .i64 ec, .int .i64 ed]), ?_, hC.trans (hb.mono hC.size), hU.step (fun _ h => Option.some.inj h), hA0.keep (by decide) (by decide) _ (fun h => HasK.below h (hb)), hO.keep (by decide) (by decide) _ (fun h => HasK.below h (hb)), hM.keep (by decide) (by decide) _ (hb)⟩
      simp only [upd]
      rfl
    case sR1_2 =>
      intro listed bb u hsz hn hwt hinv
      obtain ⟨x, rfl, hC, hU, hA0, hO, hM⟩ := hinv
      simp only [putsX, Act.put, List.setIfInBounds_toArray, List.set_cons_zero, List.set_cons_succ]
      obtain ⟨d0, d1⟩ := cells2 (keep_block hC ll2 (lt_of_block ll2))
      go_wp2_with fail
      refine stepQ_normal ⟨trivial, upd x 2 (.agg #[.int .i64 la, .int .i64 lh]), ?_, hC, hU.step (fun _ h => Option.some.inj h), hA0.keep (by decide) (by decide) _ id, hO.keep (by decide) (by decide) _ id, hM.keep (by decide) (by decide) _ (Below.refl _ _)⟩
      simp only [upd]
      rfl
    case sR1_3 =>
      intro listed bb u hsz hn hwt hinv
      obtain ⟨x, rfl, hC, hU, hA0, hO, hM⟩ := hinv
      have f2 := Lib.hid (hU 2 _ rfl (hwt 2 (by kernel_rfl)))
      simp only [putsX, Act.put, List.setIfInBounds_toArray, List.set_cons_zero, List.set_cons_succ]
      have hcall : Calls Tryd.prog 29 #[x 2] u (Gives (.agg #[.int .i64 la, .int .i64 lh]) u) := by rw [f2.out]; exact toLimits_any _ _ _
      go_wp2_with fail
      refine hcall.mono ?_
      rintro e' u' ⟨rfl, hb⟩
      go_wp2_with fail
      refine stepQ_normal ⟨trivial, upd x 3 (.agg #[.int .i64 la, .int .i64 lh]), ?_, hC.trans (hb.mono hC.size), hU.step (fun _ h => Option.some.inj h), hA0.keep (by decide) (by decide) _ (fun h => HasK.below h (hb)), hO.keep (by decide) (by decide) _ (fun h => HasK.below h (hb)), hM.keep (by decide) (by decide) _ (hb)⟩
      simp only [upd]
      rfl
    case sR1_4 =>
      intro listed bb u hsz hn hwt hinv
      obtain ⟨x, rfl, hC, hU, hA0, hO, hM⟩ := hinv
      simp only [putsX, Act.put, List.setIfInBounds_toArray, List.set_cons_zero, List.set_cons_succ]
      obtain ⟨d0, d1, d2⟩ := cells3 (keep_block hC mm2 (lt_of_block mm2))
      go_wp2_with fail
      refine stepQ_normal ⟨trivial, upd x 4 (.agg #[.slice a0 n0 c0, .slice a1 n1 c1, .slice a2 n2 c2]), ?_, hC, hU.step (fun _ h => Option.some.inj h), hA0.keep (by decide) (by decide) _ id, hO.keep (by decide) (by decide) _ id, hM.keep (by decide) (by decide) _ (Below.refl _ _)⟩
      simp only [upd]
      rfl
    case sR1_5 =>
      intro listed bb u hsz hn hwt hinv
      obtain ⟨x, rfl, hC, hU, hA0, hO, hM⟩ := hinv
      have f4 := Lib.hid (hU 4 _ rfl (hwt 4 (by kernel_rfl)))
      simp only [putsX, Act.put, List.setIfInBounds_toArray, List.set_cons_zero, List.set_cons_succ]
      have hbu := HB2.out.trans (hC.mono HB2.out.size)
      have hcall : Calls Tryd.prog 30 #[x 4] u (GivesS arrK xx u) := by rw [f4.out]; exact toArray_k (arrK.below HX0.out hbu) HFIT.out.1 HFIT.out.2.1 HFIT.out.2.2.1 HFIT.out.2.2.2
      go_wp2_with fail
      refine hcall.mono ?_
      rintro e' u' ⟨cs, SS, rfl, own, hss, hb⟩
      go_wp2_with fail
      refine stepQ_normal ⟨trivial, upd x 5 (.agg cs.toArray), ?_, hC.trans (hb.mono hC.size), hU.step (fun _ h => by cases h), FactW.new ⟨cs, SS, rfl, own, fun b h => Nat.le_trans hC.size (hss b h)⟩, hO.keep (by decide) (by decide) _ (fun h => HasK.below h (hb)), hM.keep (by decide) (by decide) _ (hb)⟩
      simp only [upd]
      rfl
    case sR1_6 =>
      intro listed bb u hsz hn hwt hinv
      obtain ⟨x, rfl, hC, hU, hA0, hO, hM⟩ := hinv
      simp only [putsX, Act.put, List.setIfInBounds_toArray, List.set_cons_zero, List.set_cons_succ]
      go_wp2_with fail
      refine stepQ_normal ⟨trivial, upd x 6 (.int .i64 bk), ?_, hC, hU.step (fun _ h => Option.some.inj h), hA0.keep (by decide) (by decide) _ id, hO.keep (by decide) (by decide) _ id, hM.keep (by decide) (by decide) _ (Below.refl _ _)⟩
      simp only [upd]
      rfl
    case sR1_7 =>
      intro listed bb u hsz hn hwt hinv
      obtain ⟨x, rfl, hC, hU, hA0, hO, hM⟩ := hinv
      have f1 := Lib.hid (hU 1 _ rfl (hwt 1 (by kernel_rfl)))
      have f3 := Lib.hid (hU 3 _ rfl (hwt 3 (by kernel_rfl)))
      have f6 := Lib.hid (hU 6 _ rfl (hwt 6 (by kernel_rfl)))
      simp only [putsX, Act.put, List.setIfInBounds_toArray, List.set_cons_zero, List.set_cons_succ]
      obtain ⟨cs0, S0, fp0, ow0, _⟩ := hA0 (hwt 5 (by kernel_rfl)) hn
      have hcall : Calls Tryd.prog 31 #[x 1, x 3, x 5, x 6] u (GivesS arrK yy u) := by rw [f1.out, f3.out, fp0, f6.out]; exact SPEC.out u _ (arrK.read ow0) HFIT.out
      clear fp0
      go_wp2_with fail
      refine hcall.mono ?_
      rintro e' u' ⟨cs, SS, rfl, own, hss, hb⟩
      go_wp2_with fail
      refine stepQ_normal ⟨trivial, upd x 7 (.agg cs.toArray), ?_, hC.trans (hb.mono hC.size), hU.step (fun _ h => by cases h), FactW.call (by rw [hsz]; decide), FactW.new ⟨cs, SS, rfl, own, fun b h => Nat.le_trans hC.size (hss b h)⟩, hM.keep (by decide) (by decide) _ (hb)⟩
      simp only [upd]
      rfl
    case sR1_8 =>
      intro listed bb u hsz hn hwt hinv
      obtain ⟨x, rfl, hC, hU, hA0, hO, hM⟩ := hinv
      simp only [putsX, Act.put, List.setIfInBounds_toArray, List.set_cons_zero, List.set_cons_succ]
      go_wp2_with fail
      refine stepQ_normal ⟨trivial, upd x 8 (.pointer (some ⟨u.heap.size, 0, none⟩)), ?_, hC.alloc hC.size _, hU.step (fun _ h => by cases h), hA0.keep (by decide) (by decide) _ (fun h => HasK.below h (below_allocK _ _)), hO.keep (by decide) (by decide) _ (fun h => HasK.below h (below_allocK _ _)), hM.new (by decide) hn hC.size⟩
      simp only [upd]
      rfl
    case sR1_9 =>
      intro listed bb u hsz hn hwt hinv
      obtain ⟨x, rfl, hC, hU, hA0, hO, hM⟩ := hinv
      simp only [putsX, Act.put, List.setIfInBounds_toArray, List.set_cons_zero, List.set_cons_succ]
      obtain ⟨g, fg, hg, hh⟩ := hM.there (hwt 8 (by kernel_rfl)) hn
      obtain ⟨cs, SS, fp, own, hss⟩ := hO (hwt 7 (by kernel_rfl)) hn
      obtain ⟨a0, n0, c0, a1, n1, c1, a2, n2, c2, rfl, _, _, _⟩ := arr_rd (arrK.read own)
      have FG := Lib.hid fg
      have FP := Lib.hid fp
      rw [FG.out, FP.out]
      obtain ⟨y0, y1, y2⟩ := cells3 hh
      have t0 := thawed hh 0
      have t1 := thawed hh 1
      have t2 := thawed hh 2
      have hng : g ∉ SS := arrTy.notin own hh (by decide)
      have own0 := own
      have hfin := set_cells (set_cells (set_cells (hh) 0 (.slice a0 n0 c0)) 1 (.slice a1 n1 c1)) 2 (.slice a2 n2 c2)
      have OW := Lib.hid (Kn.ownSet arrK (Kn.ownSet arrK (Kn.ownSet arrK own0 (p := ⟨g, 0, none⟩) (fun b h e => hng ((show b = g from e) ▸ h)) (.slice a0 n0 c0)) (p := ⟨g, 1, none⟩) (fun b h e => hng ((show b = g from e) ▸ h)) (.slice a1 n1 c1)) (p := ⟨g, 2, none⟩) (fun b h e => hng ((show b = g from e) ▸ h)) (.slice a2 n2 c2))
      have HSS := Lib.hid hss
      have HNG := Lib.hid hng
      clear hh fg fp own own0 hss hng
      go_wp2_with fail
      refine stepQ_normal ⟨trivial, upd x 9 undef, ?_, (((hC).setCell (by exact hg) _).setCell (by exact hg) _).setCell (by exact hg) _, hU.step (fun _ h => by cases h), FactW.gone (hwt 7 (by kernel_rfl)), FactW.call (by rw [hsz]; decide), MadeK.fill (by decide) (hwt 8 (by kernel_rfl)) (by rw [hsz]; decide) FG.out hg hfin OW.out HNG.out HSS.out⟩
      simp only [upd]
      simp only [FG.out, FP.out]
      (try rfl)
  case heR1 =>
    intro listed q w3 hall hC hU hS
    obtain ⟨hA0, hO, hM⟩ := hS
    obtain ⟨PV, cs, SV, fg, hgP, hh, own, hng, hss⟩ := hM.full (hall 8 (by decide)) (hall 9 (by decide))
    obtain ⟨Va0, Vn0, Vc0, Va1, Vn1, Vc1, Va2, Vn2, Vc2, rfl, _, _, _⟩ := arr_rd (arrK.read own)
    simp only [putsX, Act.put, List.setIfInBounds_toArray, List.set_cons_zero, List.set_cons_succ]
    rw [fg]
    clear hall hU fg hA0 hO hM
    generalize q 0 = _q0, q 1 = _q1, q 2 = _q2, q 3 = _q3, q 4 = _q4, q 5 = _q5, q 6 = _q6, q 7 = _q7
    have gg3 := keep_block hC gg2 (lt_of_block gg2)
    have ll3 := keep_block hC ll2 (lt_of_block ll2)
    have mm3 := keep_block hC mm2 (lt_of_block mm2)
    have HB3 : Hid (Below w.heap.size w w3) := HB2.out.trans (hC.mono HB2.out.size)
    have BV : Hid (∀ b ∈ SV, w2.heap.size ≤ b) := hss
    have V3 : Hid (arrK.own w3 SV [.slice Va0 Vn0 Vc0, .slice Va1 Vn1 Vc1, .slice Va2 Vn2 Vc2] yy) := own
    have qV3 := hh
    have NVgg : Hid (w.heap.size ∉ SV) := fun h => by have h1 := lt_of_block gg2; have h2 := BV.out _ h; omega
    have NVll : Hid ((w.heap.size + 1) ∉ SV) := fun h => by have h1 := lt_of_block ll2; have h2 := BV.out _ h; omega
    have NVmm : Hid ((w.heap.size + 1 + 1) ∉ SV) := fun h => by have h1 := lt_of_block mm2; have h2 := BV.out _ h; omega
    have NVqV : Hid (PV ∉ SV) := hng
    clear own hss hh hC hng hgP
    clear gg2 ll2 mm2 HB2
    have SZX : Hid (w.heap.size ≤ w3.heap.size) := HB3.out.size
    obtain ⟨kmm0, kmm1, kmm2⟩ := cells3 mm3
    go_wp2_with fail
    refine (toArray_k (arrK.below HX0.out HB3.out) HFIT.out.1 HFIT.out.2.1 HFIT.out.2.2.1 HFIT.out.2.2.2).mono ?_
    rintro e w4 ⟨cs, SX, rfl, own4, hs4, hb4⟩
    clear kmm0 kmm1 kmm2
    have gg4 := keep_block hb4 gg3 (lt_of_block gg3)
    have ll4 := keep_block hb4 ll3 (lt_of_block ll3)
    have mm4 := keep_block hb4 mm3 (lt_of_block mm3)
    have qV4 := keep_block hb4 qV3 (lt_of_block qV3)
    have V4 : Hid (arrK.own w4 SV [.slice Va0 Vn0 Vc0, .slice Va1 Vn1 Vc1, .slice Va2 Vn2 Vc2] yy) := arrK.ownBelow V3.out hb4
    have HB4 : Hid (Below w.heap.size w w4) := HB3.out.trans (hb4.mono HB3.out.size)
    have BX : Hid (∀ b ∈ SX, w3.heap.size ≤ b) := hs4
    clear hs4
    obtain ⟨Xa0, Xn0, Xc0, Xa1, Xn1, Xc1, Xa2, Xn2, Xc2, rfl, _, _, _⟩ := arr_rd (arrK.read own4)
    have X4 : Hid (arrK.own w4 SX [.slice Xa0 Xn0 Xc0, .slice Xa1 Xn1 Xc1, .slice Xa2 Xn2 Xc2] xx) := own4
    have DVX : Hid (∀ b ∈ SV, b ∉ SX) := fun b h1 h2 => by have h3 := arrK.lt V3.out b h1; have h4 := BX.out b h2; omega
    have NXgg : Hid (w.heap.size ∉ SX) := fun h => by have h1 := lt_of_block gg3; have h2 := BX.out _ h; omega
    have NXll : Hid ((w.heap.size + 1) ∉ SX) := fun h => by have h1 := lt_of_block ll3; have h2 := BX.out _ h; omega
    have NXmm : Hid ((w.heap.size + 1 + 1) ∉ SX) := fun h => by have h1 := lt_of_block mm3; have h2 := BX.out _ h; omega
    have NXqV : Hid (PV ∉ SX) := fun h => by have h1 := lt_of_block qV3; have h2 := BX.out _ h; omega
    clear own4 hb4
    clear gg3 ll3 mm3 qV3 V3 HB3
    obtain ⟨PX, hPX⟩ : ∃ P, w4.heap.size = P := ⟨_, rfl⟩
    have NVqX : Hid (PX ∉ SV) := fun h => by have h1 := arrK.lt V4.out _ h; omega
    have NXqX : Hid (PX ∉ SX) := fun h => by have h1 := arrK.lt X4.out _ h; omega
    have HPX := Lib.hid hPX
    clear hPX
    have hb5 : Below w4.heap.size w4 (w4.alloc (.cells #[.slice Xa0 Xn0 Xc0, .slice Xa1 Xn1 Xc1, .slice Xa2 Xn2 Xc2] 31)) := (Below.refl _ _).alloc (Nat.le_refl _) _
    have gg5 := keep_block hb5 gg4 (lt_of_block gg4)
    have ll5 := keep_block hb5 ll4 (lt_of_block ll4)
    have mm5 := keep_block hb5 mm4 (lt_of_block mm4)
    have qV5 := keep_block hb5 qV4 (lt_of_block qV4)
    have V5 : Hid (arrK.own (w4.alloc (.cells #[.slice Xa0 Xn0 Xc0, .slice Xa1 Xn1 Xc1, .slice Xa2 Xn2 Xc2] 31)) SV [.slice Va0 Vn0 Vc0, .slice Va1 Vn1 Vc1, .slice Va2 Vn2 Vc2] yy) := arrK.ownBelow V4.out hb5
    have X5 : Hid (arrK.own (w4.alloc (.cells #[.slice Xa0 Xn0 Xc0, .slice Xa1 Xn1 Xc1, .slice Xa2 Xn2 Xc2] 31)) SX [.slice Xa0 Xn0 Xc0, .slice Xa1 Xn1 Xc1, .slice Xa2 Xn2 Xc2] xx) := arrK.ownBelow X4.out hb5
    have qX5 := heap_alloc_new w4 (.cells #[.slice Xa0 Xn0 Xc0, .slice Xa1 Xn1 Xc1, .slice Xa2 Xn2 Xc2] 31)
    have HB5 : Hid (Below w.heap.size w (w4.alloc (.cells #[.slice Xa0 Xn0 Xc0, .slice Xa1 Xn1 Xc1, .slice Xa2 Xn2 Xc2] 31))) := HB4.out.trans (hb5.mono HB4.out.size)
    go_wp2_with fail
    clear hb5
    clear gg4 ll4 mm4 qV4 V4 X4 HB4
    generalize (w4.alloc (.cells #[.slice Xa0 Xn0 Xc0, .slice Xa1 Xn1 Xc1, .slice Xa2 Xn2 Xc2] 31)) = w5 at gg5 ll5 mm5 qV5 V5 X5 qX5 HB5 ⊢
    rw [HPX.out] at qX5
    (try simp only [HPX.out])
    clear HPX
    have SZG : Hid (w.heap.size ≤ w5.heap.size) := HB5.out.size
    go_wp2_with fail
    refine wp_region_flowV (fun k => match k with | 0 => some (.agg #[.int .i64 ea, .int .i64 eb, .int .i64 ec, .int .i64 ed]) | 1 => some (.agg #[.int .i64 ea, .int .i64 eb, .int .i64 ec, .int .i64 ed]) | 2 => some (.agg #[.int .i64 la, .int .i64 lh]) | 3 => some (.agg #[.int .i64 la, .int .i64 lh]) | 4 => some (.agg #[.slice Xa0 Xn0 Xc0, .slice Xa1 Xn1 Xc1, .slice Xa2 Xn2 Xc2]) | 5 => some (.int .i64 bk) | _ => none) (fun listed x u => FactW 6 8 (HasK arrK yy w5.heap.size) listed x u ∧ MadeK arrK 31 #[.slice none 0 0, .slice none 0 0, .slice none 0 0] 7 8 w5.heap.size yy listed x u) (fun _ => undef) (by kernel_rfl) (by kernel_rfl) ?hxR2 ?hSR2 ?hsR2 ?heR2
    case hxR2 => simp only [putsX, Act.put, List.setIfInBounds_toArray, List.set_cons_zero, List.set_cons_succ]
    case hSR2 => exact ⟨FactW.zero _ _ _ _ _ _, MadeK.zero _ _ _ _ _ _ _ _ _ _⟩
    case hsR2 =>
      simp only [flowSteps]
      refine ⟨?sR2_0, ?sR2_1, ?sR2_2, ?sR2_3, ?sR2_4, ?sR2_5, ?sR2_6, ?sR2_7, ?sR2_8, trivial⟩
      case sR2_0 =>
        intro listed bb u hsz hn hwt hinv
        obtain ⟨x, rfl, hC, hU, hO, hM⟩ := hinv
        simp only [putsX, Act.put, List.setIfInBounds_toArray, List.set_cons_zero, List.set_cons_succ]
        obtain ⟨d0, d1, d2, d3⟩ := cells4 (keep_block hC gg5 (lt_of_block gg5))
        go_wp2_with fail
        refine stepQ_normal ⟨trivial, upd x 0 (.agg #[.int .i64 ea, .int .i64 eb, .int .i64 ec, .int .i64 ed]), ?_, hC, hU.step (fun _ h => Option.some.inj h), hO.keep (by decide) (by decide) _ id, hM.keep (by decide) (by decide) _ (Below.refl _ _)⟩
        simp only [upd]
        rfl
      case sR2_1 =>
        intro listed bb u hsz hn hwt hinv
        obtain ⟨x, rfl, hC, hU, hO, hM⟩ := hinv
        have f0 := Lib.hid (hU 0 _ rfl (hwt 0 (by kernel_rfl)))
        simp only [putsX, Act.put, List.setIfInBounds_toArray, List.set_cons_zero, List.set_cons_succ]
        have hcall : Calls Tryd.prog 22 #[x 0] u (Gives (.agg #[.int .i64 ea, .int .i64 eb, .int .i64 ec, .int .i64 ed]) u) := by rw [f0.out]; exact toGeometry_any _ _ _ _ _
        go_wp2_with fail
        refine hcall.mono ?_
        rintro e' u' ⟨rfl, hb⟩
        go_wp2_with fail
        refine stepQ_normal ⟨trivial, upd x 1 (.agg #[.int .i64 ea, .int .i64 eb, .int .i64 ec, .int .i64 ed]), ?_, hC.trans (hb.mono hC.size), hU.step (fun _ h => Option.some.inj h), hO.keep (by decide) (by decide) _ (fun h => HasK.below h (hb)), hM.keep (by decide) (by decide) _ (hb)⟩
        simp only [upd]
        rfl
      case sR2_2 =>
        intro listed bb u hsz hn hwt hinv
        obtain ⟨x, rfl, hC, hU, hO, hM⟩ := hinv
        simp only [putsX, Act.put, List.setIfInBounds_toArray, List.set_cons_zero, List.set_cons_succ]
        obtain ⟨d0, d1⟩ := cells2 (keep_block hC ll5 (lt_of_block ll5))
        go_wp2_with fail
        refine stepQ_normal ⟨trivial, upd x 2 (.agg #[.int .i64 la, .int .i64 lh]), ?_, hC, hU.step (fun _ h => Option.some.inj h), hO.keep (by decide) (by decide) _ id, hM.keep (by decide) (by decide) _ (Below.refl _ _)⟩
        simp only [upd]
        rfl
      case sR2_3 =>
        intro listed bb u hsz hn hwt hinv
        obtain ⟨x, rfl, hC, hU, hO, hM⟩ := hinv
        have f2 := Lib.hid (hU 2 _ rfl (hwt 2 (by kernel_rfl)))
        simp only [putsX, Act.put, List.setIfInBounds_toArray, List.set_cons_zero, List.set_cons_succ]
        have hcall : Calls Tryd.prog 29 #[x 2] u (Gives (.agg #[.int .i64 la, .int .i64 lh]) u) := by rw [f2.out]; exact toLimits_any _ _ _
        go_wp2_with fail
        refine hcall.mono ?_
        rintro e' u' ⟨rfl, hb⟩
        go_wp2_with fail
        refine stepQ_normal ⟨trivial, upd x 3 (.agg #[.int .i64 la, .int .i64 lh]), ?_, hC.trans (hb.mono hC.size), hU.step (fun _ h => Option.some.inj h), hO.keep (by decide) (by decide) _ (fun h => HasK.below h (hb)), hM.keep (by decide) (by decide) _ (hb)⟩
        simp only [upd]
        rfl
      case sR2_4 =>
        intro listed bb u hsz hn hwt hinv
        obtain ⟨x, rfl, hC, hU, hO, hM⟩ := hinv
        simp only [putsX, Act.put, List.setIfInBounds_toArray, List.set_cons_zero, List.set_cons_succ]
        obtain ⟨d0, d1, d2⟩ := cells3 (keep_block hC qX5 (lt_of_block qX5))
        go_wp2_with fail
        refine stepQ_normal ⟨trivial, upd x 4 (.agg #[.slice Xa0 Xn0 Xc0, .slice Xa1 Xn1 Xc1, .slice Xa2 Xn2 Xc2]), ?_, hC, hU.step (fun _ h => Option.some.inj h), hO.keep (by decide) (by decide) _ id, hM.keep (by decide) (by decide) _ (Below.refl _ _)⟩
        simp only [upd]
        rfl
      case sR2_5 =>
        intro listed bb u hsz hn hwt hinv
        obtain ⟨x, rfl, hC, hU, hO, hM⟩ := hinv
        simp only [putsX, Act.put, List.setIfInBounds_toArray, List.set_cons_zero, List.set_cons_succ]
        go_wp2_with fail
        refine stepQ_normal ⟨trivial, upd x 5 (.int .i64 bk), ?_, hC, hU.step (fun _ h => Option.some.inj h), hO.keep (by decide) (by decide) _ id, hM.keep (by decide) (by decide) _ (Below.refl _ _)⟩
        simp only [upd]
        rfl
      case sR2_6 =>
        intro listed bb u hsz hn hwt hinv
        obtain ⟨x, rfl, hC, hU, hO, hM⟩ := hinv
        have f1 := Lib.hid (hU 1 _ rfl (hwt 1 (by kernel_rfl)))
        have f3 := Lib.hid (hU 3 _ rfl (hwt 3 (by kernel_rfl)))
        have f4 := Lib.hid (hU 4 _ rfl (hwt 4 (by kernel_rfl)))
        have f5 := Lib.hid (hU 5 _ rfl (hwt 5 (by kernel_rfl)))
        simp only [putsX, Act.put, List.setIfInBounds_toArray, List.set_cons_zero, List.set_cons_succ]
        have hcall : Calls Tryd.prog 20 #[x 1, x 3, x 4, x 5] u (GivesS arrK yy u) := by rw [f1.out, f3.out, f4.out, f5.out]; exact IM.out u _ (arrK.read (arrK.ownBelow X5.out hC)) HFIT.out (GK.out u (HB5.out.trans (hC.mono HB5.out.size)))
        go_wp2_with fail
        refine hcall.mono ?_
        rintro e' u' ⟨cs, SS, rfl, own, hss, hb⟩
        go_wp2_with fail
        refine stepQ_normal ⟨trivial, upd x 6 (.agg cs.toArray), ?_, hC.trans (hb.mono hC.size), hU.step (fun _ h => by cases h), FactW.new ⟨cs, SS, rfl, own, fun b h => Nat.le_trans hC.size (hss b h)⟩, hM.keep (by decide) (by decide) _ (hb)⟩
        simp only [upd]
        rfl
      case sR2_7 =>
        intro listed bb u hsz hn hwt hinv
        obtain ⟨x, rfl, hC, hU, hO, hM⟩ := hinv
        simp only [putsX, Act.put, List.setIfInBounds_toArray, List.set_cons_zero, List.set_cons_succ]
        go_wp2_with fail
        refine stepQ_normal ⟨trivial, upd x 7 (.pointer (some ⟨u.heap.size, 0, none⟩)), ?_, hC.alloc hC.size _, hU.step (fun _ h => by cases h), hO.keep (by decide) (by decide) _ (fun h => HasK.below h (below_allocK _ _)), hM.new (by decide) hn hC.size⟩
        simp only [upd]
        rfl
      case sR2_8 =>
        intro listed bb u hsz hn hwt hinv
        obtain ⟨x, rfl, hC, hU, hO, hM⟩ := hinv
        simp only [putsX, Act.put, List.setIfInBounds_toArray, List.set_cons_zero, List.set_cons_succ]
        obtain ⟨g, fg, hg, hh⟩ := hM.there (hwt 7 (by kernel_rfl)) hn
        obtain ⟨cs, SS, fp, own, hss⟩ := hO (hwt 6 (by kernel_rfl)) hn
        obtain ⟨a0, n0, c0, a1, n1, c1, a2, n2, c2, rfl, _, _, _⟩ := arr_rd (arrK.read own)
        have FG := Lib.hid fg
        have FP := Lib.hid fp
        rw [FG.out, FP.out]
        obtain ⟨y0, y1, y2⟩ := cells3 hh
        have t0 := thawed hh 0
        have t1 := thawed hh 1
        have t2 := thawed hh 2
        have hng : g ∉ SS := arrTy.notin own hh (by decide)
        have own0 := own
        have hfin := set_cells (set_cells (set_cells (hh) 0 (.slice a0 n0 c0)) 1 (.slice a1 n1 c1)) 2 (.slice a2 n2 c2)
        have OW := Lib.hid (Kn.ownSet arrK (Kn.ownSet arrK (Kn.ownSet arrK own0 (p := ⟨g, 0, none⟩) (fun b h e => hng ((show b = g from e) ▸ h)) (.slice a0 n0 c0)) (p := ⟨g, 1, none⟩) (fun b h e => hng ((show b = g from e) ▸ h)) (.slice a1 n1 c1)) (p := ⟨g, 2, none⟩) (fun b h e => hng ((show b = g from e) ▸ h)) (.slice a2 n2 c2))
        have HSS := Lib.hid hss
        have HNG := Lib.hid hng
        clear hh fg fp own own0 hss hng
        go_wp2_with fail
        refine stepQ_normal ⟨trivial, upd x 8 undef, ?_, (((hC).setCell (by exact hg) _).setCell (by exact hg) _).setCell (by exact hg) _, hU.step (fun _ h => by cases h), FactW.call (by rw [hsz]; decide), MadeK.fill (by decide) (hwt 7 (by kernel_rfl)) (by rw [hsz]; decide) FG.out hg hfin OW.out HNG.out HSS.out⟩
        simp only [upd]
        simp only [FG.out, FP.out]
        (try rfl)
    case heR2 =>
      intro listed q w6 hall hC hU hS
      obtain ⟨hO, hM⟩ := hS
      obtain ⟨PG, cs, SG, fg, hgP, hh, own, hng, hss⟩ := hM.full (hall 7 (by decide)) (hall 8 (by decide))
      obtain ⟨Ga0, Gn0, Gc0, Ga1, Gn1, Gc1, Ga2, Gn2, Gc2, rfl, _, _, _⟩ := arr_rd (arrK.read own)
      simp only [putsX, Act.put, List.setIfInBounds_toArray, List.set_cons_zero, List.set_cons_succ]
      rw [fg]
      clear hall hU fg hO hM
      generalize q 0 = _q0, q 1 = _q1, q 2 = _q2, q 3 = _q3, q 4 = _q4, q 5 = _q5, q 6 = _q6
      have gg6 := keep_block hC gg5 (lt_of_block gg5)
      have ll6 := keep_block hC ll5 (lt_of_block ll5)
      have mm6 := keep_block hC mm5 (lt_of_block mm5)
      have qV6 := keep_block hC qV5 (lt_of_block qV5)
      have qX6 := keep_block hC qX5 (lt_of_block qX5)
      have V6 : Hid (arrK.own w6 SV [.slice Va0 Vn0 Vc0, .slice Va1 Vn1 Vc1, .slice Va2 Vn2 Vc2] yy) := arrK.ownBelow V5.out hC
      have X6 : Hid (arrK.own w6 SX [.slice Xa0 Xn0 Xc0, .slice Xa1 Xn1 Xc1, .slice Xa2 Xn2 Xc2] xx) := arrK.ownBelow X5.out hC
      have HB6 : Hid (Below w.heap.size w w6) := HB5.out.trans (hC.mono HB5.out.size)
      have BG : Hid (∀ b ∈ SG, w5.heap.size ≤ b) := hss
      have G6 : Hid (arrK.own w6 SG [.slice Ga0 Gn0 Gc0, .slice Ga1 Gn1 Gc1, .slice Ga2 Gn2 Gc2] yy) := own
      have qG6 := hh
      have NVqG : Hid (PG ∉ SV) := fun h => by have h1 := arrK.lt V5.out _ h; omega
      have NXqG : Hid (PG ∉ SX) := fun h => by have h1 := arrK.lt X5.out _ h; omega
      have DVG : Hid (∀ b ∈ SV, b ∉ SG) := fun b h1 h2 => by have h3 := arrK.lt V5.out b h1; have h4 := BG.out b h2; omega
      have DXG : Hid (∀ b ∈ SX, b ∉ SG) := fun b h1 h2 => by have h3 := arrK.lt X5.out b h1; have h4 := BG.out b h2; omega
      have NGgg : Hid (w.heap.size ∉ SG) := fun h => by have h1 := lt_of_block gg5; have h2 := BG.out _ h; omega
      have NGll : Hid ((w.heap.size + 1) ∉ SG) := fun h => by have h1 := lt_of_block ll5; have h2 := BG.out _ h; omega
      have NGmm : Hid ((w.heap.size + 1 + 1) ∉ SG) := fun h => by have h1 := lt_of_block mm5; have h2 := BG.out _ h; omega
      have NGqV : Hid (PV ∉ SG) := fun h => by have h1 := lt_of_block qV5; have h2 := BG.out _ h; omega
      have NGqX : Hid (PX ∉ SG) := fun h => by have h1 := lt_of_block qX5; have h2 := BG.out _ h; omega
      have NGqG : Hid (PG ∉ SG) := hng
      clear own hss hh hC hng hgP
      clear gg5 ll5 mm5 qV5 qX5 V5 X5 HB5
      obtain ⟨kqG0, kqG1, kqG2⟩ := cells3 qG6
      obtain ⟨kqV0, kqV1, kqV2⟩ := cells3 qV6
      go_wp2_with fail
      refine (eqArr_cs (arrK.read G6.out) (arrK.read V6.out)).mono ?_
      rintro e w7 ⟨rfl, hb7⟩
      clear kqG0 kqG1 kqG2 kqV0 kqV1 kqV2
      have gg7 := keep_block hb7 gg6 (lt_of_block gg6)
      have ll7 := keep_block hb7 ll6 (lt_of_block ll6)
      have mm7 := keep_block hb7 mm6 (lt_of_block mm6)
      have qV7 := keep_block hb7 qV6 (lt_of_block qV6)
      have qX7 := keep_block hb7 qX6 (lt_of_block qX6)
      have qG7 := keep_block hb7 qG6 (lt_of_block qG6)
      have V7 : Hid (arrK.own w7 SV [.slice Va0 Vn0 Vc0, .slice Va1 Vn1 Vc1, .slice Va2 Vn2 Vc2] yy) := arrK.ownBelow V6.out hb7
      have X7 : Hid (arrK.own w7 SX [.slice Xa0 Xn0 Xc0, .slice Xa1 Xn1 Xc1, .slice Xa2 Xn2 Xc2] xx) := arrK.ownBelow X6.out hb7
      have G7 : Hid (arrK.own w7 SG [.slice Ga0 Gn0 Gc0, .slice Ga1 Gn1 Gc1, .slice Ga2 Gn2 Gc2] yy) := arrK.ownBelow G6.out hb7
      have HB7 : Hid (Below w.heap.size w w7) := HB6.out.trans (hb7.mono HB6.out.size)
      clear gg6 ll6 mm6 qV6 qX6 qG6 V6 X6 G6 HB6
      clear hb7
      go_wp2_with fail
      refine wp_region_flowV (fun k => match k with | 0 => some (.agg #[.slice Xa0 Xn0 Xc0, .slice Xa1 Xn1 Xc1, .slice Xa2 Xn2 Xc2]) | 1 => some (.agg #[.slice a0 n0 c0, .slice a1 n1 c1, .slice a2 n2 c2]) | 3 => some (.bool true) | 4 => some (.bool false) | _ => none) (fun listed x u => FactW 2 3 (HasK arrK xx w7.heap.size) listed x u) (fun _ => undef) (by kernel_rfl) (by kernel_rfl) ?hxR3 ?hSR3 ?hsR3 ?heR3
      case hxR3 => simp only [putsX, Act.put, List.setIfInBounds_toArray, List.set_cons_zero, List.set_cons_succ]
      case hSR3 => exact FactW.zero _ _ _ _ _ _
      case hsR3 =>
        simp only [flowSteps]
        refine ⟨?sR3_0, ?sR3_1, ?sR3_2, ?sR3_3, ?sR3_4, trivial⟩
        case sR3_0 =>
          intro listed bb u hsz hn hwt hinv
          obtain ⟨x, rfl, hC, hU, hA0⟩ := hinv
          simp only [putsX, Act.put, List.setIfInBounds_toArray, List.set_cons_zero, List.set_cons_succ]
          obtain ⟨d0, d1, d2⟩ := cells3 (keep_block hC qX7 (lt_of_block qX7))
          go_wp2_with fail
          refine stepQ_normal ⟨trivial, upd x 0 (.agg #[.slice Xa0 Xn0 Xc0, .slice Xa1 Xn1 Xc1, .slice Xa2 Xn2 Xc2]), ?_, hC, hU.step (fun _ h => Option.some.inj h), hA0.keep (by decide) (by decide) _ id⟩
          simp only [upd]
          rfl
        case sR3_1 =>
          intro listed bb u hsz hn hwt hinv
          obtain ⟨x, rfl, hC, hU, hA0⟩ := hinv
          simp only [putsX, Act.put, List.setIfInBounds_toArray, List.set_cons_zero, List.set_cons_succ]
          obtain ⟨d0, d1, d2⟩ := cells3 (keep_block hC mm7 (lt_of_block mm7))
          go_wp2_with fail
          refine stepQ_normal ⟨trivial, upd x 1 (.agg #[.slice a0 n0 c0, .slice a1 n1 c1, .slice a2 n2 c2]), ?_, hC, hU.step (fun _ h => Option.some.inj h), hA0.keep (by decide) (by decide) _ id⟩
          simp only [upd]
          rfl
        case sR3_2 =>
          intro listed bb u hsz hn hwt hinv
          obtain ⟨x, rfl, hC, hU, hA0⟩ := hinv
          have f1 := Lib.hid (hU 1 _ rfl (hwt 1 (by kernel_rfl)))
          simp only [putsX, Act.put, List.setIfInBounds_toArray, List.set_cons_zero, List.set_cons_succ]
          have hbu := HB7.out.trans (hC.mono HB7.out.size)
          have hcall : Calls Tryd.prog 30 #[x 1] u (GivesS arrK xx u) := by rw [f1.out]; exact toArray_k (arrK.below HX0.out hbu) HFIT.out.1 HFIT.out.2.1 HFIT.out.2.2.1 HFIT.out.2.2.2
          go_wp2_with fail
          refine hcall.mono ?_
          rintro e' u' ⟨cs, SS, rfl, own, hss, hb⟩
          go_wp2_with fail
          refine stepQ_normal ⟨trivial, upd x 2 (.agg cs.toArray), ?_, hC.trans (hb.mono hC.size), hU.step (fun _ h => by cases h), FactW.new ⟨cs, SS, rfl, own, fun b h => Nat.le_trans hC.size (hss b h)⟩⟩
          simp only [upd]
          rfl
        case sR3_3 =>
          intro listed bb u hsz hn hwt hinv
          obtain ⟨x, rfl, hC, hU, hA0⟩ := hinv
          have f0 := Lib.hid (hU 0 _ rfl (hwt 0 (by kernel_rfl)))
          simp only [putsX, Act.put, List.setIfInBounds_toArray, List.set_cons_zero, List.set_cons_succ]
          obtain ⟨cs0, S0, fp0, ow0, _⟩ := hA0 (hwt 2 (by kernel_rfl)) hn
          have hcall : Calls Tryd.prog 24 #[x 0, x 2] u (Gives (.bool true) u) := by rw [f0.out, fp0]; exact eqArr_cs (arrK.read (arrK.ownBelow X7.out hC)) (arrK.read ow0)
          clear fp0
          go_wp2_with fail
          refine hcall.mono ?_
          rintro e' u' ⟨rfl, hb⟩
          go_wp2_with fail
          refine stepQ_normal ⟨trivial, upd x 3 (.bool true), ?_, hC.trans (hb.mono hC.size), hU.step (fun _ h => Option.some.inj h), FactW.call (by rw [hsz]; decide)⟩
          simp only [upd]
          rfl
        case sR3_4 =>
          intro listed bb u hsz hn hwt hinv
          obtain ⟨x, rfl, hC, hU, hA0⟩ := hinv
          have f3 := Lib.hid (hU 3 _ rfl (hwt 3 (by kernel_rfl)))
          simp only [putsX, Act.put, List.setIfInBounds_toArray, List.set_cons_zero, List.set_cons_succ]
          rw [f3.out]
          go_wp2_with fail
          refine stepQ_normal ⟨trivial, upd x 4 (.bool false), ?_, hC, hU.step (fun _ h => Option.some.inj h), hA0.keep (by decide) (by decide) _ id⟩
          simp only [upd]
          simp only [f3.out]
          (try rfl)
      case heR3 =>
        intro listed q w8 hall hC hU hS
        have hA0 := hS
        have fq3 := hU 3 _ rfl (hall 3 (by decide))
        have fq4 := hU 4 _ rfl (hall 4 (by decide))
        simp only [putsX, Act.put, List.setIfInBounds_toArray, List.set_cons_zero, List.set_cons_succ]
        rw [fq3, fq4]
        clear hall hU fq3 fq4 hA0
        generalize q 0 = _q0, q 1 = _q1, q 2 = _q2
        have gg8 := keep_block hC gg7 (lt_of_block gg7)
        have ll8 := keep_block hC ll7 (lt_of_block ll7)
        have mm8 := keep_block hC mm7 (lt_of_block mm7)
        have qV8 := keep_block hC qV7 (lt_of_block qV7)
        have qX8 := keep_block hC qX7 (lt_of_block qX7)
        have qG8 := keep_block hC qG7 (lt_of_block qG7)
        have V8 : Hid (arrK.own w8 SV [.slice Va0 Vn0 Vc0, .slice Va1 Vn1 Vc1, .slice Va2 Vn2 Vc2] yy) := arrK.ownBelow V7.out hC
        have X8 : Hid (arrK.own w8 SX [.slice Xa0 Xn0 Xc0, .slice Xa1 Xn1 Xc1, .slice Xa2 Xn2 Xc2] xx) := arrK.ownBelow X7.out hC
        have G8 : Hid (arrK.own w8 SG [.slice Ga0 Gn0 Gc0, .slice Ga1 Gn1 Gc1, .slice Ga2 Gn2 Gc2] yy) := arrK.ownBelow G7.out hC
        have HB8 : Hid (Below w.heap.size w w8) := HB7.out.trans (hC.mono HB7.out.size)
        clear hC
        clear gg7 ll7 mm7 qV7 qX7 qG7 V7 X7 G7 HB7
        obtain ⟨kqX0, kqX1, kqX2⟩ := cells3 qX8
        go_wp2_with fail
        refine (markArr_v X8.out (Nat.le_trans HCNT.out (by decide)) kx HKX.out).mono ?_
        rintro e w9 ⟨rfl, own9, ho9⟩
        clear kqX0 kqX1 kqX2
        have gg9 := (ho9.block _ (lt_of_block gg8) NXgg.out).trans gg8
        have ll9 := (ho9.block _ (lt_of_block ll8) NXll.out).trans ll8
        have mm9 := (ho9.block _ (lt_of_block mm8) NXmm.out).trans mm8
        have qV9 := (ho9.block _ (lt_of_block qV8) NXqV.out).trans qV8
        have qX9 := (ho9.block _ (lt_of_block qX8) NXqX.out).trans qX8
        have qG9 := (ho9.block _ (lt_of_block qG8) NXqG.out).trans qG8
        have V9 : Hid (arrK.own w9 SV [.slice Va0 Vn0 Vc0, .slice Va1 Vn1 Vc1, .slice Va2 Vn2 Vc2] yy) := arrK.ownKeep V8.out ho9 DVX.out
        have G9 : Hid (arrK.own w9 SG [.slice Ga0 Gn0 Gc0, .slice Ga1 Gn1 Gc1, .slice Ga2 Gn2 Gc2] yy) := arrK.ownKeep G8.out ho9 (fun b h1 h2 => DXG.out b h2 h1)
        have HB9 : Hid (Below w.heap.size w w9) := HB8.out.trans (ho9.below (fun b h => Nat.le_trans SZX.out (BX.out b h)) HB8.out.size)
        have X9 : Hid (arrK.own w9 SX [.slice Xa0 Xn0 Xc0, .slice Xa1 Xn1 Xc1, .slice Xa2 Xn2 Xc2] (aMk xx 1)) := own9
        clear own9 ho9
        clear gg8 ll8 mm8 qV8 qX8 qG8 V8 X8 G8 HB8
        clear X9
        obtain ⟨kqG0, kqG1, kqG2⟩ := cells3 qG9
        obtain ⟨kqV0, kqV1, kqV2⟩ := cells3 qV9
        go_wp2_with fail
        refine (eqArr_cs (arrK.read G9.out) (arrK.read V9.out)).mono ?_
        rintro e w10 ⟨rfl, hb10⟩
        clear kqG0 kqG1 kqG2 kqV0 kqV1 kqV2
        have gg10 := keep_block hb10 gg9 (lt_of_block gg9)
        have ll10 := keep_block hb10 ll9 (lt_of_block ll9)
        have mm10 := keep_block hb10 mm9 (lt_of_block mm9)
        have qV10 := keep_block hb10 qV9 (lt_of_block qV9)
        have qX10 := keep_block hb10 qX9 (lt_of_block qX9)
        have qG10 := keep_block hb10 qG9 (lt_of_block qG9)
        have V10 : Hid (arrK.own w10 SV [.slice Va0 Vn0 Vc0, .slice Va1 Vn1 Vc1, .slice Va2 Vn2 Vc2] yy) := arrK.ownBelow V9.out hb10
        have G10 : Hid (arrK.own w10 SG [.slice Ga0 Gn0 Gc0, .slice Ga1 Gn1 Gc1, .slice Ga2 Gn2 Gc2] yy) := arrK.ownBelow G9.out hb10
        have HB10 : Hid (Below w.heap.size w w10) := HB9.out.trans (hb10.mono HB9.out.size)
        clear gg9 ll9 mm9 qV9 qX9 qG9 V9 G9 HB9
        clear hb10
        obtain ⟨kqG0, kqG1, kqG2⟩ := cells3 qG10
        go_wp2_with fail
        refine (markArr_v G10.out (Nat.le_trans HCYN.out (by decide)) ky HKY.out).mono ?_
        rintro e w11 ⟨rfl, own11, ho11⟩
        clear kqG0 kqG1 kqG2
        have gg11 := (ho11.block _ (lt_of_block gg10) NGgg.out).trans gg10
        have ll11 := (ho11.block _ (lt_of_block ll10) NGll.out).trans ll10
        have mm11 := (ho11.block _ (lt_of_block mm10) NGmm.out).trans mm10
        have qV11 := (ho11.block _ (lt_of_block qV10) NGqV.out).trans qV10
        have qX11 := (ho11.block _ (lt_of_block qX10) NGqX.out).trans qX10
        have qG11 := (ho11.block _ (lt_of_block qG10) NGqG.out).trans qG10
        have V11 : Hid (arrK.own w11 SV [.slice Va0 Vn0 Vc0, .slice Va1 Vn1 Vc1, .slice Va2 Vn2 Vc2] yy) := arrK.ownKeep V10.out ho11 DVG.out
        have HB11 : Hid (Below w.heap.size w w11) := HB10.out.trans (ho11.below (fun b h => Nat.le_trans SZG.out (BG.out b h)) HB10.out.size)
        have G11 : Hid (arrK.own w11 SG [.slice Ga0 Gn0 Gc0, .slice Ga1 Gn1 Gc1, .slice Ga2 Gn2 Gc2] (aMk yy 1)) := own11
        clear own11 ho11
        clear gg10 ll10 mm10 qV10 qX10 qG10 V10 G10 HB10
        obtain ⟨kqG0, kqG1, kqG2⟩ := cells3 qG11
        go_wp2_with fail
        refine (heldArr_v (arrK.read G11.out) (Nat.le_trans HCYN.out (by decide)) ky HKY.out).mono ?_
        rintro e w12 ⟨rfl, hb12⟩
        clear kqG0 kqG1 kqG2
        have gg12 := keep_block hb12 gg11 (lt_of_block gg11)
        have ll12 := keep_block hb12 ll11 (lt_of_block ll11)
        have mm12 := keep_block hb12 mm11 (lt_of_block mm11)
        have qV12 := keep_block hb12 qV11 (lt_of_block qV11)
        have qX12 := keep_block hb12 qX11 (lt_of_block qX11)
        have qG12 := keep_block hb12 qG11 (lt_of_block qG11)
        have V12 : Hid (arrK.own w12 SV [.slice Va0 Vn0 Vc0, .slice Va1 Vn1 Vc1, .slice Va2 Vn2 Vc2] yy) := arrK.ownBelow V11.out hb12
        have G12 : Hid (arrK.own w12 SG [.slice Ga0 Gn0 Gc0, .slice Ga1 Gn1 Gc1, .slice Ga2 Gn2 Gc2] (aMk yy 1)) := arrK.ownBelow G11.out hb12
        have HB12 : Hid (Below w.heap.size w w12) := HB11.out.trans (hb12.mono HB11.out.size)
        clear gg11 ll11 mm11 qV11 qX11 qG11 V11 G11 HB11
        clear hb12
        go_wp2_with fail
        refine wp_region_flowV (fun k => match k with | 0 => some (.agg #[.int .i64 ea, .int .i64 eb, .int .i64 ec, .int .i64 ed]) | 1 => some (.agg #[.int .i64 ea, .int .i64 eb, .int .i64 ec, .int .i64 ed]) | 2 => some (.agg #[.int .i64 la, .int .i64 lh]) | 3 => some (.agg #[.int .i64 la, .int .i64 lh]) | 4 => some (.agg #[.slice a0 n0 c0, .slice a1 n1 c1, .slice a2 n2 c2]) | 6 => some (.int .i64 bk) | _ => none) (fun listed x u => FactW 5 7 (HasK arrK xx w12.heap.size) listed x u ∧ FactW 7 9 (HasK arrK yy w12.heap.size) listed x u ∧ MadeK arrK 31 #[.slice none 0 0, .slice none 0 0, .slice none 0 0] 8 9 w12.heap.size yy listed x u) (fun _ => undef) (by kernel_rfl) (by kernel_rfl) ?hxR4 ?hSR4 ?hsR4 ?heR4
        case hxR4 => simp only [putsX, Act.put, List.setIfInBounds_toArray, List.set_cons_zero, List.set_cons_succ]
        case hSR4 => exact ⟨FactW.zero _ _ _ _ _ _, FactW.zero _ _ _ _ _ _, MadeK.zero _ _ _ _ _ _ _ _ _ _⟩
        case hsR4 =>
          simp only [flowSteps]
          refine ⟨?sR4_0, ?sR4_1, ?sR4_2, ?sR4_3, ?sR4_4, ?sR4_5, ?sR4_6, ?sR4_7, ?sR4_8, ?sR4_9, trivial⟩
          case sR4_0 =>
            intro listed bb u hsz hn hwt hinv
            obtain ⟨x, rfl, hC, hU, hA0, hO, hM⟩ := hinv
            simp only [putsX, Act.put, List.setIfInBounds_toArray, List.set_cons_zero, List.set_cons_succ]
            obtain ⟨d0, d1, d2, d3⟩ := cells4 (keep_block hC gg12 (lt_of_block gg12))
            go_wp2_with fail
            refine stepQ_normal ⟨trivial, upd x 0 (.agg #[.int .i64 ea, .int .i64 eb, .int .i64 ec, .int .i64 ed]), ?_, hC, hU.step (fun _ h => Option.some.inj h), hA0.keep (by decide) (by decide) _ id, hO.keep (by decide) (by decide) _ id, hM.keep (by decide) (by decide) _ (Below.refl _ _)⟩
            simp only [upd]
            rfl
          case sR4_1 =>
            intro listed bb u hsz hn hwt hinv
            obtain ⟨x, rfl, hC, hU, hA0, hO, hM⟩ := hinv
            have f0 := Lib.hid (hU 0 _ rfl (hwt 0 (by kernel_rfl)))
            simp only [putsX, Act.put, List.setIfInBounds_toArray, List.set_cons_zero, List.set_cons_succ]
            have hcall : Calls Tryd.prog 22 #[x 0] u (Gives (.agg #[.int .i64 ea, .int .i64 eb, .int .i64 ec, .int .i64 ed]) u) := by rw [f0.out]; exact toGeometry_any _ _ _ _ _
            go_wp2_with fail
            refine hcall.mono ?_
            rintro e' u' ⟨rfl, hb⟩
            go_wp2_with fail
            refine stepQ_normal ⟨trivial, upd x 1 (.agg #[.int .i64 ea, .int .i64 eb, .int .i64 ec, .int .i64 ed]), ?_, hC.trans (hb.mono hC.size), hU.step (fun _ h => Option.some.inj h), hA0.keep (by decide) (by decide) _ (fun h => HasK.below h (hb)), hO.keep (by decide) (by decide) _ (fun h => HasK.below h (hb)), hM.keep (by decide) (by decide) _ (hb)⟩
            simp only [upd]
            rfl
          case sR4_2 =>
            intro listed bb u hsz hn hwt hinv
            obtain ⟨x, rfl, hC, hU, hA0, hO, hM⟩ := hinv
            simp only [putsX, Act.put, List.setIfInBounds_toArray, List.set_cons_zero, List.set_cons_succ]
            obtain ⟨d0, d1⟩ := cells2 (keep_block hC ll12 (lt_of_block ll12))
            go_wp2_with fail
            refine stepQ_normal ⟨trivial, upd x 2 (.agg #[.int .i64 la, .int .i64 lh]), ?_, hC, hU.step (fun _ h => Option.some.inj h), hA0.keep (by decide) (by decide) _ id, hO.keep (by decide) (by decide) _ id, hM.keep (by decide) (by decide) _ (Below.refl _ _)⟩
            simp only [upd]
            rfl
          case sR4_3 =>
            intro listed bb u hsz hn hwt hinv
            obtain ⟨x, rfl, hC, hU, hA0, hO, hM⟩ := hinv
            have f2 := Lib.hid (hU 2 _ rfl (hwt 2 (by kernel_rfl)))
            simp only [putsX, Act.put, List.setIfInBounds_toArray, List.set_cons_zero, List.set_cons_succ]
            have hcall : Calls Tryd.prog 29 #[x 2] u (Gives (.agg #[.int .i64 la, .int .i64 lh]) u) := by rw [f2.out]; exact toLimits_any _ _ _
            go_wp2_with fail
            refine hcall.mono ?_
            rintro e' u' ⟨rfl, hb⟩
            go_wp2_with fail
            refine stepQ_normal ⟨trivial, upd x 3 (.agg #[.int .i64 la, .int .i64 lh]), ?_, hC.trans (hb.mono hC.size), hU.step (fun _ h => Option.some.inj h), hA0.keep (by decide) (by decide) _ (fun h => HasK.below h (hb)), hO.keep (by decide) (by decide) _ (fun h => HasK.below h (hb)), hM.keep (by decide) (by decide) _ (hb)⟩
            simp only [upd]
            rfl
          case sR4_4 =>
            intro listed bb u hsz hn hwt hinv
            obtain ⟨x, rfl, hC, hU, hA0, hO, hM⟩ := hinv
            simp only [putsX, Act.put, List.setIfInBounds_toArray, List.set_cons_zero, List.set_cons_succ]
            obtain ⟨d0, d1, d2⟩ := cells3 (keep_block hC mm12 (lt_of_block mm12))
            go_wp2_with fail
            refine stepQ_normal ⟨trivial, upd x 4 (.agg #[.slice a0 n0 c0, .slice a1 n1 c1, .slice a2 n2 c2]), ?_, hC, hU.step (fun _ h => Option.some.inj h), hA0.keep (by decide) (by decide) _ id, hO.keep (by decide) (by decide) _ id, hM.keep (by decide) (by decide) _ (Below.refl _ _)⟩
            simp only [upd]
            rfl
          case sR4_5 =>
            intro listed bb u hsz hn hwt hinv
            obtain ⟨x, rfl, hC, hU, hA0, hO, hM⟩ := hinv
            have f4 := Lib.hid (hU 4 _ rfl (hwt 4 (by kernel_rfl)))
            simp only [putsX, Act.put, List.setIfInBounds_toArray, List.set_cons_zero, List.set_cons_succ]
            have hbu := HB12.out.trans (hC.mono HB12.out.size)
            have hcall : Calls Tryd.prog 30 #[x 4] u (GivesS arrK xx u) := by rw [f4.out]; exact toArray_k (arrK.below HX0.out hbu) HFIT.out.1 HFIT.out.2.1 HFIT.out.2.2.1 HFIT.out.2.2.2
            go_wp2_with fail
            refine hcall.mono ?_
            rintro e' u' ⟨cs, SS, rfl, own, hss, hb⟩
            go_wp2_with fail
            refine stepQ_normal ⟨trivial, upd x 5 (.agg cs.toArray), ?_, hC.trans (hb.mono hC.size), hU.step (fun _ h => by cases h), FactW.new ⟨cs, SS, rfl, own, fun b h => Nat.le_trans hC.size (hss b h)⟩, hO.keep (by decide) (by decide) _ (fun h => HasK.below h (hb)), hM.keep (by decide) (by decide) _ (hb)⟩
            simp only [upd]
            rfl
          case sR4_6 =>
            intro listed bb u hsz hn hwt hinv
            obtain ⟨x, rfl, hC, hU, hA0, hO, hM⟩ := hinv
            simp only [putsX, Act.put, List.setIfInBounds_toArray, List.set_cons_zero, List.set_cons_succ]
            go_wp2_with fail
            refine stepQ_normal ⟨trivial, upd x 6 (.int .i64 bk), ?_, hC, hU.step (fun _ h => Option.some.inj h), hA0.keep (by decide) (by decide) _ id, hO.keep (by decide) (by decide) _ id, hM.keep (by decide) (by decide) _ (Below.refl _ _)⟩
            simp only [upd]
            rfl
          case sR4_7 =>
            intro listed bb u hsz hn hwt hinv
            obtain ⟨x, rfl, hC, hU, hA0, hO, hM⟩ := hinv
            have f1 := Lib.hid (hU 1 _ rfl (hwt 1 (by kernel_rfl)))
            have f3 := Lib.hid (hU 3 _ rfl (hwt 3 (by kernel_rfl)))
            have f6 := Lib.hid (hU 6 _ rfl (hwt 6 (by kernel_rfl)))
            simp only [putsX, Act.put, List.setIfInBounds_toArray, List.set_cons_zero, List.set_cons_succ]
            obtain ⟨cs0, S0, fp0, ow0, _⟩ := hA0 (hwt 5 (by kernel_rfl)) hn
            have hcall : Calls Tryd.prog 20 #[x 1, x 3, x 5, x 6] u (GivesS arrK yy u) := by rw [f1.out, f3.out, fp0, f6.out]; exact IM.out u _ (arrK.read ow0) HFIT.out (GK.out u (HB12.out.trans (hC.mono HB12.out.size)))
            clear fp0
            go_wp2_with fail
            refine hcall.mono ?_
            rintro e' u' ⟨cs, SS, rfl, own, hss, hb⟩
            go_wp2_with fail
            refine stepQ_normal ⟨trivial, upd x 7 (.agg cs.toArray), ?_, hC.trans (hb.mono hC.size), hU.step (fun _ h => by cases h), FactW.call (by rw [hsz]; decide), FactW.new ⟨cs, SS, rfl, own, fun b h => Nat.le_trans hC.size (hss b h)⟩, hM.keep (by decide) (by decide) _ (hb)⟩
            simp only [upd]
            rfl
          case sR4_8 =>
            intro listed bb u hsz hn hwt hinv
            obtain ⟨x, rfl, hC, hU, hA0, hO, hM⟩ := hinv
            simp only [putsX, Act.put, List.setIfInBounds_toArray, List.set_cons_zero, List.set_cons_succ]
            go_wp2_with fail
            refine stepQ_normal ⟨trivial, upd x 8 (.pointer (some ⟨u.heap.size, 0, none⟩)), ?_, hC.alloc hC.size _, hU.step (fun _ h => by cases h), hA0.keep (by decide) (by decide) _ (fun h => HasK.below h (below_allocK _ _)), hO.keep (by decide) (by decide) _ (fun h => HasK.below h (below_allocK _ _)), hM.new (by decide) hn hC.size⟩
            simp only [upd]
            rfl
          case sR4_9 =>
            intro listed bb u hsz hn hwt hinv
            obtain ⟨x, rfl, hC, hU, hA0, hO, hM⟩ := hinv
            simp only [putsX, Act.put, List.setIfInBounds_toArray, List.set_cons_zero, List.set_cons_succ]
            obtain ⟨g, fg, hg, hh⟩ := hM.there (hwt 8 (by kernel_rfl)) hn
            obtain ⟨cs, SS, fp, own, hss⟩ := hO (hwt 7 (by kernel_rfl)) hn
            obtain ⟨a0, n0, c0, a1, n1, c1, a2, n2, c2, rfl, _, _, _⟩ := arr_rd (arrK.read own)
            have FG := Lib.hid fg
            have FP := Lib.hid fp
            rw [FG.out, FP.out]
            obtain ⟨y0, y1, y2⟩ := cells3 hh
            have t0 := thawed hh 0
            have t1 := thawed hh 1
            have t2 := thawed hh 2
            have hng : g ∉ SS := arrTy.notin own hh (by decide)
            have own0 := own
            have hfin := set_cells (set_cells (set_cells (hh) 0 (.slice a0 n0 c0)) 1 (.slice a1 n1 c1)) 2 (.slice a2 n2 c2)
            have OW := Lib.hid (Kn.ownSet arrK (Kn.ownSet arrK (Kn.ownSet arrK own0 (p := ⟨g, 0, none⟩) (fun b h e => hng ((show b = g from e) ▸ h)) (.slice a0 n0 c0)) (p := ⟨g, 1, none⟩) (fun b h e => hng ((show b = g from e) ▸ h)) (.slice a1 n1 c1)) (p := ⟨g, 2, none⟩) (fun b h e => hng ((show b = g from e) ▸ h)) (.slice a2 n2 c2))
            have HSS := Lib.hid hss
            have HNG := Lib.hid hng
            clear hh fg fp own own0 hss hng
            go_wp2_with fail
            refine stepQ_normal ⟨trivial, upd x 9 undef, ?_, (((hC).setCell (by exact hg) _).setCell (by exact hg) _).setCell (by exact hg) _, hU.step (fun _ h => by cases h), FactW.gone (hwt 7 (by kernel_rfl)), FactW.call (by rw [hsz]; decide), MadeK.fill (by decide) (hwt 8 (by kernel_rfl)) (by rw [hsz]; decide) FG.out hg hfin OW.out HNG.out HSS.out⟩
            simp only [upd]
            simp only [FG.out, FP.out]
            (try rfl)
        case heR4 =>
          intro listed q w13 hall hC hU hS
          obtain ⟨hA0, hO, hM⟩ := hS
          obtain ⟨PH, cs, SH, fg, hgP, hh, own, hng, hss⟩ := hM.full (hall 8 (by decide)) (hall 9 (by decide))
          obtain ⟨Ha0, Hn0, Hc0, Ha1, Hn1, Hc1, Ha2, Hn2, Hc2, rfl, _, _, _⟩ := arr_rd (arrK.read own)
          simp only [putsX, Act.put, List.setIfInBounds_toArray, List.set_cons_zero, List.set_cons_succ]
          rw [fg]
          clear hall hU fg hA0 hO hM
          generalize q 0 = _q0, q 1 = _q1, q 2 = _q2, q 3 = _q3, q 4 = _q4, q 5 = _q5, q 6 = _q6, q 7 = _q7
          have gg13 := keep_block hC gg12 (lt_of_block gg12)
          have ll13 := keep_block hC ll12 (lt_of_block ll12)
          have mm13 := keep_block hC mm12 (lt_of_block mm12)
          have qV13 := keep_block hC qV12 (lt_of_block qV12)
          have qX13 := keep_block hC qX12 (lt_of_block qX12)
          have qG13 := keep_block hC qG12 (lt_of_block qG12)
          have V13 : Hid (arrK.own w13 SV [.slice Va0 Vn0 Vc0, .slice Va1 Vn1 Vc1, .slice Va2 Vn2 Vc2] yy) := arrK.ownBelow V12.out hC
          have G13 : Hid (arrK.own w13 SG [.slice Ga0 Gn0 Gc0, .slice Ga1 Gn1 Gc1, .slice Ga2 Gn2 Gc2] (aMk yy 1)) := arrK.ownBelow G12.out hC
          have HB13 : Hid (Below w.heap.size w w13) := HB12.out.trans (hC.mono HB12.out.size)
          have BH : Hid (∀ b ∈ SH, w12.heap.size ≤ b) := hss
          have H13 : Hid (arrK.own w13 SH [.slice Ha0 Hn0 Hc0, .slice Ha1 Hn1 Hc1, .slice Ha2 Hn2 Hc2] yy) := own
          have qH13 := hh
          have NVqH : Hid (PH ∉ SV) := fun h => by have h1 := arrK.lt V12.out _ h; omega
          have NGqH : Hid (PH ∉ SG) := fun h => by have h1 := arrK.lt G12.out _ h; omega
          have DVH : Hid (∀ b ∈ SV, b ∉ SH) := fun b h1 h2 => by have h3 := arrK.lt V12.out b h1; have h4 := BH.out b h2; omega
          have DGH : Hid (∀ b ∈ SG, b ∉ SH) := fun b h1 h2 => by have h3 := arrK.lt G12.out b h1; have h4 := BH.out b h2; omega
          have NHgg : Hid (w.heap.size ∉ SH) := fun h => by have h1 := lt_of_block gg12; have h2 := BH.out _ h; omega
          have NHll : Hid ((w.heap.size + 1) ∉ SH) := fun h => by have h1 := lt_of_block ll12; have h2 := BH.out _ h; omega
          have NHmm : Hid ((w.heap.size + 1 + 1) ∉ SH) := fun h => by have h1 := lt_of_block mm12; have h2 := BH.out _ h; omega
          have NHqV : Hid (PV ∉ SH) := fun h => by have h1 := lt_of_block qV12; have h2 := BH.out _ h; omega
          have NHqX : Hid (PX ∉ SH) := fun h => by have h1 := lt_of_block qX12; have h2 := BH.out _ h; omega
          have NHqG : Hid (PG ∉ SH) := fun h => by have h1 := lt_of_block qG12; have h2 := BH.out _ h; omega
          have NHqH : Hid (PH ∉ SH) := hng
          clear own hss hh hC hng hgP
          clear gg12 ll12 mm12 qV12 qX12 qG12 V12 G12 HB12
          obtain ⟨kqH0, kqH1, kqH2⟩ := cells3 qH13
          obtain ⟨kqV0, kqV1, kqV2⟩ := cells3 qV13
          go_wp2_with fail
          refine (eqArr_cs (arrK.read H13.out) (arrK.read V13.out)).mono ?_
          rintro e w14 ⟨rfl, hb14⟩
          clear kqH0 kqH1 kqH2 kqV0 kqV1 kqV2
          have gg14 := keep_block hb14 gg13 (lt_of_block gg13)
          have ll14 := keep_block hb14 ll13 (lt_of_block ll13)
          have mm14 := keep_block hb14 mm13 (lt_of_block mm13)
          have qV14 := keep_block hb14 qV13 (lt_of_block qV13)
          have qX14 := keep_block hb14 qX13 (lt_of_block qX13)
          have qG14 := keep_block hb14 qG13 (lt_of_block qG13)
          have qH14 := keep_block hb14 qH13 (lt_of_block qH13)
          have V14 : Hid (arrK.own w14 SV [.slice Va0 Vn0 Vc0, .slice Va1 Vn1 Vc1, .slice Va2 Vn2 Vc2] yy) := arrK.ownBelow V13.out hb14
          have G14 : Hid (arrK.own w14 SG [.slice Ga0 Gn0 Gc0, .slice Ga1 Gn1 Gc1, .slice Ga2 Gn2 Gc2] (aMk yy 1)) := arrK.ownBelow G13.out hb14
          have H14 : Hid (arrK.own w14 SH [.slice Ha0 Hn0 Hc0, .slice Ha1 Hn1 Hc1, .slice Ha2 Hn2 Hc2] yy) := arrK.ownBelow H13.out hb14
          have HB14 : Hid (Below w.heap.size w w14) := HB13.out.trans (hb14.mono HB13.out.size)
          clear gg13 ll13 mm13 qV13 qX13 qG13 qH13 V13 G13 H13 HB13
          clear hb14
          obtain ⟨kqG0, kqG1, kqG2⟩ := cells3 qG14
          go_wp2_with fail
          refine (heldArr_v (arrK.read G14.out) (Nat.le_trans HCYN.out (by decide)) ky HKY.out).mono ?_
          rintro e w15 ⟨rfl, hb15⟩
          clear kqG0 kqG1 kqG2
          have gg15 := keep_block hb15 gg14 (lt_of_block gg14)
          have ll15 := keep_block hb15 ll14 (lt_of_block ll14)
          have mm15 := keep_block hb15 mm14 (lt_of_block mm14)
          have qV15 := keep_block hb15 qV14 (lt_of_block qV14)
          have qX15 := keep_block hb15 qX14 (lt_of_block qX14)
          have qG15 := keep_block hb15 qG14 (lt_of_block qG14)
          have qH15 := keep_block hb15 qH14 (lt_of_block qH14)
          have V15 : Hid (arrK.own w15 SV [.slice Va0 Vn0 Vc0, .slice Va1 Vn1 Vc1, .slice Va2 Vn2 Vc2] yy) := arrK.ownBelow V14.out hb15
          have G15 : Hid (arrK.own w15 SG [.slice Ga0 Gn0 Gc0, .slice Ga1 Gn1 Gc1, .slice Ga2 Gn2 Gc2] (aMk yy 1)) := arrK.ownBelow G14.out hb15
          have H15 : Hid (arrK.own w15 SH [.slice Ha0 Hn0 Hc0, .slice Ha1 Hn1 Hc1, .slice Ha2 Hn2 Hc2] yy) := arrK.ownBelow H14.out hb15
          have HB15 : Hid (Below w.heap.size w w15) := HB14.out.trans (hb15.mono HB14.out.size)
          clear gg14 ll14 mm14 qV14 qX14 qG14 qH14 V14 G14 H14 HB14
          clear hb15
          go_wp2_with fail
          go_ret
          exact ⟨rfl, HB15.out⟩

end Go.Proofs.YtfpfgaifhmgpiaaDoor

namespace Go.Proofs.YtfpfgaifhmgpiaaDoor
open Go.RowKit Go.PlainAid

set_option linter.unusedVariables false

set_option maxHeartbeats 16000000 in
set_option maxRecDepth 100000 in
theorem exArrayNew_of (Gw : World → Prop) (IMPL : Hid (IArrayNew Gw)) (ea eb ec ed : Int) (w : World) (GK : Hid (∀ w', Below w.heap.size w w' → Gw w')) :
    Calls Tryd.prog 6 #[.agg #[.int .i64 ea, .int .i64 eb, .int .i64 ec, .int .i64 ed]] w fun e w' => e = .returned (.bool true) ∧ Below w.heap.size w w' := by
  obtain ⟨yy, hy⟩ : ∃ z, newA ea eb ec ed = z := ⟨_, rfl⟩
  have HY := Lib.hid hy
  have SPEC : Hid (∀ (u : World), Calls Tryd.prog 16 #[.agg #[.int .i64 ea, .int .i64 eb, .int .i64 ec, .int .i64 ed]] u (GivesS arrK yy u)) := fun u => by rw [← HY.out]; exact specArrayNew_is ea eb ec ed u
  have IM : Hid (∀ (u : World), Gw u → Calls Tryd.prog 23 #[.agg #[.int .i64 ea, .int .i64 eb, .int .i64 ec, .int .i64 ed]] u (GivesS arrK yy u)) := fun u hG => by rw [← HY.out]; exact IMPL.out ea eb ec ed u hG
  have HCYN : Hid (aCnt yy ≤ 3000000) := by show _ ≤ _; rw [← HY.out]; have := new_cnt ea eb ec ed; omega
  clear hy
  have HC := HCYN.out
  have t1y : decide (((1 + aCnt yy : Nat) : Int) < 0) = false := decide_eq_false (by omega)
  have tyy : (((1 + aCnt yy : Nat) : Int) != ((1 + aCnt yy : Nat) : Int)) = false := by simp
  obtain ⟨ky, hky⟩ : ∃ z : Int, ((1 + aCnt yy : Nat) : Int) = z := ⟨_, rfl⟩
  rw [hky] at t1y tyy
  have HKY := Lib.hid hky
  clear HC hky
  obtain ⟨w1, hw1⟩ : ∃ u, w.alloc (.cells #[.int .i64 ea, .int .i64 eb, .int .i64 ec, .int .i64 ed] 51) = u := ⟨_, rfl⟩
  have HB1 : Hid (Below w.heap.size w w1) := by subst hw1; exact (Below.refl _ _).alloc (Nat.le_refl _) _
  have gg1 : w1.heap[w.heap.size]? = some (.cells #[.int .i64 ea, .int .i64 eb, .int .i64 ec, .int .i64 ed] 51) := by subst hw1; exact heap_alloc_new _ _
  go_enter Tryd.func6, Tryd.ntmps6
  obtain ⟨kgg0, kgg1, kgg2, kgg3⟩ := cells4 gg1
  go_wp2_with fail
  refine (toGeometry_any _ _ _ _ _).mono ?_
  rintro e w2 ⟨rfl, hb2⟩
  clear kgg0 kgg1 kgg2 kgg3
  have gg2 := keep_block hb2 gg1 (lt_of_block gg1)
  have HB2 : Hid (Below w.heap.size w w2) := HB1.out.trans (hb2.mono HB1.out.size)
  clear gg1 HB1
  clear hb2
  clear hw1
  go_wp2_with fail
  refine (SPEC.out _).mono ?_
  rintro e w3 ⟨cs, SV, rfl, own3, hs3, hb3⟩
  have gg3 := keep_block hb3 gg2 (lt_of_block gg2)
  have HB3 : Hid (Below w.heap.size w w3) := HB2.out.trans (hb3.mono HB2.out.size)
  have BV : Hid (∀ b ∈ SV, w2.heap.size ≤ b) := hs3
  clear hs3
  obtain ⟨Va0, Vn0, Vc0, Va1, Vn1, Vc1, Va2, Vn2, Vc2, rfl, _, _, _⟩ := arr_rd (arrK.read own3)
  have V3 : Hid (arrK.own w3 SV [.slice Va0 Vn0 Vc0, .slice Va1 Vn1 Vc1, .slice Va2 Vn2 Vc2] yy) := own3
  have NVgg : Hid (w.heap.size ∉ SV) := fun h => by have h1 := lt_of_block gg2; have h2 := BV.out _ h; omega
  clear own3 hb3
  clear gg2 HB2
  obtain ⟨PV, hPV⟩ : ∃ P, w3.heap.size = P := ⟨_, rfl⟩
  have NVqV : Hid (PV ∉ SV) := fun h => by have h1 := arrK.lt V3.out _ h; omega
  have HPV := Lib.hid hPV
  clear hPV
  have hb4 : Below w3.heap.size w3 (w3.alloc (.cells #[.slice Va0 Vn0 Vc0, .slice Va1 Vn1 Vc1, .slice Va2 Vn2 Vc2] 31)) := (Below.refl _ _).alloc (Nat.le_refl _) _
  have gg4 := keep_block hb4 gg3 (lt_of_block gg3)
  have V4 : Hid (arrK.own (w3.alloc (.cells #[.slice Va0 Vn0 Vc0, .slice Va1 Vn1 Vc1, .slice Va2 Vn2 Vc2] 31)) SV [.slice Va0 Vn0 Vc0, .slice Va1 Vn1 Vc1, .slice Va2 Vn2 Vc2] yy) := arrK.ownBelow V3.out hb4
  have qV4 := heap_alloc_new w3 (.cells #[.slice Va0 Vn0 Vc0, .slice Va1 Vn1 Vc1, .slice Va2 Vn2 Vc2] 31)
  have HB4 : Hid (Below w.heap.size w (w3.alloc (.cells #[.slice Va0 Vn0 Vc0, .slice Va1 Vn1 Vc1, .slice Va2 Vn2 Vc2] 31))) := HB3.out.trans (hb4.mono HB3.out.size)
  obtain ⟨egg0, egg1, egg2, egg3⟩ := cells4 gg4
  go_wp2_with fail
  clear hb4 egg0 egg1 egg2 egg3
  clear gg3 V3 HB3
  generalize (w3.alloc (.cells #[.slice Va0 Vn0 Vc0, .slice Va1 Vn1 Vc1, .slice Va2 Vn2 Vc2] 31)) = w4 at gg4 V4 qV4 HB4 ⊢
  rw [HPV.out] at qV4
  (try simp only [HPV.out])
  clear HPV
  refine (toGeometry_any _ _ _ _ _).mono ?_
  rintro e w5 ⟨rfl, hb5⟩
  have gg5 := keep_block hb5 gg4 (lt_of_block gg4)
  have qV5 := keep_block hb5 qV4 (lt_of_block qV4)
  have V5 : Hid (arrK.own w5 SV [.slice Va0 Vn0 Vc0, .slice Va1 Vn1 Vc1, .slice Va2 Vn2 Vc2] yy) := arrK.ownBelow V4.out hb5
  have HB5 : Hid (Below w.heap.size w w5) := HB4.out.trans (hb5.mono HB4.out.size)
  clear gg4 qV4 V4 HB4
  clear hb5
  have SZG : Hid (w.heap.size ≤ w5.heap.size) := HB5.out.size
  go_wp2_with fail
  refine (IM.out _ (GK.out _ HB5.out)).mono ?_
  rintro e w6 ⟨cs, SG, rfl, own6, hs6, hb6⟩
  have gg6 := keep_block hb6 gg5 (lt_of_block gg5)
  have qV6 := keep_block hb6 qV5 (lt_of_block qV5)
  have V6 : Hid (arrK.own w6 SV [.slice Va0 Vn0 Vc0, .slice Va1 Vn1 Vc1, .slice Va2 Vn2 Vc2] yy) := arrK.ownBelow V5.out hb6
  have HB6 : Hid (Below w.heap.size w w6) := HB5.out.trans (hb6.mono HB5.out.size)
  have BG : Hid (∀ b ∈ SG, w5.heap.size ≤ b) := hs6
  clear hs6
  obtain ⟨Ga0, Gn0, Gc0, Ga1, Gn1, Gc1, Ga2, Gn2, Gc2, rfl, _, _, _⟩ := arr_rd (arrK.read own6)
  have G6 : Hid (arrK.own w6 SG [.slice Ga0 Gn0 Gc0, .slice Ga1 Gn1 Gc1, .slice Ga2 Gn2 Gc2] yy) := own6
  have DVG : Hid (∀ b ∈ SV, b ∉ SG) := fun b h1 h2 => by have h3 := arrK.lt V5.out b h1; have h4 := BG.out b h2; omega
  have NGgg : Hid (w.heap.size ∉ SG) := fun h => by have h1 := lt_of_block gg5; have h2 := BG.out _ h; omega
  have NGqV : Hid (PV ∉ SG) := fun h => by have h1 := lt_of_block qV5; have h2 := BG.out _ h; omega
  clear own6 hb6
  clear gg5 qV5 V5 HB5
  obtain ⟨PG, hPG⟩ : ∃ P, w6.heap.size = P := ⟨_, rfl⟩
  have NVqG : Hid (PG ∉ SV) := fun h => by have h1 := arrK.lt V6.out _ h; omega
  have NGqG : Hid (PG ∉ SG) := fun h => by have h1 := arrK.lt G6.out _ h; omega
  have HPG := Lib.hid hPG
  clear hPG
  have hb7 : Below w6.heap.size w6 (w6.alloc (.cells #[.slice Ga0 Gn0 Gc0, .slice Ga1 Gn1 Gc1, .slice Ga2 Gn2 Gc2] 31)) := (Below.refl _ _).alloc (Nat.le_refl _) _
  have gg7 := keep_block hb7 gg6 (lt_of_block gg6)
  have qV7 := keep_block hb7 qV6 (lt_of_block qV6)
  have V7 : Hid (arrK.own (w6.alloc (.cells #[.slice Ga0 Gn0 Gc0, .slice Ga1 Gn1 Gc1, .slice Ga2 Gn2 Gc2] 31)) SV [.slice Va0 Vn0 Vc0, .slice Va1 Vn1 Vc1, .slice Va2 Vn2 Vc2] yy) := arrK.ownBelow V6.out hb7
  have G7 : Hid (arrK.own (w6.alloc (.cells #[.slice Ga0 Gn0 Gc0, .slice Ga1 Gn1 Gc1, .slice Ga2 Gn2 Gc2] 31)) SG [.slice Ga0 Gn0 Gc0, .slice Ga1 Gn1 Gc1, .slice Ga2 Gn2 Gc2] yy) := arrK.ownBelow G6.out hb7
  have qG7 := heap_alloc_new w6 (.cells #[.slice Ga0 Gn0 Gc0, .slice Ga1 Gn1 Gc1, .slice Ga2 Gn2 Gc2] 31)
  have HB7 : Hid (Below w.heap.size w (w6.alloc (.cells #[.slice Ga0 Gn0 Gc0, .slice Ga1 Gn1 Gc1, .slice Ga2 Gn2 Gc2] 31))) := HB6.out.trans (hb7.mono HB6.out.size)
  obtain ⟨eqG0, eqG1, eqG2⟩ := cells3 qG7
  obtain ⟨eqV0, eqV1, eqV2⟩ := cells3 qV7
  go_wp2_with fail
  clear hb7 eqG0 eqG1 eqG2 eqV0 eqV1 eqV2
  clear gg6 qV6 V6 G6 HB6
  generalize (w6.alloc (.cells #[.slice Ga0 Gn0 Gc0, .slice Ga1 Gn1 Gc1, .slice Ga2 Gn2 Gc2] 31)) = w7 at gg7 qV7 V7 G7 qG7 HB7 ⊢
  rw [HPG.out] at qG7
  (try simp only [HPG.out])
  clear HPG
  refine (eqArr_cs (arrK.read G7.out) (arrK.read V7.out)).mono ?_
  rintro e w8 ⟨rfl, hb8⟩
  have gg8 := keep_block hb8 gg7 (lt_of_block gg7)
  have qV8 := keep_block hb8 qV7 (lt_of_block qV7)
  have qG8 := keep_block hb8 qG7 (lt_of_block qG7)
  have V8 : Hid (arrK.own w8 SV [.slice Va0 Vn0 Vc0, .slice Va1 Vn1 Vc1, .slice Va2 Vn2 Vc2] yy) := arrK.ownBelow V7.out hb8
  have G8 : Hid (arrK.own w8 SG [.slice Ga0 Gn0 Gc0, .slice Ga1 Gn1 Gc1, .slice Ga2 Gn2 Gc2] yy) := arrK.ownBelow G7.out hb8
  have HB8 : Hid (Below w.heap.size w w8) := HB7.out.trans (hb8.mono HB7.out.size)
  clear gg7 qV7 qG7 V7 G7 HB7
  clear hb8
  obtain ⟨kqG0, kqG1, kqG2⟩ := cells3 qG8
  go_wp2_with fail
  refine (markArr_v G8.out HCYN.out ky HKY.out).mono ?_
  rintro e w9 ⟨rfl, own9, ho9⟩
  clear kqG0 kqG1 kqG2
  have gg9 := (ho9.block _ (lt_of_block gg8) NGgg.out).trans gg8
  have qV9 := (ho9.block _ (lt_of_block qV8) NGqV.out).trans qV8
  have qG9 := (ho9.block _ (lt_of_block qG8) NGqG.out).trans qG8
  have V9 : Hid (arrK.own w9 SV [.slice Va0 Vn0 Vc0, .slice Va1 Vn1 Vc1, .slice Va2 Vn2 Vc2] yy) := arrK.ownKeep V8.out ho9 DVG.out
  have HB9 : Hid (Below w.heap.size w w9) := HB8.out.trans (ho9.below (fun b h => Nat.le_trans SZG.out (BG.out b h)) HB8.out.size)
  have G9 : Hid (arrK.own w9 SG [.slice Ga0 Gn0 Gc0, .slice Ga1 Gn1 Gc1, .slice Ga2 Gn2 Gc2] (aMk yy 1)) := own9
  clear own9 ho9
  clear gg8 qV8 qG8 V8 G8 HB8
  obtain ⟨kqG0, kqG1, kqG2⟩ := cells3 qG9
  go_wp2_with fail
  refine (heldArr_v (arrK.read G9.out) HCYN.out ky HKY.out).mono ?_
  rintro e w10 ⟨rfl, hb10⟩
  clear kqG0 kqG1 kqG2
  have gg10 := keep_block hb10 gg9 (lt_of_block gg9)
  have qV10 := keep_block hb10 qV9 (lt_of_block qV9)
  have qG10 := keep_block hb10 qG9 (lt_of_block qG9)
  have V10 : Hid (arrK.own w10 SV [.slice Va0 Vn0 Vc0, .slice Va1 Vn1 Vc1, .slice Va2 Vn2 Vc2] yy) := arrK.ownBelow V9.out hb10
  have G10 : Hid (arrK.own w10 SG [.slice Ga0 Gn0 Gc0, .slice Ga1 Gn1 Gc1, .slice Ga2 Gn2 Gc2] (aMk yy 1)) := arrK.ownBelow G9.out hb10
  have HB10 : Hid (Below w.heap.size w w10) := HB9.out.trans (hb10.mono HB9.out.size)
  clear gg9 qV9 qG9 V9 G9 HB9
  clear hb10
  obtain ⟨kgg0, kgg1, kgg2, kgg3⟩ := cells4 gg10
  go_wp2_with fail
  refine (toGeometry_any _ _ _ _ _).mono ?_
  rintro e w11 ⟨rfl, hb11⟩
  clear kgg0 kgg1 kgg2 kgg3
  have gg11 := keep_block hb11 gg10 (lt_of_block gg10)
  have qV11 := keep_block hb11 qV10 (lt_of_block qV10)
  have qG11 := keep_block hb11 qG10 (lt_of_block qG10)
  have V11 : Hid (arrK.own w11 SV [.slice Va0 Vn0 Vc0, .slice Va1 Vn1 Vc1, .slice Va2 Vn2 Vc2] yy) := arrK.ownBelow V10.out hb11
  have G11 : Hid (arrK.own w11 SG [.slice Ga0 Gn0 Gc0, .slice Ga1 Gn1 Gc1, .slice Ga2 Gn2 Gc2] (aMk yy 1)) := arrK.ownBelow G10.out hb11
  have HB11 : Hid (Below w.heap.size w w11) := HB10.out.trans (hb11.mono HB10.out.size)
  clear gg10 qV10 qG10 V10 G10 HB10
  clear hb11
  go_wp2_with fail
  refine (IM.out _ (GK.out _ HB11.out)).mono ?_
  rintro e w12 ⟨cs, SH, rfl, own12, hs12, hb12⟩
  have gg12 := keep_block hb12 gg11 (lt_of_block gg11)
  have qV12 := keep_block hb12 qV11 (lt_of_block qV11)
  have qG12 := keep_block hb12 qG11 (lt_of_block qG11)
  have V12 : Hid (arrK.own w12 SV [.slice Va0 Vn0 Vc0, .slice Va1 Vn1 Vc1, .slice Va2 Vn2 Vc2] yy) := arrK.ownBelow V11.out hb12
  have G12 : Hid (arrK.own w12 SG [.slice Ga0 Gn0 Gc0, .slice Ga1 Gn1 Gc1, .slice Ga2 Gn2 Gc2] (aMk yy 1)) := arrK.ownBelow G11.out hb12
  have HB12 : Hid (Below w.heap.size w w12) := HB11.out.trans (hb12.mono HB11.out.size)
  have BH : Hid (∀ b ∈ SH, w11.heap.size ≤ b) := hs12
  clear hs12
  obtain ⟨Ha0, Hn0, Hc0, Ha1, Hn1, Hc1, Ha2, Hn2, Hc2, rfl, _, _, _⟩ := arr_rd (arrK.read own12)
  have H12 : Hid (arrK.own w12 SH [.slice Ha0 Hn0 Hc0, .slice Ha1 Hn1 Hc1, .slice Ha2 Hn2 Hc2] yy) := own12
  have DVH : Hid (∀ b ∈ SV, b ∉ SH) := fun b h1 h2 => by have h3 := arrK.lt V11.out b h1; have h4 := BH.out b h2; omega
  have DGH : Hid (∀ b ∈ SG, b ∉ SH) := fun b h1 h2 => by have h3 := arrK.lt G11.out b h1; have h4 := BH.out b h2; omega
  have NHgg : Hid (w.heap.size ∉ SH) := fun h => by have h1 := lt_of_block gg11; have h2 := BH.out _ h; omega
  have NHqV : Hid (PV ∉ SH) := fun h => by have h1 := lt_of_block qV11; have h2 := BH.out _ h; omega
  have NHqG : Hid (PG ∉ SH) := fun h => by have h1 := lt_of_block qG11; have h2 := BH.out _ h; omega
  clear own12 hb12
  clear gg11 qV11 qG11 V11 G11 HB11
  obtain ⟨PH, hPH⟩ : ∃ P, w12.heap.size = P := ⟨_, rfl⟩
  have NVqH : Hid (PH ∉ SV) := fun h => by have h1 := arrK.lt V12.out _ h; omega
  have NGqH : Hid (PH ∉ SG) := fun h => by have h1 := arrK.lt G12.out _ h; omega
  have NHqH : Hid (PH ∉ SH) := fun h => by have h1 := arrK.lt H12.out _ h; omega
  have HPH := Lib.hid hPH
  clear hPH
  have hb13 : Below w12.heap.size w12 (w12.alloc (.cells #[.slice Ha0 Hn0 Hc0, .slice Ha1 Hn1 Hc1, .slice Ha2 Hn2 Hc2] 31)) := (Below.refl _ _).alloc (Nat.le_refl _) _
  have gg13 := keep_block hb13 gg12 (lt_of_block gg12)
  have qV13 := keep_block hb13 qV12 (lt_of_block qV12)
  have qG13 := keep_block hb13 qG12 (lt_of_block qG12)
  have V13 : Hid (arrK.own (w12.alloc (.cells #[.slice Ha0 Hn0 Hc0, .slice Ha1 Hn1 Hc1, .slice Ha2 Hn2 Hc2] 31)) SV [.slice Va0 Vn0 Vc0, .slice Va1 Vn1 Vc1, .slice Va2 Vn2 Vc2] yy) := arrK.ownBelow V12.out hb13
  have G13 : Hid (arrK.own (w12.alloc (.cells #[.slice Ha0 Hn0 Hc0, .slice Ha1 Hn1 Hc1, .slice Ha2 Hn2 Hc2] 31)) SG [.slice Ga0 Gn0 Gc0, .slice Ga1 Gn1 Gc1, .slice Ga2 Gn2 Gc2] (aMk yy 1)) := arrK.ownBelow G12.out hb13
  have H13 : Hid (arrK.own (w12.alloc (.cells #[.slice Ha0 Hn0 Hc0, .slice Ha1 Hn1 Hc1, .slice Ha2 Hn2 Hc2] 31)) SH [.slice Ha0 Hn0 Hc0, .slice Ha1 Hn1 Hc1, .slice Ha2 Hn2 Hc2] yy) := arrK.ownBelow H12.out hb13
  have qH13 := heap_alloc_new w12 (.cells #[.slice Ha0 Hn0 Hc0, .slice Ha1 Hn1 Hc1, .slice Ha2 Hn2 Hc2] 31)
  have HB13 : Hid (Below w.heap.size w (w12.alloc (.cells #[.slice Ha0 Hn0 Hc0, .slice Ha1 Hn1 Hc1, .slice Ha2 Hn2 Hc2] 31))) := HB12.out.trans (hb13.mono HB12.out.size)
  obtain ⟨eqH0, eqH1, eqH2⟩ := cells3 qH13
  obtain ⟨eqV0, eqV1, eqV2⟩ := cells3 qV13
  go_wp2_with fail
  clear hb13 eqH0 eqH1 eqH2 eqV0 eqV1 eqV2
  clear gg12 qV12 qG12 V12 G12 H12 HB12
  generalize (w12.alloc (.cells #[.slice Ha0 Hn0 Hc0, .slice Ha1 Hn1 Hc1, .slice Ha2 Hn2 Hc2] 31)) = w13 at gg13 qV13 qG13 V13 G13 H13 qH13 HB13 ⊢
  rw [HPH.out] at qH13
  (try simp only [HPH.out])
  clear HPH
  refine (eqArr_cs (arrK.read H13.out) (arrK.read V13.out)).mono ?_
  rintro e w14 ⟨rfl, hb14⟩
  have gg14 := keep_block hb14 gg13 (lt_of_block gg13)
  have qV14 := keep_block hb14 qV13 (lt_of_block qV13)
  have qG14 := keep_block hb14 qG13 (lt_of_block qG13)
  have qH14 := keep_block hb14 qH13 (lt_of_block qH13)
  have V14 : Hid (arrK.own w14 SV [.slice Va0 Vn0 Vc0, .slice Va1 Vn1 Vc1, .slice Va2 Vn2 Vc2] yy) := arrK.ownBelow V13.out hb14
  have G14 : Hid (arrK.own w14 SG [.slice Ga0 Gn0 Gc0, .slice Ga1 Gn1 Gc1, .slice Ga2 Gn2 Gc2] (aMk yy 1)) := arrK.ownBelow G13.out hb14
  have H14 : Hid (arrK.own w14 SH [.slice Ha0 Hn0 Hc0, .slice Ha1 Hn1 Hc1, .slice Ha2 Hn2 Hc2] yy) := arrK.ownBelow H13.out hb14
  have HB14 : Hid (Below w.heap.size w w14) := HB13.out.trans (hb14.mono HB13.out.size)
  clear gg13 qV13 qG13 qH13 V13 G13 H13 HB13
  clear hb14
  obtain ⟨kqG0, kqG1, kqG2⟩ := cells3 qG14
  go_wp2_with fail
  refine (heldArr_v (arrK.read G14.out) HCYN.out ky HKY.out).mono ?_
  rintro e w15 ⟨rfl, hb15⟩
  clear kqG0 kqG1 kqG2
  have gg15 := keep_block hb15 gg14 (lt_of_block gg14)
  have qV15 := keep_block hb15 qV14 (lt_of_block qV14)
  have qG15 := keep_block hb15 qG14 (lt_of_block qG14)
  have qH15 := keep_block hb15 qH14 (lt_of_block qH14)
  have V15 : Hid (arrK.own w15 SV [.slice Va0 Vn0 Vc0, .slice Va1 Vn1 Vc1, .slice Va2 Vn2 Vc2] yy) := arrK.ownBelow V14.out hb15
  have G15 : Hid (arrK.own w15 SG [.slice Ga0 Gn0 Gc0, .slice Ga1 Gn1 Gc1, .slice Ga2 Gn2 Gc2] (aMk yy 1)) := arrK.ownBelow G14.out hb15
  have H15 : Hid (arrK.own w15 SH [.slice Ha0 Hn0 Hc0, .slice Ha1 Hn1 Hc1, .slice Ha2 Hn2 Hc2] yy) := arrK.ownBelow H14.out hb15
  have HB15 : Hid (Below w.heap.size w w15) := HB14.out.trans (hb15.mono HB14.out.size)
  clear gg14 qV14 qG14 qH14 V14 G14 H14 HB14
  clear hb15
  go_wp2_with fail
  go_ret
  exact ⟨rfl, HB15.out⟩

end Go.Proofs.YtfpfgaifhmgpiaaDoor

namespace Go.Proofs.YtfpfgaifhmgpiaaDoor
open Go.RowKit Go.PlainAid

set_option linter.unusedVariables false

def ISymbolsOfWord : Prop := ∀ (x : Int) (k : Nat) (hk : k ≤ 8) (v : List Int) (hv : symW x = v) (hk2 : v.length = k) (w : World), Calls Tryd.prog 92 #[.int .i64 x] w (GivesJ k v w)

def IEncodeLine (G : World → Prop) : Prop := ∀ (x : Int) (k : Nat) (hk : k ≤ 11) (v : List Int) (hv : encI (symW x) = v) (hk2 : v.length = k) (w : World) (hG : G w), Calls Tryd.prog 53 #[.int .i64 x] w (GivesJ k v w)

end Go.Proofs.YtfpfgaifhmgpiaaDoor
