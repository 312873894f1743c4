/-
  Texts of one proof, merged: ArrX8, ArrYS, ArrZ8.
-/
import Derived.Test.YtfpfgaifhmgpiaaQM1417
namespace Go.Proofs.Ytfpfgaifhmgpiaa
open Go.RowKit Go.PlainAid

set_option linter.unusedVariables false

theorem markArr_w {cs : List Value} {S : List Nat} {x : Arr} {w : World} (h : arrK.own w S cs x) (hk : aCnt x ≤ 4000000) (v : Int) (hv : ((1 + aCnt x : Nat) : Int) = v) :
    Calls Try.prog 30 #[.agg cs.toArray, .int .i64 1] w fun e w' => e = .returned (.int .i64 v) ∧ arrK.own w' S cs (aMk x 1) ∧ OnlyS S w w' := by
  subst hv
  exact markArray_k h 1 (by omega)

theorem heldArr_w {cs : List Value} {x : Arr} {w : World} (h : arrK.rd w cs (aMk x 1)) (hk : aCnt x ≤ 4000000) (v : Int) (hv : ((1 + aCnt x : Nat) : Int) = v) :
    Calls Try.prog 31 #[.agg cs.toArray, .int .i64 1] w (Gives (.int .i64 v) w) := by
  subst hv
  exact heldArray_k 1 h (by omega)

set_option maxHeartbeats 16000000 in
set_option maxRecDepth 100000 in
theorem exStoreCell_of (IMPL : Hid IStoreCell) (ea eb ec ed : Int) (lx : List Value) (bx br bc : Int) (lc : List Value) (w : World) (s : Sh.Fits w (.and (.row (.and (.row (.num .i64)) (.and .flag .fin))) (.and (.row (.num .i64)) (.and (.row (.num .i64)) .fin))) lx) (sc : Sh.Fits w (.and (.row (.num .i64)) (.and .flag .fin)) lc) :
    Calls Try.prog 10 #[.agg #[.int .i64 ea, .int .i64 eb, .int .i64 ec, .int .i64 ed], .agg lx.toArray, .agg #[.int .i64 bx, .int .i64 br, .int .i64 bc], .agg lc.toArray] w fun e w' => e = .returned (.bool true) ∧ Below w.heap.size w w' := by
  obtain ⟨xx, hx⟩ := arr_in s
  obtain ⟨a0, n0, c0, a1, n1, c1, a2, n2, c2, rfl, _, _, _⟩ := arr_rd hx
  obtain ⟨⟨kl, kp⟩, hxc⟩ := cell_in sc
  obtain ⟨ka, kn, kc, rfl, hkl⟩ := cell_rd hxc
  have HX0 := Lib.hid hx
  have HC0 := Lib.hid hxc
  obtain ⟨hkn, _, hkm, _⟩ := Kn.row_len hkl
  obtain ⟨sv, hsv⟩ : ∃ v, szF 1048576 (arrN xx) = v := ⟨_, rfl⟩
  have HSV := Lib.hid hsv
  obtain ⟨yy, hy⟩ : ∃ z, storedF ea eb ec ed xx bx br bc (kl, kp) = z := ⟨_, rfl⟩
  have HY := Lib.hid hy
  have SPEC : Hid (∀ (u : World) (cs ds : List Value), arrK.rd u cs xx → ArrFit xx → cellK.rd u ds (kl, kp) → kl.length ≤ 4000000 → Calls Try.prog 41 #[.agg #[.int .i64 ea, .int .i64 eb, .int .i64 ec, .int .i64 ed], .agg cs.toArray, .agg #[.int .i64 bx, .int .i64 br, .int .i64 bc], .agg ds.toArray] u (GivesS arrK yy u)) := fun u cs ds h hf hd _ => by
    obtain ⟨_, _, _, rfl, h0⟩ := cell_rd hd
    rw [← HY.out]
    exact specStoreCell_is ea eb ec ed bx br bc h hf h0
  have IM : Hid (∀ (u : World) (cs ds : List Value), arrK.rd u cs xx → ArrFit xx → cellK.rd u ds (kl, kp) → kl.length ≤ 4000000 → Calls Try.prog 17 #[.agg #[.int .i64 ea, .int .i64 eb, .int .i64 ec, .int .i64 ed], .agg cs.toArray, .agg #[.int .i64 bx, .int .i64 br, .int .i64 bc], .agg ds.toArray] u (GivesS arrK yy u)) := fun u cs ds h hf hd hl => by
    obtain ⟨ka, kn, kc, rfl, h0⟩ := cell_rd hd
    rw [← HY.out]
    exact IMPL.out ea eb ec ed bx br bc cs xx ka kn kc kl kp u h hf h0 hl
  have HCY : Hid (aCnt xx ≤ 2097152 → kl.length ≤ 1048576 → aCnt yy ≤ 4000000) := fun h h2 => by
    rw [← HY.out]
    have := stored_cnt ea eb ec ed bx br bc xx (kl, kp)
    have e : cCnt (kl, kp) = kl.length + 1 := rfl
    omega
  clear hy
  obtain ⟨w1, hw1⟩ : ∃ u, ((((w.alloc (.cells #[.int .i64 ea, .int .i64 eb, .int .i64 ec, .int .i64 ed] 48)).alloc (.cells #[.slice a0 n0 c0, .slice a1 n1 c1, .slice a2 n2 c2] 51)).alloc (.cells #[.int .i64 bx, .int .i64 br, .int .i64 bc] 65)).alloc (.cells #[.slice ka kn kc, .bool kp] 70)) = u := ⟨_, rfl⟩
  obtain ⟨gg1, mm1, aa1, mc1, hb1⟩ := alloc4 hw1
  have HB1 : Hid (Below w.heap.size w w1) := hb1
  clear hb1
  clear hx hsv hxc hkl
  go_enter Try.func10, Try.ntmps10
  obtain ⟨kmm0, kmm1, kmm2⟩ := cells3 mm1
  go_wp2_with fail
  refine (szArray_k (arrK.below HX0.out HB1.out) 1048576 sv (by decide) (by decide) HSV.out).mono ?_
  rintro e w2 ⟨rfl, hb2⟩
  clear kmm0 kmm1 kmm2
  have gg2 := keep_block hb2 gg1 (lt_of_block gg1)
  have mm2 := keep_block hb2 mm1 (lt_of_block mm1)
  have aa2 := keep_block hb2 aa1 (lt_of_block aa1)
  have mc2 := keep_block hb2 mc1 (lt_of_block mc1)
  have HB2 : Hid (Below w.heap.size w w2) := HB1.out.trans (hb2.mono HB1.out.size)
  clear gg1 mm1 aa1 mc1 HB1
  clear hb2
  clear hw1
  by_cases hs : sv < 0
  · have ts : decide (sv < 0) = true := decide_eq_true hs
    go_wp2_with fail
    go_ret
    exact ⟨rfl, HB2.out⟩
  have ts : decide (sv < 0) = false := decide_eq_false hs
  have hfit := arr_size (x := xx) (by rw [HSV.out]; exact hs)
  have HFIT := Lib.hid hfit.1
  have HCNT := Lib.hid hfit.2
  have hsv2 : sv ≤ 1048576 := by rw [← HSV.out]; exact szF_range (by decide)
  obtain ⟨su, hsu⟩ : ∃ v, szF sv kn = v := ⟨_, rfl⟩
  have HSU := Lib.hid hsu
  clear hfit hsu
  obtain ⟨kmc0, kmc1⟩ := cells2 mc2
  go_wp2_with fail
  refine (szCell_k ka kn kc kp sv su hkm (by omega) hsv2 HSU.out _).mono ?_
  rintro e w3 ⟨rfl, hb3⟩
  clear kmc0 kmc1
  have gg3 := keep_block hb3 gg2 (lt_of_block gg2)
  have mm3 := keep_block hb3 mm2 (lt_of_block mm2)
  have aa3 := keep_block hb3 aa2 (lt_of_block aa2)
  have mc3 := keep_block hb3 mc2 (lt_of_block mc2)
  have HB3 : Hid (Below w.heap.size w w3) := HB2.out.trans (hb3.mono HB2.out.size)
  clear gg2 mm2 aa2 mc2 HB2
  clear hb3
  by_cases hs2 : su < 0
  · have ts2 : decide (su < 0) = true := decide_eq_true hs2
    go_wp2_with fail
    go_ret
    exact ⟨rfl, HB3.out⟩
  have ts2 : decide (su < 0) = false := decide_eq_false hs2
  have hk1 : kl.length ≤ 1048576 := by
    have h1 := (szF_ge (k := sv) (t := kn) (by rw [HSU.out]; exact hs2)).2
    omega
  have HKL : Hid (kl.length ≤ 4000000) := by show _ ≤ _; omega
  have HC := HCY.out HCNT.out hk1
  have HCYN := Lib.hid HC
  have hcx := HCNT.out
  have t1x : decide (((1 + aCnt xx : Nat) : Int) < 0) = false := decide_eq_false (by omega)
  have t1z : decide (((1 + aCnt xx + kl.length : Nat) : Int) < 0) = false := decide_eq_false (by omega)
  have t1y : decide (((1 + aCnt yy : Nat) : Int) < 0) = false := decide_eq_false (by omega)
  have tyy : (((1 + aCnt yy : Nat) : Int) != ((1 + aCnt yy : Nat) : Int)) = false := by simp
  have HKB : Hid (1 + aCnt xx + kl.length ≤ 1000000000) := by show _ ≤ _; omega
  obtain ⟨ky, hky⟩ : ∃ z : Int, ((1 + aCnt yy : Nat) : Int) = z := ⟨_, rfl⟩
  obtain ⟨kx, hkx⟩ : ∃ z : Int, ((1 + aCnt xx : Nat) : Int) = z := ⟨_, rfl⟩
  obtain ⟨kz, hkz⟩ : ∃ z : Int, ((1 + aCnt xx + kl.length : Nat) : Int) = z := ⟨_, rfl⟩
  rw [hky] at t1y tyy
  rw [hkx] at t1x
  rw [hkz] at t1z
  have HKY := Lib.hid hky
  have HKX := Lib.hid hkx
  have HKZ := Lib.hid hkz
  clear HC hky hkx hkz hs hs2 hk1 hcx hsv2
  go_wp2_with fail
  refine wp_region_flowV (fun k => match k with | 0 => some (.agg #[.int .i64 ea, .int .i64 eb, .int .i64 ec, .int .i64 ed]) | 1 => some (.agg #[.int .i64 ea, .int .i64 eb, .int .i64 ec, .int .i64 ed]) | 2 => some (.agg #[.slice a0 n0 c0, .slice a1 n1 c1, .slice a2 n2 c2]) | 4 => some (.agg #[.int .i64 bx, .int .i64 br, .int .i64 bc]) | 5 => some (.agg #[.int .i64 bx, .int .i64 br, .int .i64 bc]) | 6 => some (.agg #[.slice ka kn kc, .bool kp]) | _ => none) (fun listed x u => FactW 3 8 (HasK arrK xx w3.heap.size) listed x u ∧ FactW 7 8 (HasK cellK (kl, kp) w3.heap.size) listed x u ∧ FactW 8 10 (HasK arrK yy w3.heap.size) listed x u ∧ MadeK arrK 31 #[.slice none 0 0, .slice none 0 0, .slice none 0 0] 9 10 w3.heap.size yy listed x u) (fun _ => undef) (by kernel_rfl) (by kernel_rfl) ?hxR1 ?hSR1 ?hsR1 ?heR1
  case hxR1 => simp only [putsX, Act.put, List.setIfInBounds_toArray, List.set_cons_zero, List.set_cons_succ]
  case hSR1 => exact ⟨FactW.zero _ _ _ _ _ _, FactW.zero _ _ _ _ _ _, FactW.zero _ _ _ _ _ _, MadeK.zero _ _ _ _ _ _ _ _ _ _⟩
  case hsR1 =>
    simp only [flowSteps]
    refine ⟨?sR1_0, ?sR1_1, ?sR1_2, ?sR1_3, ?sR1_4, ?sR1_5, ?sR1_6, ?sR1_7, ?sR1_8, ?sR1_9, ?sR1_10, trivial⟩
    case sR1_0 =>
      intro listed bb u hsz hn hwt hinv
      obtain ⟨x, rfl, hC, hU, hA0, hA1, hO, hM⟩ := hinv
      simp only [putsX, Act.put, List.setIfInBounds_toArray, List.set_cons_zero, List.set_cons_succ]
      obtain ⟨d0, d1, d2, d3⟩ := cells4 (keep_block hC gg3 (lt_of_block gg3))
      go_wp2_with fail
      refine stepQ_normal ⟨trivial, upd x 0 (.agg #[.int .i64 ea, .int .i64 eb, .int .i64 ec, .int .i64 ed]), ?_, hC, hU.step (fun _ h => Option.some.inj h), hA0.keep (by decide) (by decide) _ id, hA1.keep (by decide) (by decide) _ id, hO.keep (by decide) (by decide) _ id, hM.keep (by decide) (by decide) _ (Below.refl _ _)⟩
      simp only [upd]
      rfl
    case sR1_1 =>
      intro listed bb u hsz hn hwt hinv
      obtain ⟨x, rfl, hC, hU, hA0, hA1, hO, hM⟩ := hinv
      have f0 := Lib.hid (hU 0 _ rfl (hwt 0 (by kernel_rfl)))
      simp only [putsX, Act.put, List.setIfInBounds_toArray, List.set_cons_zero, List.set_cons_succ]
      have hcall : Calls Try.prog 24 #[x 0] u (Gives (.agg #[.int .i64 ea, .int .i64 eb, .int .i64 ec, .int .i64 ed]) u) := by rw [f0.out]; exact toGeometry_any _ _ _ _ _
      go_wp2_with fail
      refine hcall.mono ?_
      rintro e' u' ⟨rfl, hb⟩
      go_wp2_with fail
      refine stepQ_normal ⟨trivial, upd x 1 (.agg #[.int .i64 ea, .int .i64 eb, .int .i64 ec, .int .i64 ed]), ?_, hC.trans (hb.mono hC.size), hU.step (fun _ h => Option.some.inj h), hA0.keep (by decide) (by decide) _ (fun h => HasK.below h (hb)), hA1.keep (by decide) (by decide) _ (fun h => HasK.below h (hb)), hO.keep (by decide) (by decide) _ (fun h => HasK.below h (hb)), hM.keep (by decide) (by decide) _ (hb)⟩
      simp only [upd]
      rfl
    case sR1_2 =>
      intro listed bb u hsz hn hwt hinv
      obtain ⟨x, rfl, hC, hU, hA0, hA1, hO, hM⟩ := hinv
      simp only [putsX, Act.put, List.setIfInBounds_toArray, List.set_cons_zero, List.set_cons_succ]
      obtain ⟨d0, d1, d2⟩ := cells3 (keep_block hC mm3 (lt_of_block mm3))
      go_wp2_with fail
      refine stepQ_normal ⟨trivial, upd x 2 (.agg #[.slice a0 n0 c0, .slice a1 n1 c1, .slice a2 n2 c2]), ?_, hC, hU.step (fun _ h => Option.some.inj h), hA0.keep (by decide) (by decide) _ id, hA1.keep (by decide) (by decide) _ id, hO.keep (by decide) (by decide) _ id, hM.keep (by decide) (by decide) _ (Below.refl _ _)⟩
      simp only [upd]
      rfl
    case sR1_3 =>
      intro listed bb u hsz hn hwt hinv
      obtain ⟨x, rfl, hC, hU, hA0, hA1, hO, hM⟩ := hinv
      have f2 := Lib.hid (hU 2 _ rfl (hwt 2 (by kernel_rfl)))
      simp only [putsX, Act.put, List.setIfInBounds_toArray, List.set_cons_zero, List.set_cons_succ]
      have hbu := HB3.out.trans (hC.mono HB3.out.size)
      have hcall : Calls Try.prog 25 #[x 2] u (GivesS arrK xx u) := by rw [f2.out]; exact toArray_k (arrK.below HX0.out hbu) HFIT.out.1 HFIT.out.2.1 HFIT.out.2.2.1 HFIT.out.2.2.2
      go_wp2_with fail
      refine hcall.mono ?_
      rintro e' u' ⟨cs, SS, rfl, own, hss, hb⟩
      go_wp2_with fail
      refine stepQ_normal ⟨trivial, upd x 3 (.agg cs.toArray), ?_, hC.trans (hb.mono hC.size), hU.step (fun _ h => by cases h), FactW.new ⟨cs, SS, rfl, own, fun b h => Nat.le_trans hC.size (hss b h)⟩, hA1.keep (by decide) (by decide) _ (fun h => HasK.below h (hb)), hO.keep (by decide) (by decide) _ (fun h => HasK.below h (hb)), hM.keep (by decide) (by decide) _ (hb)⟩
      simp only [upd]
      rfl
    case sR1_4 =>
      intro listed bb u hsz hn hwt hinv
      obtain ⟨x, rfl, hC, hU, hA0, hA1, hO, hM⟩ := hinv
      simp only [putsX, Act.put, List.setIfInBounds_toArray, List.set_cons_zero, List.set_cons_succ]
      obtain ⟨d0, d1, d2⟩ := cells3 (keep_block hC aa3 (lt_of_block aa3))
      go_wp2_with fail
      refine stepQ_normal ⟨trivial, upd x 4 (.agg #[.int .i64 bx, .int .i64 br, .int .i64 bc]), ?_, hC, hU.step (fun _ h => Option.some.inj h), hA0.keep (by decide) (by decide) _ id, hA1.keep (by decide) (by decide) _ id, hO.keep (by decide) (by decide) _ id, hM.keep (by decide) (by decide) _ (Below.refl _ _)⟩
      simp only [upd]
      rfl
    case sR1_5 =>
      intro listed bb u hsz hn hwt hinv
      obtain ⟨x, rfl, hC, hU, hA0, hA1, hO, hM⟩ := hinv
      have f4 := Lib.hid (hU 4 _ rfl (hwt 4 (by kernel_rfl)))
      simp only [putsX, Act.put, List.setIfInBounds_toArray, List.set_cons_zero, List.set_cons_succ]
      have hcall : Calls Try.prog 36 #[x 4] u (Gives (.agg #[.int .i64 bx, .int .i64 br, .int .i64 bc]) u) := by rw [f4.out]; exact toAddr_any _ _ _ _
      go_wp2_with fail
      refine hcall.mono ?_
      rintro e' u' ⟨rfl, hb⟩
      go_wp2_with fail
      refine stepQ_normal ⟨trivial, upd x 5 (.agg #[.int .i64 bx, .int .i64 br, .int .i64 bc]), ?_, hC.trans (hb.mono hC.size), hU.step (fun _ h => Option.some.inj h), hA0.keep (by decide) (by decide) _ (fun h => HasK.below h (hb)), hA1.keep (by decide) (by decide) _ (fun h => HasK.below h (hb)), hO.keep (by decide) (by decide) _ (fun h => HasK.below h (hb)), hM.keep (by decide) (by decide) _ (hb)⟩
      simp only [upd]
      rfl
    case sR1_6 =>
      intro listed bb u hsz hn hwt hinv
      obtain ⟨x, rfl, hC, hU, hA0, hA1, hO, hM⟩ := hinv
      simp only [putsX, Act.put, List.setIfInBounds_toArray, List.set_cons_zero, List.set_cons_succ]
      obtain ⟨d0, d1⟩ := cells2 (keep_block hC mc3 (lt_of_block mc3))
      go_wp2_with fail
      refine stepQ_normal ⟨trivial, upd x 6 (.agg #[.slice ka kn kc, .bool kp]), ?_, hC, hU.step (fun _ h => Option.some.inj h), hA0.keep (by decide) (by decide) _ id, hA1.keep (by decide) (by decide) _ id, hO.keep (by decide) (by decide) _ id, hM.keep (by decide) (by decide) _ (Below.refl _ _)⟩
      simp only [upd]
      rfl
    case sR1_7 =>
      intro listed bb u hsz hn hwt hinv
      obtain ⟨x, rfl, hC, hU, hA0, hA1, hO, hM⟩ := hinv
      have f6 := Lib.hid (hU 6 _ rfl (hwt 6 (by kernel_rfl)))
      simp only [putsX, Act.put, List.setIfInBounds_toArray, List.set_cons_zero, List.set_cons_succ]
      have hbu := HB3.out.trans (hC.mono HB3.out.size)
      have hcall : Calls Try.prog 42 #[x 6] u (GivesS cellK (kl, kp) u) := by rw [f6.out]; exact toCell_cs (cellK.below HC0.out hbu) HKL.out
      go_wp2_with fail
      refine hcall.mono ?_
      rintro e' u' ⟨cs, SS, rfl, own, hss, hb⟩
      go_wp2_with fail
      refine stepQ_normal ⟨trivial, upd x 7 (.agg cs.toArray), ?_, hC.trans (hb.mono hC.size), hU.step (fun _ h => by cases h), hA0.keep (by decide) (by decide) _ (fun h => HasK.below h (hb)), FactW.new ⟨cs, SS, rfl, own, fun b h => Nat.le_trans hC.size (hss b h)⟩, hO.keep (by decide) (by decide) _ (fun h => HasK.below h (hb)), hM.keep (by decide) (by decide) _ (hb)⟩
      simp only [upd]
      rfl
    case sR1_8 =>
      intro listed bb u hsz hn hwt hinv
      obtain ⟨x, rfl, hC, hU, hA0, hA1, hO, hM⟩ := hinv
      have f1 := Lib.hid (hU 1 _ rfl (hwt 1 (by kernel_rfl)))
      have f5 := Lib.hid (hU 5 _ rfl (hwt 5 (by kernel_rfl)))
      simp only [putsX, Act.put, List.setIfInBounds_toArray, List.set_cons_zero, List.set_cons_succ]
      obtain ⟨cs0, S0, fp0, ow0, _⟩ := hA0 (hwt 3 (by kernel_rfl)) hn
      obtain ⟨cs1, S1, fp1, ow1, _⟩ := hA1 (hwt 7 (by kernel_rfl)) hn
      have hcall : Calls Try.prog 41 #[x 1, x 3, x 5, x 7] u (GivesS arrK yy u) := by rw [f1.out, fp0, f5.out, fp1]; exact SPEC.out u _ _ (arrK.read ow0) HFIT.out (cellK.read ow1) HKL.out
      clear fp0 fp1
      go_wp2_with fail
      refine hcall.mono ?_
      rintro e' u' ⟨cs, SS, rfl, own, hss, hb⟩
      go_wp2_with fail
      refine stepQ_normal ⟨trivial, upd x 8 (.agg cs.toArray), ?_, hC.trans (hb.mono hC.size), hU.step (fun _ h => by cases h), FactW.call (by rw [hsz]; decide), FactW.call (by rw [hsz]; decide), FactW.new ⟨cs, SS, rfl, own, fun b h => Nat.le_trans hC.size (hss b h)⟩, hM.keep (by decide) (by decide) _ (hb)⟩
      simp only [upd]
      rfl
    case sR1_9 =>
      intro listed bb u hsz hn hwt hinv
      obtain ⟨x, rfl, hC, hU, hA0, hA1, hO, hM⟩ := hinv
      simp only [putsX, Act.put, List.setIfInBounds_toArray, List.set_cons_zero, List.set_cons_succ]
      go_wp2_with fail
      refine stepQ_normal ⟨trivial, upd x 9 (.pointer (some ⟨u.heap.size, 0, none⟩)), ?_, hC.alloc hC.size _, hU.step (fun _ h => by cases h), hA0.keep (by decide) (by decide) _ (fun h => HasK.below h (below_allocK _ _)), hA1.keep (by decide) (by decide) _ (fun h => HasK.below h (below_allocK _ _)), hO.keep (by decide) (by decide) _ (fun h => HasK.below h (below_allocK _ _)), hM.new (by decide) hn hC.size⟩
      simp only [upd]
      rfl
    case sR1_10 =>
      intro listed bb u hsz hn hwt hinv
      obtain ⟨x, rfl, hC, hU, hA0, hA1, hO, hM⟩ := hinv
      simp only [putsX, Act.put, List.setIfInBounds_toArray, List.set_cons_zero, List.set_cons_succ]
      obtain ⟨g, fg, hg, hh⟩ := hM.there (hwt 9 (by kernel_rfl)) hn
      obtain ⟨cs, SS, fp, own, hss⟩ := hO (hwt 8 (by kernel_rfl)) hn
      obtain ⟨a0, n0, c0, a1, n1, c1, a2, n2, c2, rfl, _, _, _⟩ := arr_rd (arrK.read own)
      have FG := Lib.hid fg
      have FP := Lib.hid fp
      rw [FG.out, FP.out]
      obtain ⟨y0, y1, y2⟩ := cells3 hh
      have t0 := thawed hh 0
      have t1 := thawed hh 1
      have t2 := thawed hh 2
      have hng : g ∉ SS := arrTy.notin own hh (by decide)
      have own0 := own
      have hfin := set_cells (set_cells (set_cells (hh) 0 (.slice a0 n0 c0)) 1 (.slice a1 n1 c1)) 2 (.slice a2 n2 c2)
      have OW := Lib.hid (Kn.ownSet arrK (Kn.ownSet arrK (Kn.ownSet arrK own0 (p := ⟨g, 0, none⟩) (fun b h e => hng ((show b = g from e) ▸ h)) (.slice a0 n0 c0)) (p := ⟨g, 1, none⟩) (fun b h e => hng ((show b = g from e) ▸ h)) (.slice a1 n1 c1)) (p := ⟨g, 2, none⟩) (fun b h e => hng ((show b = g from e) ▸ h)) (.slice a2 n2 c2))
      have HSS := Lib.hid hss
      have HNG := Lib.hid hng
      clear hh fg fp own own0 hss hng
      go_wp2_with fail
      refine stepQ_normal ⟨trivial, upd x 10 undef, ?_, (((hC).setCell (by exact hg) _).setCell (by exact hg) _).setCell (by exact hg) _, hU.step (fun _ h => by cases h), FactW.gone (hwt 8 (by kernel_rfl)), FactW.gone (hwt 8 (by kernel_rfl)), FactW.call (by rw [hsz]; decide), MadeK.fill (by decide) (hwt 9 (by kernel_rfl)) (by rw [hsz]; decide) FG.out hg hfin OW.out HNG.out HSS.out⟩
      simp only [upd]
      simp only [FG.out, FP.out]
      (try rfl)
  case heR1 =>
    intro listed q w4 hall hC hU hS
    obtain ⟨hA0, hA1, hO, hM⟩ := hS
    obtain ⟨PV, cs, SV, fg, hgP, hh, own, hng, hss⟩ := hM.full (hall 9 (by decide)) (hall 10 (by decide))
    obtain ⟨Va0, Vn0, Vc0, Va1, Vn1, Vc1, Va2, Vn2, Vc2, rfl, _, _, _⟩ := arr_rd (arrK.read own)
    simp only [putsX, Act.put, List.setIfInBounds_toArray, List.set_cons_zero, List.set_cons_succ]
    rw [fg]
    clear hall hU fg hA0 hA1 hO hM
    generalize q 0 = _q0, q 1 = _q1, q 2 = _q2, q 3 = _q3, q 4 = _q4, q 5 = _q5, q 6 = _q6, q 7 = _q7, q 8 = _q8
    have gg4 := keep_block hC gg3 (lt_of_block gg3)
    have mm4 := keep_block hC mm3 (lt_of_block mm3)
    have aa4 := keep_block hC aa3 (lt_of_block aa3)
    have mc4 := keep_block hC mc3 (lt_of_block mc3)
    have HB4 : Hid (Below w.heap.size w w4) := HB3.out.trans (hC.mono HB3.out.size)
    have BV : Hid (∀ b ∈ SV, w3.heap.size ≤ b) := hss
    have V4 : Hid (arrK.own w4 SV [.slice Va0 Vn0 Vc0, .slice Va1 Vn1 Vc1, .slice Va2 Vn2 Vc2] yy) := own
    have qV4 := hh
    have NVgg : Hid (w.heap.size ∉ SV) := fun h => by have h1 := lt_of_block gg3; have h2 := BV.out _ h; omega
    have NVmm : Hid ((w.heap.size + 1) ∉ SV) := fun h => by have h1 := lt_of_block mm3; have h2 := BV.out _ h; omega
    have NVaa : Hid ((w.heap.size + 1 + 1) ∉ SV) := fun h => by have h1 := lt_of_block aa3; have h2 := BV.out _ h; omega
    have NVmc : Hid ((w.heap.size + 1 + 1 + 1) ∉ SV) := fun h => by have h1 := lt_of_block mc3; have h2 := BV.out _ h; omega
    have NVqV : Hid (PV ∉ SV) := hng
    clear own hss hh hC hng hgP
    clear gg3 mm3 aa3 mc3 HB3
    have SZX : Hid (w.heap.size ≤ w4.heap.size) := HB4.out.size
    obtain ⟨kmm0, kmm1, kmm2⟩ := cells3 mm4
    go_wp2_with fail
    refine (toArray_k (arrK.below HX0.out HB4.out) HFIT.out.1 HFIT.out.2.1 HFIT.out.2.2.1 HFIT.out.2.2.2).mono ?_
    rintro e w5 ⟨cs, SX, rfl, own5, hs5, hb5⟩
    clear kmm0 kmm1 kmm2
    have gg5 := keep_block hb5 gg4 (lt_of_block gg4)
    have mm5 := keep_block hb5 mm4 (lt_of_block mm4)
    have aa5 := keep_block hb5 aa4 (lt_of_block aa4)
    have mc5 := keep_block hb5 mc4 (lt_of_block mc4)
    have qV5 := keep_block hb5 qV4 (lt_of_block qV4)
    have V5 : Hid (arrK.own w5 SV [.slice Va0 Vn0 Vc0, .slice Va1 Vn1 Vc1, .slice Va2 Vn2 Vc2] yy) := arrK.ownBelow V4.out hb5
    have HB5 : Hid (Below w.heap.size w w5) := HB4.out.trans (hb5.mono HB4.out.size)
    have BX : Hid (∀ b ∈ SX, w4.heap.size ≤ b) := hs5
    clear hs5
    obtain ⟨Xa0, Xn0, Xc0, Xa1, Xn1, Xc1, Xa2, Xn2, Xc2, rfl, _, _, _⟩ := arr_rd (arrK.read own5)
    have X5 : Hid (arrK.own w5 SX [.slice Xa0 Xn0 Xc0, .slice Xa1 Xn1 Xc1, .slice Xa2 Xn2 Xc2] xx) := own5
    have DVX : Hid (∀ b ∈ SV, b ∉ SX) := fun b h1 h2 => by have h3 := arrK.lt V4.out b h1; have h4 := BX.out b h2; omega
    have NXgg : Hid (w.heap.size ∉ SX) := fun h => by have h1 := lt_of_block gg4; have h2 := BX.out _ h; omega
    have NXmm : Hid ((w.heap.size + 1) ∉ SX) := fun h => by have h1 := lt_of_block mm4; have h2 := BX.out _ h; omega
    have NXaa : Hid ((w.heap.size + 1 + 1) ∉ SX) := fun h => by have h1 := lt_of_block aa4; have h2 := BX.out _ h; omega
    have NXmc : Hid ((w.heap.size + 1 + 1 + 1) ∉ SX) := fun h => by have h1 := lt_of_block mc4; have h2 := BX.out _ h; omega
    have NXqV : Hid (PV ∉ SX) := fun h => by have h1 := lt_of_block qV4; have h2 := BX.out _ h; omega
    clear own5 hb5
    clear gg4 mm4 aa4 mc4 qV4 V4 HB4
    obtain ⟨PX, hPX⟩ : ∃ P, w5.heap.size = P := ⟨_, rfl⟩
    have NVqX : Hid (PX ∉ SV) := fun h => by have h1 := arrK.lt V5.out _ h; omega
    have NXqX : Hid (PX ∉ SX) := fun h => by have h1 := arrK.lt X5.out _ h; omega
    have HPX := Lib.hid hPX
    clear hPX
    have hb6 : Below w5.heap.size w5 (w5.alloc (.cells #[.slice Xa0 Xn0 Xc0, .slice Xa1 Xn1 Xc1, .slice Xa2 Xn2 Xc2] 31)) := (Below.refl _ _).alloc (Nat.le_refl _) _
    have gg6 := keep_block hb6 gg5 (lt_of_block gg5)
    have mm6 := keep_block hb6 mm5 (lt_of_block mm5)
    have aa6 := keep_block hb6 aa5 (lt_of_block aa5)
    have mc6 := keep_block hb6 mc5 (lt_of_block mc5)
    have qV6 := keep_block hb6 qV5 (lt_of_block qV5)
    have V6 : Hid (arrK.own (w5.alloc (.cells #[.slice Xa0 Xn0 Xc0, .slice Xa1 Xn1 Xc1, .slice Xa2 Xn2 Xc2] 31)) SV [.slice Va0 Vn0 Vc0, .slice Va1 Vn1 Vc1, .slice Va2 Vn2 Vc2] yy) := arrK.ownBelow V5.out hb6
    have X6 : Hid (arrK.own (w5.alloc (.cells #[.slice Xa0 Xn0 Xc0, .slice Xa1 Xn1 Xc1, .slice Xa2 Xn2 Xc2] 31)) SX [.slice Xa0 Xn0 Xc0, .slice Xa1 Xn1 Xc1, .slice Xa2 Xn2 Xc2] xx) := arrK.ownBelow X5.out hb6
    have qX6 := heap_alloc_new w5 (.cells #[.slice Xa0 Xn0 Xc0, .slice Xa1 Xn1 Xc1, .slice Xa2 Xn2 Xc2] 31)
    have HB6 : Hid (Below w.heap.size w (w5.alloc (.cells #[.slice Xa0 Xn0 Xc0, .slice Xa1 Xn1 Xc1, .slice Xa2 Xn2 Xc2] 31))) := HB5.out.trans (hb6.mono HB5.out.size)
    obtain ⟨emc0, emc1⟩ := cells2 mc6
    go_wp2_with fail
    clear hb6 emc0 emc1
    clear gg5 mm5 aa5 mc5 qV5 V5 X5 HB5
    generalize (w5.alloc (.cells #[.slice Xa0 Xn0 Xc0, .slice Xa1 Xn1 Xc1, .slice Xa2 Xn2 Xc2] 31)) = w6 at gg6 mm6 aa6 mc6 qV6 V6 X6 qX6 HB6 ⊢
    rw [HPX.out] at qX6
    (try simp only [HPX.out])
    clear HPX
    have SZZ : Hid (w.heap.size ≤ w6.heap.size) := HB6.out.size
    refine (toCell_cs (cellK.below HC0.out HB6.out) HKL.out).mono ?_
    rintro e w7 ⟨cs, SZ, rfl, own7, hs7, hb7⟩
    have gg7 := keep_block hb7 gg6 (lt_of_block gg6)
    have mm7 := keep_block hb7 mm6 (lt_of_block mm6)
    have aa7 := keep_block hb7 aa6 (lt_of_block aa6)
    have mc7 := keep_block hb7 mc6 (lt_of_block mc6)
    have qV7 := keep_block hb7 qV6 (lt_of_block qV6)
    have qX7 := keep_block hb7 qX6 (lt_of_block qX6)
    have V7 : Hid (arrK.own w7 SV [.slice Va0 Vn0 Vc0, .slice Va1 Vn1 Vc1, .slice Va2 Vn2 Vc2] yy) := arrK.ownBelow V6.out hb7
    have X7 : Hid (arrK.own w7 SX [.slice Xa0 Xn0 Xc0, .slice Xa1 Xn1 Xc1, .slice Xa2 Xn2 Xc2] xx) := arrK.ownBelow X6.out hb7
    have HB7 : Hid (Below w.heap.size w w7) := HB6.out.trans (hb7.mono HB6.out.size)
    have BZ : Hid (∀ b ∈ SZ, w6.heap.size ≤ b) := hs7
    clear hs7
    obtain ⟨Za0, Zn0, Zc0, rfl, _⟩ := cell_rd (cellK.read own7)
    have Z7 : Hid (cellK.own w7 SZ [.slice Za0 Zn0 Zc0, .bool kp] (kl, kp)) := own7
    have DVZ : Hid (∀ b ∈ SV, b ∉ SZ) := fun b h1 h2 => by have h3 := arrK.lt V6.out b h1; have h4 := BZ.out b h2; omega
    have DXZ : Hid (∀ b ∈ SX, b ∉ SZ) := fun b h1 h2 => by have h3 := arrK.lt X6.out b h1; have h4 := BZ.out b h2; omega
    have NZgg : Hid (w.heap.size ∉ SZ) := fun h => by have h1 := lt_of_block gg6; have h2 := BZ.out _ h; omega
    have NZmm : Hid ((w.heap.size + 1) ∉ SZ) := fun h => by have h1 := lt_of_block mm6; have h2 := BZ.out _ h; omega
    have NZaa : Hid ((w.heap.size + 1 + 1) ∉ SZ) := fun h => by have h1 := lt_of_block aa6; have h2 := BZ.out _ h; omega
    have NZmc : Hid ((w.heap.size + 1 + 1 + 1) ∉ SZ) := fun h => by have h1 := lt_of_block mc6; have h2 := BZ.out _ h; omega
    have NZqV : Hid (PV ∉ SZ) := fun h => by have h1 := lt_of_block qV6; have h2 := BZ.out _ h; omega
    have NZqX : Hid (PX ∉ SZ) := fun h => by have h1 := lt_of_block qX6; have h2 := BZ.out _ h; omega
    clear own7 hb7
    clear gg6 mm6 aa6 mc6 qV6 qX6 V6 X6 HB6
    obtain ⟨PZ, hPZ⟩ : ∃ P, w7.heap.size = P := ⟨_, rfl⟩
    have NVqZ : Hid (PZ ∉ SV) := fun h => by have h1 := arrK.lt V7.out _ h; omega
    have NXqZ : Hid (PZ ∉ SX) := fun h => by have h1 := arrK.lt X7.out _ h; omega
    have NZqZ : Hid (PZ ∉ SZ) := fun h => by have h1 := cellK.lt Z7.out _ h; omega
    have HPZ := Lib.hid hPZ
    clear hPZ
    have hb8 : Below w7.heap.size w7 (w7.alloc (.cells #[.slice Za0 Zn0 Zc0, .bool kp] 42)) := (Below.refl _ _).alloc (Nat.le_refl _) _
    have gg8 := keep_block hb8 gg7 (lt_of_block gg7)
    have mm8 := keep_block hb8 mm7 (lt_of_block mm7)
    have aa8 := keep_block hb8 aa7 (lt_of_block aa7)
    have mc8 := keep_block hb8 mc7 (lt_of_block mc7)
    have qV8 := keep_block hb8 qV7 (lt_of_block qV7)
    have qX8 := keep_block hb8 qX7 (lt_of_block qX7)
    have V8 : Hid (arrK.own (w7.alloc (.cells #[.slice Za0 Zn0 Zc0, .bool kp] 42)) SV [.slice Va0 Vn0 Vc0, .slice Va1 Vn1 Vc1, .slice Va2 Vn2 Vc2] yy) := arrK.ownBelow V7.out hb8
    have X8 : Hid (arrK.own (w7.alloc (.cells #[.slice Za0 Zn0 Zc0, .bool kp] 42)) SX [.slice Xa0 Xn0 Xc0, .slice Xa1 Xn1 Xc1, .slice Xa2 Xn2 Xc2] xx) := arrK.ownBelow X7.out hb8
    have Z8 : Hid (cellK.own (w7.alloc (.cells #[.slice Za0 Zn0 Zc0, .bool kp] 42)) SZ [.slice Za0 Zn0 Zc0, .bool kp] (kl, kp)) := cellK.ownBelow Z7.out hb8
    have qZ8 := heap_alloc_new w7 (.cells #[.slice Za0 Zn0 Zc0, .bool kp] 42)
    have HB8 : Hid (Below w.heap.size w (w7.alloc (.cells #[.slice Za0 Zn0 Zc0, .bool kp] 42))) := HB7.out.trans (hb8.mono HB7.out.size)
    go_wp2_with fail
    clear hb8
    clear gg7 mm7 aa7 mc7 qV7 qX7 V7 X7 Z7 HB7
    generalize (w7.alloc (.cells #[.slice Za0 Zn0 Zc0, .bool kp] 42)) = w8 at gg8 mm8 aa8 mc8 qV8 qX8 V8 X8 Z8 qZ8 HB8 ⊢
    rw [HPZ.out] at qZ8
    (try simp only [HPZ.out])
    clear HPZ
    have SZG : Hid (w.heap.size ≤ w8.heap.size) := HB8.out.size
    go_wp2_with fail
    refine wp_region_flowV (fun k => match k with | 0 => some (.agg #[.int .i64 ea, .int .i64 eb, .int .i64 ec, .int .i64 ed]) | 1 => some (.agg #[.int .i64 ea, .int .i64 eb, .int .i64 ec, .int .i64 ed]) | 2 => some (.agg #[.slice Xa0 Xn0 Xc0, .slice Xa1 Xn1 Xc1, .slice Xa2 Xn2 Xc2]) | 3 => some (.agg #[.int .i64 bx, .int .i64 br, .int .i64 bc]) | 4 => some (.agg #[.int .i64 bx, .int .i64 br, .int .i64 bc]) | 5 => some (.agg #[.slice Za0 Zn0 Zc0, .bool kp]) | _ => none) (fun listed x u => FactW 6 8 (HasK arrK yy w8.heap.size) listed x u ∧ MadeK arrK 31 #[.slice none 0 0, .slice none 0 0, .slice none 0 0] 7 8 w8.heap.size yy listed x u) (fun _ => undef) (by kernel_rfl) (by kernel_rfl) ?hxR2 ?hSR2 ?hsR2 ?heR2
    case hxR2 => simp only [putsX, Act.put, List.setIfInBounds_toArray, List.set_cons_zero, List.set_cons_succ]
    case hSR2 => exact ⟨FactW.zero _ _ _ _ _ _, MadeK.zero _ _ _ _ _ _ _ _ _ _⟩
    case hsR2 =>
      simp only [flowSteps]
      refine ⟨?sR2_0, ?sR2_1, ?sR2_2, ?sR2_3, ?sR2_4, ?sR2_5, ?sR2_6, ?sR2_7, ?sR2_8, trivial⟩
      case sR2_0 =>
        intro listed bb u hsz hn hwt hinv
        obtain ⟨x, rfl, hC, hU, hO, hM⟩ := hinv
        simp only [putsX, Act.put, List.setIfInBounds_toArray, List.set_cons_zero, List.set_cons_succ]
        obtain ⟨d0, d1, d2, d3⟩ := cells4 (keep_block hC gg8 (lt_of_block gg8))
        go_wp2_with fail
        refine stepQ_normal ⟨trivial, upd x 0 (.agg #[.int .i64 ea, .int .i64 eb, .int .i64 ec, .int .i64 ed]), ?_, hC, hU.step (fun _ h => Option.some.inj h), hO.keep (by decide) (by decide) _ id, hM.keep (by decide) (by decide) _ (Below.refl _ _)⟩
        simp only [upd]
        rfl
      case sR2_1 =>
        intro listed bb u hsz hn hwt hinv
        obtain ⟨x, rfl, hC, hU, hO, hM⟩ := hinv
        have f0 := Lib.hid (hU 0 _ rfl (hwt 0 (by kernel_rfl)))
        simp only [putsX, Act.put, List.setIfInBounds_toArray, List.set_cons_zero, List.set_cons_succ]
        have hcall : Calls Try.prog 24 #[x 0] u (Gives (.agg #[.int .i64 ea, .int .i64 eb, .int .i64 ec, .int .i64 ed]) u) := by rw [f0.out]; exact toGeometry_any _ _ _ _ _
        go_wp2_with fail
        refine hcall.mono ?_
        rintro e' u' ⟨rfl, hb⟩
        go_wp2_with fail
        refine stepQ_normal ⟨trivial, upd x 1 (.agg #[.int .i64 ea, .int .i64 eb, .int .i64 ec, .int .i64 ed]), ?_, hC.trans (hb.mono hC.size), hU.step (fun _ h => Option.some.inj h), hO.keep (by decide) (by decide) _ (fun h => HasK.below h (hb)), hM.keep (by decide) (by decide) _ (hb)⟩
        simp only [upd]
        rfl
      case sR2_2 =>
        intro listed bb u hsz hn hwt hinv
        obtain ⟨x, rfl, hC, hU, hO, hM⟩ := hinv
        simp only [putsX, Act.put, List.setIfInBounds_toArray, List.set_cons_zero, List.set_cons_succ]
        obtain ⟨d0, d1, d2⟩ := cells3 (keep_block hC qX8 (lt_of_block qX8))
        go_wp2_with fail
        refine stepQ_normal ⟨trivial, upd x 2 (.agg #[.slice Xa0 Xn0 Xc0, .slice Xa1 Xn1 Xc1, .slice Xa2 Xn2 Xc2]), ?_, hC, hU.step (fun _ h => Option.some.inj h), hO.keep (by decide) (by decide) _ id, hM.keep (by decide) (by decide) _ (Below.refl _ _)⟩
        simp only [upd]
        rfl
      case sR2_3 =>
        intro listed bb u hsz hn hwt hinv
        obtain ⟨x, rfl, hC, hU, hO, hM⟩ := hinv
        simp only [putsX, Act.put, List.setIfInBounds_toArray, List.set_cons_zero, List.set_cons_succ]
        obtain ⟨d0, d1, d2⟩ := cells3 (keep_block hC aa8 (lt_of_block aa8))
        go_wp2_with fail
        refine stepQ_normal ⟨trivial, upd x 3 (.agg #[.int .i64 bx, .int .i64 br, .int .i64 bc]), ?_, hC, hU.step (fun _ h => Option.some.inj h), hO.keep (by decide) (by decide) _ id, hM.keep (by decide) (by decide) _ (Below.refl _ _)⟩
        simp only [upd]
        rfl
      case sR2_4 =>
        intro listed bb u hsz hn hwt hinv
        obtain ⟨x, rfl, hC, hU, hO, hM⟩ := hinv
        have f3 := Lib.hid (hU 3 _ rfl (hwt 3 (by kernel_rfl)))
        simp only [putsX, Act.put, List.setIfInBounds_toArray, List.set_cons_zero, List.set_cons_succ]
        have hcall : Calls Try.prog 36 #[x 3] u (Gives (.agg #[.int .i64 bx, .int .i64 br, .int .i64 bc]) u) := by rw [f3.out]; exact toAddr_any _ _ _ _
        go_wp2_with fail
        refine hcall.mono ?_
        rintro e' u' ⟨rfl, hb⟩
        go_wp2_with fail
        refine stepQ_normal ⟨trivial, upd x 4 (.agg #[.int .i64 bx, .int .i64 br, .int .i64 bc]), ?_, hC.trans (hb.mono hC.size), hU.step (fun _ h => Option.some.inj h), hO.keep (by decide) (by decide) _ (fun h => HasK.below h (hb)), hM.keep (by decide) (by decide) _ (hb)⟩
        simp only [upd]
        rfl
      case sR2_5 =>
        intro listed bb u hsz hn hwt hinv
        obtain ⟨x, rfl, hC, hU, hO, hM⟩ := hinv
        simp only [putsX, Act.put, List.setIfInBounds_toArray, List.set_cons_zero, List.set_cons_succ]
        obtain ⟨d0, d1⟩ := cells2 (keep_block hC qZ8 (lt_of_block qZ8))
        go_wp2_with fail
        refine stepQ_normal ⟨trivial, upd x 5 (.agg #[.slice Za0 Zn0 Zc0, .bool kp]), ?_, hC, hU.step (fun _ h => Option.some.inj h), hO.keep (by decide) (by decide) _ id, hM.keep (by decide) (by decide) _ (Below.refl _ _)⟩
        simp only [upd]
        rfl
      case sR2_6 =>
        intro listed bb u hsz hn hwt hinv
        obtain ⟨x, rfl, hC, hU, hO, hM⟩ := hinv
        have f1 := Lib.hid (hU 1 _ rfl (hwt 1 (by kernel_rfl)))
        have f2 := Lib.hid (hU 2 _ rfl (hwt 2 (by kernel_rfl)))
        have f4 := Lib.hid (hU 4 _ rfl (hwt 4 (by kernel_rfl)))
        have f5 := Lib.hid (hU 5 _ rfl (hwt 5 (by kernel_rfl)))
        simp only [putsX, Act.put, List.setIfInBounds_toArray, List.set_cons_zero, List.set_cons_succ]
        have hcall : Calls Try.prog 17 #[x 1, x 2, x 4, x 5] u (GivesS arrK yy u) := by rw [f1.out, f2.out, f4.out, f5.out]; exact IM.out u _ _ (arrK.read (arrK.ownBelow X8.out hC)) HFIT.out (cellK.read (cellK.ownBelow Z8.out hC)) HKL.out
        go_wp2_with fail
        refine hcall.mono ?_
        rintro e' u' ⟨cs, SS, rfl, own, hss, hb⟩
        go_wp2_with fail
        refine stepQ_normal ⟨trivial, upd x 6 (.agg cs.toArray), ?_, hC.trans (hb.mono hC.size), hU.step (fun _ h => by cases h), FactW.new ⟨cs, SS, rfl, own, fun b h => Nat.le_trans hC.size (hss b h)⟩, hM.keep (by decide) (by decide) _ (hb)⟩
        simp only [upd]
        rfl
      case sR2_7 =>
        intro listed bb u hsz hn hwt hinv
        obtain ⟨x, rfl, hC, hU, hO, hM⟩ := hinv
        simp only [putsX, Act.put, List.setIfInBounds_toArray, List.set_cons_zero, List.set_cons_succ]
        go_wp2_with fail
        refine stepQ_normal ⟨trivial, upd x 7 (.pointer (some ⟨u.heap.size, 0, none⟩)), ?_, hC.alloc hC.size _, hU.step (fun _ h => by cases h), hO.keep (by decide) (by decide) _ (fun h => HasK.below h (below_allocK _ _)), hM.new (by decide) hn hC.size⟩
        simp only [upd]
        rfl
      case sR2_8 =>
        intro listed bb u hsz hn hwt hinv
        obtain ⟨x, rfl, hC, hU, hO, hM⟩ := hinv
        simp only [putsX, Act.put, List.setIfInBounds_toArray, List.set_cons_zero, List.set_cons_succ]
        obtain ⟨g, fg, hg, hh⟩ := hM.there (hwt 7 (by kernel_rfl)) hn
        obtain ⟨cs, SS, fp, own, hss⟩ := hO (hwt 6 (by kernel_rfl)) hn
        obtain ⟨a0, n0, c0, a1, n1, c1, a2, n2, c2, rfl, _, _, _⟩ := arr_rd (arrK.read own)
        have FG := Lib.hid fg
        have FP := Lib.hid fp
        rw [FG.out, FP.out]
        obtain ⟨y0, y1, y2⟩ := cells3 hh
        have t0 := thawed hh 0
        have t1 := thawed hh 1
        have t2 := thawed hh 2
        have hng : g ∉ SS := arrTy.notin own hh (by decide)
        have own0 := own
        have hfin := set_cells (set_cells (set_cells (hh) 0 (.slice a0 n0 c0)) 1 (.slice a1 n1 c1)) 2 (.slice a2 n2 c2)
        have OW := Lib.hid (Kn.ownSet arrK (Kn.ownSet arrK (Kn.ownSet arrK own0 (p := ⟨g, 0, none⟩) (fun b h e => hng ((show b = g from e) ▸ h)) (.slice a0 n0 c0)) (p := ⟨g, 1, none⟩) (fun b h e => hng ((show b = g from e) ▸ h)) (.slice a1 n1 c1)) (p := ⟨g, 2, none⟩) (fun b h e => hng ((show b = g from e) ▸ h)) (.slice a2 n2 c2))
        have HSS := Lib.hid hss
        have HNG := Lib.hid hng
        clear hh fg fp own own0 hss hng
        go_wp2_with fail
        refine stepQ_normal ⟨trivial, upd x 8 undef, ?_, (((hC).setCell (by exact hg) _).setCell (by exact hg) _).setCell (by exact hg) _, hU.step (fun _ h => by cases h), FactW.call (by rw [hsz]; decide), MadeK.fill (by decide) (hwt 7 (by kernel_rfl)) (by rw [hsz]; decide) FG.out hg hfin OW.out HNG.out HSS.out⟩
        simp only [upd]
        simp only [FG.out, FP.out]
        (try rfl)
    case heR2 =>
      intro listed q w9 hall hC hU hS
      obtain ⟨hO, hM⟩ := hS
      obtain ⟨PG, cs, SG, fg, hgP, hh, own, hng, hss⟩ := hM.full (hall 7 (by decide)) (hall 8 (by decide))
      obtain ⟨Ga0, Gn0, Gc0, Ga1, Gn1, Gc1, Ga2, Gn2, Gc2, rfl, _, _, _⟩ := arr_rd (arrK.read own)
      simp only [putsX, Act.put, List.setIfInBounds_toArray, List.set_cons_zero, List.set_cons_succ]
      rw [fg]
      clear hall hU fg hO hM
      generalize q 0 = _q0, q 1 = _q1, q 2 = _q2, q 3 = _q3, q 4 = _q4, q 5 = _q5, q 6 = _q6
      have gg9 := keep_block hC gg8 (lt_of_block gg8)
      have mm9 := keep_block hC mm8 (lt_of_block mm8)
      have aa9 := keep_block hC aa8 (lt_of_block aa8)
      have mc9 := keep_block hC mc8 (lt_of_block mc8)
      have qV9 := keep_block hC qV8 (lt_of_block qV8)
      have qX9 := keep_block hC qX8 (lt_of_block qX8)
      have qZ9 := keep_block hC qZ8 (lt_of_block qZ8)
      have V9 : Hid (arrK.own w9 SV [.slice Va0 Vn0 Vc0, .slice Va1 Vn1 Vc1, .slice Va2 Vn2 Vc2] yy) := arrK.ownBelow V8.out hC
      have X9 : Hid (arrK.own w9 SX [.slice Xa0 Xn0 Xc0, .slice Xa1 Xn1 Xc1, .slice Xa2 Xn2 Xc2] xx) := arrK.ownBelow X8.out hC
      have Z9 : Hid (cellK.own w9 SZ [.slice Za0 Zn0 Zc0, .bool kp] (kl, kp)) := cellK.ownBelow Z8.out hC
      have HB9 : Hid (Below w.heap.size w w9) := HB8.out.trans (hC.mono HB8.out.size)
      have BG : Hid (∀ b ∈ SG, w8.heap.size ≤ b) := hss
      have G9 : Hid (arrK.own w9 SG [.slice Ga0 Gn0 Gc0, .slice Ga1 Gn1 Gc1, .slice Ga2 Gn2 Gc2] yy) := own
      have qG9 := hh
      have NVqG : Hid (PG ∉ SV) := fun h => by have h1 := arrK.lt V8.out _ h; omega
      have NXqG : Hid (PG ∉ SX) := fun h => by have h1 := arrK.lt X8.out _ h; omega
      have NZqG : Hid (PG ∉ SZ) := fun h => by have h1 := cellK.lt Z8.out _ h; omega
      have DVG : Hid (∀ b ∈ SV, b ∉ SG) := fun b h1 h2 => by have h3 := arrK.lt V8.out b h1; have h4 := BG.out b h2; omega
      have DXG : Hid (∀ b ∈ SX, b ∉ SG) := fun b h1 h2 => by have h3 := arrK.lt X8.out b h1; have h4 := BG.out b h2; omega
      have DZG : Hid (∀ b ∈ SZ, b ∉ SG) := fun b h1 h2 => by have h3 := cellK.lt Z8.out b h1; have h4 := BG.out b h2; omega
      have NGgg : Hid (w.heap.size ∉ SG) := fun h => by have h1 := lt_of_block gg8; have h2 := BG.out _ h; omega
      have NGmm : Hid ((w.heap.size + 1) ∉ SG) := fun h => by have h1 := lt_of_block mm8; have h2 := BG.out _ h; omega
      have NGaa : Hid ((w.heap.size + 1 + 1) ∉ SG) := fun h => by have h1 := lt_of_block aa8; have h2 := BG.out _ h; omega
      have NGmc : Hid ((w.heap.size + 1 + 1 + 1) ∉ SG) := fun h => by have h1 := lt_of_block mc8; have h2 := BG.out _ h; omega
      have NGqV : Hid (PV ∉ SG) := fun h => by have h1 := lt_of_block qV8; have h2 := BG.out _ h; omega
      have NGqX : Hid (PX ∉ SG) := fun h => by have h1 := lt_of_block qX8; have h2 := BG.out _ h; omega
      have NGqZ : Hid (PZ ∉ SG) := fun h => by have h1 := lt_of_block qZ8; have h2 := BG.out _ h; omega
      have NGqG : Hid (PG ∉ SG) := hng
      clear own hss hh hC hng hgP
      clear gg8 mm8 aa8 mc8 qV8 qX8 qZ8 V8 X8 Z8 HB8
      obtain ⟨kqG0, kqG1, kqG2⟩ := cells3 qG9
      obtain ⟨kqV0, kqV1, kqV2⟩ := cells3 qV9
      go_wp2_with fail
      refine (eqArr_cs (arrK.read G9.out) (arrK.read V9.out)).mono ?_
      rintro e w10 ⟨rfl, hb10⟩
      clear kqG0 kqG1 kqG2 kqV0 kqV1 kqV2
      have gg10 := keep_block hb10 gg9 (lt_of_block gg9)
      have mm10 := keep_block hb10 mm9 (lt_of_block mm9)
      have aa10 := keep_block hb10 aa9 (lt_of_block aa9)
      have mc10 := keep_block hb10 mc9 (lt_of_block mc9)
      have qV10 := keep_block hb10 qV9 (lt_of_block qV9)
      have qX10 := keep_block hb10 qX9 (lt_of_block qX9)
      have qZ10 := keep_block hb10 qZ9 (lt_of_block qZ9)
      have qG10 := keep_block hb10 qG9 (lt_of_block qG9)
      have V10 : Hid (arrK.own w10 SV [.slice Va0 Vn0 Vc0, .slice Va1 Vn1 Vc1, .slice Va2 Vn2 Vc2] yy) := arrK.ownBelow V9.out hb10
      have X10 : Hid (arrK.own w10 SX [.slice Xa0 Xn0 Xc0, .slice Xa1 Xn1 Xc1, .slice Xa2 Xn2 Xc2] xx) := arrK.ownBelow X9.out hb10
      have Z10 : Hid (cellK.own w10 SZ [.slice Za0 Zn0 Zc0, .bool kp] (kl, kp)) := cellK.ownBelow Z9.out hb10
      have G10 : Hid (arrK.own w10 SG [.slice Ga0 Gn0 Gc0, .slice Ga1 Gn1 Gc1, .slice Ga2 Gn2 Gc2] yy) := arrK.ownBelow G9.out hb10
      have HB10 : Hid (Below w.heap.size w w10) := HB9.out.trans (hb10.mono HB9.out.size)
      clear gg9 mm9 aa9 mc9 qV9 qX9 qZ9 qG9 V9 X9 Z9 G9 HB9
      clear hb10
      go_wp2_with fail
      refine wp_region_flowV (fun k => match k with | 0 => some (.agg #[.slice Xa0 Xn0 Xc0, .slice Xa1 Xn1 Xc1, .slice Xa2 Xn2 Xc2]) | 1 => some (.agg #[.slice a0 n0 c0, .slice a1 n1 c1, .slice a2 n2 c2]) | 3 => some (.bool true) | 4 => some (.bool false) | _ => none) (fun listed x u => FactW 2 3 (HasK arrK xx w10.heap.size) listed x u) (fun _ => undef) (by kernel_rfl) (by kernel_rfl) ?hxR3 ?hSR3 ?hsR3 ?heR3
      case hxR3 => simp only [putsX, Act.put, List.setIfInBounds_toArray, List.set_cons_zero, List.set_cons_succ]
      case hSR3 => exact FactW.zero _ _ _ _ _ _
      case hsR3 =>
        simp only [flowSteps]
        refine ⟨?sR3_0, ?sR3_1, ?sR3_2, ?sR3_3, ?sR3_4, trivial⟩
        case sR3_0 =>
          intro listed bb u hsz hn hwt hinv
          obtain ⟨x, rfl, hC, hU, hA0⟩ := hinv
          simp only [putsX, Act.put, List.setIfInBounds_toArray, List.set_cons_zero, List.set_cons_succ]
          obtain ⟨d0, d1, d2⟩ := cells3 (keep_block hC qX10 (lt_of_block qX10))
          go_wp2_with fail
          refine stepQ_normal ⟨trivial, upd x 0 (.agg #[.slice Xa0 Xn0 Xc0, .slice Xa1 Xn1 Xc1, .slice Xa2 Xn2 Xc2]), ?_, hC, hU.step (fun _ h => Option.some.inj h), hA0.keep (by decide) (by decide) _ id⟩
          simp only [upd]
          rfl
        case sR3_1 =>
          intro listed bb u hsz hn hwt hinv
          obtain ⟨x, rfl, hC, hU, hA0⟩ := hinv
          simp only [putsX, Act.put, List.setIfInBounds_toArray, List.set_cons_zero, List.set_cons_succ]
          obtain ⟨d0, d1, d2⟩ := cells3 (keep_block hC mm10 (lt_of_block mm10))
          go_wp2_with fail
          refine stepQ_normal ⟨trivial, upd x 1 (.agg #[.slice a0 n0 c0, .slice a1 n1 c1, .slice a2 n2 c2]), ?_, hC, hU.step (fun _ h => Option.some.inj h), hA0.keep (by decide) (by decide) _ id⟩
          simp only [upd]
          rfl
        case sR3_2 =>
          intro listed bb u hsz hn hwt hinv
          obtain ⟨x, rfl, hC, hU, hA0⟩ := hinv
          have f1 := Lib.hid (hU 1 _ rfl (hwt 1 (by kernel_rfl)))
          simp only [putsX, Act.put, List.setIfInBounds_toArray, List.set_cons_zero, List.set_cons_succ]
          have hbu := HB10.out.trans (hC.mono HB10.out.size)
          have hcall : Calls Try.prog 25 #[x 1] u (GivesS arrK xx u) := by rw [f1.out]; exact toArray_k (arrK.below HX0.out hbu) HFIT.out.1 HFIT.out.2.1 HFIT.out.2.2.1 HFIT.out.2.2.2
          go_wp2_with fail
          refine hcall.mono ?_
          rintro e' u' ⟨cs, SS, rfl, own, hss, hb⟩
          go_wp2_with fail
          refine stepQ_normal ⟨trivial, upd x 2 (.agg cs.toArray), ?_, hC.trans (hb.mono hC.size), hU.step (fun _ h => by cases h), FactW.new ⟨cs, SS, rfl, own, fun b h => Nat.le_trans hC.size (hss b h)⟩⟩
          simp only [upd]
          rfl
        case sR3_3 =>
          intro listed bb u hsz hn hwt hinv
          obtain ⟨x, rfl, hC, hU, hA0⟩ := hinv
          have f0 := Lib.hid (hU 0 _ rfl (hwt 0 (by kernel_rfl)))
          simp only [putsX, Act.put, List.setIfInBounds_toArray, List.set_cons_zero, List.set_cons_succ]
          obtain ⟨cs0, S0, fp0, ow0, _⟩ := hA0 (hwt 2 (by kernel_rfl)) hn
          have hcall : Calls Try.prog 27 #[x 0, x 2] u (Gives (.bool true) u) := by rw [f0.out, fp0]; exact eqArr_cs (arrK.read (arrK.ownBelow X10.out hC)) (arrK.read ow0)
          clear fp0
          go_wp2_with fail
          refine hcall.mono ?_
          rintro e' u' ⟨rfl, hb⟩
          go_wp2_with fail
          refine stepQ_normal ⟨trivial, upd x 3 (.bool true), ?_, hC.trans (hb.mono hC.size), hU.step (fun _ h => Option.some.inj h), FactW.call (by rw [hsz]; decide)⟩
          simp only [upd]
          rfl
        case sR3_4 =>
          intro listed bb u hsz hn hwt hinv
          obtain ⟨x, rfl, hC, hU, hA0⟩ := hinv
          have f3 := Lib.hid (hU 3 _ rfl (hwt 3 (by kernel_rfl)))
          simp only [putsX, Act.put, List.setIfInBounds_toArray, List.set_cons_zero, List.set_cons_succ]
          rw [f3.out]
          go_wp2_with fail
          refine stepQ_normal ⟨trivial, upd x 4 (.bool false), ?_, hC, hU.step (fun _ h => Option.some.inj h), hA0.keep (by decide) (by decide) _ id⟩
          simp only [upd]
          simp only [f3.out]
          (try rfl)
      case heR3 =>
        intro listed q w11 hall hC hU hS
        have hA0 := hS
        have fq3 := hU 3 _ rfl (hall 3 (by decide))
        have fq4 := hU 4 _ rfl (hall 4 (by decide))
        simp only [putsX, Act.put, List.setIfInBounds_toArray, List.set_cons_zero, List.set_cons_succ]
        rw [fq3, fq4]
        clear hall hU fq3 fq4 hA0
        generalize q 0 = _q0, q 1 = _q1, q 2 = _q2
        have gg11 := keep_block hC gg10 (lt_of_block gg10)
        have mm11 := keep_block hC mm10 (lt_of_block mm10)
        have aa11 := keep_block hC aa10 (lt_of_block aa10)
        have mc11 := keep_block hC mc10 (lt_of_block mc10)
        have qV11 := keep_block hC qV10 (lt_of_block qV10)
        have qX11 := keep_block hC qX10 (lt_of_block qX10)
        have qZ11 := keep_block hC qZ10 (lt_of_block qZ10)
        have qG11 := keep_block hC qG10 (lt_of_block qG10)
        have V11 : Hid (arrK.own w11 SV [.slice Va0 Vn0 Vc0, .slice Va1 Vn1 Vc1, .slice Va2 Vn2 Vc2] yy) := arrK.ownBelow V10.out hC
        have X11 : Hid (arrK.own w11 SX [.slice Xa0 Xn0 Xc0, .slice Xa1 Xn1 Xc1, .slice Xa2 Xn2 Xc2] xx) := arrK.ownBelow X10.out hC
        have Z11 : Hid (cellK.own w11 SZ [.slice Za0 Zn0 Zc0, .bool kp] (kl, kp)) := cellK.ownBelow Z10.out hC
        have G11 : Hid (arrK.own w11 SG [.slice Ga0 Gn0 Gc0, .slice Ga1 Gn1 Gc1, .slice Ga2 Gn2 Gc2] yy) := arrK.ownBelow G10.out hC
        have HB11 : Hid (Below w.heap.size w w11) := HB10.out.trans (hC.mono HB10.out.size)
        clear hC
        clear gg10 mm10 aa10 mc10 qV10 qX10 qZ10 qG10 V10 X10 Z10 G10 HB10
        go_wp2_with fail
        refine wp_region_flowV (fun k => match k with | 0 => some (.agg #[.slice Za0 Zn0 Zc0, .bool kp]) | 1 => some (.agg #[.slice ka kn kc, .bool kp]) | 3 => some (.bool true) | 4 => some (.bool false) | _ => none) (fun listed x u => FactW 2 3 (HasK cellK (kl, kp) w11.heap.size) listed x u) (fun _ => undef) (by kernel_rfl) (by kernel_rfl) ?hxR4 ?hSR4 ?hsR4 ?heR4
        case hxR4 => simp only [putsX, Act.put, List.setIfInBounds_toArray, List.set_cons_zero, List.set_cons_succ]
        case hSR4 => exact FactW.zero _ _ _ _ _ _
        case hsR4 =>
          simp only [flowSteps]
          refine ⟨?sR4_0, ?sR4_1, ?sR4_2, ?sR4_3, ?sR4_4, trivial⟩
          case sR4_0 =>
            intro listed bb u hsz hn hwt hinv
            obtain ⟨x, rfl, hC, hU, hA0⟩ := hinv
            simp only [putsX, Act.put, List.setIfInBounds_toArray, List.set_cons_zero, List.set_cons_succ]
            obtain ⟨d0, d1⟩ := cells2 (keep_block hC qZ11 (lt_of_block qZ11))
            go_wp2_with fail
            refine stepQ_normal ⟨trivial, upd x 0 (.agg #[.slice Za0 Zn0 Zc0, .bool kp]), ?_, hC, hU.step (fun _ h => Option.some.inj h), hA0.keep (by decide) (by decide) _ id⟩
            simp only [upd]
            rfl
          case sR4_1 =>
            intro listed bb u hsz hn hwt hinv
            obtain ⟨x, rfl, hC, hU, hA0⟩ := hinv
            simp only [putsX, Act.put, List.setIfInBounds_toArray, List.set_cons_zero, List.set_cons_succ]
            obtain ⟨d0, d1⟩ := cells2 (keep_block hC mc11 (lt_of_block mc11))
            go_wp2_with fail
            refine stepQ_normal ⟨trivial, upd x 1 (.agg #[.slice ka kn kc, .bool kp]), ?_, hC, hU.step (fun _ h => Option.some.inj h), hA0.keep (by decide) (by decide) _ id⟩
            simp only [upd]
            rfl
          case sR4_2 =>
            intro listed bb u hsz hn hwt hinv
            obtain ⟨x, rfl, hC, hU, hA0⟩ := hinv
            have f1 := Lib.hid (hU 1 _ rfl (hwt 1 (by kernel_rfl)))
            simp only [putsX, Act.put, List.setIfInBounds_toArray, List.set_cons_zero, List.set_cons_succ]
            have hbu := HB11.out.trans (hC.mono HB11.out.size)
            have hcall : Calls Try.prog 42 #[x 1] u (GivesS cellK (kl, kp) u) := by rw [f1.out]; exact toCell_cs (cellK.below HC0.out hbu) HKL.out
            go_wp2_with fail
            refine hcall.mono ?_
            rintro e' u' ⟨cs, SS, rfl, own, hss, hb⟩
            go_wp2_with fail
            refine stepQ_normal ⟨trivial, upd x 2 (.agg cs.toArray), ?_, hC.trans (hb.mono hC.size), hU.step (fun _ h => by cases h), FactW.new ⟨cs, SS, rfl, own, fun b h => Nat.le_trans hC.size (hss b h)⟩⟩
            simp only [upd]
            rfl
          case sR4_3 =>
            intro listed bb u hsz hn hwt hinv
            obtain ⟨x, rfl, hC, hU, hA0⟩ := hinv
            have f0 := Lib.hid (hU 0 _ rfl (hwt 0 (by kernel_rfl)))
            simp only [putsX, Act.put, List.setIfInBounds_toArray, List.set_cons_zero, List.set_cons_succ]
            obtain ⟨cs0, S0, fp0, ow0, _⟩ := hA0 (hwt 2 (by kernel_rfl)) hn
            have hcall : Calls Try.prog 37 #[x 0, x 2] u (Gives (.bool true) u) := by rw [f0.out, fp0]; exact eqCell_cs (cellK.read (cellK.ownBelow Z11.out hC)) (cellK.read ow0)
            clear fp0
            go_wp2_with fail
            refine hcall.mono ?_
            rintro e' u' ⟨rfl, hb⟩
            go_wp2_with fail
            refine stepQ_normal ⟨trivial, upd x 3 (.bool true), ?_, hC.trans (hb.mono hC.size), hU.step (fun _ h => Option.some.inj h), FactW.call (by rw [hsz]; decide)⟩
            simp only [upd]
            rfl
          case sR4_4 =>
            intro listed bb u hsz hn hwt hinv
            obtain ⟨x, rfl, hC, hU, hA0⟩ := hinv
            have f3 := Lib.hid (hU 3 _ rfl (hwt 3 (by kernel_rfl)))
            simp only [putsX, Act.put, List.setIfInBounds_toArray, List.set_cons_zero, List.set_cons_succ]
            rw [f3.out]
            go_wp2_with fail
            refine stepQ_normal ⟨trivial, upd x 4 (.bool false), ?_, hC, hU.step (fun _ h => Option.some.inj h), hA0.keep (by decide) (by decide) _ id⟩
            simp only [upd]
            simp only [f3.out]
            (try rfl)
        case heR4 =>
          intro listed q w12 hall hC hU hS
          have hA0 := hS
          have fq3 := hU 3 _ rfl (hall 3 (by decide))
          have fq4 := hU 4 _ rfl (hall 4 (by decide))
          simp only [putsX, Act.put, List.setIfInBounds_toArray, List.set_cons_zero, List.set_cons_succ]
          rw [fq3, fq4]
          clear hall hU fq3 fq4 hA0
          generalize q 0 = _q0, q 1 = _q1, q 2 = _q2
          have gg12 := keep_block hC gg11 (lt_of_block gg11)
          have mm12 := keep_block hC mm11 (lt_of_block mm11)
          have aa12 := keep_block hC aa11 (lt_of_block aa11)
          have mc12 := keep_block hC mc11 (lt_of_block mc11)
          have qV12 := keep_block hC qV11 (lt_of_block qV11)
          have qX12 := keep_block hC qX11 (lt_of_block qX11)
          have qZ12 := keep_block hC qZ11 (lt_of_block qZ11)
          have qG12 := keep_block hC qG11 (lt_of_block qG11)
          have V12 : Hid (arrK.own w12 SV [.slice Va0 Vn0 Vc0, .slice Va1 Vn1 Vc1, .slice Va2 Vn2 Vc2] yy) := arrK.ownBelow V11.out hC
          have X12 : Hid (arrK.own w12 SX [.slice Xa0 Xn0 Xc0, .slice Xa1 Xn1 Xc1, .slice Xa2 Xn2 Xc2] xx) := arrK.ownBelow X11.out hC
          have Z12 : Hid (cellK.own w12 SZ [.slice Za0 Zn0 Zc0, .bool kp] (kl, kp)) := cellK.ownBelow Z11.out hC
          have G12 : Hid (arrK.own w12 SG [.slice Ga0 Gn0 Gc0, .slice Ga1 Gn1 Gc1, .slice Ga2 Gn2 Gc2] yy) := arrK.ownBelow G11.out hC
          have HB12 : Hid (Below w.heap.size w w12) := HB11.out.trans (hC.mono HB11.out.size)
          clear hC
          clear gg11 mm11 aa11 mc11 qV11 qX11 qZ11 qG11 V11 X11 Z11 G11 HB11
          obtain ⟨kqX0, kqX1, kqX2⟩ := cells3 qX12
          go_wp2_with fail
          refine (markArr_v X12.out (Nat.le_trans HCNT.out (by decide)) kx HKX.out).mono ?_
          rintro e w13 ⟨rfl, own13, ho13⟩
          clear kqX0 kqX1 kqX2
          have gg13 := (ho13.block _ (lt_of_block gg12) NXgg.out).trans gg12
          have mm13 := (ho13.block _ (lt_of_block mm12) NXmm.out).trans mm12
          have aa13 := (ho13.block _ (lt_of_block aa12) NXaa.out).trans aa12
          have mc13 := (ho13.block _ (lt_of_block mc12) NXmc.out).trans mc12
          have qV13 := (ho13.block _ (lt_of_block qV12) NXqV.out).trans qV12
          have qX13 := (ho13.block _ (lt_of_block qX12) NXqX.out).trans qX12
          have qZ13 := (ho13.block _ (lt_of_block qZ12) NXqZ.out).trans qZ12
          have qG13 := (ho13.block _ (lt_of_block qG12) NXqG.out).trans qG12
          have V13 : Hid (arrK.own w13 SV [.slice Va0 Vn0 Vc0, .slice Va1 Vn1 Vc1, .slice Va2 Vn2 Vc2] yy) := arrK.ownKeep V12.out ho13 DVX.out
          have Z13 : Hid (cellK.own w13 SZ [.slice Za0 Zn0 Zc0, .bool kp] (kl, kp)) := cellK.ownKeep Z12.out ho13 (fun b h1 h2 => DXZ.out b h2 h1)
          have G13 : Hid (arrK.own w13 SG [.slice Ga0 Gn0 Gc0, .slice Ga1 Gn1 Gc1, .slice Ga2 Gn2 Gc2] yy) := arrK.ownKeep G12.out ho13 (fun b h1 h2 => DXG.out b h2 h1)
          have HB13 : Hid (Below w.heap.size w w13) := HB12.out.trans (ho13.below (fun b h => Nat.le_trans SZX.out (BX.out b h)) HB12.out.size)
          have X13 : Hid (arrK.own w13 SX [.slice Xa0 Xn0 Xc0, .slice Xa1 Xn1 Xc1, .slice Xa2 Xn2 Xc2] (aMk xx 1)) := own13
          clear own13 ho13
          clear gg12 mm12 aa12 mc12 qV12 qX12 qZ12 qG12 V12 X12 Z12 G12 HB12
          obtain ⟨kqZ0, kqZ1⟩ := cells2 qZ13
          go_wp2_with fail
          refine (markCell_w Z13.out (1 + aCnt xx) HKB.out kx kz HKX.out HKZ.out).mono ?_
          rintro e w14 ⟨rfl, own14, ho14⟩
          clear kqZ0 kqZ1
          have gg14 := (ho14.block _ (lt_of_block gg13) NZgg.out).trans gg13
          have mm14 := (ho14.block _ (lt_of_block mm13) NZmm.out).trans mm13
          have aa14 := (ho14.block _ (lt_of_block aa13) NZaa.out).trans aa13
          have mc14 := (ho14.block _ (lt_of_block mc13) NZmc.out).trans mc13
          have qV14 := (ho14.block _ (lt_of_block qV13) NZqV.out).trans qV13
          have qX14 := (ho14.block _ (lt_of_block qX13) NZqX.out).trans qX13
          have qZ14 := (ho14.block _ (lt_of_block qZ13) NZqZ.out).trans qZ13
          have qG14 := (ho14.block _ (lt_of_block qG13) NZqG.out).trans qG13
          have V14 : Hid (arrK.own w14 SV [.slice Va0 Vn0 Vc0, .slice Va1 Vn1 Vc1, .slice Va2 Vn2 Vc2] yy) := arrK.ownKeep V13.out ho14 DVZ.out
          have X14 : Hid (arrK.own w14 SX [.slice Xa0 Xn0 Xc0, .slice Xa1 Xn1 Xc1, .slice Xa2 Xn2 Xc2] (aMk xx 1)) := arrK.ownKeep X13.out ho14 DXZ.out
          have G14 : Hid (arrK.own w14 SG [.slice Ga0 Gn0 Gc0, .slice Ga1 Gn1 Gc1, .slice Ga2 Gn2 Gc2] yy) := arrK.ownKeep G13.out ho14 (fun b h1 h2 => DZG.out b h2 h1)
          have HB14 : Hid (Below w.heap.size w w14) := HB13.out.trans (ho14.below (fun b h => Nat.le_trans SZZ.out (BZ.out b h)) HB13.out.size)
          have Z14 : Hid (cellK.own w14 SZ [.slice Za0 Zn0 Zc0, .bool kp] (marksI (1 + aCnt xx) kl.length, kp)) := own14
          clear own14 ho14
          clear gg13 mm13 aa13 mc13 qV13 qX13 qZ13 qG13 V13 X13 Z13 G13 HB13
          clear X14
          clear Z14
          obtain ⟨kqG0, kqG1, kqG2⟩ := cells3 qG14
          obtain ⟨kqV0, kqV1, kqV2⟩ := cells3 qV14
          go_wp2_with fail
          refine (eqArr_cs (arrK.read G14.out) (arrK.read V14.out)).mono ?_
          rintro e w15 ⟨rfl, hb15⟩
          clear kqG0 kqG1 kqG2 kqV0 kqV1 kqV2
          have gg15 := keep_block hb15 gg14 (lt_of_block gg14)
          have mm15 := keep_block hb15 mm14 (lt_of_block mm14)
          have aa15 := keep_block hb15 aa14 (lt_of_block aa14)
          have mc15 := keep_block hb15 mc14 (lt_of_block mc14)
          have qV15 := keep_block hb15 qV14 (lt_of_block qV14)
          have qX15 := keep_block hb15 qX14 (lt_of_block qX14)
          have qZ15 := keep_block hb15 qZ14 (lt_of_block qZ14)
          have qG15 := keep_block hb15 qG14 (lt_of_block qG14)
          have V15 : Hid (arrK.own w15 SV [.slice Va0 Vn0 Vc0, .slice Va1 Vn1 Vc1, .slice Va2 Vn2 Vc2] yy) := arrK.ownBelow V14.out hb15
          have G15 : Hid (arrK.own w15 SG [.slice Ga0 Gn0 Gc0, .slice Ga1 Gn1 Gc1, .slice Ga2 Gn2 Gc2] yy) := arrK.ownBelow G14.out hb15
          have HB15 : Hid (Below w.heap.size w w15) := HB14.out.trans (hb15.mono HB14.out.size)
          clear gg14 mm14 aa14 mc14 qV14 qX14 qZ14 qG14 V14 G14 HB14
          clear hb15
          obtain ⟨kqG0, kqG1, kqG2⟩ := cells3 qG15
          go_wp2_with fail
          refine (markArr_w G15.out HCYN.out ky HKY.out).mono ?_
          rintro e w16 ⟨rfl, own16, ho16⟩
          clear kqG0 kqG1 kqG2
          have gg16 := (ho16.block _ (lt_of_block gg15) NGgg.out).trans gg15
          have mm16 := (ho16.block _ (lt_of_block mm15) NGmm.out).trans mm15
          have aa16 := (ho16.block _ (lt_of_block aa15) NGaa.out).trans aa15
          have mc16 := (ho16.block _ (lt_of_block mc15) NGmc.out).trans mc15
          have qV16 := (ho16.block _ (lt_of_block qV15) NGqV.out).trans qV15
          have qX16 := (ho16.block _ (lt_of_block qX15) NGqX.out).trans qX15
          have qZ16 := (ho16.block _ (lt_of_block qZ15) NGqZ.out).trans qZ15
          have qG16 := (ho16.block _ (lt_of_block qG15) NGqG.out).trans qG15
          have V16 : Hid (arrK.own w16 SV [.slice Va0 Vn0 Vc0, .slice Va1 Vn1 Vc1, .slice Va2 Vn2 Vc2] yy) := arrK.ownKeep V15.out ho16 DVG.out
          have HB16 : Hid (Below w.heap.size w w16) := HB15.out.trans (ho16.below (fun b h => Nat.le_trans SZG.out (BG.out b h)) HB15.out.size)
          have G16 : Hid (arrK.own w16 SG [.slice Ga0 Gn0 Gc0, .slice Ga1 Gn1 Gc1, .slice Ga2 Gn2 Gc2] (aMk yy 1)) := own16
          clear own16 ho16
          clear gg15 mm15 aa15 mc15 qV15 qX15 qZ15 qG15 V15 G15 HB15
          obtain ⟨kqG0, kqG1, kqG2⟩ := cells3 qG16
          go_wp2_with fail
          refine (heldArr_w (arrK.read G16.out) HCYN.out ky HKY.out).mono ?_
          rintro e w17 ⟨rfl, hb17⟩
          clear kqG0 kqG1 kqG2
          have gg17 := keep_block hb17 gg16 (lt_of_block gg16)
          have mm17 := keep_block hb17 mm16 (lt_of_block mm16)
          have aa17 := keep_block hb17 aa16 (lt_of_block aa16)
          have mc17 := keep_block hb17 mc16 (lt_of_block mc16)
          have qV17 := keep_block hb17 qV16 (lt_of_block qV16)
          have qX17 := keep_block hb17 qX16 (lt_of_block qX16)
          have qZ17 := keep_block hb17 qZ16 (lt_of_block qZ16)
          have qG17 := keep_block hb17 qG16 (lt_of_block qG16)
          have V17 : Hid (arrK.own w17 SV [.slice Va0 Vn0 Vc0, .slice Va1 Vn1 Vc1, .slice Va2 Vn2 Vc2] yy) := arrK.ownBelow V16.out hb17
          have G17 : Hid (arrK.own w17 SG [.slice Ga0 Gn0 Gc0, .slice Ga1 Gn1 Gc1, .slice Ga2 Gn2 Gc2] (aMk yy 1)) := arrK.ownBelow G16.out hb17
          have HB17 : Hid (Below w.heap.size w w17) := HB16.out.trans (hb17.mono HB16.out.size)
          clear gg16 mm16 aa16 mc16 qV16 qX16 qZ16 qG16 V16 G16 HB16
          clear hb17
          go_wp2_with fail
          refine wp_region_flowV (fun k => match k with | 0 => some (.agg #[.int .i64 ea, .int .i64 eb, .int .i64 ec, .int .i64 ed]) | 1 => some (.agg #[.int .i64 ea, .int .i64 eb, .int .i64 ec, .int .i64 ed]) | 2 => some (.agg #[.slice a0 n0 c0, .slice a1 n1 c1, .slice a2 n2 c2]) | 4 => some (.agg #[.int .i64 bx, .int .i64 br, .int .i64 bc]) | 5 => some (.agg #[.int .i64 bx, .int .i64 br, .int .i64 bc]) | 6 => some (.agg #[.slice ka kn kc, .bool kp]) | _ => none) (fun listed x u => FactW 3 8 (HasK arrK xx w17.heap.size) listed x u ∧ FactW 7 8 (HasK cellK (kl, kp) w17.heap.size) listed x u ∧ FactW 8 10 (HasK arrK yy w17.heap.size) listed x u ∧ MadeK arrK 31 #[.slice none 0 0, .slice none 0 0, .slice none 0 0] 9 10 w17.heap.size yy listed x u) (fun _ => undef) (by kernel_rfl) (by kernel_rfl) ?hxR5 ?hSR5 ?hsR5 ?heR5
          case hxR5 => simp only [putsX, Act.put, List.setIfInBounds_toArray, List.set_cons_zero, List.set_cons_succ]
          case hSR5 => exact ⟨FactW.zero _ _ _ _ _ _, FactW.zero _ _ _ _ _ _, FactW.zero _ _ _ _ _ _, MadeK.zero _ _ _ _ _ _ _ _ _ _⟩
          case hsR5 =>
            simp only [flowSteps]
            refine ⟨?sR5_0, ?sR5_1, ?sR5_2, ?sR5_3, ?sR5_4, ?sR5_5, ?sR5_6, ?sR5_7, ?sR5_8, ?sR5_9, ?sR5_10, trivial⟩
            case sR5_0 =>
              intro listed bb u hsz hn hwt hinv
              obtain ⟨x, rfl, hC, hU, hA0, hA1, hO, hM⟩ := hinv
              simp only [putsX, Act.put, List.setIfInBounds_toArray, List.set_cons_zero, List.set_cons_succ]
              obtain ⟨d0, d1, d2, d3⟩ := cells4 (keep_block hC gg17 (lt_of_block gg17))
              go_wp2_with fail
              refine stepQ_normal ⟨trivial, upd x 0 (.agg #[.int .i64 ea, .int .i64 eb, .int .i64 ec, .int .i64 ed]), ?_, hC, hU.step (fun _ h => Option.some.inj h), hA0.keep (by decide) (by decide) _ id, hA1.keep (by decide) (by decide) _ id, hO.keep (by decide) (by decide) _ id, hM.keep (by decide) (by decide) _ (Below.refl _ _)⟩
              simp only [upd]
              rfl
            case sR5_1 =>
              intro listed bb u hsz hn hwt hinv
              obtain ⟨x, rfl, hC, hU, hA0, hA1, hO, hM⟩ := hinv
              have f0 := Lib.hid (hU 0 _ rfl (hwt 0 (by kernel_rfl)))
              simp only [putsX, Act.put, List.setIfInBounds_toArray, List.set_cons_zero, List.set_cons_succ]
              have hcall : Calls Try.prog 24 #[x 0] u (Gives (.agg #[.int .i64 ea, .int .i64 eb, .int .i64 ec, .int .i64 ed]) u) := by rw [f0.out]; exact toGeometry_any _ _ _ _ _
              go_wp2_with fail
              refine hcall.mono ?_
              rintro e' u' ⟨rfl, hb⟩
              go_wp2_with fail
              refine stepQ_normal ⟨trivial, upd x 1 (.agg #[.int .i64 ea, .int .i64 eb, .int .i64 ec, .int .i64 ed]), ?_, hC.trans (hb.mono hC.size), hU.step (fun _ h => Option.some.inj h), hA0.keep (by decide) (by decide) _ (fun h => HasK.below h (hb)), hA1.keep (by decide) (by decide) _ (fun h => HasK.below h (hb)), hO.keep (by decide) (by decide) _ (fun h => HasK.below h (hb)), hM.keep (by decide) (by decide) _ (hb)⟩
              simp only [upd]
              rfl
            case sR5_2 =>
              intro listed bb u hsz hn hwt hinv
              obtain ⟨x, rfl, hC, hU, hA0, hA1, hO, hM⟩ := hinv
              simp only [putsX, Act.put, List.setIfInBounds_toArray, List.set_cons_zero, List.set_cons_succ]
              obtain ⟨d0, d1, d2⟩ := cells3 (keep_block hC mm17 (lt_of_block mm17))
              go_wp2_with fail
              refine stepQ_normal ⟨trivial, upd x 2 (.agg #[.slice a0 n0 c0, .slice a1 n1 c1, .slice a2 n2 c2]), ?_, hC, hU.step (fun _ h => Option.some.inj h), hA0.keep (by decide) (by decide) _ id, hA1.keep (by decide) (by decide) _ id, hO.keep (by decide) (by decide) _ id, hM.keep (by decide) (by decide) _ (Below.refl _ _)⟩
              simp only [upd]
              rfl
            case sR5_3 =>
              intro listed bb u hsz hn hwt hinv
              obtain ⟨x, rfl, hC, hU, hA0, hA1, hO, hM⟩ := hinv
              have f2 := Lib.hid (hU 2 _ rfl (hwt 2 (by kernel_rfl)))
              simp only [putsX, Act.put, List.setIfInBounds_toArray, List.set_cons_zero, List.set_cons_succ]
              have hbu := HB17.out.trans (hC.mono HB17.out.size)
              have hcall : Calls Try.prog 25 #[x 2] u (GivesS arrK xx u) := by rw [f2.out]; exact toArray_k (arrK.below HX0.out hbu) HFIT.out.1 HFIT.out.2.1 HFIT.out.2.2.1 HFIT.out.2.2.2
              go_wp2_with fail
              refine hcall.mono ?_
              rintro e' u' ⟨cs, SS, rfl, own, hss, hb⟩
              go_wp2_with fail
              refine stepQ_normal ⟨trivial, upd x 3 (.agg cs.toArray), ?_, hC.trans (hb.mono hC.size), hU.step (fun _ h => by cases h), FactW.new ⟨cs, SS, rfl, own, fun b h => Nat.le_trans hC.size (hss b h)⟩, hA1.keep (by decide) (by decide) _ (fun h => HasK.below h (hb)), hO.keep (by decide) (by decide) _ (fun h => HasK.below h (hb)), hM.keep (by decide) (by decide) _ (hb)⟩
              simp only [upd]
              rfl
            case sR5_4 =>
              intro listed bb u hsz hn hwt hinv
              obtain ⟨x, rfl, hC, hU, hA0, hA1, hO, hM⟩ := hinv
              simp only [putsX, Act.put, List.setIfInBounds_toArray, List.set_cons_zero, List.set_cons_succ]
              obtain ⟨d0, d1, d2⟩ := cells3 (keep_block hC aa17 (lt_of_block aa17))
              go_wp2_with fail
              refine stepQ_normal ⟨trivial, upd x 4 (.agg #[.int .i64 bx, .int .i64 br, .int .i64 bc]), ?_, hC, hU.step (fun _ h => Option.some.inj h), hA0.keep (by decide) (by decide) _ id, hA1.keep (by decide) (by decide) _ id, hO.keep (by decide) (by decide) _ id, hM.keep (by decide) (by decide) _ (Below.refl _ _)⟩
              simp only [upd]
              rfl
            case sR5_5 =>
              intro listed bb u hsz hn hwt hinv
              obtain ⟨x, rfl, hC, hU, hA0, hA1, hO, hM⟩ := hinv
              have f4 := Lib.hid (hU 4 _ rfl (hwt 4 (by kernel_rfl)))
              simp only [putsX, Act.put, List.setIfInBounds_toArray, List.set_cons_zero, List.set_cons_succ]
              have hcall : Calls Try.prog 36 #[x 4] u (Gives (.agg #[.int .i64 bx, .int .i64 br, .int .i64 bc]) u) := by rw [f4.out]; exact toAddr_any _ _ _ _
              go_wp2_with fail
              refine hcall.mono ?_
              rintro e' u' ⟨rfl, hb⟩
              go_wp2_with fail
              refine stepQ_normal ⟨trivial, upd x 5 (.agg #[.int .i64 bx, .int .i64 br, .int .i64 bc]), ?_, hC.trans (hb.mono hC.size), hU.step (fun _ h => Option.some.inj h), hA0.keep (by decide) (by decide) _ (fun h => HasK.below h (hb)), hA1.keep (by decide) (by decide) _ (fun h => HasK.below h (hb)), hO.keep (by decide) (by decide) _ (fun h => HasK.below h (hb)), hM.keep (by decide) (by decide) _ (hb)⟩
              simp only [upd]
              rfl
            case sR5_6 =>
              intro listed bb u hsz hn hwt hinv
              obtain ⟨x, rfl, hC, hU, hA0, hA1, hO, hM⟩ := hinv
              simp only [putsX, Act.put, List.setIfInBounds_toArray, List.set_cons_zero, List.set_cons_succ]
              obtain ⟨d0, d1⟩ := cells2 (keep_block hC mc17 (lt_of_block mc17))
              go_wp2_with fail
              refine stepQ_normal ⟨trivial, upd x 6 (.agg #[.slice ka kn kc, .bool kp]), ?_, hC, hU.step (fun _ h => Option.some.inj h), hA0.keep (by decide) (by decide) _ id, hA1.keep (by decide) (by decide) _ id, hO.keep (by decide) (by decide) _ id, hM.keep (by decide) (by decide) _ (Below.refl _ _)⟩
              simp only [upd]
              rfl
            case sR5_7 =>
              intro listed bb u hsz hn hwt hinv
              obtain ⟨x, rfl, hC, hU, hA0, hA1, hO, hM⟩ := hinv
              have f6 := Lib.hid (hU 6 _ rfl (hwt 6 (by kernel_rfl)))
              simp only [putsX, Act.put, List.setIfInBounds_toArray, List.set_cons_zero, List.set_cons_succ]
              have hbu := HB17.out.trans (hC.mono HB17.out.size)
              have hcall : Calls Try.prog 42 #[x 6] u (GivesS cellK (kl, kp) u) := by rw [f6.out]; exact toCell_cs (cellK.below HC0.out hbu) HKL.out
              go_wp2_with fail
              refine hcall.mono ?_
              rintro e' u' ⟨cs, SS, rfl, own, hss, hb⟩
              go_wp2_with fail
              refine stepQ_normal ⟨trivial, upd x 7 (.agg cs.toArray), ?_, hC.trans (hb.mono hC.size), hU.step (fun _ h => by cases h), hA0.keep (by decide) (by decide) _ (fun h => HasK.below h (hb)), FactW.new ⟨cs, SS, rfl, own, fun b h => Nat.le_trans hC.size (hss b h)⟩, hO.keep (by decide) (by decide) _ (fun h => HasK.below h (hb)), hM.keep (by decide) (by decide) _ (hb)⟩
              simp only [upd]
              rfl
            case sR5_8 =>
              intro listed bb u hsz hn hwt hinv
              obtain ⟨x, rfl, hC, hU, hA0, hA1, hO, hM⟩ := hinv
              have f1 := Lib.hid (hU 1 _ rfl (hwt 1 (by kernel_rfl)))
              have f5 := Lib.hid (hU 5 _ rfl (hwt 5 (by kernel_rfl)))
              simp only [putsX, Act.put, List.setIfInBounds_toArray, List.set_cons_zero, List.set_cons_succ]
              obtain ⟨cs0, S0, fp0, ow0, _⟩ := hA0 (hwt 3 (by kernel_rfl)) hn
              obtain ⟨cs1, S1, fp1, ow1, _⟩ := hA1 (hwt 7 (by kernel_rfl)) hn
              have hcall : Calls Try.prog 17 #[x 1, x 3, x 5, x 7] u (GivesS arrK yy u) := by rw [f1.out, fp0, f5.out, fp1]; exact IM.out u _ _ (arrK.read ow0) HFIT.out (cellK.read ow1) HKL.out
              clear fp0 fp1
              go_wp2_with fail
              refine hcall.mono ?_
              rintro e' u' ⟨cs, SS, rfl, own, hss, hb⟩
              go_wp2_with fail
              refine stepQ_normal ⟨trivial, upd x 8 (.agg cs.toArray), ?_, hC.trans (hb.mono hC.size), hU.step (fun _ h => by cases h), FactW.call (by rw [hsz]; decide), FactW.call (by rw [hsz]; decide), FactW.new ⟨cs, SS, rfl, own, fun b h => Nat.le_trans hC.size (hss b h)⟩, hM.keep (by decide) (by decide) _ (hb)⟩
              simp only [upd]
              rfl
            case sR5_9 =>
              intro listed bb u hsz hn hwt hinv
              obtain ⟨x, rfl, hC, hU, hA0, hA1, hO, hM⟩ := hinv
              simp only [putsX, Act.put, List.setIfInBounds_toArray, List.set_cons_zero, List.set_cons_succ]
              go_wp2_with fail
              refine stepQ_normal ⟨trivial, upd x 9 (.pointer (some ⟨u.heap.size, 0, none⟩)), ?_, hC.alloc hC.size _, hU.step (fun _ h => by cases h), hA0.keep (by decide) (by decide) _ (fun h => HasK.below h (below_allocK _ _)), hA1.keep (by decide) (by decide) _ (fun h => HasK.below h (below_allocK _ _)), hO.keep (by decide) (by decide) _ (fun h => HasK.below h (below_allocK _ _)), hM.new (by decide) hn hC.size⟩
              simp only [upd]
              rfl
            case sR5_10 =>
              intro listed bb u hsz hn hwt hinv
              obtain ⟨x, rfl, hC, hU, hA0, hA1, hO, hM⟩ := hinv
              simp only [putsX, Act.put, List.setIfInBounds_toArray, List.set_cons_zero, List.set_cons_succ]
              obtain ⟨g, fg, hg, hh⟩ := hM.there (hwt 9 (by kernel_rfl)) hn
              obtain ⟨cs, SS, fp, own, hss⟩ := hO (hwt 8 (by kernel_rfl)) hn
              obtain ⟨a0, n0, c0, a1, n1, c1, a2, n2, c2, rfl, _, _, _⟩ := arr_rd (arrK.read own)
              have FG := Lib.hid fg
              have FP := Lib.hid fp
              rw [FG.out, FP.out]
              obtain ⟨y0, y1, y2⟩ := cells3 hh
              have t0 := thawed hh 0
              have t1 := thawed hh 1
              have t2 := thawed hh 2
              have hng : g ∉ SS := arrTy.notin own hh (by decide)
              have own0 := own
              have hfin := set_cells (set_cells (set_cells (hh) 0 (.slice a0 n0 c0)) 1 (.slice a1 n1 c1)) 2 (.slice a2 n2 c2)
              have OW := Lib.hid (Kn.ownSet arrK (Kn.ownSet arrK (Kn.ownSet arrK own0 (p := ⟨g, 0, none⟩) (fun b h e => hng ((show b = g from e) ▸ h)) (.slice a0 n0 c0)) (p := ⟨g, 1, none⟩) (fun b h e => hng ((show b = g from e) ▸ h)) (.slice a1 n1 c1)) (p := ⟨g, 2, none⟩) (fun b h e => hng ((show b = g from e) ▸ h)) (.slice a2 n2 c2))
              have HSS := Lib.hid hss
              have HNG := Lib.hid hng
              clear hh fg fp own own0 hss hng
              go_wp2_with fail
              refine stepQ_normal ⟨trivial, upd x 10 undef, ?_, (((hC).setCell (by exact hg) _).setCell (by exact hg) _).setCell (by exact hg) _, hU.step (fun _ h => by cases h), FactW.gone (hwt 8 (by kernel_rfl)), FactW.gone (hwt 8 (by kernel_rfl)), FactW.call (by rw [hsz]; decide), MadeK.fill (by decide) (hwt 9 (by kernel_rfl)) (by rw [hsz]; decide) FG.out hg hfin OW.out HNG.out HSS.out⟩
              simp only [upd]
              simp only [FG.out, FP.out]
              (try rfl)
          case heR5 =>
            intro listed q w18 hall hC hU hS
            obtain ⟨hA0, hA1, hO, hM⟩ := hS
            obtain ⟨PH, cs, SH, fg, hgP, hh, own, hng, hss⟩ := hM.full (hall 9 (by decide)) (hall 10 (by decide))
            obtain ⟨Ha0, Hn0, Hc0, Ha1, Hn1, Hc1, Ha2, Hn2, Hc2, rfl, _, _, _⟩ := arr_rd (arrK.read own)
            simp only [putsX, Act.put, List.setIfInBounds_toArray, List.set_cons_zero, List.set_cons_succ]
            rw [fg]
            clear hall hU fg hA0 hA1 hO hM
            generalize q 0 = _q0, q 1 = _q1, q 2 = _q2, q 3 = _q3, q 4 = _q4, q 5 = _q5, q 6 = _q6, q 7 = _q7, q 8 = _q8
            have gg18 := keep_block hC gg17 (lt_of_block gg17)
            have mm18 := keep_block hC mm17 (lt_of_block mm17)
            have aa18 := keep_block hC aa17 (lt_of_block aa17)
            have mc18 := keep_block hC mc17 (lt_of_block mc17)
            have qV18 := keep_block hC qV17 (lt_of_block qV17)
            have qX18 := keep_block hC qX17 (lt_of_block qX17)
            have qZ18 := keep_block hC qZ17 (lt_of_block qZ17)
            have qG18 := keep_block hC qG17 (lt_of_block qG17)
            have V18 : Hid (arrK.own w18 SV [.slice Va0 Vn0 Vc0, .slice Va1 Vn1 Vc1, .slice Va2 Vn2 Vc2] yy) := arrK.ownBelow V17.out hC
            have G18 : Hid (arrK.own w18 SG [.slice Ga0 Gn0 Gc0, .slice Ga1 Gn1 Gc1, .slice Ga2 Gn2 Gc2] (aMk yy 1)) := arrK.ownBelow G17.out hC
            have HB18 : Hid (Below w.heap.size w w18) := HB17.out.trans (hC.mono HB17.out.size)
            have BH : Hid (∀ b ∈ SH, w17.heap.size ≤ b) := hss
            have H18 : Hid (arrK.own w18 SH [.slice Ha0 Hn0 Hc0, .slice Ha1 Hn1 Hc1, .slice Ha2 Hn2 Hc2] yy) := own
            have qH18 := hh
            have NVqH : Hid (PH ∉ SV) := fun h => by have h1 := arrK.lt V17.out _ h; omega
            have NGqH : Hid (PH ∉ SG) := fun h => by have h1 := arrK.lt G17.out _ h; omega
            have DVH : Hid (∀ b ∈ SV, b ∉ SH) := fun b h1 h2 => by have h3 := arrK.lt V17.out b h1; have h4 := BH.out b h2; omega
            have DGH : Hid (∀ b ∈ SG, b ∉ SH) := fun b h1 h2 => by have h3 := arrK.lt G17.out b h1; have h4 := BH.out b h2; omega
            have NHgg : Hid (w.heap.size ∉ SH) := fun h => by have h1 := lt_of_block gg17; have h2 := BH.out _ h; omega
            have NHmm : Hid ((w.heap.size + 1) ∉ SH) := fun h => by have h1 := lt_of_block mm17; have h2 := BH.out _ h; omega
            have NHaa : Hid ((w.heap.size + 1 + 1) ∉ SH) := fun h => by have h1 := lt_of_block aa17; have h2 := BH.out _ h; omega
            have NHmc : Hid ((w.heap.size + 1 + 1 + 1) ∉ SH) := fun h => by have h1 := lt_of_block mc17; have h2 := BH.out _ h; omega
            have NHqV : Hid (PV ∉ SH) := fun h => by have h1 := lt_of_block qV17; have h2 := BH.out _ h; omega
            have NHqX : Hid (PX ∉ SH) := fun h => by have h1 := lt_of_block qX17; have h2 := BH.out _ h; omega
            have NHqZ : Hid (PZ ∉ SH) := fun h => by have h1 := lt_of_block qZ17; have h2 := BH.out _ h; omega
            have NHqG : Hid (PG ∉ SH) := fun h => by have h1 := lt_of_block qG17; have h2 := BH.out _ h; omega
            have NHqH : Hid (PH ∉ SH) := hng
            clear own hss hh hC hng hgP
            clear gg17 mm17 aa17 mc17 qV17 qX17 qZ17 qG17 V17 G17 HB17
            obtain ⟨kqH0, kqH1, kqH2⟩ := cells3 qH18
            obtain ⟨kqV0, kqV1, kqV2⟩ := cells3 qV18
            go_wp2_with fail
            refine (eqArr_cs (arrK.read H18.out) (arrK.read V18.out)).mono ?_
            rintro e w19 ⟨rfl, hb19⟩
            clear kqH0 kqH1 kqH2 kqV0 kqV1 kqV2
            have gg19 := keep_block hb19 gg18 (lt_of_block gg18)
            have mm19 := keep_block hb19 mm18 (lt_of_block mm18)
            have aa19 := keep_block hb19 aa18 (lt_of_block aa18)
            have mc19 := keep_block hb19 mc18 (lt_of_block mc18)
            have qV19 := keep_block hb19 qV18 (lt_of_block qV18)
            have qX19 := keep_block hb19 qX18 (lt_of_block qX18)
            have qZ19 := keep_block hb19 qZ18 (lt_of_block qZ18)
            have qG19 := keep_block hb19 qG18 (lt_of_block qG18)
            have qH19 := keep_block hb19 qH18 (lt_of_block qH18)
            have V19 : Hid (arrK.own w19 SV [.slice Va0 Vn0 Vc0, .slice Va1 Vn1 Vc1, .slice Va2 Vn2 Vc2] yy) := arrK.ownBelow V18.out hb19
            have G19 : Hid (arrK.own w19 SG [.slice Ga0 Gn0 Gc0, .slice Ga1 Gn1 Gc1, .slice Ga2 Gn2 Gc2] (aMk yy 1)) := arrK.ownBelow G18.out hb19
            have H19 : Hid (arrK.own w19 SH [.slice Ha0 Hn0 Hc0, .slice Ha1 Hn1 Hc1, .slice Ha2 Hn2 Hc2] yy) := arrK.ownBelow H18.out hb19
            have HB19 : Hid (Below w.heap.size w w19) := HB18.out.trans (hb19.mono HB18.out.size)
            clear gg18 mm18 aa18 mc18 qV18 qX18 qZ18 qG18 qH18 V18 G18 H18 HB18
            clear hb19
            obtain ⟨kqG0, kqG1, kqG2⟩ := cells3 qG19
            go_wp2_with fail
            refine (heldArr_w (arrK.read G19.out) HCYN.out ky HKY.out).mono ?_
            rintro e w20 ⟨rfl, hb20⟩
            clear kqG0 kqG1 kqG2
            have gg20 := keep_block hb20 gg19 (lt_of_block gg19)
            have mm20 := keep_block hb20 mm19 (lt_of_block mm19)
            have aa20 := keep_block hb20 aa19 (lt_of_block aa19)
            have mc20 := keep_block hb20 mc19 (lt_of_block mc19)
            have qV20 := keep_block hb20 qV19 (lt_of_block qV19)
            have qX20 := keep_block hb20 qX19 (lt_of_block qX19)
            have qZ20 := keep_block hb20 qZ19 (lt_of_block qZ19)
            have qG20 := keep_block hb20 qG19 (lt_of_block qG19)
            have qH20 := keep_block hb20 qH19 (lt_of_block qH19)
            have V20 : Hid (arrK.own w20 SV [.slice Va0 Vn0 Vc0, .slice Va1 Vn1 Vc1, .slice Va2 Vn2 Vc2] yy) := arrK.ownBelow V19.out hb20
            have G20 : Hid (arrK.own w20 SG [.slice Ga0 Gn0 Gc0, .slice Ga1 Gn1 Gc1, .slice Ga2 Gn2 Gc2] (aMk yy 1)) := arrK.ownBelow G19.out hb20
            have H20 : Hid (arrK.own w20 SH [.slice Ha0 Hn0 Hc0, .slice Ha1 Hn1 Hc1, .slice Ha2 Hn2 Hc2] yy) := arrK.ownBelow H19.out hb20
            have HB20 : Hid (Below w.heap.size w w20) := HB19.out.trans (hb20.mono HB19.out.size)
            clear gg19 mm19 aa19 mc19 qV19 qX19 qZ19 qG19 qH19 V19 G19 H19 HB19
            clear hb20
            go_wp2_with fail
            go_ret
            exact ⟨rfl, HB20.out⟩

end Go.Proofs.Ytfpfgaifhmgpiaa

namespace Go.Proofs.Ytfpfgaifhmgpiaa
open Go.RowKit Go.PlainAid

set_option linter.unusedVariables false

set_option maxHeartbeats 16000000 in
set_option maxRecDepth 100000 in
theorem implStoreCell_is : IStoreCell := by
  intro ga gb gr gd bx br bc cs x ka kn kc kl kp w h hf hk hkl
  obtain ⟨a0, n0, c0, a1, n1, c1, a2, n2, c2, rfl, h0, h1, h2⟩ := arr_rd h
  obtain ⟨w1, hw1⟩ : ∃ u, ((((w.alloc (.cells #[.int .i64 ga, .int .i64 gb, .int .i64 gr, .int .i64 gd] 25)).alloc (.cells #[.slice a0 n0 c0, .slice a1 n1 c1, .slice a2 n2 c2] 31)).alloc (.cells #[.int .i64 bx, .int .i64 br, .int .i64 bc] 37)).alloc (.cells #[.slice ka kn kc, .bool kp] 42)).alloc (.cells #[.slice none 0 0, .slice none 0 0, .slice none 0 0] 31) = u := ⟨_, rfl⟩
  obtain ⟨g1, p1, l1, m1', r1, hb1⟩ := alloc5 hw1
  obtain ⟨kl1, _, km, _⟩ := Kn.row_len hk
  unfold maxLen at km
  have kn' : (kn : Int) ≤ 9223372036854775807 := by omega
  have KL : Hid (kl.length = kn) := kl1
  have HK1 := Lib.hid (intsK.below hk hb1)
  have HB1 := Lib.hid hb1
  have HF := Lib.hid hf
  have H := Lib.hid h
  have H1 := Lib.hid (arrK.below h HB1.out)
  clear h hf h0 h1 h2 hk kl1
  obtain ⟨x0, x1, x2, x3⟩ := cells4 g1
  obtain ⟨y0, y1, y2⟩ := cells3 p1
  go_enter Try.func17, Try.ntmps17
  go_wp2_with fail
  refine (implCopyA_is H1.out HF.out).mono ?_
  rintro e w2 ⟨cs2, S2, rfl, own2, hS2, hb2⟩
  obtain ⟨d0, m0, k0, d1, m1, k1, d2, m2, k2, S0, S1', S2', rfl, rfl, -⟩ := arr_own own2
  obtain ⟨w3, hw3⟩ : ∃ u, w2.alloc (.cells #[.slice d0 m0 k0, .slice d1 m1 k1, .slice d2 m2 k2] 31) = u := ⟨_, rfl⟩
  have hb3 : Below w2.heap.size w2 w3 := by subst hw3; exact (Below.refl _ _).alloc (Nat.le_refl _) _
  have q3 : w3.heap[w2.heap.size]? = some (.cells #[.slice d0 m0 k0, .slice d1 m1 k1, .slice d2 m2 k2] 31) := by subst hw3; exact heap_alloc_new _ _
  have HO3 := Lib.hid (arrK.ownBelow own2 hb3)
  have HB2 : Hid (Below w.heap.size w w2) := HB1.out.trans (hb2.mono HB1.out.size)
  have HB3 : Hid (Below w.heap.size w w3) := HB2.out.trans (hb3.mono HB2.out.size)
  have H3 := Lib.hid (arrK.below (arrK.below H1.out hb2) hb3)
  have HK3 := Lib.hid (intsK.below (intsK.below HK1.out hb2) hb3)
  have m3 := keep_block hb3 (keep_block hb2 m1' (lt_of_block m1')) (Nat.lt_of_lt_of_le (lt_of_block m1') hb2.size)
  have hlt : ∀ b ∈ S0 ++ (S1' ++ S2'), b < w2.heap.size := fun b hb => arrK.lt own2 b hb
  have hge : ∀ b ∈ S0 ++ (S1' ++ S2'), w1.heap.size ≤ b := fun b hb => hS2 b hb
  generalize hU2 : S0 ++ (S1' ++ S2') = T2 at own2 hS2 HO3 hlt hge
  have HS2 : Hid (∀ b ∈ T2, w1.heap.size ≤ b) := hge
  have HNP : Hid (w2.heap.size ∉ T2) := fun hb => by have := hlt _ hb; omega
  have HNR : Hid (∀ b ∈ T2, b ≠ w.heap.size + 1 + 1 + 1 + 1) := fun b hb e => by have := hge b hb; have := lt_of_block r1; omega
  have HRR : Hid (w.heap.size ≤ w.heap.size + 1 + 1 + 1 + 1) := by show _ ≤ _; omega
  have HPR : Hid (w.heap.size + 1 + 1 + 1 + 1 ≠ w2.heap.size) := fun e => by have := lt_of_block r1; have := hb2.size; omega
  have HPW : Hid (w.heap.size ≤ w2.heap.size) := HB2.out.size
  have g3 := keep_block hb3 (keep_block hb2 g1 (lt_of_block g1)) (Nat.lt_of_lt_of_le (lt_of_block g1) hb2.size)
  have l3 := keep_block hb3 (keep_block hb2 l1 (lt_of_block l1)) (Nat.lt_of_lt_of_le (lt_of_block l1) hb2.size)
  have p3 := keep_block hb3 (keep_block hb2 p1 (lt_of_block p1)) (Nat.lt_of_lt_of_le (lt_of_block p1) hb2.size)
  have r3 := keep_block hb3 (keep_block hb2 r1 (lt_of_block r1)) (Nat.lt_of_lt_of_le (lt_of_block r1) hb2.size)
  clear own2 hS2 hb2 hb3 g1 l1 m1' p1 r1 x0 x1 x2 x3 y0 y1 y2 hlt hge hU2
  obtain ⟨x0, x1, x2, x3⟩ := cells4 g3
  obtain ⟨y0, y1, y2⟩ := cells3 p3
  obtain ⟨z0, z1, z2⟩ := cells3 q3
  go_wp2_with fail
  by_cases ha : ArrOk ga gb gr gd x
  case neg =>
    have KA := Lib.hid (decide_eq_false ha)
    have HE : Hid (storedF ga gb gr gd x bx br bc (kl, kp) = x) := if_neg (fun h => ha h.1)
    clear ha
    refine (implArrayOk_is ga gb gr gd _ _ false KA.out _ H3.out HF.out).mono ?_
    rintro e w4 ⟨rfl, hb4⟩
    have HBQ : Hid (Below w.heap.size w w4) := HB3.out.trans (hb4.mono HB3.out.size)
    have qq := keep_block hb4 q3 (lt_of_block q3)
    have rr := keep_block hb4 r3 (lt_of_block r3)
    have gg := keep_block hb4 g3 (lt_of_block g3)
    have ll := keep_block hb4 l3 (lt_of_block l3)
    have mm := keep_block hb4 m3 (lt_of_block m3)
    have HK4 := Lib.hid (intsK.below HK3.out hb4)
    have HO4 := Lib.hid (arrK.ownBelow HO3.out hb4)
    clear hb4 g3 l3 m3 p3 q3 r3 x0 x1 x2 x3 y0 y1 y2 z0 z1 z2
    obtain ⟨x0, x1, x2, x3⟩ := cells4 gg
    obtain ⟨y0, y1, y2⟩ := cells3 ll
    obtain ⟨v0, v1, v2⟩ := cells3 rr
    have f0 := thawed rr 0
    have f1 := thawed rr 1
    have f2 := thawed rr 2
    obtain ⟨u0, u1, u2⟩ := cells3 qq
    have o5 := set_cells (set_cells (set_cells rr 0 (.slice d0 m0 k0)) 1 (.slice d1 m1 k1)) 2 (.slice d2 m2 k2)
    obtain ⟨t0, t1, t2⟩ := cells3 o5
    go_wp2_with fail
    (try simp only [Exit.inBlock, Exit.then])
    refine bodyPost_ret (v := .agg #[.slice d0 m0 k0, .slice d1 m1 k1, .slice d2 m2 k2]) ?_ rfl ⟨_, T2, rfl, ?_, fun b hb => ?_, ?_⟩
    · simp [results, Try.results17, go_sem, t0, t1, t2]
    · rw [HE.out]
      exact arrK.ownSet (arrK.ownSet (arrK.ownSet HO4.out (fun b hb => HNR.out b hb) _) (fun b hb => HNR.out b hb) _) (fun b hb => HNR.out b hb) _
    · have := HS2.out b hb; have := HB1.out.size; omega
    · exact ((HBQ.out.setCell HRR.out _).setCell HRR.out _).setCell HRR.out _
  have KA := Lib.hid (decide_eq_true ha)
  by_cases hn : AdOk ga gb gr gd bx br bc
  case neg =>
    have KN := Lib.hid (decide_eq_false hn)
    have HE : Hid (storedF ga gb gr gd x bx br bc (kl, kp) = x) := if_neg (fun h => hn h.2.1)
    clear ha hn
    refine (implArrayOk_is ga gb gr gd _ _ true KA.out _ H3.out HF.out).mono ?_
    rintro e w4 ⟨rfl, hb4⟩
    have HBQ : Hid (Below w.heap.size w w4) := HB3.out.trans (hb4.mono HB3.out.size)
    have qq := keep_block hb4 q3 (lt_of_block q3)
    have rr := keep_block hb4 r3 (lt_of_block r3)
    have gg := keep_block hb4 g3 (lt_of_block g3)
    have ll := keep_block hb4 l3 (lt_of_block l3)
    have mm := keep_block hb4 m3 (lt_of_block m3)
    have HK4 := Lib.hid (intsK.below HK3.out hb4)
    have HO4 := Lib.hid (arrK.ownBelow HO3.out hb4)
    clear hb4 g3 l3 m3 p3 q3 r3 x0 x1 x2 x3 y0 y1 y2 z0 z1 z2
    obtain ⟨x0, x1, x2, x3⟩ := cells4 gg
    obtain ⟨y0, y1, y2⟩ := cells3 ll
    go_wp2_with fail
    refine (implAddrOk_is ga gb gr gd bx br bc false KN.out _).mono ?_
    rintro e w5 ⟨rfl, hb5⟩
    have HBR : Hid (Below w.heap.size w w5) := HBQ.out.trans (hb5.mono HBQ.out.size)
    have q5 := keep_block hb5 qq (lt_of_block qq)
    have r5 := keep_block hb5 rr (lt_of_block rr)
    have g5 := keep_block hb5 gg (lt_of_block gg)
    have l5 := keep_block hb5 ll (lt_of_block ll)
    have m5 := keep_block hb5 mm (lt_of_block mm)
    have HK5 := Lib.hid (intsK.below HK4.out hb5)
    have HO5 := Lib.hid (arrK.ownBelow HO4.out hb5)
    clear HBQ HO4 HK4 qq rr gg ll mm hb5 x0 x1 x2 x3 y0 y1 y2
    have HBQ := HBR
    have qq := q5
    have rr := r5
    have gg := g5
    have ll := l5
    have mm := m5
    clear HBR q5 r5 g5 l5 m5
    obtain ⟨c0', c1'⟩ := cells2 mm
    obtain ⟨v0, v1, v2⟩ := cells3 rr
    have f0 := thawed rr 0
    have f1 := thawed rr 1
    have f2 := thawed rr 2
    obtain ⟨u0, u1, u2⟩ := cells3 qq
    have o5 := set_cells (set_cells (set_cells rr 0 (.slice d0 m0 k0)) 1 (.slice d1 m1 k1)) 2 (.slice d2 m2 k2)
    obtain ⟨t0, t1, t2⟩ := cells3 o5
    go_wp2_with fail
    (try simp only [Exit.inBlock, Exit.then])
    refine bodyPost_ret (v := .agg #[.slice d0 m0 k0, .slice d1 m1 k1, .slice d2 m2 k2]) ?_ rfl ⟨_, T2, rfl, ?_, fun b hb => ?_, ?_⟩
    · simp [results, Try.results17, go_sem, t0, t1, t2]
    · rw [HE.out]
      exact arrK.ownSet (arrK.ownSet (arrK.ownSet HO5.out (fun b hb => HNR.out b hb) _) (fun b hb => HNR.out b hb) _) (fun b hb => HNR.out b hb) _
    · have := HS2.out b hb; have := HB1.out.size; omega
    · exact ((HBQ.out.setCell HRR.out _).setCell HRR.out _).setCell HRR.out _
  have KN := Lib.hid (decide_eq_true hn)
  by_cases hc : SymOk kl 11
  case neg =>
    have KC := Lib.hid (decide_eq_false hc)
    have HE : Hid (storedF ga gb gr gd x bx br bc (kl, kp) = x) := if_neg (fun h => hc h.2.2)
    clear ha hn hc
    refine (implArrayOk_is ga gb gr gd _ _ true KA.out _ H3.out HF.out).mono ?_
    rintro e w4 ⟨rfl, hb4⟩
    have HBQ : Hid (Below w.heap.size w w4) := HB3.out.trans (hb4.mono HB3.out.size)
    have qq := keep_block hb4 q3 (lt_of_block q3)
    have rr := keep_block hb4 r3 (lt_of_block r3)
    have gg := keep_block hb4 g3 (lt_of_block g3)
    have ll := keep_block hb4 l3 (lt_of_block l3)
    have mm := keep_block hb4 m3 (lt_of_block m3)
    have HK4 := Lib.hid (intsK.below HK3.out hb4)
    have HO4 := Lib.hid (arrK.ownBelow HO3.out hb4)
    clear hb4 g3 l3 m3 p3 q3 r3 x0 x1 x2 x3 y0 y1 y2 z0 z1 z2
    obtain ⟨x0, x1, x2, x3⟩ := cells4 gg
    obtain ⟨y0, y1, y2⟩ := cells3 ll
    go_wp2_with fail
    refine (implAddrOk_is ga gb gr gd bx br bc true KN.out _).mono ?_
    rintro e w5 ⟨rfl, hb5⟩
    have HBR : Hid (Below w.heap.size w w5) := HBQ.out.trans (hb5.mono HBQ.out.size)
    have q5 := keep_block hb5 qq (lt_of_block qq)
    have r5 := keep_block hb5 rr (lt_of_block rr)
    have g5 := keep_block hb5 gg (lt_of_block gg)
    have l5 := keep_block hb5 ll (lt_of_block ll)
    have m5 := keep_block hb5 mm (lt_of_block mm)
    have HK5 := Lib.hid (intsK.below HK4.out hb5)
    have HO5 := Lib.hid (arrK.ownBelow HO4.out hb5)
    clear HBQ HO4 HK4 qq rr gg ll mm hb5 x0 x1 x2 x3 y0 y1 y2
    have HBQ := HBR
    have qq := q5
    have rr := r5
    have gg := g5
    have ll := l5
    have mm := m5
    clear HBR q5 r5 g5 l5 m5
    obtain ⟨c0', c1'⟩ := cells2 mm
    go_wp2_with fail
    refine (implSym11_is HK5.out false KC.out).mono ?_
    rintro e w6 ⟨rfl, hb6⟩
    have HBR : Hid (Below w.heap.size w w6) := HBQ.out.trans (hb6.mono HBQ.out.size)
    have q6 := keep_block hb6 qq (lt_of_block qq)
    have r6 := keep_block hb6 rr (lt_of_block rr)
    have g6 := keep_block hb6 gg (lt_of_block gg)
    have l6 := keep_block hb6 ll (lt_of_block ll)
    have m6 := keep_block hb6 mm (lt_of_block mm)
    have HK6 := Lib.hid (intsK.below HK5.out hb6)
    have HO6 := Lib.hid (arrK.ownBelow HO5.out hb6)
    clear HBQ HO5 HK5 qq rr gg ll mm hb6 c0' c1'
    have HBQ := HBR
    have HO5 := HO6
    have HK5 := HK6
    have qq := q6
    have rr := r6
    have gg := g6
    have ll := l6
    have mm := m6
    clear HBR q6 r6 g6 l6 m6 HK6 HO6
    obtain ⟨v0, v1, v2⟩ := cells3 rr
    have f0 := thawed rr 0
    have f1 := thawed rr 1
    have f2 := thawed rr 2
    obtain ⟨u0, u1, u2⟩ := cells3 qq
    have o5 := set_cells (set_cells (set_cells rr 0 (.slice d0 m0 k0)) 1 (.slice d1 m1 k1)) 2 (.slice d2 m2 k2)
    obtain ⟨t0, t1, t2⟩ := cells3 o5
    go_wp2_with fail
    (try simp only [Exit.inBlock, Exit.then])
    refine bodyPost_ret (v := .agg #[.slice d0 m0 k0, .slice d1 m1 k1, .slice d2 m2 k2]) ?_ rfl ⟨_, T2, rfl, ?_, fun b hb => ?_, ?_⟩
    · simp [results, Try.results17, go_sem, t0, t1, t2]
    · rw [HE.out]
      exact arrK.ownSet (arrK.ownSet (arrK.ownSet HO5.out (fun b hb => HNR.out b hb) _) (fun b hb => HNR.out b hb) _) (fun b hb => HNR.out b hb) _
    · have := HS2.out b hb; have := HB1.out.size; omega
    · exact ((HBQ.out.setCell HRR.out _).setCell HRR.out _).setCell HRR.out _
  have KC := Lib.hid (decide_eq_true hc)
  obtain ⟨j, hj, hjl⟩ := cell_index ha hn
  have HE : Hid (storedF ga gb gr gd x bx br bc (kl, kp) = (x.1.set j (kl, kp), x.2)) := by
    show _ = _
    unfold storedF
    rw [if_pos ⟨ha, hn, hc⟩, hj]
    rfl
  have HJ := Lib.hid hj
  have HJL := Lib.hid hjl
  have hk11 : (kl.length : Int) = 11 := hc.2
  clear ha hn hc hj hjl
  refine (implArrayOk_is ga gb gr gd _ _ true KA.out _ H3.out HF.out).mono ?_
  rintro e w4 ⟨rfl, hb4⟩
  have HBQ : Hid (Below w.heap.size w w4) := HB3.out.trans (hb4.mono HB3.out.size)
  have qq := keep_block hb4 q3 (lt_of_block q3)
  have rr := keep_block hb4 r3 (lt_of_block r3)
  have gg := keep_block hb4 g3 (lt_of_block g3)
  have ll := keep_block hb4 l3 (lt_of_block l3)
  have mm := keep_block hb4 m3 (lt_of_block m3)
  have HK4 := Lib.hid (intsK.below HK3.out hb4)
  have HO4 := Lib.hid (arrK.ownBelow HO3.out hb4)
  clear hb4 g3 l3 m3 p3 q3 r3 x0 x1 x2 x3 y0 y1 y2 z0 z1 z2
  obtain ⟨x0, x1, x2, x3⟩ := cells4 gg
  obtain ⟨y0, y1, y2⟩ := cells3 ll
  go_wp2_with fail
  refine (implAddrOk_is ga gb gr gd bx br bc true KN.out _).mono ?_
  rintro e w5 ⟨rfl, hb5⟩
  have HBR : Hid (Below w.heap.size w w5) := HBQ.out.trans (hb5.mono HBQ.out.size)
  have q5 := keep_block hb5 qq (lt_of_block qq)
  have r5 := keep_block hb5 rr (lt_of_block rr)
  have g5 := keep_block hb5 gg (lt_of_block gg)
  have l5 := keep_block hb5 ll (lt_of_block ll)
  have m5 := keep_block hb5 mm (lt_of_block mm)
  have HK5 := Lib.hid (intsK.below HK4.out hb5)
  have HO5 := Lib.hid (arrK.ownBelow HO4.out hb5)
  clear HBQ HO4 HK4 qq rr gg ll mm hb5 x0 x1 x2 x3 y0 y1 y2
  have HBQ := HBR
  have qq := q5
  have rr := r5
  have gg := g5
  have ll := l5
  have mm := m5
  clear HBR q5 r5 g5 l5 m5
  obtain ⟨c0', c1'⟩ := cells2 mm
  go_wp2_with fail
  refine (implSym11_is HK5.out true KC.out).mono ?_
  rintro e w6 ⟨rfl, hb6⟩
  have HBR : Hid (Below w.heap.size w w6) := HBQ.out.trans (hb6.mono HBQ.out.size)
  have q6 := keep_block hb6 qq (lt_of_block qq)
  have r6 := keep_block hb6 rr (lt_of_block rr)
  have g6 := keep_block hb6 gg (lt_of_block gg)
  have l6 := keep_block hb6 ll (lt_of_block ll)
  have m6 := keep_block hb6 mm (lt_of_block mm)
  have HK6 := Lib.hid (intsK.below HK5.out hb6)
  have HO6 := Lib.hid (arrK.ownBelow HO5.out hb6)
  clear HBQ HO5 HK5 qq rr gg ll mm hb6 c0' c1'
  have HBQ := HBR
  have HO5 := HO6
  have HK5 := HK6
  have qq := q6
  have rr := r6
  have gg := g6
  have ll := l6
  have mm := m6
  clear HBR q6 r6 g6 l6 m6 HK6 HO6
  obtain ⟨gA, oA, nA, cA, _, _, eA, hjn, hnm, hgA, _, _, _, _⟩ := cell_put HO5.out HJL.out
  cases eA
  unfold maxLen at hnm
  go_wp2_with fail
  refine wp_region_float (A := ?A) [.h, .h, .h, .h, .t, .h, .t, .t, .e] (by kernel_rfl) (by kernel_rfl) (fun q => q.heap[w2.heap.size]? = some (.cells #[.slice (some ⟨gA, oA, none⟩) m0 k0, .slice d1 m1 k1, .slice d2 m2 k2] 31 (0, 0)) ∧ q.heap[w.heap.size]? = some (.cells #[.int .i64 ga, .int .i64 gb, .int .i64 gr, .int .i64 gd] 25 (0, 0)) ∧ q.heap[w.heap.size + 1 + 1]? = some (.cells #[.int .i64 bx, .int .i64 br, .int .i64 bc] 37 (0, 0)) ∧ q.heap[w.heap.size + 1 + 1 + 1]? = some (.cells #[.slice ka kn kc, .bool kp] 42 (0, 0))) ?hC ?hH ?hT
  case hC => exact ⟨qq, gg, ll, mm⟩
  case hH =>
    intro q hq
    obtain ⟨h0, h1, h2, h3⟩ := hq
    obtain ⟨p0, p1, p2⟩ := cells3 h0
    obtain ⟨x0, x1, x2, x3⟩ := cells4 h1
    obtain ⟨y0, y1, y2⟩ := cells3 h2
    obtain ⟨k0', k1'⟩ := cells2 h3
    have z0 := fun t : Same q => t.cell p0
    have z1 := fun t : Same q => t.cell x0
    have z2 := fun t : Same q => t.cell x1
    have z3 := fun t : Same q => t.cell x2
    have z4 := fun t : Same q => t.cell x3
    have z5 := fun t : Same q => t.cell y0
    have z6 := fun t : Same q => t.cell y1
    have z7 := fun t : Same q => t.cell y2
    have z8 := fun t : Same q => t.cell k0'
    have z9 := fun t : Same q => t.cell k1'
    simp only [headsOf]
    repeat (go_big_quiet_step (fail))
    refine wpQuiet_nil ?_
    exact rfl
  case hT =>
    simp only [chainT]
    have hdr : Below w6.heap.size w6 w6.drew := ⟨rfl, rfl, rfl, Nat.le_refl _, fun _ _ => rfl⟩
    have HOD : Hid (arrK.own w6.drew T2 _ x) := arrK.ownBelow HO5.out hdr
    have HKD : Hid (intsK.rd w6.drew [.slice ka kn kc] kl) := intsK.below HK5.out hdr
    have HBD : Hid (Below w.heap.size w w6.drew) := HBQ.out.trans (hdr.mono HBQ.out.size)
    have qd : w6.drew.heap[w2.heap.size]? = _ := qq
    have gd' : w6.drew.heap[w.heap.size]? = _ := gg
    have ld : w6.drew.heap[w.heap.size + 1 + 1]? = _ := ll
    have md : w6.drew.heap[w.heap.size + 1 + 1 + 1]? = _ := mm
    have rd : w6.drew.heap[w.heap.size + 1 + 1 + 1 + 1]? = _ := rr
    clear qq gg ll mm rr HO5 HK5 HBQ hdr
    generalize w6.drew = w6d at *
    go_wp2_with fail
    refine (implIndex_is ga gb gr gd bx br bc (j : Int) HJ.out _).mono ?_
    rintro e w7 ⟨rfl, hb7⟩
    have q7 := keep_block hb7 qd (lt_of_block qd)
    have g7 := keep_block hb7 gd' (lt_of_block gd')
    have l7 := keep_block hb7 ld (lt_of_block ld)
    have m7 := keep_block hb7 md (lt_of_block md)
    have r7 := keep_block hb7 rd (lt_of_block rd)
    have HO7 := Lib.hid (arrK.ownBelow HOD.out hb7)
    have HK7 := Lib.hid (intsK.below HKD.out hb7)
    have HB7 : Hid (Below w.heap.size w w7) := HBD.out.trans (hb7.mono HBD.out.size)
    clear HOD HKD HBD qd gd' ld md rd hb7
    go_wp2_with fail
    refine stepQ_normal ⟨⟨q7, g7, l7, m7⟩, ?_⟩
    go_wp2_with fail
    refine (implCell_k (p := kp) HK7.out (by omega)).mono ?_
    rintro e w8 ⟨cs8, T8, rfl, own8, hT8, hb8⟩
    obtain ⟨ya, yn, yc, rfl, hi8⟩ := cell_own own8
    have q8 := keep_block hb8 q7 (lt_of_block q7)
    have g8 := keep_block hb8 g7 (lt_of_block g7)
    have l8 := keep_block hb8 l7 (lt_of_block l7)
    have m8 := keep_block hb8 m7 (lt_of_block m7)
    have r8 := keep_block hb8 r7 (lt_of_block r7)
    have HO8 := Lib.hid (arrK.ownBelow HO7.out hb8)
    have HB8 : Hid (Below w.heap.size w w8) := HB7.out.trans (hb8.mono HB7.out.size)
    have hlt8 : ∀ b ∈ T2, b < w7.heap.size := fun b hb => arrK.lt HO7.out b hb
    obtain ⟨_, _, _, _, _, _, e8, _, _, _, ⟨o8, hc8⟩, ⟨o8', hc8'⟩, hf8, hput⟩ := cell_put HO8.out HJL.out
    cases e8
    obtain ⟨S9, hS9, own9⟩ := hput T8 ya yn yc (kl, kp) kp own8 (fun b hb hb' => by have := hT8 b hb; have := hlt8 b hb'; omega)
    have f80 := hf8 (oA + j * 2)
    have f81 := hf8 (oA + j * 2 + 1)
    obtain ⟨w9, hw9⟩ : ∃ q, (w8.setCell ⟨gA, oA + j * 2, none⟩ (.slice ya yn yc)).setCell ⟨gA, oA + j * 2 + 1, none⟩ (.bool kp) = q := ⟨_, rfl⟩
    rw [hw9] at own9
    have HO6 := Lib.hid own9
    have HB9 : Hid (Below w.heap.size w w9) := hw9 ▸ (HB8.out.setCell (by have := HS2.out gA hgA; have := HB1.out.size; show _ ≤ gA; omega) _).setCell (by have := HS2.out gA hgA; have := HB1.out.size; show _ ≤ gA; omega) _
    have q9 : w9.heap[w2.heap.size]? = _ := hw9 ▸ keep_set (keep_set q8 (fun e => HNP.out (e ▸ hgA))) (fun e => HNP.out (e ▸ hgA))
    have r9 : w9.heap[w.heap.size + 1 + 1 + 1 + 1]? = _ := hw9 ▸ keep_set (keep_set r8 (fun e => HNR.out gA hgA e.symm)) (fun e => HNR.out gA hgA e.symm)
    have HS9 : Hid (∀ b ∈ S9, w1.heap.size ≤ b) := fun b hb => by
      rcases hS9 b hb with h | h
      · exact HS2.out b h
      · have := hT8 b h; have := HS2.out gA hgA; have := hlt8 gA hgA; omega
    have HNR9 : Hid (∀ b ∈ S9, b ≠ w.heap.size + 1 + 1 + 1 + 1) := fun b hb => by
      rcases hS9 b hb with h | h
      · exact HNR.out b h
      · have := hT8 b h; have := lt_of_block r7; intro e; omega
    clear hi8 own8 hT8 hb8 hlt8 hput hf8 own9 hS9 HO7 HO8 HK7 HB7 HB8 q7 g7 l7 m7 r7
    go_wp2_with fail
    refine stepQ_normal ⟨⟨q8, g8, l8, m8⟩, ?_⟩
    go_wp2_with fail
    refine stepQ_normal ⟨⟨q8, g8, l8, m8⟩, ?_⟩
    go_wp2_with fail
    refine stepQ_normal ⟨trivial, ?_⟩
    have qq := q9
    have rr := r9
    have HBQ := HB9
    clear q8 g8 l8 m8 r8 q9 r9 hc8 hc8' f80 f81 HB9
    obtain ⟨v0, v1, v2⟩ := cells3 rr
    have f0 := thawed rr 0
    have f1 := thawed rr 1
    have f2 := thawed rr 2
    obtain ⟨u0, u1, u2⟩ := cells3 qq
    have o5 := set_cells (set_cells (set_cells rr 0 (.slice (some ⟨gA, oA, none⟩) m0 k0)) 1 (.slice d1 m1 k1)) 2 (.slice d2 m2 k2)
    obtain ⟨t0, t1, t2⟩ := cells3 o5
    go_wp2_with fail
    (try simp only [Exit.inBlock, Exit.then])
    refine bodyPost_ret (v := .agg #[.slice (some ⟨gA, oA, none⟩) m0 k0, .slice d1 m1 k1, .slice d2 m2 k2]) ?_ rfl ⟨_, S9, rfl, ?_, fun b hb => ?_, ?_⟩
    · simp [results, Try.results17, go_sem, t0, t1, t2]
    · rw [HE.out]
      exact arrK.ownSet (arrK.ownSet (arrK.ownSet HO6.out (fun b hb => HNR9.out b hb) _) (fun b hb => HNR9.out b hb) _) (fun b hb => HNR9.out b hb) _
    · have := HS9.out b hb; have := HB1.out.size; omega
    · exact ((HBQ.out.setCell HRR.out _).setCell HRR.out _).setCell HRR.out _

end Go.Proofs.Ytfpfgaifhmgpiaa

namespace Go.Proofs.Ytfpfgaifhmgpiaa
open Go.RowKit

set_option linter.unusedVariables false

theorem exStoreCell_walk (ea eb ec ed : Int) (lx : List Value) (bx br bc : Int) (lc : List Value) (w : World) (_ : (Lit.int .i64 ea).wf = true) (_ : (Lit.int .i64 eb).wf = true) (_ : (Lit.int .i64 ec).wf = true) (_ : (Lit.int .i64 ed).wf = true) (s : Sh.Fits w (.and (.row (.and (.row (.num .i64)) (.and .flag .fin))) (.and (.row (.num .i64)) (.and (.row (.num .i64)) .fin))) lx) (_ : (Lit.int .i64 bx).wf = true) (_ : (Lit.int .i64 br).wf = true) (_ : (Lit.int .i64 bc).wf = true) (sc : Sh.Fits w (.and (.row (.num .i64)) (.and .flag .fin)) lc) :
    Calls Try.prog 10 #[.agg #[.int .i64 ea, .int .i64 eb, .int .i64 ec, .int .i64 ed], .agg lx.toArray, .agg #[.int .i64 bx, .int .i64 br, .int .i64 bc], .agg lc.toArray] w fun e w' => e = .returned (.bool true) ∧ Below w.heap.size w w' := exStoreCell_of (Lib.hid implStoreCell_is) ea eb ec ed lx bx br bc lc w s sc

end Go.Proofs.Ytfpfgaifhmgpiaa
