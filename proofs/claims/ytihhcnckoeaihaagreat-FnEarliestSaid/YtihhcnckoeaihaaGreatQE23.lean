/-
  Texts of one proof, merged: TrcAa, TrcAb.
-/
import Derived.Test.YtihhcnckoeaihaaGreatQE16
import Derived.Test.YtihhcnckoeaihaaGreatQE17
import Derived.Test.YtihhcnckoeaihaaGreatQE19
import Derived.Test.YtihhcnckoeaihaaGreatQE21
import Derived.Test.YtihhcnckoeaihaaGreatQE22
namespace Go.Proofs.YtihhcnckoeaihaaGreat
open Go.RowKit Go.PlainAid

set_option linter.unusedVariables false

set_option maxHeartbeats 16000000 in
set_option maxRecDepth 100000 in
theorem fnTraces_walk (a0 : Option Addr) (len cap : Nat) (zs : List Int) (w : World) (hr : IsRow .u8 w a0 len cap zs) :
    Calls Tryz.prog 3 #[.slice a0 len cap] w fun e w' => e = .returned (.bool true) ∧ Below w.heap.size w w' := by
  have hl := hr.len_le
  unfold maxLen at hl
  by_cases hbig : (1048576 : Int) < (len : Int)
  · go_enter Tryz.func3, Tryz.ntmps3
    go_wp2_with (go_at_call 6; refine (big_any _ _ _ _ (by omega)).mono ?_; rintro e w' ⟨rfl, rfl⟩)
    go_ret
    exact ⟨rfl, Below.refl _ _⟩
  go_enter Tryz.func3, Tryz.ntmps3
  go_wp2_with (go_at_call 6; refine (big_any _ _ _ _ (by omega)).mono ?_; rintro e w' ⟨rfl, rfl⟩)
  refine (drawTrace_any hr).mono ?_
  rintro e w1 ⟨g0, B, g2, g3, t, N, a, cp, L, rfl, hok, hto, hN, hdr, hown, hb1⟩
  have HG : Hid (GeoOk g0 B g2 g3) := by
    obtain ⟨h1, h2, h4, h5⟩ := hok
    exact ⟨h1, h2, ⟨by omega, by omega⟩, ⟨by omega, by omega⟩⟩
  have HTO := Lib.hid hto
  have HNN := Lib.hid hN
  have HTR := Lib.hid hdr.ok
  have HLOW : Hid (∀ e ∈ L, e.t ≤ 4060) := fun e he => by have := hdr.low e he; omega
  have hfew := hdr.few
  have HNC := Lib.hid hown.nil
  have hcap := hown.cap
  obtain ⟨ln, hln⟩ : ∃ ln, L.length = ln := ⟨_, rfl⟩
  have HL := Lib.hid hln
  rw [hln] at hown hfew hcap ⊢
  have hN8 : N ≤ 8 := by have := bankN_range g0 B g2 g3; omega
  obtain ⟨w2, hw2⟩ : ∃ u, (w1.alloc (.cells #[.int .i64 0, .int .i64 0, .int .i64 0, .int .i64 0] 25)).alloc (.cells #[.int .i64 0, .int .i64 0, .int .i64 0, .int .i64 0, .int .i64 0, .int .i64 0, .int .i64 0, .int .i64 0, .int .i64 0, .int .i64 0, .int .i64 0, .int .i64 0, .int .i64 0, .int .i64 0, .int .i64 0, .int .i64 0, .int .i64 0] 27) = u := ⟨_, rfl⟩
  have hb2 : Below w1.heap.size w1 w2 := by subst hw2; exact ((Below.refl _ _).alloc (Nat.le_refl _) _).alloc (by simp) _
  have y2 : w2.heap[w1.heap.size]? = some (.cells #[.int .i64 0, .int .i64 0, .int .i64 0, .int .i64 0] 25) := by subst hw2; exact heap_alloc2_old _ _ _
  have z2 : w2.heap[w1.heap.size + 1]? = some (.cells #[.int .i64 0, .int .i64 0, .int .i64 0, .int .i64 0, .int .i64 0, .int .i64 0, .int .i64 0, .int .i64 0, .int .i64 0, .int .i64 0, .int .i64 0, .int .i64 0, .int .i64 0, .int .i64 0, .int .i64 0, .int .i64 0, .int .i64 0] 27) := by subst hw2; exact heap_alloc2_new _ _ _
  have z3 := (setRow_other w2 w1.heap.size (w1.heap.size + 1) #[.int .i64 g0, .int .i64 B, .int .i64 g2, .int .i64 g3] (by omega)).trans z2
  have y4 := (setRow_other (w2.setRow w1.heap.size #[.int .i64 g0, .int .i64 B, .int .i64 g2, .int .i64 g3]) (w1.heap.size + 1) w1.heap.size #[.int .i64 t.rcd, .int .i64 t.rp, .int .i64 t.ras, .int .i64 t.rrds, .int .i64 t.rrdl, .int .i64 t.faw, .int .i64 t.ccds, .int .i64 t.ccdl, .int .i64 t.rtp, .int .i64 t.wr, .int .i64 t.wtrs, .int .i64 t.wtrl, .int .i64 t.rtw, .int .i64 t.rfc, .int .i64 t.cke, .int .i64 t.xp, .int .i64 t.xs] (by omega)).trans (setRow_same _ _ #[.int .i64 g0, .int .i64 B, .int .i64 g2, .int .i64 g3] _ _ y2)
  have z4 := setRow_same _ _ #[.int .i64 t.rcd, .int .i64 t.rp, .int .i64 t.ras, .int .i64 t.rrds, .int .i64 t.rrdl, .int .i64 t.faw, .int .i64 t.ccds, .int .i64 t.ccdl, .int .i64 t.rtp, .int .i64 t.wr, .int .i64 t.wtrs, .int .i64 t.wtrl, .int .i64 t.rtw, .int .i64 t.rfc, .int .i64 t.cke, .int .i64 t.xp, .int .i64 t.xs] _ _ z3
  have HB4 : Hid (Below w.heap.size w ((w2.setRow w1.heap.size #[.int .i64 g0, .int .i64 B, .int .i64 g2, .int .i64 g3]).setRow (w1.heap.size + 1) #[.int .i64 t.rcd, .int .i64 t.rp, .int .i64 t.ras, .int .i64 t.rrds, .int .i64 t.rrdl, .int .i64 t.faw, .int .i64 t.ccds, .int .i64 t.ccdl, .int .i64 t.rtp, .int .i64 t.wr, .int .i64 t.wtrs, .int .i64 t.wtrl, .int .i64 t.rtw, .int .i64 t.rfc, .int .i64 t.cke, .int .i64 t.xp, .int .i64 t.xs])) := below_setRow (below_setRow (hb1.trans (hb2.mono hb1.size)) hb1.size _) (by have := hb1.size; omega) _
  have OWN4 : Hid (evK.Own 43 w.heap.size (.slice a ln cp) L ((w2.setRow w1.heap.size #[.int .i64 g0, .int .i64 B, .int .i64 g2, .int .i64 g3]).setRow (w1.heap.size + 1) #[.int .i64 t.rcd, .int .i64 t.rp, .int .i64 t.ras, .int .i64 t.rrds, .int .i64 t.rrdl, .int .i64 t.faw, .int .i64 t.ccds, .int .i64 t.ccdl, .int .i64 t.rtp, .int .i64 t.wr, .int .i64 t.wtrs, .int .i64 t.wtrl, .int .i64 t.rtw, .int .i64 t.rfc, .int .i64 t.cke, .int .i64 t.xp, .int .i64 t.xs])) := (hown.below hb2).frame (fun x hx => (setRow_other _ _ _ _ (by have := (hown.lo x hx).2; omega)).trans (setRow_other _ _ _ _ (by have := (hown.lo x hx).2; omega)))
  clear hok hto hN hdr hown hb1 hb2 hln z2
  go_wp2_with (first | ((with_reducible refine store_list (cells := #[.int .i64 g0, .int .i64 B, .int .i64 g2, .int .i64 g3]) y2 ?_ ?_ ?_ ?_ ?_ ?_); kernel_rfl; kernel_rfl; kernel_rfl; kernel_rfl; kernel_rfl) | ((with_reducible refine store_list (cells := #[.int .i64 t.rcd, .int .i64 t.rp, .int .i64 t.ras, .int .i64 t.rrds, .int .i64 t.rrdl, .int .i64 t.faw, .int .i64 t.ccds, .int .i64 t.ccdl, .int .i64 t.rtp, .int .i64 t.wr, .int .i64 t.wtrs, .int .i64 t.wtrl, .int .i64 t.rtw, .int .i64 t.rfc, .int .i64 t.cke, .int .i64 t.xp, .int .i64 t.xs]) z3 ?_ ?_ ?_ ?_ ?_ ?_); kernel_rfl; kernel_rfl; kernel_rfl; kernel_rfl; kernel_rfl))
  clear y2 z3 hw2
  generalize (w2.setRow w1.heap.size #[.int .i64 g0, .int .i64 B, .int .i64 g2, .int .i64 g3]).setRow (w1.heap.size + 1) #[.int .i64 t.rcd, .int .i64 t.rp, .int .i64 t.ras, .int .i64 t.rrds, .int .i64 t.rrdl, .int .i64 t.faw, .int .i64 t.ccds, .int .i64 t.ccdl, .int .i64 t.rtp, .int .i64 t.wr, .int .i64 t.wtrs, .int .i64 t.wtrl, .int .i64 t.rtw, .int .i64 t.rfc, .int .i64 t.cke, .int .i64 t.xp, .int .i64 t.xs] = w4 at y4 z4 HB4 OWN4 ⊢
  obtain ⟨G, hG⟩ : ∃ G, w1.heap.size = G := ⟨_, rfl⟩
  rw [hG] at y4 z4
  (try simp only [hG])
  clear hG
  refine (drawPlaces_any (hr.below (fun x hx hc => hr.lt hx hc) HB4.out)).mono ?_
  rintro e w5 ⟨gp, c2, pl, rfl, hl12, hp, hpo, hb5⟩
  obtain ⟨p, hc0, p00, p01⟩ := place_at hpo hl12 hp 0 (by omega)
  have y5 := keep_block hb5 y4 (lt_of_block y4)
  have z5 := keep_block hb5 z4 (lt_of_block z4)
  have HB5 : Hid (Below w.heap.size w w5) := HB4.out.trans (hb5.mono HB4.out.size)
  have HR5 : Hid (evK.Row w5 a L) := OWN4.out.row.below hb5
  obtain ⟨nn, hnn⟩ : ∃ nn, p % ((ln : Int) + 1) = nn := ⟨_, rfl⟩
  have n0 : 0 ≤ nn := by rw [← hnn]; exact Int.emod_nonneg _ (by omega)
  have n1 : nn < (ln : Int) + 1 := by rw [← hnn]; exact Int.emod_lt_of_pos _ (by omega)
  have tm : p.tmod ((ln : Int) + 1) = nn := by rw [Int.tmod_eq_emod_of_nonneg p00, hnn]
  obtain ⟨m, rfl⟩ := Int.eq_ofNat_of_zero_le n0
  have hm : m ≤ ln := by omega
  have hmc : m ≤ cp := by omega
  have w1' : IntKind.i64.wrap ((ln : Int) + 1) = (ln : Int) + 1 := IntWalk.i64_in _ (by omega)
  have w2' : IntKind.i64.wrap (m : Int) = (m : Int) := IntWalk.i64_in _ (by omega)
  have hne : ¬ ((ln : Int) + 1 = 0) := by omega
  have ad0 : ∀ x : Addr, x.add 0 = x := fun _ => rfl
  have HPT := Lib.hid (HTR.out.take m)
  have PLEN : Hid ((L.take m).length = m) := by show _ = _; rw [List.length_take, HL.out]; omega
  have HV0 : Hid (traceF g0 B g2 g3 t N (L.take m) = (0, -1)) := by
    show _ = _
    unfold traceF
    rw [if_pos ⟨HG.out, HTO.out, by rw [PLEN.out]; omega⟩]
    exact fstF_none HPT.out
  obtain ⟨v0, hv0⟩ : ∃ v0, traceF g0 B g2 g3 t N (L.take m) = v0 := ⟨_, rfl⟩
  have HVA := Lib.hid hv0
  have ta : (v0.1 == 0) = true := by rw [← hv0, HV0.out]; rfl
  have tb : (v0.2 == -1) = true := by rw [← hv0, HV0.out]; rfl
  clear hb5 hpo hl12 hp y4 z4 HB4 OWN4 hnn n0 n1 hv0
  go_wp2_with fail
  refine wp_region_flowV (fun k => match k with | 0 => some (.agg #[.int .i64 g0, .int .i64 B, .int .i64 g2, .int .i64 g3]) | 1 => some (.agg #[.int .i64 t.rcd, .int .i64 t.rp, .int .i64 t.ras, .int .i64 t.rrds, .int .i64 t.rrdl, .int .i64 t.faw, .int .i64 t.ccds, .int .i64 t.ccdl, .int .i64 t.rtp, .int .i64 t.wr, .int .i64 t.wtrs, .int .i64 t.wtrl, .int .i64 t.rtw, .int .i64 t.rfc, .int .i64 t.cke, .int .i64 t.xp, .int .i64 t.xs]) | 2 => some (.slice a ln cp) | 3 => some (.int .i64 (m : Int)) | 4 => some (.slice a m cp) | 5 => some (.tuple #[.int .i64 v0.1, .int .i64 v0.2]) | 6 => some (.tuple #[.int .i64 v0.1, .int .i64 v0.2]) | 7 => some (.int .i64 v0.1) | 8 => some (.int .i64 v0.2) | 9 => some (.int .i64 v0.1) | 10 => some (.int .i64 v0.2) | _ => none) (fun listed x u => Aft 99 99 listed) (fun _ => undef) (by kernel_rfl) (by kernel_rfl) ?hxA ?hSA ?hsA ?heA
  case hxA => simp only [putsX, Act.put, List.setIfInBounds_toArray, List.set_cons_zero, List.set_cons_succ]
  case hSA => exact Aft.zero _ _ _
  case hsA =>
    simp only [flowSteps]
    refine ⟨?sA_0, ?sA_1, ?sA_2, ?sA_3, ?sA_4, ?sA_5, ?sA_6, ?sA_7, ?sA_8, ?sA_9, ?sA_10, trivial⟩
    case sA_0 =>
      intro listed bb u hsz hn hwt hinv
      obtain ⟨x, rfl, hC, hU, hZ⟩ := hinv
      simp only [putsX, Act.put, List.setIfInBounds_toArray, List.set_cons_zero, List.set_cons_succ]
      obtain ⟨c0, c1, c2, c3⟩ := cells4 (keep_block hC y5 (lt_of_block y5))
      go_wp2_with fail
      refine stepQ_normal ⟨trivial, upd x 0 (.agg #[.int .i64 g0, .int .i64 B, .int .i64 g2, .int .i64 g3]), ?_, hC, hU.step (fun _ h => Option.some.inj h), hZ.keep (by decide)⟩
      simp only [upd]
      rfl
    case sA_1 =>
      intro listed bb u hsz hn hwt hinv
      obtain ⟨x, rfl, hC, hU, hZ⟩ := hinv
      simp only [putsX, Act.put, List.setIfInBounds_toArray, List.set_cons_zero, List.set_cons_succ]
      go_wp2_with ((with_reducible refine ld_tm ?_ ?_ (keep_block hC z5 (lt_of_block z5)) ?_); kernel_rfl; kernel_rfl; go_simp)
      refine stepQ_normal ⟨trivial, upd x 1 (.agg #[.int .i64 t.rcd, .int .i64 t.rp, .int .i64 t.ras, .int .i64 t.rrds, .int .i64 t.rrdl, .int .i64 t.faw, .int .i64 t.ccds, .int .i64 t.ccdl, .int .i64 t.rtp, .int .i64 t.wr, .int .i64 t.wtrs, .int .i64 t.wtrl, .int .i64 t.rtw, .int .i64 t.rfc, .int .i64 t.cke, .int .i64 t.xp, .int .i64 t.xs]), ?_, hC, hU.step (fun _ h => Option.some.inj h), hZ.keep (by decide)⟩
      simp only [upd]
      rfl
    case sA_2 =>
      intro listed bb u hsz hn hwt hinv
      obtain ⟨x, rfl, hC, hU, hZ⟩ := hinv
      simp only [putsX, Act.put, List.setIfInBounds_toArray, List.set_cons_zero, List.set_cons_succ]
      go_wp2_with fail
      refine stepQ_normal ⟨trivial, upd x 2 (.slice a ln cp), ?_, hC, hU.step (fun _ h => Option.some.inj h), hZ.keep (by decide)⟩
      simp only [upd]
      rfl
    case sA_3 =>
      intro listed bb u hsz hn hwt hinv
      obtain ⟨x, rfl, hC, hU, hZ⟩ := hinv
      simp only [putsX, Act.put, List.setIfInBounds_toArray, List.set_cons_zero, List.set_cons_succ]
      go_wp2_with fail
      refine stepQ_normal ⟨trivial, upd x 3 (.int .i64 (m : Int)), ?_, hC, hU.step (fun _ h => Option.some.inj h), hZ.keep (by decide)⟩
      simp only [upd]
      rfl
    case sA_4 =>
      intro listed bb u hsz hn hwt hinv
      obtain ⟨x, rfl, hC, hU, hZ⟩ := hinv
      have f2 := Lib.hid (hU 2 _ rfl (hwt 2 (by kernel_rfl)))
      have f3 := Lib.hid (hU 3 _ rfl (hwt 3 (by kernel_rfl)))
      simp only [putsX, Act.put, List.setIfInBounds_toArray, List.set_cons_zero, List.set_cons_succ]
      rw [f2.out]
      rw [f3.out]
      go_wp2_with fail
      refine stepQ_normal ⟨trivial, upd x 4 (.slice a m cp), ?_, hC, hU.step (fun _ h => Option.some.inj h), hZ.keep (by decide)⟩
      simp only [upd]
      simp only [f2.out, f3.out]
      (try rfl)
    case sA_5 =>
      intro listed bb u hsz hn hwt hinv
      obtain ⟨x, rfl, hC, hU, hZ⟩ := hinv
      have f0 := Lib.hid (hU 0 _ rfl (hwt 0 (by kernel_rfl)))
      have f1 := Lib.hid (hU 1 _ rfl (hwt 1 (by kernel_rfl)))
      have f4 := Lib.hid (hU 4 _ rfl (hwt 4 (by kernel_rfl)))
      simp only [putsX, Act.put, List.setIfInBounds_toArray, List.set_cons_zero, List.set_cons_succ]
      have hcall : Calls Tryz.prog 9 #[x 0, x 1, x 4] u (Gives2 v0 u) := by rw [f0.out, f1.out, f4.out]; exact implFault_is t g0 B g2 g3 a m cp (L.take m) N HNN.out v0 HVA.out PLEN.out (by omega) hmc HNC.out u ((HR5.out.take m).below hC)
      go_wp2_with fail
      refine hcall.mono ?_
      rintro e' u' ⟨rfl, hb⟩
      go_wp2_with fail
      refine stepQ_normal ⟨trivial, upd x 5 (.tuple #[.int .i64 v0.1, .int .i64 v0.2]), ?_, hC.trans (hb.mono hC.size), hU.step (fun _ h => Option.some.inj h), hZ.keep (by decide)⟩
      simp only [upd]
      rfl
    case sA_6 =>
      intro listed bb u hsz hn hwt hinv
      obtain ⟨x, rfl, hC, hU, hZ⟩ := hinv
      have f5 := Lib.hid (hU 5 _ rfl (hwt 5 (by kernel_rfl)))
      simp only [putsX, Act.put, List.setIfInBounds_toArray, List.set_cons_zero, List.set_cons_succ]
      rw [f5.out]
      go_wp2_with fail
      refine stepQ_normal ⟨trivial, upd x 6 (.tuple #[.int .i64 v0.1, .int .i64 v0.2]), ?_, hC, hU.step (fun _ h => Option.some.inj h), hZ.keep (by decide)⟩
      simp only [upd]
      simp only [f5.out]
      (try rfl)
    case sA_7 =>
      intro listed bb u hsz hn hwt hinv
      obtain ⟨x, rfl, hC, hU, hZ⟩ := hinv
      have f6 := Lib.hid (hU 6 _ rfl (hwt 6 (by kernel_rfl)))
      simp only [putsX, Act.put, List.setIfInBounds_toArray, List.set_cons_zero, List.set_cons_succ]
      rw [f6.out]
      go_wp2_with fail
      refine stepQ_normal ⟨trivial, upd x 7 (.int .i64 v0.1), ?_, hC, hU.step (fun _ h => Option.some.inj h), hZ.keep (by decide)⟩
      simp only [upd]
      simp only [f6.out]
      (try rfl)
    case sA_8 =>
      intro listed bb u hsz hn hwt hinv
      obtain ⟨x, rfl, hC, hU, hZ⟩ := hinv
      have f6 := Lib.hid (hU 6 _ rfl (hwt 6 (by kernel_rfl)))
      simp only [putsX, Act.put, List.setIfInBounds_toArray, List.set_cons_zero, List.set_cons_succ]
      rw [f6.out]
      go_wp2_with fail
      refine stepQ_normal ⟨trivial, upd x 8 (.int .i64 v0.2), ?_, hC, hU.step (fun _ h => Option.some.inj h), hZ.keep (by decide)⟩
      simp only [upd]
      simp only [f6.out]
      (try rfl)
    case sA_9 =>
      intro listed bb u hsz hn hwt hinv
      obtain ⟨x, rfl, hC, hU, hZ⟩ := hinv
      have f7 := Lib.hid (hU 7 _ rfl (hwt 7 (by kernel_rfl)))
      simp only [putsX, Act.put, List.setIfInBounds_toArray, List.set_cons_zero, List.set_cons_succ]
      rw [f7.out]
      go_wp2_with fail
      refine stepQ_normal ⟨trivial, upd x 9 (.int .i64 v0.1), ?_, hC, hU.step (fun _ h => Option.some.inj h), hZ.keep (by decide)⟩
      simp only [upd]
      simp only [f7.out]
      (try rfl)
    case sA_10 =>
      intro listed bb u hsz hn hwt hinv
      obtain ⟨x, rfl, hC, hU, hZ⟩ := hinv
      have f8 := Lib.hid (hU 8 _ rfl (hwt 8 (by kernel_rfl)))
      simp only [putsX, Act.put, List.setIfInBounds_toArray, List.set_cons_zero, List.set_cons_succ]
      rw [f8.out]
      go_wp2_with fail
      refine stepQ_normal ⟨trivial, upd x 10 (.int .i64 v0.2), ?_, hC, hU.step (fun _ h => Option.some.inj h), hZ.keep (by decide)⟩
      simp only [upd]
      simp only [f8.out]
      (try rfl)
  case heA =>
    intro listed q u hall hC hU hS
    have fq9 := hU 9 _ rfl (hall 9 (by decide))
    have fq10 := hU 10 _ rfl (hall 10 (by decide))
    simp only [putsX, Act.put, List.setIfInBounds_toArray, List.set_cons_zero, List.set_cons_succ]
    rw [fq9, fq10]
    clear hall hU hS fq9 fq10
    generalize q 0 = _q0, q 1 = _q1, q 2 = _q2, q 3 = _q3, q 4 = _q4, q 5 = _q5, q 6 = _q6, q 7 = _q7, q 8 = _q8
    have y6 := keep_block hC y5 (lt_of_block y5)
    have z6 := keep_block hC z5 (lt_of_block z5)
    have HB6 : Hid (Below w.heap.size w u) := HB5.out.trans (hC.mono HB5.out.size)
    have HR6 := Lib.hid (HR5.out.below hC)
    obtain ⟨hrk, hend⟩ := st_ok HG.out HNN.out HPT.out
    have HRK := Lib.hid hrk
    obtain ⟨l', hl'⟩ : ∃ l', EndL g0 B g2 g3 N (L.take m) = l' := ⟨_, rfl⟩
    obtain ⟨pw', hp'⟩ : ∃ pw', EndP g0 B g2 g3 N (L.take m) = pw' := ⟨_, rfl⟩
    have el : l' = stL N (L.take m) := by rw [← hl']; exact if_pos hend
    have ep : pw' = stP (L.take m) := by rw [← hp']; exact if_pos hend
    have HLN : Hid (l'.length = N) := by show _ = _; rw [el, stL_length]
    have HLL := Lib.hid hl'
    have HPP := Lib.hid hp'
    have HVE : Hid ((endOk g0 B g2 g3 N (L.take m) && decide (GeoOk g0 B g2 g3)) = true) := by show _ = _; rw [hend, decide_eq_true HG.out]; rfl
    have HROK : Hid (decide (RkOk g0 B g2 g3 l' pw') = true) := by show _ = _; rw [el, ep]; exact decide_eq_true HRK.out
    clear hC y5 z5 HB5 HR5 hrk hend hl' hp' el ep
    generalize u = w6 at y6 z6 HB6 HR6 ⊢
    go_wp2_with fail
    refine wp_region_flowV (fun k => match k with | 0 => some (.agg #[.int .i64 g0, .int .i64 B, .int .i64 g2, .int .i64 g3]) | 1 => some (.slice a ln cp) | 2 => some (.int .i64 (m : Int)) | 3 => some (.slice a m cp) | 7 => some (.bool true) | 10 => some (.bool true) | _ => none) (fun listed x u => FactW 4 5 (fun q u => ∃ ab cb, q = .tuple #[.agg #[.slice ab N cb, .int .i64 pw'], .bool true] ∧ OwnK (w6.heap.size) (.slice ab N cb) l' u) listed x u ∧ FactW 5 6 (fun q u => ∃ ab cb, q = .tuple #[.agg #[.slice ab N cb, .int .i64 pw'], .bool true] ∧ OwnK (w6.heap.size) (.slice ab N cb) l' u) listed x u ∧ Fact 5 (fun q => ∃ (ab : Option Addr) (cb : Nat), q = .tuple #[.agg #[.slice ab N cb, .int .i64 pw'], .bool true]) listed x ∧ FactW 6 9 (fun q u => ∃ ab cb, q = .agg #[.slice ab N cb, .int .i64 pw'] ∧ OwnK (w6.heap.size) (.slice ab N cb) l' u) listed x u ∧ MadeR 8 9 (w6.heap.size) N l' pw' listed x u) (fun _ => undef) (by kernel_rfl) (by kernel_rfl) ?hxB ?hSB ?hsB ?heB
    case hxB => simp only [putsX, Act.put, List.setIfInBounds_toArray, List.set_cons_zero, List.set_cons_succ]
    case hSB => exact ⟨FactW.zero _ _ _ _ _ _, FactW.zero _ _ _ _ _ _, Fact.zero _ _ _ _, FactW.zero _ _ _ _ _ _, MadeR.zero _ _ _ _ _ _ _ _ _⟩
    case hsB =>
      simp only [flowSteps]
      refine ⟨?sB_0, ?sB_1, ?sB_2, ?sB_3, ?sB_4, ?sB_5, ?sB_6, ?sB_7, ?sB_8, ?sB_9, ?sB_10, trivial⟩
      case sB_0 =>
        intro listed bb u hsz hn hwt hinv
        obtain ⟨x, rfl, hC, hU, h4, h5, p5, h6, hM⟩ := hinv
        simp only [putsX, Act.put, List.setIfInBounds_toArray, List.set_cons_zero, List.set_cons_succ]
        obtain ⟨c0, c1, c2, c3⟩ := cells4 (keep_block hC y6 (lt_of_block y6))
        go_wp2_with fail
        refine stepQ_normal ⟨trivial, upd x 0 (.agg #[.int .i64 g0, .int .i64 B, .int .i64 g2, .int .i64 g3]), ?_, hC, hU.step (fun _ h => Option.some.inj h), h4.keep (by decide) (by decide) _ id, h5.keep (by decide) (by decide) _ id, p5.keep (by decide) _, h6.keep (by decide) (by decide) _ id, hM.keep (by decide) (by decide) _ (Below.refl _ _)⟩
        simp only [upd]
        rfl
      case sB_1 =>
        intro listed bb u hsz hn hwt hinv
        obtain ⟨x, rfl, hC, hU, h4, h5, p5, h6, hM⟩ := hinv
        simp only [putsX, Act.put, List.setIfInBounds_toArray, List.set_cons_zero, List.set_cons_succ]
        go_wp2_with fail
        refine stepQ_normal ⟨trivial, upd x 1 (.slice a ln cp), ?_, hC, hU.step (fun _ h => Option.some.inj h), h4.keep (by decide) (by decide) _ id, h5.keep (by decide) (by decide) _ id, p5.keep (by decide) _, h6.keep (by decide) (by decide) _ id, hM.keep (by decide) (by decide) _ (Below.refl _ _)⟩
        simp only [upd]
        rfl
      case sB_2 =>
        intro listed bb u hsz hn hwt hinv
        obtain ⟨x, rfl, hC, hU, h4, h5, p5, h6, hM⟩ := hinv
        simp only [putsX, Act.put, List.setIfInBounds_toArray, List.set_cons_zero, List.set_cons_succ]
        go_wp2_with fail
        refine stepQ_normal ⟨trivial, upd x 2 (.int .i64 (m : Int)), ?_, hC, hU.step (fun _ h => Option.some.inj h), h4.keep (by decide) (by decide) _ id, h5.keep (by decide) (by decide) _ id, p5.keep (by decide) _, h6.keep (by decide) (by decide) _ id, hM.keep (by decide) (by decide) _ (Below.refl _ _)⟩
        simp only [upd]
        rfl
      case sB_3 =>
        intro listed bb u hsz hn hwt hinv
        obtain ⟨x, rfl, hC, hU, h4, h5, p5, h6, hM⟩ := hinv
        have f1 := Lib.hid (hU 1 _ rfl (hwt 1 (by kernel_rfl)))
        have f2 := Lib.hid (hU 2 _ rfl (hwt 2 (by kernel_rfl)))
        simp only [putsX, Act.put, List.setIfInBounds_toArray, List.set_cons_zero, List.set_cons_succ]
        rw [f1.out]
        rw [f2.out]
        go_wp2_with fail
        refine stepQ_normal ⟨trivial, upd x 3 (.slice a m cp), ?_, hC, hU.step (fun _ h => Option.some.inj h), h4.keep (by decide) (by decide) _ id, h5.keep (by decide) (by decide) _ id, p5.keep (by decide) _, h6.keep (by decide) (by decide) _ id, hM.keep (by decide) (by decide) _ (Below.refl _ _)⟩
        simp only [upd]
        simp only [f1.out, f2.out]
        (try rfl)
      case sB_4 =>
        intro listed bb u hsz hn hwt hinv
        obtain ⟨x, rfl, hC, hU, h4, h5, p5, h6, hM⟩ := hinv
        have f0 := Lib.hid (hU 0 _ rfl (hwt 0 (by kernel_rfl)))
        have f3 := Lib.hid (hU 3 _ rfl (hwt 3 (by kernel_rfl)))
        simp only [putsX, Act.put, List.setIfInBounds_toArray, List.set_cons_zero, List.set_cons_succ]
        have hcall : Calls Tryz.prog 10 #[x 0, x 3] u (GivesA N l' pw' true u) := by rw [f0.out, f3.out]; exact implEnd_is g0 B g2 g3 a m cp (L.take m) N HNN.out N l' pw' true HLN.out HLL.out HPP.out HVE.out PLEN.out (by omega) hmc HNC.out u ((HR6.out.take m).below hC)
        go_wp2_with fail
        refine hcall.mono ?_
        rintro e' u' ⟨ab, cb, rfl, own, hb⟩
        go_wp2_with fail
        refine stepQ_normal ⟨trivial, upd x 4 (.tuple #[.agg #[.slice ab N cb, .int .i64 pw'], .bool true]), ?_, hC.trans (hb.mono hC.size), hU.step (fun _ h => by cases h), FactW.new ⟨ab, cb, rfl, own.mono hC.size⟩, h5.keep (by decide) (by decide) _ (fun ⟨b1, b2, b3, b4⟩ => ⟨b1, b2, b3, b4.below (hb)⟩), p5.keep (by decide) _, h6.keep (by decide) (by decide) _ (fun ⟨b1, b2, b3, b4⟩ => ⟨b1, b2, b3, b4.below (hb)⟩), hM.keep (by decide) (by decide) _ (hb)⟩
        simp only [upd]
        rfl
      case sB_5 =>
        intro listed bb u hsz hn hwt hinv
        obtain ⟨x, rfl, hC, hU, h4, h5, p5, h6, hM⟩ := hinv
        simp only [putsX, Act.put, List.setIfInBounds_toArray, List.set_cons_zero, List.set_cons_succ]
        obtain ⟨ab, cb, fp, hown⟩ := h4 (hwt 4 (by kernel_rfl)) hn
        go_wp2_with fail
        refine stepQ_normal ⟨trivial, upd x 5 (x 4), ?_, hC, hU.step (fun _ h => by cases h), FactW.call (by rw [hsz]; decide), FactW.new ⟨ab, cb, fp, hown⟩, Fact.new ⟨ab, cb, fp⟩, h6.keep (by decide) (by decide) _ id, hM.keep (by decide) (by decide) _ (Below.refl _ _)⟩
        simp only [upd]
        rfl
      case sB_6 =>
        intro listed bb u hsz hn hwt hinv
        obtain ⟨x, rfl, hC, hU, h4, h5, p5, h6, hM⟩ := hinv
        simp only [putsX, Act.put, List.setIfInBounds_toArray, List.set_cons_zero, List.set_cons_succ]
        obtain ⟨ab, cb, fp, hown⟩ := h5 (hwt 5 (by kernel_rfl)) hn
        have FP := Lib.hid fp
        rw [FP.out]
        clear fp
        go_wp2_with fail
        refine stepQ_normal ⟨trivial, upd x 6 (.agg #[.slice ab N cb, .int .i64 pw']), ?_, hC, hU.step (fun _ h => by cases h), h4.keep (by decide) (by decide) _ id, FactW.call (by rw [hsz]; decide), p5.keep (by decide) _, FactW.new ⟨ab, cb, rfl, hown⟩, hM.keep (by decide) (by decide) _ (Below.refl _ _)⟩
        simp only [upd]
        simp only [FP.out]
        (try rfl)
      case sB_7 =>
        intro listed bb u hsz hn hwt hinv
        obtain ⟨x, rfl, hC, hU, h4, h5, p5, h6, hM⟩ := hinv
        simp only [putsX, Act.put, List.setIfInBounds_toArray, List.set_cons_zero, List.set_cons_succ]
        obtain ⟨ab, cb, fp⟩ := p5 (hwt 5 (by kernel_rfl))
        have FP := Lib.hid fp
        rw [FP.out]
        clear fp
        go_wp2_with fail
        refine stepQ_normal ⟨trivial, upd x 7 (.bool true), ?_, hC, hU.step (fun _ h => Option.some.inj h), h4.keep (by decide) (by decide) _ id, h5.keep (by decide) (by decide) _ id, p5.keep (by decide) _, h6.keep (by decide) (by decide) _ id, hM.keep (by decide) (by decide) _ (Below.refl _ _)⟩
        simp only [upd]
        simp only [FP.out]
        (try rfl)
      case sB_8 =>
        intro listed bb u hsz hn hwt hinv
        obtain ⟨x, rfl, hC, hU, h4, h5, p5, h6, hM⟩ := hinv
        simp only [putsX, Act.put, List.setIfInBounds_toArray, List.set_cons_zero, List.set_cons_succ]
        go_wp2_with fail
        refine stepQ_normal ⟨trivial, upd x 8 (.pointer (some ⟨u.heap.size, 0, none⟩)), ?_, hC.alloc hC.size _, hU.step (fun _ h => by cases h), h4.keep (by decide) (by decide) _ (fun ⟨b1, b2, b3, b4⟩ => ⟨b1, b2, b3, b4.below (below_allocT _)⟩), h5.keep (by decide) (by decide) _ (fun ⟨b1, b2, b3, b4⟩ => ⟨b1, b2, b3, b4.below (below_allocT _)⟩), p5.keep (by decide) _, h6.keep (by decide) (by decide) _ (fun ⟨b1, b2, b3, b4⟩ => ⟨b1, b2, b3, b4.below (below_allocT _)⟩), hM.new (by decide) hn hC.size⟩
        simp only [upd]
        rfl
      case sB_9 =>
        intro listed bb u hsz hn hwt hinv
        obtain ⟨x, rfl, hC, hU, h4, h5, p5, h6, hM⟩ := hinv
        simp only [putsX, Act.put, List.setIfInBounds_toArray, List.set_cons_zero, List.set_cons_succ]
        obtain ⟨g, fg, hg, hh⟩ := hM.there (hwt 8 (by kernel_rfl)) hn
        obtain ⟨ab, cb, fp, hown⟩ := h6 (hwt 6 (by kernel_rfl)) hn
        have FG := Lib.hid fg
        have FP := Lib.hid fp
        rw [FG.out, FP.out]
        obtain ⟨y0, y1⟩ := cells2 hh
        have t0 := thawed hh 0
        have t1 := thawed hh 1
        have hne := hown.apart hh
        have hfin := set_cells (set_cells hh 0 (.slice ab N cb)) 1 (.int .i64 pw')
        have hown2 := (hown.setCell (p := ⟨g, 0, none⟩) hne (.slice ab N cb)).setCell (p := ⟨g, 1, none⟩) hne (.int .i64 pw')
        clear hh fg fp hown hne
        go_wp2_with fail
        refine stepQ_normal ⟨trivial, upd x 9 undef, ?_, (hC.setCell (by exact hg) _).setCell (by exact hg) _, hU.step (fun _ h => by cases h), FactW.gone (hwt 5 (by kernel_rfl)), FactW.gone (hwt 6 (by kernel_rfl)), p5.keep (by decide) _, FactW.call (by rw [hsz]; decide), MadeR.fill (by decide) (hwt 8 (by kernel_rfl)) (by rw [hsz]; decide) FG.out hg hfin hown2⟩
        simp only [upd]
        simp only [FG.out, FP.out]
        (try rfl)
      case sB_10 =>
        intro listed bb u hsz hn hwt hinv
        obtain ⟨x, rfl, hC, hU, h4, h5, p5, h6, hM⟩ := hinv
        have f7 := Lib.hid (hU 7 _ rfl (hwt 7 (by kernel_rfl)))
        simp only [putsX, Act.put, List.setIfInBounds_toArray, List.set_cons_zero, List.set_cons_succ]
        rw [f7.out]
        go_wp2_with fail
        refine stepQ_normal ⟨trivial, upd x 10 (.bool true), ?_, hC, hU.step (fun _ h => Option.some.inj h), h4.keep (by decide) (by decide) _ id, h5.keep (by decide) (by decide) _ id, p5.keep (by decide) _, h6.keep (by decide) (by decide) _ id, hM.keep (by decide) (by decide) _ (Below.refl _ _)⟩
        simp only [upd]
        simp only [f7.out]
        (try rfl)
    case heB =>
      intro listed q u hall hC hU hS
      obtain ⟨h4, h5, p5, h6, hM⟩ := hS
      obtain ⟨sP, ab, cb, fg, hg, hh, hown⟩ := hM.full (hall 8 (by decide)) (hall 9 (by decide))
      have fb := hU 10 _ rfl (hall 10 (by decide))
      simp only [putsX, Act.put, List.setIfInBounds_toArray, List.set_cons_zero, List.set_cons_succ]
      rw [fg, fb]
      clear hall hU h4 h5 p5 h6 hM fg fb
      generalize q 0 = _q0, q 1 = _q1, q 2 = _q2, q 3 = _q3, q 4 = _q4, q 5 = _q5, q 6 = _q6, q 7 = _q7
      have y7 := keep_block hC y6 (lt_of_block y6)
      have z7 := keep_block hC z6 (lt_of_block z6)
      have HB7 : Hid (Below w.heap.size w u) := HB6.out.trans (hC.mono HB6.out.size)
      have HR7 := Lib.hid (HR6.out.below hC)
      have HOK7 := Lib.hid hown
      have HV1 : Hid (traceF g0 B g2 g3 t N (L.take m ++ [⟨-1, 0, 0, 0, 0⟩]) = (1, (m : Int))) := by
        show _ = _
        unfold traceF
        have hf : evF g0 B g2 g3 t N (L.take m) ⟨-1, 0, 0, 0, 0⟩ = 1 := evF_form (fun h => by have := h.2.1.1; simp only at this; omega)
        rw [if_pos ⟨HG.out, HTO.out, by rw [List.length_append, PLEN.out]; simp; omega⟩, HPT.out.snoc, hf, PLEN.out]
        rfl
      obtain ⟨v, hv⟩ : ∃ v, traceF g0 B g2 g3 t N (L.take m ++ [⟨-1, 0, 0, 0, 0⟩]) = v := ⟨_, rfl⟩
      have HV := Lib.hid hv
      have tc : (v.1 == 1) = true := by rw [← hv, HV1.out]; rfl
      have td : (v.2 == (m : Int)) = true := by rw [← hv, HV1.out]; simp
      have LEN : Hid ((L.take m ++ [(⟨-1, 0, 0, 0, 0⟩ : Ev)]).length = m + 1) := by show _ = _; rw [List.length_append, PLEN.out]; rfl
      clear hC y6 z6 HB6 HR6 hown hg hv
      generalize u = w7 at y7 z7 hh HB7 HR7 HOK7 ⊢
      go_wp2_with fail
      refine wp_region_flowV (fun k => match k with | 0 => some (.agg #[.int .i64 g0, .int .i64 B, .int .i64 g2, .int .i64 g3]) | 1 => some (.agg #[.int .i64 t.rcd, .int .i64 t.rp, .int .i64 t.ras, .int .i64 t.rrds, .int .i64 t.rrdl, .int .i64 t.faw, .int .i64 t.ccds, .int .i64 t.ccdl, .int .i64 t.rtp, .int .i64 t.wr, .int .i64 t.wtrs, .int .i64 t.wtrl, .int .i64 t.rtw, .int .i64 t.rfc, .int .i64 t.cke, .int .i64 t.xp, .int .i64 t.xs]) | 3 => some (.slice a ln cp) | 4 => some (.int .i64 (m : Int)) | 5 => some (.slice a m cp) | 7 => some (.agg #[.int .i64 (-1), .int .i64 0, .int .i64 0, .int .i64 0, .int .i64 0]) | 10 => some (.tuple #[.int .i64 v.1, .int .i64 v.2]) | 11 => some (.tuple #[.int .i64 v.1, .int .i64 v.2]) | 12 => some (.int .i64 v.1) | 13 => some (.int .i64 v.2) | 14 => some (.int .i64 v.1) | 15 => some (.int .i64 v.2) | _ => none) (fun listed x u => FactW 2 6 (fun q u => ∃ bn, q = .slice (some ⟨bn, 0, none⟩) 0 0 ∧ evK.Own 43 (w7.heap.size) (.slice (some ⟨bn, 0, none⟩) 0 0) [] u) listed x u ∧ FactW 6 9 (fun q u => ∃ ab cb, q = .slice ab m cb ∧ evK.Own 43 (w7.heap.size) (.slice ab m cb) (L.take m) u) listed x u ∧ FactW 8 9 (fun q u => ∃ bn, q = .slice (some ⟨bn, 0, none⟩) 1 1 ∧ u.heap[bn]? = some (.cells #[.int .i64 (-1), .int .i64 0, .int .i64 0, .int .i64 0, .int .i64 0] 43)) listed x u ∧ FactW 9 10 (fun q u => ∃ ab cb, q = .slice ab (m + 1) cb ∧ evK.Own 43 (w7.heap.size) (.slice ab (m + 1) cb) (L.take m ++ [(⟨-1, 0, 0, 0, 0⟩ : Ev)]) u) listed x u ∧ Aft 6 2 listed ∧ Aft 9 6 listed ∧ Apart 2 8 6 listed x) (fun _ => undef) (by kernel_rfl) (by kernel_rfl) ?hxC ?hSC ?hsC ?heC
      case hxC => simp only [putsX, Act.put, List.setIfInBounds_toArray, List.set_cons_zero, List.set_cons_succ]
      case hSC => exact ⟨FactW.zero _ _ _ _ _ _, FactW.zero _ _ _ _ _ _, FactW.zero _ _ _ _ _ _, FactW.zero _ _ _ _ _ _, Aft.zero _ _ _, Aft.zero _ _ _, Apart.zero _ _ _ _ _⟩
      case hsC =>
        simp only [flowSteps]
        refine ⟨?sC_0, ?sC_1, ?sC_2, ?sC_3, ?sC_4, ?sC_5, ?sC_6, ?sC_7, ?sC_8, ?sC_9, ?sC_10, ?sC_11, ?sC_12, ?sC_13, ?sC_14, ?sC_15, trivial⟩
        case sC_0 =>
          intro listed bb u hsz hn hwt hinv
          obtain ⟨x, rfl, hC, hU, h2, h6, h8, h9, hA62, hA96, hAp⟩ := hinv
          simp only [putsX, Act.put, List.setIfInBounds_toArray, List.set_cons_zero, List.set_cons_succ]
          obtain ⟨c0, c1, c2, c3⟩ := cells4 (keep_block hC y7 (lt_of_block y7))
          go_wp2_with fail
          refine stepQ_normal ⟨trivial, upd x 0 (.agg #[.int .i64 g0, .int .i64 B, .int .i64 g2, .int .i64 g3]), ?_, hC, hU.step (fun _ h => Option.some.inj h), h2.keep (by decide) (by decide) _ id, h6.keep (by decide) (by decide) _ id, h8.keep (by decide) (by decide) _ id, h9.keep (by decide) (by decide) _ id, hA62.keep (by decide), hA96.keep (by decide), hAp.keep (by decide) (by decide) (by decide) _⟩
          simp only [upd]
          rfl
        case sC_1 =>
          intro listed bb u hsz hn hwt hinv
          obtain ⟨x, rfl, hC, hU, h2, h6, h8, h9, hA62, hA96, hAp⟩ := hinv
          simp only [putsX, Act.put, List.setIfInBounds_toArray, List.set_cons_zero, List.set_cons_succ]
          go_wp2_with ((with_reducible refine ld_tm ?_ ?_ (keep_block hC z7 (lt_of_block z7)) ?_); kernel_rfl; kernel_rfl; go_simp)
          refine stepQ_normal ⟨trivial, upd x 1 (.agg #[.int .i64 t.rcd, .int .i64 t.rp, .int .i64 t.ras, .int .i64 t.rrds, .int .i64 t.rrdl, .int .i64 t.faw, .int .i64 t.ccds, .int .i64 t.ccdl, .int .i64 t.rtp, .int .i64 t.wr, .int .i64 t.wtrs, .int .i64 t.wtrl, .int .i64 t.rtw, .int .i64 t.rfc, .int .i64 t.cke, .int .i64 t.xp, .int .i64 t.xs]), ?_, hC, hU.step (fun _ h => Option.some.inj h), h2.keep (by decide) (by decide) _ id, h6.keep (by decide) (by decide) _ id, h8.keep (by decide) (by decide) _ id, h9.keep (by decide) (by decide) _ id, hA62.keep (by decide), hA96.keep (by decide), hAp.keep (by decide) (by decide) (by decide) _⟩
          simp only [upd]
          rfl
        case sC_2 =>
          intro listed bb u hsz hn hwt hinv
          obtain ⟨x, rfl, hC, hU, h2, h6, h8, h9, hA62, hA96, hAp⟩ := hinv
          simp only [putsX, Act.put, List.setIfInBounds_toArray, List.set_cons_zero, List.set_cons_succ]
          have not9 : listed.getD 9 false = false := hA96.no (hA62.no hn)
          have NEW : listed.getD 8 false = true → ∀ (b : Addr) (n' c' : Nat), x 8 = .slice (some b) n' c' → u.heap.size ≠ b.block := fun h8l b n' c' hx => by
            obtain ⟨bn, e1, e2⟩ := h8 h8l not9
            rw [e1] at hx
            cases hx
            have := lt_of_block e2
            show u.heap.size ≠ bn
            omega
          go_wp2_with fail
          refine stepQ_normal ⟨trivial, upd x 2 (.slice (some ⟨u.heap.size, 0, none⟩) 0 0), ?_, hC.alloc hC.size _, hU.step (fun _ h => by cases h), FactW.new ⟨_, rfl, World.ownsRow_made (base := w7.heap.size) (e := 43) (size := 5) u #[] 0 hC.size (by decide) rfl⟩, h6.keep (by decide) (by decide) _ (fun ⟨b1, b2, b3, b4⟩ => ⟨b1, b2, b3, b4.below (below_allocT _)⟩), h8.keep (by decide) (by decide) _ (fun ⟨b1, b2, b3⟩ => ⟨b1, b2, keep_block (below_allocT _) b3 (lt_of_block b3)⟩), h9.keep (by decide) (by decide) _ (fun ⟨b1, b2, b3, b4⟩ => ⟨b1, b2, b3, b4.below (below_allocT _)⟩), hA62.keep (by decide), hA96.keep (by decide), Apart.newi (by decide) (by decide) (fun h8l _ a' b' n' m' c' d' e1 e2 => by cases e1; exact NEW h8l b' m' d' e2)⟩
          simp only [upd]
          rfl
        case sC_3 =>
          intro listed bb u hsz hn hwt hinv
          obtain ⟨x, rfl, hC, hU, h2, h6, h8, h9, hA62, hA96, hAp⟩ := hinv
          simp only [putsX, Act.put, List.setIfInBounds_toArray, List.set_cons_zero, List.set_cons_succ]
          go_wp2_with fail
          refine stepQ_normal ⟨trivial, upd x 3 (.slice a ln cp), ?_, hC, hU.step (fun _ h => Option.some.inj h), h2.keep (by decide) (by decide) _ id, h6.keep (by decide) (by decide) _ id, h8.keep (by decide) (by decide) _ id, h9.keep (by decide) (by decide) _ id, hA62.keep (by decide), hA96.keep (by decide), hAp.keep (by decide) (by decide) (by decide) _⟩
          simp only [upd]
          rfl
        case sC_4 =>
          intro listed bb u hsz hn hwt hinv
          obtain ⟨x, rfl, hC, hU, h2, h6, h8, h9, hA62, hA96, hAp⟩ := hinv
          simp only [putsX, Act.put, List.setIfInBounds_toArray, List.set_cons_zero, List.set_cons_succ]
          go_wp2_with fail
          refine stepQ_normal ⟨trivial, upd x 4 (.int .i64 (m : Int)), ?_, hC, hU.step (fun _ h => Option.some.inj h), h2.keep (by decide) (by decide) _ id, h6.keep (by decide) (by decide) _ id, h8.keep (by decide) (by decide) _ id, h9.keep (by decide) (by decide) _ id, hA62.keep (by decide), hA96.keep (by decide), hAp.keep (by decide) (by decide) (by decide) _⟩
          simp only [upd]
          rfl
        case sC_5 =>
          intro listed bb u hsz hn hwt hinv
          obtain ⟨x, rfl, hC, hU, h2, h6, h8, h9, hA62, hA96, hAp⟩ := hinv
          have f3 := Lib.hid (hU 3 _ rfl (hwt 3 (by kernel_rfl)))
          have f4 := Lib.hid (hU 4 _ rfl (hwt 4 (by kernel_rfl)))
          simp only [putsX, Act.put, List.setIfInBounds_toArray, List.set_cons_zero, List.set_cons_succ]
          rw [f3.out]
          rw [f4.out]
          go_wp2_with fail
          refine stepQ_normal ⟨trivial, upd x 5 (.slice a m cp), ?_, hC, hU.step (fun _ h => Option.some.inj h), h2.keep (by decide) (by decide) _ id, h6.keep (by decide) (by decide) _ id, h8.keep (by decide) (by decide) _ id, h9.keep (by decide) (by decide) _ id, hA62.keep (by decide), hA96.keep (by decide), hAp.keep (by decide) (by decide) (by decide) _⟩
          simp only [upd]
          simp only [f3.out, f4.out]
          (try rfl)
        case sC_6 =>
          intro listed bb u hsz hn hwt hinv
          obtain ⟨x, rfl, hC, hU, h2, h6, h8, h9, hA62, hA96, hAp⟩ := hinv
          have f5 := Lib.hid (hU 5 _ rfl (hwt 5 (by kernel_rfl)))
          simp only [putsX, Act.put, List.setIfInBounds_toArray, List.set_cons_zero, List.set_cons_succ]
          rw [f5.out]
          obtain ⟨b2, fp, hown⟩ := h2 (hwt 2 (by kernel_rfl)) hn
          have not9 := hA96.no hn
          have FP := Lib.hid fp
          rw [FP.out]
          have hCs := hC.size
          have HLO := Lib.hid (hown.lo _ rfl)
          clear fp
          go_wp2_with (at_builtin; refine append_ev rfl _ _ rfl (w7.heap.size) _ 0 [] rfl hown rfl a m cp (L.take m) rfl PLEN.out HNC.out hmc ((HR7.out.take m).below hC) (by omega) hCs ?_)
          intro v' u' O2 hgrow
          try rw [List.nil_append] at O2
          obtain ⟨ad, cd, hv'⟩ := O2.shape
          rw [PLEN.out] at hv'
          subst hv'
          have hC' := hC.grown hgrow hCs (fun j hj => by have := Option.some.inj hj; have h : w7.heap.size ≤ b2 := HLO.out.1; have h2 : b2 = j := this; omega)
          have K8 : listed.getD 8 false = true → (∃ bn, x 8 = .slice (some ⟨bn, 0, none⟩) 1 1 ∧ u.heap[bn]? = some (.cells #[.int .i64 (-1), .int .i64 0, .int .i64 0, .int .i64 0, .int .i64 0] 43)) → ∃ bn, x 8 = .slice (some ⟨bn, 0, none⟩) 1 1 ∧ u'.heap[bn]? = some (.cells #[.int .i64 (-1), .int .i64 0, .int .i64 0, .int .i64 0, .int .i64 0] 43) := fun h8l ⟨bn, e1, e2⟩ =>
            ⟨bn, e1, (hgrow.block bn (lt_of_block e2) (fun e => hAp (hwt 2 (by kernel_rfl)) h8l hn ⟨b2, 0, none⟩ ⟨bn, 0, none⟩ 0 1 0 1 FP.out e1 (Option.some.inj e).symm)).trans e2⟩
          clear hown
          go_wp2_with fail
          refine stepQ_normal ⟨trivial, upd x 6 (.slice ad m cd), ?_, hC', hU.step (fun _ h => by cases h), FactW.call (by rw [hsz]; decide), FactW.new ⟨ad, cd, rfl, O2⟩, h8.keepL (by decide) (by decide) _ K8, FactW.no not9 (by decide) _, Aft.new (hwt 2 (by kernel_rfl)), hA96.keep (by decide), Apart.call (by rw [hsz]; decide)⟩
          simp only [upd]
          simp only [f5.out, FP.out]
          (try rfl)
        case sC_7 =>
          intro listed bb u hsz hn hwt hinv
          obtain ⟨x, rfl, hC, hU, h2, h6, h8, h9, hA62, hA96, hAp⟩ := hinv
          simp only [putsX, Act.put, List.setIfInBounds_toArray, List.set_cons_zero, List.set_cons_succ]
          go_wp2_with fail
          refine stepQ_normal ⟨trivial, upd x 7 (.agg #[.int .i64 (-1), .int .i64 0, .int .i64 0, .int .i64 0, .int .i64 0]), ?_, hC, hU.step (fun _ h => Option.some.inj h), h2.keep (by decide) (by decide) _ id, h6.keep (by decide) (by decide) _ id, h8.keep (by decide) (by decide) _ id, h9.keep (by decide) (by decide) _ id, hA62.keep (by decide), hA96.keep (by decide), hAp.keep (by decide) (by decide) (by decide) _⟩
          simp only [upd]
          rfl
        case sC_8 =>
          intro listed bb u hsz hn hwt hinv
          obtain ⟨x, rfl, hC, hU, h2, h6, h8, h9, hA62, hA96, hAp⟩ := hinv
          have f7 := Lib.hid (hU 7 _ rfl (hwt 7 (by kernel_rfl)))
          simp only [putsX, Act.put, List.setIfInBounds_toArray, List.set_cons_zero, List.set_cons_succ]
          rw [f7.out]
          have NEW : listed.getD 2 false = true → listed.getD 6 false = false → ∀ (b : Addr) (n' c' : Nat), x 2 = .slice (some b) n' c' → b.block ≠ u.heap.size := fun h2l h6l b n' c' hx => by
            obtain ⟨bn, e1, e2⟩ := h2 h2l h6l
            rw [e1] at hx
            cases hx
            have h : bn < u.heap.size := (e2.lo _ rfl).2
            show bn ≠ u.heap.size
            omega
          go_wp2_with fail
          refine stepQ_normal ⟨trivial, upd x 8 (.slice (some ⟨u.heap.size, 0, none⟩) 1 1), ?_, hC.alloc hC.size _, hU.step (fun _ h => by cases h), h2.keep (by decide) (by decide) _ (fun ⟨b1, b2, b3⟩ => ⟨b1, b2, b3.below (below_allocT _)⟩), h6.keep (by decide) (by decide) _ (fun ⟨b1, b2, b3, b4⟩ => ⟨b1, b2, b3, b4.below (below_allocT _)⟩), FactW.new ⟨_, rfl, heap_alloc_new _ _⟩, h9.keep (by decide) (by decide) _ (fun ⟨b1, b2, b3, b4⟩ => ⟨b1, b2, b3, b4.below (below_allocT _)⟩), hA62.keep (by decide), hA96.keep (by decide), Apart.newj (by decide) (by decide) (fun h2l h6l a' b' n' m' c' d' e1 e2 => by cases e2; exact NEW h2l h6l a' n' c' e1)⟩
          simp only [upd]
          simp only [f7.out]
          (try rfl)
        case sC_9 =>
          intro listed bb u hsz hn hwt hinv
          obtain ⟨x, rfl, hC, hU, h2, h6, h8, h9, hA62, hA96, hAp⟩ := hinv
          simp only [putsX, Act.put, List.setIfInBounds_toArray, List.set_cons_zero, List.set_cons_succ]
          obtain ⟨ab, cb, fp, hown⟩ := h6 (hwt 6 (by kernel_rfl)) hn
          obtain ⟨bn, fb, hbn⟩ := h8 (hwt 8 (by kernel_rfl)) hn
          have FP := Lib.hid fp
          have FB := Lib.hid fb
          rw [FP.out, FB.out]
          have hCs := hC.size
          have HLO := Lib.hid hown.lo
          clear fp fb
          go_wp2_with (at_builtin; refine append_ev rfl _ _ rfl (w7.heap.size) _ (m) (L.take m) rfl hown PLEN.out (some ⟨bn, 0, none⟩) 1 1 [(⟨-1, 0, 0, 0, 0⟩ : Ev)] rfl rfl (fun h => by cases h) (by omega) (one_ev (e := (⟨-1, 0, 0, 0, 0⟩ : Ev)) hbn) (by omega) hCs ?_)
          intro v' u' O2 hgrow
          obtain ⟨ad, cd, hv'⟩ := O2.shape
          rw [List.length_append, PLEN.out, List.length_singleton] at hv'
          subst hv'
          have hC' := hC.grown hgrow hCs (fun j hj => by obtain ⟨y', hy, hyj⟩ := slice_own hj; have := (HLO.out y' hy).1; omega)
          clear hown hbn
          go_wp2_with fail
          refine stepQ_normal ⟨trivial, upd x 9 (.slice ad (m + 1) cd), ?_, hC', hU.step (fun _ h => by cases h), FactW.gone (hwt 6 (by kernel_rfl)), FactW.call (by rw [hsz]; decide), FactW.call (by rw [hsz]; decide), FactW.new ⟨ad, cd, rfl, O2⟩, hA62.keep (by decide), Aft.new (hwt 6 (by kernel_rfl)), Apart.gone (hwt 6 (by kernel_rfl))⟩
          simp only [upd]
          simp only [FP.out, FB.out]
          (try rfl)
        case sC_10 =>
          intro listed bb u hsz hn hwt hinv
          obtain ⟨x, rfl, hC, hU, h2, h6, h8, h9, hA62, hA96, hAp⟩ := hinv
          have f0 := Lib.hid (hU 0 _ rfl (hwt 0 (by kernel_rfl)))
          have f1 := Lib.hid (hU 1 _ rfl (hwt 1 (by kernel_rfl)))
          simp only [putsX, Act.put, List.setIfInBounds_toArray, List.set_cons_zero, List.set_cons_succ]
          obtain ⟨ab, cb, fp, hown⟩ := h9 (hwt 9 (by kernel_rfl)) hn
          have hcall : Calls Tryz.prog 9 #[x 0, x 1, x 9] u (Gives2 v u) := by rw [fp, f0.out, f1.out]; exact implFault_is t g0 B g2 g3 ab (m + 1) cb (L.take m ++ [(⟨-1, 0, 0, 0, 0⟩ : Ev)]) N HNN.out v HV.out LEN.out (by omega) hown.cap.1 hown.nil u hown.row
          clear fp
          go_wp2_with fail
          refine hcall.mono ?_
          rintro e' u' ⟨rfl, hb⟩
          go_wp2_with fail
          refine stepQ_normal ⟨trivial, upd x 10 (.tuple #[.int .i64 v.1, .int .i64 v.2]), ?_, hC.trans (hb.mono hC.size), hU.step (fun _ h => Option.some.inj h), h2.keep (by decide) (by decide) _ (fun ⟨b1, b2, b3⟩ => ⟨b1, b2, b3.below (hb)⟩), h6.keep (by decide) (by decide) _ (fun ⟨b1, b2, b3, b4⟩ => ⟨b1, b2, b3, b4.below (hb)⟩), h8.keep (by decide) (by decide) _ (fun ⟨b1, b2, b3⟩ => ⟨b1, b2, keep_block (hb) b3 (lt_of_block b3)⟩), FactW.call (by rw [hsz]; decide), hA62.keep (by decide), hA96.keep (by decide), hAp.keep (by decide) (by decide) (by decide) _⟩
          simp only [upd]
          rfl
        case sC_11 =>
          intro listed bb u hsz hn hwt hinv
          obtain ⟨x, rfl, hC, hU, h2, h6, h8, h9, hA62, hA96, hAp⟩ := hinv
          have f10 := Lib.hid (hU 10 _ rfl (hwt 10 (by kernel_rfl)))
          simp only [putsX, Act.put, List.setIfInBounds_toArray, List.set_cons_zero, List.set_cons_succ]
          rw [f10.out]
          go_wp2_with fail
          refine stepQ_normal ⟨trivial, upd x 11 (.tuple #[.int .i64 v.1, .int .i64 v.2]), ?_, hC, hU.step (fun _ h => Option.some.inj h), h2.keep (by decide) (by decide) _ id, h6.keep (by decide) (by decide) _ id, h8.keep (by decide) (by decide) _ id, h9.keep (by decide) (by decide) _ id, hA62.keep (by decide), hA96.keep (by decide), hAp.keep (by decide) (by decide) (by decide) _⟩
          simp only [upd]
          simp only [f10.out]
          (try rfl)
        case sC_12 =>
          intro listed bb u hsz hn hwt hinv
          obtain ⟨x, rfl, hC, hU, h2, h6, h8, h9, hA62, hA96, hAp⟩ := hinv
          have f11 := Lib.hid (hU 11 _ rfl (hwt 11 (by kernel_rfl)))
          simp only [putsX, Act.put, List.setIfInBounds_toArray, List.set_cons_zero, List.set_cons_succ]
          rw [f11.out]
          go_wp2_with fail
          refine stepQ_normal ⟨trivial, upd x 12 (.int .i64 v.1), ?_, hC, hU.step (fun _ h => Option.some.inj h), h2.keep (by decide) (by decide) _ id, h6.keep (by decide) (by decide) _ id, h8.keep (by decide) (by decide) _ id, h9.keep (by decide) (by decide) _ id, hA62.keep (by decide), hA96.keep (by decide), hAp.keep (by decide) (by decide) (by decide) _⟩
          simp only [upd]
          simp only [f11.out]
          (try rfl)
        case sC_13 =>
          intro listed bb u hsz hn hwt hinv
          obtain ⟨x, rfl, hC, hU, h2, h6, h8, h9, hA62, hA96, hAp⟩ := hinv
          have f11 := Lib.hid (hU 11 _ rfl (hwt 11 (by kernel_rfl)))
          simp only [putsX, Act.put, List.setIfInBounds_toArray, List.set_cons_zero, List.set_cons_succ]
          rw [f11.out]
          go_wp2_with fail
          refine stepQ_normal ⟨trivial, upd x 13 (.int .i64 v.2), ?_, hC, hU.step (fun _ h => Option.some.inj h), h2.keep (by decide) (by decide) _ id, h6.keep (by decide) (by decide) _ id, h8.keep (by decide) (by decide) _ id, h9.keep (by decide) (by decide) _ id, hA62.keep (by decide), hA96.keep (by decide), hAp.keep (by decide) (by decide) (by decide) _⟩
          simp only [upd]
          simp only [f11.out]
          (try rfl)
        case sC_14 =>
          intro listed bb u hsz hn hwt hinv
          obtain ⟨x, rfl, hC, hU, h2, h6, h8, h9, hA62, hA96, hAp⟩ := hinv
          have f12 := Lib.hid (hU 12 _ rfl (hwt 12 (by kernel_rfl)))
          simp only [putsX, Act.put, List.setIfInBounds_toArray, List.set_cons_zero, List.set_cons_succ]
          rw [f12.out]
          go_wp2_with fail
          refine stepQ_normal ⟨trivial, upd x 14 (.int .i64 v.1), ?_, hC, hU.step (fun _ h => Option.some.inj h), h2.keep (by decide) (by decide) _ id, h6.keep (by decide) (by decide) _ id, h8.keep (by decide) (by decide) _ id, h9.keep (by decide) (by decide) _ id, hA62.keep (by decide), hA96.keep (by decide), hAp.keep (by decide) (by decide) (by decide) _⟩
          simp only [upd]
          simp only [f12.out]
          (try rfl)
        case sC_15 =>
          intro listed bb u hsz hn hwt hinv
          obtain ⟨x, rfl, hC, hU, h2, h6, h8, h9, hA62, hA96, hAp⟩ := hinv
          have f13 := Lib.hid (hU 13 _ rfl (hwt 13 (by kernel_rfl)))
          simp only [putsX, Act.put, List.setIfInBounds_toArray, List.set_cons_zero, List.set_cons_succ]
          rw [f13.out]
          go_wp2_with fail
          refine stepQ_normal ⟨trivial, upd x 15 (.int .i64 v.2), ?_, hC, hU.step (fun _ h => Option.some.inj h), h2.keep (by decide) (by decide) _ id, h6.keep (by decide) (by decide) _ id, h8.keep (by decide) (by decide) _ id, h9.keep (by decide) (by decide) _ id, hA62.keep (by decide), hA96.keep (by decide), hAp.keep (by decide) (by decide) (by decide) _⟩
          simp only [upd]
          simp only [f13.out]
          (try rfl)
      case heC =>
        intro listed q u hall hC hU hS
        have fq14 := hU 14 _ rfl (hall 14 (by decide))
        have fq15 := hU 15 _ rfl (hall 15 (by decide))
        simp only [putsX, Act.put, List.setIfInBounds_toArray, List.set_cons_zero, List.set_cons_succ]
        rw [fq14, fq15]
        clear hall hU hS fq14 fq15
        generalize q 0 = _q0, q 1 = _q1, q 2 = _q2, q 3 = _q3, q 4 = _q4, q 5 = _q5, q 6 = _q6, q 7 = _q7, q 8 = _q8, q 9 = _q9, q 10 = _q10, q 11 = _q11, q 12 = _q12, q 13 = _q13
        have y8 := keep_block hC y7 (lt_of_block y7)
        have r8 := keep_block hC hh (lt_of_block hh)
        have HB8 : Hid (Below w.heap.size w u) := HB7.out.trans (hC.mono HB7.out.size)
        have HO8 := Lib.hid (HOK7.out.below hC)
        clear hC y7 z7 hh HB7 HR7 HOK7
        generalize u = w8 at y8 r8 HB8 HO8 ⊢
        obtain ⟨c0, c1, c2', c3⟩ := cells4 y8
        obtain ⟨d0, d1⟩ := cells2 r8
        go_wp2_with fail
        refine (specRankOk_is g0 B g2 g3 ab N cb l' pw' true HROK.out HLN.out (by omega) _ HO8.out.row).mono ?_
        rintro e w9 ⟨rfl, hb9⟩
        have HB9 : Hid (Below w.heap.size w w9) := HB8.out.trans (hb9.mono HB8.out.size)
        clear hb9
        go_wp2_with fail
        go_ret
        exact ⟨rfl, HB9.out⟩

end Go.Proofs.YtihhcnckoeaihaaGreat

namespace Go.Proofs.YtihhcnckoeaihaaGreat
open Go.RowKit Go.PlainAid

set_option linter.unusedVariables false

set_option maxHeartbeats 16000000 in
set_option maxRecDepth 100000 in
theorem fnEarliest_walk (a0 : Option Addr) (len cap : Nat) (zs : List Int) (w : World) (hr : IsRow .u8 w a0 len cap zs) :
    Calls Tryz.prog 4 #[.slice a0 len cap] w fun e w' => e = .returned (.bool true) ∧ Below w.heap.size w w' := by
  have hl := hr.len_le
  unfold maxLen at hl
  by_cases hbig : (1048576 : Int) < (len : Int)
  · go_enter Tryz.func4, Tryz.ntmps4
    go_wp2_with (go_at_call 6; refine (big_any _ _ _ _ (by omega)).mono ?_; rintro e w' ⟨rfl, rfl⟩)
    go_ret
    exact ⟨rfl, Below.refl _ _⟩
  go_enter Tryz.func4, Tryz.ntmps4
  go_wp2_with (go_at_call 6; refine (big_any _ _ _ _ (by omega)).mono ?_; rintro e w' ⟨rfl, rfl⟩)
  refine (drawTrace_any hr).mono ?_
  rintro e w1 ⟨g0, B, g2, g3, t, N, a, cp, L, rfl, hok, hto, hN, hdr, hown, hb1⟩
  have HG : Hid (GeoOk g0 B g2 g3) := by
    obtain ⟨h1, h2, h4, h5⟩ := hok
    exact ⟨h1, h2, ⟨by omega, by omega⟩, ⟨by omega, by omega⟩⟩
  have HTO := Lib.hid hto
  have HNN := Lib.hid hN
  have HTR := Lib.hid hdr.ok
  have HLOW : Hid (∀ e ∈ L, e.t ≤ 4060) := fun e he => by have := hdr.low e he; omega
  have hfew := hdr.few
  have HNC := Lib.hid hown.nil
  have hcap := hown.cap
  obtain ⟨ln, hln⟩ : ∃ ln, L.length = ln := ⟨_, rfl⟩
  have HL := Lib.hid hln
  rw [hln] at hown hfew hcap ⊢
  have hN8 : N ≤ 8 := by have := bankN_range g0 B g2 g3; omega
  obtain ⟨w2, hw2⟩ : ∃ u, (w1.alloc (.cells #[.int .i64 0, .int .i64 0, .int .i64 0, .int .i64 0] 25)).alloc (.cells #[.int .i64 0, .int .i64 0, .int .i64 0, .int .i64 0, .int .i64 0, .int .i64 0, .int .i64 0, .int .i64 0, .int .i64 0, .int .i64 0, .int .i64 0, .int .i64 0, .int .i64 0, .int .i64 0, .int .i64 0, .int .i64 0, .int .i64 0] 27) = u := ⟨_, rfl⟩
  have hb2 : Below w1.heap.size w1 w2 := by subst hw2; exact ((Below.refl _ _).alloc (Nat.le_refl _) _).alloc (by simp) _
  have y2 : w2.heap[w1.heap.size]? = some (.cells #[.int .i64 0, .int .i64 0, .int .i64 0, .int .i64 0] 25) := by subst hw2; exact heap_alloc2_old _ _ _
  have z2 : w2.heap[w1.heap.size + 1]? = some (.cells #[.int .i64 0, .int .i64 0, .int .i64 0, .int .i64 0, .int .i64 0, .int .i64 0, .int .i64 0, .int .i64 0, .int .i64 0, .int .i64 0, .int .i64 0, .int .i64 0, .int .i64 0, .int .i64 0, .int .i64 0, .int .i64 0, .int .i64 0] 27) := by subst hw2; exact heap_alloc2_new _ _ _
  have z3 := (setRow_other w2 w1.heap.size (w1.heap.size + 1) #[.int .i64 g0, .int .i64 B, .int .i64 g2, .int .i64 g3] (by omega)).trans z2
  have y4 := (setRow_other (w2.setRow w1.heap.size #[.int .i64 g0, .int .i64 B, .int .i64 g2, .int .i64 g3]) (w1.heap.size + 1) w1.heap.size #[.int .i64 t.rcd, .int .i64 t.rp, .int .i64 t.ras, .int .i64 t.rrds, .int .i64 t.rrdl, .int .i64 t.faw, .int .i64 t.ccds, .int .i64 t.ccdl, .int .i64 t.rtp, .int .i64 t.wr, .int .i64 t.wtrs, .int .i64 t.wtrl, .int .i64 t.rtw, .int .i64 t.rfc, .int .i64 t.cke, .int .i64 t.xp, .int .i64 t.xs] (by omega)).trans (setRow_same _ _ #[.int .i64 g0, .int .i64 B, .int .i64 g2, .int .i64 g3] _ _ y2)
  have z4 := setRow_same _ _ #[.int .i64 t.rcd, .int .i64 t.rp, .int .i64 t.ras, .int .i64 t.rrds, .int .i64 t.rrdl, .int .i64 t.faw, .int .i64 t.ccds, .int .i64 t.ccdl, .int .i64 t.rtp, .int .i64 t.wr, .int .i64 t.wtrs, .int .i64 t.wtrl, .int .i64 t.rtw, .int .i64 t.rfc, .int .i64 t.cke, .int .i64 t.xp, .int .i64 t.xs] _ _ z3
  have HB4 : Hid (Below w.heap.size w ((w2.setRow w1.heap.size #[.int .i64 g0, .int .i64 B, .int .i64 g2, .int .i64 g3]).setRow (w1.heap.size + 1) #[.int .i64 t.rcd, .int .i64 t.rp, .int .i64 t.ras, .int .i64 t.rrds, .int .i64 t.rrdl, .int .i64 t.faw, .int .i64 t.ccds, .int .i64 t.ccdl, .int .i64 t.rtp, .int .i64 t.wr, .int .i64 t.wtrs, .int .i64 t.wtrl, .int .i64 t.rtw, .int .i64 t.rfc, .int .i64 t.cke, .int .i64 t.xp, .int .i64 t.xs])) := below_setRow (below_setRow (hb1.trans (hb2.mono hb1.size)) hb1.size _) (by have := hb1.size; omega) _
  have OWN4 : Hid (evK.Own 43 w.heap.size (.slice a ln cp) L ((w2.setRow w1.heap.size #[.int .i64 g0, .int .i64 B, .int .i64 g2, .int .i64 g3]).setRow (w1.heap.size + 1) #[.int .i64 t.rcd, .int .i64 t.rp, .int .i64 t.ras, .int .i64 t.rrds, .int .i64 t.rrdl, .int .i64 t.faw, .int .i64 t.ccds, .int .i64 t.ccdl, .int .i64 t.rtp, .int .i64 t.wr, .int .i64 t.wtrs, .int .i64 t.wtrl, .int .i64 t.rtw, .int .i64 t.rfc, .int .i64 t.cke, .int .i64 t.xp, .int .i64 t.xs])) := (hown.below hb2).frame (fun x hx => (setRow_other _ _ _ _ (by have := (hown.lo x hx).2; omega)).trans (setRow_other _ _ _ _ (by have := (hown.lo x hx).2; omega)))
  clear hok hto hN hdr hown hb1 hb2 hln z2
  go_wp2_with (first | ((with_reducible refine store_list (cells := #[.int .i64 g0, .int .i64 B, .int .i64 g2, .int .i64 g3]) y2 ?_ ?_ ?_ ?_ ?_ ?_); kernel_rfl; kernel_rfl; kernel_rfl; kernel_rfl; kernel_rfl) | ((with_reducible refine store_list (cells := #[.int .i64 t.rcd, .int .i64 t.rp, .int .i64 t.ras, .int .i64 t.rrds, .int .i64 t.rrdl, .int .i64 t.faw, .int .i64 t.ccds, .int .i64 t.ccdl, .int .i64 t.rtp, .int .i64 t.wr, .int .i64 t.wtrs, .int .i64 t.wtrl, .int .i64 t.rtw, .int .i64 t.rfc, .int .i64 t.cke, .int .i64 t.xp, .int .i64 t.xs]) z3 ?_ ?_ ?_ ?_ ?_ ?_); kernel_rfl; kernel_rfl; kernel_rfl; kernel_rfl; kernel_rfl))
  clear y2 z3 hw2
  generalize (w2.setRow w1.heap.size #[.int .i64 g0, .int .i64 B, .int .i64 g2, .int .i64 g3]).setRow (w1.heap.size + 1) #[.int .i64 t.rcd, .int .i64 t.rp, .int .i64 t.ras, .int .i64 t.rrds, .int .i64 t.rrdl, .int .i64 t.faw, .int .i64 t.ccds, .int .i64 t.ccdl, .int .i64 t.rtp, .int .i64 t.wr, .int .i64 t.wtrs, .int .i64 t.wtrl, .int .i64 t.rtw, .int .i64 t.rfc, .int .i64 t.cke, .int .i64 t.xp, .int .i64 t.xs] = w4 at y4 z4 HB4 OWN4 ⊢
  obtain ⟨G, hG⟩ : ∃ G, w1.heap.size = G := ⟨_, rfl⟩
  rw [hG] at y4 z4
  (try simp only [hG])
  clear hG
  refine (drawCommand_any (hr.below (fun x hx hc => hr.lt hx hc) HB4.out)).mono ?_
  rintro e w5 ⟨h0, h1', h2', h3', ck, cx, cy, cz, rfl, _, _, _, hb5⟩
  obtain ⟨w6, hw6⟩ : ∃ u, (w5.alloc (.cells #[.int .i64 h0, .int .i64 h1', .int .i64 h2', .int .i64 h3'] 25)).alloc (.cells #[.int .i64 ck, .int .i64 cx, .int .i64 cy, .int .i64 cz] 41) = u := ⟨_, rfl⟩
  have hb6 : Below w5.heap.size w5 w6 := by subst hw6; exact ((Below.refl _ _).alloc (Nat.le_refl _) _).alloc (by simp) _
  have k6 : w6.heap[w5.heap.size + 1]? = some (.cells #[.int .i64 ck, .int .i64 cx, .int .i64 cy, .int .i64 cz] 41) := by subst hw6; exact heap_alloc2_new _ _ _
  have y6 := keep_block hb6 (keep_block hb5 y4 (lt_of_block y4)) (lt_of_block (keep_block hb5 y4 (lt_of_block y4)))
  have z6 := keep_block hb6 (keep_block hb5 z4 (lt_of_block z4)) (lt_of_block (keep_block hb5 z4 (lt_of_block z4)))
  have HB6 : Hid (Below w.heap.size w w6) := (HB4.out.trans (hb5.mono HB4.out.size)).trans (hb6.mono (HB4.out.trans (hb5.mono HB4.out.size)).size)
  have HR6 : Hid (evK.Row w6 a L) := (OWN4.out.row.below hb5).below hb6
  obtain ⟨av, hav⟩ : ∃ av, allowR g0 B g2 g3 (stL N L) (stP L) ck cx cy cz = av := ⟨_, rfl⟩
  have HAV := Lib.hid hav
  have hnx := nextT_le (B := B) HTO.out (L := L) (k := ck) (x := cx) (M := 4060) (by omega) HLOW.out
  have hn0 := nextT_nonneg (B := B) (t := t) (L := L) (k := ck) (x := cx)
  have htr0 : (traceF g0 B g2 g3 t N L).1 = 0 := by
    unfold traceF
    rw [if_pos ⟨HG.out, HTO.out, by rw [HL.out]; omega⟩]
    exact HTR.out
  have hear : earlyF g0 B g2 g3 t N L ck cx cy cz = if av = true then nextT B t L ck cx else -1 := by
    unfold earlyF
    cases av
    · rw [if_neg (fun h => by have := h.1.2.1; rw [hav] at this; cases this)]; rfl
    · rw [if_pos ⟨⟨htr0, hav, by rw [HL.out]; omega⟩, by omega⟩]; rfl
  obtain ⟨at', hat⟩ : ∃ at', earlyF g0 B g2 g3 t N L ck cx cy cz = at' := ⟨_, rfl⟩
  have HAT := Lib.hid hat
  rw [hat] at hear
  have FAULT : Hid (∀ (s : Int), (evF g0 B g2 g3 t N L ⟨s, ck, cx, cy, cz⟩ = 0 ↔ (traceF g0 B g2 g3 t N (L ++ [⟨s, ck, cx, cy, cz⟩])).1 = 0)) := fun s =>
    ⟨fun h => trace_more.2 ⟨⟨HG.out, HTO.out, by rw [HL.out]; omega⟩, HTR.out, h⟩, fun h => (trace_more.1 h).2.2⟩
  have LEN : Hid (∀ (s : Int), (L ++ [(⟨s, ck, cx, cy, cz⟩ : Ev)]).length = ln + 1) := fun s => by rw [List.length_append, HL.out]; rfl
  have hlc : ln ≤ cp := by omega
  clear hb5 hb6 y4 z4 HB4 OWN4 hav htr0 hat
  obtain ⟨c0, c1, c2, c3⟩ := cells4 y6
  obtain ⟨e0, e1, e2, e3⟩ := cells4 k6
  go_wp2_with ((with_reducible refine ld_tm ?_ ?_ z6 ?_); kernel_rfl; kernel_rfl; go_simp)
  clear hw6 c0 c1 c2 c3 e0 e1 e2 e3
  obtain ⟨C6, hC6⟩ : ∃ u, w5.heap.size = u := ⟨_, rfl⟩
  rw [hC6] at k6
  (try simp only [hC6])
  clear hC6
  refine (implEarly_is t g0 B g2 g3 a ln cp L ck cx cy cz N HNN.out at' HAT.out HL.out (by omega) hlc HNC.out _ HR6.out).mono ?_
  rintro e w7 ⟨rfl, hb7⟩
  have y7 := keep_block hb7 y6 (lt_of_block y6)
  have z7 := keep_block hb7 z6 (lt_of_block z6)
  have k7 := keep_block hb7 k6 (lt_of_block k6)
  have HB7 : Hid (Below w.heap.size w w7) := HB6.out.trans (hb7.mono HB6.out.size)
  have HR7 := Lib.hid (HR6.out.below hb7)
  clear hb7 y6 z6 k6 HB6 HR6
  cases av
  case false =>
    have hx : at' = -1 := by rw [hear]; rfl
    subst hx
    clear hear
    obtain ⟨hrk, hend⟩ := st_ok HG.out HNN.out HTR.out
    obtain ⟨l', hl'⟩ : ∃ l', EndL g0 B g2 g3 N L = l' := ⟨_, rfl⟩
    obtain ⟨pw', hp'⟩ : ∃ pw', EndP g0 B g2 g3 N L = pw' := ⟨_, rfl⟩
    have el : l' = stL N L := by rw [← hl']; exact if_pos hend
    have ep : pw' = stP L := by rw [← hp']; exact if_pos hend
    have HLN : Hid (l'.length = N) := by show _ = _; rw [el, stL_length]
    have HLL := Lib.hid hl'
    have HPP := Lib.hid hp'
    have HVE : Hid ((endOk g0 B g2 g3 N L && decide (GeoOk g0 B g2 g3)) = true) := by show _ = _; rw [hend, decide_eq_true HG.out]; rfl
    have HALL : Hid (allowR g0 B g2 g3 l' pw' ck cx cy cz = false) := by show _ = _; rw [el, ep]; exact HAV.out
    have HBAD : Hid ((traceF g0 B g2 g3 t N (L ++ [⟨900000, ck, cx, cy, cz⟩])).1 ≠ 0) := fun h => by
      obtain ⟨hf, hm, _, _⟩ := evF_zero.1 ((FAULT.out 900000).2 h)
      have h1 := HAV.out
      unfold allowR at h1
      rw [decide_eq_true ⟨hrk, hf.1.1, hf.1.2⟩, hm] at h1
      cases h1
    clear hrk hend hl' hp' el ep
    obtain ⟨c0, c1, c2, c3⟩ := cells4 y7
    go_wp2_with fail
    refine (specEnd_is g0 B g2 g3 a ln cp L N HNN.out N l' pw' true HLN.out HLL.out HPP.out HVE.out HL.out (by omega) _ HR7.out).mono ?_
    rintro e w8 ⟨ab, cb, rfl, own8, hb8⟩
    obtain ⟨w9, hw9⟩ : ∃ u, w8.alloc (.cells #[.slice ab N cb, .int .i64 pw'] 37) = u := ⟨_, rfl⟩
    have hb9 : Below w8.heap.size w8 w9 := by subst hw9; exact (Below.refl _ _).alloc (Nat.le_refl _) _
    have r9 : w9.heap[w8.heap.size]? = some (.cells #[.slice ab N cb, .int .i64 pw'] 37) := by subst hw9; exact heap_alloc_new _ _
    have y9 := keep_block hb9 (keep_block hb8 y7 (lt_of_block y7)) (lt_of_block (keep_block hb8 y7 (lt_of_block y7)))
    have z9 := keep_block hb9 (keep_block hb8 z7 (lt_of_block z7)) (lt_of_block (keep_block hb8 z7 (lt_of_block z7)))
    have k9 := keep_block hb9 (keep_block hb8 k7 (lt_of_block k7)) (lt_of_block (keep_block hb8 k7 (lt_of_block k7)))
    have HB9 : Hid (Below w.heap.size w w9) := (HB7.out.trans (hb8.mono HB7.out.size)).trans (hb9.mono (HB7.out.trans (hb8.mono HB7.out.size)).size)
    have HR9 := Lib.hid ((HR7.out.below hb8).below hb9)
    have HO9 := Lib.hid (own8.below hb9)
    clear hb8 hb9 own8 c0 c1 c2 c3 y7 z7 k7 HB7 HR7
    obtain ⟨v, hv⟩ : ∃ v, traceF g0 B g2 g3 t N (L ++ [⟨900000, ck, cx, cy, cz⟩]) = v := ⟨_, rfl⟩
    have HV := Lib.hid hv
    have tz : (v.1 != 0) = true := by rw [← hv]; simp [HBAD.out]
    clear hv
    go_wp2_with fail
    clear hw9
    obtain ⟨R8, hR8⟩ : ∃ u, w8.heap.size = u := ⟨_, rfl⟩
    rw [hR8] at r9
    (try simp only [hR8])
    clear hR8
    refine wp_region_flowV (fun k => match k with | 0 => some (.agg #[.int .i64 g0, .int .i64 B, .int .i64 g2, .int .i64 g3]) | 1 => some (.agg #[.int .i64 t.rcd, .int .i64 t.rp, .int .i64 t.ras, .int .i64 t.rrds, .int .i64 t.rrdl, .int .i64 t.faw, .int .i64 t.ccds, .int .i64 t.ccdl, .int .i64 t.rtp, .int .i64 t.wr, .int .i64 t.wtrs, .int .i64 t.wtrl, .int .i64 t.rtw, .int .i64 t.rfc, .int .i64 t.cke, .int .i64 t.xp, .int .i64 t.xs]) | 3 => some (.slice a ln cp) | 5 => some (.agg #[.int .i64 ck, .int .i64 cx, .int .i64 cy, .int .i64 cz]) | 6 => some (.agg #[.int .i64 900000, .int .i64 ck, .int .i64 cx, .int .i64 cy, .int .i64 cz]) | 9 => some (.tuple #[.int .i64 v.1, .int .i64 v.2]) | 10 => some (.tuple #[.int .i64 v.1, .int .i64 v.2]) | 11 => some (.int .i64 v.1) | 12 => some (.int .i64 v.2) | 13 => some (.int .i64 v.1) | 14 => some (.int .i64 v.2) | _ => none) (fun listed x u => FactW 2 4 (fun q u => ∃ bn, q = .slice (some ⟨bn, 0, none⟩) 0 0 ∧ evK.Own 43 (w9.heap.size) (.slice (some ⟨bn, 0, none⟩) 0 0) [] u) listed x u ∧ FactW 4 8 (fun q u => ∃ ab cb, q = .slice ab ln cb ∧ evK.Own 43 (w9.heap.size) (.slice ab ln cb) (L) u) listed x u ∧ FactW 7 8 (fun q u => ∃ bn, q = .slice (some ⟨bn, 0, none⟩) 1 1 ∧ u.heap[bn]? = some (.cells #[.int .i64 900000, .int .i64 ck, .int .i64 cx, .int .i64 cy, .int .i64 cz] 43)) listed x u ∧ FactW 8 9 (fun q u => ∃ ab cb, q = .slice ab (ln + 1) cb ∧ evK.Own 43 (w9.heap.size) (.slice ab (ln + 1) cb) (L ++ [(⟨900000, ck, cx, cy, cz⟩ : Ev)]) u) listed x u ∧ Aft 4 2 listed ∧ Aft 8 4 listed ∧ Apart 2 7 4 listed x) (fun _ => undef) (by kernel_rfl) (by kernel_rfl) ?hxA ?hSA ?hsA ?heA
    case hxA => simp only [putsX, Act.put, List.setIfInBounds_toArray, List.set_cons_zero, List.set_cons_succ]
    case hSA => exact ⟨FactW.zero _ _ _ _ _ _, FactW.zero _ _ _ _ _ _, FactW.zero _ _ _ _ _ _, FactW.zero _ _ _ _ _ _, Aft.zero _ _ _, Aft.zero _ _ _, Apart.zero _ _ _ _ _⟩
    case hsA =>
      simp only [flowSteps]
      refine ⟨?sA_0, ?sA_1, ?sA_2, ?sA_3, ?sA_4, ?sA_5, ?sA_6, ?sA_7, ?sA_8, ?sA_9, ?sA_10, ?sA_11, ?sA_12, ?sA_13, ?sA_14, trivial⟩
      case sA_0 =>
        intro listed bb u hsz hn hwt hinv
        obtain ⟨x, rfl, hC, hU, h2, h6, h8, h9, hA62, hA96, hAp⟩ := hinv
        simp only [putsX, Act.put, List.setIfInBounds_toArray, List.set_cons_zero, List.set_cons_succ]
        obtain ⟨c0, c1, c2, c3⟩ := cells4 (keep_block hC y9 (lt_of_block y9))
        go_wp2_with fail
        refine stepQ_normal ⟨trivial, upd x 0 (.agg #[.int .i64 g0, .int .i64 B, .int .i64 g2, .int .i64 g3]), ?_, hC, hU.step (fun _ h => Option.some.inj h), h2.keep (by decide) (by decide) _ id, h6.keep (by decide) (by decide) _ id, h8.keep (by decide) (by decide) _ id, h9.keep (by decide) (by decide) _ id, hA62.keep (by decide), hA96.keep (by decide), hAp.keep (by decide) (by decide) (by decide) _⟩
        simp only [upd]
        rfl
      case sA_1 =>
        intro listed bb u hsz hn hwt hinv
        obtain ⟨x, rfl, hC, hU, h2, h6, h8, h9, hA62, hA96, hAp⟩ := hinv
        simp only [putsX, Act.put, List.setIfInBounds_toArray, List.set_cons_zero, List.set_cons_succ]
        go_wp2_with ((with_reducible refine ld_tm ?_ ?_ (keep_block hC z9 (lt_of_block z9)) ?_); kernel_rfl; kernel_rfl; go_simp)
        refine stepQ_normal ⟨trivial, upd x 1 (.agg #[.int .i64 t.rcd, .int .i64 t.rp, .int .i64 t.ras, .int .i64 t.rrds, .int .i64 t.rrdl, .int .i64 t.faw, .int .i64 t.ccds, .int .i64 t.ccdl, .int .i64 t.rtp, .int .i64 t.wr, .int .i64 t.wtrs, .int .i64 t.wtrl, .int .i64 t.rtw, .int .i64 t.rfc, .int .i64 t.cke, .int .i64 t.xp, .int .i64 t.xs]), ?_, hC, hU.step (fun _ h => Option.some.inj h), h2.keep (by decide) (by decide) _ id, h6.keep (by decide) (by decide) _ id, h8.keep (by decide) (by decide) _ id, h9.keep (by decide) (by decide) _ id, hA62.keep (by decide), hA96.keep (by decide), hAp.keep (by decide) (by decide) (by decide) _⟩
        simp only [upd]
        rfl
      case sA_2 =>
        intro listed bb u hsz hn hwt hinv
        obtain ⟨x, rfl, hC, hU, h2, h6, h8, h9, hA62, hA96, hAp⟩ := hinv
        simp only [putsX, Act.put, List.setIfInBounds_toArray, List.set_cons_zero, List.set_cons_succ]
        have not9 : listed.getD 8 false = false := hA96.no (hA62.no hn)
        have NEW : listed.getD 7 false = true → ∀ (b : Addr) (n' c' : Nat), x 7 = .slice (some b) n' c' → u.heap.size ≠ b.block := fun h8l b n' c' hx => by
          obtain ⟨bn, e1, e2⟩ := h8 h8l not9
          rw [e1] at hx
          cases hx
          have := lt_of_block e2
          show u.heap.size ≠ bn
          omega
        go_wp2_with fail
        refine stepQ_normal ⟨trivial, upd x 2 (.slice (some ⟨u.heap.size, 0, none⟩) 0 0), ?_, hC.alloc hC.size _, hU.step (fun _ h => by cases h), FactW.new ⟨_, rfl, World.ownsRow_made (base := w9.heap.size) (e := 43) (size := 5) u #[] 0 hC.size (by decide) rfl⟩, h6.keep (by decide) (by decide) _ (fun ⟨b1, b2, b3, b4⟩ => ⟨b1, b2, b3, b4.below (below_allocT _)⟩), h8.keep (by decide) (by decide) _ (fun ⟨b1, b2, b3⟩ => ⟨b1, b2, keep_block (below_allocT _) b3 (lt_of_block b3)⟩), h9.keep (by decide) (by decide) _ (fun ⟨b1, b2, b3, b4⟩ => ⟨b1, b2, b3, b4.below (below_allocT _)⟩), hA62.keep (by decide), hA96.keep (by decide), Apart.newi (by decide) (by decide) (fun h8l _ a' b' n' m' c' d' e1 e2 => by cases e1; exact NEW h8l b' m' d' e2)⟩
        simp only [upd]
        rfl
      case sA_3 =>
        intro listed bb u hsz hn hwt hinv
        obtain ⟨x, rfl, hC, hU, h2, h6, h8, h9, hA62, hA96, hAp⟩ := hinv
        simp only [putsX, Act.put, List.setIfInBounds_toArray, List.set_cons_zero, List.set_cons_succ]
        go_wp2_with fail
        refine stepQ_normal ⟨trivial, upd x 3 (.slice a ln cp), ?_, hC, hU.step (fun _ h => Option.some.inj h), h2.keep (by decide) (by decide) _ id, h6.keep (by decide) (by decide) _ id, h8.keep (by decide) (by decide) _ id, h9.keep (by decide) (by decide) _ id, hA62.keep (by decide), hA96.keep (by decide), hAp.keep (by decide) (by decide) (by decide) _⟩
        simp only [upd]
        rfl
      case sA_4 =>
        intro listed bb u hsz hn hwt hinv
        obtain ⟨x, rfl, hC, hU, h2, h6, h8, h9, hA62, hA96, hAp⟩ := hinv
        have f3 := Lib.hid (hU 3 _ rfl (hwt 3 (by kernel_rfl)))
        simp only [putsX, Act.put, List.setIfInBounds_toArray, List.set_cons_zero, List.set_cons_succ]
        rw [f3.out]
        obtain ⟨b2, fp, hown⟩ := h2 (hwt 2 (by kernel_rfl)) hn
        have not9 := hA96.no hn
        have FP := Lib.hid fp
        rw [FP.out]
        have hCs := hC.size
        have HLO := Lib.hid (hown.lo _ rfl)
        clear fp
        go_wp2_with (at_builtin; refine append_ev rfl _ _ rfl (w9.heap.size) _ 0 [] rfl hown rfl a ln cp (L) rfl HL.out HNC.out hlc (HR9.out.below hC) (by omega) hCs ?_)
        intro v' u' O2 hgrow
        try rw [List.nil_append] at O2
        obtain ⟨ad, cd, hv'⟩ := O2.shape
        rw [HL.out] at hv'
        subst hv'
        have hC' := hC.grown hgrow hCs (fun j hj => by have := Option.some.inj hj; have h : w9.heap.size ≤ b2 := HLO.out.1; have h2 : b2 = j := this; omega)
        have K8 : listed.getD 7 false = true → (∃ bn, x 7 = .slice (some ⟨bn, 0, none⟩) 1 1 ∧ u.heap[bn]? = some (.cells #[.int .i64 900000, .int .i64 ck, .int .i64 cx, .int .i64 cy, .int .i64 cz] 43)) → ∃ bn, x 7 = .slice (some ⟨bn, 0, none⟩) 1 1 ∧ u'.heap[bn]? = some (.cells #[.int .i64 900000, .int .i64 ck, .int .i64 cx, .int .i64 cy, .int .i64 cz] 43) := fun h8l ⟨bn, e1, e2⟩ =>
          ⟨bn, e1, (hgrow.block bn (lt_of_block e2) (fun e => hAp (hwt 2 (by kernel_rfl)) h8l hn ⟨b2, 0, none⟩ ⟨bn, 0, none⟩ 0 1 0 1 FP.out e1 (Option.some.inj e).symm)).trans e2⟩
        clear hown
        go_wp2_with fail
        refine stepQ_normal ⟨trivial, upd x 4 (.slice ad ln cd), ?_, hC', hU.step (fun _ h => by cases h), FactW.call (by rw [hsz]; decide), FactW.new ⟨ad, cd, rfl, O2⟩, h8.keepL (by decide) (by decide) _ K8, FactW.no not9 (by decide) _, Aft.new (hwt 2 (by kernel_rfl)), hA96.keep (by decide), Apart.call (by rw [hsz]; decide)⟩
        simp only [upd]
        simp only [f3.out, FP.out]
        (try rfl)
      case sA_5 =>
        intro listed bb u hsz hn hwt hinv
        obtain ⟨x, rfl, hC, hU, h2, h6, h8, h9, hA62, hA96, hAp⟩ := hinv
        simp only [putsX, Act.put, List.setIfInBounds_toArray, List.set_cons_zero, List.set_cons_succ]
        obtain ⟨e0, e1, e2, e3⟩ := cells4 (keep_block hC k9 (lt_of_block k9))
        go_wp2_with fail
        refine stepQ_normal ⟨trivial, upd x 5 (.agg #[.int .i64 ck, .int .i64 cx, .int .i64 cy, .int .i64 cz]), ?_, hC, hU.step (fun _ h => Option.some.inj h), h2.keep (by decide) (by decide) _ id, h6.keep (by decide) (by decide) _ id, h8.keep (by decide) (by decide) _ id, h9.keep (by decide) (by decide) _ id, hA62.keep (by decide), hA96.keep (by decide), hAp.keep (by decide) (by decide) (by decide) _⟩
        simp only [upd]
        rfl
      case sA_6 =>
        intro listed bb u hsz hn hwt hinv
        obtain ⟨x, rfl, hC, hU, h2, h6, h8, h9, hA62, hA96, hAp⟩ := hinv
        have f5 := Lib.hid (hU 5 _ rfl (hwt 5 (by kernel_rfl)))
        simp only [putsX, Act.put, List.setIfInBounds_toArray, List.set_cons_zero, List.set_cons_succ]
        rw [f5.out]
        go_wp2_with fail
        refine stepQ_normal ⟨trivial, upd x 6 (.agg #[.int .i64 900000, .int .i64 ck, .int .i64 cx, .int .i64 cy, .int .i64 cz]), ?_, hC, hU.step (fun _ h => Option.some.inj h), h2.keep (by decide) (by decide) _ id, h6.keep (by decide) (by decide) _ id, h8.keep (by decide) (by decide) _ id, h9.keep (by decide) (by decide) _ id, hA62.keep (by decide), hA96.keep (by decide), hAp.keep (by decide) (by decide) (by decide) _⟩
        simp only [upd]
        simp only [f5.out]
        (try rfl)
      case sA_7 =>
        intro listed bb u hsz hn hwt hinv
        obtain ⟨x, rfl, hC, hU, h2, h6, h8, h9, hA62, hA96, hAp⟩ := hinv
        have f6 := Lib.hid (hU 6 _ rfl (hwt 6 (by kernel_rfl)))
        simp only [putsX, Act.put, List.setIfInBounds_toArray, List.set_cons_zero, List.set_cons_succ]
        rw [f6.out]
        have NEW : listed.getD 2 false = true → listed.getD 4 false = false → ∀ (b : Addr) (n' c' : Nat), x 2 = .slice (some b) n' c' → b.block ≠ u.heap.size := fun h2l h6l b n' c' hx => by
          obtain ⟨bn, e1, e2⟩ := h2 h2l h6l
          rw [e1] at hx
          cases hx
          have h : bn < u.heap.size := (e2.lo _ rfl).2
          show bn ≠ u.heap.size
          omega
        go_wp2_with fail
        refine stepQ_normal ⟨trivial, upd x 7 (.slice (some ⟨u.heap.size, 0, none⟩) 1 1), ?_, hC.alloc hC.size _, hU.step (fun _ h => by cases h), h2.keep (by decide) (by decide) _ (fun ⟨b1, b2, b3⟩ => ⟨b1, b2, b3.below (below_allocT _)⟩), h6.keep (by decide) (by decide) _ (fun ⟨b1, b2, b3, b4⟩ => ⟨b1, b2, b3, b4.below (below_allocT _)⟩), FactW.new ⟨_, rfl, heap_alloc_new _ _⟩, h9.keep (by decide) (by decide) _ (fun ⟨b1, b2, b3, b4⟩ => ⟨b1, b2, b3, b4.below (below_allocT _)⟩), hA62.keep (by decide), hA96.keep (by decide), Apart.newj (by decide) (by decide) (fun h2l h6l a' b' n' m' c' d' e1 e2 => by cases e2; exact NEW h2l h6l a' n' c' e1)⟩
        simp only [upd]
        simp only [f6.out]
        (try rfl)
      case sA_8 =>
        intro listed bb u hsz hn hwt hinv
        obtain ⟨x, rfl, hC, hU, h2, h6, h8, h9, hA62, hA96, hAp⟩ := hinv
        simp only [putsX, Act.put, List.setIfInBounds_toArray, List.set_cons_zero, List.set_cons_succ]
        obtain ⟨ab, cb, fp, hown⟩ := h6 (hwt 4 (by kernel_rfl)) hn
        obtain ⟨bn, fb, hbn⟩ := h8 (hwt 7 (by kernel_rfl)) hn
        have FP := Lib.hid fp
        have FB := Lib.hid fb
        rw [FP.out, FB.out]
        have hCs := hC.size
        have HLO := Lib.hid hown.lo
        clear fp fb
        go_wp2_with (at_builtin; refine append_ev rfl _ _ rfl (w9.heap.size) _ (ln) (L) rfl hown HL.out (some ⟨bn, 0, none⟩) 1 1 [(⟨900000, ck, cx, cy, cz⟩ : Ev)] rfl rfl (fun h => by cases h) (by omega) (one_ev (e := (⟨900000, ck, cx, cy, cz⟩ : Ev)) hbn) (by omega) hCs ?_)
        intro v' u' O2 hgrow
        obtain ⟨ad, cd, hv'⟩ := O2.shape
        rw [List.length_append, HL.out, List.length_singleton] at hv'
        subst hv'
        have hC' := hC.grown hgrow hCs (fun j hj => by obtain ⟨y', hy, hyj⟩ := slice_own hj; have := (HLO.out y' hy).1; omega)
        clear hown hbn
        go_wp2_with fail
        refine stepQ_normal ⟨trivial, upd x 8 (.slice ad (ln + 1) cd), ?_, hC', hU.step (fun _ h => by cases h), FactW.gone (hwt 4 (by kernel_rfl)), FactW.call (by rw [hsz]; decide), FactW.call (by rw [hsz]; decide), FactW.new ⟨ad, cd, rfl, O2⟩, hA62.keep (by decide), Aft.new (hwt 4 (by kernel_rfl)), Apart.gone (hwt 4 (by kernel_rfl))⟩
        simp only [upd]
        simp only [FP.out, FB.out]
        (try rfl)
      case sA_9 =>
        intro listed bb u hsz hn hwt hinv
        obtain ⟨x, rfl, hC, hU, h2, h6, h8, h9, hA62, hA96, hAp⟩ := hinv
        have f0 := Lib.hid (hU 0 _ rfl (hwt 0 (by kernel_rfl)))
        have f1 := Lib.hid (hU 1 _ rfl (hwt 1 (by kernel_rfl)))
        simp only [putsX, Act.put, List.setIfInBounds_toArray, List.set_cons_zero, List.set_cons_succ]
        obtain ⟨ab, cb, fp, hown⟩ := h9 (hwt 8 (by kernel_rfl)) hn
        have hcall : Calls Tryz.prog 9 #[x 0, x 1, x 8] u (Gives2 v u) := by rw [fp, f0.out, f1.out]; exact implFault_is t g0 B g2 g3 ab (ln + 1) cb (L ++ [(⟨900000, ck, cx, cy, cz⟩ : Ev)]) N HNN.out v HV.out (LEN.out _) (by omega) hown.cap.1 hown.nil u hown.row
        clear fp
        go_wp2_with fail
        refine hcall.mono ?_
        rintro e' u' ⟨rfl, hb⟩
        go_wp2_with fail
        refine stepQ_normal ⟨trivial, upd x 9 (.tuple #[.int .i64 v.1, .int .i64 v.2]), ?_, hC.trans (hb.mono hC.size), hU.step (fun _ h => Option.some.inj h), h2.keep (by decide) (by decide) _ (fun ⟨b1, b2, b3⟩ => ⟨b1, b2, b3.below (hb)⟩), h6.keep (by decide) (by decide) _ (fun ⟨b1, b2, b3, b4⟩ => ⟨b1, b2, b3, b4.below (hb)⟩), h8.keep (by decide) (by decide) _ (fun ⟨b1, b2, b3⟩ => ⟨b1, b2, keep_block (hb) b3 (lt_of_block b3)⟩), FactW.call (by rw [hsz]; decide), hA62.keep (by decide), hA96.keep (by decide), hAp.keep (by decide) (by decide) (by decide) _⟩
        simp only [upd]
        rfl
      case sA_10 =>
        intro listed bb u hsz hn hwt hinv
        obtain ⟨x, rfl, hC, hU, h2, h6, h8, h9, hA62, hA96, hAp⟩ := hinv
        have f9 := Lib.hid (hU 9 _ rfl (hwt 9 (by kernel_rfl)))
        simp only [putsX, Act.put, List.setIfInBounds_toArray, List.set_cons_zero, List.set_cons_succ]
        rw [f9.out]
        go_wp2_with fail
        refine stepQ_normal ⟨trivial, upd x 10 (.tuple #[.int .i64 v.1, .int .i64 v.2]), ?_, hC, hU.step (fun _ h => Option.some.inj h), h2.keep (by decide) (by decide) _ id, h6.keep (by decide) (by decide) _ id, h8.keep (by decide) (by decide) _ id, h9.keep (by decide) (by decide) _ id, hA62.keep (by decide), hA96.keep (by decide), hAp.keep (by decide) (by decide) (by decide) _⟩
        simp only [upd]
        simp only [f9.out]
        (try rfl)
      case sA_11 =>
        intro listed bb u hsz hn hwt hinv
        obtain ⟨x, rfl, hC, hU, h2, h6, h8, h9, hA62, hA96, hAp⟩ := hinv
        have f10 := Lib.hid (hU 10 _ rfl (hwt 10 (by kernel_rfl)))
        simp only [putsX, Act.put, List.setIfInBounds_toArray, List.set_cons_zero, List.set_cons_succ]
        rw [f10.out]
        go_wp2_with fail
        refine stepQ_normal ⟨trivial, upd x 11 (.int .i64 v.1), ?_, hC, hU.step (fun _ h => Option.some.inj h), h2.keep (by decide) (by decide) _ id, h6.keep (by decide) (by decide) _ id, h8.keep (by decide) (by decide) _ id, h9.keep (by decide) (by decide) _ id, hA62.keep (by decide), hA96.keep (by decide), hAp.keep (by decide) (by decide) (by decide) _⟩
        simp only [upd]
        simp only [f10.out]
        (try rfl)
      case sA_12 =>
        intro listed bb u hsz hn hwt hinv
        obtain ⟨x, rfl, hC, hU, h2, h6, h8, h9, hA62, hA96, hAp⟩ := hinv
        have f10 := Lib.hid (hU 10 _ rfl (hwt 10 (by kernel_rfl)))
        simp only [putsX, Act.put, List.setIfInBounds_toArray, List.set_cons_zero, List.set_cons_succ]
        rw [f10.out]
        go_wp2_with fail
        refine stepQ_normal ⟨trivial, upd x 12 (.int .i64 v.2), ?_, hC, hU.step (fun _ h => Option.some.inj h), h2.keep (by decide) (by decide) _ id, h6.keep (by decide) (by decide) _ id, h8.keep (by decide) (by decide) _ id, h9.keep (by decide) (by decide) _ id, hA62.keep (by decide), hA96.keep (by decide), hAp.keep (by decide) (by decide) (by decide) _⟩
        simp only [upd]
        simp only [f10.out]
        (try rfl)
      case sA_13 =>
        intro listed bb u hsz hn hwt hinv
        obtain ⟨x, rfl, hC, hU, h2, h6, h8, h9, hA62, hA96, hAp⟩ := hinv
        have f11 := Lib.hid (hU 11 _ rfl (hwt 11 (by kernel_rfl)))
        simp only [putsX, Act.put, List.setIfInBounds_toArray, List.set_cons_zero, List.set_cons_succ]
        rw [f11.out]
        go_wp2_with fail
        refine stepQ_normal ⟨trivial, upd x 13 (.int .i64 v.1), ?_, hC, hU.step (fun _ h => Option.some.inj h), h2.keep (by decide) (by decide) _ id, h6.keep (by decide) (by decide) _ id, h8.keep (by decide) (by decide) _ id, h9.keep (by decide) (by decide) _ id, hA62.keep (by decide), hA96.keep (by decide), hAp.keep (by decide) (by decide) (by decide) _⟩
        simp only [upd]
        simp only [f11.out]
        (try rfl)
      case sA_14 =>
        intro listed bb u hsz hn hwt hinv
        obtain ⟨x, rfl, hC, hU, h2, h6, h8, h9, hA62, hA96, hAp⟩ := hinv
        have f12 := Lib.hid (hU 12 _ rfl (hwt 12 (by kernel_rfl)))
        simp only [putsX, Act.put, List.setIfInBounds_toArray, List.set_cons_zero, List.set_cons_succ]
        rw [f12.out]
        go_wp2_with fail
        refine stepQ_normal ⟨trivial, upd x 14 (.int .i64 v.2), ?_, hC, hU.step (fun _ h => Option.some.inj h), h2.keep (by decide) (by decide) _ id, h6.keep (by decide) (by decide) _ id, h8.keep (by decide) (by decide) _ id, h9.keep (by decide) (by decide) _ id, hA62.keep (by decide), hA96.keep (by decide), hAp.keep (by decide) (by decide) (by decide) _⟩
        simp only [upd]
        simp only [f12.out]
        (try rfl)
    case heA =>
      intro listed q u hall hC hU hS
      have fqa := hU 13 _ rfl (hall 13 (by decide))
      have fqb := hU 14 _ rfl (hall 14 (by decide))
      simp only [putsX, Act.put, List.setIfInBounds_toArray, List.set_cons_zero, List.set_cons_succ]
      rw [fqa, fqb]
      clear hall hU hS fqa fqb
      generalize q 0 = _q0, q 1 = _q1, q 2 = _q2, q 3 = _q3, q 4 = _q4, q 5 = _q5, q 6 = _q6, q 7 = _q7, q 8 = _q8, q 9 = _q9, q 10 = _q10, q 11 = _q11, q 12 = _q12
      have y10 := keep_block hC y9 (lt_of_block y9)
      have r10 := keep_block hC r9 (lt_of_block r9)
      have k10 := keep_block hC k9 (lt_of_block k9)
      have HB10 : Hid (Below w.heap.size w u) := HB9.out.trans (hC.mono HB9.out.size)
      have HO10 := Lib.hid (HO9.out.below hC)
      clear hC y9 z9 k9 r9 HB9 HR9 HO9
      generalize u = w10 at y10 r10 k10 HB10 HO10 ⊢
      obtain ⟨c0, c1, c2, c3⟩ := cells4 y10
      obtain ⟨d0, d1⟩ := cells2 r10
      obtain ⟨e0, e1, e2, e3⟩ := cells4 k10
      go_wp2_with fail
      refine (specAllowed_is g0 B g2 g3 ab N cb l' pw' ck cx cy cz false HALL.out HLN.out (by omega) _ HO10.out.row).mono ?_
      rintro e w11 ⟨rfl, hb11⟩
      have HB11 : Hid (Below w.heap.size w w11) := HB10.out.trans (hb11.mono HB10.out.size)
      clear hb11
      go_wp2_with fail
      go_ret
      exact ⟨rfl, HB11.out⟩
  case true =>
    have hx : at' = nextT B t L ck cx := by rw [hear]; rfl
    have GOOD : Hid ((traceF g0 B g2 g3 t N (L ++ [⟨at', ck, cx, cy, cz⟩])).1 = 0) := (FAULT.out at').1 (next_ok HAV.out (by omega) (by omega))
    have BAD : Hid ((traceF g0 B g2 g3 t N (L ++ [⟨(at' - 1), ck, cx, cy, cz⟩])).1 ≠ 0) := fun h => next_no (by omega) ((FAULT.out (at' - 1)).2 h)
    have ha0 : 0 ≤ at' := by omega
    have ha1 : at' ≤ 5000 := by omega
    have t0 : decide (at' < 0) = false := decide_eq_false (by omega)
    have wa : IntKind.i64.wrap (at' - 1) = at' - 1 := IntWalk.i64_in _ (by omega)
    clear hear hx hnx hn0
    obtain ⟨v, hv⟩ : ∃ v, traceF g0 B g2 g3 t N (L ++ [⟨at', ck, cx, cy, cz⟩]) = v := ⟨_, rfl⟩
    have HV := Lib.hid hv
    have ta : (v.1 == 0) = true := by rw [← hv, GOOD.out]; rfl
    obtain ⟨v', hv'⟩ : ∃ v, traceF g0 B g2 g3 t N (L ++ [⟨(at' - 1), ck, cx, cy, cz⟩]) = v := ⟨_, rfl⟩
    have HVV := Lib.hid hv'
    have tb : (v'.1 != 0) = true := by rw [← hv']; simp [BAD.out]
    clear hv hv'
    go_wp2_with fail
    refine wp_region_flowV (fun k => match k with | 0 => some (.agg #[.int .i64 g0, .int .i64 B, .int .i64 g2, .int .i64 g3]) | 1 => some (.agg #[.int .i64 t.rcd, .int .i64 t.rp, .int .i64 t.ras, .int .i64 t.rrds, .int .i64 t.rrdl, .int .i64 t.faw, .int .i64 t.ccds, .int .i64 t.ccdl, .int .i64 t.rtp, .int .i64 t.wr, .int .i64 t.wtrs, .int .i64 t.wtrl, .int .i64 t.rtw, .int .i64 t.rfc, .int .i64 t.cke, .int .i64 t.xp, .int .i64 t.xs]) | 3 => some (.slice a ln cp) | 5 => some (.int .i64 at') | 6 => some (.agg #[.int .i64 ck, .int .i64 cx, .int .i64 cy, .int .i64 cz]) | 7 => some (.agg #[.int .i64 at', .int .i64 ck, .int .i64 cx, .int .i64 cy, .int .i64 cz]) | 10 => some (.tuple #[.int .i64 v.1, .int .i64 v.2]) | 11 => some (.tuple #[.int .i64 v.1, .int .i64 v.2]) | 12 => some (.int .i64 v.1) | 13 => some (.int .i64 v.2) | 14 => some (.int .i64 v.1) | 15 => some (.int .i64 v.2) | _ => none) (fun listed x u => FactW 2 4 (fun q u => ∃ bn, q = .slice (some ⟨bn, 0, none⟩) 0 0 ∧ evK.Own 43 (w7.heap.size) (.slice (some ⟨bn, 0, none⟩) 0 0) [] u) listed x u ∧ FactW 4 9 (fun q u => ∃ ab cb, q = .slice ab ln cb ∧ evK.Own 43 (w7.heap.size) (.slice ab ln cb) (L) u) listed x u ∧ FactW 8 9 (fun q u => ∃ bn, q = .slice (some ⟨bn, 0, none⟩) 1 1 ∧ u.heap[bn]? = some (.cells #[.int .i64 at', .int .i64 ck, .int .i64 cx, .int .i64 cy, .int .i64 cz] 43)) listed x u ∧ FactW 9 10 (fun q u => ∃ ab cb, q = .slice ab (ln + 1) cb ∧ evK.Own 43 (w7.heap.size) (.slice ab (ln + 1) cb) (L ++ [(⟨at', ck, cx, cy, cz⟩ : Ev)]) u) listed x u ∧ Aft 4 2 listed ∧ Aft 9 4 listed ∧ Apart 2 8 4 listed x) (fun _ => undef) (by kernel_rfl) (by kernel_rfl) ?hxB ?hSB ?hsB ?heB
    case hxB => simp only [putsX, Act.put, List.setIfInBounds_toArray, List.set_cons_zero, List.set_cons_succ]
    case hSB => exact ⟨FactW.zero _ _ _ _ _ _, FactW.zero _ _ _ _ _ _, FactW.zero _ _ _ _ _ _, FactW.zero _ _ _ _ _ _, Aft.zero _ _ _, Aft.zero _ _ _, Apart.zero _ _ _ _ _⟩
    case hsB =>
      simp only [flowSteps]
      refine ⟨?sB_0, ?sB_1, ?sB_2, ?sB_3, ?sB_4, ?sB_5, ?sB_6, ?sB_7, ?sB_8, ?sB_9, ?sB_10, ?sB_11, ?sB_12, ?sB_13, ?sB_14, ?sB_15, trivial⟩
      case sB_0 =>
        intro listed bb u hsz hn hwt hinv
        obtain ⟨x, rfl, hC, hU, h2, h6, h8, h9, hA62, hA96, hAp⟩ := hinv
        simp only [putsX, Act.put, List.setIfInBounds_toArray, List.set_cons_zero, List.set_cons_succ]
        obtain ⟨c0, c1, c2, c3⟩ := cells4 (keep_block hC y7 (lt_of_block y7))
        go_wp2_with fail
        refine stepQ_normal ⟨trivial, upd x 0 (.agg #[.int .i64 g0, .int .i64 B, .int .i64 g2, .int .i64 g3]), ?_, hC, hU.step (fun _ h => Option.some.inj h), h2.keep (by decide) (by decide) _ id, h6.keep (by decide) (by decide) _ id, h8.keep (by decide) (by decide) _ id, h9.keep (by decide) (by decide) _ id, hA62.keep (by decide), hA96.keep (by decide), hAp.keep (by decide) (by decide) (by decide) _⟩
        simp only [upd]
        rfl
      case sB_1 =>
        intro listed bb u hsz hn hwt hinv
        obtain ⟨x, rfl, hC, hU, h2, h6, h8, h9, hA62, hA96, hAp⟩ := hinv
        simp only [putsX, Act.put, List.setIfInBounds_toArray, List.set_cons_zero, List.set_cons_succ]
        go_wp2_with ((with_reducible refine ld_tm ?_ ?_ (keep_block hC z7 (lt_of_block z7)) ?_); kernel_rfl; kernel_rfl; go_simp)
        refine stepQ_normal ⟨trivial, upd x 1 (.agg #[.int .i64 t.rcd, .int .i64 t.rp, .int .i64 t.ras, .int .i64 t.rrds, .int .i64 t.rrdl, .int .i64 t.faw, .int .i64 t.ccds, .int .i64 t.ccdl, .int .i64 t.rtp, .int .i64 t.wr, .int .i64 t.wtrs, .int .i64 t.wtrl, .int .i64 t.rtw, .int .i64 t.rfc, .int .i64 t.cke, .int .i64 t.xp, .int .i64 t.xs]), ?_, hC, hU.step (fun _ h => Option.some.inj h), h2.keep (by decide) (by decide) _ id, h6.keep (by decide) (by decide) _ id, h8.keep (by decide) (by decide) _ id, h9.keep (by decide) (by decide) _ id, hA62.keep (by decide), hA96.keep (by decide), hAp.keep (by decide) (by decide) (by decide) _⟩
        simp only [upd]
        rfl
      case sB_2 =>
        intro listed bb u hsz hn hwt hinv
        obtain ⟨x, rfl, hC, hU, h2, h6, h8, h9, hA62, hA96, hAp⟩ := hinv
        simp only [putsX, Act.put, List.setIfInBounds_toArray, List.set_cons_zero, List.set_cons_succ]
        have not9 : listed.getD 9 false = false := hA96.no (hA62.no hn)
        have NEW : listed.getD 8 false = true → ∀ (b : Addr) (n' c' : Nat), x 8 = .slice (some b) n' c' → u.heap.size ≠ b.block := fun h8l b n' c' hx => by
          obtain ⟨bn, e1, e2⟩ := h8 h8l not9
          rw [e1] at hx
          cases hx
          have := lt_of_block e2
          show u.heap.size ≠ bn
          omega
        go_wp2_with fail
        refine stepQ_normal ⟨trivial, upd x 2 (.slice (some ⟨u.heap.size, 0, none⟩) 0 0), ?_, hC.alloc hC.size _, hU.step (fun _ h => by cases h), FactW.new ⟨_, rfl, World.ownsRow_made (base := w7.heap.size) (e := 43) (size := 5) u #[] 0 hC.size (by decide) rfl⟩, h6.keep (by decide) (by decide) _ (fun ⟨b1, b2, b3, b4⟩ => ⟨b1, b2, b3, b4.below (below_allocT _)⟩), h8.keep (by decide) (by decide) _ (fun ⟨b1, b2, b3⟩ => ⟨b1, b2, keep_block (below_allocT _) b3 (lt_of_block b3)⟩), h9.keep (by decide) (by decide) _ (fun ⟨b1, b2, b3, b4⟩ => ⟨b1, b2, b3, b4.below (below_allocT _)⟩), hA62.keep (by decide), hA96.keep (by decide), Apart.newi (by decide) (by decide) (fun h8l _ a' b' n' m' c' d' e1 e2 => by cases e1; exact NEW h8l b' m' d' e2)⟩
        simp only [upd]
        rfl
      case sB_3 =>
        intro listed bb u hsz hn hwt hinv
        obtain ⟨x, rfl, hC, hU, h2, h6, h8, h9, hA62, hA96, hAp⟩ := hinv
        simp only [putsX, Act.put, List.setIfInBounds_toArray, List.set_cons_zero, List.set_cons_succ]
        go_wp2_with fail
        refine stepQ_normal ⟨trivial, upd x 3 (.slice a ln cp), ?_, hC, hU.step (fun _ h => Option.some.inj h), h2.keep (by decide) (by decide) _ id, h6.keep (by decide) (by decide) _ id, h8.keep (by decide) (by decide) _ id, h9.keep (by decide) (by decide) _ id, hA62.keep (by decide), hA96.keep (by decide), hAp.keep (by decide) (by decide) (by decide) _⟩
        simp only [upd]
        rfl
      case sB_4 =>
        intro listed bb u hsz hn hwt hinv
        obtain ⟨x, rfl, hC, hU, h2, h6, h8, h9, hA62, hA96, hAp⟩ := hinv
        have f3 := Lib.hid (hU 3 _ rfl (hwt 3 (by kernel_rfl)))
        simp only [putsX, Act.put, List.setIfInBounds_toArray, List.set_cons_zero, List.set_cons_succ]
        rw [f3.out]
        obtain ⟨b2, fp, hown⟩ := h2 (hwt 2 (by kernel_rfl)) hn
        have not9 := hA96.no hn
        have FP := Lib.hid fp
        rw [FP.out]
        have hCs := hC.size
        have HLO := Lib.hid (hown.lo _ rfl)
        clear fp
        go_wp2_with (at_builtin; refine append_ev rfl _ _ rfl (w7.heap.size) _ 0 [] rfl hown rfl a ln cp (L) rfl HL.out HNC.out hlc (HR7.out.below hC) (by omega) hCs ?_)
        intro v' u' O2 hgrow
        try rw [List.nil_append] at O2
        obtain ⟨ad, cd, hv'⟩ := O2.shape
        rw [HL.out] at hv'
        subst hv'
        have hC' := hC.grown hgrow hCs (fun j hj => by have := Option.some.inj hj; have h : w7.heap.size ≤ b2 := HLO.out.1; have h2 : b2 = j := this; omega)
        have K8 : listed.getD 8 false = true → (∃ bn, x 8 = .slice (some ⟨bn, 0, none⟩) 1 1 ∧ u.heap[bn]? = some (.cells #[.int .i64 at', .int .i64 ck, .int .i64 cx, .int .i64 cy, .int .i64 cz] 43)) → ∃ bn, x 8 = .slice (some ⟨bn, 0, none⟩) 1 1 ∧ u'.heap[bn]? = some (.cells #[.int .i64 at', .int .i64 ck, .int .i64 cx, .int .i64 cy, .int .i64 cz] 43) := fun h8l ⟨bn, e1, e2⟩ =>
          ⟨bn, e1, (hgrow.block bn (lt_of_block e2) (fun e => hAp (hwt 2 (by kernel_rfl)) h8l hn ⟨b2, 0, none⟩ ⟨bn, 0, none⟩ 0 1 0 1 FP.out e1 (Option.some.inj e).symm)).trans e2⟩
        clear hown
        go_wp2_with fail
        refine stepQ_normal ⟨trivial, upd x 4 (.slice ad ln cd), ?_, hC', hU.step (fun _ h => by cases h), FactW.call (by rw [hsz]; decide), FactW.new ⟨ad, cd, rfl, O2⟩, h8.keepL (by decide) (by decide) _ K8, FactW.no not9 (by decide) _, Aft.new (hwt 2 (by kernel_rfl)), hA96.keep (by decide), Apart.call (by rw [hsz]; decide)⟩
        simp only [upd]
        simp only [f3.out, FP.out]
        (try rfl)
      case sB_5 =>
        intro listed bb u hsz hn hwt hinv
        obtain ⟨x, rfl, hC, hU, h2, h6, h8, h9, hA62, hA96, hAp⟩ := hinv
        simp only [putsX, Act.put, List.setIfInBounds_toArray, List.set_cons_zero, List.set_cons_succ]
        go_wp2_with fail
        refine stepQ_normal ⟨trivial, upd x 5 (.int .i64 at'), ?_, hC, hU.step (fun _ h => Option.some.inj h), h2.keep (by decide) (by decide) _ id, h6.keep (by decide) (by decide) _ id, h8.keep (by decide) (by decide) _ id, h9.keep (by decide) (by decide) _ id, hA62.keep (by decide), hA96.keep (by decide), hAp.keep (by decide) (by decide) (by decide) _⟩
        simp only [upd]
        rfl
      case sB_6 =>
        intro listed bb u hsz hn hwt hinv
        obtain ⟨x, rfl, hC, hU, h2, h6, h8, h9, hA62, hA96, hAp⟩ := hinv
        simp only [putsX, Act.put, List.setIfInBounds_toArray, List.set_cons_zero, List.set_cons_succ]
        obtain ⟨e0, e1, e2, e3⟩ := cells4 (keep_block hC k7 (lt_of_block k7))
        go_wp2_with fail
        refine stepQ_normal ⟨trivial, upd x 6 (.agg #[.int .i64 ck, .int .i64 cx, .int .i64 cy, .int .i64 cz]), ?_, hC, hU.step (fun _ h => Option.some.inj h), h2.keep (by decide) (by decide) _ id, h6.keep (by decide) (by decide) _ id, h8.keep (by decide) (by decide) _ id, h9.keep (by decide) (by decide) _ id, hA62.keep (by decide), hA96.keep (by decide), hAp.keep (by decide) (by decide) (by decide) _⟩
        simp only [upd]
        rfl
      case sB_7 =>
        intro listed bb u hsz hn hwt hinv
        obtain ⟨x, rfl, hC, hU, h2, h6, h8, h9, hA62, hA96, hAp⟩ := hinv
        have f5 := Lib.hid (hU 5 _ rfl (hwt 5 (by kernel_rfl)))
        have f6 := Lib.hid (hU 6 _ rfl (hwt 6 (by kernel_rfl)))
        simp only [putsX, Act.put, List.setIfInBounds_toArray, List.set_cons_zero, List.set_cons_succ]
        rw [f5.out]
        rw [f6.out]
        go_wp2_with fail
        refine stepQ_normal ⟨trivial, upd x 7 (.agg #[.int .i64 at', .int .i64 ck, .int .i64 cx, .int .i64 cy, .int .i64 cz]), ?_, hC, hU.step (fun _ h => Option.some.inj h), h2.keep (by decide) (by decide) _ id, h6.keep (by decide) (by decide) _ id, h8.keep (by decide) (by decide) _ id, h9.keep (by decide) (by decide) _ id, hA62.keep (by decide), hA96.keep (by decide), hAp.keep (by decide) (by decide) (by decide) _⟩
        simp only [upd]
        simp only [f5.out, f6.out]
        (try rfl)
      case sB_8 =>
        intro listed bb u hsz hn hwt hinv
        obtain ⟨x, rfl, hC, hU, h2, h6, h8, h9, hA62, hA96, hAp⟩ := hinv
        have f7 := Lib.hid (hU 7 _ rfl (hwt 7 (by kernel_rfl)))
        simp only [putsX, Act.put, List.setIfInBounds_toArray, List.set_cons_zero, List.set_cons_succ]
        rw [f7.out]
        have NEW : listed.getD 2 false = true → listed.getD 4 false = false → ∀ (b : Addr) (n' c' : Nat), x 2 = .slice (some b) n' c' → b.block ≠ u.heap.size := fun h2l h6l b n' c' hx => by
          obtain ⟨bn, e1, e2⟩ := h2 h2l h6l
          rw [e1] at hx
          cases hx
          have h : bn < u.heap.size := (e2.lo _ rfl).2
          show bn ≠ u.heap.size
          omega
        go_wp2_with fail
        refine stepQ_normal ⟨trivial, upd x 8 (.slice (some ⟨u.heap.size, 0, none⟩) 1 1), ?_, hC.alloc hC.size _, hU.step (fun _ h => by cases h), h2.keep (by decide) (by decide) _ (fun ⟨b1, b2, b3⟩ => ⟨b1, b2, b3.below (below_allocT _)⟩), h6.keep (by decide) (by decide) _ (fun ⟨b1, b2, b3, b4⟩ => ⟨b1, b2, b3, b4.below (below_allocT _)⟩), FactW.new ⟨_, rfl, heap_alloc_new _ _⟩, h9.keep (by decide) (by decide) _ (fun ⟨b1, b2, b3, b4⟩ => ⟨b1, b2, b3, b4.below (below_allocT _)⟩), hA62.keep (by decide), hA96.keep (by decide), Apart.newj (by decide) (by decide) (fun h2l h6l a' b' n' m' c' d' e1 e2 => by cases e2; exact NEW h2l h6l a' n' c' e1)⟩
        simp only [upd]
        simp only [f7.out]
        (try rfl)
      case sB_9 =>
        intro listed bb u hsz hn hwt hinv
        obtain ⟨x, rfl, hC, hU, h2, h6, h8, h9, hA62, hA96, hAp⟩ := hinv
        simp only [putsX, Act.put, List.setIfInBounds_toArray, List.set_cons_zero, List.set_cons_succ]
        obtain ⟨ab, cb, fp, hown⟩ := h6 (hwt 4 (by kernel_rfl)) hn
        obtain ⟨bn, fb, hbn⟩ := h8 (hwt 8 (by kernel_rfl)) hn
        have FP := Lib.hid fp
        have FB := Lib.hid fb
        rw [FP.out, FB.out]
        have hCs := hC.size
        have HLO := Lib.hid hown.lo
        clear fp fb
        go_wp2_with (at_builtin; refine append_ev rfl _ _ rfl (w7.heap.size) _ (ln) (L) rfl hown HL.out (some ⟨bn, 0, none⟩) 1 1 [(⟨at', ck, cx, cy, cz⟩ : Ev)] rfl rfl (fun h => by cases h) (by omega) (one_ev (e := (⟨at', ck, cx, cy, cz⟩ : Ev)) hbn) (by omega) hCs ?_)
        intro v' u' O2 hgrow
        obtain ⟨ad, cd, hv'⟩ := O2.shape
        rw [List.length_append, HL.out, List.length_singleton] at hv'
        subst hv'
        have hC' := hC.grown hgrow hCs (fun j hj => by obtain ⟨y', hy, hyj⟩ := slice_own hj; have := (HLO.out y' hy).1; omega)
        clear hown hbn
        go_wp2_with fail
        refine stepQ_normal ⟨trivial, upd x 9 (.slice ad (ln + 1) cd), ?_, hC', hU.step (fun _ h => by cases h), FactW.gone (hwt 4 (by kernel_rfl)), FactW.call (by rw [hsz]; decide), FactW.call (by rw [hsz]; decide), FactW.new ⟨ad, cd, rfl, O2⟩, hA62.keep (by decide), Aft.new (hwt 4 (by kernel_rfl)), Apart.gone (hwt 4 (by kernel_rfl))⟩
        simp only [upd]
        simp only [FP.out, FB.out]
        (try rfl)
      case sB_10 =>
        intro listed bb u hsz hn hwt hinv
        obtain ⟨x, rfl, hC, hU, h2, h6, h8, h9, hA62, hA96, hAp⟩ := hinv
        have f0 := Lib.hid (hU 0 _ rfl (hwt 0 (by kernel_rfl)))
        have f1 := Lib.hid (hU 1 _ rfl (hwt 1 (by kernel_rfl)))
        simp only [putsX, Act.put, List.setIfInBounds_toArray, List.set_cons_zero, List.set_cons_succ]
        obtain ⟨ab, cb, fp, hown⟩ := h9 (hwt 9 (by kernel_rfl)) hn
        have hcall : Calls Tryz.prog 9 #[x 0, x 1, x 9] u (Gives2 v u) := by rw [fp, f0.out, f1.out]; exact implFault_is t g0 B g2 g3 ab (ln + 1) cb (L ++ [(⟨at', ck, cx, cy, cz⟩ : Ev)]) N HNN.out v HV.out (LEN.out _) (by omega) hown.cap.1 hown.nil u hown.row
        clear fp
        go_wp2_with fail
        refine hcall.mono ?_
        rintro e' u' ⟨rfl, hb⟩
        go_wp2_with fail
        refine stepQ_normal ⟨trivial, upd x 10 (.tuple #[.int .i64 v.1, .int .i64 v.2]), ?_, hC.trans (hb.mono hC.size), hU.step (fun _ h => Option.some.inj h), h2.keep (by decide) (by decide) _ (fun ⟨b1, b2, b3⟩ => ⟨b1, b2, b3.below (hb)⟩), h6.keep (by decide) (by decide) _ (fun ⟨b1, b2, b3, b4⟩ => ⟨b1, b2, b3, b4.below (hb)⟩), h8.keep (by decide) (by decide) _ (fun ⟨b1, b2, b3⟩ => ⟨b1, b2, keep_block (hb) b3 (lt_of_block b3)⟩), FactW.call (by rw [hsz]; decide), hA62.keep (by decide), hA96.keep (by decide), hAp.keep (by decide) (by decide) (by decide) _⟩
        simp only [upd]
        rfl
      case sB_11 =>
        intro listed bb u hsz hn hwt hinv
        obtain ⟨x, rfl, hC, hU, h2, h6, h8, h9, hA62, hA96, hAp⟩ := hinv
        have f10 := Lib.hid (hU 10 _ rfl (hwt 10 (by kernel_rfl)))
        simp only [putsX, Act.put, List.setIfInBounds_toArray, List.set_cons_zero, List.set_cons_succ]
        rw [f10.out]
        go_wp2_with fail
        refine stepQ_normal ⟨trivial, upd x 11 (.tuple #[.int .i64 v.1, .int .i64 v.2]), ?_, hC, hU.step (fun _ h => Option.some.inj h), h2.keep (by decide) (by decide) _ id, h6.keep (by decide) (by decide) _ id, h8.keep (by decide) (by decide) _ id, h9.keep (by decide) (by decide) _ id, hA62.keep (by decide), hA96.keep (by decide), hAp.keep (by decide) (by decide) (by decide) _⟩
        simp only [upd]
        simp only [f10.out]
        (try rfl)
      case sB_12 =>
        intro listed bb u hsz hn hwt hinv
        obtain ⟨x, rfl, hC, hU, h2, h6, h8, h9, hA62, hA96, hAp⟩ := hinv
        have f11 := Lib.hid (hU 11 _ rfl (hwt 11 (by kernel_rfl)))
        simp only [putsX, Act.put, List.setIfInBounds_toArray, List.set_cons_zero, List.set_cons_succ]
        rw [f11.out]
        go_wp2_with fail
        refine stepQ_normal ⟨trivial, upd x 12 (.int .i64 v.1), ?_, hC, hU.step (fun _ h => Option.some.inj h), h2.keep (by decide) (by decide) _ id, h6.keep (by decide) (by decide) _ id, h8.keep (by decide) (by decide) _ id, h9.keep (by decide) (by decide) _ id, hA62.keep (by decide), hA96.keep (by decide), hAp.keep (by decide) (by decide) (by decide) _⟩
        simp only [upd]
        simp only [f11.out]
        (try rfl)
      case sB_13 =>
        intro listed bb u hsz hn hwt hinv
        obtain ⟨x, rfl, hC, hU, h2, h6, h8, h9, hA62, hA96, hAp⟩ := hinv
        have f11 := Lib.hid (hU 11 _ rfl (hwt 11 (by kernel_rfl)))
        simp only [putsX, Act.put, List.setIfInBounds_toArray, List.set_cons_zero, List.set_cons_succ]
        rw [f11.out]
        go_wp2_with fail
        refine stepQ_normal ⟨trivial, upd x 13 (.int .i64 v.2), ?_, hC, hU.step (fun _ h => Option.some.inj h), h2.keep (by decide) (by decide) _ id, h6.keep (by decide) (by decide) _ id, h8.keep (by decide) (by decide) _ id, h9.keep (by decide) (by decide) _ id, hA62.keep (by decide), hA96.keep (by decide), hAp.keep (by decide) (by decide) (by decide) _⟩
        simp only [upd]
        simp only [f11.out]
        (try rfl)
      case sB_14 =>
        intro listed bb u hsz hn hwt hinv
        obtain ⟨x, rfl, hC, hU, h2, h6, h8, h9, hA62, hA96, hAp⟩ := hinv
        have f12 := Lib.hid (hU 12 _ rfl (hwt 12 (by kernel_rfl)))
        simp only [putsX, Act.put, List.setIfInBounds_toArray, List.set_cons_zero, List.set_cons_succ]
        rw [f12.out]
        go_wp2_with fail
        refine stepQ_normal ⟨trivial, upd x 14 (.int .i64 v.1), ?_, hC, hU.step (fun _ h => Option.some.inj h), h2.keep (by decide) (by decide) _ id, h6.keep (by decide) (by decide) _ id, h8.keep (by decide) (by decide) _ id, h9.keep (by decide) (by decide) _ id, hA62.keep (by decide), hA96.keep (by decide), hAp.keep (by decide) (by decide) (by decide) _⟩
        simp only [upd]
        simp only [f12.out]
        (try rfl)
      case sB_15 =>
        intro listed bb u hsz hn hwt hinv
        obtain ⟨x, rfl, hC, hU, h2, h6, h8, h9, hA62, hA96, hAp⟩ := hinv
        have f13 := Lib.hid (hU 13 _ rfl (hwt 13 (by kernel_rfl)))
        simp only [putsX, Act.put, List.setIfInBounds_toArray, List.set_cons_zero, List.set_cons_succ]
        rw [f13.out]
        go_wp2_with fail
        refine stepQ_normal ⟨trivial, upd x 15 (.int .i64 v.2), ?_, hC, hU.step (fun _ h => Option.some.inj h), h2.keep (by decide) (by decide) _ id, h6.keep (by decide) (by decide) _ id, h8.keep (by decide) (by decide) _ id, h9.keep (by decide) (by decide) _ id, hA62.keep (by decide), hA96.keep (by decide), hAp.keep (by decide) (by decide) (by decide) _⟩
        simp only [upd]
        simp only [f13.out]
        (try rfl)
    case heB =>
      intro listed q u hall hC hU hS
      have fqa := hU 14 _ rfl (hall 14 (by decide))
      have fqb := hU 15 _ rfl (hall 15 (by decide))
      simp only [putsX, Act.put, List.setIfInBounds_toArray, List.set_cons_zero, List.set_cons_succ]
      rw [fqa, fqb]
      clear hall hU hS fqa fqb
      generalize q 0 = _q0, q 1 = _q1, q 2 = _q2, q 3 = _q3, q 4 = _q4, q 5 = _q5, q 6 = _q6, q 7 = _q7, q 8 = _q8, q 9 = _q9, q 10 = _q10, q 11 = _q11, q 12 = _q12, q 13 = _q13
      have y8 := keep_block hC y7 (lt_of_block y7)
      have z8 := keep_block hC z7 (lt_of_block z7)
      have k8 := keep_block hC k7 (lt_of_block k7)
      have HB8 : Hid (Below w.heap.size w u) := HB7.out.trans (hC.mono HB7.out.size)
      have HR8 := Lib.hid (HR7.out.below hC)
      clear hC y7 z7 k7 HB7 HR7
      generalize u = w8 at y8 z8 k8 HB8 HR8 ⊢
      go_wp2_with fail
      refine wp_region_flowV (fun k => match k with | 0 => some (.agg #[.int .i64 g0, .int .i64 B, .int .i64 g2, .int .i64 g3]) | 1 => some (.agg #[.int .i64 t.rcd, .int .i64 t.rp, .int .i64 t.ras, .int .i64 t.rrds, .int .i64 t.rrdl, .int .i64 t.faw, .int .i64 t.ccds, .int .i64 t.ccdl, .int .i64 t.rtp, .int .i64 t.wr, .int .i64 t.wtrs, .int .i64 t.wtrl, .int .i64 t.rtw, .int .i64 t.rfc, .int .i64 t.cke, .int .i64 t.xp, .int .i64 t.xs]) | 3 => some (.slice a ln cp) | 5 => some (.int .i64 at') | 6 => some (.int .i64 (at' - 1)) | 7 => some (.agg #[.int .i64 ck, .int .i64 cx, .int .i64 cy, .int .i64 cz]) | 8 => some (.agg #[.int .i64 (at' - 1), .int .i64 ck, .int .i64 cx, .int .i64 cy, .int .i64 cz]) | 11 => some (.tuple #[.int .i64 v'.1, .int .i64 v'.2]) | 12 => some (.tuple #[.int .i64 v'.1, .int .i64 v'.2]) | 13 => some (.int .i64 v'.1) | 14 => some (.int .i64 v'.2) | 15 => some (.int .i64 v'.1) | 16 => some (.int .i64 v'.2) | _ => none) (fun listed x u => FactW 2 4 (fun q u => ∃ bn, q = .slice (some ⟨bn, 0, none⟩) 0 0 ∧ evK.Own 43 (w8.heap.size) (.slice (some ⟨bn, 0, none⟩) 0 0) [] u) listed x u ∧ FactW 4 10 (fun q u => ∃ ab cb, q = .slice ab ln cb ∧ evK.Own 43 (w8.heap.size) (.slice ab ln cb) (L) u) listed x u ∧ FactW 9 10 (fun q u => ∃ bn, q = .slice (some ⟨bn, 0, none⟩) 1 1 ∧ u.heap[bn]? = some (.cells #[.int .i64 (at' - 1), .int .i64 ck, .int .i64 cx, .int .i64 cy, .int .i64 cz] 43)) listed x u ∧ FactW 10 11 (fun q u => ∃ ab cb, q = .slice ab (ln + 1) cb ∧ evK.Own 43 (w8.heap.size) (.slice ab (ln + 1) cb) (L ++ [(⟨(at' - 1), ck, cx, cy, cz⟩ : Ev)]) u) listed x u ∧ Aft 4 2 listed ∧ Aft 10 4 listed ∧ Apart 2 9 4 listed x) (fun _ => undef) (by kernel_rfl) (by kernel_rfl) ?hxC ?hSC ?hsC ?heC
      case hxC => simp only [putsX, Act.put, List.setIfInBounds_toArray, List.set_cons_zero, List.set_cons_succ]
      case hSC => exact ⟨FactW.zero _ _ _ _ _ _, FactW.zero _ _ _ _ _ _, FactW.zero _ _ _ _ _ _, FactW.zero _ _ _ _ _ _, Aft.zero _ _ _, Aft.zero _ _ _, Apart.zero _ _ _ _ _⟩
      case hsC =>
        simp only [flowSteps]
        refine ⟨?sC_0, ?sC_1, ?sC_2, ?sC_3, ?sC_4, ?sC_5, ?sC_6, ?sC_7, ?sC_8, ?sC_9, ?sC_10, ?sC_11, ?sC_12, ?sC_13, ?sC_14, ?sC_15, ?sC_16, trivial⟩
        case sC_0 =>
          intro listed bb u hsz hn hwt hinv
          obtain ⟨x, rfl, hC, hU, h2, h6, h8, h9, hA62, hA96, hAp⟩ := hinv
          simp only [putsX, Act.put, List.setIfInBounds_toArray, List.set_cons_zero, List.set_cons_succ]
          obtain ⟨c0, c1, c2, c3⟩ := cells4 (keep_block hC y8 (lt_of_block y8))
          go_wp2_with fail
          refine stepQ_normal ⟨trivial, upd x 0 (.agg #[.int .i64 g0, .int .i64 B, .int .i64 g2, .int .i64 g3]), ?_, hC, hU.step (fun _ h => Option.some.inj h), h2.keep (by decide) (by decide) _ id, h6.keep (by decide) (by decide) _ id, h8.keep (by decide) (by decide) _ id, h9.keep (by decide) (by decide) _ id, hA62.keep (by decide), hA96.keep (by decide), hAp.keep (by decide) (by decide) (by decide) _⟩
          simp only [upd]
          rfl
        case sC_1 =>
          intro listed bb u hsz hn hwt hinv
          obtain ⟨x, rfl, hC, hU, h2, h6, h8, h9, hA62, hA96, hAp⟩ := hinv
          simp only [putsX, Act.put, List.setIfInBounds_toArray, List.set_cons_zero, List.set_cons_succ]
          go_wp2_with ((with_reducible refine ld_tm ?_ ?_ (keep_block hC z8 (lt_of_block z8)) ?_); kernel_rfl; kernel_rfl; go_simp)
          refine stepQ_normal ⟨trivial, upd x 1 (.agg #[.int .i64 t.rcd, .int .i64 t.rp, .int .i64 t.ras, .int .i64 t.rrds, .int .i64 t.rrdl, .int .i64 t.faw, .int .i64 t.ccds, .int .i64 t.ccdl, .int .i64 t.rtp, .int .i64 t.wr, .int .i64 t.wtrs, .int .i64 t.wtrl, .int .i64 t.rtw, .int .i64 t.rfc, .int .i64 t.cke, .int .i64 t.xp, .int .i64 t.xs]), ?_, hC, hU.step (fun _ h => Option.some.inj h), h2.keep (by decide) (by decide) _ id, h6.keep (by decide) (by decide) _ id, h8.keep (by decide) (by decide) _ id, h9.keep (by decide) (by decide) _ id, hA62.keep (by decide), hA96.keep (by decide), hAp.keep (by decide) (by decide) (by decide) _⟩
          simp only [upd]
          rfl
        case sC_2 =>
          intro listed bb u hsz hn hwt hinv
          obtain ⟨x, rfl, hC, hU, h2, h6, h8, h9, hA62, hA96, hAp⟩ := hinv
          simp only [putsX, Act.put, List.setIfInBounds_toArray, List.set_cons_zero, List.set_cons_succ]
          have not9 : listed.getD 10 false = false := hA96.no (hA62.no hn)
          have NEW : listed.getD 9 false = true → ∀ (b : Addr) (n' c' : Nat), x 9 = .slice (some b) n' c' → u.heap.size ≠ b.block := fun h8l b n' c' hx => by
            obtain ⟨bn, e1, e2⟩ := h8 h8l not9
            rw [e1] at hx
            cases hx
            have := lt_of_block e2
            show u.heap.size ≠ bn
            omega
          go_wp2_with fail
          refine stepQ_normal ⟨trivial, upd x 2 (.slice (some ⟨u.heap.size, 0, none⟩) 0 0), ?_, hC.alloc hC.size _, hU.step (fun _ h => by cases h), FactW.new ⟨_, rfl, World.ownsRow_made (base := w8.heap.size) (e := 43) (size := 5) u #[] 0 hC.size (by decide) rfl⟩, h6.keep (by decide) (by decide) _ (fun ⟨b1, b2, b3, b4⟩ => ⟨b1, b2, b3, b4.below (below_allocT _)⟩), h8.keep (by decide) (by decide) _ (fun ⟨b1, b2, b3⟩ => ⟨b1, b2, keep_block (below_allocT _) b3 (lt_of_block b3)⟩), h9.keep (by decide) (by decide) _ (fun ⟨b1, b2, b3, b4⟩ => ⟨b1, b2, b3, b4.below (below_allocT _)⟩), hA62.keep (by decide), hA96.keep (by decide), Apart.newi (by decide) (by decide) (fun h8l _ a' b' n' m' c' d' e1 e2 => by cases e1; exact NEW h8l b' m' d' e2)⟩
          simp only [upd]
          rfl
        case sC_3 =>
          intro listed bb u hsz hn hwt hinv
          obtain ⟨x, rfl, hC, hU, h2, h6, h8, h9, hA62, hA96, hAp⟩ := hinv
          simp only [putsX, Act.put, List.setIfInBounds_toArray, List.set_cons_zero, List.set_cons_succ]
          go_wp2_with fail
          refine stepQ_normal ⟨trivial, upd x 3 (.slice a ln cp), ?_, hC, hU.step (fun _ h => Option.some.inj h), h2.keep (by decide) (by decide) _ id, h6.keep (by decide) (by decide) _ id, h8.keep (by decide) (by decide) _ id, h9.keep (by decide) (by decide) _ id, hA62.keep (by decide), hA96.keep (by decide), hAp.keep (by decide) (by decide) (by decide) _⟩
          simp only [upd]
          rfl
        case sC_4 =>
          intro listed bb u hsz hn hwt hinv
          obtain ⟨x, rfl, hC, hU, h2, h6, h8, h9, hA62, hA96, hAp⟩ := hinv
          have f3 := Lib.hid (hU 3 _ rfl (hwt 3 (by kernel_rfl)))
          simp only [putsX, Act.put, List.setIfInBounds_toArray, List.set_cons_zero, List.set_cons_succ]
          rw [f3.out]
          obtain ⟨b2, fp, hown⟩ := h2 (hwt 2 (by kernel_rfl)) hn
          have not9 := hA96.no hn
          have FP := Lib.hid fp
          rw [FP.out]
          have hCs := hC.size
          have HLO := Lib.hid (hown.lo _ rfl)
          clear fp
          go_wp2_with (at_builtin; refine append_ev rfl _ _ rfl (w8.heap.size) _ 0 [] rfl hown rfl a ln cp (L) rfl HL.out HNC.out hlc (HR8.out.below hC) (by omega) hCs ?_)
          intro v' u' O2 hgrow
          try rw [List.nil_append] at O2
          obtain ⟨ad, cd, hv'⟩ := O2.shape
          rw [HL.out] at hv'
          subst hv'
          have hC' := hC.grown hgrow hCs (fun j hj => by have := Option.some.inj hj; have h : w8.heap.size ≤ b2 := HLO.out.1; have h2 : b2 = j := this; omega)
          have K8 : listed.getD 9 false = true → (∃ bn, x 9 = .slice (some ⟨bn, 0, none⟩) 1 1 ∧ u.heap[bn]? = some (.cells #[.int .i64 (at' - 1), .int .i64 ck, .int .i64 cx, .int .i64 cy, .int .i64 cz] 43)) → ∃ bn, x 9 = .slice (some ⟨bn, 0, none⟩) 1 1 ∧ u'.heap[bn]? = some (.cells #[.int .i64 (at' - 1), .int .i64 ck, .int .i64 cx, .int .i64 cy, .int .i64 cz] 43) := fun h8l ⟨bn, e1, e2⟩ =>
            ⟨bn, e1, (hgrow.block bn (lt_of_block e2) (fun e => hAp (hwt 2 (by kernel_rfl)) h8l hn ⟨b2, 0, none⟩ ⟨bn, 0, none⟩ 0 1 0 1 FP.out e1 (Option.some.inj e).symm)).trans e2⟩
          clear hown
          go_wp2_with fail
          refine stepQ_normal ⟨trivial, upd x 4 (.slice ad ln cd), ?_, hC', hU.step (fun _ h => by cases h), FactW.call (by rw [hsz]; decide), FactW.new ⟨ad, cd, rfl, O2⟩, h8.keepL (by decide) (by decide) _ K8, FactW.no not9 (by decide) _, Aft.new (hwt 2 (by kernel_rfl)), hA96.keep (by decide), Apart.call (by rw [hsz]; decide)⟩
          simp only [upd]
          simp only [f3.out, FP.out]
          (try rfl)
        case sC_5 =>
          intro listed bb u hsz hn hwt hinv
          obtain ⟨x, rfl, hC, hU, h2, h6, h8, h9, hA62, hA96, hAp⟩ := hinv
          simp only [putsX, Act.put, List.setIfInBounds_toArray, List.set_cons_zero, List.set_cons_succ]
          go_wp2_with fail
          refine stepQ_normal ⟨trivial, upd x 5 (.int .i64 at'), ?_, hC, hU.step (fun _ h => Option.some.inj h), h2.keep (by decide) (by decide) _ id, h6.keep (by decide) (by decide) _ id, h8.keep (by decide) (by decide) _ id, h9.keep (by decide) (by decide) _ id, hA62.keep (by decide), hA96.keep (by decide), hAp.keep (by decide) (by decide) (by decide) _⟩
          simp only [upd]
          rfl
        case sC_6 =>
          intro listed bb u hsz hn hwt hinv
          obtain ⟨x, rfl, hC, hU, h2, h6, h8, h9, hA62, hA96, hAp⟩ := hinv
          have f5 := Lib.hid (hU 5 _ rfl (hwt 5 (by kernel_rfl)))
          simp only [putsX, Act.put, List.setIfInBounds_toArray, List.set_cons_zero, List.set_cons_succ]
          rw [f5.out]
          go_wp2_with fail
          refine stepQ_normal ⟨trivial, upd x 6 (.int .i64 (at' - 1)), ?_, hC, hU.step (fun _ h => Option.some.inj h), h2.keep (by decide) (by decide) _ id, h6.keep (by decide) (by decide) _ id, h8.keep (by decide) (by decide) _ id, h9.keep (by decide) (by decide) _ id, hA62.keep (by decide), hA96.keep (by decide), hAp.keep (by decide) (by decide) (by decide) _⟩
          simp only [upd]
          simp only [f5.out]
          (try rfl)
        case sC_7 =>
          intro listed bb u hsz hn hwt hinv
          obtain ⟨x, rfl, hC, hU, h2, h6, h8, h9, hA62, hA96, hAp⟩ := hinv
          simp only [putsX, Act.put, List.setIfInBounds_toArray, List.set_cons_zero, List.set_cons_succ]
          obtain ⟨e0, e1, e2, e3⟩ := cells4 (keep_block hC k8 (lt_of_block k8))
          go_wp2_with fail
          refine stepQ_normal ⟨trivial, upd x 7 (.agg #[.int .i64 ck, .int .i64 cx, .int .i64 cy, .int .i64 cz]), ?_, hC, hU.step (fun _ h => Option.some.inj h), h2.keep (by decide) (by decide) _ id, h6.keep (by decide) (by decide) _ id, h8.keep (by decide) (by decide) _ id, h9.keep (by decide) (by decide) _ id, hA62.keep (by decide), hA96.keep (by decide), hAp.keep (by decide) (by decide) (by decide) _⟩
          simp only [upd]
          rfl
        case sC_8 =>
          intro listed bb u hsz hn hwt hinv
          obtain ⟨x, rfl, hC, hU, h2, h6, h8, h9, hA62, hA96, hAp⟩ := hinv
          have f6 := Lib.hid (hU 6 _ rfl (hwt 6 (by kernel_rfl)))
          have f7 := Lib.hid (hU 7 _ rfl (hwt 7 (by kernel_rfl)))
          simp only [putsX, Act.put, List.setIfInBounds_toArray, List.set_cons_zero, List.set_cons_succ]
          rw [f6.out]
          rw [f7.out]
          go_wp2_with fail
          refine stepQ_normal ⟨trivial, upd x 8 (.agg #[.int .i64 (at' - 1), .int .i64 ck, .int .i64 cx, .int .i64 cy, .int .i64 cz]), ?_, hC, hU.step (fun _ h => Option.some.inj h), h2.keep (by decide) (by decide) _ id, h6.keep (by decide) (by decide) _ id, h8.keep (by decide) (by decide) _ id, h9.keep (by decide) (by decide) _ id, hA62.keep (by decide), hA96.keep (by decide), hAp.keep (by decide) (by decide) (by decide) _⟩
          simp only [upd]
          simp only [f6.out, f7.out]
          (try rfl)
        case sC_9 =>
          intro listed bb u hsz hn hwt hinv
          obtain ⟨x, rfl, hC, hU, h2, h6, h8, h9, hA62, hA96, hAp⟩ := hinv
          have f8 := Lib.hid (hU 8 _ rfl (hwt 8 (by kernel_rfl)))
          simp only [putsX, Act.put, List.setIfInBounds_toArray, List.set_cons_zero, List.set_cons_succ]
          rw [f8.out]
          have NEW : listed.getD 2 false = true → listed.getD 4 false = false → ∀ (b : Addr) (n' c' : Nat), x 2 = .slice (some b) n' c' → b.block ≠ u.heap.size := fun h2l h6l b n' c' hx => by
            obtain ⟨bn, e1, e2⟩ := h2 h2l h6l
            rw [e1] at hx
            cases hx
            have h : bn < u.heap.size := (e2.lo _ rfl).2
            show bn ≠ u.heap.size
            omega
          go_wp2_with fail
          refine stepQ_normal ⟨trivial, upd x 9 (.slice (some ⟨u.heap.size, 0, none⟩) 1 1), ?_, hC.alloc hC.size _, hU.step (fun _ h => by cases h), h2.keep (by decide) (by decide) _ (fun ⟨b1, b2, b3⟩ => ⟨b1, b2, b3.below (below_allocT _)⟩), h6.keep (by decide) (by decide) _ (fun ⟨b1, b2, b3, b4⟩ => ⟨b1, b2, b3, b4.below (below_allocT _)⟩), FactW.new ⟨_, rfl, heap_alloc_new _ _⟩, h9.keep (by decide) (by decide) _ (fun ⟨b1, b2, b3, b4⟩ => ⟨b1, b2, b3, b4.below (below_allocT _)⟩), hA62.keep (by decide), hA96.keep (by decide), Apart.newj (by decide) (by decide) (fun h2l h6l a' b' n' m' c' d' e1 e2 => by cases e2; exact NEW h2l h6l a' n' c' e1)⟩
          simp only [upd]
          simp only [f8.out]
          (try rfl)
        case sC_10 =>
          intro listed bb u hsz hn hwt hinv
          obtain ⟨x, rfl, hC, hU, h2, h6, h8, h9, hA62, hA96, hAp⟩ := hinv
          simp only [putsX, Act.put, List.setIfInBounds_toArray, List.set_cons_zero, List.set_cons_succ]
          obtain ⟨ab, cb, fp, hown⟩ := h6 (hwt 4 (by kernel_rfl)) hn
          obtain ⟨bn, fb, hbn⟩ := h8 (hwt 9 (by kernel_rfl)) hn
          have FP := Lib.hid fp
          have FB := Lib.hid fb
          rw [FP.out, FB.out]
          have hCs := hC.size
          have HLO := Lib.hid hown.lo
          clear fp fb
          go_wp2_with (at_builtin; refine append_ev rfl _ _ rfl (w8.heap.size) _ (ln) (L) rfl hown HL.out (some ⟨bn, 0, none⟩) 1 1 [(⟨(at' - 1), ck, cx, cy, cz⟩ : Ev)] rfl rfl (fun h => by cases h) (by omega) (one_ev (e := (⟨(at' - 1), ck, cx, cy, cz⟩ : Ev)) hbn) (by omega) hCs ?_)
          intro v' u' O2 hgrow
          obtain ⟨ad, cd, hv'⟩ := O2.shape
          rw [List.length_append, HL.out, List.length_singleton] at hv'
          subst hv'
          have hC' := hC.grown hgrow hCs (fun j hj => by obtain ⟨y', hy, hyj⟩ := slice_own hj; have := (HLO.out y' hy).1; omega)
          clear hown hbn
          go_wp2_with fail
          refine stepQ_normal ⟨trivial, upd x 10 (.slice ad (ln + 1) cd), ?_, hC', hU.step (fun _ h => by cases h), FactW.gone (hwt 4 (by kernel_rfl)), FactW.call (by rw [hsz]; decide), FactW.call (by rw [hsz]; decide), FactW.new ⟨ad, cd, rfl, O2⟩, hA62.keep (by decide), Aft.new (hwt 4 (by kernel_rfl)), Apart.gone (hwt 4 (by kernel_rfl))⟩
          simp only [upd]
          simp only [FP.out, FB.out]
          (try rfl)
        case sC_11 =>
          intro listed bb u hsz hn hwt hinv
          obtain ⟨x, rfl, hC, hU, h2, h6, h8, h9, hA62, hA96, hAp⟩ := hinv
          have f0 := Lib.hid (hU 0 _ rfl (hwt 0 (by kernel_rfl)))
          have f1 := Lib.hid (hU 1 _ rfl (hwt 1 (by kernel_rfl)))
          simp only [putsX, Act.put, List.setIfInBounds_toArray, List.set_cons_zero, List.set_cons_succ]
          obtain ⟨ab, cb, fp, hown⟩ := h9 (hwt 10 (by kernel_rfl)) hn
          have hcall : Calls Tryz.prog 9 #[x 0, x 1, x 10] u (Gives2 v' u) := by rw [fp, f0.out, f1.out]; exact implFault_is t g0 B g2 g3 ab (ln + 1) cb (L ++ [(⟨(at' - 1), ck, cx, cy, cz⟩ : Ev)]) N HNN.out v' HVV.out (LEN.out _) (by omega) hown.cap.1 hown.nil u hown.row
          clear fp
          go_wp2_with fail
          refine hcall.mono ?_
          rintro e' u' ⟨rfl, hb⟩
          go_wp2_with fail
          refine stepQ_normal ⟨trivial, upd x 11 (.tuple #[.int .i64 v'.1, .int .i64 v'.2]), ?_, hC.trans (hb.mono hC.size), hU.step (fun _ h => Option.some.inj h), h2.keep (by decide) (by decide) _ (fun ⟨b1, b2, b3⟩ => ⟨b1, b2, b3.below (hb)⟩), h6.keep (by decide) (by decide) _ (fun ⟨b1, b2, b3, b4⟩ => ⟨b1, b2, b3, b4.below (hb)⟩), h8.keep (by decide) (by decide) _ (fun ⟨b1, b2, b3⟩ => ⟨b1, b2, keep_block (hb) b3 (lt_of_block b3)⟩), FactW.call (by rw [hsz]; decide), hA62.keep (by decide), hA96.keep (by decide), hAp.keep (by decide) (by decide) (by decide) _⟩
          simp only [upd]
          rfl
        case sC_12 =>
          intro listed bb u hsz hn hwt hinv
          obtain ⟨x, rfl, hC, hU, h2, h6, h8, h9, hA62, hA96, hAp⟩ := hinv
          have f11 := Lib.hid (hU 11 _ rfl (hwt 11 (by kernel_rfl)))
          simp only [putsX, Act.put, List.setIfInBounds_toArray, List.set_cons_zero, List.set_cons_succ]
          rw [f11.out]
          go_wp2_with fail
          refine stepQ_normal ⟨trivial, upd x 12 (.tuple #[.int .i64 v'.1, .int .i64 v'.2]), ?_, hC, hU.step (fun _ h => Option.some.inj h), h2.keep (by decide) (by decide) _ id, h6.keep (by decide) (by decide) _ id, h8.keep (by decide) (by decide) _ id, h9.keep (by decide) (by decide) _ id, hA62.keep (by decide), hA96.keep (by decide), hAp.keep (by decide) (by decide) (by decide) _⟩
          simp only [upd]
          simp only [f11.out]
          (try rfl)
        case sC_13 =>
          intro listed bb u hsz hn hwt hinv
          obtain ⟨x, rfl, hC, hU, h2, h6, h8, h9, hA62, hA96, hAp⟩ := hinv
          have f12 := Lib.hid (hU 12 _ rfl (hwt 12 (by kernel_rfl)))
          simp only [putsX, Act.put, List.setIfInBounds_toArray, List.set_cons_zero, List.set_cons_succ]
          rw [f12.out]
          go_wp2_with fail
          refine stepQ_normal ⟨trivial, upd x 13 (.int .i64 v'.1), ?_, hC, hU.step (fun _ h => Option.some.inj h), h2.keep (by decide) (by decide) _ id, h6.keep (by decide) (by decide) _ id, h8.keep (by decide) (by decide) _ id, h9.keep (by decide) (by decide) _ id, hA62.keep (by decide), hA96.keep (by decide), hAp.keep (by decide) (by decide) (by decide) _⟩
          simp only [upd]
          simp only [f12.out]
          (try rfl)
        case sC_14 =>
          intro listed bb u hsz hn hwt hinv
          obtain ⟨x, rfl, hC, hU, h2, h6, h8, h9, hA62, hA96, hAp⟩ := hinv
          have f12 := Lib.hid (hU 12 _ rfl (hwt 12 (by kernel_rfl)))
          simp only [putsX, Act.put, List.setIfInBounds_toArray, List.set_cons_zero, List.set_cons_succ]
          rw [f12.out]
          go_wp2_with fail
          refine stepQ_normal ⟨trivial, upd x 14 (.int .i64 v'.2), ?_, hC, hU.step (fun _ h => Option.some.inj h), h2.keep (by decide) (by decide) _ id, h6.keep (by decide) (by decide) _ id, h8.keep (by decide) (by decide) _ id, h9.keep (by decide) (by decide) _ id, hA62.keep (by decide), hA96.keep (by decide), hAp.keep (by decide) (by decide) (by decide) _⟩
          simp only [upd]
          simp only [f12.out]
          (try rfl)
        case sC_15 =>
          intro listed bb u hsz hn hwt hinv
          obtain ⟨x, rfl, hC, hU, h2, h6, h8, h9, hA62, hA96, hAp⟩ := hinv
          have f13 := Lib.hid (hU 13 _ rfl (hwt 13 (by kernel_rfl)))
          simp only [putsX, Act.put, List.setIfInBounds_toArray, List.set_cons_zero, List.set_cons_succ]
          rw [f13.out]
          go_wp2_with fail
          refine stepQ_normal ⟨trivial, upd x 15 (.int .i64 v'.1), ?_, hC, hU.step (fun _ h => Option.some.inj h), h2.keep (by decide) (by decide) _ id, h6.keep (by decide) (by decide) _ id, h8.keep (by decide) (by decide) _ id, h9.keep (by decide) (by decide) _ id, hA62.keep (by decide), hA96.keep (by decide), hAp.keep (by decide) (by decide) (by decide) _⟩
          simp only [upd]
          simp only [f13.out]
          (try rfl)
        case sC_16 =>
          intro listed bb u hsz hn hwt hinv
          obtain ⟨x, rfl, hC, hU, h2, h6, h8, h9, hA62, hA96, hAp⟩ := hinv
          have f14 := Lib.hid (hU 14 _ rfl (hwt 14 (by kernel_rfl)))
          simp only [putsX, Act.put, List.setIfInBounds_toArray, List.set_cons_zero, List.set_cons_succ]
          rw [f14.out]
          go_wp2_with fail
          refine stepQ_normal ⟨trivial, upd x 16 (.int .i64 v'.2), ?_, hC, hU.step (fun _ h => Option.some.inj h), h2.keep (by decide) (by decide) _ id, h6.keep (by decide) (by decide) _ id, h8.keep (by decide) (by decide) _ id, h9.keep (by decide) (by decide) _ id, hA62.keep (by decide), hA96.keep (by decide), hAp.keep (by decide) (by decide) (by decide) _⟩
          simp only [upd]
          simp only [f14.out]
          (try rfl)
      case heC =>
        intro listed q u hall hC hU hS
        have fqa := hU 15 _ rfl (hall 15 (by decide))
        have fqb := hU 16 _ rfl (hall 16 (by decide))
        simp only [putsX, Act.put, List.setIfInBounds_toArray, List.set_cons_zero, List.set_cons_succ]
        rw [fqa, fqb]
        clear hall hU hS fqa fqb
        generalize q 0 = _q0, q 1 = _q1, q 2 = _q2, q 3 = _q3, q 4 = _q4, q 5 = _q5, q 6 = _q6, q 7 = _q7, q 8 = _q8, q 9 = _q9, q 10 = _q10, q 11 = _q11, q 12 = _q12, q 13 = _q13, q 14 = _q14
        have HB9 : Hid (Below w.heap.size w u) := HB8.out.trans (hC.mono HB8.out.size)
        clear hC
        go_wp2_with fail
        go_ret
        exact ⟨rfl, HB9.out⟩

end Go.Proofs.YtihhcnckoeaihaaGreat
