/-
  The walks of the exact statements over ranks, out of the contracts: Allowed.
-/
import Derived.Test.YtigoniochamjgaaBnkE
namespace Go.Proofs.Ytigoniochamjgaa
open Go.RowKit

set_option linter.unusedVariables false


set_option maxHeartbeats 16000000 in
set_option maxRecDepth 100000 in
theorem exAllowed_of (IMPL : Hid IAllowed) (ea eb ec ed : Int) (ll : List Value) (k x y z : Int) (w : World) (s : Sh.Fits w (.and (.row (.and .flag (.and (.num .i64) .fin))) (.and (.num .i64) .fin)) ll) :
    Calls Try.prog 7 #[.agg #[.int .i64 ea, .int .i64 eb, .int .i64 ec, .int .i64 ed], .agg ll.toArray, .agg #[.int .i64 k, .int .i64 x, .int .i64 y, .int .i64 z]] w fun e w' => e = .returned (.bool true) ∧ Below w.heap.size w w' := by
  obtain ⟨ad, n, cap, zs, pw, rfl, hz, hr, hn⟩ := rank_in s
  have HZ := Lib.hid hz
  obtain ⟨sv, hsv⟩ : ∃ v : Int, (if (1048576 : Int) - (n : Int) < 0 then -1 else 1048576 - (n : Int)) = v := ⟨_, rfl⟩
  have HSV := Lib.hid hsv
  obtain ⟨w1, hw1⟩ : ∃ u, (((w.alloc (.cells #[.int .i64 ea, .int .i64 eb, .int .i64 ec, .int .i64 ed] 48)).alloc (.cells #[.slice ad n cap, .int .i64 pw] 53)).alloc (.cells #[.int .i64 k, .int .i64 x, .int .i64 y, .int .i64 z] 57)) = u := ⟨_, rfl⟩
  have HB1 : Hid (Below w.heap.size w w1) := by subst hw1; exact (((Below.refl _ _).alloc (Nat.le_refl _) _).alloc (by simp) _).alloc (by simp; omega) _
  have g1 : w1.heap[w.heap.size]? = some (.cells #[.int .i64 ea, .int .i64 eb, .int .i64 ec, .int .i64 ed] 48) := by subst hw1; exact box3_0 _ _ _ _
  have r1 : w1.heap[w.heap.size + 1]? = some (.cells #[.slice ad n cap, .int .i64 pw] 53) := by subst hw1; exact box3_1 _ _ _ _
  have c1 : w1.heap[w.heap.size + 1 + 1]? = some (.cells #[.int .i64 k, .int .i64 x, .int .i64 y, .int .i64 z] 57) := by subst hw1; exact box3_2 _ _ _ _
  have HR0 := Lib.hid (fun (u : World) (hb : Below w.heap.size w u) => hr.below hb)
  obtain ⟨v, hv⟩ : ∃ v, allowR ea eb ec ed zs pw k x y z = v := ⟨_, rfl⟩
  have HV := Lib.hid hv
  clear hv
  clear hz hr
  go_enter Try.func7, Try.ntmps7
  obtain ⟨vg0, vg1, vg2, vg3⟩ := cells4 g1
  obtain ⟨vr0, vr1⟩ := cells2 r1
  obtain ⟨vc0, vc1, vc2, vc3⟩ := cells4 c1
  go_wp2_with fail
  clear vg0 vg1 vg2 vg3 vr0 vr1 vc0 vc1 vc2 vc3
  refine (szRank_is _ _ _ _ 1048576 sv hn (by omega) (by omega) HSV.out _).mono ?_
  rintro e w2 ⟨rfl, hb2⟩
  have g2 := keep_block hb2 g1 (lt_of_block g1)
  have r2 := keep_block hb2 r1 (lt_of_block r1)
  have c2 := keep_block hb2 c1 (lt_of_block c1)
  have HB2 : Hid (Below w.heap.size w w2) := HB1.out.trans (hb2.mono HB1.out.size)
  clear g1 r1 c1 HB1
  clear hb2
  by_cases hbig : (1048576 : Int) - n < 0
  · have hs : sv < 0 := by rw [← hsv, if_pos hbig]; omega
    clear hsv hbig
    go_wp2
    go_ret
    exact ⟨rfl, HB2.out⟩
  have hs : 0 ≤ sv := by rw [← hsv, if_neg hbig]; omega
  have hn2 : n ≤ 1048576 := by omega
  clear hsv hbig hn
  go_wp2_with fail
  refine wp_region_float (A := ?A1) [.h, .t, .h, .t, .h, .t, .t, .e] (by kernel_rfl) (by kernel_rfl) (fun u => u.heap[w.heap.size]? = some (.cells #[.int .i64 ea, .int .i64 eb, .int .i64 ec, .int .i64 ed] 48) ∧ u.heap[(w.heap.size + 1)]? = some (.cells #[.slice ad n cap, .int .i64 pw] 53) ∧ u.heap[(w.heap.size + 1 + 1)]? = some (.cells #[.int .i64 k, .int .i64 x, .int .i64 y, .int .i64 z] 57)) ?hC1 ?hH1 ?hT1
  case hC1 => exact ⟨g2, r2, c2⟩
  case hH1 =>
    intro u hu
    obtain ⟨a0, a1, a2, a3⟩ := cells4 hu.1
    have z0 := fun q : Same u => q.cell a0
    have z1 := fun q : Same u => q.cell a1
    have z2 := fun q : Same u => q.cell a2
    have z3 := fun q : Same u => q.cell a3
    obtain ⟨a4, a5⟩ := cells2 hu.2.1
    have z4 := fun q : Same u => q.cell a4
    have z5 := fun q : Same u => q.cell a5
    obtain ⟨a6, a7, a8, a9⟩ := cells4 hu.2.2
    have z6 := fun q : Same u => q.cell a6
    have z7 := fun q : Same u => q.cell a7
    have z8 := fun q : Same u => q.cell a8
    have z9 := fun q : Same u => q.cell a9
    simp only [headsOf]
    repeat (go_big_quiet_step (fail))
    refine wpQuiet_nil ?_
    exact rfl
  case hT1 =>
    simp only [chainT]
    have g3 : w2.drew.heap[w.heap.size]? = some (.cells #[.int .i64 ea, .int .i64 eb, .int .i64 ec, .int .i64 ed] 48) := g2
    have r3 : w2.drew.heap[(w.heap.size + 1)]? = some (.cells #[.slice ad n cap, .int .i64 pw] 53) := r2
    have c3 : w2.drew.heap[(w.heap.size + 1 + 1)]? = some (.cells #[.int .i64 k, .int .i64 x, .int .i64 y, .int .i64 z] 57) := c2
    have HB3 : Hid (Below w.heap.size w w2.drew) := Below.drew HB2.out
    clear g2 r2 c2 HB2
    generalize w2.drew = w3 at g3 r3 c3 HB3 ⊢
    go_wp2_with fail
    refine (toGeometry_any _ _ _ _ _).mono ?_
    rintro e w4 ⟨rfl, hb4⟩
    have g4 := keep_block hb4 g3 (lt_of_block g3)
    have r4 := keep_block hb4 r3 (lt_of_block r3)
    have c4 := keep_block hb4 c3 (lt_of_block c3)
    have HB4 : Hid (Below w.heap.size w w4) := HB3.out.trans (hb4.mono HB3.out.size)
    clear g3 r3 c3 HB3
    clear hb4
    go_wp2_with fail
    refine stepQ_normal ⟨⟨g4, r4, c4⟩, ?_⟩
    go_wp2_with fail
    refine (toRank_is _ _ _ _ _ HZ.out (by omega) _ (HR0.out _ HB4.out)).mono ?_
    rintro e w5 ⟨Sa, Sc, rfl, own5, hb5⟩
    have g5 := keep_block hb5 g4 (lt_of_block g4)
    have r5 := keep_block hb5 r4 (lt_of_block r4)
    have c5 := keep_block hb5 c4 (lt_of_block c4)
    have HB5 : Hid (Below w.heap.size w w5) := HB4.out.trans (hb5.mono HB4.out.size)
    clear g4 r4 c4 HB4
    have S5 : Hid (RowB w5 Sa zs) := own5.row
    have NS : Hid (Sa = none → Sc = 0) := own5.none
    clear own5
    clear hb5
    go_wp2_with fail
    refine stepQ_normal ⟨⟨g5, r5, c5⟩, ?_⟩
    go_wp2_with fail
    refine (toCommand_any _ _ _ _ _).mono ?_
    rintro e w6 ⟨rfl, hb6⟩
    have g6 := keep_block hb6 g5 (lt_of_block g5)
    have r6 := keep_block hb6 r5 (lt_of_block r5)
    have c6 := keep_block hb6 c5 (lt_of_block c5)
    have S6 : Hid (RowB w6 Sa zs) := S5.out.below hb6
    have HB6 : Hid (Below w.heap.size w w6) := HB5.out.trans (hb6.mono HB5.out.size)
    clear g5 r5 c5 S5 HB5
    clear hb6
    go_wp2_with fail
    refine stepQ_normal ⟨⟨g6, r6, c6⟩, ?_⟩
    go_wp2_with fail
    refine (specAllowed_is _ _ _ _ _ _ _ _ _ _ _ _ _ _ HV.out HZ.out (by omega) _ S6.out).mono ?_
    rintro e w7 ⟨rfl, hb7⟩
    have g7 := keep_block hb7 g6 (lt_of_block g6)
    have r7 := keep_block hb7 r6 (lt_of_block r6)
    have c7 := keep_block hb7 c6 (lt_of_block c6)
    have S7 : Hid (RowB w7 Sa zs) := S6.out.below hb7
    have HB7 : Hid (Below w.heap.size w w7) := HB6.out.trans (hb7.mono HB6.out.size)
    clear g6 r6 c6 S6 HB6
    clear hb7
    go_wp2_with fail
    refine stepQ_normal ⟨⟨g7, r7, c7⟩, ?_⟩
    go_wp2_with fail
    refine stepQ_normal ⟨trivial, ?_⟩
    clear S7
    obtain ⟨vg0, vg1, vg2, vg3⟩ := cells4 g7
    obtain ⟨vr0, vr1⟩ := cells2 r7
    obtain ⟨vc0, vc1, vc2, vc3⟩ := cells4 c7
    go_wp2_with fail
    clear vg0 vg1 vg2 vg3 vr0 vr1 vc0 vc1 vc2 vc3
    refine (toRank_is _ _ _ _ _ HZ.out (by omega) _ (HR0.out _ HB7.out)).mono ?_
    rintro e w8 ⟨Xa, Xc, rfl, own8, hb8⟩
    have g8 := keep_block hb8 g7 (lt_of_block g7)
    have r8 := keep_block hb8 r7 (lt_of_block r7)
    have c8 := keep_block hb8 c7 (lt_of_block c7)
    have HB8 : Hid (Below w.heap.size w w8) := HB7.out.trans (hb8.mono HB7.out.size)
    clear g7 r7 c7 HB7
    have X8 : Hid (RowB w8 Xa zs) := own8.row
    have NX : Hid (Xa = none → Xc = 0) := own8.none
    clear own8
    clear hb8
    have hb9 : Below w8.heap.size w8 (w8.alloc (.cells #[.slice Xa n Xc, .int .i64 pw] 28)) := (Below.refl _ _).alloc (Nat.le_refl _) _
    have g9 := keep_block hb9 g8 (lt_of_block g8)
    have r9 := keep_block hb9 r8 (lt_of_block r8)
    have c9 := keep_block hb9 c8 (lt_of_block c8)
    have X9 : Hid (RowB (w8.alloc (.cells #[.slice Xa n Xc, .int .i64 pw] 28)) Xa zs) := X8.out.below hb9
    have x9 := heap_alloc_new w8 (.cells #[.slice Xa n Xc, .int .i64 pw] 28)
    have HB9 : Hid (Below w.heap.size w (w8.alloc (.cells #[.slice Xa n Xc, .int .i64 pw] 28))) := HB8.out.trans (hb9.mono HB8.out.size)
    go_wp2_with fail
    clear hb9
    clear g8 r8 c8 X8 HB8
    generalize (w8.alloc (.cells #[.slice Xa n Xc, .int .i64 pw] 28)) = w9 at g9 r9 c9 X9 x9 HB9 ⊢
    obtain ⟨xP, hxP⟩ : ∃ p, w8.heap.size = p := ⟨_, rfl⟩
    rw [hxP] at x9
    (try simp only [hxP])
    clear hxP
    obtain ⟨vg0, vg1, vg2, vg3⟩ := cells4 g9
    obtain ⟨vr0, vr1⟩ := cells2 r9
    obtain ⟨vc0, vc1, vc2, vc3⟩ := cells4 c9
    obtain ⟨vx0, vx1⟩ := cells2 x9
    have zvg0 := fun qq : Later w9 => qq.cell vg0
    have zvg1 := fun qq : Later w9 => qq.cell vg1
    have zvg2 := fun qq : Later w9 => qq.cell vg2
    have zvg3 := fun qq : Later w9 => qq.cell vg3
    have zvr0 := fun qq : Later w9 => qq.cell vr0
    have zvr1 := fun qq : Later w9 => qq.cell vr1
    have zvc0 := fun qq : Later w9 => qq.cell vc0
    have zvc1 := fun qq : Later w9 => qq.cell vc1
    have zvc2 := fun qq : Later w9 => qq.cell vc2
    have zvc3 := fun qq : Later w9 => qq.cell vc3
    have zvx0 := fun qq : Later w9 => qq.cell vx0
    have zvx1 := fun qq : Later w9 => qq.cell vx1
    have HZX := Lib.hid (fun zz : Later w9 => X9.out.below zz.ok)
    clear vg0 vg1 vg2 vg3 vr0 vr1 vc0 vc1 vc2 vc3 vx0 vx1
    go_wp2_with fail
    refine wp_region_later (by kernel_rfl) (by kernel_rfl) ?_
    repeat (go_big_quiet_step (first | (go_at_call 25; exact Gives.later _ (toGeometry_any _ _ _ _ _)) | (go_at_call 33; exact Gives.later _ (toCommand_any _ _ _ _ _)) | (go_at_call 14; exact Gives.later _ (IMPL.out _ _ _ _ _ _ _ _ _ _ _ _ _ _ HV.out HZ.out (by omega) NX.out _ (HZX.out _)))))
    refine wpQuiet_nil ?_
    rintro w10 ⟨zz, hzz⟩
    have hb10 : Below w9.heap.size w9 w10 := hzz ▸ zz.ok
    have g10 := keep_block hb10 g9 (lt_of_block g9)
    have r10 := keep_block hb10 r9 (lt_of_block r9)
    have c10 := keep_block hb10 c9 (lt_of_block c9)
    have x10 := keep_block hb10 x9 (lt_of_block x9)
    have X10 : Hid (RowB w10 Xa zs) := X9.out.below hb10
    have HB10 : Hid (Below w.heap.size w w10) := HB9.out.trans (hb10.mono HB9.out.size)
    clear g9 r9 c9 x9 X9 HB9
    clear hb10 hzz zz zvg0 zvg1 zvg2 zvg3 zvr0 zvr1 zvc0 zvc1 zvc2 zvc3 zvx0 zvx1 HZX
    have tvv : (v != v) = false := by simp
    go_wp2_with fail
    refine wp_region_float (A := ?A2) [.h, .h, .t, .t, .e] (by kernel_rfl) (by kernel_rfl) (fun u => u.heap[(w.heap.size + 1)]? = some (.cells #[.slice ad n cap, .int .i64 pw] 53) ∧ u.heap[xP]? = some (.cells #[.slice Xa n Xc, .int .i64 pw] 28)) ?hC2 ?hH2 ?hT2
    case hC2 => exact ⟨r10, x10⟩
    case hH2 =>
      intro u hu
      obtain ⟨a0, a1⟩ := cells2 hu.1
      have z0 := fun q : Same u => q.cell a0
      have z1 := fun q : Same u => q.cell a1
      obtain ⟨a2, a3⟩ := cells2 hu.2
      have z2 := fun q : Same u => q.cell a2
      have z3 := fun q : Same u => q.cell a3
      simp only [headsOf]
      repeat (go_big_quiet_step (fail))
      refine wpQuiet_nil ?_
      exact rfl
    case hT2 =>
      simp only [chainT]
      have g11 : w10.drew.heap[w.heap.size]? = some (.cells #[.int .i64 ea, .int .i64 eb, .int .i64 ec, .int .i64 ed] 48) := g10
      have r11 : w10.drew.heap[(w.heap.size + 1)]? = some (.cells #[.slice ad n cap, .int .i64 pw] 53) := r10
      have c11 : w10.drew.heap[(w.heap.size + 1 + 1)]? = some (.cells #[.int .i64 k, .int .i64 x, .int .i64 y, .int .i64 z] 57) := c10
      have x11 : w10.drew.heap[xP]? = some (.cells #[.slice Xa n Xc, .int .i64 pw] 28) := x10
      have X11 : Hid (RowB w10.drew Xa zs) := X10.out
      have HB11 : Hid (Below w.heap.size w w10.drew) := Below.drew HB10.out
      clear g10 r10 c10 x10 X10 HB10
      generalize w10.drew = w11 at g11 r11 c11 x11 X11 HB11 ⊢
      go_wp2_with fail
      refine (toRank_is _ _ _ _ _ HZ.out (by omega) _ (HR0.out _ HB11.out)).mono ?_
      rintro e w12 ⟨Ea, Ec, rfl, own12, hb12⟩
      have g12 := keep_block hb12 g11 (lt_of_block g11)
      have r12 := keep_block hb12 r11 (lt_of_block r11)
      have c12 := keep_block hb12 c11 (lt_of_block c11)
      have x12 := keep_block hb12 x11 (lt_of_block x11)
      have X12 : Hid (RowB w12 Xa zs) := X11.out.below hb12
      have HB12 : Hid (Below w.heap.size w w12) := HB11.out.trans (hb12.mono HB11.out.size)
      clear g11 r11 c11 x11 X11 HB11
      have E12 : Hid (RowB w12 Ea zs) := own12.row
      clear own12
      clear hb12
      go_wp2_with fail
      refine stepQ_normal ⟨⟨r12, x12⟩, ?_⟩
      go_wp2_with fail
      refine (eqRank_is pw HZ.out X12.out E12.out (by omega)).mono ?_
      rintro e w13 ⟨rfl, hb13⟩
      have g13 := keep_block hb13 g12 (lt_of_block g12)
      have r13 := keep_block hb13 r12 (lt_of_block r12)
      have c13 := keep_block hb13 c12 (lt_of_block c12)
      have x13 := keep_block hb13 x12 (lt_of_block x12)
      have X13 : Hid (RowB w13 Xa zs) := X12.out.below hb13
      have E13 : Hid (RowB w13 Ea zs) := E12.out.below hb13
      have HB13 : Hid (Below w.heap.size w w13) := HB12.out.trans (hb13.mono HB12.out.size)
      clear g12 r12 c12 x12 X12 E12 HB12
      clear hb13
      go_wp2_with fail
      refine stepQ_normal ⟨⟨r13, x13⟩, ?_⟩
      go_wp2_with fail
      refine stepQ_normal ⟨trivial, ?_⟩
      go_wp2
      go_ret
      exact ⟨rfl, HB13.out⟩


end Go.Proofs.Ytigoniochamjgaa
