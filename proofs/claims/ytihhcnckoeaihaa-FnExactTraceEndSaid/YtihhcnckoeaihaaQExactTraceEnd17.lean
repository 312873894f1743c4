/-
  Texts of one proof, merged: TrcJ, TrcQ.
-/
import Derived.Test.YtihhcnckoeaihaaQExactTraceEnd8
import Derived.Test.YtihhcnckoeaihaaQExactTraceEnd10
import Derived.Test.YtihhcnckoeaihaaQExactTraceEnd13
import Derived.Test.YtihhcnckoeaihaaQExactTraceEnd14
import Derived.Test.YtihhcnckoeaihaaQExactTraceEnd16
import Derived.Deep.WholeRow
import Derived.Laws.EntriesVeiled
import Derived.LoopN
namespace Go.Proofs.Ytihhcnckoeaihaa
open Go.RowKit Go.PlainAid

set_option linter.unusedVariables false

set_option maxHeartbeats 32000000 in
set_option maxRecDepth 100000 in
theorem exEnd_of (IMPL : Hid IEnd) (g0 B g2 g3 : Int) (a0 : Option Addr) (n cap : Nat) (w : World) (s : Sh.Fits w (.row (.and (.num .i64) (.and (.and (.num .i64) (.and (.num .i64) (.and (.num .i64) (.and (.num .i64) .fin)))) .fin))) [.slice a0 n cap]) :
    Calls Try.prog 4 #[.agg #[.int .i64 g0, .int .i64 B, .int .i64 g2, .int .i64 g3], .slice a0 n cap] w fun e w' => e = .returned (.bool true) ∧ Below w.heap.size w w' := by
  obtain ⟨zs, hz, hr, hmx, _, _⟩ := events_in s
  have HZ := Lib.hid hz
  have HR0 := Lib.hid hr
  obtain ⟨N, hN⟩ : ∃ N : Nat, bankN g0 B g2 g3 = (N : Int) := ⟨(bankN g0 B g2 g3).toNat, by have := bankN_range g0 B g2 g3; omega⟩
  have HNN := Lib.hid hN
  obtain ⟨l', hl'⟩ : ∃ u, EndL g0 B g2 g3 N zs = u := ⟨_, rfl⟩
  have HLP := Lib.hid hl'
  obtain ⟨pw', hp'⟩ : ∃ u, EndP g0 B g2 g3 N zs = u := ⟨_, rfl⟩
  have HPP := Lib.hid hp'
  obtain ⟨v, hv⟩ : ∃ v, (endOk g0 B g2 g3 N zs && decide (GeoOk g0 B g2 g3)) = v := ⟨_, rfl⟩
  have HV := Lib.hid hv
  obtain ⟨n', hn'⟩ : ∃ u, l'.length = u := ⟨_, rfl⟩
  have HNP := Lib.hid hn'
  have hn8 : n' ≤ 8 := by
    have := bankN_range g0 B g2 g3
    rw [← hn', ← hl']
    unfold EndL
    split
    · rw [stL_length]; omega
    · exact Nat.zero_le _
  obtain ⟨sv, hsv⟩ : ∃ sv, (if (1048576 : Int) - n < 0 then -1 else (1048576 : Int) - n) = sv := ⟨_, rfl⟩
  have HSV := Lib.hid hsv
  obtain ⟨w1, hw1⟩ : ∃ u, w.alloc (.cells #[.int .i64 g0, .int .i64 B, .int .i64 g2, .int .i64 g3] 23) = u := ⟨_, rfl⟩
  have HB1 : Hid (Below w.heap.size w w1) := by subst hw1; exact (Below.refl _ _).alloc (Nat.le_refl _) _
  have gg1 : w1.heap[w.heap.size]? = some (.cells #[.int .i64 g0, .int .i64 B, .int .i64 g2, .int .i64 g3] 23) := by subst hw1; exact heap_alloc_new _ _
  have tvv : (v != v) = false := by simp
  clear hN hl' hp' hv hn' hz hr
  by_cases hbig : (n : Int) ≤ 1048576
  case neg =>
    have t0 : decide (sv < 0) = true := decide_eq_true (by rw [← hsv, if_pos (by omega)]; decide)
    clear hsv
    go_enter Try.func4, Try.ntmps4
    go_wp2_with fail
    refine (szEventS_is _ _ _ _ sv hmx (by decide) (by decide) HSV.out _).mono ?_
    rintro e w2 ⟨rfl, hb2⟩
    go_wp2
    go_ret
    exact ⟨rfl, HB1.out.trans (hb2.mono HB1.out.size)⟩
  have t0 : decide (sv < 0) = false := decide_eq_false (by rw [← hsv, if_neg (by omega)]; omega)
  clear hsv
  go_enter Try.func4, Try.ntmps4
  obtain ⟨vgg0, vgg1, vgg2, vgg3⟩ := cells4 gg1
  go_wp2_with fail
  clear vgg0 vgg1 vgg2 vgg3
  refine (szEventS_is _ _ _ _ sv hmx (by decide) (by decide) HSV.out _).mono ?_
  rintro e w2 ⟨rfl, hb2⟩
  have gg2 := keep_block hb2 gg1 (lt_of_block gg1)
  have HB2 : Hid (Below w.heap.size w w2) := HB1.out.trans (hb2.mono HB1.out.size)
  clear gg1 HB1
  clear hb2
  clear hw1
  obtain ⟨vgg0, vgg1, vgg2, vgg3⟩ := cells4 gg2
  go_wp2_with fail
  clear vgg0 vgg1 vgg2 vgg3
  refine (toGeometry_any _ _ _ _ _).mono ?_
  rintro e w3 ⟨rfl, hb3⟩
  have gg3 := keep_block hb3 gg2 (lt_of_block gg2)
  have HB3 : Hid (Below w.heap.size w w3) := HB2.out.trans (hb3.mono HB2.out.size)
  clear gg2 HB2
  have HZ0S : Hid (w2.heap.size ≤ w3.heap.size) := hb3.size
  clear hb3
  obtain ⟨vgg0, vgg1, vgg2, vgg3⟩ := cells4 gg3
  go_wp2_with fail
  clear vgg0 vgg1 vgg2 vgg3
  refine (toEventS_is _ _ _ _ HZ.out (by omega) _ (HR0.out.below HB3.out)).mono ?_
  rintro e w4 ⟨Da, Dc, rfl, own4, hb4⟩
  have gg4 := keep_block hb4 gg3 (lt_of_block gg3)
  have HB4 : Hid (Below w.heap.size w w4) := HB3.out.trans (hb4.mono HB3.out.size)
  clear gg3 HB3
  have D4 : Hid (evK.Own 58 w3.heap.size (.slice Da n Dc) zs w4) := own4
  clear own4
  clear hb4
  obtain ⟨vgg0, vgg1, vgg2, vgg3⟩ := cells4 gg4
  go_wp2_with fail
  clear vgg0 vgg1 vgg2 vgg3
  refine (specEnd_is g0 B g2 g3 Da n Dc zs N HNN.out n' l' pw' v HNP.out HLP.out HPP.out HV.out HZ.out (by omega) _ D4.out.row).mono ?_
  rintro e w5 ⟨Sa, Sc, rfl, own5, hb5⟩
  have gg5 := keep_block hb5 gg4 (lt_of_block gg4)
  have D5 : Hid (evK.Own 58 w3.heap.size (.slice Da n Dc) zs w5) := D4.out.below hb5
  have HB5 : Hid (Below w.heap.size w w5) := HB4.out.trans (hb5.mono HB4.out.size)
  clear gg4 D4 HB4
  have S5 : Hid (OwnK w4.heap.size (.slice Sa n' Sc) l' w5) := own5
  have HSZS : Hid (w4.heap.size ≤ w5.heap.size) := hb5.size
  clear own5
  clear hb5
  clear D5
  have hb6 : Below w5.heap.size w5 (w5.alloc (.cells #[.slice Sa n' Sc, .int .i64 pw'] 40)) := (Below.refl _ _).alloc (Nat.le_refl _) _
  have gg6 := keep_block hb6 gg5 (lt_of_block gg5)
  have S6 : Hid (OwnK w4.heap.size (.slice Sa n' Sc) l' (w5.alloc (.cells #[.slice Sa n' Sc, .int .i64 pw'] 40))) := S5.out.below hb6
  have s6 := heap_alloc_new w5 (.cells #[.slice Sa n' Sc, .int .i64 pw'] 40)
  have HB6 : Hid (Below w.heap.size w (w5.alloc (.cells #[.slice Sa n' Sc, .int .i64 pw'] 40))) := HB5.out.trans (hb6.mono HB5.out.size)
  obtain ⟨vgg0, vgg1, vgg2, vgg3⟩ := cells4 gg6
  obtain ⟨vs0, vs1⟩ := cells2 s6
  go_wp2_with fail
  clear vgg0 vgg1 vgg2 vgg3 vs0 vs1 hb6
  clear gg5 S5 HB5
  generalize (w5.alloc (.cells #[.slice Sa n' Sc, .int .i64 pw'] 40)) = w6 at gg6 S6 s6 HB6 ⊢
  obtain ⟨sP, hsP⟩ : ∃ p, w5.heap.size = p := ⟨_, rfl⟩
  have HSP : Hid (w5.heap.size = sP) := hsP
  rw [hsP] at s6
  (try simp only [hsP])
  clear hsP
  have HSG : Hid (w4.heap.size ≤ sP) := by rw [← HSP.out]; exact HSZS.out
  have HSB : Hid (w.heap.size < w6.heap.size ∧ sP < w6.heap.size ∧ ∀ x, Sa = some x → x.block < w6.heap.size) := ⟨lt_of_block gg6, lt_of_block s6, fun x hx => (S6.out.lo x hx).2⟩
  refine (toEventS_is _ _ _ _ HZ.out (by omega) _ (HR0.out.below HB6.out)).mono ?_
  rintro e w7 ⟨Xa, Xc, rfl, own7, hb7⟩
  have gg7 := keep_block hb7 gg6 (lt_of_block gg6)
  have s7 := keep_block hb7 s6 (lt_of_block s6)
  have S7 : Hid (OwnK w4.heap.size (.slice Sa n' Sc) l' w7) := S6.out.below hb7
  have HB7 : Hid (Below w.heap.size w w7) := HB6.out.trans (hb7.mono HB6.out.size)
  clear gg6 s6 S6 HB6
  have X7 : Hid (evK.Own 58 w6.heap.size (.slice Xa n Xc) zs w7) := own7
  have HXB : Hid (w6.heap.size ≤ w7.heap.size ∧ ∀ x, Xa = some x → w6.heap.size ≤ x.block ∧ x.block < w7.heap.size) := ⟨hb7.size, own7.lo⟩
  clear own7
  clear hb7
  obtain ⟨vgg0, vgg1, vgg2, vgg3⟩ := cells4 gg7
  obtain ⟨vs0, vs1⟩ := cells2 s7
  go_wp2_with fail
  clear vgg0 vgg1 vgg2 vgg3 vs0 vs1
  refine (toGeometry_any _ _ _ _ _).mono ?_
  rintro e w8 ⟨rfl, hb8⟩
  have gg8 := keep_block hb8 gg7 (lt_of_block gg7)
  have s8 := keep_block hb8 s7 (lt_of_block s7)
  have S8 : Hid (OwnK w4.heap.size (.slice Sa n' Sc) l' w8) := S7.out.below hb8
  have X8 : Hid (evK.Own 58 w6.heap.size (.slice Xa n Xc) zs w8) := X7.out.below hb8
  have HB8 : Hid (Below w.heap.size w w8) := HB7.out.trans (hb8.mono HB7.out.size)
  clear gg7 s7 S7 X7 HB7
  have HZ0I : Hid (w7.heap.size ≤ w8.heap.size) := hb8.size
  clear hb8
  obtain ⟨vgg0, vgg1, vgg2, vgg3⟩ := cells4 gg8
  obtain ⟨vs0, vs1⟩ := cells2 s8
  go_wp2_with fail
  clear vgg0 vgg1 vgg2 vgg3 vs0 vs1
  refine (IMPL.out g0 B g2 g3 Xa n Xc zs N HNN.out n' l' pw' v HNP.out HLP.out HPP.out HV.out HZ.out (by omega) X8.out.cap.1 X8.out.nil _ X8.out.row).mono ?_
  rintro e w9 ⟨Ia, Ic, rfl, own9, hb9⟩
  have gg9 := keep_block hb9 gg8 (lt_of_block gg8)
  have s9 := keep_block hb9 s8 (lt_of_block s8)
  have S9 : Hid (OwnK w4.heap.size (.slice Sa n' Sc) l' w9) := S8.out.below hb9
  have X9 : Hid (evK.Own 58 w6.heap.size (.slice Xa n Xc) zs w9) := X8.out.below hb9
  have HB9 : Hid (Below w.heap.size w w9) := HB8.out.trans (hb9.mono HB8.out.size)
  clear gg8 s8 S8 X8 HB8
  have I9 : Hid (OwnK w8.heap.size (.slice Ia n' Ic) l' w9) := own9
  have HSZI : Hid (w8.heap.size ≤ w9.heap.size) := hb9.size
  clear own9
  clear hb9
  have hb10 : Below w9.heap.size w9 (w9.alloc (.cells #[.slice Ia n' Ic, .int .i64 pw'] 40)) := (Below.refl _ _).alloc (Nat.le_refl _) _
  have gg10 := keep_block hb10 gg9 (lt_of_block gg9)
  have s10 := keep_block hb10 s9 (lt_of_block s9)
  have S10 : Hid (OwnK w4.heap.size (.slice Sa n' Sc) l' (w9.alloc (.cells #[.slice Ia n' Ic, .int .i64 pw'] 40))) := S9.out.below hb10
  have X10 : Hid (evK.Own 58 w6.heap.size (.slice Xa n Xc) zs (w9.alloc (.cells #[.slice Ia n' Ic, .int .i64 pw'] 40))) := X9.out.below hb10
  have I10 : Hid (OwnK w8.heap.size (.slice Ia n' Ic) l' (w9.alloc (.cells #[.slice Ia n' Ic, .int .i64 pw'] 40))) := I9.out.below hb10
  have i10 := heap_alloc_new w9 (.cells #[.slice Ia n' Ic, .int .i64 pw'] 40)
  have HB10 : Hid (Below w.heap.size w (w9.alloc (.cells #[.slice Ia n' Ic, .int .i64 pw'] 40))) := HB9.out.trans (hb10.mono HB9.out.size)
  obtain ⟨vgg0, vgg1, vgg2, vgg3⟩ := cells4 gg10
  obtain ⟨vs0, vs1⟩ := cells2 s10
  obtain ⟨vi0, vi1⟩ := cells2 i10
  go_wp2_with fail
  clear vgg0 vgg1 vgg2 vgg3 vs0 vs1 vi0 vi1 hb10
  clear gg9 s9 S9 X9 I9 HB9
  generalize (w9.alloc (.cells #[.slice Ia n' Ic, .int .i64 pw'] 40)) = w10 at gg10 s10 S10 X10 I10 i10 HB10 ⊢
  obtain ⟨iP, hiP⟩ : ∃ p, w9.heap.size = p := ⟨_, rfl⟩
  have HIP : Hid (w9.heap.size = iP) := hiP
  rw [hiP] at i10
  (try simp only [hiP])
  clear hiP
  have HIG : Hid (w8.heap.size ≤ iP) := by rw [← HIP.out]; exact HSZI.out
  refine (eqRank_is pw' HNP.out I10.out.row S10.out.row (by omega)).mono ?_
  rintro e w11 ⟨rfl, hb11⟩
  have gg11 := keep_block hb11 gg10 (lt_of_block gg10)
  have s11 := keep_block hb11 s10 (lt_of_block s10)
  have i11 := keep_block hb11 i10 (lt_of_block i10)
  have S11 : Hid (OwnK w4.heap.size (.slice Sa n' Sc) l' w11) := S10.out.below hb11
  have X11 : Hid (evK.Own 58 w6.heap.size (.slice Xa n Xc) zs w11) := X10.out.below hb11
  have I11 : Hid (OwnK w8.heap.size (.slice Ia n' Ic) l' w11) := I10.out.below hb11
  have HB11 : Hid (Below w.heap.size w w11) := HB10.out.trans (hb11.mono HB10.out.size)
  clear gg10 s10 i10 S10 X10 I10 HB10
  clear hb11
  obtain ⟨vgg0, vgg1, vgg2, vgg3⟩ := cells4 gg11
  obtain ⟨vs0, vs1⟩ := cells2 s11
  obtain ⟨vi0, vi1⟩ := cells2 i11
  go_wp2_with fail
  clear vgg0 vgg1 vgg2 vgg3 vs0 vs1 vi0 vi1
  refine (toEventS_is _ _ _ _ HZ.out (by omega) _ (HR0.out.below HB11.out)).mono ?_
  rintro e w12 ⟨Ea, Ec, rfl, own12, hb12⟩
  have gg12 := keep_block hb12 gg11 (lt_of_block gg11)
  have s12 := keep_block hb12 s11 (lt_of_block s11)
  have i12 := keep_block hb12 i11 (lt_of_block i11)
  have S12 : Hid (OwnK w4.heap.size (.slice Sa n' Sc) l' w12) := S11.out.below hb12
  have X12 : Hid (evK.Own 58 w6.heap.size (.slice Xa n Xc) zs w12) := X11.out.below hb12
  have I12 : Hid (OwnK w8.heap.size (.slice Ia n' Ic) l' w12) := I11.out.below hb12
  have HB12 : Hid (Below w.heap.size w w12) := HB11.out.trans (hb12.mono HB11.out.size)
  clear gg11 s11 i11 S11 X11 I11 HB11
  have E12 : Hid (evK.Own 58 w11.heap.size (.slice Ea n Ec) zs w12) := own12
  clear own12
  clear hb12
  obtain ⟨vgg0, vgg1, vgg2, vgg3⟩ := cells4 gg12
  obtain ⟨vs0, vs1⟩ := cells2 s12
  obtain ⟨vi0, vi1⟩ := cells2 i12
  go_wp2_with fail
  clear vgg0 vgg1 vgg2 vgg3 vs0 vs1 vi0 vi1
  refine (eqEventS_is HZ.out X12.out.row E12.out.row (by omega)).mono ?_
  rintro e w13 ⟨rfl, hb13⟩
  have gg13 := keep_block hb13 gg12 (lt_of_block gg12)
  have s13 := keep_block hb13 s12 (lt_of_block s12)
  have i13 := keep_block hb13 i12 (lt_of_block i12)
  have S13 : Hid (OwnK w4.heap.size (.slice Sa n' Sc) l' w13) := S12.out.below hb13
  have X13 : Hid (evK.Own 58 w6.heap.size (.slice Xa n Xc) zs w13) := X12.out.below hb13
  have I13 : Hid (OwnK w8.heap.size (.slice Ia n' Ic) l' w13) := I12.out.below hb13
  have E13 : Hid (evK.Own 58 w11.heap.size (.slice Ea n Ec) zs w13) := E12.out.below hb13
  have HB13 : Hid (Below w.heap.size w w13) := HB12.out.trans (hb13.mono HB12.out.size)
  clear gg12 s12 i12 S12 X12 I12 E12 HB12
  clear hb13
  clear E13
  obtain ⟨vgg0, vgg1, vgg2, vgg3⟩ := cells4 gg13
  obtain ⟨vs0, vs1⟩ := cells2 s13
  obtain ⟨vi0, vi1⟩ := cells2 i13
  go_wp2_with fail
  clear vgg0 vgg1 vgg2 vgg3 vs0 vs1 vi0 vi1
  have hSB := HSB.out
  have hXB := HXB.out
  have hIG := HIG.out
  have hZ0 := HZ0I.out
  have loS := S13.out.lo
  have loI := I13.out.lo
  have his := lt_of_block i13
  have hsz := HB13.out.size
  obtain ⟨gi, hgi, hge, hni, hS, hI⟩ : ∃ gi, (∀ x, Xa = some x → x.block = gi) ∧ w6.heap.size ≤ gi ∧ gi ≠ iP ∧ (∀ x, Sa = some x → x.block ≠ gi) ∧ (∀ x, Ia = some x → x.block ≠ gi) := by
    rcases hXa : Xa with _ | x
    · exact ⟨max w13.heap.size w6.heap.size, (fun x h => by cases h), by omega, by omega, (fun x hx => by have := (loS x hx).2; omega), (fun x hx => by have := (loI x hx).2; omega)⟩
    · have h2 := hXB.2 x hXa
      exact ⟨x.block, (fun y h => by cases h; rfl), h2.1, by omega, (fun y hy => by have := hSB.2.2 y hy; omega), (fun y hy => by have := (loI y hy).1; omega)⟩
  refine (markEventS_is HZ.out X13.out 1 (by omega) gi hgi).mono ?_
  rintro e w14 ⟨rfl, ho14⟩
  have gg14 := (ho14.block _ (lt_of_block gg13) (by omega)).trans gg13
  have s14 := (ho14.block _ (lt_of_block s13) (by omega)).trans s13
  have i14 := (ho14.block _ (lt_of_block i13) (by omega)).trans i13
  have S14 : Hid (OwnK w4.heap.size (.slice Sa n' Sc) l' w14) := S13.out.keep ho14 hS
  have I14 : Hid (OwnK w8.heap.size (.slice Ia n' Ic) l' w14) := I13.out.keep ho14 hI
  have HB14 : Hid (Below w.heap.size w w14) := HB13.out.trans (ho14.below (by omega) HB13.out.size)
  have km0 : ¬ ((1 + 5 * n : Nat) : Int) < 0 := by omega
  obtain ⟨km, hkm⟩ : ∃ u : Int, ((1 + 5 * n : Nat) : Int) = u := ⟨_, rfl⟩
  rw [hkm] at km0
  rw [hkm]
  have tkm : decide (km < 0) = false := decide_eq_false km0
  have HSI : Hid (w.heap.size < w8.heap.size ∧ sP < w8.heap.size ∧ ∀ x, Sa = some x → x.block < w8.heap.size) := ⟨by omega, by omega, fun x hx => by have := hSB.2.2 x hx; omega⟩
  clear gg13 s13 i13 S13 I13 X13 HB13 ho14 hSB hXB hIG hZ0 hge hni hgi hkm loS loI his hS hI km0 hsz
  obtain ⟨vgg0, vgg1, vgg2, vgg3⟩ := cells4 gg14
  obtain ⟨vs0, vs1⟩ := cells2 s14
  obtain ⟨vi0, vi1⟩ := cells2 i14
  go_wp2_with fail
  clear vgg0 vgg1 vgg2 vgg3 vs0 vs1 vi0 vi1
  refine (eqRank_is pw' HNP.out I14.out.row S14.out.row (by omega)).mono ?_
  rintro e w15 ⟨rfl, hb15⟩
  have gg15 := keep_block hb15 gg14 (lt_of_block gg14)
  have s15 := keep_block hb15 s14 (lt_of_block s14)
  have i15 := keep_block hb15 i14 (lt_of_block i14)
  have S15 : Hid (OwnK w4.heap.size (.slice Sa n' Sc) l' w15) := S14.out.below hb15
  have I15 : Hid (OwnK w8.heap.size (.slice Ia n' Ic) l' w15) := I14.out.below hb15
  have HB15 : Hid (Below w.heap.size w w15) := HB14.out.trans (hb15.mono HB14.out.size)
  clear gg14 s14 i14 S14 I14 HB14
  clear hb15
  obtain ⟨vgg0, vgg1, vgg2, vgg3⟩ := cells4 gg15
  obtain ⟨vs0, vs1⟩ := cells2 s15
  obtain ⟨vi0, vi1⟩ := cells2 i15
  go_wp2_with fail
  clear vgg0 vgg1 vgg2 vgg3 vs0 vs1 vi0 vi1
  have hSI := HSI.out
  have hIG := HIG.out
  have loI := I15.out.lo
  have his := lt_of_block i15
  have hap := I15.out.apart i15
  obtain ⟨gj, hgj, hge, hni, hS⟩ : ∃ gj, (∀ x, Ia = some x → x.block = gj) ∧ w8.heap.size ≤ gj ∧ gj ≠ iP ∧ (∀ x, Sa = some x → x.block ≠ gj) := by
    rcases hIa : Ia with _ | x
    · exact ⟨w15.heap.size, (fun x h => by cases h), by omega, by omega, (fun x hx => by have := hSI.2.2 x hx; omega)⟩
    · exact ⟨x.block, (fun y h => by cases h; rfl), (loI x hIa).1, hap x hIa, (fun y hy => by have := hSI.2.2 y hy; have := (loI x hIa).1; omega)⟩
  refine (markRank_is pw' HNP.out I15.out 1 (by omega) gj hgj).mono ?_
  rintro e w16 ⟨rfl, M', ho16⟩
  have gg16 := (ho16.block _ (lt_of_block gg15) (by omega)).trans gg15
  have s16 := (ho16.block _ (lt_of_block s15) (by omega)).trans s15
  have i16 := (ho16.block _ (lt_of_block i15) (by omega)).trans i15
  have S16 : Hid (OwnK w4.heap.size (.slice Sa n' Sc) l' w16) := S15.out.keep ho16 hS
  have M16 : Hid (RowB w16 Ia (marksK 1 n')) := M'.row
  have HB16 : Hid (Below w.heap.size w w16) := HB15.out.trans (ho16.below (by omega) HB15.out.size)
  have jm0 : ¬ mkK 1 n' < 0 := by unfold mkK; omega
  obtain ⟨jm, hjm⟩ : ∃ u, mkK 1 n' = u := ⟨_, rfl⟩
  have HJM := Lib.hid hjm
  rw [hjm] at jm0
  rw [hjm]
  have tjm : decide (jm < 0) = false := decide_eq_false jm0
  have tje : (jm != jm) = false := by simp
  have HH : Hid (∀ u : World, RowB u Ia (marksK 1 n') → Calls Try.prog 18 #[.agg #[.slice Ia n' Ic, .int .i64 pw'], .int .i64 ((1 : Nat) : Int)] u (Gives (.int .i64 jm) u)) := fun u h => by rw [← HJM.out]; exact heldRank_is pw' 1 h (by omega)
  clear gg15 s15 i15 S15 I15 HB15 ho16 M' hSI hIG hge hni hgj loI his hap hS hjm jm0
  obtain ⟨vgg0, vgg1, vgg2, vgg3⟩ := cells4 gg16
  obtain ⟨vs0, vs1⟩ := cells2 s16
  obtain ⟨vi0, vi1⟩ := cells2 i16
  go_wp2_with fail
  clear vgg0 vgg1 vgg2 vgg3 vs0 vs1 vi0 vi1
  refine (HH.out _ M16.out).mono ?_
  rintro e w17 ⟨rfl, hb17⟩
  have gg17 := keep_block hb17 gg16 (lt_of_block gg16)
  have s17 := keep_block hb17 s16 (lt_of_block s16)
  have i17 := keep_block hb17 i16 (lt_of_block i16)
  have S17 : Hid (OwnK w4.heap.size (.slice Sa n' Sc) l' w17) := S16.out.below hb17
  have M17 : Hid (RowB w17 Ia (marksK 1 n')) := M16.out.below hb17
  have HB17 : Hid (Below w.heap.size w w17) := HB16.out.trans (hb17.mono HB16.out.size)
  clear gg16 s16 i16 S16 M16 HB16
  clear hb17
  obtain ⟨vgg0, vgg1, vgg2, vgg3⟩ := cells4 gg17
  obtain ⟨vs0, vs1⟩ := cells2 s17
  obtain ⟨vi0, vi1⟩ := cells2 i17
  go_wp2_with fail
  clear vgg0 vgg1 vgg2 vgg3 vs0 vs1 vi0 vi1
  refine (toGeometry_any _ _ _ _ _).mono ?_
  rintro e w18 ⟨rfl, hb18⟩
  have gg18 := keep_block hb18 gg17 (lt_of_block gg17)
  have s18 := keep_block hb18 s17 (lt_of_block s17)
  have i18 := keep_block hb18 i17 (lt_of_block i17)
  have S18 : Hid (OwnK w4.heap.size (.slice Sa n' Sc) l' w18) := S17.out.below hb18
  have M18 : Hid (RowB w18 Ia (marksK 1 n')) := M17.out.below hb18
  have HB18 : Hid (Below w.heap.size w w18) := HB17.out.trans (hb18.mono HB17.out.size)
  clear gg17 s17 i17 S17 M17 HB17
  have HZ0J : Hid (w17.heap.size ≤ w18.heap.size) := hb18.size
  clear hb18
  obtain ⟨vgg0, vgg1, vgg2, vgg3⟩ := cells4 gg18
  obtain ⟨vs0, vs1⟩ := cells2 s18
  obtain ⟨vi0, vi1⟩ := cells2 i18
  go_wp2_with fail
  clear vgg0 vgg1 vgg2 vgg3 vs0 vs1 vi0 vi1
  refine (toEventS_is _ _ _ _ HZ.out (by omega) _ (HR0.out.below HB18.out)).mono ?_
  rintro e w19 ⟨Da, Dc, rfl, own19, hb19⟩
  have gg19 := keep_block hb19 gg18 (lt_of_block gg18)
  have s19 := keep_block hb19 s18 (lt_of_block s18)
  have i19 := keep_block hb19 i18 (lt_of_block i18)
  have S19 : Hid (OwnK w4.heap.size (.slice Sa n' Sc) l' w19) := S18.out.below hb19
  have M19 : Hid (RowB w19 Ia (marksK 1 n')) := M18.out.below hb19
  have HB19 : Hid (Below w.heap.size w w19) := HB18.out.trans (hb19.mono HB18.out.size)
  clear gg18 s18 i18 S18 M18 HB18
  have D19 : Hid (evK.Own 58 w18.heap.size (.slice Da n Dc) zs w19) := own19
  clear own19
  clear hb19
  obtain ⟨vgg0, vgg1, vgg2, vgg3⟩ := cells4 gg19
  obtain ⟨vs0, vs1⟩ := cells2 s19
  obtain ⟨vi0, vi1⟩ := cells2 i19
  go_wp2_with fail
  clear vgg0 vgg1 vgg2 vgg3 vs0 vs1 vi0 vi1
  refine (IMPL.out g0 B g2 g3 Da n Dc zs N HNN.out n' l' pw' v HNP.out HLP.out HPP.out HV.out HZ.out (by omega) D19.out.cap.1 D19.out.nil _ D19.out.row).mono ?_
  rintro e w20 ⟨Ja, Jc, rfl, own20, hb20⟩
  have gg20 := keep_block hb20 gg19 (lt_of_block gg19)
  have s20 := keep_block hb20 s19 (lt_of_block s19)
  have i20 := keep_block hb20 i19 (lt_of_block i19)
  have S20 : Hid (OwnK w4.heap.size (.slice Sa n' Sc) l' w20) := S19.out.below hb20
  have M20 : Hid (RowB w20 Ia (marksK 1 n')) := M19.out.below hb20
  have D20 : Hid (evK.Own 58 w18.heap.size (.slice Da n Dc) zs w20) := D19.out.below hb20
  have HB20 : Hid (Below w.heap.size w w20) := HB19.out.trans (hb20.mono HB19.out.size)
  clear gg19 s19 i19 S19 M19 D19 HB19
  have J20 : Hid (OwnK w19.heap.size (.slice Ja n' Jc) l' w20) := own20
  have HSZJ : Hid (w19.heap.size ≤ w20.heap.size) := hb20.size
  clear own20
  clear hb20
  clear D20
  have hb21 : Below w20.heap.size w20 (w20.alloc (.cells #[.slice Ja n' Jc, .int .i64 pw'] 40)) := (Below.refl _ _).alloc (Nat.le_refl _) _
  have gg21 := keep_block hb21 gg20 (lt_of_block gg20)
  have s21 := keep_block hb21 s20 (lt_of_block s20)
  have i21 := keep_block hb21 i20 (lt_of_block i20)
  have S21 : Hid (OwnK w4.heap.size (.slice Sa n' Sc) l' (w20.alloc (.cells #[.slice Ja n' Jc, .int .i64 pw'] 40))) := S20.out.below hb21
  have M21 : Hid (RowB (w20.alloc (.cells #[.slice Ja n' Jc, .int .i64 pw'] 40)) Ia (marksK 1 n')) := M20.out.below hb21
  have J21 : Hid (OwnK w19.heap.size (.slice Ja n' Jc) l' (w20.alloc (.cells #[.slice Ja n' Jc, .int .i64 pw'] 40))) := J20.out.below hb21
  have j21 := heap_alloc_new w20 (.cells #[.slice Ja n' Jc, .int .i64 pw'] 40)
  have HB21 : Hid (Below w.heap.size w (w20.alloc (.cells #[.slice Ja n' Jc, .int .i64 pw'] 40))) := HB20.out.trans (hb21.mono HB20.out.size)
  obtain ⟨vgg0, vgg1, vgg2, vgg3⟩ := cells4 gg21
  obtain ⟨vs0, vs1⟩ := cells2 s21
  obtain ⟨vi0, vi1⟩ := cells2 i21
  obtain ⟨vj0, vj1⟩ := cells2 j21
  go_wp2_with fail
  clear vgg0 vgg1 vgg2 vgg3 vs0 vs1 vi0 vi1 vj0 vj1 hb21
  clear gg20 s20 i20 S20 M20 J20 HB20
  generalize (w20.alloc (.cells #[.slice Ja n' Jc, .int .i64 pw'] 40)) = w21 at gg21 s21 i21 S21 M21 J21 j21 HB21 ⊢
  obtain ⟨jP, hjP⟩ : ∃ p, w20.heap.size = p := ⟨_, rfl⟩
  have HJP : Hid (w20.heap.size = jP) := hjP
  rw [hjP] at j21
  (try simp only [hjP])
  clear hjP
  have HJG : Hid (w19.heap.size ≤ jP) := by rw [← HJP.out]; exact HSZJ.out
  refine (eqRank_is pw' HNP.out J21.out.row S21.out.row (by omega)).mono ?_
  rintro e w22 ⟨rfl, hb22⟩
  have gg22 := keep_block hb22 gg21 (lt_of_block gg21)
  have s22 := keep_block hb22 s21 (lt_of_block s21)
  have i22 := keep_block hb22 i21 (lt_of_block i21)
  have j22 := keep_block hb22 j21 (lt_of_block j21)
  have S22 : Hid (OwnK w4.heap.size (.slice Sa n' Sc) l' w22) := S21.out.below hb22
  have M22 : Hid (RowB w22 Ia (marksK 1 n')) := M21.out.below hb22
  have J22 : Hid (OwnK w19.heap.size (.slice Ja n' Jc) l' w22) := J21.out.below hb22
  have HB22 : Hid (Below w.heap.size w w22) := HB21.out.trans (hb22.mono HB21.out.size)
  clear gg21 s21 i21 j21 S21 M21 J21 HB21
  clear hb22
  obtain ⟨vgg0, vgg1, vgg2, vgg3⟩ := cells4 gg22
  obtain ⟨vs0, vs1⟩ := cells2 s22
  obtain ⟨vi0, vi1⟩ := cells2 i22
  obtain ⟨vj0, vj1⟩ := cells2 j22
  go_wp2_with fail
  clear vgg0 vgg1 vgg2 vgg3 vs0 vs1 vi0 vi1 vj0 vj1
  refine (HH.out _ M22.out).mono ?_
  rintro e w23 ⟨rfl, hb23⟩
  have gg23 := keep_block hb23 gg22 (lt_of_block gg22)
  have s23 := keep_block hb23 s22 (lt_of_block s22)
  have i23 := keep_block hb23 i22 (lt_of_block i22)
  have j23 := keep_block hb23 j22 (lt_of_block j22)
  have S23 : Hid (OwnK w4.heap.size (.slice Sa n' Sc) l' w23) := S22.out.below hb23
  have M23 : Hid (RowB w23 Ia (marksK 1 n')) := M22.out.below hb23
  have J23 : Hid (OwnK w19.heap.size (.slice Ja n' Jc) l' w23) := J22.out.below hb23
  have HB23 : Hid (Below w.heap.size w w23) := HB22.out.trans (hb23.mono HB22.out.size)
  clear gg22 s22 i22 j22 S22 M22 J22 HB22
  clear hb23
  go_wp2
  go_ret
  exact ⟨rfl, HB23.out⟩

end Go.Proofs.Ytihhcnckoeaihaa

namespace Go.Proofs.Ytihhcnckoeaihaa
open Go.RowKit

set_option linter.unusedVariables false

theorem exEnd_walk (ea eb ec ed : Int) (a : Option Addr) (len cap : Nat) (w : World) (_ : (Lit.int .i64 ea).wf = true) (_ : (Lit.int .i64 eb).wf = true) (_ : (Lit.int .i64 ec).wf = true) (_ : (Lit.int .i64 ed).wf = true) (s : Sh.Fits w (.row (.and (.num .i64) (.and (.and (.num .i64) (.and (.num .i64) (.and (.num .i64) (.and (.num .i64) .fin)))) .fin))) [.slice a len cap]) :
    Calls Try.prog 4 #[.agg #[.int .i64 ea, .int .i64 eb, .int .i64 ec, .int .i64 ed], .slice a len cap] w fun e w' => e = .returned (.bool true) ∧ Below w.heap.size w w' := exEnd_of (Lib.hid implEnd_is) ea eb ec ed a len cap w s

end Go.Proofs.Ytihhcnckoeaihaa
