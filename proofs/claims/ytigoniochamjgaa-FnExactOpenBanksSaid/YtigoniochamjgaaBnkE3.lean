/-
  The walks of the exact statements over ranks, out of the contracts: OpenBanks.
-/
import Derived.Test.YtigoniochamjgaaBnkE
namespace Go.Proofs.Ytigoniochamjgaa
open Go.RowKit

set_option linter.unusedVariables false

theorem givesI_is {l ol : List Int} {m : Nat} {w w' : World} {e : Ending} (h1 : l = ol) (h2 : ol.length = m) (h : GivesI l w e w') : ∃ a cap, e = .returned (.slice a m cap) ∧ OwnI w.heap.size (.slice a m cap) ol w' ∧ Below w.heap.size w w' := by
  subst h1
  subst h2
  exact h


set_option maxHeartbeats 16000000 in
set_option maxRecDepth 100000 in
theorem exOpenBanks_of (IMPL : Hid IOpenBanks) (ll : List Value) (w : World) (s : Sh.Fits w (.and (.row (.and .flag (.and (.num .i64) .fin))) (.and (.num .i64) .fin)) ll) :
    Calls Try.prog 9 #[.agg ll.toArray] w fun e w' => e = .returned (.bool true) ∧ Below w.heap.size w w' := by
  obtain ⟨ad, n, cap, zs, pw, rfl, hz, hr, hn⟩ := rank_in s
  have HZ := Lib.hid hz
  obtain ⟨sv, hsv⟩ : ∃ v : Int, (if (1048576 : Int) - (n : Int) < 0 then -1 else 1048576 - (n : Int)) = v := ⟨_, rfl⟩
  have HSV := Lib.hid hsv
  obtain ⟨w1, hw1⟩ : ∃ u, (w.alloc (.cells #[.slice ad n cap, .int .i64 pw] 53)) = u := ⟨_, rfl⟩
  have HB1 : Hid (Below w.heap.size w w1) := by subst hw1; exact (Below.refl _ _).alloc (Nat.le_refl _) _
  have r1 : w1.heap[w.heap.size]? = some (.cells #[.slice ad n cap, .int .i64 pw] 53) := by subst hw1; exact heap_alloc_new _ _
  have HR0 := Lib.hid (fun (u : World) (hb : Below w.heap.size w u) => hr.below hb)
  obtain ⟨ol, hol⟩ : ∃ v, openF 0 zs = v := ⟨_, rfl⟩
  have HOL := Lib.hid hol
  obtain ⟨m, hm⟩ : ∃ v, ol.length = v := ⟨_, rfl⟩
  have HM := Lib.hid hm
  have hmn : m ≤ n := by rw [← hm, ← hol, ← hz]; exact openF_length _ _
  clear hol hm
  clear hz hr
  go_enter Try.func9, Try.ntmps9
  obtain ⟨vr0, vr1⟩ := cells2 r1
  go_wp2_with fail
  clear vr0 vr1
  refine (szRank_is _ _ _ _ 1048576 sv hn (by omega) (by omega) HSV.out _).mono ?_
  rintro e w2 ⟨rfl, hb2⟩
  have r2 := keep_block hb2 r1 (lt_of_block r1)
  have HB2 : Hid (Below w.heap.size w w2) := HB1.out.trans (hb2.mono HB1.out.size)
  clear r1 HB1
  clear hb2
  by_cases hbig : (1048576 : Int) - n < 0
  · have hs : sv < 0 := by rw [← hsv, if_pos hbig]; omega
    clear hsv hbig
    go_wp2
    go_ret
    exact ⟨rfl, HB2.out⟩
  have hs : 0 ≤ sv := by rw [← hsv, if_neg hbig]; omega
  have hn2 : n ≤ 1048576 := by omega
  clear hsv hbig hn
  obtain ⟨vr0, vr1⟩ := cells2 r2
  go_wp2_with fail
  clear vr0 vr1
  refine (toRank_is _ _ _ _ _ HZ.out (by omega) _ (HR0.out _ HB2.out)).mono ?_
  rintro e w3 ⟨Sa, Sc, rfl, own3, hb3⟩
  have r3 := keep_block hb3 r2 (lt_of_block r2)
  have HB3 : Hid (Below w.heap.size w w3) := HB2.out.trans (hb3.mono HB2.out.size)
  clear r2 HB2
  have S3 : Hid (RowB w3 Sa zs) := own3.row
  have NS : Hid (Sa = none → Sc = 0) := own3.none
  clear own3
  clear hb3
  obtain ⟨vr0, vr1⟩ := cells2 r3
  go_wp2_with fail
  clear vr0 vr1
  refine (((specOpen_is _ _ _ _ _ HZ.out (by omega) _ S3.out).mono fun e u h => givesI_is HOL.out HM.out h)).mono ?_
  rintro e w4 ⟨Oa, Oc, rfl, own4, hb4⟩
  have r4 := keep_block hb4 r3 (lt_of_block r3)
  have S4 : Hid (RowB w4 Sa zs) := S3.out.below hb4
  have HB4 : Hid (Below w.heap.size w w4) := HB3.out.trans (hb4.mono HB3.out.size)
  clear r3 S3 HB3
  have O4 : Hid (OwnI w3.heap.size (.slice Oa m Oc) ol w4) := own4
  clear own4
  clear hb4
  clear S4
  have HOB : Hid (w.heap.size < w4.heap.size ∧ ∀ x, Oa = some x → x.block < w4.heap.size) := ⟨lt_of_block r4, fun x hx => (O4.out.lo x hx).2⟩
  obtain ⟨vr0, vr1⟩ := cells2 r4
  go_wp2_with fail
  clear vr0 vr1
  refine (toRank_is _ _ _ _ _ HZ.out (by omega) _ (HR0.out _ HB4.out)).mono ?_
  rintro e w5 ⟨Xa, Xc, rfl, own5, hb5⟩
  have r5 := keep_block hb5 r4 (lt_of_block r4)
  have O5 : Hid (OwnI w3.heap.size (.slice Oa m Oc) ol w5) := O4.out.below hb5
  have HB5 : Hid (Below w.heap.size w w5) := HB4.out.trans (hb5.mono HB4.out.size)
  clear r4 O4 HB4
  have X5 : Hid (OwnK w4.heap.size (.slice Xa n Xc) zs w5) := own5
  have NX : Hid (Xa = none → Xc = 0) := own5.none
  have HXB : Hid (w4.heap.size ≤ w5.heap.size ∧ ∀ x, Xa = some x → w4.heap.size ≤ x.block ∧ x.block < w5.heap.size) := ⟨hb5.size, own5.lo⟩
  clear own5
  clear hb5
  have hb6 : Below w5.heap.size w5 (w5.alloc (.cells #[.slice Xa n Xc, .int .i64 pw] 28)) := (Below.refl _ _).alloc (Nat.le_refl _) _
  have r6 := keep_block hb6 r5 (lt_of_block r5)
  have O6 : Hid (OwnI w3.heap.size (.slice Oa m Oc) ol (w5.alloc (.cells #[.slice Xa n Xc, .int .i64 pw] 28))) := O5.out.below hb6
  have X6 : Hid (OwnK w4.heap.size (.slice Xa n Xc) zs (w5.alloc (.cells #[.slice Xa n Xc, .int .i64 pw] 28))) := X5.out.below hb6
  have x6 := heap_alloc_new w5 (.cells #[.slice Xa n Xc, .int .i64 pw] 28)
  have HB6 : Hid (Below w.heap.size w (w5.alloc (.cells #[.slice Xa n Xc, .int .i64 pw] 28))) := HB5.out.trans (hb6.mono HB5.out.size)
  obtain ⟨vr0, vr1⟩ := cells2 r6
  obtain ⟨vx0, vx1⟩ := cells2 x6
  go_wp2_with fail
  clear vr0 vr1 vx0 vx1 hb6
  clear r5 O5 X5 HB5
  generalize (w5.alloc (.cells #[.slice Xa n Xc, .int .i64 pw] 28)) = w6 at r6 O6 X6 x6 HB6 ⊢
  obtain ⟨xP, hxP⟩ : ∃ p, w5.heap.size = p := ⟨_, rfl⟩
  have HXP : Hid (w5.heap.size = xP) := hxP
  rw [hxP] at x6
  (try simp only [hxP])
  clear hxP
  have HPW : Hid (xP < w6.heap.size) := lt_of_block x6
  refine (((IMPL.out _ _ _ _ _ HZ.out (by omega) NX.out _ X6.out.row).mono fun e u h => givesI_is HOL.out HM.out h)).mono ?_
  rintro e w7 ⟨Pa, Pc, rfl, own7, hb7⟩
  have r7 := keep_block hb7 r6 (lt_of_block r6)
  have x7 := keep_block hb7 x6 (lt_of_block x6)
  have O7 : Hid (OwnI w3.heap.size (.slice Oa m Oc) ol w7) := O6.out.below hb7
  have X7 : Hid (OwnK w4.heap.size (.slice Xa n Xc) zs w7) := X6.out.below hb7
  have HB7 : Hid (Below w.heap.size w w7) := HB6.out.trans (hb7.mono HB6.out.size)
  clear r6 x6 O6 X6 HB6
  have P7 : Hid (OwnI w6.heap.size (.slice Pa m Pc) ol w7) := own7
  clear own7
  clear hb7
  obtain ⟨vr0, vr1⟩ := cells2 r7
  obtain ⟨vx0, vx1⟩ := cells2 x7
  go_wp2_with fail
  clear vr0 vr1 vx0 vx1
  refine (eqIntS_any HM.out P7.out O7.out (by omega)).mono ?_
  rintro e w8 ⟨rfl, hb8⟩
  have r8 := keep_block hb8 r7 (lt_of_block r7)
  have x8 := keep_block hb8 x7 (lt_of_block x7)
  have O8 : Hid (OwnI w3.heap.size (.slice Oa m Oc) ol w8) := O7.out.below hb8
  have X8 : Hid (OwnK w4.heap.size (.slice Xa n Xc) zs w8) := X7.out.below hb8
  have P8 : Hid (OwnI w6.heap.size (.slice Pa m Pc) ol w8) := P7.out.below hb8
  have HB8 : Hid (Below w.heap.size w w8) := HB7.out.trans (hb8.mono HB7.out.size)
  clear r7 x7 O7 X7 P7 HB7
  clear hb8
  go_wp2_with fail
  refine wp_region_float (A := ?A1) [.h, .h, .t, .t, .e] (by kernel_rfl) (by kernel_rfl) (fun u => u.heap[w.heap.size]? = some (.cells #[.slice ad n cap, .int .i64 pw] 53) ∧ u.heap[xP]? = some (.cells #[.slice Xa n Xc, .int .i64 pw] 28)) ?hC1 ?hH1 ?hT1
  case hC1 => exact ⟨r8, x8⟩
  case hH1 =>
    intro u hu
    obtain ⟨a0, a1⟩ := cells2 hu.1
    have z0 := fun q : Same u => q.cell a0
    have z1 := fun q : Same u => q.cell a1
    obtain ⟨a2, a3⟩ := cells2 hu.2
    have z2 := fun q : Same u => q.cell a2
    have z3 := fun q : Same u => q.cell a3
    simp only [headsOf]
    repeat (go_big_quiet_step (fail))
    refine wpQuiet_nil ?_
    exact rfl
  case hT1 =>
    simp only [chainT]
    have r9 : w8.drew.heap[w.heap.size]? = some (.cells #[.slice ad n cap, .int .i64 pw] 53) := r8
    have x9 : w8.drew.heap[xP]? = some (.cells #[.slice Xa n Xc, .int .i64 pw] 28) := x8
    have O9 : Hid (OwnI w3.heap.size (.slice Oa m Oc) ol w8.drew) := O8.out
    have X9 : Hid (OwnK w4.heap.size (.slice Xa n Xc) zs w8.drew) := X8.out
    have P9 : Hid (OwnI w6.heap.size (.slice Pa m Pc) ol w8.drew) := P8.out
    have HB9 : Hid (Below w.heap.size w w8.drew) := Below.drew HB8.out
    clear r8 x8 O8 X8 P8 HB8
    generalize w8.drew = w9 at r9 x9 O9 X9 P9 HB9 ⊢
    go_wp2_with fail
    refine (toRank_is _ _ _ _ _ HZ.out (by omega) _ (HR0.out _ HB9.out)).mono ?_
    rintro e w10 ⟨Ea, Ec, rfl, own10, hb10⟩
    have r10 := keep_block hb10 r9 (lt_of_block r9)
    have x10 := keep_block hb10 x9 (lt_of_block x9)
    have O10 : Hid (OwnI w3.heap.size (.slice Oa m Oc) ol w10) := O9.out.below hb10
    have X10 : Hid (OwnK w4.heap.size (.slice Xa n Xc) zs w10) := X9.out.below hb10
    have P10 : Hid (OwnI w6.heap.size (.slice Pa m Pc) ol w10) := P9.out.below hb10
    have HB10 : Hid (Below w.heap.size w w10) := HB9.out.trans (hb10.mono HB9.out.size)
    clear r9 x9 O9 X9 P9 HB9
    have E10 : Hid (RowB w10 Ea zs) := own10.row
    clear own10
    clear hb10
    go_wp2_with fail
    refine stepQ_normal ⟨⟨r10, x10⟩, ?_⟩
    go_wp2_with fail
    refine (eqRank_is pw HZ.out X10.out.row E10.out (by omega)).mono ?_
    rintro e w11 ⟨rfl, hb11⟩
    have r11 := keep_block hb11 r10 (lt_of_block r10)
    have x11 := keep_block hb11 x10 (lt_of_block x10)
    have O11 : Hid (OwnI w3.heap.size (.slice Oa m Oc) ol w11) := O10.out.below hb11
    have X11 : Hid (OwnK w4.heap.size (.slice Xa n Xc) zs w11) := X10.out.below hb11
    have P11 : Hid (OwnI w6.heap.size (.slice Pa m Pc) ol w11) := P10.out.below hb11
    have E11 : Hid (RowB w11 Ea zs) := E10.out.below hb11
    have HB11 : Hid (Below w.heap.size w w11) := HB10.out.trans (hb11.mono HB10.out.size)
    clear r10 x10 O10 X10 P10 E10 HB10
    clear hb11
    go_wp2_with fail
    refine stepQ_normal ⟨⟨r11, x11⟩, ?_⟩
    go_wp2_with fail
    refine stepQ_normal ⟨trivial, ?_⟩
    clear E11
    obtain ⟨vr0, vr1⟩ := cells2 r11
    obtain ⟨vx0, vx1⟩ := cells2 x11
    go_wp2_with fail
    clear vr0 vr1 vx0 vx1
    have hOB := HOB.out
    have hXB := HXB.out
    have hXP := HXP.out
    have hPW := HPW.out
    have loO := O11.out.lo
    have loP := P11.out.lo
    obtain ⟨gi, hgi, hge, hne, hO, hP⟩ : ∃ gi, (∀ x, Xa = some x → x.block = gi) ∧ w4.heap.size ≤ gi ∧ gi ≠ xP ∧ (∀ x, Oa = some x → x.block ≠ gi) ∧ (∀ x, Pa = some x → x.block ≠ gi) := by
      have hxs := lt_of_block x11
      rcases hXa : Xa with _ | x
      · exact ⟨w11.heap.size, (fun x h => by cases h), by omega, by omega, (fun x hx => by have := (loO x hx).2; omega), (fun x hx => by have := (loP x hx).2; omega)⟩
      · have h2 := hXB.2 x hXa
        exact ⟨x.block, (fun y h => by cases h; rfl), h2.1, by omega, (fun y hy => by have := hOB.2 y hy; omega), (fun y hy => by have := (loP y hy).1; omega)⟩
    refine (markRank_is pw HZ.out X11.out 1 (by omega) gi hgi).mono ?_
    rintro e w12 ⟨rfl, M', ho12⟩
    have r12 := (ho12.block _ (lt_of_block r11) (by omega)).trans r11
    have O12 : Hid (OwnI w3.heap.size (.slice Oa m Oc) ol w12) := O11.out.keep ho12 hO
    have P12 : Hid (OwnI w6.heap.size (.slice Pa m Pc) ol w12) := P11.out.keep ho12 hP
    have HB12 : Hid (Below w.heap.size w w12) := HB11.out.trans (ho12.below (by omega) HB11.out.size)
    have km0 : ¬ mkK 1 n < 0 := by unfold mkK; omega
    obtain ⟨km, hkm⟩ : ∃ u, mkK 1 n = u := ⟨_, rfl⟩
    rw [hkm] at km0
    (try simp only [hkm])
    have tkm : decide (km < 0) = false := decide_eq_false km0
    have HPN : Hid (w.heap.size < w6.heap.size ∧ ∀ x, Oa = some x → x.block < w6.heap.size) := ⟨by omega, fun x hx => by have := hOB.2 x hx; omega⟩
    clear r11 x11 O11 P11 X11 HB11 ho12 M' hOB hXB hXP hPW hge hne hgi hkm loO loP hO hP km0
    obtain ⟨vr0, vr1⟩ := cells2 r12
    go_wp2_with fail
    clear vr0 vr1
    refine (eqIntS_any HM.out P12.out O12.out (by omega)).mono ?_
    rintro e w13 ⟨rfl, hb13⟩
    have r13 := keep_block hb13 r12 (lt_of_block r12)
    have O13 : Hid (OwnI w3.heap.size (.slice Oa m Oc) ol w13) := O12.out.below hb13
    have P13 : Hid (OwnI w6.heap.size (.slice Pa m Pc) ol w13) := P12.out.below hb13
    have HB13 : Hid (Below w.heap.size w w13) := HB12.out.trans (hb13.mono HB12.out.size)
    clear r12 O12 P12 HB12
    clear hb13
    obtain ⟨vr0, vr1⟩ := cells2 r13
    go_wp2_with fail
    clear vr0 vr1
    have hPN := HPN.out
    have loO := O13.out.lo
    have loP := P13.out.lo
    obtain ⟨gj, hgj, hge, hO⟩ : ∃ gj, (∀ x, Pa = some x → x.block = gj) ∧ w6.heap.size ≤ gj ∧ (∀ x, Oa = some x → x.block ≠ gj) := by
      rcases hPa : Pa with _ | x
      · exact ⟨w6.heap.size, (fun x h => by cases h), by omega, (fun x hx => by have := hPN.2 x hx; omega)⟩
      · exact ⟨x.block, (fun y h => by cases h; rfl), (loP x hPa).1, (fun y hy => by have := hPN.2 y hy; have := (loP x hPa).1; omega)⟩
    refine (markIntS_any HM.out P13.out 1 (by omega) gj hgj).mono ?_
    rintro e w14 ⟨rfl, M', ho14⟩
    have r14 := (ho14.block _ (lt_of_block r13) (by omega)).trans r13
    have O14 : Hid (OwnI w3.heap.size (.slice Oa m Oc) ol w14) := O13.out.keep ho14 hO
    have M14 : Hid (OwnI w6.heap.size (.slice Pa m Pc) (marksI 1 m) w14) := M'
    have HB14 : Hid (Below w.heap.size w w14) := HB13.out.trans (ho14.below (by omega) HB13.out.size)
    have jm0 : ¬ (((1 + m : Nat) : Int) < 0) := by omega
    have HH : Hid (∀ u : World, OwnI w6.heap.size (.slice Pa m Pc) (marksI 1 m) u → Calls Try.prog 38 #[.slice Pa m Pc, .int .i64 ((1 : Nat) : Int)] u (Gives (.int .i64 ((1 + m : Nat) : Int)) u)) := fun u h => heldIntS_any 1 h (by omega)
    obtain ⟨jm, hjm⟩ : ∃ u : Int, ((1 + m : Nat) : Int) = u := ⟨_, rfl⟩
    rw [hjm] at jm0 HH
    (try simp only [hjm])
    have tjm : decide (jm < 0) = false := decide_eq_false jm0
    have tje : (jm != jm) = false := by simp
    clear r13 O13 P13 HB13 ho14 M' hPN hge hgj hjm loO loP hO jm0
    obtain ⟨vr0, vr1⟩ := cells2 r14
    go_wp2_with fail
    clear vr0 vr1
    refine (HH.out _ M14.out).mono ?_
    rintro e w15 ⟨rfl, hb15⟩
    have r15 := keep_block hb15 r14 (lt_of_block r14)
    have O15 : Hid (OwnI w3.heap.size (.slice Oa m Oc) ol w15) := O14.out.below hb15
    have M15 : Hid (OwnI w6.heap.size (.slice Pa m Pc) (marksI 1 m) w15) := M14.out.below hb15
    have HB15 : Hid (Below w.heap.size w w15) := HB14.out.trans (hb15.mono HB14.out.size)
    clear r14 O14 M14 HB14
    clear hb15
    obtain ⟨vr0, vr1⟩ := cells2 r15
    go_wp2_with fail
    clear vr0 vr1
    refine (toRank_is _ _ _ _ _ HZ.out (by omega) _ (HR0.out _ HB15.out)).mono ?_
    rintro e w16 ⟨Ta, Tc, rfl, own16, hb16⟩
    have r16 := keep_block hb16 r15 (lt_of_block r15)
    have O16 : Hid (OwnI w3.heap.size (.slice Oa m Oc) ol w16) := O15.out.below hb16
    have M16 : Hid (OwnI w6.heap.size (.slice Pa m Pc) (marksI 1 m) w16) := M15.out.below hb16
    have HB16 : Hid (Below w.heap.size w w16) := HB15.out.trans (hb16.mono HB15.out.size)
    clear r15 O15 M15 HB15
    have T16 : Hid (RowB w16 Ta zs) := own16.row
    have NT : Hid (Ta = none → Tc = 0) := own16.none
    clear own16
    clear hb16
    obtain ⟨vr0, vr1⟩ := cells2 r16
    go_wp2_with fail
    clear vr0 vr1
    refine (((IMPL.out _ _ _ _ _ HZ.out (by omega) NT.out _ T16.out).mono fun e u h => givesI_is HOL.out HM.out h)).mono ?_
    rintro e w17 ⟨Qa, Qc, rfl, own17, hb17⟩
    have r17 := keep_block hb17 r16 (lt_of_block r16)
    have O17 : Hid (OwnI w3.heap.size (.slice Oa m Oc) ol w17) := O16.out.below hb17
    have M17 : Hid (OwnI w6.heap.size (.slice Pa m Pc) (marksI 1 m) w17) := M16.out.below hb17
    have T17 : Hid (RowB w17 Ta zs) := T16.out.below hb17
    have HB17 : Hid (Below w.heap.size w w17) := HB16.out.trans (hb17.mono HB16.out.size)
    clear r16 O16 M16 T16 HB16
    have Q17 : Hid (OwnI w16.heap.size (.slice Qa m Qc) ol w17) := own17
    clear own17
    clear hb17
    clear T17
    obtain ⟨vr0, vr1⟩ := cells2 r17
    go_wp2_with fail
    clear vr0 vr1
    refine (eqIntS_any HM.out Q17.out O17.out (by omega)).mono ?_
    rintro e w18 ⟨rfl, hb18⟩
    have r18 := keep_block hb18 r17 (lt_of_block r17)
    have O18 : Hid (OwnI w3.heap.size (.slice Oa m Oc) ol w18) := O17.out.below hb18
    have M18 : Hid (OwnI w6.heap.size (.slice Pa m Pc) (marksI 1 m) w18) := M17.out.below hb18
    have Q18 : Hid (OwnI w16.heap.size (.slice Qa m Qc) ol w18) := Q17.out.below hb18
    have HB18 : Hid (Below w.heap.size w w18) := HB17.out.trans (hb18.mono HB17.out.size)
    clear r17 O17 M17 Q17 HB17
    clear hb18
    obtain ⟨vr0, vr1⟩ := cells2 r18
    go_wp2_with fail
    clear vr0 vr1
    refine (HH.out _ M18.out).mono ?_
    rintro e w19 ⟨rfl, hb19⟩
    have r19 := keep_block hb19 r18 (lt_of_block r18)
    have O19 : Hid (OwnI w3.heap.size (.slice Oa m Oc) ol w19) := O18.out.below hb19
    have M19 : Hid (OwnI w6.heap.size (.slice Pa m Pc) (marksI 1 m) w19) := M18.out.below hb19
    have Q19 : Hid (OwnI w16.heap.size (.slice Qa m Qc) ol w19) := Q18.out.below hb19
    have HB19 : Hid (Below w.heap.size w w19) := HB18.out.trans (hb19.mono HB18.out.size)
    clear r18 O18 M18 Q18 HB18
    clear hb19
    go_wp2
    go_ret
    exact ⟨rfl, HB19.out⟩


end Go.Proofs.Ytigoniochamjgaa
