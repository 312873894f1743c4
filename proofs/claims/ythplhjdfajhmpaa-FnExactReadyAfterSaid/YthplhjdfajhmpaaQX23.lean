/-
  Texts of one proof, merged: RdyE5.
-/
import Derived.Test.YthplhjdfajhmpaaQX6
import Derived.Test.YthplhjdfajhmpaaQX9
import Derived.Test.YthplhjdfajhmpaaQX17
import Derived.Test.YthplhjdfajhmpaaQX19
namespace Go.Proofs.Ythplhjdfajhmpaa
open Go.RowKit

set_option linter.unusedVariables false

theorem ofT_len (g0 B g2 g3 : Int) (N : Nat) (L : List Ev) (m : Nat) : (ofT g0 B g2 g3 N (L.take m)).1.length = (newL g0 B g2 g3 N).length ∧ (ofT g0 B g2 g3 N (L.take m)).2.length ≤ 4 := by
  induction m with
  | zero => exact ⟨rfl, Nat.zero_le _⟩
  | succ m ih =>
    by_cases hm : m < L.length
    · rw [take_snoc hm, ofT_snoc]
      exact ⟨(rdL_len _ _ _ _ _ _ _ _).trans ih.1, rdA_len _ _ _ _ _ _ _ _ ih.2⟩
    · rw [List.take_of_length_le (by omega)] at ih ⊢
      exact ih

set_option maxHeartbeats 16000000 in
set_option maxRecDepth 100000 in
theorem exReadyOf_of (IMPL : Hid IReadyOf) (ea eb ec ed : Int) (a0 : Option Addr) (n cap : Nat) (w : World) (s : Sh.Fits w (.row (.and (.num .i64) (.and (.and (.num .i64) (.and (.num .i64) (.and (.num .i64) (.and (.num .i64) .fin)))) .fin))) [.slice a0 n cap]) :
    Calls Try.prog 8 #[.agg #[.int .i64 ea, .int .i64 eb, .int .i64 ec, .int .i64 ed], .slice a0 n cap] w fun e w' => e = .returned (.bool true) ∧ Below w.heap.size w w' := by
  obtain ⟨zs, hz, hr, hmx, _, _⟩ := events_in s
  have HZ := Lib.hid hz
  have HR0 := Lib.hid hr
  have hbk := bankN_range ea eb ec ed
  obtain ⟨N, hN⟩ := Int.eq_ofNat_of_zero_le hbk.1
  have HN := Lib.hid hN
  have hlen := ofT_len ea eb ec ed N zs n
  rw [List.take_of_length_le (by omega)] at hlen
  have hnl : (newL ea eb ec ed N).length ≤ 81 := by
    unfold newL
    split
    · rw [List.length_replicate]; omega
    · simp
  obtain ⟨la, hla⟩ : ∃ l, (ofT ea eb ec ed N zs).1 = l := ⟨_, rfl⟩
  obtain ⟨ac, hac⟩ : ∃ l, (ofT ea eb ec ed N zs).2 = l := ⟨_, rfl⟩
  rw [hla, hac] at hlen
  have HLA := Lib.hid hla
  have HAC := Lib.hid hac
  obtain ⟨n1, hn1⟩ : ∃ m, la.length = m := ⟨_, rfl⟩
  obtain ⟨n2, hn2⟩ : ∃ m, ac.length = m := ⟨_, rfl⟩
  have HN1 := Lib.hid hn1
  have HN2 := Lib.hid hn2
  have hn81 : n1 ≤ 81 := by omega
  have hn24 : n2 ≤ 4 := by omega
  obtain ⟨sv, hsv⟩ : ∃ sv, (if (1048576 : Int) - n < 0 then -1 else (1048576 : Int) - n) = sv := ⟨_, rfl⟩
  have HSV := Lib.hid hsv
  obtain ⟨w1, hw1⟩ : ∃ u, w.alloc (.cells #[.int .i64 ea, .int .i64 eb, .int .i64 ec, .int .i64 ed] 43) = u := ⟨_, rfl⟩
  have HB1 : Hid (Below w.heap.size w w1) := by subst hw1; exact (Below.refl _ _).alloc (Nat.le_refl _) _
  have gg1 : w1.heap[w.heap.size]? = some (.cells #[.int .i64 ea, .int .i64 eb, .int .i64 ec, .int .i64 ed] 43) := by subst hw1; exact heap_alloc_new _ _
  clear hN hbk hla hac hn1 hn2 hlen hnl hz hr
  by_cases hbig : (n : Int) ≤ 1048576
  case neg =>
    have t0 : decide (sv < 0) = true := decide_eq_true (by rw [← hsv, if_pos (by omega)]; decide)
    clear hsv
    go_enter Try.func8, Try.ntmps8
    go_wp2_with fail
    refine (szEventS_is _ _ _ _ sv hmx (by decide) (by decide) HSV.out _).mono ?_
    rintro e w2 ⟨rfl, hb2⟩
    go_wp2
    go_ret
    exact ⟨rfl, HB1.out.trans (hb2.mono HB1.out.size)⟩
  have t0 : decide (sv < 0) = false := decide_eq_false (by rw [← hsv, if_neg (by omega)]; omega)
  clear hsv
  go_enter Try.func8, Try.ntmps8
  obtain ⟨vgg0, vgg1, vgg2, vgg3⟩ := cells4 gg1
  go_wp2_with fail
  clear vgg0 vgg1 vgg2 vgg3
  refine (szEventS_is _ _ _ _ sv hmx (by decide) (by decide) HSV.out _).mono ?_
  rintro e w2 ⟨rfl, hb2⟩
  have gg2 := keep_block hb2 gg1 (lt_of_block gg1)
  have HB2 : Hid (Below w.heap.size w w2) := HB1.out.trans (hb2.mono HB1.out.size)
  clear gg1 HB1
  clear hb2
  clear hw1
  obtain ⟨vgg0, vgg1, vgg2, vgg3⟩ := cells4 gg2
  go_wp2_with fail
  clear vgg0 vgg1 vgg2 vgg3
  refine (toGeometry_any _ _ _ _ _).mono ?_
  rintro e w3 ⟨rfl, hb3⟩
  have gg3 := keep_block hb3 gg2 (lt_of_block gg2)
  have HB3 : Hid (Below w.heap.size w w3) := HB2.out.trans (hb3.mono HB2.out.size)
  clear gg2 HB2
  clear hb3
  obtain ⟨vgg0, vgg1, vgg2, vgg3⟩ := cells4 gg3
  go_wp2_with fail
  clear vgg0 vgg1 vgg2 vgg3
  refine (toEventS_is _ _ _ _ HZ.out (by omega) _ (HR0.out.below HB3.out)).mono ?_
  rintro e w4 ⟨Da, Dc, rfl, own4, hb4⟩
  have gg4 := keep_block hb4 gg3 (lt_of_block gg3)
  have HB4 : Hid (Below w.heap.size w w4) := HB3.out.trans (hb4.mono HB3.out.size)
  clear gg3 HB3
  have D4 : Hid (evK.Own 41 w3.heap.size (.slice Da n Dc) zs w4) := own4
  clear own4
  clear hb4
  obtain ⟨vgg0, vgg1, vgg2, vgg3⟩ := cells4 gg4
  go_wp2_with fail
  clear vgg0 vgg1 vgg2 vgg3
  refine (specReadyOf_is _ _ _ _ N HN.out _ n _ zs la ac n1 n2 HLA.out HAC.out HN1.out HN2.out HZ.out (by omega) _ D4.out.row).mono ?_
  rintro e w5 ⟨Sa, Sc, Sb, Sd, rfl, own5, pwn5, ap5, hb5⟩
  have gg5 := keep_block hb5 gg4 (lt_of_block gg4)
  have D5 : Hid (evK.Own 41 w3.heap.size (.slice Da n Dc) zs w5) := D4.out.below hb5
  have HB5 : Hid (Below w.heap.size w w5) := HB4.out.trans (hb5.mono HB4.out.size)
  clear gg4 D4 HB4
  have S5 : Hid (OwnI w4.heap.size (.slice Sa n1 Sc) la w5) := own5
  have Sq5 : Hid (OwnI w4.heap.size (.slice Sb n2 Sd) ac w5) := pwn5
  have SZS : Hid (w4.heap.size ≤ w5.heap.size) := hb5.size
  clear own5 pwn5 ap5
  clear hb5
  clear D5
  have hb6 : Below w5.heap.size w5 (w5.alloc (.cells #[.slice Sa n1 Sc, .slice Sb n2 Sd] 33)) := (Below.refl _ _).alloc (Nat.le_refl _) _
  have gg6 := keep_block hb6 gg5 (lt_of_block gg5)
  have S6 : Hid (OwnI w4.heap.size (.slice Sa n1 Sc) la (w5.alloc (.cells #[.slice Sa n1 Sc, .slice Sb n2 Sd] 33))) := S5.out.below hb6
  have Sq6 : Hid (OwnI w4.heap.size (.slice Sb n2 Sd) ac (w5.alloc (.cells #[.slice Sa n1 Sc, .slice Sb n2 Sd] 33))) := Sq5.out.below hb6
  have s6 := heap_alloc_new w5 (.cells #[.slice Sa n1 Sc, .slice Sb n2 Sd] 33)
  have HB6 : Hid (Below w.heap.size w (w5.alloc (.cells #[.slice Sa n1 Sc, .slice Sb n2 Sd] 33))) := HB5.out.trans (hb6.mono HB5.out.size)
  obtain ⟨vgg0, vgg1, vgg2, vgg3⟩ := cells4 gg6
  obtain ⟨vs0, vs1⟩ := cells2 s6
  go_wp2_with fail
  clear vgg0 vgg1 vgg2 vgg3 vs0 vs1 hb6
  clear gg5 S5 Sq5 HB5
  generalize (w5.alloc (.cells #[.slice Sa n1 Sc, .slice Sb n2 Sd] 33)) = w6 at gg6 S6 Sq6 s6 HB6 ⊢
  obtain ⟨sP, hsP⟩ : ∃ p, w5.heap.size = p := ⟨_, rfl⟩
  rw [hsP] at s6
  (try simp only [hsP])
  clear hsP
  have HSB : Hid (w.heap.size < w6.heap.size ∧ sP < w6.heap.size ∧ (∀ x, Sa = some x → x.block < w6.heap.size) ∧ ∀ x, Sb = some x → x.block < w6.heap.size) := ⟨lt_of_block gg6, lt_of_block s6, fun x hx => (S6.out.lo x hx).2, fun x hx => (Sq6.out.lo x hx).2⟩
  refine (toEventS_is _ _ _ _ HZ.out (by omega) _ (HR0.out.below HB6.out)).mono ?_
  rintro e w7 ⟨Xa, Xc, rfl, own7, hb7⟩
  have gg7 := keep_block hb7 gg6 (lt_of_block gg6)
  have s7 := keep_block hb7 s6 (lt_of_block s6)
  have S7 : Hid (OwnI w4.heap.size (.slice Sa n1 Sc) la w7) := S6.out.below hb7
  have Sq7 : Hid (OwnI w4.heap.size (.slice Sb n2 Sd) ac w7) := Sq6.out.below hb7
  have HB7 : Hid (Below w.heap.size w w7) := HB6.out.trans (hb7.mono HB6.out.size)
  clear gg6 s6 S6 Sq6 HB6
  have X7 : Hid (evK.Own 41 w6.heap.size (.slice Xa n Xc) zs w7) := own7
  have SZX : Hid (w6.heap.size ≤ w7.heap.size) := hb7.size
  clear own7
  clear hb7
  obtain ⟨vgg0, vgg1, vgg2, vgg3⟩ := cells4 gg7
  obtain ⟨vs0, vs1⟩ := cells2 s7
  go_wp2_with fail
  clear vgg0 vgg1 vgg2 vgg3 vs0 vs1
  refine (toGeometry_any _ _ _ _ _).mono ?_
  rintro e w8 ⟨rfl, hb8⟩
  have gg8 := keep_block hb8 gg7 (lt_of_block gg7)
  have s8 := keep_block hb8 s7 (lt_of_block s7)
  have S8 : Hid (OwnI w4.heap.size (.slice Sa n1 Sc) la w8) := S7.out.below hb8
  have Sq8 : Hid (OwnI w4.heap.size (.slice Sb n2 Sd) ac w8) := Sq7.out.below hb8
  have X8 : Hid (evK.Own 41 w6.heap.size (.slice Xa n Xc) zs w8) := X7.out.below hb8
  have HB8 : Hid (Below w.heap.size w w8) := HB7.out.trans (hb8.mono HB7.out.size)
  clear gg7 s7 S7 Sq7 X7 HB7
  have SZG : Hid (w7.heap.size ≤ w8.heap.size) := hb8.size
  clear hb8
  have HXL : Hid (∀ x, Xa = some x → w6.heap.size ≤ x.block ∧ x.block < w8.heap.size) := X8.out.lo
  have HXN : Hid (w6.heap.size ≤ w8.heap.size) := Nat.le_trans SZX.out SZG.out
  obtain ⟨vgg0, vgg1, vgg2, vgg3⟩ := cells4 gg8
  obtain ⟨vs0, vs1⟩ := cells2 s8
  go_wp2_with fail
  clear vgg0 vgg1 vgg2 vgg3 vs0 vs1
  refine (IMPL.out _ _ _ _ N HN.out _ n _ zs la ac n1 n2 HLA.out HAC.out HN1.out HN2.out HZ.out (by omega) X8.out.nil _ X8.out.row).mono ?_
  rintro e w9 ⟨Ia, Ic, Ib, Id, rfl, own9, pwn9, ap9, hb9⟩
  have gg9 := keep_block hb9 gg8 (lt_of_block gg8)
  have s9 := keep_block hb9 s8 (lt_of_block s8)
  have S9 : Hid (OwnI w4.heap.size (.slice Sa n1 Sc) la w9) := S8.out.below hb9
  have Sq9 : Hid (OwnI w4.heap.size (.slice Sb n2 Sd) ac w9) := Sq8.out.below hb9
  have X9 : Hid (evK.Own 41 w6.heap.size (.slice Xa n Xc) zs w9) := X8.out.below hb9
  have HB9 : Hid (Below w.heap.size w w9) := HB8.out.trans (hb9.mono HB8.out.size)
  clear gg8 s8 S8 Sq8 X8 HB8
  have I9 : Hid (OwnI w8.heap.size (.slice Ia n1 Ic) la w9) := own9
  have Iq9 : Hid (OwnJ w8.heap.size (.slice Ib n2 Id) ac w9) := pwn9
  have API := Lib.hid ap9
  have SZI : Hid (w8.heap.size ≤ w9.heap.size) := hb9.size
  clear own9 pwn9 ap9
  clear hb9
  have HIB : Hid ((∀ x, Ia = some x → x.block < w9.heap.size) ∧ ∀ x, Ib = some x → x.block < w9.heap.size) := ⟨fun x hx => (I9.out.lo x hx).2, fun x hx => (Iq9.out.lo x hx).2⟩
  have hb10 : Below w9.heap.size w9 (w9.alloc (.cells #[.slice Ia n1 Ic, .slice Ib n2 Id] 33)) := (Below.refl _ _).alloc (Nat.le_refl _) _
  have gg10 := keep_block hb10 gg9 (lt_of_block gg9)
  have s10 := keep_block hb10 s9 (lt_of_block s9)
  have S10 : Hid (OwnI w4.heap.size (.slice Sa n1 Sc) la (w9.alloc (.cells #[.slice Ia n1 Ic, .slice Ib n2 Id] 33))) := S9.out.below hb10
  have Sq10 : Hid (OwnI w4.heap.size (.slice Sb n2 Sd) ac (w9.alloc (.cells #[.slice Ia n1 Ic, .slice Ib n2 Id] 33))) := Sq9.out.below hb10
  have X10 : Hid (evK.Own 41 w6.heap.size (.slice Xa n Xc) zs (w9.alloc (.cells #[.slice Ia n1 Ic, .slice Ib n2 Id] 33))) := X9.out.below hb10
  have I10 : Hid (OwnI w8.heap.size (.slice Ia n1 Ic) la (w9.alloc (.cells #[.slice Ia n1 Ic, .slice Ib n2 Id] 33))) := I9.out.below hb10
  have Iq10 : Hid (OwnJ w8.heap.size (.slice Ib n2 Id) ac (w9.alloc (.cells #[.slice Ia n1 Ic, .slice Ib n2 Id] 33))) := Iq9.out.below hb10
  have i10 := heap_alloc_new w9 (.cells #[.slice Ia n1 Ic, .slice Ib n2 Id] 33)
  have HB10 : Hid (Below w.heap.size w (w9.alloc (.cells #[.slice Ia n1 Ic, .slice Ib n2 Id] 33))) := HB9.out.trans (hb10.mono HB9.out.size)
  obtain ⟨vgg0, vgg1, vgg2, vgg3⟩ := cells4 gg10
  obtain ⟨vs0, vs1⟩ := cells2 s10
  obtain ⟨vi0, vi1⟩ := cells2 i10
  go_wp2_with fail
  clear vgg0 vgg1 vgg2 vgg3 vs0 vs1 vi0 vi1 hb10
  clear gg9 s9 S9 Sq9 X9 I9 Iq9 HB9
  generalize (w9.alloc (.cells #[.slice Ia n1 Ic, .slice Ib n2 Id] 33)) = w10 at gg10 s10 S10 Sq10 X10 I10 Iq10 i10 HB10 ⊢
  obtain ⟨iP, hiP⟩ : ∃ p, w9.heap.size = p := ⟨_, rfl⟩
  rw [hiP] at i10
  have HIP : Hid (w8.heap.size ≤ iP ∧ (∀ x, Ia = some x → x.block < iP) ∧ ∀ x, Ib = some x → x.block < iP) := ⟨by have := SZI.out; omega, fun x hx => by have := HIB.out.1 x hx; omega, fun x hx => by have := HIB.out.2 x hx; omega⟩
  (try simp only [hiP])
  clear hiP
  refine (eqReady_row HN1.out HN2.out I10.out.row Iq10.out.row S10.out.row Sq10.out.row (by omega) (by omega)).mono ?_
  rintro e w11 ⟨rfl, hb11⟩
  have gg11 := keep_block hb11 gg10 (lt_of_block gg10)
  have s11 := keep_block hb11 s10 (lt_of_block s10)
  have i11 := keep_block hb11 i10 (lt_of_block i10)
  have S11 : Hid (OwnI w4.heap.size (.slice Sa n1 Sc) la w11) := S10.out.below hb11
  have Sq11 : Hid (OwnI w4.heap.size (.slice Sb n2 Sd) ac w11) := Sq10.out.below hb11
  have X11 : Hid (evK.Own 41 w6.heap.size (.slice Xa n Xc) zs w11) := X10.out.below hb11
  have I11 : Hid (OwnI w8.heap.size (.slice Ia n1 Ic) la w11) := I10.out.below hb11
  have Iq11 : Hid (OwnJ w8.heap.size (.slice Ib n2 Id) ac w11) := Iq10.out.below hb11
  have HB11 : Hid (Below w.heap.size w w11) := HB10.out.trans (hb11.mono HB10.out.size)
  clear gg10 s10 i10 S10 Sq10 X10 I10 Iq10 HB10
  clear hb11
  obtain ⟨vgg0, vgg1, vgg2, vgg3⟩ := cells4 gg11
  obtain ⟨vs0, vs1⟩ := cells2 s11
  obtain ⟨vi0, vi1⟩ := cells2 i11
  go_wp2_with fail
  clear vgg0 vgg1 vgg2 vgg3 vs0 vs1 vi0 vi1
  refine (toEventS_is _ _ _ _ HZ.out (by omega) _ (HR0.out.below HB11.out)).mono ?_
  rintro e w12 ⟨Ea, Ec, rfl, own12, hb12⟩
  have gg12 := keep_block hb12 gg11 (lt_of_block gg11)
  have s12 := keep_block hb12 s11 (lt_of_block s11)
  have i12 := keep_block hb12 i11 (lt_of_block i11)
  have S12 : Hid (OwnI w4.heap.size (.slice Sa n1 Sc) la w12) := S11.out.below hb12
  have Sq12 : Hid (OwnI w4.heap.size (.slice Sb n2 Sd) ac w12) := Sq11.out.below hb12
  have X12 : Hid (evK.Own 41 w6.heap.size (.slice Xa n Xc) zs w12) := X11.out.below hb12
  have I12 : Hid (OwnI w8.heap.size (.slice Ia n1 Ic) la w12) := I11.out.below hb12
  have Iq12 : Hid (OwnJ w8.heap.size (.slice Ib n2 Id) ac w12) := Iq11.out.below hb12
  have HB12 : Hid (Below w.heap.size w w12) := HB11.out.trans (hb12.mono HB11.out.size)
  clear gg11 s11 i11 S11 Sq11 X11 I11 Iq11 HB11
  have E12 : Hid (evK.Own 41 w11.heap.size (.slice Ea n Ec) zs w12) := own12
  clear own12
  clear hb12
  obtain ⟨vgg0, vgg1, vgg2, vgg3⟩ := cells4 gg12
  obtain ⟨vs0, vs1⟩ := cells2 s12
  obtain ⟨vi0, vi1⟩ := cells2 i12
  go_wp2_with fail
  clear vgg0 vgg1 vgg2 vgg3 vs0 vs1 vi0 vi1
  refine (eqEventS_is HZ.out X12.out.row E12.out.row (by omega)).mono ?_
  rintro e w13 ⟨rfl, hb13⟩
  have gg13 := keep_block hb13 gg12 (lt_of_block gg12)
  have s13 := keep_block hb13 s12 (lt_of_block s12)
  have i13 := keep_block hb13 i12 (lt_of_block i12)
  have S13 : Hid (OwnI w4.heap.size (.slice Sa n1 Sc) la w13) := S12.out.below hb13
  have Sq13 : Hid (OwnI w4.heap.size (.slice Sb n2 Sd) ac w13) := Sq12.out.below hb13
  have X13 : Hid (evK.Own 41 w6.heap.size (.slice Xa n Xc) zs w13) := X12.out.below hb13
  have I13 : Hid (OwnI w8.heap.size (.slice Ia n1 Ic) la w13) := I12.out.below hb13
  have Iq13 : Hid (OwnJ w8.heap.size (.slice Ib n2 Id) ac w13) := Iq12.out.below hb13
  have E13 : Hid (evK.Own 41 w11.heap.size (.slice Ea n Ec) zs w13) := E12.out.below hb13
  have HB13 : Hid (Below w.heap.size w w13) := HB12.out.trans (hb13.mono HB12.out.size)
  clear gg12 s12 i12 S12 Sq12 X12 I12 Iq12 E12 HB12
  clear hb13
  clear E13
  obtain ⟨vgg0, vgg1, vgg2, vgg3⟩ := cells4 gg13
  obtain ⟨vs0, vs1⟩ := cells2 s13
  obtain ⟨vi0, vi1⟩ := cells2 i13
  go_wp2_with fail
  clear vgg0 vgg1 vgg2 vgg3 vs0 vs1 vi0 vi1
  have hSB := HSB.out
  have hXL := HXL.out
  have hXN := HXN.out
  have hIS := HIP.out
  have hiq := lt_of_block i13
  obtain ⟨gi, hgi, hge, hni, hII⟩ : ∃ gi, (∀ x, Xa = some x → x.block = gi) ∧ w6.heap.size ≤ gi ∧ gi ≠ iP ∧ (∀ y, w8.heap.size ≤ y → y < w13.heap.size → y ≠ gi) := by
    rcases hXa : Xa with _ | x
    · exact ⟨w13.heap.size + 1, (fun x h => by cases h), by omega, by omega, fun y _ _ => by omega⟩
    · have h2 := hXL x hXa
      exact ⟨x.block, (fun y h => by cases h; rfl), h2.1, by omega, fun y _ _ => by omega⟩
  refine (markEventS_is HZ.out X13.out 1 (by omega) gi hgi).mono ?_
  rintro e w14 ⟨rfl, ho14⟩
  have gg14 := (ho14.block _ (lt_of_block gg13) (by omega)).trans gg13
  have s14 := (ho14.block _ (lt_of_block s13) (by omega)).trans s13
  have i14 := (ho14.block _ (lt_of_block i13) (by omega)).trans i13
  have S14 : Hid (OwnI w4.heap.size (.slice Sa n1 Sc) la w14) := S13.out.keep ho14 (fun x hx => by have := hSB.2.2.1 x hx; omega)
  have Sq14 : Hid (OwnI w4.heap.size (.slice Sb n2 Sd) ac w14) := Sq13.out.keep ho14 (fun x hx => by have := hSB.2.2.2 x hx; omega)
  have I14 : Hid (OwnI w8.heap.size (.slice Ia n1 Ic) la w14) := I13.out.keep ho14 (fun x hx => hII _ (I13.out.lo x hx).1 (I13.out.lo x hx).2)
  have Iq14 : Hid (OwnJ w8.heap.size (.slice Ib n2 Id) ac w14) := Iq13.out.keep ho14 (fun x hx => hII _ (Iq13.out.lo x hx).1 (Iq13.out.lo x hx).2)
  have HB14 : Hid (Below w.heap.size w w14) := HB13.out.trans (ho14.below (by omega) HB13.out.size)
  obtain ⟨em, hem⟩ : ∃ u : Int, ((1 + 5 * n : Nat) : Int) = u := ⟨_, rfl⟩
  have tem : decide (em < 0) = false := decide_eq_false (by omega)
  (try simp only [hem])
  clear gg13 s13 i13 S13 Sq13 I13 Iq13 X13 HB13 ho14 hSB hXL hXN hIS hiq hgi hge hni hII hem
  obtain ⟨vgg0, vgg1, vgg2, vgg3⟩ := cells4 gg14
  obtain ⟨vs0, vs1⟩ := cells2 s14
  obtain ⟨vi0, vi1⟩ := cells2 i14
  go_wp2_with fail
  clear vgg0 vgg1 vgg2 vgg3 vs0 vs1 vi0 vi1
  refine (eqReady_row HN1.out HN2.out I14.out.row Iq14.out.row S14.out.row Sq14.out.row (by omega) (by omega)).mono ?_
  rintro e w15 ⟨rfl, hb15⟩
  have gg15 := keep_block hb15 gg14 (lt_of_block gg14)
  have s15 := keep_block hb15 s14 (lt_of_block s14)
  have i15 := keep_block hb15 i14 (lt_of_block i14)
  have S15 : Hid (OwnI w4.heap.size (.slice Sa n1 Sc) la w15) := S14.out.below hb15
  have Sq15 : Hid (OwnI w4.heap.size (.slice Sb n2 Sd) ac w15) := Sq14.out.below hb15
  have I15 : Hid (OwnI w8.heap.size (.slice Ia n1 Ic) la w15) := I14.out.below hb15
  have Iq15 : Hid (OwnJ w8.heap.size (.slice Ib n2 Id) ac w15) := Iq14.out.below hb15
  have HB15 : Hid (Below w.heap.size w w15) := HB14.out.trans (hb15.mono HB14.out.size)
  clear gg14 s14 i14 S14 Sq14 I14 Iq14 HB14
  clear hb15
  obtain ⟨vgg0, vgg1, vgg2, vgg3⟩ := cells4 gg15
  obtain ⟨vs0, vs1⟩ := cells2 s15
  obtain ⟨vi0, vi1⟩ := cells2 i15
  go_wp2_with fail
  clear vgg0 vgg1 vgg2 vgg3 vs0 vs1 vi0 vi1
  have hSB := HSB.out
  have hXN := HXN.out
  have hIS := HIP.out
  obtain ⟨gi, gk, hg1, hg2, hx1, hx2, hsz, hBi, hBk, hother⟩ := pick_rj (B := w8.heap.size) I15.out Iq15.out API.out (Nat.le_refl _) (Nat.le_refl _) (by have := lt_of_block i15; omega)
  refine (markReady_j HN1.out HN2.out I15.out Iq15.out 1 (by omega) gi gk hg1 hg2 hx1 hx2 hsz).mono ?_
  rintro e w16 ⟨rfl, M', Mq', ho16⟩
  have gg16 := (ho16.block _ (lt_of_block gg15) (by omega) (by omega)).trans gg15
  have s16 := (ho16.block _ (lt_of_block s15) (by omega) (by omega)).trans s15
  have hoi := hother iP (lt_of_block i15) (fun x hx => by have := hIS.2.1 x hx; omega) (fun x hx => by have := hIS.2.2 x hx; omega)
  have i16 := (ho16.block _ (lt_of_block i15) hoi.1 hoi.2).trans i15
  have S16 : Hid (OwnI w4.heap.size (.slice Sa n1 Sc) la w16) := S15.out.keep2 ho16 (fun x hx => by have := hSB.2.2.1 x hx; omega) (fun x hx => by have := hSB.2.2.1 x hx; omega)
  have Sq16 : Hid (OwnI w4.heap.size (.slice Sb n2 Sd) ac w16) := Sq15.out.keep2 ho16 (fun x hx => by have := hSB.2.2.2 x hx; omega) (fun x hx => by have := hSB.2.2.2 x hx; omega)
  have M16 : Hid (OwnI w8.heap.size (.slice Ia n1 Ic) (marksI 1 n1) w16) := M'
  have Mq16 : Hid (OwnJ w8.heap.size (.slice Ib n2 Id) (marksI (1 + n1) n2) w16) := Mq'
  have HB16 : Hid (Below w.heap.size w w16) := HB15.out.trans (ho16.below (by omega) (by omega) HB15.out.size)
  have HH : Hid (∀ u : World, OwnI w8.heap.size (.slice Ia n1 Ic) (marksI 1 n1) u → OwnJ w8.heap.size (.slice Ib n2 Id) (marksI (1 + n1) n2) u → Calls Try.prog 27 #[.agg #[.slice Ia n1 Ic, .slice Ib n2 Id], .int .i64 ((1 : Nat) : Int)] u (Gives (.int .i64 ((1 + n1 + n2 : Nat) : Int)) u)) := fun u h h' => heldReady_row 1 h.row h'.row (by omega)
  have km0 : 0 ≤ ((1 + n1 + n2 : Nat) : Int) := by omega
  obtain ⟨km, hkm⟩ : ∃ u : Int, ((1 + n1 + n2 : Nat) : Int) = u := ⟨_, rfl⟩
  rw [hkm] at km0 HH
  (try simp only [hkm])
  have tkm : (km != km) = false := by simp
  have tkn : decide (km < 0) = false := decide_eq_false (by omega)
  clear gg15 s15 i15 S15 Sq15 I15 Iq15 HB15 ho16 M' Mq' hSB hXN hIS hg1 hg2 hx1 hx2 hsz hBi hBk hother hoi hkm
  obtain ⟨vgg0, vgg1, vgg2, vgg3⟩ := cells4 gg16
  obtain ⟨vs0, vs1⟩ := cells2 s16
  obtain ⟨vi0, vi1⟩ := cells2 i16
  go_wp2_with fail
  clear vgg0 vgg1 vgg2 vgg3 vs0 vs1 vi0 vi1
  refine (HH.out _ M16.out Mq16.out).mono ?_
  rintro e w17 ⟨rfl, hb17⟩
  have gg17 := keep_block hb17 gg16 (lt_of_block gg16)
  have s17 := keep_block hb17 s16 (lt_of_block s16)
  have i17 := keep_block hb17 i16 (lt_of_block i16)
  have S17 : Hid (OwnI w4.heap.size (.slice Sa n1 Sc) la w17) := S16.out.below hb17
  have Sq17 : Hid (OwnI w4.heap.size (.slice Sb n2 Sd) ac w17) := Sq16.out.below hb17
  have M17 : Hid (OwnI w8.heap.size (.slice Ia n1 Ic) (marksI 1 n1) w17) := M16.out.below hb17
  have Mq17 : Hid (OwnJ w8.heap.size (.slice Ib n2 Id) (marksI (1 + n1) n2) w17) := Mq16.out.below hb17
  have HB17 : Hid (Below w.heap.size w w17) := HB16.out.trans (hb17.mono HB16.out.size)
  clear gg16 s16 i16 S16 Sq16 M16 Mq16 HB16
  clear hb17
  obtain ⟨vgg0, vgg1, vgg2, vgg3⟩ := cells4 gg17
  obtain ⟨vs0, vs1⟩ := cells2 s17
  obtain ⟨vi0, vi1⟩ := cells2 i17
  go_wp2_with fail
  clear vgg0 vgg1 vgg2 vgg3 vs0 vs1 vi0 vi1
  refine (toGeometry_any _ _ _ _ _).mono ?_
  rintro e w18 ⟨rfl, hb18⟩
  have gg18 := keep_block hb18 gg17 (lt_of_block gg17)
  have s18 := keep_block hb18 s17 (lt_of_block s17)
  have i18 := keep_block hb18 i17 (lt_of_block i17)
  have S18 : Hid (OwnI w4.heap.size (.slice Sa n1 Sc) la w18) := S17.out.below hb18
  have Sq18 : Hid (OwnI w4.heap.size (.slice Sb n2 Sd) ac w18) := Sq17.out.below hb18
  have M18 : Hid (OwnI w8.heap.size (.slice Ia n1 Ic) (marksI 1 n1) w18) := M17.out.below hb18
  have Mq18 : Hid (OwnJ w8.heap.size (.slice Ib n2 Id) (marksI (1 + n1) n2) w18) := Mq17.out.below hb18
  have HB18 : Hid (Below w.heap.size w w18) := HB17.out.trans (hb18.mono HB17.out.size)
  clear gg17 s17 i17 S17 Sq17 M17 Mq17 HB17
  clear hb18
  obtain ⟨vgg0, vgg1, vgg2, vgg3⟩ := cells4 gg18
  obtain ⟨vs0, vs1⟩ := cells2 s18
  obtain ⟨vi0, vi1⟩ := cells2 i18
  go_wp2_with fail
  clear vgg0 vgg1 vgg2 vgg3 vs0 vs1 vi0 vi1
  refine (toEventS_is _ _ _ _ HZ.out (by omega) _ (HR0.out.below HB18.out)).mono ?_
  rintro e w19 ⟨Fa, Fc, rfl, own19, hb19⟩
  have gg19 := keep_block hb19 gg18 (lt_of_block gg18)
  have s19 := keep_block hb19 s18 (lt_of_block s18)
  have i19 := keep_block hb19 i18 (lt_of_block i18)
  have S19 : Hid (OwnI w4.heap.size (.slice Sa n1 Sc) la w19) := S18.out.below hb19
  have Sq19 : Hid (OwnI w4.heap.size (.slice Sb n2 Sd) ac w19) := Sq18.out.below hb19
  have M19 : Hid (OwnI w8.heap.size (.slice Ia n1 Ic) (marksI 1 n1) w19) := M18.out.below hb19
  have Mq19 : Hid (OwnJ w8.heap.size (.slice Ib n2 Id) (marksI (1 + n1) n2) w19) := Mq18.out.below hb19
  have HB19 : Hid (Below w.heap.size w w19) := HB18.out.trans (hb19.mono HB18.out.size)
  clear gg18 s18 i18 S18 Sq18 M18 Mq18 HB18
  have F19 : Hid (evK.Own 41 w18.heap.size (.slice Fa n Fc) zs w19) := own19
  clear own19
  clear hb19
  obtain ⟨vgg0, vgg1, vgg2, vgg3⟩ := cells4 gg19
  obtain ⟨vs0, vs1⟩ := cells2 s19
  obtain ⟨vi0, vi1⟩ := cells2 i19
  go_wp2_with fail
  clear vgg0 vgg1 vgg2 vgg3 vs0 vs1 vi0 vi1
  refine (IMPL.out _ _ _ _ N HN.out _ n _ zs la ac n1 n2 HLA.out HAC.out HN1.out HN2.out HZ.out (by omega) F19.out.nil _ F19.out.row).mono ?_
  rintro e w20 ⟨Ja, Jc, Jb, Jd, rfl, own20, pwn20, ap20, hb20⟩
  have gg20 := keep_block hb20 gg19 (lt_of_block gg19)
  have s20 := keep_block hb20 s19 (lt_of_block s19)
  have i20 := keep_block hb20 i19 (lt_of_block i19)
  have S20 : Hid (OwnI w4.heap.size (.slice Sa n1 Sc) la w20) := S19.out.below hb20
  have Sq20 : Hid (OwnI w4.heap.size (.slice Sb n2 Sd) ac w20) := Sq19.out.below hb20
  have M20 : Hid (OwnI w8.heap.size (.slice Ia n1 Ic) (marksI 1 n1) w20) := M19.out.below hb20
  have Mq20 : Hid (OwnJ w8.heap.size (.slice Ib n2 Id) (marksI (1 + n1) n2) w20) := Mq19.out.below hb20
  have F20 : Hid (evK.Own 41 w18.heap.size (.slice Fa n Fc) zs w20) := F19.out.below hb20
  have HB20 : Hid (Below w.heap.size w w20) := HB19.out.trans (hb20.mono HB19.out.size)
  clear gg19 s19 i19 S19 Sq19 M19 Mq19 F19 HB19
  have J20 : Hid (OwnI w19.heap.size (.slice Ja n1 Jc) la w20) := own20
  have Jq20 : Hid (OwnJ w19.heap.size (.slice Jb n2 Jd) ac w20) := pwn20
  have SZJ : Hid (w19.heap.size ≤ w20.heap.size) := hb20.size
  clear own20 pwn20 ap20
  clear hb20
  clear F20
  have hb21 : Below w20.heap.size w20 (w20.alloc (.cells #[.slice Ja n1 Jc, .slice Jb n2 Jd] 33)) := (Below.refl _ _).alloc (Nat.le_refl _) _
  have gg21 := keep_block hb21 gg20 (lt_of_block gg20)
  have s21 := keep_block hb21 s20 (lt_of_block s20)
  have i21 := keep_block hb21 i20 (lt_of_block i20)
  have S21 : Hid (OwnI w4.heap.size (.slice Sa n1 Sc) la (w20.alloc (.cells #[.slice Ja n1 Jc, .slice Jb n2 Jd] 33))) := S20.out.below hb21
  have Sq21 : Hid (OwnI w4.heap.size (.slice Sb n2 Sd) ac (w20.alloc (.cells #[.slice Ja n1 Jc, .slice Jb n2 Jd] 33))) := Sq20.out.below hb21
  have M21 : Hid (OwnI w8.heap.size (.slice Ia n1 Ic) (marksI 1 n1) (w20.alloc (.cells #[.slice Ja n1 Jc, .slice Jb n2 Jd] 33))) := M20.out.below hb21
  have Mq21 : Hid (OwnJ w8.heap.size (.slice Ib n2 Id) (marksI (1 + n1) n2) (w20.alloc (.cells #[.slice Ja n1 Jc, .slice Jb n2 Jd] 33))) := Mq20.out.below hb21
  have J21 : Hid (OwnI w19.heap.size (.slice Ja n1 Jc) la (w20.alloc (.cells #[.slice Ja n1 Jc, .slice Jb n2 Jd] 33))) := J20.out.below hb21
  have Jq21 : Hid (OwnJ w19.heap.size (.slice Jb n2 Jd) ac (w20.alloc (.cells #[.slice Ja n1 Jc, .slice Jb n2 Jd] 33))) := Jq20.out.below hb21
  have j21 := heap_alloc_new w20 (.cells #[.slice Ja n1 Jc, .slice Jb n2 Jd] 33)
  have HB21 : Hid (Below w.heap.size w (w20.alloc (.cells #[.slice Ja n1 Jc, .slice Jb n2 Jd] 33))) := HB20.out.trans (hb21.mono HB20.out.size)
  obtain ⟨vgg0, vgg1, vgg2, vgg3⟩ := cells4 gg21
  obtain ⟨vs0, vs1⟩ := cells2 s21
  obtain ⟨vi0, vi1⟩ := cells2 i21
  obtain ⟨vj0, vj1⟩ := cells2 j21
  go_wp2_with fail
  clear vgg0 vgg1 vgg2 vgg3 vs0 vs1 vi0 vi1 vj0 vj1 hb21
  clear gg20 s20 i20 S20 Sq20 M20 Mq20 J20 Jq20 HB20
  generalize (w20.alloc (.cells #[.slice Ja n1 Jc, .slice Jb n2 Jd] 33)) = w21 at gg21 s21 i21 S21 Sq21 M21 Mq21 J21 Jq21 j21 HB21 ⊢
  obtain ⟨jP, hjP⟩ : ∃ p, w20.heap.size = p := ⟨_, rfl⟩
  rw [hjP] at j21
  (try simp only [hjP])
  clear hjP
  refine (eqReady_row HN1.out HN2.out J21.out.row Jq21.out.row S21.out.row Sq21.out.row (by omega) (by omega)).mono ?_
  rintro e w22 ⟨rfl, hb22⟩
  have gg22 := keep_block hb22 gg21 (lt_of_block gg21)
  have s22 := keep_block hb22 s21 (lt_of_block s21)
  have i22 := keep_block hb22 i21 (lt_of_block i21)
  have j22 := keep_block hb22 j21 (lt_of_block j21)
  have S22 : Hid (OwnI w4.heap.size (.slice Sa n1 Sc) la w22) := S21.out.below hb22
  have Sq22 : Hid (OwnI w4.heap.size (.slice Sb n2 Sd) ac w22) := Sq21.out.below hb22
  have M22 : Hid (OwnI w8.heap.size (.slice Ia n1 Ic) (marksI 1 n1) w22) := M21.out.below hb22
  have Mq22 : Hid (OwnJ w8.heap.size (.slice Ib n2 Id) (marksI (1 + n1) n2) w22) := Mq21.out.below hb22
  have J22 : Hid (OwnI w19.heap.size (.slice Ja n1 Jc) la w22) := J21.out.below hb22
  have Jq22 : Hid (OwnJ w19.heap.size (.slice Jb n2 Jd) ac w22) := Jq21.out.below hb22
  have HB22 : Hid (Below w.heap.size w w22) := HB21.out.trans (hb22.mono HB21.out.size)
  clear gg21 s21 i21 j21 S21 Sq21 M21 Mq21 J21 Jq21 HB21
  clear hb22
  obtain ⟨vgg0, vgg1, vgg2, vgg3⟩ := cells4 gg22
  obtain ⟨vs0, vs1⟩ := cells2 s22
  obtain ⟨vi0, vi1⟩ := cells2 i22
  obtain ⟨vj0, vj1⟩ := cells2 j22
  go_wp2_with fail
  clear vgg0 vgg1 vgg2 vgg3 vs0 vs1 vi0 vi1 vj0 vj1
  refine (HH.out _ M22.out Mq22.out).mono ?_
  rintro e w23 ⟨rfl, hb23⟩
  have gg23 := keep_block hb23 gg22 (lt_of_block gg22)
  have s23 := keep_block hb23 s22 (lt_of_block s22)
  have i23 := keep_block hb23 i22 (lt_of_block i22)
  have j23 := keep_block hb23 j22 (lt_of_block j22)
  have S23 : Hid (OwnI w4.heap.size (.slice Sa n1 Sc) la w23) := S22.out.below hb23
  have Sq23 : Hid (OwnI w4.heap.size (.slice Sb n2 Sd) ac w23) := Sq22.out.below hb23
  have M23 : Hid (OwnI w8.heap.size (.slice Ia n1 Ic) (marksI 1 n1) w23) := M22.out.below hb23
  have Mq23 : Hid (OwnJ w8.heap.size (.slice Ib n2 Id) (marksI (1 + n1) n2) w23) := Mq22.out.below hb23
  have J23 : Hid (OwnI w19.heap.size (.slice Ja n1 Jc) la w23) := J22.out.below hb23
  have Jq23 : Hid (OwnJ w19.heap.size (.slice Jb n2 Jd) ac w23) := Jq22.out.below hb23
  have HB23 : Hid (Below w.heap.size w w23) := HB22.out.trans (hb23.mono HB22.out.size)
  clear gg22 s22 i22 j22 S22 Sq22 M22 Mq22 J22 Jq22 HB22
  clear hb23
  go_wp2
  go_ret
  exact ⟨rfl, HB23.out⟩

end Go.Proofs.Ythplhjdfajhmpaa
