/-
  The walk of the exact statement over the times of activations, out of the contract.
-/
import Derived.Test.YtihhcnckoeaihaaTrcI
import Derived.Test.YtihhcnckoeaihaaTrcX
namespace Go.Proofs.Ytihhcnckoeaihaa
open Go.RowKit Go.PlainAid

set_option linter.unusedVariables false

theorem givesI_is {l ol : List Int} {m : Nat} {w w' : World} {e : Ending} (h1 : l = ol) (h2 : ol.length = m) (h : GivesI l w e w') : ∃ a cap, e = .returned (.slice a m cap) ∧ OwnI w.heap.size (.slice a m cap) ol w' ∧ Below w.heap.size w w' := by
  subst h1
  subst h2
  exact h

set_option maxHeartbeats 16000000 in
set_option maxRecDepth 100000 in
theorem exActs_of (IMPL : Hid IActs) (a0 : Option Addr) (n cap : Nat) (w : World) (s : Sh.Fits w (.row (.and (.num .i64) (.and (.and (.num .i64) (.and (.num .i64) (.and (.num .i64) (.and (.num .i64) .fin)))) .fin))) [.slice a0 n cap]) :
    Calls Try.prog 5 #[.slice a0 n cap] w fun e w' => e = .returned (.bool true) ∧ Below w.heap.size w w' := by
  obtain ⟨zs, hz, hr, hmx, _, _⟩ := events_in s
  have HZ := Lib.hid hz
  obtain ⟨ol, hol⟩ : ∃ v, actsT zs = v := ⟨_, rfl⟩
  have HOL := Lib.hid hol
  obtain ⟨m, hm⟩ : ∃ v, ol.length = v := ⟨_, rfl⟩
  have HM := Lib.hid hm
  have hmn : m ≤ n := by rw [← hm, ← hol, ← hz]; exact actsT_length _
  obtain ⟨sv, hsv⟩ : ∃ sv, (if (1048576 : Int) - n < 0 then -1 else (1048576 : Int) - n) = sv := ⟨_, rfl⟩
  have HSV := Lib.hid hsv
  have HR0 := Lib.hid hr
  clear hol hm hz hr
  suffices H : ∀ w1, w1 = w → Calls Try.prog 5 #[.slice a0 n cap] w1 (fun e w' => e = .returned (.bool true) ∧ Below w.heap.size w w') from H w rfl
  intro w1 hw1
  have HB1 : Hid (Below w.heap.size w w1) := by subst hw1; exact Below.refl _ _
  have HW0 : Hid (w.heap.size ≤ w1.heap.size) := by subst hw1; exact Nat.le_refl _
  clear hw1
  by_cases hbig : (n : Int) ≤ 1048576
  case neg =>
    have t0 : decide (sv < 0) = true := decide_eq_true (by rw [← hsv, if_pos (by omega)]; decide)
    clear hsv
    go_enter Try.func5, Try.ntmps5
    go_wp2_with fail
    refine (szEventS_is _ _ _ _ sv hmx (by decide) (by decide) HSV.out _).mono ?_
    rintro e w2 ⟨rfl, hb2⟩
    go_wp2
    go_ret
    exact ⟨rfl, HB1.out.trans (hb2.mono HB1.out.size)⟩
  have t0 : decide (sv < 0) = false := decide_eq_false (by rw [← hsv, if_neg (by omega)]; omega)
  clear hsv
  go_enter Try.func5, Try.ntmps5
  go_wp2_with fail
  refine (szEventS_is _ _ _ _ sv hmx (by decide) (by decide) HSV.out _).mono ?_
  rintro e w2 ⟨rfl, hb2⟩
  have HB2 : Hid (Below w.heap.size w w2) := HB1.out.trans (hb2.mono HB1.out.size)
  clear HB1
  clear hb2
  go_wp2_with fail
  refine (toEventS_is _ _ _ _ HZ.out (by omega) _ (HR0.out.below HB2.out)).mono ?_
  rintro e w3 ⟨Sa, Sc, rfl, own3, hb3⟩
  have HB3 : Hid (Below w.heap.size w w3) := HB2.out.trans (hb3.mono HB2.out.size)
  clear HB2
  have S3 : Hid (evK.Own 58 w2.heap.size (.slice Sa n Sc) zs w3) := own3
  clear own3
  clear hb3
  go_wp2_with fail
  refine (((specActs_is _ _ _ zs HZ.out (by omega) _ S3.out.row).mono fun e u h => givesI_is HOL.out HM.out h)).mono ?_
  rintro e w4 ⟨Oa, Oc, rfl, own4, hb4⟩
  have S4 : Hid (evK.Own 58 w2.heap.size (.slice Sa n Sc) zs w4) := S3.out.below hb4
  have HB4 : Hid (Below w.heap.size w w4) := HB3.out.trans (hb4.mono HB3.out.size)
  clear S3 HB3
  have O4 : Hid (OwnI w3.heap.size (.slice Oa m Oc) ol w4) := own4
  clear own4
  clear hb4
  clear S4
  have HOB : Hid (w.heap.size ≤ w4.heap.size ∧ ∀ x, Oa = some x → x.block < w4.heap.size) := ⟨HB4.out.size, fun x hx => (O4.out.lo x hx).2⟩
  go_wp2_with fail
  refine (toEventS_is _ _ _ _ HZ.out (by omega) _ (HR0.out.below HB4.out)).mono ?_
  rintro e w5 ⟨Xa, Xc, rfl, own5, hb5⟩
  have O5 : Hid (OwnI w3.heap.size (.slice Oa m Oc) ol w5) := O4.out.below hb5
  have HB5 : Hid (Below w.heap.size w w5) := HB4.out.trans (hb5.mono HB4.out.size)
  clear O4 HB4
  have X5 : Hid (evK.Own 58 w4.heap.size (.slice Xa n Xc) zs w5) := own5
  have HXB : Hid (w4.heap.size ≤ w5.heap.size ∧ ∀ x, Xa = some x → w4.heap.size ≤ x.block ∧ x.block < w5.heap.size) := ⟨hb5.size, own5.lo⟩
  clear own5
  clear hb5
  go_wp2_with fail
  refine (((IMPL.out _ _ _ zs HZ.out (by omega) X5.out.cap.1 X5.out.nil _ X5.out.row).mono fun e u h => givesI_is HOL.out HM.out h)).mono ?_
  rintro e w6 ⟨Pa, Pc, rfl, own6, hb6⟩
  have O6 : Hid (OwnI w3.heap.size (.slice Oa m Oc) ol w6) := O5.out.below hb6
  have X6 : Hid (evK.Own 58 w4.heap.size (.slice Xa n Xc) zs w6) := X5.out.below hb6
  have HB6 : Hid (Below w.heap.size w w6) := HB5.out.trans (hb6.mono HB5.out.size)
  clear O5 X5 HB5
  have P6 : Hid (OwnI w5.heap.size (.slice Pa m Pc) ol w6) := own6
  clear own6
  clear hb6
  go_wp2_with fail
  refine (eqIntS_any HM.out P6.out O6.out (by omega)).mono ?_
  rintro e w7 ⟨rfl, hb7⟩
  have O7 : Hid (OwnI w3.heap.size (.slice Oa m Oc) ol w7) := O6.out.below hb7
  have X7 : Hid (evK.Own 58 w4.heap.size (.slice Xa n Xc) zs w7) := X6.out.below hb7
  have P7 : Hid (OwnI w5.heap.size (.slice Pa m Pc) ol w7) := P6.out.below hb7
  have HB7 : Hid (Below w.heap.size w w7) := HB6.out.trans (hb7.mono HB6.out.size)
  clear O6 X6 P6 HB6
  clear hb7
  go_wp2_with fail
  refine (toEventS_is _ _ _ _ HZ.out (by omega) _ (HR0.out.below HB7.out)).mono ?_
  rintro e w8 ⟨Ea, Ec, rfl, own8, hb8⟩
  have O8 : Hid (OwnI w3.heap.size (.slice Oa m Oc) ol w8) := O7.out.below hb8
  have X8 : Hid (evK.Own 58 w4.heap.size (.slice Xa n Xc) zs w8) := X7.out.below hb8
  have P8 : Hid (OwnI w5.heap.size (.slice Pa m Pc) ol w8) := P7.out.below hb8
  have HB8 : Hid (Below w.heap.size w w8) := HB7.out.trans (hb8.mono HB7.out.size)
  clear O7 X7 P7 HB7
  have E8 : Hid (evK.Own 58 w7.heap.size (.slice Ea n Ec) zs w8) := own8
  clear own8
  clear hb8
  go_wp2_with fail
  refine (eqEventS_is HZ.out X8.out.row E8.out.row (by omega)).mono ?_
  rintro e w9 ⟨rfl, hb9⟩
  have O9 : Hid (OwnI w3.heap.size (.slice Oa m Oc) ol w9) := O8.out.below hb9
  have X9 : Hid (evK.Own 58 w4.heap.size (.slice Xa n Xc) zs w9) := X8.out.below hb9
  have P9 : Hid (OwnI w5.heap.size (.slice Pa m Pc) ol w9) := P8.out.below hb9
  have E9 : Hid (evK.Own 58 w7.heap.size (.slice Ea n Ec) zs w9) := E8.out.below hb9
  have HB9 : Hid (Below w.heap.size w w9) := HB8.out.trans (hb9.mono HB8.out.size)
  clear O8 X8 P8 E8 HB8
  clear hb9
  clear E9
  go_wp2_with fail
  have hOB := HOB.out
  have hXB := HXB.out
  have loO := O9.out.lo
  have loP := P9.out.lo
  have loX := X9.out.lo
  obtain ⟨gi, hgi, hge, hO, hP⟩ : ∃ gi, (∀ x, Xa = some x → x.block = gi) ∧ w4.heap.size ≤ gi ∧ (∀ x, Oa = some x → x.block ≠ gi) ∧ (∀ x, Pa = some x → x.block ≠ gi) := by
    have hsz := HB9.out.size
    rcases hXa : Xa with _ | x
    · exact ⟨max w9.heap.size w4.heap.size, (fun x h => by cases h), by omega, (fun x hx => by have := (loO x hx).2; omega), (fun x hx => by have := (loP x hx).2; omega)⟩
    · have h2 := hXB.2 x hXa
      exact ⟨x.block, (fun y h => by cases h; rfl), h2.1, (fun y hy => by have := hOB.2 y hy; omega), (fun y hy => by have := (loP y hy).1; omega)⟩
  refine (markEventS_is HZ.out X9.out 1 (by omega) gi hgi).mono ?_
  rintro e w10 ⟨rfl, ho10⟩
  have O10 : Hid (OwnI w3.heap.size (.slice Oa m Oc) ol w10) := O9.out.keep ho10 hO
  have P10 : Hid (OwnI w5.heap.size (.slice Pa m Pc) ol w10) := P9.out.keep ho10 hP
  have HB10 : Hid (Below w.heap.size w w10) := HB9.out.trans (ho10.below (by omega) HB9.out.size)
  have km0 : ¬ ((1 + 5 * n : Nat) : Int) < 0 := by omega
  obtain ⟨km, hkm⟩ : ∃ u : Int, ((1 + 5 * n : Nat) : Int) = u := ⟨_, rfl⟩
  rw [hkm] at km0
  rw [hkm]
  have tkm : decide (km < 0) = false := decide_eq_false km0
  have HPN : Hid (w.heap.size ≤ w5.heap.size ∧ ∀ x, Oa = some x → x.block < w5.heap.size) := ⟨by omega, fun x hx => by have := hOB.2 x hx; omega⟩
  clear O9 P9 X9 HB9 ho10 hOB hXB hge hgi hkm loO loP loX hO hP km0
  go_wp2_with fail
  refine (eqIntS_any HM.out P10.out O10.out (by omega)).mono ?_
  rintro e w11 ⟨rfl, hb11⟩
  have O11 : Hid (OwnI w3.heap.size (.slice Oa m Oc) ol w11) := O10.out.below hb11
  have P11 : Hid (OwnI w5.heap.size (.slice Pa m Pc) ol w11) := P10.out.below hb11
  have HB11 : Hid (Below w.heap.size w w11) := HB10.out.trans (hb11.mono HB10.out.size)
  clear O10 P10 HB10
  clear hb11
  go_wp2_with fail
  have hPN := HPN.out
  have loO := O11.out.lo
  have loP := P11.out.lo
  obtain ⟨gj, hgj, hge, hO⟩ : ∃ gj, (∀ x, Pa = some x → x.block = gj) ∧ w5.heap.size ≤ gj ∧ (∀ x, Oa = some x → x.block ≠ gj) := by
    rcases hPa : Pa with _ | x
    · exact ⟨w5.heap.size, (fun x h => by cases h), by omega, (fun x hx => by have := hPN.2 x hx; omega)⟩
    · exact ⟨x.block, (fun y h => by cases h; rfl), (loP x hPa).1, (fun y hy => by have := hPN.2 y hy; have := (loP x hPa).1; omega)⟩
  refine (markIntS_any HM.out P11.out 1 (by omega) gj hgj).mono ?_
  rintro e w12 ⟨rfl, M', ho12⟩
  have O12 : Hid (OwnI w3.heap.size (.slice Oa m Oc) ol w12) := O11.out.keep ho12 hO
  have M12 : Hid (OwnI w5.heap.size (.slice Pa m Pc) (marksI 1 m) w12) := M'
  have HB12 : Hid (Below w.heap.size w w12) := HB11.out.trans (ho12.below (by omega) HB11.out.size)
  have jm0 : ¬ (((1 + m : Nat) : Int) < 0) := by omega
  have HH : Hid (∀ u : World, OwnI w5.heap.size (.slice Pa m Pc) (marksI 1 m) u → Calls Try.prog 23 #[.slice Pa m Pc, .int .i64 ((1 : Nat) : Int)] u (Gives (.int .i64 ((1 + m : Nat) : Int)) u)) := fun u h => heldIntS_any 1 h (by omega)
  obtain ⟨jm, hjm⟩ : ∃ u : Int, ((1 + m : Nat) : Int) = u := ⟨_, rfl⟩
  rw [hjm] at jm0 HH
  rw [hjm]
  have tjm : decide (jm < 0) = false := decide_eq_false jm0
  have tje : (jm != jm) = false := by simp
  clear O11 P11 HB11 ho12 M' hPN hge hgj hjm loO loP hO jm0
  go_wp2_with fail
  refine (HH.out _ M12.out).mono ?_
  rintro e w13 ⟨rfl, hb13⟩
  have O13 : Hid (OwnI w3.heap.size (.slice Oa m Oc) ol w13) := O12.out.below hb13
  have M13 : Hid (OwnI w5.heap.size (.slice Pa m Pc) (marksI 1 m) w13) := M12.out.below hb13
  have HB13 : Hid (Below w.heap.size w w13) := HB12.out.trans (hb13.mono HB12.out.size)
  clear O12 M12 HB12
  clear hb13
  go_wp2_with fail
  refine (toEventS_is _ _ _ _ HZ.out (by omega) _ (HR0.out.below HB13.out)).mono ?_
  rintro e w14 ⟨Ta, Tc, rfl, own14, hb14⟩
  have O14 : Hid (OwnI w3.heap.size (.slice Oa m Oc) ol w14) := O13.out.below hb14
  have M14 : Hid (OwnI w5.heap.size (.slice Pa m Pc) (marksI 1 m) w14) := M13.out.below hb14
  have HB14 : Hid (Below w.heap.size w w14) := HB13.out.trans (hb14.mono HB13.out.size)
  clear O13 M13 HB13
  have T14 : Hid (evK.Own 58 w13.heap.size (.slice Ta n Tc) zs w14) := own14
  clear own14
  clear hb14
  go_wp2_with fail
  refine (((IMPL.out _ _ _ zs HZ.out (by omega) T14.out.cap.1 T14.out.nil _ T14.out.row).mono fun e u h => givesI_is HOL.out HM.out h)).mono ?_
  rintro e w15 ⟨Qa, Qc, rfl, own15, hb15⟩
  have O15 : Hid (OwnI w3.heap.size (.slice Oa m Oc) ol w15) := O14.out.below hb15
  have M15 : Hid (OwnI w5.heap.size (.slice Pa m Pc) (marksI 1 m) w15) := M14.out.below hb15
  have T15 : Hid (evK.Own 58 w13.heap.size (.slice Ta n Tc) zs w15) := T14.out.below hb15
  have HB15 : Hid (Below w.heap.size w w15) := HB14.out.trans (hb15.mono HB14.out.size)
  clear O14 M14 T14 HB14
  have Q15 : Hid (OwnI w14.heap.size (.slice Qa m Qc) ol w15) := own15
  clear own15
  clear hb15
  clear T15
  go_wp2_with fail
  refine (eqIntS_any HM.out Q15.out O15.out (by omega)).mono ?_
  rintro e w16 ⟨rfl, hb16⟩
  have O16 : Hid (OwnI w3.heap.size (.slice Oa m Oc) ol w16) := O15.out.below hb16
  have M16 : Hid (OwnI w5.heap.size (.slice Pa m Pc) (marksI 1 m) w16) := M15.out.below hb16
  have Q16 : Hid (OwnI w14.heap.size (.slice Qa m Qc) ol w16) := Q15.out.below hb16
  have HB16 : Hid (Below w.heap.size w w16) := HB15.out.trans (hb16.mono HB15.out.size)
  clear O15 M15 Q15 HB15
  clear hb16
  go_wp2_with fail
  refine (HH.out _ M16.out).mono ?_
  rintro e w17 ⟨rfl, hb17⟩
  have O17 : Hid (OwnI w3.heap.size (.slice Oa m Oc) ol w17) := O16.out.below hb17
  have M17 : Hid (OwnI w5.heap.size (.slice Pa m Pc) (marksI 1 m) w17) := M16.out.below hb17
  have Q17 : Hid (OwnI w14.heap.size (.slice Qa m Qc) ol w17) := Q16.out.below hb17
  have HB17 : Hid (Below w.heap.size w w17) := HB16.out.trans (hb17.mono HB16.out.size)
  clear O16 M16 Q16 HB16
  clear hb17
  go_wp2
  go_ret
  exact ⟨rfl, HB17.out⟩

end Go.Proofs.Ytihhcnckoeaihaa
