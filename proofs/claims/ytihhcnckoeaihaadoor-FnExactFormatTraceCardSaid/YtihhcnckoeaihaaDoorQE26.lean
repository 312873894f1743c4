/-
  Texts of one proof, merged: TxtE.
-/
import Derived.Test.YtihhcnckoeaihaaDoorQE21
import Derived.Test.YtihhcnckoeaihaaDoorQE25
namespace Go.Proofs.YtihhcnckoeaihaaDoor
open Go.RowKit Go.PlainAid

set_option linter.unusedVariables false

set_option maxHeartbeats 8000000 in
set_option maxRecDepth 100000 in
theorem exTraceTxt_walk (a0 : Option Addr) (n cap : Nat) (w : World) (s : Sh.Fits w (.row (.and (.num .i64) (.and (.and (.num .i64) (.and (.num .i64) (.and (.num .i64) (.and (.num .i64) .fin)))) .fin))) [.slice a0 n cap]) (ht : Tab10 w) (hw : WordsVar w) :
    Calls Tryd.prog 4 #[.slice a0 n cap] w fun e w' => e = .returned (.bool true) ∧ Below w.heap.size w w' := by
  obtain ⟨zs, hz, hr, hmx, _, _, hT⟩ := events_inT s
  have HZ := Lib.hid hz
  have HTT := Lib.hid hT
  have HTB := Lib.hid (Lib.tabBelow_of_tabIs ht)
  have HWV := Lib.hid hw
  obtain ⟨S, hS⟩ : ∃ S, (⟨(textT zs).toArray⟩ : ByteArray) = S := ⟨_, rfl⟩
  have HS := Lib.hid hS
  obtain ⟨sv, hsv⟩ : ∃ sv, (if (1048576 : Int) - n < 0 then -1 else (1048576 : Int) - n) = sv := ⟨_, rfl⟩
  have HSV := Lib.hid hsv
  have HR0 := Lib.hid hr
  clear hz hr hT ht hw hS
  by_cases hbig : (n : Int) ≤ 1048576
  case neg =>
    have t0 : decide (sv < 0) = true := decide_eq_true (by rw [← hsv, if_pos (by omega)]; decide)
    clear hsv
    go_enter Tryd.func4, Tryd.ntmps4
    go_wp2_with fail
    refine (szEventS_is _ _ _ _ sv hmx (by decide) (by decide) HSV.out _).mono ?_
    rintro e w2 ⟨rfl, hb2⟩
    go_wp2
    go_ret
    exact ⟨rfl, hb2⟩
  have t0 : decide (sv < 0) = false := decide_eq_false (by rw [← hsv, if_neg (by omega)]; omega)
  clear hsv
  go_enter Tryd.func4, Tryd.ntmps4
  go_wp2_with fail
  refine (szEventS_is _ _ _ _ sv hmx (by decide) (by decide) HSV.out _).mono ?_
  rintro e w2 ⟨rfl, hb2⟩
  have HB2 : Hid (Below w.heap.size w w2) := hb2
  clear hb2
  go_wp2_with fail
  refine (toEventS_is _ _ _ _ HZ.out (by omega) _ (HR0.out.below HB2.out)).mono ?_
  rintro e w3 ⟨Sa, Sc, rfl, own3, hb3⟩
  have HB3 : Hid (Below w.heap.size w w3) := HB2.out.trans (hb3.mono HB2.out.size)
  have S3 : Hid (evK.Row w3 Sa zs) := own3.row
  clear own3 hb3 HB2
  go_wp2_with fail
  refine (specTraceTxt_is _ _ _ zs HTT.out HZ.out (by omega) _ S3.out).mono ?_
  rintro e w4 ⟨rfl, hb4⟩
  have HB4 : Hid (Below w.heap.size w w4) := HB3.out.trans (hb4.mono HB3.out.size)
  clear hb4 HB3 S3
  rw [HS.out]
  go_wp2_with fail
  refine (toEventS_is _ _ _ _ HZ.out (by omega) _ (HR0.out.below HB4.out)).mono ?_
  rintro e w5 ⟨Xa, Xc, rfl, own5, hb5⟩
  have HB5 : Hid (Below w.heap.size w w5) := HB4.out.trans (hb5.mono HB4.out.size)
  have X5 : Hid (evK.Row w5 Xa zs) := own5.row
  clear own5 hb5 HB4
  go_wp2_with fail
  refine (implTraceTxt_is _ _ _ zs HTT.out HZ.out (by omega) _ X5.out (HTB.out.on HB5.out).here (HWV.out.below HB5.out)).mono ?_
  rintro e w6 ⟨rfl, hb6⟩
  have HB6 : Hid (Below w.heap.size w w6) := HB5.out.trans (hb6.mono HB5.out.size)
  have X6 : Hid (evK.Row w6 Xa zs) := X5.out.below hb6
  clear hb6 HB5 X5
  rw [HS.out]
  go_wp2_with fail
  refine (toEventS_is _ _ _ _ HZ.out (by omega) _ (HR0.out.below HB6.out)).mono ?_
  rintro e w7 ⟨Ya, Yc, rfl, own7, hb7⟩
  have HB7 : Hid (Below w.heap.size w w7) := HB6.out.trans (hb7.mono HB6.out.size)
  have X7 : Hid (evK.Row w7 Xa zs) := X6.out.below hb7
  have Y7 : Hid (evK.Row w7 Ya zs) := own7.row
  clear own7 hb7 HB6 X6
  go_wp2_with fail
  refine (eqEventS_is HZ.out X7.out Y7.out (by omega)).mono ?_
  rintro e w8 ⟨rfl, hb8⟩
  have HB8 : Hid (Below w.heap.size w w8) := HB7.out.trans (hb8.mono HB7.out.size)
  clear hb8
  go_wp2
  go_ret
  exact ⟨rfl, HB8.out⟩

end Go.Proofs.YtihhcnckoeaihaaDoor
