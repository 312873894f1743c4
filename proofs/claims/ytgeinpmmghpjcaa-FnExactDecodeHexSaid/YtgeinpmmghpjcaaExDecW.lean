/-
  FnExactDecodeHex's walk.
-/
import Derived.Test.YtgeinpmmghpjcaaDecW
namespace Go.Proofs.Ytgeinpmmghpjcaa
open Go.RowKit
set_option linter.unusedVariables false

set_option maxHeartbeats 1000000 in
theorem exDec_walk (s : ByteArray) (w : World) (hs : s.size ≤ maxLen) :
    Calls Try.prog 6 #[.string s] w fun e w' => e = .returned (.bool true) ∧ Below w.heap.size w w' := by
  unfold maxLen at hs
  by_cases h1 : (1048576 : Int) < (s.size : Int)
  · go_enter Try.func6, Try.ntmps6
    go_wp2_with fail
    go_ret
    exact ⟨rfl, Below.refl _ _⟩
  · by_cases h2 : 40000 < (s.size : Int) ∨ (s.size : Int) % 2 = 1
    · have H2 := Lib.hid h2; clear h2
      go_enter Try.func6, Try.ntmps6
      go_wp2_with fail
      refine (specDec_no _ _ H2.out (by omega)).mono ?_
      rintro e w' ⟨rfl, rfl⟩
      go_wp2_with fail
      refine (implDec_no _ _ H2.out (by omega)).mono ?_
      rintro e w' ⟨rfl, rfl⟩
      go_wp2
      go_ret
      exact ⟨rfl, Below.refl _ _⟩
    · have h40 : s.size ≤ 40000 := by omega
      have hev : Hid (s.size = 2 * (s.size / 2)) := by show s.size = _; omega
      clear h2
      cases hd : decTo s (s.size / 2) with
      | none =>
        have HV := Lib.hid (decV_none hd)
        clear hd
        go_enter Try.func6, Try.ntmps6
        go_wp2_with fail
        refine (specDec_any _ _ _ hev.out h40).mono ?_
        rintro e w1 ⟨rfl, hb1⟩
        rw [HV.out]
        have HB1 := Lib.hid hb1; clear hb1
        go_wp2_with fail
        refine (implDec_any _ _ _ hev.out h40).mono ?_
        rintro e w2 ⟨rfl, hb2⟩
        rw [HV.out]
        have HB2 := Lib.hid hb2; clear hb2
        go_wp2
        go_ret
        exact ⟨rfl, HB1.out.trans (HB2.out.mono HB1.out.size)⟩
      | some l =>
        have HV := Lib.hid (decV_some hd)
        clear hd
        go_enter Try.func6, Try.ntmps6
        go_wp2_with fail
        refine (specDec_any _ _ _ hev.out h40).mono ?_
        rintro e w1 ⟨rfl, hb1⟩
        rw [HV.out]
        have HB1 := Lib.hid hb1; clear hb1
        go_wp2_with fail
        refine (implDec_any _ _ _ hev.out h40).mono ?_
        rintro e w2 ⟨rfl, hb2⟩
        rw [HV.out]
        have HB2 := Lib.hid hb2; clear hb2
        go_wp2
        go_ret
        exact ⟨rfl, HB1.out.trans (HB2.out.mono HB1.out.size)⟩
end Go.Proofs.Ytgeinpmmghpjcaa
