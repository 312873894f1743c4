/-
  The draw of a word.
-/
import Derived.Test.YtdgaggcjimafbaaDraw2W
namespace Go.Proofs.Ytdgaggcjimafbaa
open Go.RowKit

set_option linter.unusedVariables false

def WordR (x : Int) : Prop := 0 ≤ x ∧ x ≤ 4294967295

/-- What spec.l02Word picks among. -/
def wordEdgesR : List Int := [0, 1, 4294967295, 2147483648, 65536, 305419896]

set_option maxHeartbeats 1000000 in
theorem l02WordR_any {c B : Nat} {w : World} (hc : Cur c B w) :
    Calls Try.prog 55 #[.pointer (some ⟨c, 0, none⟩)] w (DrewP WordR c B w) := by
  go_enter Try.func55, Try.ntmps55
  go_wp2_with fail
  refine (l01Below_any hc 4 (by omega)).mono ?_
  rintro e w1 ⟨x, rfl, hx0, hx1, hc1, ho1⟩
  by_cases h0 : x = 0
  · subst h0
    have hlt := hc1.lt
    go_wp2_with fail
    refine (l01PickInt_any WordR (hc1.alloc _) w1.heap.size 6 wordEdgesR (ints_new _ _ _ _ rfl) (by omega) (by decide) (by decide) (by unfold wordEdgesR WordR; decide)).mono ?_
    rintro e w2 ⟨y, rfl, hy, hc2, ho2⟩
    go_wp2
    go_ret
    exact ⟨_, rfl, hy, hc2, ho1.trans (((Only.refl _ _).alloc _).trans ho2)⟩
  · by_cases h1 : x = 1
    · subst h1
      go_wp2_with fail
      refine (l01Below_any hc1 200 (by omega)).mono ?_
      rintro e w2 ⟨y, rfl, hy0, hy1, hc2, ho2⟩
      rw [topOf_pos (by omega)] at hy1
      go_wp2
      go_ret
      exact ⟨_, rfl, ⟨by omega, by omega⟩, hc2, ho1.trans ho2⟩
    · have t0 : (x == 0) = false := by simpa using h0
      have t1 : (x == 1) = false := by simpa using h1
      go_wp2_with fail
      refine (l01Below_any hc1 65536 (by omega)).mono ?_
      rintro e w2 ⟨y, rfl, hy0, hy1, hc2, ho2⟩
      rw [topOf_pos (by omega)] at hy1
      go_wp2_with fail
      refine (l01Below_any hc2 65536 (by omega)).mono ?_
      rintro e w3 ⟨z, rfl, hz0, hz1, hc3, ho3⟩
      rw [topOf_pos (by omega)] at hz1
      go_wp2
      go_ret
      refine ⟨_, rfl, ?_, hc3, (ho1.trans ho2).trans ho3⟩
      unfold WordR
      omega

end Go.Proofs.Ytdgaggcjimafbaa
