/-
  FnClamped's walk: whatever three numbers are drawn, impl.Clamp answers as the law asks.
-/
import Derived.Test.YtgeinpmmghpjcaaDrawW
import Derived.Test.YtgeinpmmghpjcaaClampW
namespace Go.Proofs.Ytgeinpmmghpjcaa
open Go.RowKit
set_option linter.unusedVariables false

theorem big_any (a : Option Addr) (len cap : Nat) (w : World) (h : (len : Int) ≤ 9223372036854775807) :
    Calls Try.prog 9 #[.slice a len cap] w fun e w' => e = .returned (.bool (decide ((1048576 : Int) < (len : Int)))) ∧ w = w' := by
  go_enter Try.func9, Try.ntmps9
  go_wp2
  go_ret
  exact ⟨rfl, rfl⟩

/-- Three numbers. -/
def Drew3 (B : Nat) (w : World) (e : Ending) (w' : World) : Prop :=
  ∃ x y z : Int, e = .returned (.tuple #[.int .i64 x, .int .i64 y, .int .i64 z]) ∧ Is64 x ∧ Is64 y ∧ Is64 z ∧ Below B w w'

set_option maxHeartbeats 1000000 in
theorem drawClamp_any {a : Option Addr} {len cap : Nat} {zs : List Int} {w : World} (hr : IsRow .u8 w a len cap zs) :
    Calls Try.prog 10 #[.slice a len cap] w (Drew3 w.heap.size w) := by
  go_enter Try.func10, Try.ntmps10
  go_wp2_with fail
  refine (l01New_any hr).mono ?_
  rintro e w1 ⟨c, rfl, hB, hc1, hb1⟩
  have hs1 := Lib.hid hb1.size
  have hlt := Lib.hid hc1.lt
  go_wp2_with fail
  refine (l01Once_any hc1 4 (by omega)).mono ?_
  rintro e w2 ⟨x, rfl, hc2, ho2⟩
  cases x
  · go_wp2_with fail
    refine (l01Below_any hc2 40 (by omega)).mono ?_
    rintro e w3 ⟨x, rfl, hx0, hx1, hc3, ho3⟩
    rw [topOf_pos (by omega)] at hx1
    go_wp2_with fail
    refine (l01Below_any hc3 80 (by omega)).mono ?_
    rintro e w4 ⟨y, rfl, hy0, hy1, hc4, ho4⟩
    rw [topOf_pos (by omega)] at hy1
    go_wp2_with fail
    refine (l01Below_any hc4 30 (by omega)).mono ?_
    rintro e w5 ⟨z, rfl, hz0, hz1, hc5, ho5⟩
    rw [topOf_pos (by omega)] at hz1
    go_wp2
    go_ret3
    exact ⟨_, _, _, rfl, ⟨by omega, by omega⟩, ⟨by omega, by omega⟩, ⟨by omega, by omega⟩, hb1.trans ((((ho2.trans ho3).trans ho4).trans ho5).below hB hs1.out)⟩
  · go_wp2_with fail
    refine (l01Number_any hc2).mono ?_
    rintro e w3 ⟨x, rfl, hx, hc3, ho3⟩
    go_wp2_with fail
    refine (l01Number_any hc3).mono ?_
    rintro e w4 ⟨y, rfl, hy, hc4, ho4⟩
    go_wp2_with fail
    refine (l01Number_any hc4).mono ?_
    rintro e w5 ⟨z, rfl, hz, hc5, ho5⟩
    go_wp2
    go_ret3
    exact ⟨_, _, _, rfl, hx, hy, hz, hb1.trans ((((ho2.trans ho3).trans ho4).trans ho5).below hB hs1.out)⟩

theorem clamp_is (n lo hi v : Int) (w : World) (h : clampF n lo hi = v) :
    Calls Try.prog 11 #[.int .i64 n, .int .i64 lo, .int .i64 hi] w fun e w' => e = .returned (.int .i64 v) ∧ w = w' := h ▸ implClamp_any n lo hi w

theorem clampF_lo {n lo hi : Int} (h : hi < lo ∨ n < lo) : clampF n lo hi = lo := if_pos h
theorem clampF_hi {n lo hi : Int} (h : lo ≤ hi) (h' : hi ≤ n) : clampF n lo hi = hi := by unfold clampF; rw [if_neg (by omega)]; split <;> omega
theorem clampF_in {n lo hi : Int} (h : lo ≤ n) (h' : n ≤ hi) : clampF n lo hi = n := by unfold clampF; rw [if_neg (by omega), if_neg (by omega)]

set_option maxHeartbeats 1000000 in
theorem clamped_walk (a : Option Addr) (len cap : Nat) (z : List Int) (w : World) (hr : IsRow .u8 w a len cap z) :
    Calls Try.prog 3 #[.slice a len cap] w fun e w' => e = .returned (.bool true) ∧ Below w.heap.size w w' := by
  have hl := hr.len_le
  unfold maxLen at hl
  by_cases hbig : (1048576 : Int) < (len : Int)
  · go_enter Try.func3, Try.ntmps3
    go_wp2_with (go_at_call 9; refine (big_any _ _ _ _ (by omega)).mono ?_; rintro e w' ⟨rfl, rfl⟩)
    go_ret
    exact ⟨rfl, Below.refl _ _⟩
  · go_enter Try.func3, Try.ntmps3
    go_wp2_with (go_at_call 9; refine (big_any _ _ _ _ (by omega)).mono ?_; rintro e w' ⟨rfl, rfl⟩)
    refine (drawClamp_any hr).mono ?_
    rintro e w1 ⟨x, lo, hi, rfl, hx, hlo, hhi, hb⟩
    clear hx hlo hhi
    have HB := Lib.hid hb
    by_cases h1 : hi < lo
    · go_wp2_with fail
      refine (clamp_is _ _ _ lo _ (clampF_lo (.inl h1))).mono ?_
      rintro e w' ⟨rfl, rfl⟩
      go_wp2_with fail
      refine (clamp_is _ _ _ 5 _ (by decide)).mono ?_
      rintro e w' ⟨rfl, rfl⟩
      go_wp2
      go_ret
      exact ⟨rfl, HB.out⟩
    · by_cases h2 : x < lo
      · go_wp2_with fail
        refine (clamp_is _ _ _ lo _ (clampF_lo (.inr h2))).mono ?_
        rintro e w' ⟨rfl, rfl⟩
        go_wp2_with fail
        refine (clamp_is _ _ _ lo _ (clampF_in (by omega) (by omega))).mono ?_
        rintro e w' ⟨rfl, rfl⟩
        go_wp2_with fail
        refine (clamp_is _ _ _ 5 _ (by decide)).mono ?_
        rintro e w' ⟨rfl, rfl⟩
        go_wp2
        go_ret
        exact ⟨rfl, HB.out⟩
      · by_cases h3 : hi < x
        · go_wp2_with fail
          refine (clamp_is _ _ _ hi _ (clampF_hi (by omega) (by omega))).mono ?_
          rintro e w' ⟨rfl, rfl⟩
          go_wp2_with fail
          refine (clamp_is _ _ _ hi _ (clampF_in (by omega) (by omega))).mono ?_
          rintro e w' ⟨rfl, rfl⟩
          go_wp2_with fail
          refine (clamp_is _ _ _ 5 _ (by decide)).mono ?_
          rintro e w' ⟨rfl, rfl⟩
          go_wp2
          go_ret
          exact ⟨rfl, HB.out⟩
        · go_wp2_with fail
          refine (clamp_is _ _ _ x _ (clampF_in (by omega) (by omega))).mono ?_
          rintro e w' ⟨rfl, rfl⟩
          go_wp2_with fail
          refine (clamp_is _ _ _ x _ (clampF_in (by omega) (by omega))).mono ?_
          rintro e w' ⟨rfl, rfl⟩
          go_wp2_with fail
          refine (clamp_is _ _ _ 5 _ (by decide)).mono ?_
          rintro e w' ⟨rfl, rfl⟩
          go_wp2
          go_ret
          exact ⟨rfl, HB.out⟩
end Go.Proofs.Ytgeinpmmghpjcaa
