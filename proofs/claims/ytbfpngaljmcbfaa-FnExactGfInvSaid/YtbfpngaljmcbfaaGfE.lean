/-
  The exact walks of the field, out of what impl must answer.
-/
import Derived.Test.YtbfpngaljmcbfaaGfI
import Derived.Test.YtbfpngaljmcbfaaGfW
namespace Go.Proofs.Ytbfpngaljmcbfaa
open Go.RowKit

set_option linter.unusedVariables false

theorem exGfAdd_of (IMPL : Hid IGfAdd) (a b : Int) (w : World) :
    Calls Try.prog 5 #[.int .i64 a, .int .i64 b] w fun e w' => e = .returned (.bool true) ∧ Below w.heap.size w w' := by
  obtain ⟨v, hv⟩ : ∃ v, gfAdd a b = v := ⟨_, rfl⟩
  have HV := Lib.hid hv
  have tvv : (v != v) = false := by simp
  clear hv
  go_enter Try.func5, Try.ntmps5
  go_wp2_with fail
  refine (specGfAdd_is a b v HV.out _).mono ?_
  rintro e w2 ⟨rfl, rfl⟩
  go_wp2_with fail
  refine (IMPL.out a b v HV.out _).mono ?_
  rintro e w3 ⟨rfl, hb3⟩
  go_wp2_with fail
  go_ret
  exact ⟨rfl, hb3⟩

theorem exGfMul_of (IMPL : Hid IGfMul) (a b : Int) (w : World) :
    Calls Try.prog 6 #[.int .i64 a, .int .i64 b] w fun e w' => e = .returned (.bool true) ∧ Below w.heap.size w w' := by
  obtain ⟨v, hv⟩ : ∃ v, gfMul a b = v := ⟨_, rfl⟩
  have HV := Lib.hid hv
  have tvv : (v != v) = false := by simp
  clear hv
  go_enter Try.func6, Try.ntmps6
  go_wp2_with fail
  refine (specGfMul_is a b v HV.out _).mono ?_
  rintro e w2 ⟨rfl, rfl⟩
  go_wp2_with fail
  refine (IMPL.out a b v HV.out _).mono ?_
  rintro e w3 ⟨rfl, hb3⟩
  go_wp2_with fail
  go_ret
  exact ⟨rfl, hb3⟩

theorem exGfInv_of (IMPL : Hid IGfInv) (a : Int) (w : World) :
    Calls Try.prog 7 #[.int .i64 a] w fun e w' => e = .returned (.bool true) ∧ Below w.heap.size w w' := by
  obtain ⟨v, hv⟩ : ∃ v, gfInv a = v := ⟨_, rfl⟩
  have HV := Lib.hid hv
  have tvv : (v != v) = false := by simp
  clear hv
  go_enter Try.func7, Try.ntmps7
  go_wp2_with fail
  refine (specGfInv_is a v HV.out _).mono ?_
  rintro e w2 ⟨rfl, rfl⟩
  go_wp2_with fail
  refine (IMPL.out a v HV.out _).mono ?_
  rintro e w3 ⟨rfl, hb3⟩
  go_wp2_with fail
  go_ret
  exact ⟨rfl, hb3⟩

theorem exGfPow_of (IMPL : Hid IGfPow) (a b : Int) (w : World) :
    Calls Try.prog 8 #[.int .i64 a, .int .i64 b] w fun e w' => e = .returned (.bool true) ∧ Below w.heap.size w w' := by
  obtain ⟨v, hv⟩ : ∃ v, gfPow a b = v := ⟨_, rfl⟩
  have HV := Lib.hid hv
  have tvv : (v != v) = false := by simp
  clear hv
  go_enter Try.func8, Try.ntmps8
  go_wp2_with fail
  refine (specGfPow_is a b v HV.out _).mono ?_
  rintro e w2 ⟨rfl, rfl⟩
  go_wp2_with fail
  refine (IMPL.out a b v HV.out _).mono ?_
  rintro e w3 ⟨rfl, hb3⟩
  go_wp2_with fail
  go_ret
  exact ⟨rfl, hb3⟩

theorem exGfLog_of (IMPL : Hid IGfLog) (a : Int) (w : World) :
    Calls Try.prog 9 #[.int .i64 a] w fun e w' => e = .returned (.bool true) ∧ Below w.heap.size w w' := by
  obtain ⟨v, hv⟩ : ∃ v, gfLog a = v := ⟨_, rfl⟩
  have HV := Lib.hid hv
  have tvv : (v != v) = false := by simp
  clear hv
  go_enter Try.func9, Try.ntmps9
  go_wp2_with fail
  refine (specGfLog_is a v HV.out _).mono ?_
  rintro e w2 ⟨rfl, rfl⟩
  go_wp2_with fail
  refine (IMPL.out a v HV.out _).mono ?_
  rintro e w3 ⟨rfl, hb3⟩
  go_wp2_with fail
  go_ret
  exact ⟨rfl, hb3⟩

end Go.Proofs.Ytbfpngaljmcbfaa
