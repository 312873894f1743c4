/-
  impl's field: the closure that multiplies by a fixed element, and the five functions.
-/
import Derived.Test.YtbfpngaljmcbfaaGfP
import Derived.Test.YtbfpngaljmcbfaaGfI
import Derived.Test.YtbfpngaljmcbfaaBitsW
namespace Go.Proofs.Ytbfpngaljmcbfaa
open Go.RowKit

set_option linter.unusedVariables false

/-- The multiples of a stand in the block g. -/
def MulAt (w : World) (g a : Nat) : Prop := w.heap[g]? = some (.cells #[.int .i64 ((gX a 0 : Nat) : Int), .int .i64 ((gX a 1 : Nat) : Int), .int .i64 ((gX a 2 : Nat) : Int), .int .i64 ((gX a 3 : Nat) : Int)] 39 (0, 0))

theorem MulAt.below {w w' : World} {g a : Nat} (h : MulAt w g a) (hb : Below w.heap.size w w') : MulAt w' g a := keep_block hb h (lt_of_block h)

theorem implIsEl_is (a : Int) (v : Bool) (hv : decide (El a) = v) (w : World) :
    Calls Try.prog 24 #[.int .i64 a] w (Says (.bool v) w) := by
  have HV := Lib.hid hv
  clear hv
  by_cases h0 : 0 ≤ a
  · have t0 : decide (0 ≤ a) = true := decide_eq_true h0
    have HE : Hid (decide (a < 16) = v) := by show _ = _; rw [← HV.out]; exact decide_eq_decide.2 ⟨fun h => ⟨h0, by omega⟩, fun h => by have := h.2; omega⟩
    clear h0
    go_enter Try.func24, Try.ntmps24
    go_wp2
    go_ret
    exact ⟨ret_b HE.out, rfl⟩
  · have t0 : decide (0 ≤ a) = false := decide_eq_false h0
    have HE : Hid (false = v) := by show _ = _; rw [← HV.out]; exact (decide_eq_false (fun h => h0 h.1)).symm
    clear h0
    go_enter Try.func24, Try.ntmps24
    go_wp2
    go_ret
    exact ⟨ret_b HE.out, rfl⟩

theorem implTimesX_is (a : Nat) (ha : a < 16) (w : World) :
    Calls Try.prog 29 #[.int .i64 (a : Int)] w (Says (.int .i64 ((gtX a : Nat) : Int)) w) := by
  have w2 : IntKind.i64.wrap ((a : Int) * 2) = ((2 * a : Nat) : Int) := by rw [IntWalk.i64_in _ (by omega)]; omega
  have w3 : wrap64 ((a : Int) * 2) = ((2 * a : Nat) : Int) := by rw [← IntWalk.i64_left]; exact w2
  by_cases h : 16 ≤ 2 * a
  · have t : decide ((16 : Int) ≤ ((2 * a : Nat) : Int)) = true := decide_eq_true (by omega)
    have t' : decide (8 ≤ a) = true := decide_eq_true (by omega)
    have HE : Hid (bits .xor .i64 ((2 * a : Nat) : Int) 19 = ((gtX a : Nat) : Int)) := by
      show _ = _
      rw [show (19 : Int) = ((19 : Nat) : Int) from rfl, i64_xor_nat (2 * a) 19 (by omega) (by decide)]
      unfold gtX
      rw [if_pos h]
    generalize 2 * a = d at w2 w3 t HE
    go_enter Try.func29, Try.ntmps29
    go_wp2
    go_ret
    exact ⟨ret_i HE.out, rfl⟩
  · have t : decide ((16 : Int) ≤ ((2 * a : Nat) : Int)) = false := decide_eq_false (by omega)
    have HE : Hid (((2 * a : Nat) : Int) = ((gtX a : Nat) : Int)) := by
      show _ = _
      unfold gtX
      rw [if_neg h]
    generalize 2 * a = d at w2 w3 t HE
    go_enter Try.func29, Try.ntmps29
    go_wp2
    go_ret
    exact ⟨ret_i HE.out, rfl⟩

end Go.Proofs.Ytbfpngaljmcbfaa
