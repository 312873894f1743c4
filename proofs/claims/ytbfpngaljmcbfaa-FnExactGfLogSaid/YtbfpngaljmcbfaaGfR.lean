/-
  impl's multiplier by a fixed element: the closure and the function that makes it.
-/
import Derived.Test.YtbfpngaljmcbfaaGfQ
namespace Go.Proofs.Ytbfpngaljmcbfaa
open Go.RowKit

set_option linter.unusedVariables false

theorem four_index (x0 x1 x2 x3 : Int) (j : Nat) (hj : j < 4) (w : World) : (Instr.index 39 (.agg #[.int .i64 x0, .int .i64 x1, .int .i64 x2, .int .i64 x3]) (.int .i64 (j : Int))).run Try.prog w = .ok (.int .i64 ([x0, x1, x2, x3].getD j 0)) w :=
  match j, hj with
  | 0, _ => by kernel_rfl
  | 1, _ => by kernel_rfl
  | 2, _ => by kernel_rfl
  | 3, _ => by kernel_rfl
  | n + 4, h => absurd h (by omega)

theorem gX_at (a j : Nat) (hj : j < 4) : [((gX a 0 : Nat) : Int), ((gX a 1 : Nat) : Int), ((gX a 2 : Nat) : Int), ((gX a 3 : Nat) : Int)].getD j 0 = ((gX a j : Nat) : Int) :=
  match j, hj with
  | 0, _ => rfl
  | 1, _ => rfl
  | 2, _ => rfl
  | 3, _ => rfl
  | n + 4, h => absurd h (by omega)

set_option maxHeartbeats 4000000 in
theorem implBy_is (a b : Nat) (ha : a < 16) (hb : b < 16) (g : Nat) (w : World) (hm : MulAt w g a) :
    Calls Try.prog 30 #[.int .i64 (b : Int), .pointer (some ⟨g, 0, none⟩)] w (Says (.int .i64 ((gm a b : Nat) : Int)) w) := by
  have HIX : Hid (∀ j : Nat, j < 4 → ∀ w : World, (Instr.index 39 (.agg #[.int .i64 ((gX a 0 : Nat) : Int), .int .i64 ((gX a 1 : Nat) : Int), .int .i64 ((gX a 2 : Nat) : Int), .int .i64 ((gX a 3 : Nat) : Int)]) (.int .i64 (j : Int))).run Try.prog w = .ok (.int .i64 ((gX a j : Nat) : Int)) w) := fun j hj w => by rw [four_index _ _ _ _ j hj w, gX_at a j hj]
  obtain ⟨c0, c1, c2, c3⟩ := cells4 hm
  have HBIT : Hid (∀ j : Nat, j < 4 → bitF (b : Int) (j : Int) = (((b >>> j) % 2 : Nat) : Int)) := fun j hj => bit_all ⟨b, hb⟩ ⟨j, hj⟩
  have HX : Hid (∀ j : Nat, j < 4 → gX a j < 16) := fun j hj => gX_lt ha (by omega)
  have HQ : Hid (∀ j : Nat, j ≤ 4 → gQ a b j < 16) := fun j hj => gQ_lt ha hb hj
  have HE : Hid (gQ a b 4 = gm a b) := gQ_four ⟨a, ha⟩ ⟨b, hb⟩
  clear hm
  generalize ((gX a 0 : Nat) : Int) = x0 at HIX c0
  generalize ((gX a 1 : Nat) : Int) = x1 at HIX c1
  generalize ((gX a 2 : Nat) : Int) = x2 at HIX c2
  generalize ((gX a 3 : Nat) : Int) = x3 at HIX c3
  go_enter Try.func30, Try.ntmps30
  go_wp2_with fail
  go_loopw [4, 8] (fun p i wr => ∃ k : Nat, k ≤ 4 ∧ i = .int .i64 k ∧ p = .int .i64 ((gQ a b k : Nat) : Int) ∧ wr = w) (fun _ i _ => 5 - (intOf i).toNat)
  case atStart => exact ⟨0, by omega, rfl, rfl, by trivial⟩
  case round =>
    obtain ⟨k, hk, rfl, rfl, rfl⟩ := hrel
    by_cases hlt : k < 4
    case neg =>
      obtain rfl : k = 4 := by omega
      (try rw [show ((4 : Nat) : Int) = 4 from rfl])
      go_wp2_with fail
      go_ret
      exact ⟨ret_i (by rw [HE.out]), rfl⟩
    have hI : decide ((k : Int) < 4) = true := decide_eq_true (by omega)
    have hI' : (k : Int) < 4 := by omega
    have ix := HIX.out k hlt
    have wk : IntKind.i64.wrap ((k : Int) + 1) = (k : Int) + 1 := IntWalk.i64_in _ (by omega)
    have HT := Lib.hid (HBIT.out k hlt)
    have hx := HX.out k hlt
    have hq := HQ.out k hk
    have hqx : gX a k * ((b >>> k) % 2) < 16 := by
      have : (b >>> k) % 2 = 0 ∨ (b >>> k) % 2 = 1 := by omega
      rcases this with h | h <;> rw [h] <;> omega
    have HX1 : Hid (gQ a b (k + 1) = gQ a b k ^^^ (gX a k * ((b >>> k) % 2))) := rfl
    have e1 : IntKind.i64.wrap (((gX a k : Nat) : Int) * (((b >>> k) % 2 : Nat) : Int)) = ((gX a k * ((b >>> k) % 2) : Nat) : Int) := by rw [IntWalk.i64_in _ (by rw [← Int.natCast_mul]; omega)]; exact (Int.natCast_mul _ _).symm
    have e1' : wrap64 (((gX a k : Nat) : Int) * (((b >>> k) % 2 : Nat) : Int)) = ((gX a k * ((b >>> k) % 2) : Nat) : Int) := by rw [← IntWalk.i64_left]; exact e1
    have e2 : bits .xor .i64 ((gQ a b k : Nat) : Int) ((gX a k * ((b >>> k) % 2) : Nat) : Int) = ((gQ a b (k + 1) : Nat) : Int) := by rw [i64_xor_nat _ _ (by omega) (by omega)]; rfl
    generalize gX a k = y at ix hx hqx HX1 e1 e1' e2
    generalize (b >>> k) % 2 = t at HT hqx HX1 e1 e1' e2
    generalize y * t = yt at hqx HX1 e1 e1' e2
    generalize gQ a b k = q at hq HX1 e2
    generalize hq1 : gQ a b (k + 1) = q1 at HX1 e2
    have HQ1 := Lib.hid hq1
    clear hq1
    go_wp2_with fail
    refine (implBitOf_any _ _ _).mono ?_
    rintro e w2 ⟨rfl, rfl⟩
    rw [HT.out]
    go_wp2_with fail
    go_roundw
    case rel => exact ⟨k + 1, by omega, by go_num, by rw [HQ1.out], by trivial⟩
    case measure => simp [intOf]; omega

theorem set4_0 {w : World} {c : Nat} {v0 v1 v2 v3 : Value} {t : TypeId} (h : w.heap[c]? = some (.cells #[v0, v1, v2, v3] t (0, 0))) (u : Value) : (w.setCell ⟨c, 0, none⟩ u).heap[c]? = some (.cells #[u, v1, v2, v3] t (0, 0)) := by
  have hlt := lt_of_block h
  have h' : w.heap[c] = .cells #[v0, v1, v2, v3] t (0, 0) := by simpa [Array.getElem?_eq_getElem hlt] using h
  show (w.heap.modify c _)[c]? = _
  rw [Array.getElem?_eq_getElem (by simpa using hlt), Array.getElem_modify_self, h']
  rfl

theorem set4_1 {w : World} {c : Nat} {v0 v1 v2 v3 : Value} {t : TypeId} (h : w.heap[c]? = some (.cells #[v0, v1, v2, v3] t (0, 0))) (u : Value) : (w.setCell ⟨c, 1, none⟩ u).heap[c]? = some (.cells #[v0, u, v2, v3] t (0, 0)) := by
  have hlt := lt_of_block h
  have h' : w.heap[c] = .cells #[v0, v1, v2, v3] t (0, 0) := by simpa [Array.getElem?_eq_getElem hlt] using h
  show (w.heap.modify c _)[c]? = _
  rw [Array.getElem?_eq_getElem (by simpa using hlt), Array.getElem_modify_self, h']
  rfl

theorem set4_2 {w : World} {c : Nat} {v0 v1 v2 v3 : Value} {t : TypeId} (h : w.heap[c]? = some (.cells #[v0, v1, v2, v3] t (0, 0))) (u : Value) : (w.setCell ⟨c, 2, none⟩ u).heap[c]? = some (.cells #[v0, v1, u, v3] t (0, 0)) := by
  have hlt := lt_of_block h
  have h' : w.heap[c] = .cells #[v0, v1, v2, v3] t (0, 0) := by simpa [Array.getElem?_eq_getElem hlt] using h
  show (w.heap.modify c _)[c]? = _
  rw [Array.getElem?_eq_getElem (by simpa using hlt), Array.getElem_modify_self, h']
  rfl

theorem set4_3 {w : World} {c : Nat} {v0 v1 v2 v3 : Value} {t : TypeId} (h : w.heap[c]? = some (.cells #[v0, v1, v2, v3] t (0, 0))) (u : Value) : (w.setCell ⟨c, 3, none⟩ u).heap[c]? = some (.cells #[v0, v1, v2, u] t (0, 0)) := by
  have hlt := lt_of_block h
  have h' : w.heap[c] = .cells #[v0, v1, v2, v3] t (0, 0) := by simpa [Array.getElem?_eq_getElem hlt] using h
  show (w.heap.modify c _)[c]? = _
  rw [Array.getElem?_eq_getElem (by simpa using hlt), Array.getElem_modify_self, h']
  rfl

/-- What stands in the place j when k places are written. -/
def gP (a k j : Nat) : Int := if j < k then ((gX a j : Nat) : Int) else 0

/-- A function of one number that multiplies by a. -/
def GivesMul (a : Nat) (w : World) (e : Ending) (w' : World) : Prop := ∃ g, e = .returned (.func (.func 30) #[] #[.pointer (some ⟨g, 0, none⟩)]) ∧ MulAt w' g a ∧ Below w.heap.size w w'

set_option maxHeartbeats 4000000 in
theorem implMultiplierBy_is (a : Nat) (ha : a < 16) (w : World) :
    Calls Try.prog 25 #[.int .i64 (a : Int)] w (GivesMul a w) := by
  have hmf : ∀ (fn : Fn) (first cap : Array Value) (w : World), (Instr.makeFunc fn first cap).run Try.prog w = .ok (.func fn first cap) w := fun _ _ _ _ => rfl
  have HX : Hid (∀ j : Nat, j < 4 → gX a j < 16) := fun j hj => gX_lt ha (by omega)
  clear ha
  go_enter Try.func25, Try.ntmps25
  go_wp2_with fail
  generalize hw1 : w.alloc (.cells #[.int .i64 0, .int .i64 0, .int .i64 0, .int .i64 0] 39) = w1
  have HB1 : Hid (Below w.heap.size w w1) := by subst hw1; exact (Below.refl _ _).alloc (Nat.le_refl _) _
  have p1 : w1.heap[w.heap.size]? = some (.cells #[.int .i64 0, .int .i64 0, .int .i64 0, .int .i64 0] 39 (0, 0)) := by subst hw1; exact heap_alloc_new _ _
  clear hw1
  go_loopw [0, 6] (fun f i wr => ∃ k : Nat, k ≤ 4 ∧ i = .int .i64 k ∧ f = .int .i64 ((gX a k : Nat) : Int) ∧ Hid (Below w.heap.size w wr) ∧ wr.heap[w.heap.size]? = some (.cells #[.int .i64 (gP a k 0), .int .i64 (gP a k 1), .int .i64 (gP a k 2), .int .i64 (gP a k 3)] 39 (0, 0))) (fun _ i _ => 5 - (intOf i).toNat)
  case atStart => exact ⟨0, by omega, rfl, rfl, HB1, p1⟩
  case round =>
    obtain ⟨k, hk, rfl, rfl, HBr, pr⟩ := hrel
    have HK : k = 0 ∨ k = 1 ∨ k = 2 ∨ k = 3 ∨ k = 4 := by omega
    rcases HK with rfl | rfl | rfl | rfl | rfl
    · rw [show ((0 : Nat) : Int) = 0 from rfl]
      obtain ⟨d0, d1, d2, d3⟩ := cells4 pr
      have f0 := thawed pr 0
      have P2 := Lib.hid (set4_0 pr (.int .i64 ((gX a 0 : Nat) : Int)))
      have HB2 : Hid (Below w.heap.size w (wr.setCell ⟨w.heap.size, 0, none⟩ (.int .i64 ((gX a 0 : Nat) : Int)))) := HBr.out.setCell (Nat.le_refl _) _
      clear pr
      go_wp2_with fail
      refine (implTimesX_is (gX a 0) (HX.out 0 (by decide)) _).mono ?_
      rintro e w2 ⟨rfl, rfl⟩
      go_wp2_with fail
      go_roundw
      case rel => exact ⟨1, by omega, by go_num, by trivial, HB2, P2.out⟩
      case measure => simp [intOf]
    · rw [show ((1 : Nat) : Int) = 1 from rfl]
      obtain ⟨d0, d1, d2, d3⟩ := cells4 pr
      have f0 := thawed pr 1
      have P2 := Lib.hid (set4_1 pr (.int .i64 ((gX a 1 : Nat) : Int)))
      have HB2 : Hid (Below w.heap.size w (wr.setCell ⟨w.heap.size, 1, none⟩ (.int .i64 ((gX a 1 : Nat) : Int)))) := HBr.out.setCell (Nat.le_refl _) _
      clear pr
      go_wp2_with fail
      refine (implTimesX_is (gX a 1) (HX.out 1 (by decide)) _).mono ?_
      rintro e w2 ⟨rfl, rfl⟩
      go_wp2_with fail
      go_roundw
      case rel => exact ⟨2, by omega, by go_num, by trivial, HB2, P2.out⟩
      case measure => simp [intOf]
    · rw [show ((2 : Nat) : Int) = 2 from rfl]
      obtain ⟨d0, d1, d2, d3⟩ := cells4 pr
      have f0 := thawed pr 2
      have P2 := Lib.hid (set4_2 pr (.int .i64 ((gX a 2 : Nat) : Int)))
      have HB2 : Hid (Below w.heap.size w (wr.setCell ⟨w.heap.size, 2, none⟩ (.int .i64 ((gX a 2 : Nat) : Int)))) := HBr.out.setCell (Nat.le_refl _) _
      clear pr
      go_wp2_with fail
      refine (implTimesX_is (gX a 2) (HX.out 2 (by decide)) _).mono ?_
      rintro e w2 ⟨rfl, rfl⟩
      go_wp2_with fail
      go_roundw
      case rel => exact ⟨3, by omega, by go_num, by trivial, HB2, P2.out⟩
      case measure => simp [intOf]
    · rw [show ((3 : Nat) : Int) = 3 from rfl]
      obtain ⟨d0, d1, d2, d3⟩ := cells4 pr
      have f0 := thawed pr 3
      have P2 := Lib.hid (set4_3 pr (.int .i64 ((gX a 3 : Nat) : Int)))
      have HB2 : Hid (Below w.heap.size w (wr.setCell ⟨w.heap.size, 3, none⟩ (.int .i64 ((gX a 3 : Nat) : Int)))) := HBr.out.setCell (Nat.le_refl _) _
      clear pr
      go_wp2_with fail
      refine (implTimesX_is (gX a 3) (HX.out 3 (by decide)) _).mono ?_
      rintro e w2 ⟨rfl, rfl⟩
      go_wp2_with fail
      go_roundw
      case rel => exact ⟨4, by omega, by go_num, by trivial, HB2, P2.out⟩
      case measure => simp [intOf]
    · (try rw [show ((4 : Nat) : Int) = 4 from rfl])
      go_wp2_with fail
      go_ret
      exact ⟨w.heap.size, rfl, pr, HBr.out⟩

end Go.Proofs.Ytbfpngaljmcbfaa
