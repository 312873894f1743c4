/-
  The walks of exact statements, each out of its two contracts.
-/
import Derived.Test.YtkpmgklpigihdaaMade
import Derived.Test.YtkpmgklpigihdaaGeoW
namespace Go.Proofs.Ytkpmgklpigihdaa
open Go.RowKit

set_option linter.unusedVariables false

set_option maxHeartbeats 2000000 in
theorem exGeometryOk_of (p0_0 : Int) (p0_1 : Int) (p0_2 : Int) (p0_3 : Int) (r : Bool) (w : World)
    (hs : ∀ w, Calls Try.prog 23 #[.agg #[.int .i64 p0_0, .int .i64 p0_1, .int .i64 p0_2, .int .i64 p0_3]] w (Gives (.bool r) w))
    (hi : ∀ w, Calls Try.prog 19 #[.agg #[.int .i64 p0_0, .int .i64 p0_1, .int .i64 p0_2, .int .i64 p0_3]] w (Gives (.bool r) w))
    : Calls Try.prog 5 #[.agg #[.int .i64 p0_0, .int .i64 p0_1, .int .i64 p0_2, .int .i64 p0_3]] w fun e w' => e = .returned (.bool true) ∧ Below w.heap.size w w' := by
  have SPEC := Lib.hid hs
  have IMPL := Lib.hid hi
  clear hs hi
  obtain ⟨w1, hw1⟩ : ∃ w1, (w.alloc (.cells #[.int .i64 p0_0, .int .i64 p0_1, .int .i64 p0_2, .int .i64 p0_3] 38)) = w1 := ⟨_, rfl⟩
  have HB1 : Hid (Below w.heap.size w w1) := by subst hw1; exact (Below.refl _ _).alloc (by simp <;> omega) _
  have h1_0 : w1.heap[w.heap.size]? = some (.cells #[.int .i64 p0_0, .int .i64 p0_1, .int .i64 p0_2, .int .i64 p0_3] 38) := by subst hw1; exact heap_alloc_new _ _
  have c1_0_0 : w1.cell? ⟨w.heap.size, 0, none⟩ = some (.int .i64 p0_0) := by simp [World.cell?, h1_0]
  have c1_0_1 : w1.cell? ⟨w.heap.size, 1, none⟩ = some (.int .i64 p0_1) := by simp [World.cell?, h1_0]
  have c1_0_2 : w1.cell? ⟨w.heap.size, 2, none⟩ = some (.int .i64 p0_2) := by simp [World.cell?, h1_0]
  have c1_0_3 : w1.cell? ⟨w.heap.size, 3, none⟩ = some (.int .i64 p0_3) := by simp [World.cell?, h1_0]
  go_enter Try.func5, Try.ntmps5
  go_wp2_with fail
  refine (toGeometry_any _ _ _ _ _).mono ?_
  rintro e w2 ⟨rfl, hb2⟩
  have h2_0 := keep_block hb2 h1_0 (lt_of_block h1_0)
  have HB2 : Hid (Below w.heap.size w w2) := HB1.out.trans (hb2.mono HB1.out.size)
  clear hb2 h1_0 c1_0_0 c1_0_1 c1_0_2 c1_0_3
  have c2_0_0 : w2.cell? ⟨w.heap.size, 0, none⟩ = some (.int .i64 p0_0) := by simp [World.cell?, h2_0]
  have c2_0_1 : w2.cell? ⟨w.heap.size, 1, none⟩ = some (.int .i64 p0_1) := by simp [World.cell?, h2_0]
  have c2_0_2 : w2.cell? ⟨w.heap.size, 2, none⟩ = some (.int .i64 p0_2) := by simp [World.cell?, h2_0]
  have c2_0_3 : w2.cell? ⟨w.heap.size, 3, none⟩ = some (.int .i64 p0_3) := by simp [World.cell?, h2_0]
  go_wp2_with fail
  refine (SPEC.out _).mono ?_
  rintro e w3 ⟨rfl, hb3⟩
  have h3_0 := keep_block hb3 h2_0 (lt_of_block h2_0)
  have HB3 : Hid (Below w.heap.size w w3) := HB2.out.trans (hb3.mono HB2.out.size)
  clear hb3 h2_0 c2_0_0 c2_0_1 c2_0_2 c2_0_3
  have c3_0_0 : w3.cell? ⟨w.heap.size, 0, none⟩ = some (.int .i64 p0_0) := by simp [World.cell?, h3_0]
  have c3_0_1 : w3.cell? ⟨w.heap.size, 1, none⟩ = some (.int .i64 p0_1) := by simp [World.cell?, h3_0]
  have c3_0_2 : w3.cell? ⟨w.heap.size, 2, none⟩ = some (.int .i64 p0_2) := by simp [World.cell?, h3_0]
  have c3_0_3 : w3.cell? ⟨w.heap.size, 3, none⟩ = some (.int .i64 p0_3) := by simp [World.cell?, h3_0]
  go_wp2_with fail
  refine (toGeometry_any _ _ _ _ _).mono ?_
  rintro e w4 ⟨rfl, hb4⟩
  have h4_0 := keep_block hb4 h3_0 (lt_of_block h3_0)
  have HB4 : Hid (Below w.heap.size w w4) := HB3.out.trans (hb4.mono HB3.out.size)
  clear hb4 h3_0 c3_0_0 c3_0_1 c3_0_2 c3_0_3
  have c4_0_0 : w4.cell? ⟨w.heap.size, 0, none⟩ = some (.int .i64 p0_0) := by simp [World.cell?, h4_0]
  have c4_0_1 : w4.cell? ⟨w.heap.size, 1, none⟩ = some (.int .i64 p0_1) := by simp [World.cell?, h4_0]
  have c4_0_2 : w4.cell? ⟨w.heap.size, 2, none⟩ = some (.int .i64 p0_2) := by simp [World.cell?, h4_0]
  have c4_0_3 : w4.cell? ⟨w.heap.size, 3, none⟩ = some (.int .i64 p0_3) := by simp [World.cell?, h4_0]
  go_wp2_with fail
  refine (IMPL.out _).mono ?_
  rintro e w5 ⟨rfl, hb5⟩
  have h5_0 := keep_block hb5 h4_0 (lt_of_block h4_0)
  have HB5 : Hid (Below w.heap.size w w5) := HB4.out.trans (hb5.mono HB4.out.size)
  clear hb5 h4_0 c4_0_0 c4_0_1 c4_0_2 c4_0_3
  have c5_0_0 : w5.cell? ⟨w.heap.size, 0, none⟩ = some (.int .i64 p0_0) := by simp [World.cell?, h5_0]
  have c5_0_1 : w5.cell? ⟨w.heap.size, 1, none⟩ = some (.int .i64 p0_1) := by simp [World.cell?, h5_0]
  have c5_0_2 : w5.cell? ⟨w.heap.size, 2, none⟩ = some (.int .i64 p0_2) := by simp [World.cell?, h5_0]
  have c5_0_3 : w5.cell? ⟨w.heap.size, 3, none⟩ = some (.int .i64 p0_3) := by simp [World.cell?, h5_0]
  have hrr : (r != r) = false := by simp
  go_wp2
  go_ret
  exact ⟨rfl, HB5.out⟩

set_option maxHeartbeats 2000000 in
theorem exBankCount_of (p0_0 : Int) (p0_1 : Int) (p0_2 : Int) (p0_3 : Int) (r : Int) (w : World)
    (hs : ∀ w, Calls Try.prog 25 #[.agg #[.int .i64 p0_0, .int .i64 p0_1, .int .i64 p0_2, .int .i64 p0_3]] w (Gives (.int .i64 r) w))
    (hi : ∀ w, Calls Try.prog 22 #[.agg #[.int .i64 p0_0, .int .i64 p0_1, .int .i64 p0_2, .int .i64 p0_3]] w (Gives (.int .i64 r) w))
    : Calls Try.prog 6 #[.agg #[.int .i64 p0_0, .int .i64 p0_1, .int .i64 p0_2, .int .i64 p0_3]] w fun e w' => e = .returned (.bool true) ∧ Below w.heap.size w w' := by
  have SPEC := Lib.hid hs
  have IMPL := Lib.hid hi
  clear hs hi
  obtain ⟨w1, hw1⟩ : ∃ w1, (w.alloc (.cells #[.int .i64 p0_0, .int .i64 p0_1, .int .i64 p0_2, .int .i64 p0_3] 38)) = w1 := ⟨_, rfl⟩
  have HB1 : Hid (Below w.heap.size w w1) := by subst hw1; exact (Below.refl _ _).alloc (by simp <;> omega) _
  have h1_0 : w1.heap[w.heap.size]? = some (.cells #[.int .i64 p0_0, .int .i64 p0_1, .int .i64 p0_2, .int .i64 p0_3] 38) := by subst hw1; exact heap_alloc_new _ _
  have c1_0_0 : w1.cell? ⟨w.heap.size, 0, none⟩ = some (.int .i64 p0_0) := by simp [World.cell?, h1_0]
  have c1_0_1 : w1.cell? ⟨w.heap.size, 1, none⟩ = some (.int .i64 p0_1) := by simp [World.cell?, h1_0]
  have c1_0_2 : w1.cell? ⟨w.heap.size, 2, none⟩ = some (.int .i64 p0_2) := by simp [World.cell?, h1_0]
  have c1_0_3 : w1.cell? ⟨w.heap.size, 3, none⟩ = some (.int .i64 p0_3) := by simp [World.cell?, h1_0]
  go_enter Try.func6, Try.ntmps6
  go_wp2_with fail
  refine (toGeometry_any _ _ _ _ _).mono ?_
  rintro e w2 ⟨rfl, hb2⟩
  have h2_0 := keep_block hb2 h1_0 (lt_of_block h1_0)
  have HB2 : Hid (Below w.heap.size w w2) := HB1.out.trans (hb2.mono HB1.out.size)
  clear hb2 h1_0 c1_0_0 c1_0_1 c1_0_2 c1_0_3
  have c2_0_0 : w2.cell? ⟨w.heap.size, 0, none⟩ = some (.int .i64 p0_0) := by simp [World.cell?, h2_0]
  have c2_0_1 : w2.cell? ⟨w.heap.size, 1, none⟩ = some (.int .i64 p0_1) := by simp [World.cell?, h2_0]
  have c2_0_2 : w2.cell? ⟨w.heap.size, 2, none⟩ = some (.int .i64 p0_2) := by simp [World.cell?, h2_0]
  have c2_0_3 : w2.cell? ⟨w.heap.size, 3, none⟩ = some (.int .i64 p0_3) := by simp [World.cell?, h2_0]
  go_wp2_with fail
  refine (SPEC.out _).mono ?_
  rintro e w3 ⟨rfl, hb3⟩
  have h3_0 := keep_block hb3 h2_0 (lt_of_block h2_0)
  have HB3 : Hid (Below w.heap.size w w3) := HB2.out.trans (hb3.mono HB2.out.size)
  clear hb3 h2_0 c2_0_0 c2_0_1 c2_0_2 c2_0_3
  have c3_0_0 : w3.cell? ⟨w.heap.size, 0, none⟩ = some (.int .i64 p0_0) := by simp [World.cell?, h3_0]
  have c3_0_1 : w3.cell? ⟨w.heap.size, 1, none⟩ = some (.int .i64 p0_1) := by simp [World.cell?, h3_0]
  have c3_0_2 : w3.cell? ⟨w.heap.size, 2, none⟩ = some (.int .i64 p0_2) := by simp [World.cell?, h3_0]
  have c3_0_3 : w3.cell? ⟨w.heap.size, 3, none⟩ = some (.int .i64 p0_3) := by simp [World.cell?, h3_0]
  go_wp2_with fail
  refine (toGeometry_any _ _ _ _ _).mono ?_
  rintro e w4 ⟨rfl, hb4⟩
  have h4_0 := keep_block hb4 h3_0 (lt_of_block h3_0)
  have HB4 : Hid (Below w.heap.size w w4) := HB3.out.trans (hb4.mono HB3.out.size)
  clear hb4 h3_0 c3_0_0 c3_0_1 c3_0_2 c3_0_3
  have c4_0_0 : w4.cell? ⟨w.heap.size, 0, none⟩ = some (.int .i64 p0_0) := by simp [World.cell?, h4_0]
  have c4_0_1 : w4.cell? ⟨w.heap.size, 1, none⟩ = some (.int .i64 p0_1) := by simp [World.cell?, h4_0]
  have c4_0_2 : w4.cell? ⟨w.heap.size, 2, none⟩ = some (.int .i64 p0_2) := by simp [World.cell?, h4_0]
  have c4_0_3 : w4.cell? ⟨w.heap.size, 3, none⟩ = some (.int .i64 p0_3) := by simp [World.cell?, h4_0]
  go_wp2_with fail
  refine (IMPL.out _).mono ?_
  rintro e w5 ⟨rfl, hb5⟩
  have h5_0 := keep_block hb5 h4_0 (lt_of_block h4_0)
  have HB5 : Hid (Below w.heap.size w w5) := HB4.out.trans (hb5.mono HB4.out.size)
  clear hb5 h4_0 c4_0_0 c4_0_1 c4_0_2 c4_0_3
  have c5_0_0 : w5.cell? ⟨w.heap.size, 0, none⟩ = some (.int .i64 p0_0) := by simp [World.cell?, h5_0]
  have c5_0_1 : w5.cell? ⟨w.heap.size, 1, none⟩ = some (.int .i64 p0_1) := by simp [World.cell?, h5_0]
  have c5_0_2 : w5.cell? ⟨w.heap.size, 2, none⟩ = some (.int .i64 p0_2) := by simp [World.cell?, h5_0]
  have c5_0_3 : w5.cell? ⟨w.heap.size, 3, none⟩ = some (.int .i64 p0_3) := by simp [World.cell?, h5_0]
  have hrr : (r != r) = false := by simp
  go_wp2
  go_ret
  exact ⟨rfl, HB5.out⟩

set_option maxHeartbeats 2000000 in
theorem exGroupOf_of (p0_0 : Int) (p0_1 : Int) (p0_2 : Int) (p0_3 : Int) (p1 : Int) (r : Int) (w : World)
    (hs : ∀ w, Calls Try.prog 26 #[.agg #[.int .i64 p0_0, .int .i64 p0_1, .int .i64 p0_2, .int .i64 p0_3], .int .i64 p1] w (Gives (.int .i64 r) w))
    (hi : ∀ w, Calls Try.prog 20 #[.agg #[.int .i64 p0_0, .int .i64 p0_1, .int .i64 p0_2, .int .i64 p0_3], .int .i64 p1] w (Gives (.int .i64 r) w))
    : Calls Try.prog 7 #[.agg #[.int .i64 p0_0, .int .i64 p0_1, .int .i64 p0_2, .int .i64 p0_3], .int .i64 p1] w fun e w' => e = .returned (.bool true) ∧ Below w.heap.size w w' := by
  have SPEC := Lib.hid hs
  have IMPL := Lib.hid hi
  clear hs hi
  obtain ⟨w1, hw1⟩ : ∃ w1, (w.alloc (.cells #[.int .i64 p0_0, .int .i64 p0_1, .int .i64 p0_2, .int .i64 p0_3] 38)) = w1 := ⟨_, rfl⟩
  have HB1 : Hid (Below w.heap.size w w1) := by subst hw1; exact (Below.refl _ _).alloc (by simp <;> omega) _
  have h1_0 : w1.heap[w.heap.size]? = some (.cells #[.int .i64 p0_0, .int .i64 p0_1, .int .i64 p0_2, .int .i64 p0_3] 38) := by subst hw1; exact heap_alloc_new _ _
  have c1_0_0 : w1.cell? ⟨w.heap.size, 0, none⟩ = some (.int .i64 p0_0) := by simp [World.cell?, h1_0]
  have c1_0_1 : w1.cell? ⟨w.heap.size, 1, none⟩ = some (.int .i64 p0_1) := by simp [World.cell?, h1_0]
  have c1_0_2 : w1.cell? ⟨w.heap.size, 2, none⟩ = some (.int .i64 p0_2) := by simp [World.cell?, h1_0]
  have c1_0_3 : w1.cell? ⟨w.heap.size, 3, none⟩ = some (.int .i64 p0_3) := by simp [World.cell?, h1_0]
  go_enter Try.func7, Try.ntmps7
  go_wp2_with fail
  refine (toGeometry_any _ _ _ _ _).mono ?_
  rintro e w2 ⟨rfl, hb2⟩
  have h2_0 := keep_block hb2 h1_0 (lt_of_block h1_0)
  have HB2 : Hid (Below w.heap.size w w2) := HB1.out.trans (hb2.mono HB1.out.size)
  clear hb2 h1_0 c1_0_0 c1_0_1 c1_0_2 c1_0_3
  have c2_0_0 : w2.cell? ⟨w.heap.size, 0, none⟩ = some (.int .i64 p0_0) := by simp [World.cell?, h2_0]
  have c2_0_1 : w2.cell? ⟨w.heap.size, 1, none⟩ = some (.int .i64 p0_1) := by simp [World.cell?, h2_0]
  have c2_0_2 : w2.cell? ⟨w.heap.size, 2, none⟩ = some (.int .i64 p0_2) := by simp [World.cell?, h2_0]
  have c2_0_3 : w2.cell? ⟨w.heap.size, 3, none⟩ = some (.int .i64 p0_3) := by simp [World.cell?, h2_0]
  go_wp2_with fail
  refine (SPEC.out _).mono ?_
  rintro e w3 ⟨rfl, hb3⟩
  have h3_0 := keep_block hb3 h2_0 (lt_of_block h2_0)
  have HB3 : Hid (Below w.heap.size w w3) := HB2.out.trans (hb3.mono HB2.out.size)
  clear hb3 h2_0 c2_0_0 c2_0_1 c2_0_2 c2_0_3
  have c3_0_0 : w3.cell? ⟨w.heap.size, 0, none⟩ = some (.int .i64 p0_0) := by simp [World.cell?, h3_0]
  have c3_0_1 : w3.cell? ⟨w.heap.size, 1, none⟩ = some (.int .i64 p0_1) := by simp [World.cell?, h3_0]
  have c3_0_2 : w3.cell? ⟨w.heap.size, 2, none⟩ = some (.int .i64 p0_2) := by simp [World.cell?, h3_0]
  have c3_0_3 : w3.cell? ⟨w.heap.size, 3, none⟩ = some (.int .i64 p0_3) := by simp [World.cell?, h3_0]
  go_wp2_with fail
  refine (toGeometry_any _ _ _ _ _).mono ?_
  rintro e w4 ⟨rfl, hb4⟩
  have h4_0 := keep_block hb4 h3_0 (lt_of_block h3_0)
  have HB4 : Hid (Below w.heap.size w w4) := HB3.out.trans (hb4.mono HB3.out.size)
  clear hb4 h3_0 c3_0_0 c3_0_1 c3_0_2 c3_0_3
  have c4_0_0 : w4.cell? ⟨w.heap.size, 0, none⟩ = some (.int .i64 p0_0) := by simp [World.cell?, h4_0]
  have c4_0_1 : w4.cell? ⟨w.heap.size, 1, none⟩ = some (.int .i64 p0_1) := by simp [World.cell?, h4_0]
  have c4_0_2 : w4.cell? ⟨w.heap.size, 2, none⟩ = some (.int .i64 p0_2) := by simp [World.cell?, h4_0]
  have c4_0_3 : w4.cell? ⟨w.heap.size, 3, none⟩ = some (.int .i64 p0_3) := by simp [World.cell?, h4_0]
  go_wp2_with fail
  refine (IMPL.out _).mono ?_
  rintro e w5 ⟨rfl, hb5⟩
  have h5_0 := keep_block hb5 h4_0 (lt_of_block h4_0)
  have HB5 : Hid (Below w.heap.size w w5) := HB4.out.trans (hb5.mono HB4.out.size)
  clear hb5 h4_0 c4_0_0 c4_0_1 c4_0_2 c4_0_3
  have c5_0_0 : w5.cell? ⟨w.heap.size, 0, none⟩ = some (.int .i64 p0_0) := by simp [World.cell?, h5_0]
  have c5_0_1 : w5.cell? ⟨w.heap.size, 1, none⟩ = some (.int .i64 p0_1) := by simp [World.cell?, h5_0]
  have c5_0_2 : w5.cell? ⟨w.heap.size, 2, none⟩ = some (.int .i64 p0_2) := by simp [World.cell?, h5_0]
  have c5_0_3 : w5.cell? ⟨w.heap.size, 3, none⟩ = some (.int .i64 p0_3) := by simp [World.cell?, h5_0]
  have hrr : (r != r) = false := by simp
  go_wp2
  go_ret
  exact ⟨rfl, HB5.out⟩

set_option maxHeartbeats 2000000 in
theorem exAddrOk_of (p0_0 : Int) (p0_1 : Int) (p0_2 : Int) (p0_3 : Int) (p1_0 : Int) (p1_1 : Int) (p1_2 : Int) (r : Bool) (w : World)
    (hs : ∀ w, Calls Try.prog 27 #[.agg #[.int .i64 p0_0, .int .i64 p0_1, .int .i64 p0_2, .int .i64 p0_3], .agg #[.int .i64 p1_0, .int .i64 p1_1, .int .i64 p1_2]] w (Gives (.bool r) w))
    (hi : ∀ w, Calls Try.prog 18 #[.agg #[.int .i64 p0_0, .int .i64 p0_1, .int .i64 p0_2, .int .i64 p0_3], .agg #[.int .i64 p1_0, .int .i64 p1_1, .int .i64 p1_2]] w (Gives (.bool r) w))
    : Calls Try.prog 8 #[.agg #[.int .i64 p0_0, .int .i64 p0_1, .int .i64 p0_2, .int .i64 p0_3], .agg #[.int .i64 p1_0, .int .i64 p1_1, .int .i64 p1_2]] w fun e w' => e = .returned (.bool true) ∧ Below w.heap.size w w' := by
  have SPEC := Lib.hid hs
  have IMPL := Lib.hid hi
  clear hs hi
  obtain ⟨w1, hw1⟩ : ∃ w1, ((w.alloc (.cells #[.int .i64 p0_0, .int .i64 p0_1, .int .i64 p0_2, .int .i64 p0_3] 38)).alloc (.cells #[.int .i64 p1_0, .int .i64 p1_1, .int .i64 p1_2] 42)) = w1 := ⟨_, rfl⟩
  have HB1 : Hid (Below w.heap.size w w1) := by subst hw1; exact ((Below.refl _ _).alloc (by simp <;> omega) _).alloc (by simp <;> omega) _
  have h1_0 : w1.heap[w.heap.size]? = some (.cells #[.int .i64 p0_0, .int .i64 p0_1, .int .i64 p0_2, .int .i64 p0_3] 38) := by subst hw1; exact heap_alloc2_old _ _ _
  have h1_1 : w1.heap[w.heap.size + 1]? = some (.cells #[.int .i64 p1_0, .int .i64 p1_1, .int .i64 p1_2] 42) := by subst hw1; exact heap_alloc2_new _ _ _
  have c1_0_0 : w1.cell? ⟨w.heap.size, 0, none⟩ = some (.int .i64 p0_0) := by simp [World.cell?, h1_0]
  have c1_0_1 : w1.cell? ⟨w.heap.size, 1, none⟩ = some (.int .i64 p0_1) := by simp [World.cell?, h1_0]
  have c1_0_2 : w1.cell? ⟨w.heap.size, 2, none⟩ = some (.int .i64 p0_2) := by simp [World.cell?, h1_0]
  have c1_0_3 : w1.cell? ⟨w.heap.size, 3, none⟩ = some (.int .i64 p0_3) := by simp [World.cell?, h1_0]
  have c1_1_0 : w1.cell? ⟨w.heap.size + 1, 0, none⟩ = some (.int .i64 p1_0) := by simp [World.cell?, h1_1]
  have c1_1_1 : w1.cell? ⟨w.heap.size + 1, 1, none⟩ = some (.int .i64 p1_1) := by simp [World.cell?, h1_1]
  have c1_1_2 : w1.cell? ⟨w.heap.size + 1, 2, none⟩ = some (.int .i64 p1_2) := by simp [World.cell?, h1_1]
  go_enter Try.func8, Try.ntmps8
  have z1_0_0 := fun zz : Later w1 => zz.cell c1_0_0
  have z1_0_1 := fun zz : Later w1 => zz.cell c1_0_1
  have z1_0_2 := fun zz : Later w1 => zz.cell c1_0_2
  have z1_0_3 := fun zz : Later w1 => zz.cell c1_0_3
  have z1_1_0 := fun zz : Later w1 => zz.cell c1_1_0
  have z1_1_1 := fun zz : Later w1 => zz.cell c1_1_1
  have z1_1_2 := fun zz : Later w1 => zz.cell c1_1_2
  go_wp2_with fail
  refine wp_region_later (by kernel_rfl) (by kernel_rfl) ?_
  repeat (go_big_quiet_step (first | (go_at_call 24; exact Gives.later _ (toGeometry_any _ _ _ _ _)) | (go_at_call 28; exact Gives.later _ (toAddr_any _ _ _ _)) | (go_at_call 27; exact Gives.later _ (SPEC.out _))))
  refine wpQuiet_nil ?_
  rintro w2 ⟨zz2, hz2⟩
  have hb2 : Below w1.heap.size w1 w2 := hz2 ▸ zz2.ok
  clear hz2 zz2
  have h2_0 := keep_block hb2 h1_0 (lt_of_block h1_0)
  have h2_1 := keep_block hb2 h1_1 (lt_of_block h1_1)
  have HB2 : Hid (Below w.heap.size w w2) := HB1.out.trans (hb2.mono HB1.out.size)
  clear hb2 h1_0 h1_1 c1_0_0 c1_0_1 c1_0_2 c1_0_3 c1_1_0 c1_1_1 c1_1_2 z1_0_0 z1_0_1 z1_0_2 z1_0_3 z1_1_0 z1_1_1 z1_1_2
  have c2_0_0 : w2.cell? ⟨w.heap.size, 0, none⟩ = some (.int .i64 p0_0) := by simp [World.cell?, h2_0]
  have c2_0_1 : w2.cell? ⟨w.heap.size, 1, none⟩ = some (.int .i64 p0_1) := by simp [World.cell?, h2_0]
  have c2_0_2 : w2.cell? ⟨w.heap.size, 2, none⟩ = some (.int .i64 p0_2) := by simp [World.cell?, h2_0]
  have c2_0_3 : w2.cell? ⟨w.heap.size, 3, none⟩ = some (.int .i64 p0_3) := by simp [World.cell?, h2_0]
  have c2_1_0 : w2.cell? ⟨w.heap.size + 1, 0, none⟩ = some (.int .i64 p1_0) := by simp [World.cell?, h2_1]
  have c2_1_1 : w2.cell? ⟨w.heap.size + 1, 1, none⟩ = some (.int .i64 p1_1) := by simp [World.cell?, h2_1]
  have c2_1_2 : w2.cell? ⟨w.heap.size + 1, 2, none⟩ = some (.int .i64 p1_2) := by simp [World.cell?, h2_1]
  have z2_0_0 := fun zz : Later w2 => zz.cell c2_0_0
  have z2_0_1 := fun zz : Later w2 => zz.cell c2_0_1
  have z2_0_2 := fun zz : Later w2 => zz.cell c2_0_2
  have z2_0_3 := fun zz : Later w2 => zz.cell c2_0_3
  have z2_1_0 := fun zz : Later w2 => zz.cell c2_1_0
  have z2_1_1 := fun zz : Later w2 => zz.cell c2_1_1
  have z2_1_2 := fun zz : Later w2 => zz.cell c2_1_2
  go_wp2_with fail
  refine wp_region_later (by kernel_rfl) (by kernel_rfl) ?_
  repeat (go_big_quiet_step (first | (go_at_call 24; exact Gives.later _ (toGeometry_any _ _ _ _ _)) | (go_at_call 28; exact Gives.later _ (toAddr_any _ _ _ _)) | (go_at_call 18; exact Gives.later _ (IMPL.out _))))
  refine wpQuiet_nil ?_
  rintro w3 ⟨zz3, hz3⟩
  have hb3 : Below w2.heap.size w2 w3 := hz3 ▸ zz3.ok
  clear hz3 zz3
  have h3_0 := keep_block hb3 h2_0 (lt_of_block h2_0)
  have h3_1 := keep_block hb3 h2_1 (lt_of_block h2_1)
  have HB3 : Hid (Below w.heap.size w w3) := HB2.out.trans (hb3.mono HB2.out.size)
  clear hb3 h2_0 h2_1 c2_0_0 c2_0_1 c2_0_2 c2_0_3 c2_1_0 c2_1_1 c2_1_2 z2_0_0 z2_0_1 z2_0_2 z2_0_3 z2_1_0 z2_1_1 z2_1_2
  have c3_0_0 : w3.cell? ⟨w.heap.size, 0, none⟩ = some (.int .i64 p0_0) := by simp [World.cell?, h3_0]
  have c3_0_1 : w3.cell? ⟨w.heap.size, 1, none⟩ = some (.int .i64 p0_1) := by simp [World.cell?, h3_0]
  have c3_0_2 : w3.cell? ⟨w.heap.size, 2, none⟩ = some (.int .i64 p0_2) := by simp [World.cell?, h3_0]
  have c3_0_3 : w3.cell? ⟨w.heap.size, 3, none⟩ = some (.int .i64 p0_3) := by simp [World.cell?, h3_0]
  have c3_1_0 : w3.cell? ⟨w.heap.size + 1, 0, none⟩ = some (.int .i64 p1_0) := by simp [World.cell?, h3_1]
  have c3_1_1 : w3.cell? ⟨w.heap.size + 1, 1, none⟩ = some (.int .i64 p1_1) := by simp [World.cell?, h3_1]
  have c3_1_2 : w3.cell? ⟨w.heap.size + 1, 2, none⟩ = some (.int .i64 p1_2) := by simp [World.cell?, h3_1]
  have hrr : (r != r) = false := by simp
  go_wp2
  go_ret
  exact ⟨rfl, HB3.out⟩

set_option maxHeartbeats 2000000 in
theorem exLineCount_of (p0_0 : Int) (p0_1 : Int) (p0_2 : Int) (p0_3 : Int) (r : Int) (w : World)
    (hs : ∀ w, Calls Try.prog 15 #[.agg #[.int .i64 p0_0, .int .i64 p0_1, .int .i64 p0_2, .int .i64 p0_3]] w (Gives (.int .i64 r) w))
    (hi : ∀ w, Calls Try.prog 21 #[.agg #[.int .i64 p0_0, .int .i64 p0_1, .int .i64 p0_2, .int .i64 p0_3]] w (Gives (.int .i64 r) w))
    : Calls Try.prog 9 #[.agg #[.int .i64 p0_0, .int .i64 p0_1, .int .i64 p0_2, .int .i64 p0_3]] w fun e w' => e = .returned (.bool true) ∧ Below w.heap.size w w' := by
  have SPEC := Lib.hid hs
  have IMPL := Lib.hid hi
  clear hs hi
  obtain ⟨w1, hw1⟩ : ∃ w1, (w.alloc (.cells #[.int .i64 p0_0, .int .i64 p0_1, .int .i64 p0_2, .int .i64 p0_3] 38)) = w1 := ⟨_, rfl⟩
  have HB1 : Hid (Below w.heap.size w w1) := by subst hw1; exact (Below.refl _ _).alloc (by simp <;> omega) _
  have h1_0 : w1.heap[w.heap.size]? = some (.cells #[.int .i64 p0_0, .int .i64 p0_1, .int .i64 p0_2, .int .i64 p0_3] 38) := by subst hw1; exact heap_alloc_new _ _
  have c1_0_0 : w1.cell? ⟨w.heap.size, 0, none⟩ = some (.int .i64 p0_0) := by simp [World.cell?, h1_0]
  have c1_0_1 : w1.cell? ⟨w.heap.size, 1, none⟩ = some (.int .i64 p0_1) := by simp [World.cell?, h1_0]
  have c1_0_2 : w1.cell? ⟨w.heap.size, 2, none⟩ = some (.int .i64 p0_2) := by simp [World.cell?, h1_0]
  have c1_0_3 : w1.cell? ⟨w.heap.size, 3, none⟩ = some (.int .i64 p0_3) := by simp [World.cell?, h1_0]
  go_enter Try.func9, Try.ntmps9
  go_wp2_with fail
  refine (toGeometry_any _ _ _ _ _).mono ?_
  rintro e w2 ⟨rfl, hb2⟩
  have h2_0 := keep_block hb2 h1_0 (lt_of_block h1_0)
  have HB2 : Hid (Below w.heap.size w w2) := HB1.out.trans (hb2.mono HB1.out.size)
  clear hb2 h1_0 c1_0_0 c1_0_1 c1_0_2 c1_0_3
  have c2_0_0 : w2.cell? ⟨w.heap.size, 0, none⟩ = some (.int .i64 p0_0) := by simp [World.cell?, h2_0]
  have c2_0_1 : w2.cell? ⟨w.heap.size, 1, none⟩ = some (.int .i64 p0_1) := by simp [World.cell?, h2_0]
  have c2_0_2 : w2.cell? ⟨w.heap.size, 2, none⟩ = some (.int .i64 p0_2) := by simp [World.cell?, h2_0]
  have c2_0_3 : w2.cell? ⟨w.heap.size, 3, none⟩ = some (.int .i64 p0_3) := by simp [World.cell?, h2_0]
  go_wp2_with fail
  refine (SPEC.out _).mono ?_
  rintro e w3 ⟨rfl, hb3⟩
  have h3_0 := keep_block hb3 h2_0 (lt_of_block h2_0)
  have HB3 : Hid (Below w.heap.size w w3) := HB2.out.trans (hb3.mono HB2.out.size)
  clear hb3 h2_0 c2_0_0 c2_0_1 c2_0_2 c2_0_3
  have c3_0_0 : w3.cell? ⟨w.heap.size, 0, none⟩ = some (.int .i64 p0_0) := by simp [World.cell?, h3_0]
  have c3_0_1 : w3.cell? ⟨w.heap.size, 1, none⟩ = some (.int .i64 p0_1) := by simp [World.cell?, h3_0]
  have c3_0_2 : w3.cell? ⟨w.heap.size, 2, none⟩ = some (.int .i64 p0_2) := by simp [World.cell?, h3_0]
  have c3_0_3 : w3.cell? ⟨w.heap.size, 3, none⟩ = some (.int .i64 p0_3) := by simp [World.cell?, h3_0]
  go_wp2_with fail
  refine (toGeometry_any _ _ _ _ _).mono ?_
  rintro e w4 ⟨rfl, hb4⟩
  have h4_0 := keep_block hb4 h3_0 (lt_of_block h3_0)
  have HB4 : Hid (Below w.heap.size w w4) := HB3.out.trans (hb4.mono HB3.out.size)
  clear hb4 h3_0 c3_0_0 c3_0_1 c3_0_2 c3_0_3
  have c4_0_0 : w4.cell? ⟨w.heap.size, 0, none⟩ = some (.int .i64 p0_0) := by simp [World.cell?, h4_0]
  have c4_0_1 : w4.cell? ⟨w.heap.size, 1, none⟩ = some (.int .i64 p0_1) := by simp [World.cell?, h4_0]
  have c4_0_2 : w4.cell? ⟨w.heap.size, 2, none⟩ = some (.int .i64 p0_2) := by simp [World.cell?, h4_0]
  have c4_0_3 : w4.cell? ⟨w.heap.size, 3, none⟩ = some (.int .i64 p0_3) := by simp [World.cell?, h4_0]
  go_wp2_with fail
  refine (IMPL.out _).mono ?_
  rintro e w5 ⟨rfl, hb5⟩
  have h5_0 := keep_block hb5 h4_0 (lt_of_block h4_0)
  have HB5 : Hid (Below w.heap.size w w5) := HB4.out.trans (hb5.mono HB4.out.size)
  clear hb5 h4_0 c4_0_0 c4_0_1 c4_0_2 c4_0_3
  have c5_0_0 : w5.cell? ⟨w.heap.size, 0, none⟩ = some (.int .i64 p0_0) := by simp [World.cell?, h5_0]
  have c5_0_1 : w5.cell? ⟨w.heap.size, 1, none⟩ = some (.int .i64 p0_1) := by simp [World.cell?, h5_0]
  have c5_0_2 : w5.cell? ⟨w.heap.size, 2, none⟩ = some (.int .i64 p0_2) := by simp [World.cell?, h5_0]
  have c5_0_3 : w5.cell? ⟨w.heap.size, 3, none⟩ = some (.int .i64 p0_3) := by simp [World.cell?, h5_0]
  have hrr : (r != r) = false := by simp
  go_wp2
  go_ret
  exact ⟨rfl, HB5.out⟩

set_option maxHeartbeats 2000000 in
theorem exAddrIndex_of (p0_0 : Int) (p0_1 : Int) (p0_2 : Int) (p0_3 : Int) (p1_0 : Int) (p1_1 : Int) (p1_2 : Int) (r : Int) (w : World)
    (hs : ∀ w, Calls Try.prog 29 #[.agg #[.int .i64 p0_0, .int .i64 p0_1, .int .i64 p0_2, .int .i64 p0_3], .agg #[.int .i64 p1_0, .int .i64 p1_1, .int .i64 p1_2]] w (Gives (.int .i64 r) w))
    (hi : ∀ w, Calls Try.prog 17 #[.agg #[.int .i64 p0_0, .int .i64 p0_1, .int .i64 p0_2, .int .i64 p0_3], .agg #[.int .i64 p1_0, .int .i64 p1_1, .int .i64 p1_2]] w (Gives (.int .i64 r) w))
    : Calls Try.prog 10 #[.agg #[.int .i64 p0_0, .int .i64 p0_1, .int .i64 p0_2, .int .i64 p0_3], .agg #[.int .i64 p1_0, .int .i64 p1_1, .int .i64 p1_2]] w fun e w' => e = .returned (.bool true) ∧ Below w.heap.size w w' := by
  have SPEC := Lib.hid hs
  have IMPL := Lib.hid hi
  clear hs hi
  obtain ⟨w1, hw1⟩ : ∃ w1, ((w.alloc (.cells #[.int .i64 p0_0, .int .i64 p0_1, .int .i64 p0_2, .int .i64 p0_3] 38)).alloc (.cells #[.int .i64 p1_0, .int .i64 p1_1, .int .i64 p1_2] 42)) = w1 := ⟨_, rfl⟩
  have HB1 : Hid (Below w.heap.size w w1) := by subst hw1; exact ((Below.refl _ _).alloc (by simp <;> omega) _).alloc (by simp <;> omega) _
  have h1_0 : w1.heap[w.heap.size]? = some (.cells #[.int .i64 p0_0, .int .i64 p0_1, .int .i64 p0_2, .int .i64 p0_3] 38) := by subst hw1; exact heap_alloc2_old _ _ _
  have h1_1 : w1.heap[w.heap.size + 1]? = some (.cells #[.int .i64 p1_0, .int .i64 p1_1, .int .i64 p1_2] 42) := by subst hw1; exact heap_alloc2_new _ _ _
  have c1_0_0 : w1.cell? ⟨w.heap.size, 0, none⟩ = some (.int .i64 p0_0) := by simp [World.cell?, h1_0]
  have c1_0_1 : w1.cell? ⟨w.heap.size, 1, none⟩ = some (.int .i64 p0_1) := by simp [World.cell?, h1_0]
  have c1_0_2 : w1.cell? ⟨w.heap.size, 2, none⟩ = some (.int .i64 p0_2) := by simp [World.cell?, h1_0]
  have c1_0_3 : w1.cell? ⟨w.heap.size, 3, none⟩ = some (.int .i64 p0_3) := by simp [World.cell?, h1_0]
  have c1_1_0 : w1.cell? ⟨w.heap.size + 1, 0, none⟩ = some (.int .i64 p1_0) := by simp [World.cell?, h1_1]
  have c1_1_1 : w1.cell? ⟨w.heap.size + 1, 1, none⟩ = some (.int .i64 p1_1) := by simp [World.cell?, h1_1]
  have c1_1_2 : w1.cell? ⟨w.heap.size + 1, 2, none⟩ = some (.int .i64 p1_2) := by simp [World.cell?, h1_1]
  go_enter Try.func10, Try.ntmps10
  have z1_0_0 := fun zz : Later w1 => zz.cell c1_0_0
  have z1_0_1 := fun zz : Later w1 => zz.cell c1_0_1
  have z1_0_2 := fun zz : Later w1 => zz.cell c1_0_2
  have z1_0_3 := fun zz : Later w1 => zz.cell c1_0_3
  have z1_1_0 := fun zz : Later w1 => zz.cell c1_1_0
  have z1_1_1 := fun zz : Later w1 => zz.cell c1_1_1
  have z1_1_2 := fun zz : Later w1 => zz.cell c1_1_2
  go_wp2_with fail
  refine wp_region_later (by kernel_rfl) (by kernel_rfl) ?_
  repeat (go_big_quiet_step (first | (go_at_call 24; exact Gives.later _ (toGeometry_any _ _ _ _ _)) | (go_at_call 28; exact Gives.later _ (toAddr_any _ _ _ _)) | (go_at_call 29; exact Gives.later _ (SPEC.out _))))
  refine wpQuiet_nil ?_
  rintro w2 ⟨zz2, hz2⟩
  have hb2 : Below w1.heap.size w1 w2 := hz2 ▸ zz2.ok
  clear hz2 zz2
  have h2_0 := keep_block hb2 h1_0 (lt_of_block h1_0)
  have h2_1 := keep_block hb2 h1_1 (lt_of_block h1_1)
  have HB2 : Hid (Below w.heap.size w w2) := HB1.out.trans (hb2.mono HB1.out.size)
  clear hb2 h1_0 h1_1 c1_0_0 c1_0_1 c1_0_2 c1_0_3 c1_1_0 c1_1_1 c1_1_2 z1_0_0 z1_0_1 z1_0_2 z1_0_3 z1_1_0 z1_1_1 z1_1_2
  have c2_0_0 : w2.cell? ⟨w.heap.size, 0, none⟩ = some (.int .i64 p0_0) := by simp [World.cell?, h2_0]
  have c2_0_1 : w2.cell? ⟨w.heap.size, 1, none⟩ = some (.int .i64 p0_1) := by simp [World.cell?, h2_0]
  have c2_0_2 : w2.cell? ⟨w.heap.size, 2, none⟩ = some (.int .i64 p0_2) := by simp [World.cell?, h2_0]
  have c2_0_3 : w2.cell? ⟨w.heap.size, 3, none⟩ = some (.int .i64 p0_3) := by simp [World.cell?, h2_0]
  have c2_1_0 : w2.cell? ⟨w.heap.size + 1, 0, none⟩ = some (.int .i64 p1_0) := by simp [World.cell?, h2_1]
  have c2_1_1 : w2.cell? ⟨w.heap.size + 1, 1, none⟩ = some (.int .i64 p1_1) := by simp [World.cell?, h2_1]
  have c2_1_2 : w2.cell? ⟨w.heap.size + 1, 2, none⟩ = some (.int .i64 p1_2) := by simp [World.cell?, h2_1]
  have z2_0_0 := fun zz : Later w2 => zz.cell c2_0_0
  have z2_0_1 := fun zz : Later w2 => zz.cell c2_0_1
  have z2_0_2 := fun zz : Later w2 => zz.cell c2_0_2
  have z2_0_3 := fun zz : Later w2 => zz.cell c2_0_3
  have z2_1_0 := fun zz : Later w2 => zz.cell c2_1_0
  have z2_1_1 := fun zz : Later w2 => zz.cell c2_1_1
  have z2_1_2 := fun zz : Later w2 => zz.cell c2_1_2
  go_wp2_with fail
  refine wp_region_later (by kernel_rfl) (by kernel_rfl) ?_
  repeat (go_big_quiet_step (first | (go_at_call 24; exact Gives.later _ (toGeometry_any _ _ _ _ _)) | (go_at_call 28; exact Gives.later _ (toAddr_any _ _ _ _)) | (go_at_call 17; exact Gives.later _ (IMPL.out _))))
  refine wpQuiet_nil ?_
  rintro w3 ⟨zz3, hz3⟩
  have hb3 : Below w2.heap.size w2 w3 := hz3 ▸ zz3.ok
  clear hz3 zz3
  have h3_0 := keep_block hb3 h2_0 (lt_of_block h2_0)
  have h3_1 := keep_block hb3 h2_1 (lt_of_block h2_1)
  have HB3 : Hid (Below w.heap.size w w3) := HB2.out.trans (hb3.mono HB2.out.size)
  clear hb3 h2_0 h2_1 c2_0_0 c2_0_1 c2_0_2 c2_0_3 c2_1_0 c2_1_1 c2_1_2 z2_0_0 z2_0_1 z2_0_2 z2_0_3 z2_1_0 z2_1_1 z2_1_2
  have c3_0_0 : w3.cell? ⟨w.heap.size, 0, none⟩ = some (.int .i64 p0_0) := by simp [World.cell?, h3_0]
  have c3_0_1 : w3.cell? ⟨w.heap.size, 1, none⟩ = some (.int .i64 p0_1) := by simp [World.cell?, h3_0]
  have c3_0_2 : w3.cell? ⟨w.heap.size, 2, none⟩ = some (.int .i64 p0_2) := by simp [World.cell?, h3_0]
  have c3_0_3 : w3.cell? ⟨w.heap.size, 3, none⟩ = some (.int .i64 p0_3) := by simp [World.cell?, h3_0]
  have c3_1_0 : w3.cell? ⟨w.heap.size + 1, 0, none⟩ = some (.int .i64 p1_0) := by simp [World.cell?, h3_1]
  have c3_1_1 : w3.cell? ⟨w.heap.size + 1, 1, none⟩ = some (.int .i64 p1_1) := by simp [World.cell?, h3_1]
  have c3_1_2 : w3.cell? ⟨w.heap.size + 1, 2, none⟩ = some (.int .i64 p1_2) := by simp [World.cell?, h3_1]
  have hrr : (r != r) = false := by simp
  go_wp2
  go_ret
  exact ⟨rfl, HB3.out⟩

set_option maxHeartbeats 2000000 in
theorem exAddrAt_of (p0_0 : Int) (p0_1 : Int) (p0_2 : Int) (p0_3 : Int) (p1 : Int) (r0 : Int) (r1 : Int) (r2 : Int) (rb : Bool) (w : World)
    (hs : ∀ w, Calls Try.prog 30 #[.agg #[.int .i64 p0_0, .int .i64 p0_1, .int .i64 p0_2, .int .i64 p0_3], .int .i64 p1] w (Gives (.tuple #[.agg #[.int .i64 r0, .int .i64 r1, .int .i64 r2], .bool rb]) w))
    (hi : ∀ w, Calls Try.prog 16 #[.agg #[.int .i64 p0_0, .int .i64 p0_1, .int .i64 p0_2, .int .i64 p0_3], .int .i64 p1] w (Gives (.tuple #[.agg #[.int .i64 r0, .int .i64 r1, .int .i64 r2], .bool rb]) w))
    : Calls Try.prog 11 #[.agg #[.int .i64 p0_0, .int .i64 p0_1, .int .i64 p0_2, .int .i64 p0_3], .int .i64 p1] w fun e w' => e = .returned (.bool true) ∧ Below w.heap.size w w' := by
  have SPEC := Lib.hid hs
  have IMPL := Lib.hid hi
  clear hs hi
  obtain ⟨w1, hw1⟩ : ∃ w1, (w.alloc (.cells #[.int .i64 p0_0, .int .i64 p0_1, .int .i64 p0_2, .int .i64 p0_3] 38)) = w1 := ⟨_, rfl⟩
  have HB1 : Hid (Below w.heap.size w w1) := by subst hw1; exact (Below.refl _ _).alloc (by simp <;> omega) _
  have h1_0 : w1.heap[w.heap.size]? = some (.cells #[.int .i64 p0_0, .int .i64 p0_1, .int .i64 p0_2, .int .i64 p0_3] 38) := by subst hw1; exact heap_alloc_new _ _
  have c1_0_0 : w1.cell? ⟨w.heap.size, 0, none⟩ = some (.int .i64 p0_0) := by simp [World.cell?, h1_0]
  have c1_0_1 : w1.cell? ⟨w.heap.size, 1, none⟩ = some (.int .i64 p0_1) := by simp [World.cell?, h1_0]
  have c1_0_2 : w1.cell? ⟨w.heap.size, 2, none⟩ = some (.int .i64 p0_2) := by simp [World.cell?, h1_0]
  have c1_0_3 : w1.cell? ⟨w.heap.size, 3, none⟩ = some (.int .i64 p0_3) := by simp [World.cell?, h1_0]
  go_enter Try.func11, Try.ntmps11
  go_wp2_with fail
  refine (toGeometry_any _ _ _ _ _).mono ?_
  rintro e w2 ⟨rfl, hb2⟩
  have h2_0 := keep_block hb2 h1_0 (lt_of_block h1_0)
  have HB2 : Hid (Below w.heap.size w w2) := HB1.out.trans (hb2.mono HB1.out.size)
  clear hb2 h1_0 c1_0_0 c1_0_1 c1_0_2 c1_0_3
  have c2_0_0 : w2.cell? ⟨w.heap.size, 0, none⟩ = some (.int .i64 p0_0) := by simp [World.cell?, h2_0]
  have c2_0_1 : w2.cell? ⟨w.heap.size, 1, none⟩ = some (.int .i64 p0_1) := by simp [World.cell?, h2_0]
  have c2_0_2 : w2.cell? ⟨w.heap.size, 2, none⟩ = some (.int .i64 p0_2) := by simp [World.cell?, h2_0]
  have c2_0_3 : w2.cell? ⟨w.heap.size, 3, none⟩ = some (.int .i64 p0_3) := by simp [World.cell?, h2_0]
  go_wp2_with fail
  refine (SPEC.out _).mono ?_
  rintro e w3 ⟨rfl, hb3⟩
  have h3_0 := keep_block hb3 h2_0 (lt_of_block h2_0)
  have HB3 : Hid (Below w.heap.size w w3) := HB2.out.trans (hb3.mono HB2.out.size)
  clear hb3 h2_0 c2_0_0 c2_0_1 c2_0_2 c2_0_3
  have c3_0_0 : w3.cell? ⟨w.heap.size, 0, none⟩ = some (.int .i64 p0_0) := by simp [World.cell?, h3_0]
  have c3_0_1 : w3.cell? ⟨w.heap.size, 1, none⟩ = some (.int .i64 p0_1) := by simp [World.cell?, h3_0]
  have c3_0_2 : w3.cell? ⟨w.heap.size, 2, none⟩ = some (.int .i64 p0_2) := by simp [World.cell?, h3_0]
  have c3_0_3 : w3.cell? ⟨w.heap.size, 3, none⟩ = some (.int .i64 p0_3) := by simp [World.cell?, h3_0]
  obtain ⟨w4, hw4⟩ : ∃ x, w3.alloc (.cells #[.int .i64 r0, .int .i64 r1, .int .i64 r2] 31) = x := ⟨_, rfl⟩
  have hb4 : Below w3.heap.size w3 w4 := by subst hw4; exact (Below.refl _ _).alloc (Nat.le_refl _) _
  have h4_0 := keep_block hb4 h3_0 (lt_of_block h3_0)
  have HB4 : Hid (Below w.heap.size w w4) := HB3.out.trans (hb4.mono HB3.out.size)
  have h4_1 : w4.heap[w3.heap.size]? = some (.cells #[.int .i64 r0, .int .i64 r1, .int .i64 r2] 31) := by subst hw4; exact heap_alloc_new _ _
  clear hb4 h3_0
  have c4_0_0 : w4.cell? ⟨w.heap.size, 0, none⟩ = some (.int .i64 p0_0) := by simp [World.cell?, h4_0]
  have c4_0_1 : w4.cell? ⟨w.heap.size, 1, none⟩ = some (.int .i64 p0_1) := by simp [World.cell?, h4_0]
  have c4_0_2 : w4.cell? ⟨w.heap.size, 2, none⟩ = some (.int .i64 p0_2) := by simp [World.cell?, h4_0]
  have c4_0_3 : w4.cell? ⟨w.heap.size, 3, none⟩ = some (.int .i64 p0_3) := by simp [World.cell?, h4_0]
  have c4_1_0 : w4.cell? ⟨w3.heap.size, 0, none⟩ = some (.int .i64 r0) := by simp [World.cell?, h4_1]
  have c4_1_1 : w4.cell? ⟨w3.heap.size, 1, none⟩ = some (.int .i64 r1) := by simp [World.cell?, h4_1]
  have c4_1_2 : w4.cell? ⟨w3.heap.size, 2, none⟩ = some (.int .i64 r2) := by simp [World.cell?, h4_1]
  go_wp2_with fail
  refine (toGeometry_any _ _ _ _ _).mono ?_
  rintro e w5 ⟨rfl, hb5⟩
  have h5_0 := keep_block hb5 h4_0 (lt_of_block h4_0)
  have h5_1 := keep_block hb5 h4_1 (lt_of_block h4_1)
  have HB5 : Hid (Below w.heap.size w w5) := HB4.out.trans (hb5.mono HB4.out.size)
  clear hb5 h4_0 h4_1 c4_0_0 c4_0_1 c4_0_2 c4_0_3 c4_1_0 c4_1_1 c4_1_2
  have c5_0_0 : w5.cell? ⟨w.heap.size, 0, none⟩ = some (.int .i64 p0_0) := by simp [World.cell?, h5_0]
  have c5_0_1 : w5.cell? ⟨w.heap.size, 1, none⟩ = some (.int .i64 p0_1) := by simp [World.cell?, h5_0]
  have c5_0_2 : w5.cell? ⟨w.heap.size, 2, none⟩ = some (.int .i64 p0_2) := by simp [World.cell?, h5_0]
  have c5_0_3 : w5.cell? ⟨w.heap.size, 3, none⟩ = some (.int .i64 p0_3) := by simp [World.cell?, h5_0]
  have c5_1_0 : w5.cell? ⟨w3.heap.size, 0, none⟩ = some (.int .i64 r0) := by simp [World.cell?, h5_1]
  have c5_1_1 : w5.cell? ⟨w3.heap.size, 1, none⟩ = some (.int .i64 r1) := by simp [World.cell?, h5_1]
  have c5_1_2 : w5.cell? ⟨w3.heap.size, 2, none⟩ = some (.int .i64 r2) := by simp [World.cell?, h5_1]
  go_wp2_with fail
  refine (IMPL.out _).mono ?_
  rintro e w6 ⟨rfl, hb6⟩
  have h6_0 := keep_block hb6 h5_0 (lt_of_block h5_0)
  have h6_1 := keep_block hb6 h5_1 (lt_of_block h5_1)
  have HB6 : Hid (Below w.heap.size w w6) := HB5.out.trans (hb6.mono HB5.out.size)
  clear hb6 h5_0 h5_1 c5_0_0 c5_0_1 c5_0_2 c5_0_3 c5_1_0 c5_1_1 c5_1_2
  have c6_0_0 : w6.cell? ⟨w.heap.size, 0, none⟩ = some (.int .i64 p0_0) := by simp [World.cell?, h6_0]
  have c6_0_1 : w6.cell? ⟨w.heap.size, 1, none⟩ = some (.int .i64 p0_1) := by simp [World.cell?, h6_0]
  have c6_0_2 : w6.cell? ⟨w.heap.size, 2, none⟩ = some (.int .i64 p0_2) := by simp [World.cell?, h6_0]
  have c6_0_3 : w6.cell? ⟨w.heap.size, 3, none⟩ = some (.int .i64 p0_3) := by simp [World.cell?, h6_0]
  have c6_1_0 : w6.cell? ⟨w3.heap.size, 0, none⟩ = some (.int .i64 r0) := by simp [World.cell?, h6_1]
  have c6_1_1 : w6.cell? ⟨w3.heap.size, 1, none⟩ = some (.int .i64 r1) := by simp [World.cell?, h6_1]
  have c6_1_2 : w6.cell? ⟨w3.heap.size, 2, none⟩ = some (.int .i64 r2) := by simp [World.cell?, h6_1]
  obtain ⟨w7, hw7⟩ : ∃ x, w6.alloc (.cells #[.int .i64 r0, .int .i64 r1, .int .i64 r2] 31) = x := ⟨_, rfl⟩
  have hb7 : Below w6.heap.size w6 w7 := by subst hw7; exact (Below.refl _ _).alloc (Nat.le_refl _) _
  have h7_0 := keep_block hb7 h6_0 (lt_of_block h6_0)
  have h7_1 := keep_block hb7 h6_1 (lt_of_block h6_1)
  have HB7 : Hid (Below w.heap.size w w7) := HB6.out.trans (hb7.mono HB6.out.size)
  have h7_2 : w7.heap[w6.heap.size]? = some (.cells #[.int .i64 r0, .int .i64 r1, .int .i64 r2] 31) := by subst hw7; exact heap_alloc_new _ _
  clear hb7 h6_0 h6_1
  have c7_0_0 : w7.cell? ⟨w.heap.size, 0, none⟩ = some (.int .i64 p0_0) := by simp [World.cell?, h7_0]
  have c7_0_1 : w7.cell? ⟨w.heap.size, 1, none⟩ = some (.int .i64 p0_1) := by simp [World.cell?, h7_0]
  have c7_0_2 : w7.cell? ⟨w.heap.size, 2, none⟩ = some (.int .i64 p0_2) := by simp [World.cell?, h7_0]
  have c7_0_3 : w7.cell? ⟨w.heap.size, 3, none⟩ = some (.int .i64 p0_3) := by simp [World.cell?, h7_0]
  have c7_1_0 : w7.cell? ⟨w3.heap.size, 0, none⟩ = some (.int .i64 r0) := by simp [World.cell?, h7_1]
  have c7_1_1 : w7.cell? ⟨w3.heap.size, 1, none⟩ = some (.int .i64 r1) := by simp [World.cell?, h7_1]
  have c7_1_2 : w7.cell? ⟨w3.heap.size, 2, none⟩ = some (.int .i64 r2) := by simp [World.cell?, h7_1]
  have c7_2_0 : w7.cell? ⟨w6.heap.size, 0, none⟩ = some (.int .i64 r0) := by simp [World.cell?, h7_2]
  have c7_2_1 : w7.cell? ⟨w6.heap.size, 1, none⟩ = some (.int .i64 r1) := by simp [World.cell?, h7_2]
  have c7_2_2 : w7.cell? ⟨w6.heap.size, 2, none⟩ = some (.int .i64 r2) := by simp [World.cell?, h7_2]
  go_wp2_with fail
  refine (eqAddr_same r0 r1 r2 _).mono ?_
  rintro e w8 ⟨rfl, hb8⟩
  have HB8 : Hid (Below w.heap.size w w8) := HB7.out.trans (hb8.mono HB7.out.size)
  clear hb8
  have hkk : (rb != rb) = false := by simp
  go_wp2
  go_ret
  exact ⟨rfl, HB8.out⟩


end Go.Proofs.Ytkpmgklpigihdaa
