/-
  The walks of exact statements, each out of its two contracts.
-/
import Derived.Test.YtfhgbgcdkiiflaaMade
import Derived.Test.YtfhgbgcdkiiflaaCmdW2
namespace Go.Proofs.Ytfhgbgcdkiiflaa
open Go.RowKit

set_option linter.unusedVariables false

set_option maxHeartbeats 2000000 in
theorem exCommandOk_of (p0_0 : Int) (p0_1 : Int) (p0_2 : Int) (p0_3 : Int) (p1_0 : Int) (p1_1 : Int) (p1_2 : Int) (p1_3 : Int) (r : Bool) (w : World)
    (hs : ∀ w, Calls Try.prog 13 #[.agg #[.int .i64 p0_0, .int .i64 p0_1, .int .i64 p0_2, .int .i64 p0_3], .agg #[.int .i64 p1_0, .int .i64 p1_1, .int .i64 p1_2, .int .i64 p1_3]] w (Gives (.bool r) w))
    (hi : ∀ w, Calls Try.prog 16 #[.agg #[.int .i64 p0_0, .int .i64 p0_1, .int .i64 p0_2, .int .i64 p0_3], .agg #[.int .i64 p1_0, .int .i64 p1_1, .int .i64 p1_2, .int .i64 p1_3]] w (Gives (.bool r) w))
    : Calls Try.prog 4 #[.agg #[.int .i64 p0_0, .int .i64 p0_1, .int .i64 p0_2, .int .i64 p0_3], .agg #[.int .i64 p1_0, .int .i64 p1_1, .int .i64 p1_2, .int .i64 p1_3]] w fun e w' => e = .returned (.bool true) ∧ Below w.heap.size w w' := by
  have SPEC := Lib.hid hs
  have IMPL := Lib.hid hi
  clear hs hi
  obtain ⟨w1, hw1⟩ : ∃ w1, ((w.alloc (.cells #[.int .i64 p0_0, .int .i64 p0_1, .int .i64 p0_2, .int .i64 p0_3] 36)).alloc (.cells #[.int .i64 p1_0, .int .i64 p1_1, .int .i64 p1_2, .int .i64 p1_3] 37)) = w1 := ⟨_, rfl⟩
  have HB1 : Hid (Below w.heap.size w w1) := by subst hw1; exact ((Below.refl _ _).alloc (by simp <;> omega) _).alloc (by simp <;> omega) _
  have h1_0 : w1.heap[w.heap.size]? = some (.cells #[.int .i64 p0_0, .int .i64 p0_1, .int .i64 p0_2, .int .i64 p0_3] 36) := by subst hw1; exact heap_alloc2_old _ _ _
  have h1_1 : w1.heap[w.heap.size + 1]? = some (.cells #[.int .i64 p1_0, .int .i64 p1_1, .int .i64 p1_2, .int .i64 p1_3] 37) := by subst hw1; exact heap_alloc2_new _ _ _
  have c1_0_0 : w1.cell? ⟨w.heap.size, 0, none⟩ = some (.int .i64 p0_0) := by simp [World.cell?, h1_0]
  have c1_0_1 : w1.cell? ⟨w.heap.size, 1, none⟩ = some (.int .i64 p0_1) := by simp [World.cell?, h1_0]
  have c1_0_2 : w1.cell? ⟨w.heap.size, 2, none⟩ = some (.int .i64 p0_2) := by simp [World.cell?, h1_0]
  have c1_0_3 : w1.cell? ⟨w.heap.size, 3, none⟩ = some (.int .i64 p0_3) := by simp [World.cell?, h1_0]
  have c1_1_0 : w1.cell? ⟨w.heap.size + 1, 0, none⟩ = some (.int .i64 p1_0) := by simp [World.cell?, h1_1]
  have c1_1_1 : w1.cell? ⟨w.heap.size + 1, 1, none⟩ = some (.int .i64 p1_1) := by simp [World.cell?, h1_1]
  have c1_1_2 : w1.cell? ⟨w.heap.size + 1, 2, none⟩ = some (.int .i64 p1_2) := by simp [World.cell?, h1_1]
  have c1_1_3 : w1.cell? ⟨w.heap.size + 1, 3, none⟩ = some (.int .i64 p1_3) := by simp [World.cell?, h1_1]
  go_enter Try.func4, Try.ntmps4
  have z1_0_0 := fun zz : Later w1 => zz.cell c1_0_0
  have z1_0_1 := fun zz : Later w1 => zz.cell c1_0_1
  have z1_0_2 := fun zz : Later w1 => zz.cell c1_0_2
  have z1_0_3 := fun zz : Later w1 => zz.cell c1_0_3
  have z1_1_0 := fun zz : Later w1 => zz.cell c1_1_0
  have z1_1_1 := fun zz : Later w1 => zz.cell c1_1_1
  have z1_1_2 := fun zz : Later w1 => zz.cell c1_1_2
  have z1_1_3 := fun zz : Later w1 => zz.cell c1_1_3
  go_wp2_with fail
  refine wp_region_later (by kernel_rfl) (by kernel_rfl) ?_
  repeat (go_big_quiet_step (first | (go_at_call 14; exact Gives.later _ (toGeometry_any _ _ _ _ _)) | (go_at_call 15; exact Gives.later _ (toCommand_any _ _ _ _ _)) | (go_at_call 13; exact Gives.later _ (SPEC.out _))))
  refine wpQuiet_nil ?_
  rintro w2 ⟨zz2, hz2⟩
  have hb2 : Below w1.heap.size w1 w2 := hz2 ▸ zz2.ok
  clear hz2 zz2
  have h2_0 := keep_block hb2 h1_0 (lt_of_block h1_0)
  have h2_1 := keep_block hb2 h1_1 (lt_of_block h1_1)
  have HB2 : Hid (Below w.heap.size w w2) := HB1.out.trans (hb2.mono HB1.out.size)
  clear hb2 h1_0 h1_1 c1_0_0 c1_0_1 c1_0_2 c1_0_3 c1_1_0 c1_1_1 c1_1_2 c1_1_3 z1_0_0 z1_0_1 z1_0_2 z1_0_3 z1_1_0 z1_1_1 z1_1_2 z1_1_3
  have c2_0_0 : w2.cell? ⟨w.heap.size, 0, none⟩ = some (.int .i64 p0_0) := by simp [World.cell?, h2_0]
  have c2_0_1 : w2.cell? ⟨w.heap.size, 1, none⟩ = some (.int .i64 p0_1) := by simp [World.cell?, h2_0]
  have c2_0_2 : w2.cell? ⟨w.heap.size, 2, none⟩ = some (.int .i64 p0_2) := by simp [World.cell?, h2_0]
  have c2_0_3 : w2.cell? ⟨w.heap.size, 3, none⟩ = some (.int .i64 p0_3) := by simp [World.cell?, h2_0]
  have c2_1_0 : w2.cell? ⟨w.heap.size + 1, 0, none⟩ = some (.int .i64 p1_0) := by simp [World.cell?, h2_1]
  have c2_1_1 : w2.cell? ⟨w.heap.size + 1, 1, none⟩ = some (.int .i64 p1_1) := by simp [World.cell?, h2_1]
  have c2_1_2 : w2.cell? ⟨w.heap.size + 1, 2, none⟩ = some (.int .i64 p1_2) := by simp [World.cell?, h2_1]
  have c2_1_3 : w2.cell? ⟨w.heap.size + 1, 3, none⟩ = some (.int .i64 p1_3) := by simp [World.cell?, h2_1]
  have z2_0_0 := fun zz : Later w2 => zz.cell c2_0_0
  have z2_0_1 := fun zz : Later w2 => zz.cell c2_0_1
  have z2_0_2 := fun zz : Later w2 => zz.cell c2_0_2
  have z2_0_3 := fun zz : Later w2 => zz.cell c2_0_3
  have z2_1_0 := fun zz : Later w2 => zz.cell c2_1_0
  have z2_1_1 := fun zz : Later w2 => zz.cell c2_1_1
  have z2_1_2 := fun zz : Later w2 => zz.cell c2_1_2
  have z2_1_3 := fun zz : Later w2 => zz.cell c2_1_3
  go_wp2_with fail
  refine wp_region_later (by kernel_rfl) (by kernel_rfl) ?_
  repeat (go_big_quiet_step (first | (go_at_call 14; exact Gives.later _ (toGeometry_any _ _ _ _ _)) | (go_at_call 15; exact Gives.later _ (toCommand_any _ _ _ _ _)) | (go_at_call 16; exact Gives.later _ (IMPL.out _))))
  refine wpQuiet_nil ?_
  rintro w3 ⟨zz3, hz3⟩
  have hb3 : Below w2.heap.size w2 w3 := hz3 ▸ zz3.ok
  clear hz3 zz3
  have h3_0 := keep_block hb3 h2_0 (lt_of_block h2_0)
  have h3_1 := keep_block hb3 h2_1 (lt_of_block h2_1)
  have HB3 : Hid (Below w.heap.size w w3) := HB2.out.trans (hb3.mono HB2.out.size)
  clear hb3 h2_0 h2_1 c2_0_0 c2_0_1 c2_0_2 c2_0_3 c2_1_0 c2_1_1 c2_1_2 c2_1_3 z2_0_0 z2_0_1 z2_0_2 z2_0_3 z2_1_0 z2_1_1 z2_1_2 z2_1_3
  have c3_0_0 : w3.cell? ⟨w.heap.size, 0, none⟩ = some (.int .i64 p0_0) := by simp [World.cell?, h3_0]
  have c3_0_1 : w3.cell? ⟨w.heap.size, 1, none⟩ = some (.int .i64 p0_1) := by simp [World.cell?, h3_0]
  have c3_0_2 : w3.cell? ⟨w.heap.size, 2, none⟩ = some (.int .i64 p0_2) := by simp [World.cell?, h3_0]
  have c3_0_3 : w3.cell? ⟨w.heap.size, 3, none⟩ = some (.int .i64 p0_3) := by simp [World.cell?, h3_0]
  have c3_1_0 : w3.cell? ⟨w.heap.size + 1, 0, none⟩ = some (.int .i64 p1_0) := by simp [World.cell?, h3_1]
  have c3_1_1 : w3.cell? ⟨w.heap.size + 1, 1, none⟩ = some (.int .i64 p1_1) := by simp [World.cell?, h3_1]
  have c3_1_2 : w3.cell? ⟨w.heap.size + 1, 2, none⟩ = some (.int .i64 p1_2) := by simp [World.cell?, h3_1]
  have c3_1_3 : w3.cell? ⟨w.heap.size + 1, 3, none⟩ = some (.int .i64 p1_3) := by simp [World.cell?, h3_1]
  have hrr : (r != r) = false := by simp
  go_wp2
  go_ret
  exact ⟨rfl, HB3.out⟩

set_option maxHeartbeats 2000000 in
theorem exPackCommand_of (p0_0 : Int) (p0_1 : Int) (p0_2 : Int) (p0_3 : Int) (r : Int) (w : World)
    (hs : ∀ w, Calls Try.prog 17 #[.agg #[.int .i64 p0_0, .int .i64 p0_1, .int .i64 p0_2, .int .i64 p0_3]] w (Gives (.int .i64 r) w))
    (hi : ∀ w, Calls Try.prog 18 #[.agg #[.int .i64 p0_0, .int .i64 p0_1, .int .i64 p0_2, .int .i64 p0_3]] w (Gives (.int .i64 r) w))
    : Calls Try.prog 5 #[.agg #[.int .i64 p0_0, .int .i64 p0_1, .int .i64 p0_2, .int .i64 p0_3]] w fun e w' => e = .returned (.bool true) ∧ Below w.heap.size w w' := by
  have SPEC := Lib.hid hs
  have IMPL := Lib.hid hi
  clear hs hi
  obtain ⟨w1, hw1⟩ : ∃ w1, (w.alloc (.cells #[.int .i64 p0_0, .int .i64 p0_1, .int .i64 p0_2, .int .i64 p0_3] 37)) = w1 := ⟨_, rfl⟩
  have HB1 : Hid (Below w.heap.size w w1) := by subst hw1; exact (Below.refl _ _).alloc (by simp <;> omega) _
  have h1_0 : w1.heap[w.heap.size]? = some (.cells #[.int .i64 p0_0, .int .i64 p0_1, .int .i64 p0_2, .int .i64 p0_3] 37) := by subst hw1; exact heap_alloc_new _ _
  have c1_0_0 : w1.cell? ⟨w.heap.size, 0, none⟩ = some (.int .i64 p0_0) := by simp [World.cell?, h1_0]
  have c1_0_1 : w1.cell? ⟨w.heap.size, 1, none⟩ = some (.int .i64 p0_1) := by simp [World.cell?, h1_0]
  have c1_0_2 : w1.cell? ⟨w.heap.size, 2, none⟩ = some (.int .i64 p0_2) := by simp [World.cell?, h1_0]
  have c1_0_3 : w1.cell? ⟨w.heap.size, 3, none⟩ = some (.int .i64 p0_3) := by simp [World.cell?, h1_0]
  go_enter Try.func5, Try.ntmps5
  go_wp2_with fail
  refine (toCommand_any _ _ _ _ _).mono ?_
  rintro e w2 ⟨rfl, hb2⟩
  have h2_0 := keep_block hb2 h1_0 (lt_of_block h1_0)
  have HB2 : Hid (Below w.heap.size w w2) := HB1.out.trans (hb2.mono HB1.out.size)
  clear hb2 h1_0 c1_0_0 c1_0_1 c1_0_2 c1_0_3
  have c2_0_0 : w2.cell? ⟨w.heap.size, 0, none⟩ = some (.int .i64 p0_0) := by simp [World.cell?, h2_0]
  have c2_0_1 : w2.cell? ⟨w.heap.size, 1, none⟩ = some (.int .i64 p0_1) := by simp [World.cell?, h2_0]
  have c2_0_2 : w2.cell? ⟨w.heap.size, 2, none⟩ = some (.int .i64 p0_2) := by simp [World.cell?, h2_0]
  have c2_0_3 : w2.cell? ⟨w.heap.size, 3, none⟩ = some (.int .i64 p0_3) := by simp [World.cell?, h2_0]
  go_wp2_with fail
  refine (SPEC.out _).mono ?_
  rintro e w3 ⟨rfl, hb3⟩
  have h3_0 := keep_block hb3 h2_0 (lt_of_block h2_0)
  have HB3 : Hid (Below w.heap.size w w3) := HB2.out.trans (hb3.mono HB2.out.size)
  clear hb3 h2_0 c2_0_0 c2_0_1 c2_0_2 c2_0_3
  have c3_0_0 : w3.cell? ⟨w.heap.size, 0, none⟩ = some (.int .i64 p0_0) := by simp [World.cell?, h3_0]
  have c3_0_1 : w3.cell? ⟨w.heap.size, 1, none⟩ = some (.int .i64 p0_1) := by simp [World.cell?, h3_0]
  have c3_0_2 : w3.cell? ⟨w.heap.size, 2, none⟩ = some (.int .i64 p0_2) := by simp [World.cell?, h3_0]
  have c3_0_3 : w3.cell? ⟨w.heap.size, 3, none⟩ = some (.int .i64 p0_3) := by simp [World.cell?, h3_0]
  go_wp2_with fail
  refine (toCommand_any _ _ _ _ _).mono ?_
  rintro e w4 ⟨rfl, hb4⟩
  have h4_0 := keep_block hb4 h3_0 (lt_of_block h3_0)
  have HB4 : Hid (Below w.heap.size w w4) := HB3.out.trans (hb4.mono HB3.out.size)
  clear hb4 h3_0 c3_0_0 c3_0_1 c3_0_2 c3_0_3
  have c4_0_0 : w4.cell? ⟨w.heap.size, 0, none⟩ = some (.int .i64 p0_0) := by simp [World.cell?, h4_0]
  have c4_0_1 : w4.cell? ⟨w.heap.size, 1, none⟩ = some (.int .i64 p0_1) := by simp [World.cell?, h4_0]
  have c4_0_2 : w4.cell? ⟨w.heap.size, 2, none⟩ = some (.int .i64 p0_2) := by simp [World.cell?, h4_0]
  have c4_0_3 : w4.cell? ⟨w.heap.size, 3, none⟩ = some (.int .i64 p0_3) := by simp [World.cell?, h4_0]
  go_wp2_with fail
  refine (IMPL.out _).mono ?_
  rintro e w5 ⟨rfl, hb5⟩
  have h5_0 := keep_block hb5 h4_0 (lt_of_block h4_0)
  have HB5 : Hid (Below w.heap.size w w5) := HB4.out.trans (hb5.mono HB4.out.size)
  clear hb5 h4_0 c4_0_0 c4_0_1 c4_0_2 c4_0_3
  have c5_0_0 : w5.cell? ⟨w.heap.size, 0, none⟩ = some (.int .i64 p0_0) := by simp [World.cell?, h5_0]
  have c5_0_1 : w5.cell? ⟨w.heap.size, 1, none⟩ = some (.int .i64 p0_1) := by simp [World.cell?, h5_0]
  have c5_0_2 : w5.cell? ⟨w.heap.size, 2, none⟩ = some (.int .i64 p0_2) := by simp [World.cell?, h5_0]
  have c5_0_3 : w5.cell? ⟨w.heap.size, 3, none⟩ = some (.int .i64 p0_3) := by simp [World.cell?, h5_0]
  have hrr : (r != r) = false := by simp
  go_wp2
  go_ret
  exact ⟨rfl, HB5.out⟩

set_option maxHeartbeats 2000000 in
theorem exFrameCommand_of (p0_0 : Int) (p0_1 : Int) (p0_2 : Int) (p0_3 : Int) (r : Int) (w : World)
    (hs : ∀ w, Calls Try.prog 11 #[.agg #[.int .i64 p0_0, .int .i64 p0_1, .int .i64 p0_2, .int .i64 p0_3]] w (Gives (.int .i64 r) w))
    (hi : ∀ w, Calls Try.prog 19 #[.agg #[.int .i64 p0_0, .int .i64 p0_1, .int .i64 p0_2, .int .i64 p0_3]] w (Gives (.int .i64 r) w))
    : Calls Try.prog 6 #[.agg #[.int .i64 p0_0, .int .i64 p0_1, .int .i64 p0_2, .int .i64 p0_3]] w fun e w' => e = .returned (.bool true) ∧ Below w.heap.size w w' := by
  have SPEC := Lib.hid hs
  have IMPL := Lib.hid hi
  clear hs hi
  obtain ⟨w1, hw1⟩ : ∃ w1, (w.alloc (.cells #[.int .i64 p0_0, .int .i64 p0_1, .int .i64 p0_2, .int .i64 p0_3] 37)) = w1 := ⟨_, rfl⟩
  have HB1 : Hid (Below w.heap.size w w1) := by subst hw1; exact (Below.refl _ _).alloc (by simp <;> omega) _
  have h1_0 : w1.heap[w.heap.size]? = some (.cells #[.int .i64 p0_0, .int .i64 p0_1, .int .i64 p0_2, .int .i64 p0_3] 37) := by subst hw1; exact heap_alloc_new _ _
  have c1_0_0 : w1.cell? ⟨w.heap.size, 0, none⟩ = some (.int .i64 p0_0) := by simp [World.cell?, h1_0]
  have c1_0_1 : w1.cell? ⟨w.heap.size, 1, none⟩ = some (.int .i64 p0_1) := by simp [World.cell?, h1_0]
  have c1_0_2 : w1.cell? ⟨w.heap.size, 2, none⟩ = some (.int .i64 p0_2) := by simp [World.cell?, h1_0]
  have c1_0_3 : w1.cell? ⟨w.heap.size, 3, none⟩ = some (.int .i64 p0_3) := by simp [World.cell?, h1_0]
  go_enter Try.func6, Try.ntmps6
  go_wp2_with fail
  refine (toCommand_any _ _ _ _ _).mono ?_
  rintro e w2 ⟨rfl, hb2⟩
  have h2_0 := keep_block hb2 h1_0 (lt_of_block h1_0)
  have HB2 : Hid (Below w.heap.size w w2) := HB1.out.trans (hb2.mono HB1.out.size)
  clear hb2 h1_0 c1_0_0 c1_0_1 c1_0_2 c1_0_3
  have c2_0_0 : w2.cell? ⟨w.heap.size, 0, none⟩ = some (.int .i64 p0_0) := by simp [World.cell?, h2_0]
  have c2_0_1 : w2.cell? ⟨w.heap.size, 1, none⟩ = some (.int .i64 p0_1) := by simp [World.cell?, h2_0]
  have c2_0_2 : w2.cell? ⟨w.heap.size, 2, none⟩ = some (.int .i64 p0_2) := by simp [World.cell?, h2_0]
  have c2_0_3 : w2.cell? ⟨w.heap.size, 3, none⟩ = some (.int .i64 p0_3) := by simp [World.cell?, h2_0]
  go_wp2_with fail
  refine (SPEC.out _).mono ?_
  rintro e w3 ⟨rfl, hb3⟩
  have h3_0 := keep_block hb3 h2_0 (lt_of_block h2_0)
  have HB3 : Hid (Below w.heap.size w w3) := HB2.out.trans (hb3.mono HB2.out.size)
  clear hb3 h2_0 c2_0_0 c2_0_1 c2_0_2 c2_0_3
  have c3_0_0 : w3.cell? ⟨w.heap.size, 0, none⟩ = some (.int .i64 p0_0) := by simp [World.cell?, h3_0]
  have c3_0_1 : w3.cell? ⟨w.heap.size, 1, none⟩ = some (.int .i64 p0_1) := by simp [World.cell?, h3_0]
  have c3_0_2 : w3.cell? ⟨w.heap.size, 2, none⟩ = some (.int .i64 p0_2) := by simp [World.cell?, h3_0]
  have c3_0_3 : w3.cell? ⟨w.heap.size, 3, none⟩ = some (.int .i64 p0_3) := by simp [World.cell?, h3_0]
  go_wp2_with fail
  refine (toCommand_any _ _ _ _ _).mono ?_
  rintro e w4 ⟨rfl, hb4⟩
  have h4_0 := keep_block hb4 h3_0 (lt_of_block h3_0)
  have HB4 : Hid (Below w.heap.size w w4) := HB3.out.trans (hb4.mono HB3.out.size)
  clear hb4 h3_0 c3_0_0 c3_0_1 c3_0_2 c3_0_3
  have c4_0_0 : w4.cell? ⟨w.heap.size, 0, none⟩ = some (.int .i64 p0_0) := by simp [World.cell?, h4_0]
  have c4_0_1 : w4.cell? ⟨w.heap.size, 1, none⟩ = some (.int .i64 p0_1) := by simp [World.cell?, h4_0]
  have c4_0_2 : w4.cell? ⟨w.heap.size, 2, none⟩ = some (.int .i64 p0_2) := by simp [World.cell?, h4_0]
  have c4_0_3 : w4.cell? ⟨w.heap.size, 3, none⟩ = some (.int .i64 p0_3) := by simp [World.cell?, h4_0]
  go_wp2_with fail
  refine (IMPL.out _).mono ?_
  rintro e w5 ⟨rfl, hb5⟩
  have h5_0 := keep_block hb5 h4_0 (lt_of_block h4_0)
  have HB5 : Hid (Below w.heap.size w w5) := HB4.out.trans (hb5.mono HB4.out.size)
  clear hb5 h4_0 c4_0_0 c4_0_1 c4_0_2 c4_0_3
  have c5_0_0 : w5.cell? ⟨w.heap.size, 0, none⟩ = some (.int .i64 p0_0) := by simp [World.cell?, h5_0]
  have c5_0_1 : w5.cell? ⟨w.heap.size, 1, none⟩ = some (.int .i64 p0_1) := by simp [World.cell?, h5_0]
  have c5_0_2 : w5.cell? ⟨w.heap.size, 2, none⟩ = some (.int .i64 p0_2) := by simp [World.cell?, h5_0]
  have c5_0_3 : w5.cell? ⟨w.heap.size, 3, none⟩ = some (.int .i64 p0_3) := by simp [World.cell?, h5_0]
  have hrr : (r != r) = false := by simp
  go_wp2
  go_ret
  exact ⟨rfl, HB5.out⟩



set_option maxHeartbeats 2000000 in
theorem exReadFrame_of (n r0 r1 r2 r3 : Int) (rb : Bool) (w : World)
    (hs : ∀ w, Calls Try.prog 20 #[.int .i64 n] w (Gives (.tuple #[.agg #[.int .i64 r0, .int .i64 r1, .int .i64 r2, .int .i64 r3], .bool rb]) w))
    (hi : ∀ w, Calls Try.prog 12 #[.int .i64 n] w (Gives (.tuple #[.agg #[.int .i64 r0, .int .i64 r1, .int .i64 r2, .int .i64 r3], .bool rb]) w)) :
    Calls Try.prog 7 #[.int .i64 n] w fun e w' => e = .returned (.bool true) ∧ Below w.heap.size w w' := by
  have SPEC := Lib.hid hs
  have IMPL := Lib.hid hi
  clear hs hi
  go_enter Try.func7, Try.ntmps7
  go_wp2_with fail
  refine (SPEC.out _).mono ?_
  rintro e w1 ⟨rfl, hb1⟩
  have HB1 := Lib.hid hb1
  obtain ⟨w2, hw2⟩ : ∃ u, w1.alloc (.cells #[.int .i64 r0, .int .i64 r1, .int .i64 r2, .int .i64 r3] 27) = u := ⟨_, rfl⟩
  have HB2 : Hid (Below w.heap.size w w2) := by subst hw2; exact HB1.out.alloc HB1.out.size _
  have p2 : w2.heap[w1.heap.size]? = some (.cells #[.int .i64 r0, .int .i64 r1, .int .i64 r2, .int .i64 r3] 27) := by subst hw2; exact heap_alloc_new _ _
  obtain ⟨pb, hpb⟩ : ∃ u, w1.heap.size = u := ⟨_, rfl⟩
  rw [hpb] at p2
  clear hb1 HB1
  go_wp2_with fail
  clear hw2
  (try simp only [hpb])
  clear hpb
  refine (IMPL.out _).mono ?_
  rintro e w3 ⟨rfl, hb3⟩
  have p3 := keep_block hb3 p2 (lt_of_block p2)
  have HB3 : Hid (Below w.heap.size w w3) := HB2.out.trans (hb3.mono HB2.out.size)
  obtain ⟨w4, hw4⟩ : ∃ u, w3.alloc (.cells #[.int .i64 r0, .int .i64 r1, .int .i64 r2, .int .i64 r3] 27) = u := ⟨_, rfl⟩
  have hb4 : Below w3.heap.size w3 w4 := by rw [← hw4]; exact (Below.refl _ _).alloc (Nat.le_refl _) _
  have q4 : w4.heap[w3.heap.size]? = some (.cells #[.int .i64 r0, .int .i64 r1, .int .i64 r2, .int .i64 r3] 27) := by rw [← hw4]; exact heap_alloc_new _ _
  have p4 := keep_block hb4 p3 (lt_of_block p3)
  have HB4 : Hid (Below w.heap.size w w4) := HB3.out.trans (hb4.mono HB3.out.size)
  obtain ⟨qb, hqb⟩ : ∃ u, w3.heap.size = u := ⟨_, rfl⟩
  rw [hqb] at q4
  obtain ⟨c0, c1, c2, c3⟩ := cells4 p4
  obtain ⟨d0, d1, d2, d3⟩ := cells4 q4
  have tbb : (rb != rb) = false := by simp
  clear hb3 hb4 p2 p3 HB2 HB3
  go_wp2_with fail
  clear hw4
  (try simp only [hqb])
  refine (eqCommand_same _ _ _ _ _).mono ?_
  rintro e w5 ⟨rfl, hb5⟩
  have HB5 : Hid (Below w.heap.size w w5) := HB4.out.trans (hb5.mono HB4.out.size)
  clear hb5
  go_wp2
  go_ret
  exact ⟨rfl, HB5.out⟩


end Go.Proofs.Ytfhgbgcdkiiflaa
