/-
  The walks of exact statements, each out of its two contracts.
-/
import Derived.Test.YtdgaggcjimafbaaMade
import Derived.Test.YtdgaggcjimafbaaGeoW
namespace Go.Proofs.Ytdgaggcjimafbaa
open Go.RowKit

set_option linter.unusedVariables false

set_option maxHeartbeats 2000000 in
theorem exMappingOk_of (p0_0 : Int) (p0_1 : Bool) (r : Bool) (w : World)
    (hs : ∀ w, Calls Try.prog 19 #[.agg #[.int .i64 p0_0, .bool p0_1]] w (Gives (.bool r) w))
    (hi : ∀ w, Calls Try.prog 16 #[.agg #[.int .i64 p0_0, .bool p0_1]] w (Gives (.bool r) w))
    : Calls Try.prog 5 #[.agg #[.int .i64 p0_0, .bool p0_1]] w fun e w' => e = .returned (.bool true) ∧ Below w.heap.size w w' := by
  have SPEC := Lib.hid hs
  have IMPL := Lib.hid hi
  clear hs hi
  obtain ⟨w1, hw1⟩ : ∃ w1, (w.alloc (.cells #[.int .i64 p0_0, .bool p0_1] 44)) = w1 := ⟨_, rfl⟩
  have HB1 : Hid (Below w.heap.size w w1) := by subst hw1; exact (Below.refl _ _).alloc (by simp <;> omega) _
  have h1_0 : w1.heap[w.heap.size]? = some (.cells #[.int .i64 p0_0, .bool p0_1] 44) := by subst hw1; exact heap_alloc_new _ _
  have c1_0_0 : w1.cell? ⟨w.heap.size, 0, none⟩ = some (.int .i64 p0_0) := by simp [World.cell?, h1_0]
  have c1_0_1 : w1.cell? ⟨w.heap.size, 1, none⟩ = some (.bool p0_1) := by simp [World.cell?, h1_0]
  go_enter Try.func5, Try.ntmps5
  go_wp2_with fail
  refine (toMapping_any _ _ _).mono ?_
  rintro e w2 ⟨rfl, hb2⟩
  have h2_0 := keep_block hb2 h1_0 (lt_of_block h1_0)
  have HB2 : Hid (Below w.heap.size w w2) := HB1.out.trans (hb2.mono HB1.out.size)
  clear hb2 h1_0 c1_0_0 c1_0_1
  have c2_0_0 : w2.cell? ⟨w.heap.size, 0, none⟩ = some (.int .i64 p0_0) := by simp [World.cell?, h2_0]
  have c2_0_1 : w2.cell? ⟨w.heap.size, 1, none⟩ = some (.bool p0_1) := by simp [World.cell?, h2_0]
  go_wp2_with fail
  refine (SPEC.out _).mono ?_
  rintro e w3 ⟨rfl, hb3⟩
  have h3_0 := keep_block hb3 h2_0 (lt_of_block h2_0)
  have HB3 : Hid (Below w.heap.size w w3) := HB2.out.trans (hb3.mono HB2.out.size)
  clear hb3 h2_0 c2_0_0 c2_0_1
  have c3_0_0 : w3.cell? ⟨w.heap.size, 0, none⟩ = some (.int .i64 p0_0) := by simp [World.cell?, h3_0]
  have c3_0_1 : w3.cell? ⟨w.heap.size, 1, none⟩ = some (.bool p0_1) := by simp [World.cell?, h3_0]
  go_wp2_with fail
  refine (toMapping_any _ _ _).mono ?_
  rintro e w4 ⟨rfl, hb4⟩
  have h4_0 := keep_block hb4 h3_0 (lt_of_block h3_0)
  have HB4 : Hid (Below w.heap.size w w4) := HB3.out.trans (hb4.mono HB3.out.size)
  clear hb4 h3_0 c3_0_0 c3_0_1
  have c4_0_0 : w4.cell? ⟨w.heap.size, 0, none⟩ = some (.int .i64 p0_0) := by simp [World.cell?, h4_0]
  have c4_0_1 : w4.cell? ⟨w.heap.size, 1, none⟩ = some (.bool p0_1) := by simp [World.cell?, h4_0]
  go_wp2_with fail
  refine (IMPL.out _).mono ?_
  rintro e w5 ⟨rfl, hb5⟩
  have h5_0 := keep_block hb5 h4_0 (lt_of_block h4_0)
  have HB5 : Hid (Below w.heap.size w w5) := HB4.out.trans (hb5.mono HB4.out.size)
  clear hb5 h4_0 c4_0_0 c4_0_1
  have c5_0_0 : w5.cell? ⟨w.heap.size, 0, none⟩ = some (.int .i64 p0_0) := by simp [World.cell?, h5_0]
  have c5_0_1 : w5.cell? ⟨w.heap.size, 1, none⟩ = some (.bool p0_1) := by simp [World.cell?, h5_0]
  have hrr : (r != r) = false := by simp
  go_wp2
  go_ret
  exact ⟨rfl, HB5.out⟩

set_option maxHeartbeats 2000000 in
theorem exMapLine_of (p0_0 : Int) (p0_1 : Int) (p0_2 : Int) (p0_3 : Int) (p1_0 : Int) (p1_1 : Bool) (p2 : Int) (r0 : Int) (r1 : Int) (r2 : Int) (rb : Bool) (w : World)
    (hs : ∀ w, Calls Try.prog 21 #[.agg #[.int .i64 p0_0, .int .i64 p0_1, .int .i64 p0_2, .int .i64 p0_3], .agg #[.int .i64 p1_0, .bool p1_1], .int .i64 p2] w (Gives (.tuple #[.agg #[.int .i64 r0, .int .i64 r1, .int .i64 r2], .bool rb]) w))
    (hi : ∀ w, Calls Try.prog 13 #[.agg #[.int .i64 p0_0, .int .i64 p0_1, .int .i64 p0_2, .int .i64 p0_3], .agg #[.int .i64 p1_0, .bool p1_1], .int .i64 p2] w (Gives (.tuple #[.agg #[.int .i64 r0, .int .i64 r1, .int .i64 r2], .bool rb]) w))
    : Calls Try.prog 6 #[.agg #[.int .i64 p0_0, .int .i64 p0_1, .int .i64 p0_2, .int .i64 p0_3], .agg #[.int .i64 p1_0, .bool p1_1], .int .i64 p2] w fun e w' => e = .returned (.bool true) ∧ Below w.heap.size w w' := by
  have SPEC := Lib.hid hs
  have IMPL := Lib.hid hi
  clear hs hi
  obtain ⟨w1, hw1⟩ : ∃ w1, ((w.alloc (.cells #[.int .i64 p0_0, .int .i64 p0_1, .int .i64 p0_2, .int .i64 p0_3] 47)).alloc (.cells #[.int .i64 p1_0, .bool p1_1] 44)) = w1 := ⟨_, rfl⟩
  have HB1 : Hid (Below w.heap.size w w1) := by subst hw1; exact ((Below.refl _ _).alloc (by simp <;> omega) _).alloc (by simp <;> omega) _
  have h1_0 : w1.heap[w.heap.size]? = some (.cells #[.int .i64 p0_0, .int .i64 p0_1, .int .i64 p0_2, .int .i64 p0_3] 47) := by subst hw1; exact heap_alloc2_old _ _ _
  have h1_1 : w1.heap[w.heap.size + 1]? = some (.cells #[.int .i64 p1_0, .bool p1_1] 44) := by subst hw1; exact heap_alloc2_new _ _ _
  have c1_0_0 : w1.cell? ⟨w.heap.size, 0, none⟩ = some (.int .i64 p0_0) := by simp [World.cell?, h1_0]
  have c1_0_1 : w1.cell? ⟨w.heap.size, 1, none⟩ = some (.int .i64 p0_1) := by simp [World.cell?, h1_0]
  have c1_0_2 : w1.cell? ⟨w.heap.size, 2, none⟩ = some (.int .i64 p0_2) := by simp [World.cell?, h1_0]
  have c1_0_3 : w1.cell? ⟨w.heap.size, 3, none⟩ = some (.int .i64 p0_3) := by simp [World.cell?, h1_0]
  have c1_1_0 : w1.cell? ⟨w.heap.size + 1, 0, none⟩ = some (.int .i64 p1_0) := by simp [World.cell?, h1_1]
  have c1_1_1 : w1.cell? ⟨w.heap.size + 1, 1, none⟩ = some (.bool p1_1) := by simp [World.cell?, h1_1]
  go_enter Try.func6, Try.ntmps6
  go_wp2_with fail
  refine wp_region_made (A := ?A1) (cells := ?cells1) 9 (by kernel_rfl) (by kernel_rfl) rfl rfl ?walk1 ?hx1 (by decide) ?size1 ?alloc1 (zero := #[.int .i64 0, .int .i64 0, .int .i64 0]) ?info1 ?ho1 ?hone1 ?rest1
  case walk1 =>
    intro F hF hN
    have z1_0_0 := fun zz : LaterF w1 F => zz.cell c1_0_0
    have z1_0_1 := fun zz : LaterF w1 F => zz.cell c1_0_1
    have z1_0_2 := fun zz : LaterF w1 F => zz.cell c1_0_2
    have z1_0_3 := fun zz : LaterF w1 F => zz.cell c1_0_3
    have z1_1_0 := fun zz : LaterF w1 F => zz.cell c1_1_0
    have z1_1_1 := fun zz : LaterF w1 F => zz.cell c1_1_1
    simp only [List.take_succ_cons, List.take_zero]
    repeat (go_big_quiet_step (first | (go_at_call 22; exact Gives.laterF hF _ (toGeometry_any _ _ _ _ _)) | (go_at_call 20; exact Gives.laterF hF _ (toMapping_any _ _ _)) | (go_at_call 21; exact Gives.laterF hF _ (SPEC.out _))))
    refine wpQuiet_nil ?_
    exact rfl
  case hx1 => rfl
  case size1 => simp
  case ho1 => rfl
  case hone1 => simp [Value.oneCell']
  case info1 => kernel_rfl
  case alloc1 =>
    intro a w K hK
    go_simp
    exact hK
  case rest1 =>
    intro g1 w2 hb2 hg1 hr2
    simp only [List.drop_succ_cons, List.drop_zero, Act.put, List.setIfInBounds_toArray, List.set_cons_zero, List.set_cons_succ]
    have h2_0 := keep_block hb2 h1_0 (lt_of_block h1_0)
    have h2_1 := keep_block hb2 h1_1 (lt_of_block h1_1)
    have HB2 : Hid (Below w.heap.size w w2) := HB1.out.trans (hb2.mono HB1.out.size)
    have h2_2 := hr2
    clear hb2 hr2 h1_0 h1_1 c1_0_0 c1_0_1 c1_0_2 c1_0_3 c1_1_0 c1_1_1
    have c2_0_0 : w2.cell? ⟨w.heap.size, 0, none⟩ = some (.int .i64 p0_0) := by simp [World.cell?, h2_0]
    have c2_0_1 : w2.cell? ⟨w.heap.size, 1, none⟩ = some (.int .i64 p0_1) := by simp [World.cell?, h2_0]
    have c2_0_2 : w2.cell? ⟨w.heap.size, 2, none⟩ = some (.int .i64 p0_2) := by simp [World.cell?, h2_0]
    have c2_0_3 : w2.cell? ⟨w.heap.size, 3, none⟩ = some (.int .i64 p0_3) := by simp [World.cell?, h2_0]
    have c2_1_0 : w2.cell? ⟨w.heap.size + 1, 0, none⟩ = some (.int .i64 p1_0) := by simp [World.cell?, h2_1]
    have c2_1_1 : w2.cell? ⟨w.heap.size + 1, 1, none⟩ = some (.bool p1_1) := by simp [World.cell?, h2_1]
    have c2_2_0 : w2.cell? ⟨g1, 0, none⟩ = some (.int .i64 r0) := by simp [World.cell?, h2_2]
    have c2_2_1 : w2.cell? ⟨g1, 1, none⟩ = some (.int .i64 r1) := by simp [World.cell?, h2_2]
    have c2_2_2 : w2.cell? ⟨g1, 2, none⟩ = some (.int .i64 r2) := by simp [World.cell?, h2_2]
    go_wp2_with fail
    refine wp_region_made (A := ?A2) (cells := ?cells2) 9 (by kernel_rfl) (by kernel_rfl) rfl rfl ?walk2 ?hx2 (by decide) ?size2 ?alloc2 (zero := #[.int .i64 0, .int .i64 0, .int .i64 0]) ?info2 ?ho2 ?hone2 ?rest2
    case walk2 =>
      intro F hF hN
      have z2_0_0 := fun zz : LaterF w2 F => zz.cell c2_0_0
      have z2_0_1 := fun zz : LaterF w2 F => zz.cell c2_0_1
      have z2_0_2 := fun zz : LaterF w2 F => zz.cell c2_0_2
      have z2_0_3 := fun zz : LaterF w2 F => zz.cell c2_0_3
      have z2_1_0 := fun zz : LaterF w2 F => zz.cell c2_1_0
      have z2_1_1 := fun zz : LaterF w2 F => zz.cell c2_1_1
      have z2_2_0 := fun zz : LaterF w2 F => zz.cell c2_2_0
      have z2_2_1 := fun zz : LaterF w2 F => zz.cell c2_2_1
      have z2_2_2 := fun zz : LaterF w2 F => zz.cell c2_2_2
      simp only [List.take_succ_cons, List.take_zero]
      repeat (go_big_quiet_step (first | (go_at_call 22; exact Gives.laterF hF _ (toGeometry_any _ _ _ _ _)) | (go_at_call 20; exact Gives.laterF hF _ (toMapping_any _ _ _)) | (go_at_call 13; exact Gives.laterF hF _ (IMPL.out _))))
      refine wpQuiet_nil ?_
      exact rfl
    case hx2 => rfl
    case size2 => simp
    case ho2 => rfl
    case hone2 => simp [Value.oneCell']
    case info2 => kernel_rfl
    case alloc2 =>
      intro a w K hK
      go_simp
      exact hK
    case rest2 =>
      intro g2 w3 hb3 hg2 hr3
      simp only [List.drop_succ_cons, List.drop_zero, Act.put, List.setIfInBounds_toArray, List.set_cons_zero, List.set_cons_succ]
      have h3_0 := keep_block hb3 h2_0 (lt_of_block h2_0)
      have h3_1 := keep_block hb3 h2_1 (lt_of_block h2_1)
      have h3_2 := keep_block hb3 h2_2 (lt_of_block h2_2)
      have HB3 : Hid (Below w.heap.size w w3) := HB2.out.trans (hb3.mono HB2.out.size)
      have h3_3 := hr3
      clear hb3 hr3 h2_0 h2_1 h2_2 c2_0_0 c2_0_1 c2_0_2 c2_0_3 c2_1_0 c2_1_1 c2_2_0 c2_2_1 c2_2_2
      have c3_0_0 : w3.cell? ⟨w.heap.size, 0, none⟩ = some (.int .i64 p0_0) := by simp [World.cell?, h3_0]
      have c3_0_1 : w3.cell? ⟨w.heap.size, 1, none⟩ = some (.int .i64 p0_1) := by simp [World.cell?, h3_0]
      have c3_0_2 : w3.cell? ⟨w.heap.size, 2, none⟩ = some (.int .i64 p0_2) := by simp [World.cell?, h3_0]
      have c3_0_3 : w3.cell? ⟨w.heap.size, 3, none⟩ = some (.int .i64 p0_3) := by simp [World.cell?, h3_0]
      have c3_1_0 : w3.cell? ⟨w.heap.size + 1, 0, none⟩ = some (.int .i64 p1_0) := by simp [World.cell?, h3_1]
      have c3_1_1 : w3.cell? ⟨w.heap.size + 1, 1, none⟩ = some (.bool p1_1) := by simp [World.cell?, h3_1]
      have c3_2_0 : w3.cell? ⟨g1, 0, none⟩ = some (.int .i64 r0) := by simp [World.cell?, h3_2]
      have c3_2_1 : w3.cell? ⟨g1, 1, none⟩ = some (.int .i64 r1) := by simp [World.cell?, h3_2]
      have c3_2_2 : w3.cell? ⟨g1, 2, none⟩ = some (.int .i64 r2) := by simp [World.cell?, h3_2]
      have c3_3_0 : w3.cell? ⟨g2, 0, none⟩ = some (.int .i64 r0) := by simp [World.cell?, h3_3]
      have c3_3_1 : w3.cell? ⟨g2, 1, none⟩ = some (.int .i64 r1) := by simp [World.cell?, h3_3]
      have c3_3_2 : w3.cell? ⟨g2, 2, none⟩ = some (.int .i64 r2) := by simp [World.cell?, h3_3]
      go_wp2_with fail
      refine (eqAddr_same r0 r1 r2 _).mono ?_
      rintro e w4 ⟨rfl, hb4⟩
      have HB4 : Hid (Below w.heap.size w w4) := HB3.out.trans (hb4.mono HB3.out.size)
      clear hb4
      have hkk : (rb != rb) = false := by simp
      go_wp2
      go_ret
      exact ⟨rfl, HB4.out⟩

set_option maxHeartbeats 2000000 in
theorem exLineOf_of (p0_0 : Int) (p0_1 : Int) (p0_2 : Int) (p0_3 : Int) (p1_0 : Int) (p1_1 : Bool) (p2_0 : Int) (p2_1 : Int) (p2_2 : Int) (r : Int) (w : World)
    (hs : ∀ w, Calls Try.prog 24 #[.agg #[.int .i64 p0_0, .int .i64 p0_1, .int .i64 p0_2, .int .i64 p0_3], .agg #[.int .i64 p1_0, .bool p1_1], .agg #[.int .i64 p2_0, .int .i64 p2_1, .int .i64 p2_2]] w (Gives (.int .i64 r) w))
    (hi : ∀ w, Calls Try.prog 15 #[.agg #[.int .i64 p0_0, .int .i64 p0_1, .int .i64 p0_2, .int .i64 p0_3], .agg #[.int .i64 p1_0, .bool p1_1], .agg #[.int .i64 p2_0, .int .i64 p2_1, .int .i64 p2_2]] w (Gives (.int .i64 r) w))
    : Calls Try.prog 7 #[.agg #[.int .i64 p0_0, .int .i64 p0_1, .int .i64 p0_2, .int .i64 p0_3], .agg #[.int .i64 p1_0, .bool p1_1], .agg #[.int .i64 p2_0, .int .i64 p2_1, .int .i64 p2_2]] w fun e w' => e = .returned (.bool true) ∧ Below w.heap.size w w' := by
  have SPEC := Lib.hid hs
  have IMPL := Lib.hid hi
  clear hs hi
  obtain ⟨w1, hw1⟩ : ∃ w1, (((w.alloc (.cells #[.int .i64 p0_0, .int .i64 p0_1, .int .i64 p0_2, .int .i64 p0_3] 47)).alloc (.cells #[.int .i64 p1_0, .bool p1_1] 44)).alloc (.cells #[.int .i64 p2_0, .int .i64 p2_1, .int .i64 p2_2] 51)) = w1 := ⟨_, rfl⟩
  have HB1 : Hid (Below w.heap.size w w1) := by subst hw1; exact (((Below.refl _ _).alloc (by simp <;> omega) _).alloc (by simp <;> omega) _).alloc (by simp <;> omega) _
  have h1_0 : w1.heap[w.heap.size]? = some (.cells #[.int .i64 p0_0, .int .i64 p0_1, .int .i64 p0_2, .int .i64 p0_3] 47) := by subst hw1; exact box3_0 _ _ _ _
  have h1_1 : w1.heap[w.heap.size + 1]? = some (.cells #[.int .i64 p1_0, .bool p1_1] 44) := by subst hw1; exact box3_1 _ _ _ _
  have h1_2 : w1.heap[w.heap.size + 1 + 1]? = some (.cells #[.int .i64 p2_0, .int .i64 p2_1, .int .i64 p2_2] 51) := by subst hw1; exact box3_2 _ _ _ _
  have c1_0_0 : w1.cell? ⟨w.heap.size, 0, none⟩ = some (.int .i64 p0_0) := by simp [World.cell?, h1_0]
  have c1_0_1 : w1.cell? ⟨w.heap.size, 1, none⟩ = some (.int .i64 p0_1) := by simp [World.cell?, h1_0]
  have c1_0_2 : w1.cell? ⟨w.heap.size, 2, none⟩ = some (.int .i64 p0_2) := by simp [World.cell?, h1_0]
  have c1_0_3 : w1.cell? ⟨w.heap.size, 3, none⟩ = some (.int .i64 p0_3) := by simp [World.cell?, h1_0]
  have c1_1_0 : w1.cell? ⟨w.heap.size + 1, 0, none⟩ = some (.int .i64 p1_0) := by simp [World.cell?, h1_1]
  have c1_1_1 : w1.cell? ⟨w.heap.size + 1, 1, none⟩ = some (.bool p1_1) := by simp [World.cell?, h1_1]
  have c1_2_0 : w1.cell? ⟨w.heap.size + 1 + 1, 0, none⟩ = some (.int .i64 p2_0) := by simp [World.cell?, h1_2]
  have c1_2_1 : w1.cell? ⟨w.heap.size + 1 + 1, 1, none⟩ = some (.int .i64 p2_1) := by simp [World.cell?, h1_2]
  have c1_2_2 : w1.cell? ⟨w.heap.size + 1 + 1, 2, none⟩ = some (.int .i64 p2_2) := by simp [World.cell?, h1_2]
  go_enter Try.func7, Try.ntmps7
  have z1_0_0 := fun zz : Later w1 => zz.cell c1_0_0
  have z1_0_1 := fun zz : Later w1 => zz.cell c1_0_1
  have z1_0_2 := fun zz : Later w1 => zz.cell c1_0_2
  have z1_0_3 := fun zz : Later w1 => zz.cell c1_0_3
  have z1_1_0 := fun zz : Later w1 => zz.cell c1_1_0
  have z1_1_1 := fun zz : Later w1 => zz.cell c1_1_1
  have z1_2_0 := fun zz : Later w1 => zz.cell c1_2_0
  have z1_2_1 := fun zz : Later w1 => zz.cell c1_2_1
  have z1_2_2 := fun zz : Later w1 => zz.cell c1_2_2
  go_wp2_with fail
  refine wp_region_later (by kernel_rfl) (by kernel_rfl) ?_
  repeat (go_big_quiet_step (first | (go_at_call 22; exact Gives.later _ (toGeometry_any _ _ _ _ _)) | (go_at_call 20; exact Gives.later _ (toMapping_any _ _ _)) | (go_at_call 25; exact Gives.later _ (toAddr_any _ _ _ _)) | (go_at_call 24; exact Gives.later _ (SPEC.out _))))
  refine wpQuiet_nil ?_
  rintro w2 ⟨zz2, hz2⟩
  have hb2 : Below w1.heap.size w1 w2 := hz2 ▸ zz2.ok
  clear hz2 zz2
  have h2_0 := keep_block hb2 h1_0 (lt_of_block h1_0)
  have h2_1 := keep_block hb2 h1_1 (lt_of_block h1_1)
  have h2_2 := keep_block hb2 h1_2 (lt_of_block h1_2)
  have HB2 : Hid (Below w.heap.size w w2) := HB1.out.trans (hb2.mono HB1.out.size)
  clear hb2 h1_0 h1_1 h1_2 c1_0_0 c1_0_1 c1_0_2 c1_0_3 c1_1_0 c1_1_1 c1_2_0 c1_2_1 c1_2_2 z1_0_0 z1_0_1 z1_0_2 z1_0_3 z1_1_0 z1_1_1 z1_2_0 z1_2_1 z1_2_2
  have c2_0_0 : w2.cell? ⟨w.heap.size, 0, none⟩ = some (.int .i64 p0_0) := by simp [World.cell?, h2_0]
  have c2_0_1 : w2.cell? ⟨w.heap.size, 1, none⟩ = some (.int .i64 p0_1) := by simp [World.cell?, h2_0]
  have c2_0_2 : w2.cell? ⟨w.heap.size, 2, none⟩ = some (.int .i64 p0_2) := by simp [World.cell?, h2_0]
  have c2_0_3 : w2.cell? ⟨w.heap.size, 3, none⟩ = some (.int .i64 p0_3) := by simp [World.cell?, h2_0]
  have c2_1_0 : w2.cell? ⟨w.heap.size + 1, 0, none⟩ = some (.int .i64 p1_0) := by simp [World.cell?, h2_1]
  have c2_1_1 : w2.cell? ⟨w.heap.size + 1, 1, none⟩ = some (.bool p1_1) := by simp [World.cell?, h2_1]
  have c2_2_0 : w2.cell? ⟨w.heap.size + 1 + 1, 0, none⟩ = some (.int .i64 p2_0) := by simp [World.cell?, h2_2]
  have c2_2_1 : w2.cell? ⟨w.heap.size + 1 + 1, 1, none⟩ = some (.int .i64 p2_1) := by simp [World.cell?, h2_2]
  have c2_2_2 : w2.cell? ⟨w.heap.size + 1 + 1, 2, none⟩ = some (.int .i64 p2_2) := by simp [World.cell?, h2_2]
  have z2_0_0 := fun zz : Later w2 => zz.cell c2_0_0
  have z2_0_1 := fun zz : Later w2 => zz.cell c2_0_1
  have z2_0_2 := fun zz : Later w2 => zz.cell c2_0_2
  have z2_0_3 := fun zz : Later w2 => zz.cell c2_0_3
  have z2_1_0 := fun zz : Later w2 => zz.cell c2_1_0
  have z2_1_1 := fun zz : Later w2 => zz.cell c2_1_1
  have z2_2_0 := fun zz : Later w2 => zz.cell c2_2_0
  have z2_2_1 := fun zz : Later w2 => zz.cell c2_2_1
  have z2_2_2 := fun zz : Later w2 => zz.cell c2_2_2
  go_wp2_with fail
  refine wp_region_later (by kernel_rfl) (by kernel_rfl) ?_
  repeat (go_big_quiet_step (first | (go_at_call 22; exact Gives.later _ (toGeometry_any _ _ _ _ _)) | (go_at_call 20; exact Gives.later _ (toMapping_any _ _ _)) | (go_at_call 25; exact Gives.later _ (toAddr_any _ _ _ _)) | (go_at_call 15; exact Gives.later _ (IMPL.out _))))
  refine wpQuiet_nil ?_
  rintro w3 ⟨zz3, hz3⟩
  have hb3 : Below w2.heap.size w2 w3 := hz3 ▸ zz3.ok
  clear hz3 zz3
  have h3_0 := keep_block hb3 h2_0 (lt_of_block h2_0)
  have h3_1 := keep_block hb3 h2_1 (lt_of_block h2_1)
  have h3_2 := keep_block hb3 h2_2 (lt_of_block h2_2)
  have HB3 : Hid (Below w.heap.size w w3) := HB2.out.trans (hb3.mono HB2.out.size)
  clear hb3 h2_0 h2_1 h2_2 c2_0_0 c2_0_1 c2_0_2 c2_0_3 c2_1_0 c2_1_1 c2_2_0 c2_2_1 c2_2_2 z2_0_0 z2_0_1 z2_0_2 z2_0_3 z2_1_0 z2_1_1 z2_2_0 z2_2_1 z2_2_2
  have c3_0_0 : w3.cell? ⟨w.heap.size, 0, none⟩ = some (.int .i64 p0_0) := by simp [World.cell?, h3_0]
  have c3_0_1 : w3.cell? ⟨w.heap.size, 1, none⟩ = some (.int .i64 p0_1) := by simp [World.cell?, h3_0]
  have c3_0_2 : w3.cell? ⟨w.heap.size, 2, none⟩ = some (.int .i64 p0_2) := by simp [World.cell?, h3_0]
  have c3_0_3 : w3.cell? ⟨w.heap.size, 3, none⟩ = some (.int .i64 p0_3) := by simp [World.cell?, h3_0]
  have c3_1_0 : w3.cell? ⟨w.heap.size + 1, 0, none⟩ = some (.int .i64 p1_0) := by simp [World.cell?, h3_1]
  have c3_1_1 : w3.cell? ⟨w.heap.size + 1, 1, none⟩ = some (.bool p1_1) := by simp [World.cell?, h3_1]
  have c3_2_0 : w3.cell? ⟨w.heap.size + 1 + 1, 0, none⟩ = some (.int .i64 p2_0) := by simp [World.cell?, h3_2]
  have c3_2_1 : w3.cell? ⟨w.heap.size + 1 + 1, 1, none⟩ = some (.int .i64 p2_1) := by simp [World.cell?, h3_2]
  have c3_2_2 : w3.cell? ⟨w.heap.size + 1 + 1, 2, none⟩ = some (.int .i64 p2_2) := by simp [World.cell?, h3_2]
  have hrr : (r != r) = false := by simp
  go_wp2
  go_ret
  exact ⟨rfl, HB3.out⟩


end Go.Proofs.Ytdgaggcjimafbaa
