/-
  The model's LineOf.
-/
import Derived.Test.YtdgaggcjimafbaaMapW
namespace Go.Proofs.Ytdgaggcjimafbaa
open Go.RowKit

set_option linter.unusedVariables false

/-- The bank ahead of the rotation. -/
def unHash (h : Bool) (x y n : Int) : Int := if h then (x + n - y % n) % n else x

def lineOrd (o d r n x y z : Int) : Int := if o = 0 then (y * n + x) * d + z else if o = 1 then (y * d + z) * n + x else (x * r + y) * d + z

/-- The line number of an address, as the chapter says it. -/
def lineF (a b r d o : Int) (h : Bool) (x y z : Int) : Int :=
  if (0 ≤ o ∧ o ≤ 2) ∧ AdOk a b r d x y z then lineOrd o d r (bankN a b r d) (unHash h x y (bankN a b r d)) y z else -1

theorem unHash_range {h : Bool} {x y n : Int} (hx : 0 ≤ x ∧ x < n) : 0 ≤ unHash h x y n ∧ unHash h x y n < n := by
  cases h
  · exact hx
  · exact ⟨Int.emod_nonneg _ (by omega), Int.emod_lt_of_pos _ (by omega)⟩

set_option maxHeartbeats 4000000 in
theorem specLineOf_0_false (a b r d x y z : Int) (ka : AdOk a b r d x y z) (w : World) :
    Calls Try.prog 24 #[.agg #[.int .i64 a, .int .i64 b, .int .i64 r, .int .i64 d], .agg #[.int .i64 0, .bool false], .agg #[.int .i64 x, .int .i64 y, .int .i64 z]] w (Gives (.int .i64 (lineF a b r d 0 false x y z)) w) := by
  obtain ⟨w1, hw1⟩ : ∃ u, ((w.alloc (.cells #[.int .i64 a, .int .i64 b, .int .i64 r, .int .i64 d] 25)).alloc (.cells #[.int .i64 0, .bool false] 27)).alloc (.cells #[.int .i64 x, .int .i64 y, .int .i64 z] 37) = u := ⟨_, rfl⟩
  have HB1 : Hid (Below w.heap.size w w1) := by subst hw1; exact (((Below.refl _ _).alloc (by simp) _).alloc (by simp) _).alloc (by simp; omega) _
  have g1 : w1.heap[w.heap.size]? = some (.cells #[.int .i64 a, .int .i64 b, .int .i64 r, .int .i64 d] 25) := by subst hw1; exact box3_0 _ _ _ _
  have m1 : w1.heap[w.heap.size + 1]? = some (.cells #[.int .i64 0, .bool false] 27) := by subst hw1; exact box3_1 _ _ _ _
  have r1 : w1.heap[w.heap.size + 1 + 1]? = some (.cells #[.int .i64 x, .int .i64 y, .int .i64 z] 37) := by subst hw1; exact box3_2 _ _ _ _
  obtain ⟨cm0, cm1⟩ := cells2 m1
  have KO := Lib.hid (decide_eq_true (show (0 : Int) ≤ 0 ∧ (0 : Int) ≤ 2 by decide))
  have KA := Lib.hid (decide_eq_true ka)
  have hn2 := bankN_range a b r d
  obtain ⟨_, _, ⟨g5, g6⟩, ⟨g7, g8⟩⟩ := geo_of_bank ka.1
  have HE : Hid (lineF a b r d 0 false x y z = lineOrd 0 d r (bankN a b r d) (unHash false x y (bankN a b r d)) y z) := by
    show _ = _
    exact if_pos ⟨by decide, ka⟩
  obtain ⟨⟨x0, x1⟩, ⟨y0, y1⟩, ⟨z0, z1⟩⟩ := ka
  obtain ⟨n, hn⟩ : ∃ n, bankN a b r d = n := ⟨_, rfl⟩
  have HN := Lib.hid hn
  rw [hn] at x1 hn2 HE
  have n0 : ¬ n = 0 := by omega
  clear hn
  have hu := unHash_range (h := false) (y := y) (show 0 ≤ x ∧ x < n by omega)
  rw [show unHash false x y n = x from rfl] at HE hu
  obtain ⟨k0, k1⟩ := hu
  have p1 : 0 ≤ y * n := Int.mul_nonneg y0 hn2.1
  have p2 : y * n ≤ 15 * 8 := Int.mul_le_mul (by omega) hn2.2 hn2.1 (by omega)
  have p3 : 0 ≤ (y * n + x) * d := Int.mul_nonneg (by omega) (by omega)
  have p4 : (y * n + x) * d ≤ 128 * 8 := Int.mul_le_mul (by omega) g8 (by omega) (by omega)
  have e1 : IntKind.i64.wrap (y * n) = y * n := IntWalk.i64_in _ ⟨by omega, by omega⟩
  have e2 : IntKind.i64.wrap (y * n + x) = y * n + x := IntWalk.i64_in _ ⟨by omega, by omega⟩
  have e3 : IntKind.i64.wrap ((y * n + x) * d) = (y * n + x) * d := IntWalk.i64_in _ ⟨by omega, by omega⟩
  have e4 : IntKind.i64.wrap ((y * n + x) * d + z) = (y * n + x) * d + z := IntWalk.i64_in _ ⟨by omega, by omega⟩
  have HF : Hid (lineF a b r d 0 false x y z = (y * n + x) * d + z) := by show _ = _; rw [HE.out]; unfold lineOrd; rw [if_pos rfl]
  clear p1 p2 p3 p4
  go_enter Try.func24, Try.ntmps24
  go_wp2_with fail
  refine (specMappingOk_is _ _ _ KO.out _).mono ?_
  rintro e w2 ⟨rfl, hb2⟩
  have r2 := keep_block hb2 r1 (lt_of_block r1)
  have g2 := keep_block hb2 g1 (lt_of_block g1)
  have m2 := keep_block hb2 m1 (lt_of_block m1)
  have HB2 : Hid (Below w.heap.size w w2) := HB1.out.trans (hb2.mono HB1.out.size)
  clear hb2 r1 g1 m1 hw1 HB1 cm0 cm1
  obtain ⟨cg0, cg1, cg2, cg3⟩ := cells4 g2
  obtain ⟨cr0, cr1, cr2⟩ := cells3 r2
  go_wp2_with fail
  refine (specAddrOk_is _ _ _ _ _ _ _ _ KA.out _).mono ?_
  rintro e w3 ⟨rfl, hb3⟩
  have r3 := keep_block hb3 r2 (lt_of_block r2)
  have g3 := keep_block hb3 g2 (lt_of_block g2)
  have m3 := keep_block hb3 m2 (lt_of_block m2)
  have HB3 : Hid (Below w.heap.size w w3) := HB2.out.trans (hb3.mono HB2.out.size)
  clear hb3 r2 g2 m2 HB2 cg0 cg1 cg2 cg3 cr0 cr1 cr2
  obtain ⟨cg0, cg1, cg2, cg3⟩ := cells4 g3
  go_wp2_with fail
  refine (specBank_is _ _ _ _ _ HN.out _).mono ?_
  rintro e w4 ⟨rfl, hb4⟩
  have r4 := keep_block hb4 r3 (lt_of_block r3)
  have g4 := keep_block hb4 g3 (lt_of_block g3)
  have m4 := keep_block hb4 m3 (lt_of_block m3)
  have HB4 : Hid (Below w.heap.size w w4) := HB3.out.trans (hb4.mono HB3.out.size)
  clear hb4 r3 g3 m3 HB3 cg0 cg1 cg2 cg3
  obtain ⟨cg0, cg1, cg2, cg3⟩ := cells4 g4
  obtain ⟨cm0, cm1⟩ := cells2 m4
  obtain ⟨cr0, cr1, cr2⟩ := cells3 r4
  go_wp2
  go_ret
  exact ⟨ret_i HF.out.symm, HB4.out⟩

set_option maxHeartbeats 4000000 in
theorem specLineOf_0_true (a b r d x y z : Int) (ka : AdOk a b r d x y z) (w : World) :
    Calls Try.prog 24 #[.agg #[.int .i64 a, .int .i64 b, .int .i64 r, .int .i64 d], .agg #[.int .i64 0, .bool true], .agg #[.int .i64 x, .int .i64 y, .int .i64 z]] w (Gives (.int .i64 (lineF a b r d 0 true x y z)) w) := by
  obtain ⟨w1, hw1⟩ : ∃ u, ((w.alloc (.cells #[.int .i64 a, .int .i64 b, .int .i64 r, .int .i64 d] 25)).alloc (.cells #[.int .i64 0, .bool true] 27)).alloc (.cells #[.int .i64 x, .int .i64 y, .int .i64 z] 37) = u := ⟨_, rfl⟩
  have HB1 : Hid (Below w.heap.size w w1) := by subst hw1; exact (((Below.refl _ _).alloc (by simp) _).alloc (by simp) _).alloc (by simp; omega) _
  have g1 : w1.heap[w.heap.size]? = some (.cells #[.int .i64 a, .int .i64 b, .int .i64 r, .int .i64 d] 25) := by subst hw1; exact box3_0 _ _ _ _
  have m1 : w1.heap[w.heap.size + 1]? = some (.cells #[.int .i64 0, .bool true] 27) := by subst hw1; exact box3_1 _ _ _ _
  have r1 : w1.heap[w.heap.size + 1 + 1]? = some (.cells #[.int .i64 x, .int .i64 y, .int .i64 z] 37) := by subst hw1; exact box3_2 _ _ _ _
  obtain ⟨cm0, cm1⟩ := cells2 m1
  have KO := Lib.hid (decide_eq_true (show (0 : Int) ≤ 0 ∧ (0 : Int) ≤ 2 by decide))
  have KA := Lib.hid (decide_eq_true ka)
  have hn2 := bankN_range a b r d
  obtain ⟨_, _, ⟨g5, g6⟩, ⟨g7, g8⟩⟩ := geo_of_bank ka.1
  have HE : Hid (lineF a b r d 0 true x y z = lineOrd 0 d r (bankN a b r d) (unHash true x y (bankN a b r d)) y z) := by
    show _ = _
    exact if_pos ⟨by decide, ka⟩
  obtain ⟨⟨x0, x1⟩, ⟨y0, y1⟩, ⟨z0, z1⟩⟩ := ka
  obtain ⟨n, hn⟩ : ∃ n, bankN a b r d = n := ⟨_, rfl⟩
  have HN := Lib.hid hn
  rw [hn] at x1 hn2 HE
  have n0 : ¬ n = 0 := by omega
  clear hn
  have hu := unHash_range (h := true) (y := y) (show 0 ≤ x ∧ x < n by omega)
  obtain ⟨k, hk⟩ : ∃ k, unHash true x y n = k := ⟨_, rfl⟩
  rw [hk] at HE hu
  obtain ⟨k0, k1⟩ := hu
  obtain ⟨s, hs⟩ : ∃ s, y % n = s := ⟨_, rfl⟩
  have s0 : 0 ≤ s := by rw [← hs]; exact Int.emod_nonneg _ n0
  have s1 : s < n := by rw [← hs]; exact Int.emod_lt_of_pos _ (by omega)
  have f1 : IntKind.i64.wrap (x + n) = x + n := IntWalk.i64_in _ ⟨by omega, by omega⟩
  have f2 : y.tmod n = s := by rw [Int.tmod_eq_emod_of_nonneg y0, hs]
  have f3 : IntKind.i64.wrap (x + n - s) = x + n - s := IntWalk.i64_in _ ⟨by omega, by omega⟩
  have f4 : (x + n - s).tmod n = k := by rw [Int.tmod_eq_emod_of_nonneg (by omega), ← hs]; exact hk
  clear hs
  have p1 : 0 ≤ y * n := Int.mul_nonneg y0 hn2.1
  have p2 : y * n ≤ 15 * 8 := Int.mul_le_mul (by omega) hn2.2 hn2.1 (by omega)
  have p3 : 0 ≤ (y * n + k) * d := Int.mul_nonneg (by omega) (by omega)
  have p4 : (y * n + k) * d ≤ 128 * 8 := Int.mul_le_mul (by omega) g8 (by omega) (by omega)
  have e1 : IntKind.i64.wrap (y * n) = y * n := IntWalk.i64_in _ ⟨by omega, by omega⟩
  have e2 : IntKind.i64.wrap (y * n + k) = y * n + k := IntWalk.i64_in _ ⟨by omega, by omega⟩
  have e3 : IntKind.i64.wrap ((y * n + k) * d) = (y * n + k) * d := IntWalk.i64_in _ ⟨by omega, by omega⟩
  have e4 : IntKind.i64.wrap ((y * n + k) * d + z) = (y * n + k) * d + z := IntWalk.i64_in _ ⟨by omega, by omega⟩
  have HF : Hid (lineF a b r d 0 true x y z = (y * n + k) * d + z) := by show _ = _; rw [HE.out]; unfold lineOrd; rw [if_pos rfl]
  clear hk p1 p2 p3 p4
  go_enter Try.func24, Try.ntmps24
  go_wp2_with fail
  refine (specMappingOk_is _ _ _ KO.out _).mono ?_
  rintro e w2 ⟨rfl, hb2⟩
  have r2 := keep_block hb2 r1 (lt_of_block r1)
  have g2 := keep_block hb2 g1 (lt_of_block g1)
  have m2 := keep_block hb2 m1 (lt_of_block m1)
  have HB2 : Hid (Below w.heap.size w w2) := HB1.out.trans (hb2.mono HB1.out.size)
  clear hb2 r1 g1 m1 hw1 HB1 cm0 cm1
  obtain ⟨cg0, cg1, cg2, cg3⟩ := cells4 g2
  obtain ⟨cr0, cr1, cr2⟩ := cells3 r2
  go_wp2_with fail
  refine (specAddrOk_is _ _ _ _ _ _ _ _ KA.out _).mono ?_
  rintro e w3 ⟨rfl, hb3⟩
  have r3 := keep_block hb3 r2 (lt_of_block r2)
  have g3 := keep_block hb3 g2 (lt_of_block g2)
  have m3 := keep_block hb3 m2 (lt_of_block m2)
  have HB3 : Hid (Below w.heap.size w w3) := HB2.out.trans (hb3.mono HB2.out.size)
  clear hb3 r2 g2 m2 HB2 cg0 cg1 cg2 cg3 cr0 cr1 cr2
  obtain ⟨cg0, cg1, cg2, cg3⟩ := cells4 g3
  go_wp2_with fail
  refine (specBank_is _ _ _ _ _ HN.out _).mono ?_
  rintro e w4 ⟨rfl, hb4⟩
  have r4 := keep_block hb4 r3 (lt_of_block r3)
  have g4 := keep_block hb4 g3 (lt_of_block g3)
  have m4 := keep_block hb4 m3 (lt_of_block m3)
  have HB4 : Hid (Below w.heap.size w w4) := HB3.out.trans (hb4.mono HB3.out.size)
  clear hb4 r3 g3 m3 HB3 cg0 cg1 cg2 cg3
  obtain ⟨cg0, cg1, cg2, cg3⟩ := cells4 g4
  obtain ⟨cm0, cm1⟩ := cells2 m4
  obtain ⟨cr0, cr1, cr2⟩ := cells3 r4
  have v0 := fun zz : Later w4 => zz.cell cr0
  have v1 := fun zz : Later w4 => zz.cell cr1
  go_wp2_with fail
  refine wp_region_later_tail 12 (by kernel_rfl) (by kernel_rfl) ?_
  simp only [List.take_succ_cons, List.take_zero, List.drop_succ_cons, List.drop_zero]
  repeat (go_big_quiet_step (fail))
  refine wpQuiet_nil ?_
  rintro w5 ⟨q5, hq5⟩
  have hb5 : Below w4.heap.size w4 w5 := hq5 ▸ q5.ok
  have r5 := keep_block hb5 r4 (lt_of_block r4)
  have g5' := keep_block hb5 g4 (lt_of_block g4)
  have m5 := keep_block hb5 m4 (lt_of_block m4)
  have HB5 : Hid (Below w.heap.size w w5) := HB4.out.trans (hb5.mono HB4.out.size)
  clear hq5 q5 hb5 r4 g4 m4 HB4 cg0 cg1 cg2 cg3 cm0 cm1 cr0 cr1 cr2 v0 v1
  obtain ⟨cg0, cg1, cg2, cg3⟩ := cells4 g5'
  obtain ⟨cm0, cm1⟩ := cells2 m5
  obtain ⟨cr0, cr1, cr2⟩ := cells3 r5
  have u0 := thawed r5 0
  clear r5 g5' m5
  go_wp2
  go_ret
  refine ⟨ret_i HF.out.symm, ?_⟩
  have h1 := HB5.out.size
  repeat' (first | refine Below.setCell ?_ (by simp <;> omega) _ | refine Below.drew ?_ | exact HB5.out)

set_option maxHeartbeats 4000000 in
theorem specLineOf_1_false (a b r d x y z : Int) (ka : AdOk a b r d x y z) (w : World) :
    Calls Try.prog 24 #[.agg #[.int .i64 a, .int .i64 b, .int .i64 r, .int .i64 d], .agg #[.int .i64 1, .bool false], .agg #[.int .i64 x, .int .i64 y, .int .i64 z]] w (Gives (.int .i64 (lineF a b r d 1 false x y z)) w) := by
  obtain ⟨w1, hw1⟩ : ∃ u, ((w.alloc (.cells #[.int .i64 a, .int .i64 b, .int .i64 r, .int .i64 d] 25)).alloc (.cells #[.int .i64 1, .bool false] 27)).alloc (.cells #[.int .i64 x, .int .i64 y, .int .i64 z] 37) = u := ⟨_, rfl⟩
  have HB1 : Hid (Below w.heap.size w w1) := by subst hw1; exact (((Below.refl _ _).alloc (by simp) _).alloc (by simp) _).alloc (by simp; omega) _
  have g1 : w1.heap[w.heap.size]? = some (.cells #[.int .i64 a, .int .i64 b, .int .i64 r, .int .i64 d] 25) := by subst hw1; exact box3_0 _ _ _ _
  have m1 : w1.heap[w.heap.size + 1]? = some (.cells #[.int .i64 1, .bool false] 27) := by subst hw1; exact box3_1 _ _ _ _
  have r1 : w1.heap[w.heap.size + 1 + 1]? = some (.cells #[.int .i64 x, .int .i64 y, .int .i64 z] 37) := by subst hw1; exact box3_2 _ _ _ _
  obtain ⟨cm0, cm1⟩ := cells2 m1
  have KO := Lib.hid (decide_eq_true (show (0 : Int) ≤ 1 ∧ (1 : Int) ≤ 2 by decide))
  have KA := Lib.hid (decide_eq_true ka)
  have hn2 := bankN_range a b r d
  obtain ⟨_, _, ⟨g5, g6⟩, ⟨g7, g8⟩⟩ := geo_of_bank ka.1
  have HE : Hid (lineF a b r d 1 false x y z = lineOrd 1 d r (bankN a b r d) (unHash false x y (bankN a b r d)) y z) := by
    show _ = _
    exact if_pos ⟨by decide, ka⟩
  obtain ⟨⟨x0, x1⟩, ⟨y0, y1⟩, ⟨z0, z1⟩⟩ := ka
  obtain ⟨n, hn⟩ : ∃ n, bankN a b r d = n := ⟨_, rfl⟩
  have HN := Lib.hid hn
  rw [hn] at x1 hn2 HE
  have n0 : ¬ n = 0 := by omega
  clear hn
  have hu := unHash_range (h := false) (y := y) (show 0 ≤ x ∧ x < n by omega)
  rw [show unHash false x y n = x from rfl] at HE hu
  obtain ⟨k0, k1⟩ := hu
  have p1 : 0 ≤ y * d := Int.mul_nonneg y0 (by omega)
  have p2 : y * d ≤ 15 * 8 := Int.mul_le_mul (by omega) g8 (by omega) (by omega)
  have p3 : 0 ≤ (y * d + z) * n := Int.mul_nonneg (by omega) (by omega)
  have p4 : (y * d + z) * n ≤ 128 * 8 := Int.mul_le_mul (by omega) hn2.2 (by omega) (by omega)
  have e1 : IntKind.i64.wrap (y * d) = y * d := IntWalk.i64_in _ ⟨by omega, by omega⟩
  have e2 : IntKind.i64.wrap (y * d + z) = y * d + z := IntWalk.i64_in _ ⟨by omega, by omega⟩
  have e3 : IntKind.i64.wrap ((y * d + z) * n) = (y * d + z) * n := IntWalk.i64_in _ ⟨by omega, by omega⟩
  have e4 : IntKind.i64.wrap ((y * d + z) * n + x) = (y * d + z) * n + x := IntWalk.i64_in _ ⟨by omega, by omega⟩
  have HF : Hid (lineF a b r d 1 false x y z = (y * d + z) * n + x) := by show _ = _; rw [HE.out]; unfold lineOrd; rw [if_neg (by decide), if_pos rfl]
  clear p1 p2 p3 p4
  go_enter Try.func24, Try.ntmps24
  go_wp2_with fail
  refine (specMappingOk_is _ _ _ KO.out _).mono ?_
  rintro e w2 ⟨rfl, hb2⟩
  have r2 := keep_block hb2 r1 (lt_of_block r1)
  have g2 := keep_block hb2 g1 (lt_of_block g1)
  have m2 := keep_block hb2 m1 (lt_of_block m1)
  have HB2 : Hid (Below w.heap.size w w2) := HB1.out.trans (hb2.mono HB1.out.size)
  clear hb2 r1 g1 m1 hw1 HB1 cm0 cm1
  obtain ⟨cg0, cg1, cg2, cg3⟩ := cells4 g2
  obtain ⟨cr0, cr1, cr2⟩ := cells3 r2
  go_wp2_with fail
  refine (specAddrOk_is _ _ _ _ _ _ _ _ KA.out _).mono ?_
  rintro e w3 ⟨rfl, hb3⟩
  have r3 := keep_block hb3 r2 (lt_of_block r2)
  have g3 := keep_block hb3 g2 (lt_of_block g2)
  have m3 := keep_block hb3 m2 (lt_of_block m2)
  have HB3 : Hid (Below w.heap.size w w3) := HB2.out.trans (hb3.mono HB2.out.size)
  clear hb3 r2 g2 m2 HB2 cg0 cg1 cg2 cg3 cr0 cr1 cr2
  obtain ⟨cg0, cg1, cg2, cg3⟩ := cells4 g3
  go_wp2_with fail
  refine (specBank_is _ _ _ _ _ HN.out _).mono ?_
  rintro e w4 ⟨rfl, hb4⟩
  have r4 := keep_block hb4 r3 (lt_of_block r3)
  have g4 := keep_block hb4 g3 (lt_of_block g3)
  have m4 := keep_block hb4 m3 (lt_of_block m3)
  have HB4 : Hid (Below w.heap.size w w4) := HB3.out.trans (hb4.mono HB3.out.size)
  clear hb4 r3 g3 m3 HB3 cg0 cg1 cg2 cg3
  obtain ⟨cg0, cg1, cg2, cg3⟩ := cells4 g4
  obtain ⟨cm0, cm1⟩ := cells2 m4
  obtain ⟨cr0, cr1, cr2⟩ := cells3 r4
  go_wp2
  go_ret
  exact ⟨ret_i HF.out.symm, HB4.out⟩

set_option maxHeartbeats 4000000 in
theorem specLineOf_1_true (a b r d x y z : Int) (ka : AdOk a b r d x y z) (w : World) :
    Calls Try.prog 24 #[.agg #[.int .i64 a, .int .i64 b, .int .i64 r, .int .i64 d], .agg #[.int .i64 1, .bool true], .agg #[.int .i64 x, .int .i64 y, .int .i64 z]] w (Gives (.int .i64 (lineF a b r d 1 true x y z)) w) := by
  obtain ⟨w1, hw1⟩ : ∃ u, ((w.alloc (.cells #[.int .i64 a, .int .i64 b, .int .i64 r, .int .i64 d] 25)).alloc (.cells #[.int .i64 1, .bool true] 27)).alloc (.cells #[.int .i64 x, .int .i64 y, .int .i64 z] 37) = u := ⟨_, rfl⟩
  have HB1 : Hid (Below w.heap.size w w1) := by subst hw1; exact (((Below.refl _ _).alloc (by simp) _).alloc (by simp) _).alloc (by simp; omega) _
  have g1 : w1.heap[w.heap.size]? = some (.cells #[.int .i64 a, .int .i64 b, .int .i64 r, .int .i64 d] 25) := by subst hw1; exact box3_0 _ _ _ _
  have m1 : w1.heap[w.heap.size + 1]? = some (.cells #[.int .i64 1, .bool true] 27) := by subst hw1; exact box3_1 _ _ _ _
  have r1 : w1.heap[w.heap.size + 1 + 1]? = some (.cells #[.int .i64 x, .int .i64 y, .int .i64 z] 37) := by subst hw1; exact box3_2 _ _ _ _
  obtain ⟨cm0, cm1⟩ := cells2 m1
  have KO := Lib.hid (decide_eq_true (show (0 : Int) ≤ 1 ∧ (1 : Int) ≤ 2 by decide))
  have KA := Lib.hid (decide_eq_true ka)
  have hn2 := bankN_range a b r d
  obtain ⟨_, _, ⟨g5, g6⟩, ⟨g7, g8⟩⟩ := geo_of_bank ka.1
  have HE : Hid (lineF a b r d 1 true x y z = lineOrd 1 d r (bankN a b r d) (unHash true x y (bankN a b r d)) y z) := by
    show _ = _
    exact if_pos ⟨by decide, ka⟩
  obtain ⟨⟨x0, x1⟩, ⟨y0, y1⟩, ⟨z0, z1⟩⟩ := ka
  obtain ⟨n, hn⟩ : ∃ n, bankN a b r d = n := ⟨_, rfl⟩
  have HN := Lib.hid hn
  rw [hn] at x1 hn2 HE
  have n0 : ¬ n = 0 := by omega
  clear hn
  have hu := unHash_range (h := true) (y := y) (show 0 ≤ x ∧ x < n by omega)
  obtain ⟨k, hk⟩ : ∃ k, unHash true x y n = k := ⟨_, rfl⟩
  rw [hk] at HE hu
  obtain ⟨k0, k1⟩ := hu
  obtain ⟨s, hs⟩ : ∃ s, y % n = s := ⟨_, rfl⟩
  have s0 : 0 ≤ s := by rw [← hs]; exact Int.emod_nonneg _ n0
  have s1 : s < n := by rw [← hs]; exact Int.emod_lt_of_pos _ (by omega)
  have f1 : IntKind.i64.wrap (x + n) = x + n := IntWalk.i64_in _ ⟨by omega, by omega⟩
  have f2 : y.tmod n = s := by rw [Int.tmod_eq_emod_of_nonneg y0, hs]
  have f3 : IntKind.i64.wrap (x + n - s) = x + n - s := IntWalk.i64_in _ ⟨by omega, by omega⟩
  have f4 : (x + n - s).tmod n = k := by rw [Int.tmod_eq_emod_of_nonneg (by omega), ← hs]; exact hk
  clear hs
  have p1 : 0 ≤ y * d := Int.mul_nonneg y0 (by omega)
  have p2 : y * d ≤ 15 * 8 := Int.mul_le_mul (by omega) g8 (by omega) (by omega)
  have p3 : 0 ≤ (y * d + z) * n := Int.mul_nonneg (by omega) (by omega)
  have p4 : (y * d + z) * n ≤ 128 * 8 := Int.mul_le_mul (by omega) hn2.2 (by omega) (by omega)
  have e1 : IntKind.i64.wrap (y * d) = y * d := IntWalk.i64_in _ ⟨by omega, by omega⟩
  have e2 : IntKind.i64.wrap (y * d + z) = y * d + z := IntWalk.i64_in _ ⟨by omega, by omega⟩
  have e3 : IntKind.i64.wrap ((y * d + z) * n) = (y * d + z) * n := IntWalk.i64_in _ ⟨by omega, by omega⟩
  have e4 : IntKind.i64.wrap ((y * d + z) * n + k) = (y * d + z) * n + k := IntWalk.i64_in _ ⟨by omega, by omega⟩
  have HF : Hid (lineF a b r d 1 true x y z = (y * d + z) * n + k) := by show _ = _; rw [HE.out]; unfold lineOrd; rw [if_neg (by decide), if_pos rfl]
  clear hk p1 p2 p3 p4
  go_enter Try.func24, Try.ntmps24
  go_wp2_with fail
  refine (specMappingOk_is _ _ _ KO.out _).mono ?_
  rintro e w2 ⟨rfl, hb2⟩
  have r2 := keep_block hb2 r1 (lt_of_block r1)
  have g2 := keep_block hb2 g1 (lt_of_block g1)
  have m2 := keep_block hb2 m1 (lt_of_block m1)
  have HB2 : Hid (Below w.heap.size w w2) := HB1.out.trans (hb2.mono HB1.out.size)
  clear hb2 r1 g1 m1 hw1 HB1 cm0 cm1
  obtain ⟨cg0, cg1, cg2, cg3⟩ := cells4 g2
  obtain ⟨cr0, cr1, cr2⟩ := cells3 r2
  go_wp2_with fail
  refine (specAddrOk_is _ _ _ _ _ _ _ _ KA.out _).mono ?_
  rintro e w3 ⟨rfl, hb3⟩
  have r3 := keep_block hb3 r2 (lt_of_block r2)
  have g3 := keep_block hb3 g2 (lt_of_block g2)
  have m3 := keep_block hb3 m2 (lt_of_block m2)
  have HB3 : Hid (Below w.heap.size w w3) := HB2.out.trans (hb3.mono HB2.out.size)
  clear hb3 r2 g2 m2 HB2 cg0 cg1 cg2 cg3 cr0 cr1 cr2
  obtain ⟨cg0, cg1, cg2, cg3⟩ := cells4 g3
  go_wp2_with fail
  refine (specBank_is _ _ _ _ _ HN.out _).mono ?_
  rintro e w4 ⟨rfl, hb4⟩
  have r4 := keep_block hb4 r3 (lt_of_block r3)
  have g4 := keep_block hb4 g3 (lt_of_block g3)
  have m4 := keep_block hb4 m3 (lt_of_block m3)
  have HB4 : Hid (Below w.heap.size w w4) := HB3.out.trans (hb4.mono HB3.out.size)
  clear hb4 r3 g3 m3 HB3 cg0 cg1 cg2 cg3
  obtain ⟨cg0, cg1, cg2, cg3⟩ := cells4 g4
  obtain ⟨cm0, cm1⟩ := cells2 m4
  obtain ⟨cr0, cr1, cr2⟩ := cells3 r4
  have v0 := fun zz : Later w4 => zz.cell cr0
  have v1 := fun zz : Later w4 => zz.cell cr1
  go_wp2_with fail
  refine wp_region_later_tail 12 (by kernel_rfl) (by kernel_rfl) ?_
  simp only [List.take_succ_cons, List.take_zero, List.drop_succ_cons, List.drop_zero]
  repeat (go_big_quiet_step (fail))
  refine wpQuiet_nil ?_
  rintro w5 ⟨q5, hq5⟩
  have hb5 : Below w4.heap.size w4 w5 := hq5 ▸ q5.ok
  have r5 := keep_block hb5 r4 (lt_of_block r4)
  have g5' := keep_block hb5 g4 (lt_of_block g4)
  have m5 := keep_block hb5 m4 (lt_of_block m4)
  have HB5 : Hid (Below w.heap.size w w5) := HB4.out.trans (hb5.mono HB4.out.size)
  clear hq5 q5 hb5 r4 g4 m4 HB4 cg0 cg1 cg2 cg3 cm0 cm1 cr0 cr1 cr2 v0 v1
  obtain ⟨cg0, cg1, cg2, cg3⟩ := cells4 g5'
  obtain ⟨cm0, cm1⟩ := cells2 m5
  obtain ⟨cr0, cr1, cr2⟩ := cells3 r5
  have u0 := thawed r5 0
  clear r5 g5' m5
  go_wp2
  go_ret
  refine ⟨ret_i HF.out.symm, ?_⟩
  have h1 := HB5.out.size
  repeat' (first | refine Below.setCell ?_ (by simp <;> omega) _ | refine Below.drew ?_ | exact HB5.out)

set_option maxHeartbeats 4000000 in
theorem specLineOf_2_false (a b r d x y z : Int) (ka : AdOk a b r d x y z) (w : World) :
    Calls Try.prog 24 #[.agg #[.int .i64 a, .int .i64 b, .int .i64 r, .int .i64 d], .agg #[.int .i64 2, .bool false], .agg #[.int .i64 x, .int .i64 y, .int .i64 z]] w (Gives (.int .i64 (lineF a b r d 2 false x y z)) w) := by
  obtain ⟨w1, hw1⟩ : ∃ u, ((w.alloc (.cells #[.int .i64 a, .int .i64 b, .int .i64 r, .int .i64 d] 25)).alloc (.cells #[.int .i64 2, .bool false] 27)).alloc (.cells #[.int .i64 x, .int .i64 y, .int .i64 z] 37) = u := ⟨_, rfl⟩
  have HB1 : Hid (Below w.heap.size w w1) := by subst hw1; exact (((Below.refl _ _).alloc (by simp) _).alloc (by simp) _).alloc (by simp; omega) _
  have g1 : w1.heap[w.heap.size]? = some (.cells #[.int .i64 a, .int .i64 b, .int .i64 r, .int .i64 d] 25) := by subst hw1; exact box3_0 _ _ _ _
  have m1 : w1.heap[w.heap.size + 1]? = some (.cells #[.int .i64 2, .bool false] 27) := by subst hw1; exact box3_1 _ _ _ _
  have r1 : w1.heap[w.heap.size + 1 + 1]? = some (.cells #[.int .i64 x, .int .i64 y, .int .i64 z] 37) := by subst hw1; exact box3_2 _ _ _ _
  obtain ⟨cm0, cm1⟩ := cells2 m1
  have KO := Lib.hid (decide_eq_true (show (0 : Int) ≤ 2 ∧ (2 : Int) ≤ 2 by decide))
  have KA := Lib.hid (decide_eq_true ka)
  have hn2 := bankN_range a b r d
  obtain ⟨_, _, ⟨g5, g6⟩, ⟨g7, g8⟩⟩ := geo_of_bank ka.1
  have HE : Hid (lineF a b r d 2 false x y z = lineOrd 2 d r (bankN a b r d) (unHash false x y (bankN a b r d)) y z) := by
    show _ = _
    exact if_pos ⟨by decide, ka⟩
  obtain ⟨⟨x0, x1⟩, ⟨y0, y1⟩, ⟨z0, z1⟩⟩ := ka
  obtain ⟨n, hn⟩ : ∃ n, bankN a b r d = n := ⟨_, rfl⟩
  have HN := Lib.hid hn
  rw [hn] at x1 hn2 HE
  have n0 : ¬ n = 0 := by omega
  clear hn
  have hu := unHash_range (h := false) (y := y) (show 0 ≤ x ∧ x < n by omega)
  rw [show unHash false x y n = x from rfl] at HE hu
  obtain ⟨k0, k1⟩ := hu
  have p1 : 0 ≤ x * r := Int.mul_nonneg k0 (by omega)
  have p2 : x * r ≤ 7 * 16 := Int.mul_le_mul (by omega) g6 (by omega) (by omega)
  have p3 : 0 ≤ (x * r + y) * d := Int.mul_nonneg (by omega) (by omega)
  have p4 : (x * r + y) * d ≤ 128 * 8 := Int.mul_le_mul (by omega) g8 (by omega) (by omega)
  have e1 : IntKind.i64.wrap (x * r) = x * r := IntWalk.i64_in _ ⟨by omega, by omega⟩
  have e2 : IntKind.i64.wrap (x * r + y) = x * r + y := IntWalk.i64_in _ ⟨by omega, by omega⟩
  have e3 : IntKind.i64.wrap ((x * r + y) * d) = (x * r + y) * d := IntWalk.i64_in _ ⟨by omega, by omega⟩
  have e4 : IntKind.i64.wrap ((x * r + y) * d + z) = (x * r + y) * d + z := IntWalk.i64_in _ ⟨by omega, by omega⟩
  have HF : Hid (lineF a b r d 2 false x y z = (x * r + y) * d + z) := by show _ = _; rw [HE.out]; unfold lineOrd; rw [if_neg (by decide), if_neg (by decide)]
  clear p1 p2 p3 p4
  go_enter Try.func24, Try.ntmps24
  go_wp2_with fail
  refine (specMappingOk_is _ _ _ KO.out _).mono ?_
  rintro e w2 ⟨rfl, hb2⟩
  have r2 := keep_block hb2 r1 (lt_of_block r1)
  have g2 := keep_block hb2 g1 (lt_of_block g1)
  have m2 := keep_block hb2 m1 (lt_of_block m1)
  have HB2 : Hid (Below w.heap.size w w2) := HB1.out.trans (hb2.mono HB1.out.size)
  clear hb2 r1 g1 m1 hw1 HB1 cm0 cm1
  obtain ⟨cg0, cg1, cg2, cg3⟩ := cells4 g2
  obtain ⟨cr0, cr1, cr2⟩ := cells3 r2
  go_wp2_with fail
  refine (specAddrOk_is _ _ _ _ _ _ _ _ KA.out _).mono ?_
  rintro e w3 ⟨rfl, hb3⟩
  have r3 := keep_block hb3 r2 (lt_of_block r2)
  have g3 := keep_block hb3 g2 (lt_of_block g2)
  have m3 := keep_block hb3 m2 (lt_of_block m2)
  have HB3 : Hid (Below w.heap.size w w3) := HB2.out.trans (hb3.mono HB2.out.size)
  clear hb3 r2 g2 m2 HB2 cg0 cg1 cg2 cg3 cr0 cr1 cr2
  obtain ⟨cg0, cg1, cg2, cg3⟩ := cells4 g3
  go_wp2_with fail
  refine (specBank_is _ _ _ _ _ HN.out _).mono ?_
  rintro e w4 ⟨rfl, hb4⟩
  have r4 := keep_block hb4 r3 (lt_of_block r3)
  have g4 := keep_block hb4 g3 (lt_of_block g3)
  have m4 := keep_block hb4 m3 (lt_of_block m3)
  have HB4 : Hid (Below w.heap.size w w4) := HB3.out.trans (hb4.mono HB3.out.size)
  clear hb4 r3 g3 m3 HB3 cg0 cg1 cg2 cg3
  obtain ⟨cg0, cg1, cg2, cg3⟩ := cells4 g4
  obtain ⟨cm0, cm1⟩ := cells2 m4
  obtain ⟨cr0, cr1, cr2⟩ := cells3 r4
  go_wp2
  go_ret
  exact ⟨ret_i HF.out.symm, HB4.out⟩

set_option maxHeartbeats 4000000 in
theorem specLineOf_2_true (a b r d x y z : Int) (ka : AdOk a b r d x y z) (w : World) :
    Calls Try.prog 24 #[.agg #[.int .i64 a, .int .i64 b, .int .i64 r, .int .i64 d], .agg #[.int .i64 2, .bool true], .agg #[.int .i64 x, .int .i64 y, .int .i64 z]] w (Gives (.int .i64 (lineF a b r d 2 true x y z)) w) := by
  obtain ⟨w1, hw1⟩ : ∃ u, ((w.alloc (.cells #[.int .i64 a, .int .i64 b, .int .i64 r, .int .i64 d] 25)).alloc (.cells #[.int .i64 2, .bool true] 27)).alloc (.cells #[.int .i64 x, .int .i64 y, .int .i64 z] 37) = u := ⟨_, rfl⟩
  have HB1 : Hid (Below w.heap.size w w1) := by subst hw1; exact (((Below.refl _ _).alloc (by simp) _).alloc (by simp) _).alloc (by simp; omega) _
  have g1 : w1.heap[w.heap.size]? = some (.cells #[.int .i64 a, .int .i64 b, .int .i64 r, .int .i64 d] 25) := by subst hw1; exact box3_0 _ _ _ _
  have m1 : w1.heap[w.heap.size + 1]? = some (.cells #[.int .i64 2, .bool true] 27) := by subst hw1; exact box3_1 _ _ _ _
  have r1 : w1.heap[w.heap.size + 1 + 1]? = some (.cells #[.int .i64 x, .int .i64 y, .int .i64 z] 37) := by subst hw1; exact box3_2 _ _ _ _
  obtain ⟨cm0, cm1⟩ := cells2 m1
  have KO := Lib.hid (decide_eq_true (show (0 : Int) ≤ 2 ∧ (2 : Int) ≤ 2 by decide))
  have KA := Lib.hid (decide_eq_true ka)
  have hn2 := bankN_range a b r d
  obtain ⟨_, _, ⟨g5, g6⟩, ⟨g7, g8⟩⟩ := geo_of_bank ka.1
  have HE : Hid (lineF a b r d 2 true x y z = lineOrd 2 d r (bankN a b r d) (unHash true x y (bankN a b r d)) y z) := by
    show _ = _
    exact if_pos ⟨by decide, ka⟩
  obtain ⟨⟨x0, x1⟩, ⟨y0, y1⟩, ⟨z0, z1⟩⟩ := ka
  obtain ⟨n, hn⟩ : ∃ n, bankN a b r d = n := ⟨_, rfl⟩
  have HN := Lib.hid hn
  rw [hn] at x1 hn2 HE
  have n0 : ¬ n = 0 := by omega
  clear hn
  have hu := unHash_range (h := true) (y := y) (show 0 ≤ x ∧ x < n by omega)
  obtain ⟨k, hk⟩ : ∃ k, unHash true x y n = k := ⟨_, rfl⟩
  rw [hk] at HE hu
  obtain ⟨k0, k1⟩ := hu
  obtain ⟨s, hs⟩ : ∃ s, y % n = s := ⟨_, rfl⟩
  have s0 : 0 ≤ s := by rw [← hs]; exact Int.emod_nonneg _ n0
  have s1 : s < n := by rw [← hs]; exact Int.emod_lt_of_pos _ (by omega)
  have f1 : IntKind.i64.wrap (x + n) = x + n := IntWalk.i64_in _ ⟨by omega, by omega⟩
  have f2 : y.tmod n = s := by rw [Int.tmod_eq_emod_of_nonneg y0, hs]
  have f3 : IntKind.i64.wrap (x + n - s) = x + n - s := IntWalk.i64_in _ ⟨by omega, by omega⟩
  have f4 : (x + n - s).tmod n = k := by rw [Int.tmod_eq_emod_of_nonneg (by omega), ← hs]; exact hk
  clear hs
  have p1 : 0 ≤ k * r := Int.mul_nonneg k0 (by omega)
  have p2 : k * r ≤ 7 * 16 := Int.mul_le_mul (by omega) g6 (by omega) (by omega)
  have p3 : 0 ≤ (k * r + y) * d := Int.mul_nonneg (by omega) (by omega)
  have p4 : (k * r + y) * d ≤ 128 * 8 := Int.mul_le_mul (by omega) g8 (by omega) (by omega)
  have e1 : IntKind.i64.wrap (k * r) = k * r := IntWalk.i64_in _ ⟨by omega, by omega⟩
  have e2 : IntKind.i64.wrap (k * r + y) = k * r + y := IntWalk.i64_in _ ⟨by omega, by omega⟩
  have e3 : IntKind.i64.wrap ((k * r + y) * d) = (k * r + y) * d := IntWalk.i64_in _ ⟨by omega, by omega⟩
  have e4 : IntKind.i64.wrap ((k * r + y) * d + z) = (k * r + y) * d + z := IntWalk.i64_in _ ⟨by omega, by omega⟩
  have HF : Hid (lineF a b r d 2 true x y z = (k * r + y) * d + z) := by show _ = _; rw [HE.out]; unfold lineOrd; rw [if_neg (by decide), if_neg (by decide)]
  clear hk p1 p2 p3 p4
  go_enter Try.func24, Try.ntmps24
  go_wp2_with fail
  refine (specMappingOk_is _ _ _ KO.out _).mono ?_
  rintro e w2 ⟨rfl, hb2⟩
  have r2 := keep_block hb2 r1 (lt_of_block r1)
  have g2 := keep_block hb2 g1 (lt_of_block g1)
  have m2 := keep_block hb2 m1 (lt_of_block m1)
  have HB2 : Hid (Below w.heap.size w w2) := HB1.out.trans (hb2.mono HB1.out.size)
  clear hb2 r1 g1 m1 hw1 HB1 cm0 cm1
  obtain ⟨cg0, cg1, cg2, cg3⟩ := cells4 g2
  obtain ⟨cr0, cr1, cr2⟩ := cells3 r2
  go_wp2_with fail
  refine (specAddrOk_is _ _ _ _ _ _ _ _ KA.out _).mono ?_
  rintro e w3 ⟨rfl, hb3⟩
  have r3 := keep_block hb3 r2 (lt_of_block r2)
  have g3 := keep_block hb3 g2 (lt_of_block g2)
  have m3 := keep_block hb3 m2 (lt_of_block m2)
  have HB3 : Hid (Below w.heap.size w w3) := HB2.out.trans (hb3.mono HB2.out.size)
  clear hb3 r2 g2 m2 HB2 cg0 cg1 cg2 cg3 cr0 cr1 cr2
  obtain ⟨cg0, cg1, cg2, cg3⟩ := cells4 g3
  go_wp2_with fail
  refine (specBank_is _ _ _ _ _ HN.out _).mono ?_
  rintro e w4 ⟨rfl, hb4⟩
  have r4 := keep_block hb4 r3 (lt_of_block r3)
  have g4 := keep_block hb4 g3 (lt_of_block g3)
  have m4 := keep_block hb4 m3 (lt_of_block m3)
  have HB4 : Hid (Below w.heap.size w w4) := HB3.out.trans (hb4.mono HB3.out.size)
  clear hb4 r3 g3 m3 HB3 cg0 cg1 cg2 cg3
  obtain ⟨cg0, cg1, cg2, cg3⟩ := cells4 g4
  obtain ⟨cm0, cm1⟩ := cells2 m4
  obtain ⟨cr0, cr1, cr2⟩ := cells3 r4
  have v0 := fun zz : Later w4 => zz.cell cr0
  have v1 := fun zz : Later w4 => zz.cell cr1
  go_wp2_with fail
  refine wp_region_later_tail 12 (by kernel_rfl) (by kernel_rfl) ?_
  simp only [List.take_succ_cons, List.take_zero, List.drop_succ_cons, List.drop_zero]
  repeat (go_big_quiet_step (fail))
  refine wpQuiet_nil ?_
  rintro w5 ⟨q5, hq5⟩
  have hb5 : Below w4.heap.size w4 w5 := hq5 ▸ q5.ok
  have r5 := keep_block hb5 r4 (lt_of_block r4)
  have g5' := keep_block hb5 g4 (lt_of_block g4)
  have m5 := keep_block hb5 m4 (lt_of_block m4)
  have HB5 : Hid (Below w.heap.size w w5) := HB4.out.trans (hb5.mono HB4.out.size)
  clear hq5 q5 hb5 r4 g4 m4 HB4 cg0 cg1 cg2 cg3 cm0 cm1 cr0 cr1 cr2 v0 v1
  obtain ⟨cg0, cg1, cg2, cg3⟩ := cells4 g5'
  obtain ⟨cm0, cm1⟩ := cells2 m5
  obtain ⟨cr0, cr1, cr2⟩ := cells3 r5
  have u0 := thawed r5 0
  clear r5 g5' m5
  go_wp2
  go_ret
  refine ⟨ret_i HF.out.symm, ?_⟩
  have h1 := HB5.out.size
  repeat' (first | refine Below.setCell ?_ (by simp <;> omega) _ | refine Below.drew ?_ | exact HB5.out)

set_option maxHeartbeats 4000000 in
theorem specLineOf_is (a b r d o : Int) (h : Bool) (x y z : Int) (w : World) :
    Calls Try.prog 24 #[.agg #[.int .i64 a, .int .i64 b, .int .i64 r, .int .i64 d], .agg #[.int .i64 o, .bool h], .agg #[.int .i64 x, .int .i64 y, .int .i64 z]] w (Gives (.int .i64 (lineF a b r d o h x y z)) w) := by
  by_cases ko : 0 ≤ o ∧ o ≤ 2
  case neg =>
    have HE : Hid (lineF a b r d o h x y z = -1) := by show _ = _; exact if_neg (fun hh => ko hh.1)
    have KO := Lib.hid (decide_eq_false ko)
    clear ko
    obtain ⟨w1, hw1⟩ : ∃ u, ((w.alloc (.cells #[.int .i64 a, .int .i64 b, .int .i64 r, .int .i64 d] 25)).alloc (.cells #[.int .i64 o, .bool h] 27)).alloc (.cells #[.int .i64 x, .int .i64 y, .int .i64 z] 37) = u := ⟨_, rfl⟩
    have HB1 : Hid (Below w.heap.size w w1) := by subst hw1; exact (((Below.refl _ _).alloc (by simp) _).alloc (by simp) _).alloc (by simp; omega) _
    have m1 : w1.heap[w.heap.size + 1]? = some (.cells #[.int .i64 o, .bool h] 27) := by subst hw1; exact box3_1 _ _ _ _
    obtain ⟨cm0, cm1⟩ := cells2 m1
    go_enter Try.func24, Try.ntmps24
    go_wp2_with fail
    refine (specMappingOk_is _ _ _ KO.out _).mono ?_
    rintro e w2 ⟨rfl, hb2⟩
    have HB2 : Hid (Below w.heap.size w w2) := HB1.out.trans (hb2.mono HB1.out.size)
    clear hb2 m1 hw1 HB1 cm0 cm1
    go_wp2
    go_ret
    exact ⟨ret_i HE.out.symm, HB2.out⟩
  case pos =>
    by_cases ka : AdOk a b r d x y z
    case neg =>
      have HE : Hid (lineF a b r d o h x y z = -1) := by show _ = _; exact if_neg (fun hh => ka hh.2)
      have KO := Lib.hid (decide_eq_true ko)
      have KA := Lib.hid (decide_eq_false ka)
      clear ko ka
      obtain ⟨w1, hw1⟩ : ∃ u, ((w.alloc (.cells #[.int .i64 a, .int .i64 b, .int .i64 r, .int .i64 d] 25)).alloc (.cells #[.int .i64 o, .bool h] 27)).alloc (.cells #[.int .i64 x, .int .i64 y, .int .i64 z] 37) = u := ⟨_, rfl⟩
      have HB1 : Hid (Below w.heap.size w w1) := by subst hw1; exact (((Below.refl _ _).alloc (by simp) _).alloc (by simp) _).alloc (by simp; omega) _
      have g1 : w1.heap[w.heap.size]? = some (.cells #[.int .i64 a, .int .i64 b, .int .i64 r, .int .i64 d] 25) := by subst hw1; exact box3_0 _ _ _ _
      have m1 : w1.heap[w.heap.size + 1]? = some (.cells #[.int .i64 o, .bool h] 27) := by subst hw1; exact box3_1 _ _ _ _
      have r1 : w1.heap[w.heap.size + 1 + 1]? = some (.cells #[.int .i64 x, .int .i64 y, .int .i64 z] 37) := by subst hw1; exact box3_2 _ _ _ _
      obtain ⟨cm0, cm1⟩ := cells2 m1
      go_enter Try.func24, Try.ntmps24
      go_wp2_with fail
      refine (specMappingOk_is _ _ _ KO.out _).mono ?_
      rintro e w2 ⟨rfl, hb2⟩
      have r2 := keep_block hb2 r1 (lt_of_block r1)
      have g2 := keep_block hb2 g1 (lt_of_block g1)
      have HB2 : Hid (Below w.heap.size w w2) := HB1.out.trans (hb2.mono HB1.out.size)
      clear hb2 r1 g1 m1 hw1 HB1 cm0 cm1
      obtain ⟨cg0, cg1, cg2, cg3⟩ := cells4 g2
      obtain ⟨cr0, cr1, cr2⟩ := cells3 r2
      go_wp2_with fail
      refine (specAddrOk_is _ _ _ _ _ _ _ _ KA.out _).mono ?_
      rintro e w3 ⟨rfl, hb3⟩
      have HB3 : Hid (Below w.heap.size w w3) := HB2.out.trans (hb3.mono HB2.out.size)
      clear hb3 r2 g2 HB2 cg0 cg1 cg2 cg3 cr0 cr1 cr2
      go_wp2
      go_ret
      exact ⟨ret_i HE.out.symm, HB3.out⟩
    case pos =>
      have ko3 : o = 0 ∨ o = 1 ∨ o = 2 := by omega
      rcases ko3 with rfl | rfl | rfl
      · cases h
        · exact specLineOf_0_false a b r d x y z ka w
        · exact specLineOf_0_true a b r d x y z ka w
      · cases h
        · exact specLineOf_1_false a b r d x y z ka w
        · exact specLineOf_1_true a b r d x y z ka w
      · cases h
        · exact specLineOf_2_false a b r d x y z ka w
        · exact specLineOf_2_true a b r d x y z ka w

end Go.Proofs.Ytdgaggcjimafbaa
