/-
  The model's mapping of line numbers to addresses and back.
-/
import Derived.Test.YtdgaggcjimafbaaMade
import Derived.Test.YtdgaggcjimafbaaTail
import Derived.Test.YtdgaggcjimafbaaGeoW
namespace Go.Proofs.Ytdgaggcjimafbaa
open Go.RowKit

set_option linter.unusedVariables false

theorem specMappingOk_is (o : Int) (h : Bool) (v : Bool) (hv : decide (0 ≤ o ∧ o ≤ 2) = v) (w : World) :
    Calls Try.prog 19 #[.agg #[.int .i64 o, .bool h]] w (Gives (.bool v) w) := by
  have HV := Lib.hid hv
  clear hv
  go_enter Try.func19, Try.ntmps19
  go_wp2_with fail
  refine (specIn_is _ _ _ _ HV.out _).mono ?_
  rintro e w' ⟨rfl, rfl⟩
  go_wp2
  go_ret
  refine ⟨rfl, ?_⟩
  repeat' (first | exact Below.refl _ _ | refine Below.drew ?_ | refine Below.alloc ?_ (by simp <;> omega) _ | refine Below.setCell ?_ (by simp <;> omega) _)

/-- The parts of a line number: n banks, r rows, d columns. -/
def mapBank (o d r n l : Int) : Int := if o = 0 then l / d % n else if o = 1 then l % n else l / d / r
def mapRow (o d r n l : Int) : Int := if o = 0 then l / d / n else if o = 1 then l / n / d else l / d % r
def mapCol (o d r n l : Int) : Int := if o = 1 then l / n % d else l % d
def mapHash (h : Bool) (x y n : Int) : Int := if h then (x + y) % n else x

/-- The address of a line number, as the chapter says it. -/
def mapF (a b r d o : Int) (h : Bool) (l : Int) : Value :=
  if (0 ≤ o ∧ o ≤ 2) ∧ LnOk a b r d l then
    adV (mapHash h (mapBank o d r (bankN a b r d) l) (mapRow o d r (bankN a b r d) l) (bankN a b r d)) (mapRow o d r (bankN a b r d) l) (mapCol o d r (bankN a b r d) l) true
  else adV 0 0 0 false

theorem LnOk.bank {a b r d l : Int} (h : LnOk a b r d l) : 1 ≤ bankN a b r d := by
  have hb := bankN_range a b r d
  refine Int.not_lt.1 fun hlt => ?_
  have : bankN a b r d = 0 := by omega
  obtain ⟨h0, h1⟩ := h
  unfold lineN at h1
  rw [this, Int.zero_mul, Int.zero_mul] at h1
  omega


set_option maxHeartbeats 4000000 in
theorem specMapLine_0_false (a b r d l : Int) (kl : LnOk a b r d l) (w : World) :
    Calls Try.prog 21 #[.agg #[.int .i64 a, .int .i64 b, .int .i64 r, .int .i64 d], .agg #[.int .i64 0, .bool false], .int .i64 l] w (Gives (mapF a b r d 0 false l) w) := by
  obtain ⟨w1, hw1⟩ : ∃ x, ((w.alloc (.cells #[.int .i64 a, .int .i64 b, .int .i64 r, .int .i64 d] 25)).alloc (.cells #[.int .i64 0, .bool false] 27)).alloc (.cells #[.int .i64 0, .int .i64 0, .int .i64 0] 37) = x := ⟨_, rfl⟩
  have HB1 : Hid (Below w.heap.size w w1) := by subst hw1; exact (((Below.refl _ _).alloc (by simp) _).alloc (by simp) _).alloc (by simp; omega) _
  have g1 : w1.heap[w.heap.size]? = some (.cells #[.int .i64 a, .int .i64 b, .int .i64 r, .int .i64 d] 25) := by subst hw1; exact box3_0 _ _ _ _
  have m1 : w1.heap[w.heap.size + 1]? = some (.cells #[.int .i64 0, .bool false] 27) := by subst hw1; exact box3_1 _ _ _ _
  have r1 : w1.heap[w.heap.size + 1 + 1]? = some (.cells #[.int .i64 0, .int .i64 0, .int .i64 0] 37) := by subst hw1; exact box3_2 _ _ _ _
  obtain ⟨cg0, cg1, cg2, cg3⟩ := cells4 g1
  obtain ⟨cm0, cm1⟩ := cells2 m1
  have KO := Lib.hid (decide_eq_true (show (0 : Int) ≤ 0 ∧ (0 : Int) ≤ 2 by decide))
  obtain ⟨m, hm⟩ : ∃ m, lineN a b r d = m := ⟨_, rfl⟩
  have HM := Lib.hid hm
  have hmr := lineN_range a b r d
  rw [hm] at hmr
  have e1 : IntKind.i64.wrap (m - 1) = m - 1 := IntWalk.i64_in _ ⟨by omega, by omega⟩
  have KL : Hid (decide (0 ≤ l ∧ l ≤ m - 1) = true) := by show _ = _; rw [← hm]; exact decide_eq_true kl
  have hn1 := kl.bank
  have hn2 := bankN_range a b r d
  obtain ⟨n, hn⟩ : ∃ n, bankN a b r d = n := ⟨_, rfl⟩
  have HN := Lib.hid hn
  rw [hn] at hn1 hn2
  obtain ⟨_, _, ⟨g5, g6⟩, ⟨g7, g8⟩⟩ := kl.geo
  have l0 := kl.1
  have l1 : l ≤ 1024 := by have := kl.2; rw [hm] at this; omega
  have HE : Hid (mapF a b r d 0 false l = adV (mapHash false (mapBank 0 d r n l) (mapRow 0 d r n l) n) (mapRow 0 d r n l) (mapCol 0 d r n l) true) := by
    show _ = _
    rw [← hn]; exact if_pos ⟨by decide, kl⟩
  have d0 : ¬ d = 0 := by omega
  have n0 : ¬ n = 0 := by omega
  have r0 : ¬ r = 0 := by omega
  clear kl hm hn
  obtain ⟨q, hq⟩ : ∃ q, l / d = q := ⟨_, rfl⟩
  have q0 : 0 ≤ q := by rw [← hq]; exact Int.ediv_nonneg l0 (by omega)
  have q1 : q ≤ l := by rw [← hq]; exact Int.ediv_le_self _ l0
  obtain ⟨x, hx⟩ : ∃ x, q % n = x := ⟨_, rfl⟩
  obtain ⟨y, hy⟩ : ∃ y, q / n = y := ⟨_, rfl⟩
  obtain ⟨z, hz⟩ : ∃ z, l % d = z := ⟨_, rfl⟩
  have x0 : 0 ≤ x := by rw [← hx]; exact Int.emod_nonneg _ n0
  have x1 : x < n := by rw [← hx]; exact Int.emod_lt_of_pos _ (by omega)
  have y0' : 0 ≤ y := by rw [← hy]; exact Int.ediv_nonneg q0 (by omega)
  have y1' : y ≤ q := by rw [← hy]; exact Int.ediv_le_self _ q0
  have f1 : l.tdiv d = q := by rw [Int.tdiv_eq_ediv_of_nonneg l0, hq]
  have f2 : IntKind.i64.wrap q = q := IntWalk.i64_in _ ⟨by omega, by omega⟩
  have f3 : q.tdiv n = y := by rw [Int.tdiv_eq_ediv_of_nonneg q0, hy]
  have f4 : IntKind.i64.wrap y = y := IntWalk.i64_in _ ⟨by omega, by omega⟩
  have f5 : q.tmod n = x := by rw [Int.tmod_eq_emod_of_nonneg q0, hx]
  have f6 : l.tmod d = z := by rw [Int.tmod_eq_emod_of_nonneg l0, hz]
  have hbk : mapBank 0 d r n l = x := by unfold mapBank; rw [if_pos rfl, hq, hx]
  have hrw : mapRow 0 d r n l = y := by unfold mapRow; rw [if_pos rfl, hq, hy]
  have hcl : mapCol 0 d r n l = z := by unfold mapCol; rw [if_neg (by decide), hz]
  have hh : mapHash false x y n = x := rfl
  rw [hbk, hrw, hcl, hh] at HE
  clear hq hx hy hz hbk hrw hcl hh
  go_enter Try.func21, Try.ntmps21
  go_wp2_with fail
  refine (specMappingOk_is _ _ _ KO.out _).mono ?_
  rintro e w2 ⟨rfl, hb2⟩
  have r2 := keep_block hb2 r1 (lt_of_block r1)
  have g2 := keep_block hb2 g1 (lt_of_block g1)
  have m2 := keep_block hb2 m1 (lt_of_block m1)
  have HB2 : Hid (Below w.heap.size w w2) := HB1.out.trans (hb2.mono HB1.out.size)
  clear hb2 r1 g1 m1 hw1 HB1 cg0 cg1 cg2 cg3 cm0 cm1
  obtain ⟨cg0, cg1, cg2, cg3⟩ := cells4 g2
  go_wp2_with fail
  refine (specLine_is _ _ _ _ _ HM.out _).mono ?_
  rintro e w3 ⟨rfl, hb3⟩
  have r3 := keep_block hb3 r2 (lt_of_block r2)
  have g3 := keep_block hb3 g2 (lt_of_block g2)
  have m3 := keep_block hb3 m2 (lt_of_block m2)
  have HB3 : Hid (Below w.heap.size w w3) := HB2.out.trans (hb3.mono HB2.out.size)
  clear hb3 r2 g2 m2 HB2 cg0 cg1 cg2 cg3
  obtain ⟨cg0, cg1, cg2, cg3⟩ := cells4 g3
  go_wp2_with fail
  refine (specIn_is _ _ _ _ KL.out _).mono ?_
  rintro e w' ⟨rfl, rfl⟩
  go_wp2_with fail
  refine (specBank_is _ _ _ _ _ HN.out _).mono ?_
  rintro e w4 ⟨rfl, hb4⟩
  have r4 := keep_block hb4 r3 (lt_of_block r3)
  have g4 := keep_block hb4 g3 (lt_of_block g3)
  have m4 := keep_block hb4 m3 (lt_of_block m3)
  have HB4 : Hid (Below w.heap.size w w4) := HB3.out.trans (hb4.mono HB3.out.size)
  clear hb4 r3 g3 m3 HB3 cg0 cg1 cg2 cg3
  have lr := lt_of_block r4
  have lg := lt_of_block g4
  have lm := lt_of_block m4
  obtain ⟨cm0, cm1⟩ := cells2 m4
  go_wp2_with fail
  generalize hw5 : w4.alloc (.cells #[.int .i64 0, .int .i64 0, .int .i64 0] 37) = w5
  clear cm0 cm1
  have hb5 : Below w4.heap.size w4 w5 := by subst hw5; exact (Below.refl _ _).alloc (Nat.le_refl _) _
  have t5 : w5.heap[w4.heap.size]? = some (.cells #[.int .i64 0, .int .i64 0, .int .i64 0] 37) := by subst hw5; exact heap_alloc_new _ _
  have r5 := keep_block hb5 r4 lr
  have g5' := keep_block hb5 g4 lg
  have m5 := keep_block hb5 m4 lm
  have HB : Hid (Below w.heap.size w w5) := HB4.out.trans (hb5.mono HB4.out.size)
  have HS4 := Lib.hid HB4.out.size
  clear hb5 r4 g4 m4 HB4
  obtain ⟨cg0, cg1, cg2, cg3⟩ := cells4 g5'
  obtain ⟨cm0, cm1⟩ := cells2 m5
  obtain ⟨y0, y1, y2⟩ := cells3 r5
  obtain ⟨t50, t51, t52⟩ := cells3 t5
  have z0 := thawed r5 0
  have z1 := thawed r5 1
  have z2 := thawed r5 2
  have u0 := thawed t5 0
  have u1 := thawed t5 1
  have u2 := thawed t5 2
  have v0 := fun zz : Later w5 => zz.cell cg0
  have v1 := fun zz : Later w5 => zz.cell cg1
  have v2 := fun zz : Later w5 => zz.cell cg2
  have v3 := fun zz : Later w5 => zz.cell cg3
  refine wp_region_later_tail 17 (by kernel_rfl) (by kernel_rfl) ?_
  simp only [List.take_succ_cons, List.take_zero, List.drop_succ_cons, List.drop_zero]
  repeat (go_big_quiet_step (fail))
  refine wpQuiet_nil ?_
  rintro w6 ⟨q6, hq6⟩
  have hb6 : Below w5.heap.size w5 w6 := hq6 ▸ q6.ok
  have r6 := keep_block hb6 r5 (lt_of_block r5)
  have m6 := keep_block hb6 m5 (lt_of_block m5)
  have t6 := keep_block hb6 t5 (lt_of_block t5)
  have HB6 : Hid (Below w.heap.size w w6) := HB.out.trans (hb6.mono HB.out.size)
  clear hq6 q6 hb6 r5 g5' m5 t5 cg0 cg1 cg2 cg3 cm0 cm1 y0 y1 y2 t50 t51 t52 z0 z1 z2 u0 u1 u2 v0 v1 v2 v3 HB
  have HB := HB6
  obtain ⟨cm0, cm1⟩ := cells2 m6
  obtain ⟨y0, y1, y2⟩ := cells3 r6
  obtain ⟨t50, t51, t52⟩ := cells3 t6
  have z0 := thawed r6 0
  have z1 := thawed r6 1
  have z2 := thawed r6 2
  have u0 := thawed t6 0
  have u1 := thawed t6 1
  have u2 := thawed t6 2
  clear r6 m6 t6
  go_wp2
  (try simp only [Exit.inBlock, Exit.then])
  refine bodyPost_ret (v := adV x y z true) ?_ rfl ⟨by rw [HE.out], ?_⟩
  · rw [results_cell_tmp rfl]
    go_simp
    rfl
  · have h1 := HB.out.size
    have h2 := HS4.out
    repeat' (first | refine Below.setCell ?_ (by simp <;> omega) _ | refine Below.drew ?_ | exact HB.out)

set_option maxHeartbeats 4000000 in
theorem specMapLine_0_true (a b r d l : Int) (kl : LnOk a b r d l) (w : World) :
    Calls Try.prog 21 #[.agg #[.int .i64 a, .int .i64 b, .int .i64 r, .int .i64 d], .agg #[.int .i64 0, .bool true], .int .i64 l] w (Gives (mapF a b r d 0 true l) w) := by
  obtain ⟨w1, hw1⟩ : ∃ x, ((w.alloc (.cells #[.int .i64 a, .int .i64 b, .int .i64 r, .int .i64 d] 25)).alloc (.cells #[.int .i64 0, .bool true] 27)).alloc (.cells #[.int .i64 0, .int .i64 0, .int .i64 0] 37) = x := ⟨_, rfl⟩
  have HB1 : Hid (Below w.heap.size w w1) := by subst hw1; exact (((Below.refl _ _).alloc (by simp) _).alloc (by simp) _).alloc (by simp; omega) _
  have g1 : w1.heap[w.heap.size]? = some (.cells #[.int .i64 a, .int .i64 b, .int .i64 r, .int .i64 d] 25) := by subst hw1; exact box3_0 _ _ _ _
  have m1 : w1.heap[w.heap.size + 1]? = some (.cells #[.int .i64 0, .bool true] 27) := by subst hw1; exact box3_1 _ _ _ _
  have r1 : w1.heap[w.heap.size + 1 + 1]? = some (.cells #[.int .i64 0, .int .i64 0, .int .i64 0] 37) := by subst hw1; exact box3_2 _ _ _ _
  obtain ⟨cg0, cg1, cg2, cg3⟩ := cells4 g1
  obtain ⟨cm0, cm1⟩ := cells2 m1
  have KO := Lib.hid (decide_eq_true (show (0 : Int) ≤ 0 ∧ (0 : Int) ≤ 2 by decide))
  obtain ⟨m, hm⟩ : ∃ m, lineN a b r d = m := ⟨_, rfl⟩
  have HM := Lib.hid hm
  have hmr := lineN_range a b r d
  rw [hm] at hmr
  have e1 : IntKind.i64.wrap (m - 1) = m - 1 := IntWalk.i64_in _ ⟨by omega, by omega⟩
  have KL : Hid (decide (0 ≤ l ∧ l ≤ m - 1) = true) := by show _ = _; rw [← hm]; exact decide_eq_true kl
  have hn1 := kl.bank
  have hn2 := bankN_range a b r d
  obtain ⟨n, hn⟩ : ∃ n, bankN a b r d = n := ⟨_, rfl⟩
  have HN := Lib.hid hn
  rw [hn] at hn1 hn2
  obtain ⟨_, _, ⟨g5, g6⟩, ⟨g7, g8⟩⟩ := kl.geo
  have l0 := kl.1
  have l1 : l ≤ 1024 := by have := kl.2; rw [hm] at this; omega
  have HE : Hid (mapF a b r d 0 true l = adV (mapHash true (mapBank 0 d r n l) (mapRow 0 d r n l) n) (mapRow 0 d r n l) (mapCol 0 d r n l) true) := by
    show _ = _
    rw [← hn]; exact if_pos ⟨by decide, kl⟩
  have d0 : ¬ d = 0 := by omega
  have n0 : ¬ n = 0 := by omega
  have r0 : ¬ r = 0 := by omega
  clear kl hm hn
  obtain ⟨q, hq⟩ : ∃ q, l / d = q := ⟨_, rfl⟩
  have q0 : 0 ≤ q := by rw [← hq]; exact Int.ediv_nonneg l0 (by omega)
  have q1 : q ≤ l := by rw [← hq]; exact Int.ediv_le_self _ l0
  obtain ⟨x, hx⟩ : ∃ x, q % n = x := ⟨_, rfl⟩
  obtain ⟨y, hy⟩ : ∃ y, q / n = y := ⟨_, rfl⟩
  obtain ⟨z, hz⟩ : ∃ z, l % d = z := ⟨_, rfl⟩
  have x0 : 0 ≤ x := by rw [← hx]; exact Int.emod_nonneg _ n0
  have x1 : x < n := by rw [← hx]; exact Int.emod_lt_of_pos _ (by omega)
  have y0' : 0 ≤ y := by rw [← hy]; exact Int.ediv_nonneg q0 (by omega)
  have y1' : y ≤ q := by rw [← hy]; exact Int.ediv_le_self _ q0
  have f1 : l.tdiv d = q := by rw [Int.tdiv_eq_ediv_of_nonneg l0, hq]
  have f2 : IntKind.i64.wrap q = q := IntWalk.i64_in _ ⟨by omega, by omega⟩
  have f3 : q.tdiv n = y := by rw [Int.tdiv_eq_ediv_of_nonneg q0, hy]
  have f4 : IntKind.i64.wrap y = y := IntWalk.i64_in _ ⟨by omega, by omega⟩
  have f5 : q.tmod n = x := by rw [Int.tmod_eq_emod_of_nonneg q0, hx]
  have f6 : l.tmod d = z := by rw [Int.tmod_eq_emod_of_nonneg l0, hz]
  have hbk : mapBank 0 d r n l = x := by unfold mapBank; rw [if_pos rfl, hq, hx]
  have hrw : mapRow 0 d r n l = y := by unfold mapRow; rw [if_pos rfl, hq, hy]
  have hcl : mapCol 0 d r n l = z := by unfold mapCol; rw [if_neg (by decide), hz]
  obtain ⟨v, hv⟩ : ∃ v, (x + y) % n = v := ⟨_, rfl⟩
  have hh : mapHash true x y n = v := hv
  have f7 : IntKind.i64.wrap (x + y) = x + y := IntWalk.i64_in _ ⟨by omega, by omega⟩
  have f8 : (x + y).tmod n = v := by rw [Int.tmod_eq_emod_of_nonneg (by omega), hv]
  rw [hbk, hrw, hcl, hh] at HE
  clear hq hx hy hz hbk hrw hcl hh hv
  go_enter Try.func21, Try.ntmps21
  go_wp2_with fail
  refine (specMappingOk_is _ _ _ KO.out _).mono ?_
  rintro e w2 ⟨rfl, hb2⟩
  have r2 := keep_block hb2 r1 (lt_of_block r1)
  have g2 := keep_block hb2 g1 (lt_of_block g1)
  have m2 := keep_block hb2 m1 (lt_of_block m1)
  have HB2 : Hid (Below w.heap.size w w2) := HB1.out.trans (hb2.mono HB1.out.size)
  clear hb2 r1 g1 m1 hw1 HB1 cg0 cg1 cg2 cg3 cm0 cm1
  obtain ⟨cg0, cg1, cg2, cg3⟩ := cells4 g2
  go_wp2_with fail
  refine (specLine_is _ _ _ _ _ HM.out _).mono ?_
  rintro e w3 ⟨rfl, hb3⟩
  have r3 := keep_block hb3 r2 (lt_of_block r2)
  have g3 := keep_block hb3 g2 (lt_of_block g2)
  have m3 := keep_block hb3 m2 (lt_of_block m2)
  have HB3 : Hid (Below w.heap.size w w3) := HB2.out.trans (hb3.mono HB2.out.size)
  clear hb3 r2 g2 m2 HB2 cg0 cg1 cg2 cg3
  obtain ⟨cg0, cg1, cg2, cg3⟩ := cells4 g3
  go_wp2_with fail
  refine (specIn_is _ _ _ _ KL.out _).mono ?_
  rintro e w' ⟨rfl, rfl⟩
  go_wp2_with fail
  refine (specBank_is _ _ _ _ _ HN.out _).mono ?_
  rintro e w4 ⟨rfl, hb4⟩
  have r4 := keep_block hb4 r3 (lt_of_block r3)
  have g4 := keep_block hb4 g3 (lt_of_block g3)
  have m4 := keep_block hb4 m3 (lt_of_block m3)
  have HB4 : Hid (Below w.heap.size w w4) := HB3.out.trans (hb4.mono HB3.out.size)
  clear hb4 r3 g3 m3 HB3 cg0 cg1 cg2 cg3
  have lr := lt_of_block r4
  have lg := lt_of_block g4
  have lm := lt_of_block m4
  obtain ⟨cm0, cm1⟩ := cells2 m4
  go_wp2_with fail
  generalize hw5 : w4.alloc (.cells #[.int .i64 0, .int .i64 0, .int .i64 0] 37) = w5
  clear cm0 cm1
  have hb5 : Below w4.heap.size w4 w5 := by subst hw5; exact (Below.refl _ _).alloc (Nat.le_refl _) _
  have t5 : w5.heap[w4.heap.size]? = some (.cells #[.int .i64 0, .int .i64 0, .int .i64 0] 37) := by subst hw5; exact heap_alloc_new _ _
  have r5 := keep_block hb5 r4 lr
  have g5' := keep_block hb5 g4 lg
  have m5 := keep_block hb5 m4 lm
  have HB : Hid (Below w.heap.size w w5) := HB4.out.trans (hb5.mono HB4.out.size)
  have HS4 := Lib.hid HB4.out.size
  clear hb5 r4 g4 m4 HB4
  obtain ⟨cg0, cg1, cg2, cg3⟩ := cells4 g5'
  obtain ⟨cm0, cm1⟩ := cells2 m5
  obtain ⟨y0, y1, y2⟩ := cells3 r5
  obtain ⟨t50, t51, t52⟩ := cells3 t5
  have z0 := thawed r5 0
  have z1 := thawed r5 1
  have z2 := thawed r5 2
  have u0 := thawed t5 0
  have u1 := thawed t5 1
  have u2 := thawed t5 2
  have v0 := fun zz : Later w5 => zz.cell cg0
  have v1 := fun zz : Later w5 => zz.cell cg1
  have v2 := fun zz : Later w5 => zz.cell cg2
  have v3 := fun zz : Later w5 => zz.cell cg3
  refine wp_region_later_tail 17 (by kernel_rfl) (by kernel_rfl) ?_
  simp only [List.take_succ_cons, List.take_zero, List.drop_succ_cons, List.drop_zero]
  repeat (go_big_quiet_step (fail))
  refine wpQuiet_nil ?_
  rintro w6 ⟨q6, hq6⟩
  have hb6 : Below w5.heap.size w5 w6 := hq6 ▸ q6.ok
  have r6 := keep_block hb6 r5 (lt_of_block r5)
  have m6 := keep_block hb6 m5 (lt_of_block m5)
  have t6 := keep_block hb6 t5 (lt_of_block t5)
  have HB6 : Hid (Below w.heap.size w w6) := HB.out.trans (hb6.mono HB.out.size)
  clear hq6 q6 hb6 r5 g5' m5 t5 cg0 cg1 cg2 cg3 cm0 cm1 y0 y1 y2 t50 t51 t52 z0 z1 z2 u0 u1 u2 v0 v1 v2 v3 HB
  have HB := HB6
  obtain ⟨cm0, cm1⟩ := cells2 m6
  obtain ⟨y0, y1, y2⟩ := cells3 r6
  obtain ⟨t50, t51, t52⟩ := cells3 t6
  have z0 := thawed r6 0
  have z1 := thawed r6 1
  have z2 := thawed r6 2
  have u0 := thawed t6 0
  have u1 := thawed t6 1
  have u2 := thawed t6 2
  clear r6 m6 t6
  go_wp2
  (try simp only [Exit.inBlock, Exit.then])
  refine bodyPost_ret (v := adV v y z true) ?_ rfl ⟨by rw [HE.out], ?_⟩
  · rw [results_cell_tmp rfl]
    go_simp
    rfl
  · have h1 := HB.out.size
    have h2 := HS4.out
    repeat' (first | refine Below.setCell ?_ (by simp <;> omega) _ | refine Below.drew ?_ | exact HB.out)

set_option maxHeartbeats 4000000 in
theorem specMapLine_1_false (a b r d l : Int) (kl : LnOk a b r d l) (w : World) :
    Calls Try.prog 21 #[.agg #[.int .i64 a, .int .i64 b, .int .i64 r, .int .i64 d], .agg #[.int .i64 1, .bool false], .int .i64 l] w (Gives (mapF a b r d 1 false l) w) := by
  obtain ⟨w1, hw1⟩ : ∃ x, ((w.alloc (.cells #[.int .i64 a, .int .i64 b, .int .i64 r, .int .i64 d] 25)).alloc (.cells #[.int .i64 1, .bool false] 27)).alloc (.cells #[.int .i64 0, .int .i64 0, .int .i64 0] 37) = x := ⟨_, rfl⟩
  have HB1 : Hid (Below w.heap.size w w1) := by subst hw1; exact (((Below.refl _ _).alloc (by simp) _).alloc (by simp) _).alloc (by simp; omega) _
  have g1 : w1.heap[w.heap.size]? = some (.cells #[.int .i64 a, .int .i64 b, .int .i64 r, .int .i64 d] 25) := by subst hw1; exact box3_0 _ _ _ _
  have m1 : w1.heap[w.heap.size + 1]? = some (.cells #[.int .i64 1, .bool false] 27) := by subst hw1; exact box3_1 _ _ _ _
  have r1 : w1.heap[w.heap.size + 1 + 1]? = some (.cells #[.int .i64 0, .int .i64 0, .int .i64 0] 37) := by subst hw1; exact box3_2 _ _ _ _
  obtain ⟨cg0, cg1, cg2, cg3⟩ := cells4 g1
  obtain ⟨cm0, cm1⟩ := cells2 m1
  have KO := Lib.hid (decide_eq_true (show (0 : Int) ≤ 1 ∧ (1 : Int) ≤ 2 by decide))
  obtain ⟨m, hm⟩ : ∃ m, lineN a b r d = m := ⟨_, rfl⟩
  have HM := Lib.hid hm
  have hmr := lineN_range a b r d
  rw [hm] at hmr
  have e1 : IntKind.i64.wrap (m - 1) = m - 1 := IntWalk.i64_in _ ⟨by omega, by omega⟩
  have KL : Hid (decide (0 ≤ l ∧ l ≤ m - 1) = true) := by show _ = _; rw [← hm]; exact decide_eq_true kl
  have hn1 := kl.bank
  have hn2 := bankN_range a b r d
  obtain ⟨n, hn⟩ : ∃ n, bankN a b r d = n := ⟨_, rfl⟩
  have HN := Lib.hid hn
  rw [hn] at hn1 hn2
  obtain ⟨_, _, ⟨g5, g6⟩, ⟨g7, g8⟩⟩ := kl.geo
  have l0 := kl.1
  have l1 : l ≤ 1024 := by have := kl.2; rw [hm] at this; omega
  have HE : Hid (mapF a b r d 1 false l = adV (mapHash false (mapBank 1 d r n l) (mapRow 1 d r n l) n) (mapRow 1 d r n l) (mapCol 1 d r n l) true) := by
    show _ = _
    rw [← hn]; exact if_pos ⟨by decide, kl⟩
  have d0 : ¬ d = 0 := by omega
  have n0 : ¬ n = 0 := by omega
  have r0 : ¬ r = 0 := by omega
  clear kl hm hn
  obtain ⟨q, hq⟩ : ∃ q, l / n = q := ⟨_, rfl⟩
  have q0 : 0 ≤ q := by rw [← hq]; exact Int.ediv_nonneg l0 (by omega)
  have q1 : q ≤ l := by rw [← hq]; exact Int.ediv_le_self _ l0
  obtain ⟨x, hx⟩ : ∃ x, l % n = x := ⟨_, rfl⟩
  obtain ⟨y, hy⟩ : ∃ y, q / d = y := ⟨_, rfl⟩
  obtain ⟨z, hz⟩ : ∃ z, q % d = z := ⟨_, rfl⟩
  have x0 : 0 ≤ x := by rw [← hx]; exact Int.emod_nonneg _ n0
  have x1 : x < n := by rw [← hx]; exact Int.emod_lt_of_pos _ (by omega)
  have y0' : 0 ≤ y := by rw [← hy]; exact Int.ediv_nonneg q0 (by omega)
  have y1' : y ≤ q := by rw [← hy]; exact Int.ediv_le_self _ q0
  have f1 : l.tdiv n = q := by rw [Int.tdiv_eq_ediv_of_nonneg l0, hq]
  have f2 : IntKind.i64.wrap q = q := IntWalk.i64_in _ ⟨by omega, by omega⟩
  have f3 : q.tdiv d = y := by rw [Int.tdiv_eq_ediv_of_nonneg q0, hy]
  have f4 : IntKind.i64.wrap y = y := IntWalk.i64_in _ ⟨by omega, by omega⟩
  have f5 : q.tmod d = z := by rw [Int.tmod_eq_emod_of_nonneg q0, hz]
  have f6 : l.tmod n = x := by rw [Int.tmod_eq_emod_of_nonneg l0, hx]
  have hbk : mapBank 1 d r n l = x := by unfold mapBank; rw [if_neg (by decide), if_pos rfl, hx]
  have hrw : mapRow 1 d r n l = y := by unfold mapRow; rw [if_neg (by decide), if_pos rfl, hq, hy]
  have hcl : mapCol 1 d r n l = z := by unfold mapCol; rw [if_pos rfl, hq, hz]
  have hh : mapHash false x y n = x := rfl
  rw [hbk, hrw, hcl, hh] at HE
  clear hq hx hy hz hbk hrw hcl hh
  go_enter Try.func21, Try.ntmps21
  go_wp2_with fail
  refine (specMappingOk_is _ _ _ KO.out _).mono ?_
  rintro e w2 ⟨rfl, hb2⟩
  have r2 := keep_block hb2 r1 (lt_of_block r1)
  have g2 := keep_block hb2 g1 (lt_of_block g1)
  have m2 := keep_block hb2 m1 (lt_of_block m1)
  have HB2 : Hid (Below w.heap.size w w2) := HB1.out.trans (hb2.mono HB1.out.size)
  clear hb2 r1 g1 m1 hw1 HB1 cg0 cg1 cg2 cg3 cm0 cm1
  obtain ⟨cg0, cg1, cg2, cg3⟩ := cells4 g2
  go_wp2_with fail
  refine (specLine_is _ _ _ _ _ HM.out _).mono ?_
  rintro e w3 ⟨rfl, hb3⟩
  have r3 := keep_block hb3 r2 (lt_of_block r2)
  have g3 := keep_block hb3 g2 (lt_of_block g2)
  have m3 := keep_block hb3 m2 (lt_of_block m2)
  have HB3 : Hid (Below w.heap.size w w3) := HB2.out.trans (hb3.mono HB2.out.size)
  clear hb3 r2 g2 m2 HB2 cg0 cg1 cg2 cg3
  obtain ⟨cg0, cg1, cg2, cg3⟩ := cells4 g3
  go_wp2_with fail
  refine (specIn_is _ _ _ _ KL.out _).mono ?_
  rintro e w' ⟨rfl, rfl⟩
  go_wp2_with fail
  refine (specBank_is _ _ _ _ _ HN.out _).mono ?_
  rintro e w4 ⟨rfl, hb4⟩
  have r4 := keep_block hb4 r3 (lt_of_block r3)
  have g4 := keep_block hb4 g3 (lt_of_block g3)
  have m4 := keep_block hb4 m3 (lt_of_block m3)
  have HB4 : Hid (Below w.heap.size w w4) := HB3.out.trans (hb4.mono HB3.out.size)
  clear hb4 r3 g3 m3 HB3 cg0 cg1 cg2 cg3
  have lr := lt_of_block r4
  have lg := lt_of_block g4
  have lm := lt_of_block m4
  obtain ⟨cm0, cm1⟩ := cells2 m4
  go_wp2_with fail
  generalize hw5 : w4.alloc (.cells #[.int .i64 0, .int .i64 0, .int .i64 0] 37) = w5
  clear cm0 cm1
  have hb5 : Below w4.heap.size w4 w5 := by subst hw5; exact (Below.refl _ _).alloc (Nat.le_refl _) _
  have t5 : w5.heap[w4.heap.size]? = some (.cells #[.int .i64 0, .int .i64 0, .int .i64 0] 37) := by subst hw5; exact heap_alloc_new _ _
  have r5 := keep_block hb5 r4 lr
  have g5' := keep_block hb5 g4 lg
  have m5 := keep_block hb5 m4 lm
  have HB : Hid (Below w.heap.size w w5) := HB4.out.trans (hb5.mono HB4.out.size)
  have HS4 := Lib.hid HB4.out.size
  clear hb5 r4 g4 m4 HB4
  obtain ⟨cg0, cg1, cg2, cg3⟩ := cells4 g5'
  obtain ⟨cm0, cm1⟩ := cells2 m5
  obtain ⟨y0, y1, y2⟩ := cells3 r5
  obtain ⟨t50, t51, t52⟩ := cells3 t5
  have z0 := thawed r5 0
  have z1 := thawed r5 1
  have z2 := thawed r5 2
  have u0 := thawed t5 0
  have u1 := thawed t5 1
  have u2 := thawed t5 2
  have v0 := fun zz : Later w5 => zz.cell cg0
  have v1 := fun zz : Later w5 => zz.cell cg1
  have v2 := fun zz : Later w5 => zz.cell cg2
  have v3 := fun zz : Later w5 => zz.cell cg3
  refine wp_region_later_tail 16 (by kernel_rfl) (by kernel_rfl) ?_
  simp only [List.take_succ_cons, List.take_zero, List.drop_succ_cons, List.drop_zero]
  repeat (go_big_quiet_step (fail))
  refine wpQuiet_nil ?_
  rintro w6 ⟨q6, hq6⟩
  have hb6 : Below w5.heap.size w5 w6 := hq6 ▸ q6.ok
  have r6 := keep_block hb6 r5 (lt_of_block r5)
  have m6 := keep_block hb6 m5 (lt_of_block m5)
  have t6 := keep_block hb6 t5 (lt_of_block t5)
  have HB6 : Hid (Below w.heap.size w w6) := HB.out.trans (hb6.mono HB.out.size)
  clear hq6 q6 hb6 r5 g5' m5 t5 cg0 cg1 cg2 cg3 cm0 cm1 y0 y1 y2 t50 t51 t52 z0 z1 z2 u0 u1 u2 v0 v1 v2 v3 HB
  have HB := HB6
  obtain ⟨cm0, cm1⟩ := cells2 m6
  obtain ⟨y0, y1, y2⟩ := cells3 r6
  obtain ⟨t50, t51, t52⟩ := cells3 t6
  have z0 := thawed r6 0
  have z1 := thawed r6 1
  have z2 := thawed r6 2
  have u0 := thawed t6 0
  have u1 := thawed t6 1
  have u2 := thawed t6 2
  clear r6 m6 t6
  go_wp2
  (try simp only [Exit.inBlock, Exit.then])
  refine bodyPost_ret (v := adV x y z true) ?_ rfl ⟨by rw [HE.out], ?_⟩
  · rw [results_cell_tmp rfl]
    go_simp
    rfl
  · have h1 := HB.out.size
    have h2 := HS4.out
    repeat' (first | refine Below.setCell ?_ (by simp <;> omega) _ | refine Below.drew ?_ | exact HB.out)

set_option maxHeartbeats 4000000 in
theorem specMapLine_1_true (a b r d l : Int) (kl : LnOk a b r d l) (w : World) :
    Calls Try.prog 21 #[.agg #[.int .i64 a, .int .i64 b, .int .i64 r, .int .i64 d], .agg #[.int .i64 1, .bool true], .int .i64 l] w (Gives (mapF a b r d 1 true l) w) := by
  obtain ⟨w1, hw1⟩ : ∃ x, ((w.alloc (.cells #[.int .i64 a, .int .i64 b, .int .i64 r, .int .i64 d] 25)).alloc (.cells #[.int .i64 1, .bool true] 27)).alloc (.cells #[.int .i64 0, .int .i64 0, .int .i64 0] 37) = x := ⟨_, rfl⟩
  have HB1 : Hid (Below w.heap.size w w1) := by subst hw1; exact (((Below.refl _ _).alloc (by simp) _).alloc (by simp) _).alloc (by simp; omega) _
  have g1 : w1.heap[w.heap.size]? = some (.cells #[.int .i64 a, .int .i64 b, .int .i64 r, .int .i64 d] 25) := by subst hw1; exact box3_0 _ _ _ _
  have m1 : w1.heap[w.heap.size + 1]? = some (.cells #[.int .i64 1, .bool true] 27) := by subst hw1; exact box3_1 _ _ _ _
  have r1 : w1.heap[w.heap.size + 1 + 1]? = some (.cells #[.int .i64 0, .int .i64 0, .int .i64 0] 37) := by subst hw1; exact box3_2 _ _ _ _
  obtain ⟨cg0, cg1, cg2, cg3⟩ := cells4 g1
  obtain ⟨cm0, cm1⟩ := cells2 m1
  have KO := Lib.hid (decide_eq_true (show (0 : Int) ≤ 1 ∧ (1 : Int) ≤ 2 by decide))
  obtain ⟨m, hm⟩ : ∃ m, lineN a b r d = m := ⟨_, rfl⟩
  have HM := Lib.hid hm
  have hmr := lineN_range a b r d
  rw [hm] at hmr
  have e1 : IntKind.i64.wrap (m - 1) = m - 1 := IntWalk.i64_in _ ⟨by omega, by omega⟩
  have KL : Hid (decide (0 ≤ l ∧ l ≤ m - 1) = true) := by show _ = _; rw [← hm]; exact decide_eq_true kl
  have hn1 := kl.bank
  have hn2 := bankN_range a b r d
  obtain ⟨n, hn⟩ : ∃ n, bankN a b r d = n := ⟨_, rfl⟩
  have HN := Lib.hid hn
  rw [hn] at hn1 hn2
  obtain ⟨_, _, ⟨g5, g6⟩, ⟨g7, g8⟩⟩ := kl.geo
  have l0 := kl.1
  have l1 : l ≤ 1024 := by have := kl.2; rw [hm] at this; omega
  have HE : Hid (mapF a b r d 1 true l = adV (mapHash true (mapBank 1 d r n l) (mapRow 1 d r n l) n) (mapRow 1 d r n l) (mapCol 1 d r n l) true) := by
    show _ = _
    rw [← hn]; exact if_pos ⟨by decide, kl⟩
  have d0 : ¬ d = 0 := by omega
  have n0 : ¬ n = 0 := by omega
  have r0 : ¬ r = 0 := by omega
  clear kl hm hn
  obtain ⟨q, hq⟩ : ∃ q, l / n = q := ⟨_, rfl⟩
  have q0 : 0 ≤ q := by rw [← hq]; exact Int.ediv_nonneg l0 (by omega)
  have q1 : q ≤ l := by rw [← hq]; exact Int.ediv_le_self _ l0
  obtain ⟨x, hx⟩ : ∃ x, l % n = x := ⟨_, rfl⟩
  obtain ⟨y, hy⟩ : ∃ y, q / d = y := ⟨_, rfl⟩
  obtain ⟨z, hz⟩ : ∃ z, q % d = z := ⟨_, rfl⟩
  have x0 : 0 ≤ x := by rw [← hx]; exact Int.emod_nonneg _ n0
  have x1 : x < n := by rw [← hx]; exact Int.emod_lt_of_pos _ (by omega)
  have y0' : 0 ≤ y := by rw [← hy]; exact Int.ediv_nonneg q0 (by omega)
  have y1' : y ≤ q := by rw [← hy]; exact Int.ediv_le_self _ q0
  have f1 : l.tdiv n = q := by rw [Int.tdiv_eq_ediv_of_nonneg l0, hq]
  have f2 : IntKind.i64.wrap q = q := IntWalk.i64_in _ ⟨by omega, by omega⟩
  have f3 : q.tdiv d = y := by rw [Int.tdiv_eq_ediv_of_nonneg q0, hy]
  have f4 : IntKind.i64.wrap y = y := IntWalk.i64_in _ ⟨by omega, by omega⟩
  have f5 : q.tmod d = z := by rw [Int.tmod_eq_emod_of_nonneg q0, hz]
  have f6 : l.tmod n = x := by rw [Int.tmod_eq_emod_of_nonneg l0, hx]
  have hbk : mapBank 1 d r n l = x := by unfold mapBank; rw [if_neg (by decide), if_pos rfl, hx]
  have hrw : mapRow 1 d r n l = y := by unfold mapRow; rw [if_neg (by decide), if_pos rfl, hq, hy]
  have hcl : mapCol 1 d r n l = z := by unfold mapCol; rw [if_pos rfl, hq, hz]
  obtain ⟨v, hv⟩ : ∃ v, (x + y) % n = v := ⟨_, rfl⟩
  have hh : mapHash true x y n = v := hv
  have f7 : IntKind.i64.wrap (x + y) = x + y := IntWalk.i64_in _ ⟨by omega, by omega⟩
  have f8 : (x + y).tmod n = v := by rw [Int.tmod_eq_emod_of_nonneg (by omega), hv]
  rw [hbk, hrw, hcl, hh] at HE
  clear hq hx hy hz hbk hrw hcl hh hv
  go_enter Try.func21, Try.ntmps21
  go_wp2_with fail
  refine (specMappingOk_is _ _ _ KO.out _).mono ?_
  rintro e w2 ⟨rfl, hb2⟩
  have r2 := keep_block hb2 r1 (lt_of_block r1)
  have g2 := keep_block hb2 g1 (lt_of_block g1)
  have m2 := keep_block hb2 m1 (lt_of_block m1)
  have HB2 : Hid (Below w.heap.size w w2) := HB1.out.trans (hb2.mono HB1.out.size)
  clear hb2 r1 g1 m1 hw1 HB1 cg0 cg1 cg2 cg3 cm0 cm1
  obtain ⟨cg0, cg1, cg2, cg3⟩ := cells4 g2
  go_wp2_with fail
  refine (specLine_is _ _ _ _ _ HM.out _).mono ?_
  rintro e w3 ⟨rfl, hb3⟩
  have r3 := keep_block hb3 r2 (lt_of_block r2)
  have g3 := keep_block hb3 g2 (lt_of_block g2)
  have m3 := keep_block hb3 m2 (lt_of_block m2)
  have HB3 : Hid (Below w.heap.size w w3) := HB2.out.trans (hb3.mono HB2.out.size)
  clear hb3 r2 g2 m2 HB2 cg0 cg1 cg2 cg3
  obtain ⟨cg0, cg1, cg2, cg3⟩ := cells4 g3
  go_wp2_with fail
  refine (specIn_is _ _ _ _ KL.out _).mono ?_
  rintro e w' ⟨rfl, rfl⟩
  go_wp2_with fail
  refine (specBank_is _ _ _ _ _ HN.out _).mono ?_
  rintro e w4 ⟨rfl, hb4⟩
  have r4 := keep_block hb4 r3 (lt_of_block r3)
  have g4 := keep_block hb4 g3 (lt_of_block g3)
  have m4 := keep_block hb4 m3 (lt_of_block m3)
  have HB4 : Hid (Below w.heap.size w w4) := HB3.out.trans (hb4.mono HB3.out.size)
  clear hb4 r3 g3 m3 HB3 cg0 cg1 cg2 cg3
  have lr := lt_of_block r4
  have lg := lt_of_block g4
  have lm := lt_of_block m4
  obtain ⟨cm0, cm1⟩ := cells2 m4
  go_wp2_with fail
  generalize hw5 : w4.alloc (.cells #[.int .i64 0, .int .i64 0, .int .i64 0] 37) = w5
  clear cm0 cm1
  have hb5 : Below w4.heap.size w4 w5 := by subst hw5; exact (Below.refl _ _).alloc (Nat.le_refl _) _
  have t5 : w5.heap[w4.heap.size]? = some (.cells #[.int .i64 0, .int .i64 0, .int .i64 0] 37) := by subst hw5; exact heap_alloc_new _ _
  have r5 := keep_block hb5 r4 lr
  have g5' := keep_block hb5 g4 lg
  have m5 := keep_block hb5 m4 lm
  have HB : Hid (Below w.heap.size w w5) := HB4.out.trans (hb5.mono HB4.out.size)
  have HS4 := Lib.hid HB4.out.size
  clear hb5 r4 g4 m4 HB4
  obtain ⟨cg0, cg1, cg2, cg3⟩ := cells4 g5'
  obtain ⟨cm0, cm1⟩ := cells2 m5
  obtain ⟨y0, y1, y2⟩ := cells3 r5
  obtain ⟨t50, t51, t52⟩ := cells3 t5
  have z0 := thawed r5 0
  have z1 := thawed r5 1
  have z2 := thawed r5 2
  have u0 := thawed t5 0
  have u1 := thawed t5 1
  have u2 := thawed t5 2
  have v0 := fun zz : Later w5 => zz.cell cg0
  have v1 := fun zz : Later w5 => zz.cell cg1
  have v2 := fun zz : Later w5 => zz.cell cg2
  have v3 := fun zz : Later w5 => zz.cell cg3
  refine wp_region_later_tail 16 (by kernel_rfl) (by kernel_rfl) ?_
  simp only [List.take_succ_cons, List.take_zero, List.drop_succ_cons, List.drop_zero]
  repeat (go_big_quiet_step (fail))
  refine wpQuiet_nil ?_
  rintro w6 ⟨q6, hq6⟩
  have hb6 : Below w5.heap.size w5 w6 := hq6 ▸ q6.ok
  have r6 := keep_block hb6 r5 (lt_of_block r5)
  have m6 := keep_block hb6 m5 (lt_of_block m5)
  have t6 := keep_block hb6 t5 (lt_of_block t5)
  have HB6 : Hid (Below w.heap.size w w6) := HB.out.trans (hb6.mono HB.out.size)
  clear hq6 q6 hb6 r5 g5' m5 t5 cg0 cg1 cg2 cg3 cm0 cm1 y0 y1 y2 t50 t51 t52 z0 z1 z2 u0 u1 u2 v0 v1 v2 v3 HB
  have HB := HB6
  obtain ⟨cm0, cm1⟩ := cells2 m6
  obtain ⟨y0, y1, y2⟩ := cells3 r6
  obtain ⟨t50, t51, t52⟩ := cells3 t6
  have z0 := thawed r6 0
  have z1 := thawed r6 1
  have z2 := thawed r6 2
  have u0 := thawed t6 0
  have u1 := thawed t6 1
  have u2 := thawed t6 2
  clear r6 m6 t6
  go_wp2
  (try simp only [Exit.inBlock, Exit.then])
  refine bodyPost_ret (v := adV v y z true) ?_ rfl ⟨by rw [HE.out], ?_⟩
  · rw [results_cell_tmp rfl]
    go_simp
    rfl
  · have h1 := HB.out.size
    have h2 := HS4.out
    repeat' (first | refine Below.setCell ?_ (by simp <;> omega) _ | refine Below.drew ?_ | exact HB.out)

set_option maxHeartbeats 4000000 in
theorem specMapLine_2_false (a b r d l : Int) (kl : LnOk a b r d l) (w : World) :
    Calls Try.prog 21 #[.agg #[.int .i64 a, .int .i64 b, .int .i64 r, .int .i64 d], .agg #[.int .i64 2, .bool false], .int .i64 l] w (Gives (mapF a b r d 2 false l) w) := by
  obtain ⟨w1, hw1⟩ : ∃ x, ((w.alloc (.cells #[.int .i64 a, .int .i64 b, .int .i64 r, .int .i64 d] 25)).alloc (.cells #[.int .i64 2, .bool false] 27)).alloc (.cells #[.int .i64 0, .int .i64 0, .int .i64 0] 37) = x := ⟨_, rfl⟩
  have HB1 : Hid (Below w.heap.size w w1) := by subst hw1; exact (((Below.refl _ _).alloc (by simp) _).alloc (by simp) _).alloc (by simp; omega) _
  have g1 : w1.heap[w.heap.size]? = some (.cells #[.int .i64 a, .int .i64 b, .int .i64 r, .int .i64 d] 25) := by subst hw1; exact box3_0 _ _ _ _
  have m1 : w1.heap[w.heap.size + 1]? = some (.cells #[.int .i64 2, .bool false] 27) := by subst hw1; exact box3_1 _ _ _ _
  have r1 : w1.heap[w.heap.size + 1 + 1]? = some (.cells #[.int .i64 0, .int .i64 0, .int .i64 0] 37) := by subst hw1; exact box3_2 _ _ _ _
  obtain ⟨cg0, cg1, cg2, cg3⟩ := cells4 g1
  obtain ⟨cm0, cm1⟩ := cells2 m1
  have KO := Lib.hid (decide_eq_true (show (0 : Int) ≤ 2 ∧ (2 : Int) ≤ 2 by decide))
  obtain ⟨m, hm⟩ : ∃ m, lineN a b r d = m := ⟨_, rfl⟩
  have HM := Lib.hid hm
  have hmr := lineN_range a b r d
  rw [hm] at hmr
  have e1 : IntKind.i64.wrap (m - 1) = m - 1 := IntWalk.i64_in _ ⟨by omega, by omega⟩
  have KL : Hid (decide (0 ≤ l ∧ l ≤ m - 1) = true) := by show _ = _; rw [← hm]; exact decide_eq_true kl
  have hn1 := kl.bank
  have hn2 := bankN_range a b r d
  obtain ⟨n, hn⟩ : ∃ n, bankN a b r d = n := ⟨_, rfl⟩
  have HN := Lib.hid hn
  rw [hn] at hn1 hn2
  obtain ⟨_, _, ⟨g5, g6⟩, ⟨g7, g8⟩⟩ := kl.geo
  have l0 := kl.1
  have l1 : l ≤ 1024 := by have := kl.2; rw [hm] at this; omega
  have HE : Hid (mapF a b r d 2 false l = adV (mapHash false (mapBank 2 d r n l) (mapRow 2 d r n l) n) (mapRow 2 d r n l) (mapCol 2 d r n l) true) := by
    show _ = _
    rw [← hn]; exact if_pos ⟨by decide, kl⟩
  have d0 : ¬ d = 0 := by omega
  have n0 : ¬ n = 0 := by omega
  have r0 : ¬ r = 0 := by omega
  clear kl hm hn
  obtain ⟨q, hq⟩ : ∃ q, l / d = q := ⟨_, rfl⟩
  have q0 : 0 ≤ q := by rw [← hq]; exact Int.ediv_nonneg l0 (by omega)
  have q1 : q ≤ l := by rw [← hq]; exact Int.ediv_le_self _ l0
  obtain ⟨x, hx⟩ : ∃ x, q / r = x := ⟨_, rfl⟩
  obtain ⟨y, hy⟩ : ∃ y, q % r = y := ⟨_, rfl⟩
  obtain ⟨z, hz⟩ : ∃ z, l % d = z := ⟨_, rfl⟩
  have x0 : 0 ≤ x := by rw [← hx]; exact Int.ediv_nonneg q0 (by omega)
  have x1 : x ≤ q := by rw [← hx]; exact Int.ediv_le_self _ q0
  have y0' : 0 ≤ y := by rw [← hy]; exact Int.emod_nonneg _ r0
  have y1' : y < r := by rw [← hy]; exact Int.emod_lt_of_pos _ (by omega)
  have f1 : l.tdiv d = q := by rw [Int.tdiv_eq_ediv_of_nonneg l0, hq]
  have f2 : IntKind.i64.wrap q = q := IntWalk.i64_in _ ⟨by omega, by omega⟩
  have f3 : q.tdiv r = x := by rw [Int.tdiv_eq_ediv_of_nonneg q0, hx]
  have f4 : IntKind.i64.wrap x = x := IntWalk.i64_in _ ⟨by omega, by omega⟩
  have f5 : q.tmod r = y := by rw [Int.tmod_eq_emod_of_nonneg q0, hy]
  have f6 : l.tmod d = z := by rw [Int.tmod_eq_emod_of_nonneg l0, hz]
  have hbk : mapBank 2 d r n l = x := by unfold mapBank; rw [if_neg (by decide), if_neg (by decide), hq, hx]
  have hrw : mapRow 2 d r n l = y := by unfold mapRow; rw [if_neg (by decide), if_neg (by decide), hq, hy]
  have hcl : mapCol 2 d r n l = z := by unfold mapCol; rw [if_neg (by decide), hz]
  have hh : mapHash false x y n = x := rfl
  rw [hbk, hrw, hcl, hh] at HE
  clear hq hx hy hz hbk hrw hcl hh
  go_enter Try.func21, Try.ntmps21
  go_wp2_with fail
  refine (specMappingOk_is _ _ _ KO.out _).mono ?_
  rintro e w2 ⟨rfl, hb2⟩
  have r2 := keep_block hb2 r1 (lt_of_block r1)
  have g2 := keep_block hb2 g1 (lt_of_block g1)
  have m2 := keep_block hb2 m1 (lt_of_block m1)
  have HB2 : Hid (Below w.heap.size w w2) := HB1.out.trans (hb2.mono HB1.out.size)
  clear hb2 r1 g1 m1 hw1 HB1 cg0 cg1 cg2 cg3 cm0 cm1
  obtain ⟨cg0, cg1, cg2, cg3⟩ := cells4 g2
  go_wp2_with fail
  refine (specLine_is _ _ _ _ _ HM.out _).mono ?_
  rintro e w3 ⟨rfl, hb3⟩
  have r3 := keep_block hb3 r2 (lt_of_block r2)
  have g3 := keep_block hb3 g2 (lt_of_block g2)
  have m3 := keep_block hb3 m2 (lt_of_block m2)
  have HB3 : Hid (Below w.heap.size w w3) := HB2.out.trans (hb3.mono HB2.out.size)
  clear hb3 r2 g2 m2 HB2 cg0 cg1 cg2 cg3
  obtain ⟨cg0, cg1, cg2, cg3⟩ := cells4 g3
  go_wp2_with fail
  refine (specIn_is _ _ _ _ KL.out _).mono ?_
  rintro e w' ⟨rfl, rfl⟩
  go_wp2_with fail
  refine (specBank_is _ _ _ _ _ HN.out _).mono ?_
  rintro e w4 ⟨rfl, hb4⟩
  have r4 := keep_block hb4 r3 (lt_of_block r3)
  have g4 := keep_block hb4 g3 (lt_of_block g3)
  have m4 := keep_block hb4 m3 (lt_of_block m3)
  have HB4 : Hid (Below w.heap.size w w4) := HB3.out.trans (hb4.mono HB3.out.size)
  clear hb4 r3 g3 m3 HB3 cg0 cg1 cg2 cg3
  have lr := lt_of_block r4
  have lg := lt_of_block g4
  have lm := lt_of_block m4
  obtain ⟨cm0, cm1⟩ := cells2 m4
  go_wp2_with fail
  generalize hw5 : w4.alloc (.cells #[.int .i64 0, .int .i64 0, .int .i64 0] 37) = w5
  clear cm0 cm1
  have hb5 : Below w4.heap.size w4 w5 := by subst hw5; exact (Below.refl _ _).alloc (Nat.le_refl _) _
  have t5 : w5.heap[w4.heap.size]? = some (.cells #[.int .i64 0, .int .i64 0, .int .i64 0] 37) := by subst hw5; exact heap_alloc_new _ _
  have r5 := keep_block hb5 r4 lr
  have g5' := keep_block hb5 g4 lg
  have m5 := keep_block hb5 m4 lm
  have HB : Hid (Below w.heap.size w w5) := HB4.out.trans (hb5.mono HB4.out.size)
  have HS4 := Lib.hid HB4.out.size
  clear hb5 r4 g4 m4 HB4
  obtain ⟨cg0, cg1, cg2, cg3⟩ := cells4 g5'
  obtain ⟨cm0, cm1⟩ := cells2 m5
  obtain ⟨y0, y1, y2⟩ := cells3 r5
  obtain ⟨t50, t51, t52⟩ := cells3 t5
  have z0 := thawed r5 0
  have z1 := thawed r5 1
  have z2 := thawed r5 2
  have u0 := thawed t5 0
  have u1 := thawed t5 1
  have u2 := thawed t5 2
  have v0 := fun zz : Later w5 => zz.cell cg0
  have v1 := fun zz : Later w5 => zz.cell cg1
  have v2 := fun zz : Later w5 => zz.cell cg2
  have v3 := fun zz : Later w5 => zz.cell cg3
  refine wp_region_later_tail 19 (by kernel_rfl) (by kernel_rfl) ?_
  simp only [List.take_succ_cons, List.take_zero, List.drop_succ_cons, List.drop_zero]
  repeat (go_big_quiet_step (fail))
  refine wpQuiet_nil ?_
  rintro w6 ⟨q6, hq6⟩
  have hb6 : Below w5.heap.size w5 w6 := hq6 ▸ q6.ok
  have r6 := keep_block hb6 r5 (lt_of_block r5)
  have m6 := keep_block hb6 m5 (lt_of_block m5)
  have t6 := keep_block hb6 t5 (lt_of_block t5)
  have HB6 : Hid (Below w.heap.size w w6) := HB.out.trans (hb6.mono HB.out.size)
  clear hq6 q6 hb6 r5 g5' m5 t5 cg0 cg1 cg2 cg3 cm0 cm1 y0 y1 y2 t50 t51 t52 z0 z1 z2 u0 u1 u2 v0 v1 v2 v3 HB
  have HB := HB6
  obtain ⟨cm0, cm1⟩ := cells2 m6
  obtain ⟨y0, y1, y2⟩ := cells3 r6
  obtain ⟨t50, t51, t52⟩ := cells3 t6
  have z0 := thawed r6 0
  have z1 := thawed r6 1
  have z2 := thawed r6 2
  have u0 := thawed t6 0
  have u1 := thawed t6 1
  have u2 := thawed t6 2
  clear r6 m6 t6
  go_wp2
  (try simp only [Exit.inBlock, Exit.then])
  refine bodyPost_ret (v := adV x y z true) ?_ rfl ⟨by rw [HE.out], ?_⟩
  · rw [results_cell_tmp rfl]
    go_simp
    rfl
  · have h1 := HB.out.size
    have h2 := HS4.out
    repeat' (first | refine Below.setCell ?_ (by simp <;> omega) _ | refine Below.drew ?_ | exact HB.out)

set_option maxHeartbeats 4000000 in
theorem specMapLine_2_true (a b r d l : Int) (kl : LnOk a b r d l) (w : World) :
    Calls Try.prog 21 #[.agg #[.int .i64 a, .int .i64 b, .int .i64 r, .int .i64 d], .agg #[.int .i64 2, .bool true], .int .i64 l] w (Gives (mapF a b r d 2 true l) w) := by
  obtain ⟨w1, hw1⟩ : ∃ x, ((w.alloc (.cells #[.int .i64 a, .int .i64 b, .int .i64 r, .int .i64 d] 25)).alloc (.cells #[.int .i64 2, .bool true] 27)).alloc (.cells #[.int .i64 0, .int .i64 0, .int .i64 0] 37) = x := ⟨_, rfl⟩
  have HB1 : Hid (Below w.heap.size w w1) := by subst hw1; exact (((Below.refl _ _).alloc (by simp) _).alloc (by simp) _).alloc (by simp; omega) _
  have g1 : w1.heap[w.heap.size]? = some (.cells #[.int .i64 a, .int .i64 b, .int .i64 r, .int .i64 d] 25) := by subst hw1; exact box3_0 _ _ _ _
  have m1 : w1.heap[w.heap.size + 1]? = some (.cells #[.int .i64 2, .bool true] 27) := by subst hw1; exact box3_1 _ _ _ _
  have r1 : w1.heap[w.heap.size + 1 + 1]? = some (.cells #[.int .i64 0, .int .i64 0, .int .i64 0] 37) := by subst hw1; exact box3_2 _ _ _ _
  obtain ⟨cg0, cg1, cg2, cg3⟩ := cells4 g1
  obtain ⟨cm0, cm1⟩ := cells2 m1
  have KO := Lib.hid (decide_eq_true (show (0 : Int) ≤ 2 ∧ (2 : Int) ≤ 2 by decide))
  obtain ⟨m, hm⟩ : ∃ m, lineN a b r d = m := ⟨_, rfl⟩
  have HM := Lib.hid hm
  have hmr := lineN_range a b r d
  rw [hm] at hmr
  have e1 : IntKind.i64.wrap (m - 1) = m - 1 := IntWalk.i64_in _ ⟨by omega, by omega⟩
  have KL : Hid (decide (0 ≤ l ∧ l ≤ m - 1) = true) := by show _ = _; rw [← hm]; exact decide_eq_true kl
  have hn1 := kl.bank
  have hn2 := bankN_range a b r d
  obtain ⟨n, hn⟩ : ∃ n, bankN a b r d = n := ⟨_, rfl⟩
  have HN := Lib.hid hn
  rw [hn] at hn1 hn2
  obtain ⟨_, _, ⟨g5, g6⟩, ⟨g7, g8⟩⟩ := kl.geo
  have l0 := kl.1
  have l1 : l ≤ 1024 := by have := kl.2; rw [hm] at this; omega
  have HE : Hid (mapF a b r d 2 true l = adV (mapHash true (mapBank 2 d r n l) (mapRow 2 d r n l) n) (mapRow 2 d r n l) (mapCol 2 d r n l) true) := by
    show _ = _
    rw [← hn]; exact if_pos ⟨by decide, kl⟩
  have d0 : ¬ d = 0 := by omega
  have n0 : ¬ n = 0 := by omega
  have r0 : ¬ r = 0 := by omega
  clear kl hm hn
  obtain ⟨q, hq⟩ : ∃ q, l / d = q := ⟨_, rfl⟩
  have q0 : 0 ≤ q := by rw [← hq]; exact Int.ediv_nonneg l0 (by omega)
  have q1 : q ≤ l := by rw [← hq]; exact Int.ediv_le_self _ l0
  obtain ⟨x, hx⟩ : ∃ x, q / r = x := ⟨_, rfl⟩
  obtain ⟨y, hy⟩ : ∃ y, q % r = y := ⟨_, rfl⟩
  obtain ⟨z, hz⟩ : ∃ z, l % d = z := ⟨_, rfl⟩
  have x0 : 0 ≤ x := by rw [← hx]; exact Int.ediv_nonneg q0 (by omega)
  have x1 : x ≤ q := by rw [← hx]; exact Int.ediv_le_self _ q0
  have y0' : 0 ≤ y := by rw [← hy]; exact Int.emod_nonneg _ r0
  have y1' : y < r := by rw [← hy]; exact Int.emod_lt_of_pos _ (by omega)
  have f1 : l.tdiv d = q := by rw [Int.tdiv_eq_ediv_of_nonneg l0, hq]
  have f2 : IntKind.i64.wrap q = q := IntWalk.i64_in _ ⟨by omega, by omega⟩
  have f3 : q.tdiv r = x := by rw [Int.tdiv_eq_ediv_of_nonneg q0, hx]
  have f4 : IntKind.i64.wrap x = x := IntWalk.i64_in _ ⟨by omega, by omega⟩
  have f5 : q.tmod r = y := by rw [Int.tmod_eq_emod_of_nonneg q0, hy]
  have f6 : l.tmod d = z := by rw [Int.tmod_eq_emod_of_nonneg l0, hz]
  have hbk : mapBank 2 d r n l = x := by unfold mapBank; rw [if_neg (by decide), if_neg (by decide), hq, hx]
  have hrw : mapRow 2 d r n l = y := by unfold mapRow; rw [if_neg (by decide), if_neg (by decide), hq, hy]
  have hcl : mapCol 2 d r n l = z := by unfold mapCol; rw [if_neg (by decide), hz]
  obtain ⟨v, hv⟩ : ∃ v, (x + y) % n = v := ⟨_, rfl⟩
  have hh : mapHash true x y n = v := hv
  have f7 : IntKind.i64.wrap (x + y) = x + y := IntWalk.i64_in _ ⟨by omega, by omega⟩
  have f8 : (x + y).tmod n = v := by rw [Int.tmod_eq_emod_of_nonneg (by omega), hv]
  rw [hbk, hrw, hcl, hh] at HE
  clear hq hx hy hz hbk hrw hcl hh hv
  go_enter Try.func21, Try.ntmps21
  go_wp2_with fail
  refine (specMappingOk_is _ _ _ KO.out _).mono ?_
  rintro e w2 ⟨rfl, hb2⟩
  have r2 := keep_block hb2 r1 (lt_of_block r1)
  have g2 := keep_block hb2 g1 (lt_of_block g1)
  have m2 := keep_block hb2 m1 (lt_of_block m1)
  have HB2 : Hid (Below w.heap.size w w2) := HB1.out.trans (hb2.mono HB1.out.size)
  clear hb2 r1 g1 m1 hw1 HB1 cg0 cg1 cg2 cg3 cm0 cm1
  obtain ⟨cg0, cg1, cg2, cg3⟩ := cells4 g2
  go_wp2_with fail
  refine (specLine_is _ _ _ _ _ HM.out _).mono ?_
  rintro e w3 ⟨rfl, hb3⟩
  have r3 := keep_block hb3 r2 (lt_of_block r2)
  have g3 := keep_block hb3 g2 (lt_of_block g2)
  have m3 := keep_block hb3 m2 (lt_of_block m2)
  have HB3 : Hid (Below w.heap.size w w3) := HB2.out.trans (hb3.mono HB2.out.size)
  clear hb3 r2 g2 m2 HB2 cg0 cg1 cg2 cg3
  obtain ⟨cg0, cg1, cg2, cg3⟩ := cells4 g3
  go_wp2_with fail
  refine (specIn_is _ _ _ _ KL.out _).mono ?_
  rintro e w' ⟨rfl, rfl⟩
  go_wp2_with fail
  refine (specBank_is _ _ _ _ _ HN.out _).mono ?_
  rintro e w4 ⟨rfl, hb4⟩
  have r4 := keep_block hb4 r3 (lt_of_block r3)
  have g4 := keep_block hb4 g3 (lt_of_block g3)
  have m4 := keep_block hb4 m3 (lt_of_block m3)
  have HB4 : Hid (Below w.heap.size w w4) := HB3.out.trans (hb4.mono HB3.out.size)
  clear hb4 r3 g3 m3 HB3 cg0 cg1 cg2 cg3
  have lr := lt_of_block r4
  have lg := lt_of_block g4
  have lm := lt_of_block m4
  obtain ⟨cm0, cm1⟩ := cells2 m4
  go_wp2_with fail
  generalize hw5 : w4.alloc (.cells #[.int .i64 0, .int .i64 0, .int .i64 0] 37) = w5
  clear cm0 cm1
  have hb5 : Below w4.heap.size w4 w5 := by subst hw5; exact (Below.refl _ _).alloc (Nat.le_refl _) _
  have t5 : w5.heap[w4.heap.size]? = some (.cells #[.int .i64 0, .int .i64 0, .int .i64 0] 37) := by subst hw5; exact heap_alloc_new _ _
  have r5 := keep_block hb5 r4 lr
  have g5' := keep_block hb5 g4 lg
  have m5 := keep_block hb5 m4 lm
  have HB : Hid (Below w.heap.size w w5) := HB4.out.trans (hb5.mono HB4.out.size)
  have HS4 := Lib.hid HB4.out.size
  clear hb5 r4 g4 m4 HB4
  obtain ⟨cg0, cg1, cg2, cg3⟩ := cells4 g5'
  obtain ⟨cm0, cm1⟩ := cells2 m5
  obtain ⟨y0, y1, y2⟩ := cells3 r5
  obtain ⟨t50, t51, t52⟩ := cells3 t5
  have z0 := thawed r5 0
  have z1 := thawed r5 1
  have z2 := thawed r5 2
  have u0 := thawed t5 0
  have u1 := thawed t5 1
  have u2 := thawed t5 2
  have v0 := fun zz : Later w5 => zz.cell cg0
  have v1 := fun zz : Later w5 => zz.cell cg1
  have v2 := fun zz : Later w5 => zz.cell cg2
  have v3 := fun zz : Later w5 => zz.cell cg3
  refine wp_region_later_tail 19 (by kernel_rfl) (by kernel_rfl) ?_
  simp only [List.take_succ_cons, List.take_zero, List.drop_succ_cons, List.drop_zero]
  repeat (go_big_quiet_step (fail))
  refine wpQuiet_nil ?_
  rintro w6 ⟨q6, hq6⟩
  have hb6 : Below w5.heap.size w5 w6 := hq6 ▸ q6.ok
  have r6 := keep_block hb6 r5 (lt_of_block r5)
  have m6 := keep_block hb6 m5 (lt_of_block m5)
  have t6 := keep_block hb6 t5 (lt_of_block t5)
  have HB6 : Hid (Below w.heap.size w w6) := HB.out.trans (hb6.mono HB.out.size)
  clear hq6 q6 hb6 r5 g5' m5 t5 cg0 cg1 cg2 cg3 cm0 cm1 y0 y1 y2 t50 t51 t52 z0 z1 z2 u0 u1 u2 v0 v1 v2 v3 HB
  have HB := HB6
  obtain ⟨cm0, cm1⟩ := cells2 m6
  obtain ⟨y0, y1, y2⟩ := cells3 r6
  obtain ⟨t50, t51, t52⟩ := cells3 t6
  have z0 := thawed r6 0
  have z1 := thawed r6 1
  have z2 := thawed r6 2
  have u0 := thawed t6 0
  have u1 := thawed t6 1
  have u2 := thawed t6 2
  clear r6 m6 t6
  go_wp2
  (try simp only [Exit.inBlock, Exit.then])
  refine bodyPost_ret (v := adV v y z true) ?_ rfl ⟨by rw [HE.out], ?_⟩
  · rw [results_cell_tmp rfl]
    go_simp
    rfl
  · have h1 := HB.out.size
    have h2 := HS4.out
    repeat' (first | refine Below.setCell ?_ (by simp <;> omega) _ | refine Below.drew ?_ | exact HB.out)

set_option maxHeartbeats 4000000 in
theorem specMapLine_is (a b r d o : Int) (h : Bool) (l : Int) (w : World) :
    Calls Try.prog 21 #[.agg #[.int .i64 a, .int .i64 b, .int .i64 r, .int .i64 d], .agg #[.int .i64 o, .bool h], .int .i64 l] w (Gives (mapF a b r d o h l) w) := by
  obtain ⟨w1, hw1⟩ : ∃ x, ((w.alloc (.cells #[.int .i64 a, .int .i64 b, .int .i64 r, .int .i64 d] 25)).alloc (.cells #[.int .i64 o, .bool h] 27)).alloc (.cells #[.int .i64 0, .int .i64 0, .int .i64 0] 37) = x := ⟨_, rfl⟩
  have HB1 : Hid (Below w.heap.size w w1) := by subst hw1; exact (((Below.refl _ _).alloc (by simp) _).alloc (by simp) _).alloc (by simp; omega) _
  have g1 : w1.heap[w.heap.size]? = some (.cells #[.int .i64 a, .int .i64 b, .int .i64 r, .int .i64 d] 25) := by subst hw1; exact box3_0 _ _ _ _
  have m1 : w1.heap[w.heap.size + 1]? = some (.cells #[.int .i64 o, .bool h] 27) := by subst hw1; exact box3_1 _ _ _ _
  have r1 : w1.heap[w.heap.size + 1 + 1]? = some (.cells #[.int .i64 0, .int .i64 0, .int .i64 0] 37) := by subst hw1; exact box3_2 _ _ _ _
  obtain ⟨cg0, cg1, cg2, cg3⟩ := cells4 g1
  obtain ⟨cm0, cm1⟩ := cells2 m1
  by_cases ko : 0 ≤ o ∧ o ≤ 2
  case neg =>
    have HE : Hid (mapF a b r d o h l = adV 0 0 0 false) := by show _ = _; exact if_neg (fun hh => ko hh.1)
    have KO := Lib.hid (decide_eq_false ko)
    clear ko
    go_enter Try.func21, Try.ntmps21
    go_wp2_with fail
    refine (specMappingOk_is _ _ _ KO.out _).mono ?_
    rintro e w2 ⟨rfl, hb2⟩
    have r2 := keep_block hb2 r1 (lt_of_block r1)
    have HB : Hid (Below w.heap.size w w2) := HB1.out.trans (hb2.mono HB1.out.size)
    clear hb2 r1 g1 m1 hw1 HB1 cg0 cg1 cg2 cg3 cm0 cm1
    obtain ⟨y0, y1, y2⟩ := cells3 r2
    have z0 := thawed r2 0
    have z1 := thawed r2 1
    have z2 := thawed r2 2
    go_wp2
    (try simp only [Exit.inBlock, Exit.then])
    refine bodyPost_ret (v := adV 0 0 0 false) ?_ rfl ⟨by rw [HE.out], ?_⟩
    · rw [results_cell_tmp rfl]
      go_simp
      rfl
    · have h1 := HB.out.size
      repeat' (first | refine Below.setCell ?_ (by simp <;> omega) _ | refine Below.drew ?_ | exact HB.out)
  case pos =>
    have KO := Lib.hid (decide_eq_true ko)
    obtain ⟨m, hm⟩ : ∃ m, lineN a b r d = m := ⟨_, rfl⟩
    have HM := Lib.hid hm
    have hmr := lineN_range a b r d
    rw [hm] at hmr
    have e1 : IntKind.i64.wrap (m - 1) = m - 1 := IntWalk.i64_in _ ⟨by omega, by omega⟩
    by_cases kl : LnOk a b r d l
    case neg =>
      have HE : Hid (mapF a b r d o h l = adV 0 0 0 false) := by show _ = _; exact if_neg (fun hh => kl hh.2)
      have KL : Hid (decide (0 ≤ l ∧ l ≤ m - 1) = false) := by show _ = _; rw [← hm]; exact decide_eq_false kl
      clear ko kl hm
      go_enter Try.func21, Try.ntmps21
      go_wp2_with fail
      refine (specMappingOk_is _ _ _ KO.out _).mono ?_
      rintro e w2 ⟨rfl, hb2⟩
      have r2 := keep_block hb2 r1 (lt_of_block r1)
      have g2 := keep_block hb2 g1 (lt_of_block g1)
      have HB2 : Hid (Below w.heap.size w w2) := HB1.out.trans (hb2.mono HB1.out.size)
      clear hb2 r1 g1 m1 hw1 HB1 cg0 cg1 cg2 cg3 cm0 cm1
      obtain ⟨cg0, cg1, cg2, cg3⟩ := cells4 g2
      go_wp2_with fail
      refine (specLine_is _ _ _ _ _ HM.out _).mono ?_
      rintro e w3 ⟨rfl, hb3⟩
      have r3 := keep_block hb3 r2 (lt_of_block r2)
      have HB : Hid (Below w.heap.size w w3) := HB2.out.trans (hb3.mono HB2.out.size)
      clear hb3 r2 g2 HB2 cg0 cg1 cg2 cg3
      obtain ⟨y0, y1, y2⟩ := cells3 r3
      have z0 := thawed r3 0
      have z1 := thawed r3 1
      have z2 := thawed r3 2
      go_wp2_with fail
      refine (specIn_is _ _ _ _ KL.out _).mono ?_
      rintro e w' ⟨rfl, rfl⟩
      go_wp2
      (try simp only [Exit.inBlock, Exit.then])
      refine bodyPost_ret (v := adV 0 0 0 false) ?_ rfl ⟨by rw [HE.out], ?_⟩
      · rw [results_cell_tmp rfl]
        go_simp
        rfl
      · have h1 := HB.out.size
        repeat' (first | refine Below.setCell ?_ (by simp <;> omega) _ | refine Below.drew ?_ | exact HB.out)
    case pos =>
      have ko3 : o = 0 ∨ o = 1 ∨ o = 2 := by omega
      rcases ko3 with rfl | rfl | rfl
      · cases h
        · exact specMapLine_0_false a b r d l kl w
        · exact specMapLine_0_true a b r d l kl w
      · cases h
        · exact specMapLine_1_false a b r d l kl w
        · exact specMapLine_1_true a b r d l kl w
      · cases h
        · exact specMapLine_2_false a b r d l kl w
        · exact specMapLine_2_true a b r d l kl w

end Go.Proofs.Ytdgaggcjimafbaa
