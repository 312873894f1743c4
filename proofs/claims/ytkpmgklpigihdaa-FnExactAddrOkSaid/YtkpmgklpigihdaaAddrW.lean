/-
  FnAddresses' and FnGroups' walks, out of the contracts of impl's functions over geometries.
-/
import Derived.Test.YtkpmgklpigihdaaDrawGeoW
import Derived.Test.YtkpmgklpigihdaaMade
import Derived.Test.YtkpmgklpigihdaaIntsW
namespace Go.Proofs.Ytkpmgklpigihdaa
open Go.RowKit

set_option linter.unusedVariables false

def geoV (a b r d : Int) : Value := .agg #[.int .i64 a, .int .i64 b, .int .i64 r, .int .i64 d]

theorem line_addr {a b r d n : Int} (h : LnOk a b r d n) : AdOk a b r d (n / d / r) (n / d % r) (n % d) := by
  obtain ⟨_, _, ⟨g0, g1⟩, ⟨g2, g3⟩⟩ := h.geo
  obtain ⟨h0, h1⟩ := h
  have q0 : 0 ≤ n / d := Int.ediv_nonneg h0 (by omega)
  have q1 : n / d < bankN a b r d * r := Int.ediv_lt_of_lt_mul (by omega) (by unfold lineN at h1; omega)
  refine ⟨⟨Int.ediv_nonneg q0 (by omega), ?_⟩, ⟨Int.emod_nonneg _ (by omega), ?_⟩, ⟨Int.emod_nonneg _ (by omega), ?_⟩⟩
  · have := Int.ediv_lt_of_lt_mul (show 0 < r by omega) q1
    omega
  · have := Int.emod_lt_of_pos (n / d) (show 0 < r by omega)
    omega
  · have := Int.emod_lt_of_pos n (show 0 < d by omega)
    omega

theorem line_index {a b r d n : Int} (h : LnOk a b r d n) : idxF a b r d (n / d / r) (n / d % r) (n % d) = n := by
  unfold idxF
  rw [if_pos (line_addr h)]
  have e1 := Int.mul_ediv_add_emod (n / d) r
  have e2 := Int.mul_ediv_add_emod n d
  rw [Int.mul_comm (n / d / r) r, e1, Int.mul_comm (n / d) d, e2]

/-- impl's functions over geometries do as the chapter says. -/
structure ImplGeo : Prop where
  geo : ∀ a b r d w, Calls Try.prog 19 #[geoV a b r d] w (Gives (.bool (decide (GeoOk a b r d))) w)
  bank : ∀ a b r d w, Calls Try.prog 22 #[geoV a b r d] w (Gives (.int .i64 (bankN a b r d)) w)
  line : ∀ a b r d w, Calls Try.prog 21 #[geoV a b r d] w (Gives (.int .i64 (lineN a b r d)) w)
  group : ∀ a b r d k w, Calls Try.prog 20 #[geoV a b r d, .int .i64 k] w (Gives (.int .i64 (groupF a b r d k)) w)
  ok : ∀ a b r d x y z w, Calls Try.prog 18 #[geoV a b r d, .agg #[.int .i64 x, .int .i64 y, .int .i64 z]] w (Gives (.bool (decide (AdOk a b r d x y z))) w)
  index : ∀ a b r d x y z w, Calls Try.prog 17 #[geoV a b r d, .agg #[.int .i64 x, .int .i64 y, .int .i64 z]] w (Gives (.int .i64 (idxF a b r d x y z)) w)
  addr : ∀ a b r d n w, Calls Try.prog 16 #[geoV a b r d, .int .i64 n] w (Gives (atF a b r d n) w)

set_option maxHeartbeats 4000000 in
theorem addresses_walk (I : ImplGeo) (a : Option Addr) (len cap : Nat) (z : List Int) (w : World) (hr : IsRow .u8 w a len cap z) :
    Calls Try.prog 3 #[.slice a len cap] w fun e w' => e = .returned (.bool true) ∧ Below w.heap.size w w' := by
  have hl := hr.len_le
  unfold maxLen at hl
  have II := Lib.hid I
  clear I
  by_cases hbig : (1048576 : Int) < (len : Int)
  · go_enter Try.func3, Try.ntmps3
    go_wp2_with (go_at_call 12; refine (big_any _ _ _ _ (by omega)).mono ?_; rintro e w' ⟨rfl, rfl⟩)
    go_ret
    exact ⟨rfl, Below.refl _ _⟩
  · go_enter Try.func3, Try.ntmps3
    go_wp2_with (go_at_call 12; refine (big_any _ _ _ _ (by omega)).mono ?_; rintro e w' ⟨rfl, rfl⟩)
    refine (drawGeometry_any hr).mono ?_
    rintro e w1 ⟨g, b, r, d, rfl, hok, hb1⟩
    have HR1 := Lib.hid ((hr.below (fun x hx hc => hr.lt hx hc) hb1).alloc (.cells #[.int .i64 g, .int .i64 b, .int .i64 r, .int .i64 d] 25))
    have HB1 := Lib.hid hb1
    clear hr hb1
    obtain ⟨w2, hw2⟩ : ∃ x, w1.alloc (.cells #[.int .i64 g, .int .i64 b, .int .i64 r, .int .i64 d] 25) = x := ⟨_, rfl⟩
    have HB2 : Hid (Below w.heap.size w w2) := by subst hw2; exact HB1.out.alloc HB1.out.size _
    have h2 : w2.heap[w1.heap.size]? = some (.cells #[.int .i64 g, .int .i64 b, .int .i64 r, .int .i64 d] 25) := by subst hw2; exact heap_alloc_new _ _
    rw [hw2] at HR1
    have hlt2 := lt_of_block h2
    go_wp2_with fail
    refine (drawPlaces_any HR1.out).mono ?_
    rintro e w3 ⟨gp, c2, l, rfl, hl12, hp, ho3, hb3⟩
    obtain ⟨p0, hc0, p00, p01⟩ := place_at ho3 hl12 hp 0 (by omega)
    have h3 := keep_block hb3 h2 hlt2
    have HB3 : Hid (Below w.heap.size w w3) := HB2.out.trans (hb3.mono HB2.out.size)
    clear ho3 hl12 hp hb3 HR1 HB1 HB2 hw2 h2 hlt2
    -- the numbers
    have hgeo : GeoOk g b r d := by
      obtain ⟨h1, h2, h4, h5⟩ := hok
      exact ⟨h1, h2, ⟨h4.1, by omega⟩, ⟨h5.1, by omega⟩⟩
    obtain ⟨m, hm⟩ : ∃ m, lineN g b r d = m := ⟨_, rfl⟩
    have hmr := lineN_range g b r d
    have hm1 : 1 ≤ m := by
      rw [← hm]; unfold lineN bankN
      rw [if_pos hgeo]
      obtain ⟨h1, h2, h4, h5⟩ := hgeo
      have t1 : 0 < g * b := Int.mul_pos (by omega) (by omega)
      have t2 : 0 < g * b * r := Int.mul_pos t1 (by omega)
      have t3 : 0 < g * b * r * d := Int.mul_pos t2 (by omega)
      omega
    rw [hm] at hmr
    obtain ⟨n, hn⟩ : ∃ n, p0 % m = n := ⟨_, rfl⟩
    have n0 : 0 ≤ n := by rw [← hn]; exact Int.emod_nonneg _ (by omega)
    have n1 : n < m := by rw [← hn]; exact Int.emod_lt_of_pos _ (by omega)
    have hln : LnOk g b r d n := ⟨n0, by omega⟩
    have e0 : p0.tmod m = n := by rw [Int.tmod_eq_emod_of_nonneg p00, hn]
    have m0 : ¬ m = 0 := by omega
    have had := line_addr hln
    have hidx := line_index hln
    have hatn : atF g b r d n = adV (n / d / r) (n / d % r) (n % d) true := if_pos hln
    have hatm : atF g b r d m = adV 0 0 0 false := if_neg (fun h => by have := h.2; omega)
    obtain ⟨x, hx⟩ : ∃ x, n / d / r = x := ⟨_, rfl⟩
    obtain ⟨y, hy⟩ : ∃ y, n / d % r = y := ⟨_, rfl⟩
    obtain ⟨zz0, hz⟩ : ∃ z, n % d = z := ⟨_, rfl⟩
    rw [hx, hy, hz] at had hidx hatn
    have hgrp : groupF g b r d x = x / b := if_pos had.1
    obtain ⟨k, hk⟩ : ∃ k, bankN g b r d = k := ⟨_, rfl⟩
    have hkr := bankN_range g b r d
    rw [hk] at hkr
    have hlm : m = k * r * d := by rw [← hm, ← hk]; rfl
    have hx0 := had.1.1
    have hx1 : x ≤ 8 := by have := had.1.2; rw [hk] at this; omega
    have SL : Hid (∀ w, Calls Try.prog 15 #[.agg #[.int .i64 g, .int .i64 b, .int .i64 r, .int .i64 d]] w (Gives (.int .i64 m) w)) := fun w => specLine_is g b r d m hm w
    have IA : Hid (∀ w, Calls Try.prog 16 #[.agg #[.int .i64 g, .int .i64 b, .int .i64 r, .int .i64 d], .int .i64 n] w (Gives (.tuple #[.agg #[.int .i64 x, .int .i64 y, .int .i64 zz0], .bool true]) w)) := fun w => by have h := II.out.addr g b r d n w; rw [hatn] at h; exact h
    have IZ : Hid (∀ w, Calls Try.prog 16 #[.agg #[.int .i64 g, .int .i64 b, .int .i64 r, .int .i64 d], .int .i64 m] w (Gives (.tuple #[.agg #[.int .i64 0, .int .i64 0, .int .i64 0], .bool false]) w)) := fun w => by have h := II.out.addr g b r d m w; rw [hatm] at h; exact h
    have IX : Hid (∀ w, Calls Try.prog 17 #[.agg #[.int .i64 g, .int .i64 b, .int .i64 r, .int .i64 d], .agg #[.int .i64 x, .int .i64 y, .int .i64 zz0]] w (Gives (.int .i64 n) w)) := fun w => by have h := II.out.index g b r d x y zz0 w; rw [hidx] at h; exact h
    have IO : Hid (∀ w, Calls Try.prog 18 #[.agg #[.int .i64 g, .int .i64 b, .int .i64 r, .int .i64 d], .agg #[.int .i64 x, .int .i64 y, .int .i64 zz0]] w (Gives (.bool true) w)) := fun w => by have h := II.out.ok g b r d x y zz0 w; rw [decide_eq_true had] at h; exact h
    have IG : Hid (∀ w, Calls Try.prog 19 #[.agg #[.int .i64 g, .int .i64 b, .int .i64 r, .int .i64 d]] w (Gives (.bool true) w)) := fun w => by have h := II.out.geo g b r d w; rw [decide_eq_true hgeo] at h; exact h
    have IR : Hid (∀ w, Calls Try.prog 20 #[.agg #[.int .i64 g, .int .i64 b, .int .i64 r, .int .i64 d], .int .i64 x] w (Gives (.int .i64 (x / b)) w)) := fun w => by have h := II.out.group g b r d x w; rw [hgrp] at h; exact h
    have IL : Hid (∀ w, Calls Try.prog 21 #[.agg #[.int .i64 g, .int .i64 b, .int .i64 r, .int .i64 d]] w (Gives (.int .i64 m) w)) := fun w => by have h := II.out.line g b r d w; rw [hm] at h; exact h
    have IB : Hid (∀ w, Calls Try.prog 22 #[.agg #[.int .i64 g, .int .i64 b, .int .i64 r, .int .i64 d]] w (Gives (.int .i64 k) w)) := fun w => by have h := II.out.bank g b r d w; rw [hk] at h; exact h
    obtain ⟨_, ⟨b1, b4⟩, ⟨r1, r4⟩, ⟨d1, d4⟩⟩ := hgeo
    have kr0 : 0 ≤ k * r := Int.mul_nonneg hkr.1 (by omega)
    have kr1 : k * r ≤ 8 * 16 := Int.mul_le_mul hkr.2 r4 (by omega) (by omega)
    have f1 : x.tdiv b = x / b := Int.tdiv_eq_ediv_of_nonneg hx0
    have xb0 : 0 ≤ x / b := Int.ediv_nonneg hx0 (by omega)
    have xb1 : x / b ≤ x := Int.ediv_le_self _ hx0
    have f2 : IntKind.i64.wrap (x / b) = x / b := IntWalk.i64_in _ ⟨by omega, by omega⟩
    have f3 : IntKind.i64.wrap (k * r) = k * r := IntWalk.i64_in _ ⟨by omega, by omega⟩
    have f4 : IntKind.i64.wrap (k * r * d) = m := by rw [← hlm]; exact IntWalk.i64_in _ ⟨by omega, by omega⟩
    have b0' : ¬ b = 0 := by omega
    clear II hatn hatm hidx hgrp had hln hm hk hlm hx hy hz hn kr0 kr1 hkr
    have c3_0 : w3.cell? ⟨w1.heap.size, 0, none⟩ = some (.int .i64 g) := by simp [World.cell?, h3]
    have c3_1 : w3.cell? ⟨w1.heap.size, 1, none⟩ = some (.int .i64 b) := by simp [World.cell?, h3]
    have c3_2 : w3.cell? ⟨w1.heap.size, 2, none⟩ = some (.int .i64 r) := by simp [World.cell?, h3]
    have c3_3 : w3.cell? ⟨w1.heap.size, 3, none⟩ = some (.int .i64 d) := by simp [World.cell?, h3]
    have zp := fun q : Later w3 => q.cell hc0
    have z3_0 := fun q : Later w3 => q.cell c3_0
    have z3_1 := fun q : Later w3 => q.cell c3_1
    have z3_2 := fun q : Later w3 => q.cell c3_2
    have z3_3 := fun q : Later w3 => q.cell c3_3
    go_wp2_with fail
    refine wp_region_later (by kernel_rfl) (by kernel_rfl) ?_
    repeat (go_big_quiet_step (first | (go_at_call 15; exact Gives.later _ (SL.out _))))
    refine wpQuiet_nil ?_
    rintro w4 ⟨q4, hq4⟩
    have hb4 : Below w3.heap.size w3 w4 := hq4 ▸ q4.ok
    have h4 := keep_block hb4 h3 (lt_of_block h3)
    have HB4 : Hid (Below w.heap.size w w4) := HB3.out.trans (hb4.mono HB3.out.size)
    clear hq4 q4 hb4 h3 zp z3_0 z3_1 z3_2 z3_3 c3_0 c3_1 c3_2 c3_3 hc0 HB3
    have c4_0 : w4.cell? ⟨w1.heap.size, 0, none⟩ = some (.int .i64 g) := by simp [World.cell?, h4]
    have c4_1 : w4.cell? ⟨w1.heap.size, 1, none⟩ = some (.int .i64 b) := by simp [World.cell?, h4]
    have c4_2 : w4.cell? ⟨w1.heap.size, 2, none⟩ = some (.int .i64 r) := by simp [World.cell?, h4]
    have c4_3 : w4.cell? ⟨w1.heap.size, 3, none⟩ = some (.int .i64 d) := by simp [World.cell?, h4]
    go_wp2_with fail
    refine (IA.out _).mono ?_
    rintro e w5 ⟨rfl, hb5⟩
    have h5 := keep_block hb5 h4 (lt_of_block h4)
    have HB5 : Hid (Below w.heap.size w w5) := HB4.out.trans (hb5.mono HB4.out.size)
    clear hb5 h4 HB4 c4_0 c4_1 c4_2 c4_3
    obtain ⟨w6, hw6⟩ : ∃ u, w5.alloc (.cells #[.int .i64 x, .int .i64 y, .int .i64 zz0] 31) = u := ⟨_, rfl⟩
    have hb6 : Below w5.heap.size w5 w6 := by subst hw6; exact (Below.refl _ _).alloc (Nat.le_refl _) _
    have h6 := keep_block hb6 h5 (lt_of_block h5)
    have a6 : w6.heap[w5.heap.size]? = some (.cells #[.int .i64 x, .int .i64 y, .int .i64 zz0] 31) := by subst hw6; exact heap_alloc_new _ _
    have HB6 : Hid (Below w.heap.size w w6) := HB5.out.trans (hb6.mono HB5.out.size)
    clear hb6 h5 HB5
    have c6_0 : w6.cell? ⟨w1.heap.size, 0, none⟩ = some (.int .i64 g) := by simp [World.cell?, h6]
    have c6_1 : w6.cell? ⟨w1.heap.size, 1, none⟩ = some (.int .i64 b) := by simp [World.cell?, h6]
    have c6_2 : w6.cell? ⟨w1.heap.size, 2, none⟩ = some (.int .i64 r) := by simp [World.cell?, h6]
    have c6_3 : w6.cell? ⟨w1.heap.size, 3, none⟩ = some (.int .i64 d) := by simp [World.cell?, h6]
    go_wp2_with fail
    refine wp_region_made (A := ?A) (cells := ?cells) 7 (by kernel_rfl) (by kernel_rfl) rfl rfl ?walk ?hx (by decide) ?size ?alloc (zero := #[.int .i64 0, .int .i64 0, .int .i64 0]) ?info ?ho ?hone ?rest
    case walk =>
      intro F hF hN
      have z6_0 := fun q : LaterF w6 F => q.cell c6_0
      have z6_1 := fun q : LaterF w6 F => q.cell c6_1
      have z6_2 := fun q : LaterF w6 F => q.cell c6_2
      have z6_3 := fun q : LaterF w6 F => q.cell c6_3
      simp only [List.take_succ_cons, List.take_zero]
      repeat (go_big_quiet_step (first | (go_at_call 15; exact Gives.laterF hF _ (SL.out _)) | (go_at_call 16; exact Gives.laterF hF _ (IZ.out _))))
      refine wpQuiet_nil ?_
      exact rfl
    case hx => rfl
    case size => simp
    case ho => rfl
    case hone => simp [Value.oneCell']
    case info => kernel_rfl
    case alloc =>
      intro a w K hK
      go_simp
      exact hK
    case rest =>
      intro g7 w7 hb7 hg7 hr7
      simp only [List.drop_succ_cons, List.drop_zero, Act.put, List.setIfInBounds_toArray, List.set_cons_zero, List.set_cons_succ]
      have h7 := keep_block hb7 h6 (lt_of_block h6)
      have a7 := keep_block hb7 a6 (lt_of_block a6)
      have HB7 : Hid (Below w.heap.size w w7) := HB6.out.trans (hb7.mono HB6.out.size)
      clear hb7 h6 a6 HB6 hw6 c6_0 c6_1 c6_2 c6_3
      have c7_0 : w7.cell? ⟨w1.heap.size, 0, none⟩ = some (.int .i64 g) := by simp [World.cell?, h7]
      have c7_1 : w7.cell? ⟨w1.heap.size, 1, none⟩ = some (.int .i64 b) := by simp [World.cell?, h7]
      have c7_2 : w7.cell? ⟨w1.heap.size, 2, none⟩ = some (.int .i64 r) := by simp [World.cell?, h7]
      have c7_3 : w7.cell? ⟨w1.heap.size, 3, none⟩ = some (.int .i64 d) := by simp [World.cell?, h7]
      have d7_0 : w7.cell? ⟨w5.heap.size, 0, none⟩ = some (.int .i64 x) := by simp [World.cell?, a7]
      have d7_1 : w7.cell? ⟨w5.heap.size, 1, none⟩ = some (.int .i64 y) := by simp [World.cell?, a7]
      have d7_2 : w7.cell? ⟨w5.heap.size, 2, none⟩ = some (.int .i64 zz0) := by simp [World.cell?, a7]
      have z7_0 := fun q : Later w7 => q.cell c7_0
      have z7_1 := fun q : Later w7 => q.cell c7_1
      have z7_2 := fun q : Later w7 => q.cell c7_2
      have z7_3 := fun q : Later w7 => q.cell c7_3
      have y7_0 := fun q : Later w7 => q.cell d7_0
      have y7_1 := fun q : Later w7 => q.cell d7_1
      have y7_2 := fun q : Later w7 => q.cell d7_2
      go_wp2_with fail
      refine wp_region_later (by kernel_rfl) (by kernel_rfl) ?_
      repeat (go_big_quiet_step (first | (go_at_call 17; exact Gives.later _ (IX.out _)) | (go_at_call 18; exact Gives.later _ (IO.out _)) | (go_at_call 19; exact Gives.later _ (IG.out _)) | (go_at_call 20; exact Gives.later _ (IR.out _)) | (go_at_call 21; exact Gives.later _ (IL.out _)) | (go_at_call 22; exact Gives.later _ (IB.out _))))
      refine wpQuiet_nil ?_
      rintro w8 ⟨q8, hq8⟩
      have hb8 : Below w7.heap.size w7 w8 := hq8 ▸ q8.ok
      have HB8 : Hid (Below w.heap.size w w8) := HB7.out.trans (hb8.mono HB7.out.size)
      clear hq8 q8 hb8
      go_wp2
      go_ret
      exact ⟨rfl, HB8.out⟩

/-- How many of the first j banks lie in group i. -/
def cntG (b i j : Int) : Int := if j ≤ i * b then 0 else if (i + 1) * b ≤ j then b else j - i * b

theorem cntG_same {b j : Int} (hb : 0 < b) : cntG b (j / b) (j + 1) = cntG b (j / b) j + 1 := by
  have h1 := Int.mul_ediv_add_emod j b
  have h2 := Int.emod_nonneg j (show b ≠ 0 by omega)
  have h3 := Int.emod_lt_of_pos j hb
  obtain ⟨q, hq⟩ : ∃ q, j / b = q := ⟨_, rfl⟩
  rw [hq, Int.mul_comm] at h1
  rw [hq]
  unfold cntG
  rw [Int.add_mul, Int.one_mul]
  repeat' split
  all_goals omega

theorem cntG_other {b i j : Int} (hb : 0 < b) (h : i ≠ j / b) : cntG b i (j + 1) = cntG b i j := by
  have h1 := Int.mul_ediv_add_emod j b
  have h2 := Int.emod_nonneg j (show b ≠ 0 by omega)
  have h3 := Int.emod_lt_of_pos j hb
  obtain ⟨q, hq⟩ : ∃ q, j / b = q := ⟨_, rfl⟩
  rw [hq] at h
  rw [hq, Int.mul_comm] at h1
  unfold cntG
  rw [Int.add_mul, Int.one_mul]
  rcases Int.lt_or_gt_of_ne h with hl | hl
  · have h4 : (i + 1) * b ≤ q * b := Int.mul_le_mul_of_nonneg_right (by omega) (by omega)
    rw [Int.add_mul, Int.one_mul] at h4
    repeat' split
    all_goals omega
  · have h4 : (q + 1) * b ≤ i * b := Int.mul_le_mul_of_nonneg_right (by omega) (by omega)
    rw [Int.add_mul, Int.one_mul] at h4
    repeat' split
    all_goals omega

theorem cntG_range {b i j : Int} (hb : 0 < b) : 0 ≤ cntG b i j ∧ cntG b i j ≤ b := by
  unfold cntG
  rw [Int.add_mul, Int.one_mul]
  repeat' split
  all_goals omega

theorem cntG_all {b i g : Int} (hb : 0 < b) (h : i < g) : cntG b i (g * b) = b := by
  have h4 : (i + 1) * b ≤ g * b := Int.mul_le_mul_of_nonneg_right (by omega) (by omega)
  unfold cntG
  rw [Int.add_mul, Int.one_mul] at h4 ⊢
  repeat' split
  all_goals omega

/-- The counts of the groups when j banks have been looked at. -/
def cntsG (b : Int) (G : Nat) (j : Int) : List Int := (List.range G).map fun (i : Nat) => cntG b (i : Int) j

theorem cntsG_length (b : Int) (G : Nat) (j : Int) : (cntsG b G j).length = G := by simp [cntsG]

theorem cntsG_get (b : Int) (G : Nat) (j : Int) (i : Nat) (h : i < (cntsG b G j).length) : (cntsG b G j)[i] = cntG b (i : Int) j := by simp [cntsG]

theorem cntsG_zero (b : Int) (hb : 0 < b) (G : Nat) : cntsG b G 0 = List.replicate G 0 := by
  apply List.ext_getElem
  · simp [cntsG]
  · intro i h1 h2
    rw [cntsG_get, List.getElem_replicate]
    have : 0 ≤ (i : Int) * b := Int.mul_nonneg (by omega) (by omega)
    unfold cntG
    rw [if_pos this]

theorem cntsG_step {b : Int} (hb : 0 < b) (G : Nat) (j : Int) (q : Nat) (hq : (q : Int) = j / b) (hqG : q < G) :
    cntsG b G (j + 1) = (cntsG b G j).set q (cntG b (q : Int) j + 1) := by
  apply List.ext_getElem
  · simp [cntsG]
  · intro i h1 h2
    rw [cntsG_get, List.getElem_set]
    split
    · rename_i e
      subst e
      rw [hq]; exact cntG_same hb
    · rename_i e
      rw [cntsG_get]
      exact cntG_other hb (fun e2 => e (by rw [← hq] at e2; omega))

set_option maxHeartbeats 4000000 in
theorem groups_walk (I : ImplGeo) (a : Option Addr) (len cap : Nat) (z : List Int) (w : World) (hr : IsRow .u8 w a len cap z) :
    Calls Try.prog 4 #[.slice a len cap] w fun e w' => e = .returned (.bool true) ∧ Below w.heap.size w w' := by
  have hl := hr.len_le
  unfold maxLen at hl
  have II := Lib.hid I
  clear I
  obtain ⟨i0, hi, hz0, hz1, hz2⟩ := info_parts infoI
  by_cases hbig : (1048576 : Int) < (len : Int)
  · go_enter Try.func4, Try.ntmps4
    go_wp2_with (go_at_call 12; refine (big_any _ _ _ _ (by omega)).mono ?_; rintro e w' ⟨rfl, rfl⟩)
    go_ret
    exact ⟨rfl, Below.refl _ _⟩
  · go_enter Try.func4, Try.ntmps4
    go_wp2_with (go_at_call 12; refine (big_any _ _ _ _ (by omega)).mono ?_; rintro e w' ⟨rfl, rfl⟩)
    refine (drawGeometry_any hr).mono ?_
    rintro e w1 ⟨g, b, r, d, rfl, hok, hb1⟩
    have HB1 := Lib.hid hb1
    clear hr hb1
    obtain ⟨G, rfl⟩ := Int.eq_ofNat_of_zero_le (show 0 ≤ g by omega)
    have hgeo : GeoOk G b r d := by
      obtain ⟨h1, h2, h4, h5⟩ := hok
      exact ⟨h1, h2, ⟨h4.1, by omega⟩, ⟨h5.1, by omega⟩⟩
    obtain ⟨⟨g1, g2⟩, ⟨b1, b4⟩, _, _⟩ := hok
    obtain ⟨w2, hw2⟩ : ∃ x, w1.alloc (.cells #[.int .i64 (G : Int), .int .i64 b, .int .i64 r, .int .i64 d] 25) = x := ⟨_, rfl⟩
    have HB2 : Hid (Below w.heap.size w w2) := by subst hw2; exact HB1.out.alloc HB1.out.size _
    have h2 : w2.heap[w1.heap.size]? = some (.cells #[.int .i64 (G : Int), .int .i64 b, .int .i64 r, .int .i64 d] 25) := by subst hw2; exact heap_alloc_new _ _
    have hbk : bankN G b r d = G * b := if_pos hgeo
    have IB : Hid (∀ w, Calls Try.prog 22 #[.agg #[.int .i64 (G : Int), .int .i64 b, .int .i64 r, .int .i64 d]] w (Gives (.int .i64 (G * b)) w)) := fun w => by have h := II.out.bank G b r d w; rw [hbk] at h; exact h
    have IG : Hid (∀ j : Int, 0 ≤ j → j < G * b → ∀ w, Calls Try.prog 20 #[.agg #[.int .i64 (G : Int), .int .i64 b, .int .i64 r, .int .i64 d], .int .i64 j] w (Gives (.int .i64 (j / b)) w)) := fun j h0 h1 w => by
      have h := II.out.group G b r d j w
      have e : groupF G b r d j = j / b := if_pos (by rw [hbk]; omega)
      rw [e] at h; exact h
    have IE : Hid (∀ w, Calls Try.prog 20 #[.agg #[.int .i64 (G : Int), .int .i64 b, .int .i64 r, .int .i64 d], .int .i64 (G * b)] w (Gives (.int .i64 (-1)) w)) := fun w => by
      have h := II.out.group G b r d (G * b) w
      have e : groupF G b r d (G * b) = -1 := if_neg (by rw [hbk]; omega)
      rw [e] at h; exact h
    have gb0 : 0 ≤ (G : Int) * b := Int.mul_nonneg (by omega) (by omega)
    have gb1 : (G : Int) * b ≤ 2 * 4 := Int.mul_le_mul g2 b4 (by omega) (by omega)
    obtain ⟨N, hN⟩ := Int.eq_ofNat_of_zero_le gb0
    have HN := Lib.hid hN
    rw [hN] at gb1
    have IB' : Hid (∀ w, Calls Try.prog 22 #[.agg #[.int .i64 (G : Int), .int .i64 b, .int .i64 r, .int .i64 d]] w (Gives (.int .i64 (N : Int)) w)) := fun w => by have h := IB.out w; rw [hN] at h; exact h
    have IE' : Hid (∀ w, Calls Try.prog 20 #[.agg #[.int .i64 (G : Int), .int .i64 b, .int .i64 r, .int .i64 d], .int .i64 (N : Int)] w (Gives (.int .i64 (-1)) w)) := fun w => by have h := IE.out w; rw [hN] at h; exact h
    have hlt2 := lt_of_block h2
    clear hbk gb0 hN II IB IE hgeo
    have c2_0 : w2.cell? ⟨w1.heap.size, 0, none⟩ = some (.int .i64 (G : Int)) := by simp [World.cell?, h2]
    have c2_1 : w2.cell? ⟨w1.heap.size, 1, none⟩ = some (.int .i64 b) := by simp [World.cell?, h2]
    have c2_2 : w2.cell? ⟨w1.heap.size, 2, none⟩ = some (.int .i64 r) := by simp [World.cell?, h2]
    have c2_3 : w2.cell? ⟨w1.heap.size, 3, none⟩ = some (.int .i64 d) := by simp [World.cell?, h2]
    go_wp2_with (at_make; refine wpList_make_full _ rfl _ _ 27 rfl w2.heap.size 3 i0 (.int .i64 0) 1 Try.underlying27 hi hz0 hz1 _ _ _ _ G rfl rfl rfl rfl (by rw [hz2]; omega) (by unfold maxLen; omega) (Nat.le_refl _) ?_)
    intro w3 hown hgr
    have hb3 : Below w2.heap.size w2 w3 := (Below.refl _ _).grown hgr (Nat.le_refl _) (fun k hk => by cases hk)
    have h3 := keep_block hb3 h2 hlt2
    have HB3 : Hid (Below w.heap.size w w3) := HB2.out.trans (hb3.mono HB2.out.size)
    have HO : Hid (OwnI w2.heap.size (.slice (some ⟨w2.heap.size, 0, none⟩) G G) (cntsG b G 0) w3) := by
      show OwnI _ _ _ _
      rw [cntsG_zero b (by omega) G]
      unfold OwnI
      rw [List.length_replicate]
      rw [made_one] at hown
      rw [show (List.replicate G (0 : Int)).map (Value.int .i64) = List.replicate G (Value.int .i64 0) by simp]
      exact hown
    have HS : Hid (w2.heap.size < w3.heap.size) := by
      have h4 := HO.out
      obtain ⟨g', hg', _, _, _, h5⟩ := h4.at (k := 0) (by rw [cntsG_length]; omega)
      have : w2.heap.size = g' := by simpa using hg'
      subst this; exact h5
    have HBS : Hid (w.heap.size ≤ w2.heap.size) := HB2.out.size
    clear hgr hown hb3 h2 c2_0 c2_1 c2_2 c2_3 HB2 HB1 hw2
    have H3 := Lib.hid h3
    clear h3
    go_wp2_with fail
    go_loopw [5] (fun s5 wr => ∃ j : Nat, j ≤ N ∧ s5 = .int .i64 j ∧ OwnI w2.heap.size (.slice (some ⟨w2.heap.size, 0, none⟩) G G) (cntsG b G j) wr ∧ Only w2.heap.size w3 wr) (fun s5 _ => N - (intOf s5).toNat)
    case atStart => exact ⟨0, Nat.zero_le _, rfl, HO.out, Only.refl _ _⟩
    case round =>
      obtain ⟨j, hj, rfl, hown, hor⟩ := hrel
      have HOWN := Lib.hid hown
      have HOR := Lib.hid hor
      have hr0 : wr.heap[w1.heap.size]? = _ := (hor.block _ (lt_of_block H3.out) (by omega)).trans H3.out
      have HR0 := Lib.hid hr0
      have c0_0 : wr.cell? ⟨w1.heap.size, 0, none⟩ = some (.int .i64 (G : Int)) := by simp [World.cell?, hr0]
      have c0_1 : wr.cell? ⟨w1.heap.size, 1, none⟩ = some (.int .i64 b) := by simp [World.cell?, hr0]
      have c0_2 : wr.cell? ⟨w1.heap.size, 2, none⟩ = some (.int .i64 r) := by simp [World.cell?, hr0]
      have c0_3 : wr.cell? ⟨w1.heap.size, 3, none⟩ = some (.int .i64 d) := by simp [World.cell?, hr0]
      clear hown hor hr0
      go_wp2_with fail
      refine (IB'.out _).mono ?_
      rintro e wa ⟨rfl, hba⟩
      have ha := keep_block hba HR0.out (lt_of_block HR0.out)
      have HA := Lib.hid ha
      have HOA := Lib.hid (HOWN.out.below hba)
      have HRA := Lib.hid (HOR.out.later hba)
      clear hba c0_0 c0_1 c0_2 c0_3
      have ca_0 : wa.cell? ⟨w1.heap.size, 0, none⟩ = some (.int .i64 (G : Int)) := by simp [World.cell?, ha]
      have ca_1 : wa.cell? ⟨w1.heap.size, 1, none⟩ = some (.int .i64 b) := by simp [World.cell?, ha]
      have ca_2 : wa.cell? ⟨w1.heap.size, 2, none⟩ = some (.int .i64 r) := by simp [World.cell?, ha]
      have ca_3 : wa.cell? ⟨w1.heap.size, 3, none⟩ = some (.int .i64 d) := by simp [World.cell?, ha]
      clear ha
      by_cases hlt : j < N
      · have q0 : 0 ≤ (j : Int) / b := Int.ediv_nonneg (by omega) (by omega)
        have q1 : (j : Int) / b < (G : Int) := Int.ediv_lt_of_lt_mul (by omega) (by rw [HN.out]; omega)
        obtain ⟨q, hq⟩ := Int.eq_ofNat_of_zero_le q0
        have IQ := Lib.hid (IG.out (j : Int) (by omega) (by rw [HN.out]; omega))
        rw [hq] at IQ q1
        have HQ := Lib.hid hq
        clear q0 hq
        go_wp2_with fail
        refine (IQ.out _).mono ?_
        rintro e wb ⟨rfl, hbb⟩
        have hb := keep_block hbb HA.out (lt_of_block HA.out)
        have HB := Lib.hid hb
        have HOB := Lib.hid (HOA.out.below hbb)
        have HRB := Lib.hid (HRA.out.later hbb)
        clear hbb ca_0 ca_1 ca_2 ca_3
        have cb_0 : wb.cell? ⟨w1.heap.size, 0, none⟩ = some (.int .i64 (G : Int)) := by simp [World.cell?, hb]
        have cb_1 : wb.cell? ⟨w1.heap.size, 1, none⟩ = some (.int .i64 b) := by simp [World.cell?, hb]
        have cb_2 : wb.cell? ⟨w1.heap.size, 2, none⟩ = some (.int .i64 r) := by simp [World.cell?, hb]
        have cb_3 : wb.cell? ⟨w1.heap.size, 3, none⟩ = some (.int .i64 d) := by simp [World.cell?, hb]
        clear hb
        have hqG : q < G := by omega
        obtain ⟨g', hg', hcell, hfz, hB, hgl⟩ := HOB.out.at (k := q) (by rw [cntsG_length]; exact hqG)
        have hge : w2.heap.size = g' := by simpa using hg'
        subst hge
        rw [cntsG_get] at hcell
        have hcr := cntG_range (i := (q : Int)) (j := (j : Int)) (show 0 < b by omega)
        have HST := Lib.hid (cntsG_step (show 0 < b by omega) G (j : Int) q HQ.out.symm hqG)
        obtain ⟨v, hv⟩ : ∃ v, cntG b (q : Int) (j : Int) = v := ⟨_, rfl⟩
        rw [hv] at hcell hcr HST
        have ev : IntKind.i64.wrap (v + 1) = v + 1 := IntWalk.i64_in _ ⟨by omega, by omega⟩
        clear hg' hv
        go_wp2_with fail
        have R : OwnI w2.heap.size (.slice (some ⟨w2.heap.size, 0, none⟩) G G) (cntsG b G ((j + 1 : Nat) : Int)) (wb.setCell ⟨w2.heap.size, q, none⟩ (.int .i64 (v + 1))) := by
          rw [show ((j + 1 : Nat) : Int) = (j : Int) + 1 by simp, HST.out]
          exact HOB.out.stored (cntsG_length _ _ _) q (v + 1)
        go_roundw
        case rel => exact ⟨j + 1, by omega, by go_num, R, HRB.out.setCell rfl _⟩
        case measure => simp [intOf]; omega
      · obtain rfl : j = N := by omega
        go_wp2_with fail
        clear ca_0 ca_1 ca_2 ca_3
        go_loopw [7] (fun s7 wr => ∃ i : Nat, i ≤ G ∧ s7 = .int .i64 i ∧ OwnI w2.heap.size (.slice (some ⟨w2.heap.size, 0, none⟩) G G) (cntsG b G (j : Int)) wr ∧ Only w2.heap.size w3 wr) (fun s7 _ => G - (intOf s7).toNat)
        case atStart => exact ⟨0, Nat.zero_le _, rfl, HOA.out, HRA.out⟩
        case round =>
          obtain ⟨i, hi, rfl, hown, hor⟩ := hrel
          have HOWN2 := Lib.hid hown
          have HOR2 := Lib.hid hor
          have hr0 := (hor.block _ (lt_of_block H3.out) (by omega)).trans H3.out
          have HR1 := Lib.hid hr0
          have c0_0 : wr.cell? ⟨w1.heap.size, 0, none⟩ = some (.int .i64 (G : Int)) := by simp [World.cell?, hr0]
          have c0_1 : wr.cell? ⟨w1.heap.size, 1, none⟩ = some (.int .i64 b) := by simp [World.cell?, hr0]
          have c0_2 : wr.cell? ⟨w1.heap.size, 2, none⟩ = some (.int .i64 r) := by simp [World.cell?, hr0]
          have c0_3 : wr.cell? ⟨w1.heap.size, 3, none⟩ = some (.int .i64 d) := by simp [World.cell?, hr0]
          clear hown hor hr0
          by_cases hlt2 : i < G
          · obtain ⟨g', hg', hcell, hfz, hB, hgl⟩ := HOWN2.out.at (k := i) (by rw [cntsG_length]; exact hlt2)
            have hge : w2.heap.size = g' := by simpa using hg'
            subst hge
            rw [cntsG_get, ← HN.out, cntG_all (show 0 < b by omega) (by omega)] at hcell
            clear hg'
            have tb : (b != b) = false := by simp
            go_wp2_with fail
            go_quiet (fail)
            go_wp2_with fail
            go_roundw
            case rel => exact ⟨i + 1, by omega, by go_num, (HOWN2.out.below ⟨rfl, rfl, rfl, Nat.le_refl _, fun _ _ => rfl⟩ : OwnI _ _ _ _), HOR2.out.later ⟨rfl, rfl, rfl, Nat.le_refl _, fun _ _ => rfl⟩⟩
            case measure => simp [intOf]; omega
          · obtain rfl : i = G := by omega
            have z_0 := fun q : Later wr => q.cell c0_0
            have z_1 := fun q : Later wr => q.cell c0_1
            have z_2 := fun q : Later wr => q.cell c0_2
            have z_3 := fun q : Later wr => q.cell c0_3
            go_wp2_with fail
            refine wp_region_later (by kernel_rfl) (by kernel_rfl) ?_
            repeat (go_big_quiet_step (first | (go_at_call 22; exact Gives.later _ (IB'.out _)) | (go_at_call 20; exact Gives.later _ (IE'.out _))))
            refine wpQuiet_nil ?_
            rintro w8 ⟨q8, hq8⟩
            have hb8 : Below wr.heap.size wr w8 := hq8 ▸ q8.ok
            have HO8 := Lib.hid (HOR2.out.later hb8)
            clear hq8 q8 hb8
            go_wp2
            go_ret
            have s1 := HB3.out.size
            have s2 := HBS.out
            exact ⟨rfl, HB3.out.trans (HO8.out.below (by omega) s1)⟩

end Go.Proofs.Ytkpmgklpigihdaa
