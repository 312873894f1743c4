/-
  impl's line numbers of addresses, order by order.
-/
import Derived.Test.YtdgaggcjimafbaaDigitW
import Derived.Test.YtdgaggcjimafbaaMapM
namespace Go.Proofs.Ytdgaggcjimafbaa
open Go.RowKit

set_option linter.unusedVariables false

set_option maxHeartbeats 4000000 in
set_option maxRecDepth 100000 in
theorem implLineOf_1_false (a b r d x y z : Int) (ka : AdOk a b r d x y z) (w : World) :
    Calls Try.prog 15 #[.agg #[.int .i64 a, .int .i64 b, .int .i64 r, .int .i64 d], .agg #[.int .i64 1, .bool false], .agg #[.int .i64 x, .int .i64 y, .int .i64 z]] w (Gives (.int .i64 (lineF a b r d 1 false x y z)) w) := by
  obtain ⟨w1, hw1⟩ : ∃ u, ((w.alloc (.cells #[.int .i64 a, .int .i64 b, .int .i64 r, .int .i64 d] 25)).alloc (.cells #[.int .i64 1, .bool false] 27)).alloc (.cells #[.int .i64 x, .int .i64 y, .int .i64 z] 37) = u := ⟨_, rfl⟩
  have HB1 : Hid (Below w.heap.size w w1) := by subst hw1; exact (((Below.refl _ _).alloc (by simp) _).alloc (by simp) _).alloc (by simp; omega) _
  have g1 : w1.heap[w.heap.size]? = some (.cells #[.int .i64 a, .int .i64 b, .int .i64 r, .int .i64 d] 25) := by subst hw1; exact box3_0 _ _ _ _
  have m1 : w1.heap[w.heap.size + 1]? = some (.cells #[.int .i64 1, .bool false] 27) := by subst hw1; exact box3_1 _ _ _ _
  have r1 : w1.heap[w.heap.size + 1 + 1]? = some (.cells #[.int .i64 x, .int .i64 y, .int .i64 z] 37) := by subst hw1; exact box3_2 _ _ _ _
  obtain ⟨cm0, cm1⟩ := cells2 m1
  have KO := Lib.hid (decide_eq_true (show (0 : Int) ≤ 1 ∧ (1 : Int) ≤ 2 by decide))
  have KA := Lib.hid (decide_eq_true ka)
  have hn2 := bankN_range a b r d
  have HE : Hid (lineF a b r d 1 false x y z = lineOrd 1 d r (bankN a b r d) (unHash false x y (bankN a b r d)) y z) := by show _ = _; exact if_pos ⟨by decide, ka⟩
  obtain ⟨_, _, ⟨e5, e6⟩, ⟨e7, e8⟩⟩ := geo_of_bank ka.1
  obtain ⟨⟨x0, x9⟩, ⟨y0, y9⟩, ⟨z0, z9⟩⟩ := ka
  obtain ⟨n, hn⟩ : ∃ n, bankN a b r d = n := ⟨_, rfl⟩
  have HN := Lib.hid hn
  rw [hn] at hn2 HE x9
  clear hn
  have hu := unHash_range (h := false) (y := y) (show 0 ≤ x ∧ x < n by omega)
  obtain ⟨x1, hx2⟩ : ∃ u, unHash false x y n = u := ⟨_, rfl⟩
  have hx1 : x = x1 := hx2
  rw [hx2] at hu HE
  clear hx2
  subst hx1
  obtain ⟨p1, hp1⟩ : ∃ u, y * d = u := ⟨_, rfl⟩
  have p10 : 0 ≤ p1 := by rw [← hp1]; exact Int.mul_nonneg (by omega) (by omega)
  have p11 : p1 ≤ 15 * 16 := by rw [← hp1]; exact Int.mul_le_mul (by omega) (by omega) (by omega) (by omega)
  have f1 : IntKind.i64.wrap (y * d) = p1 := by rw [hp1]; exact IntWalk.i64_in _ ⟨by omega, by omega⟩
  obtain ⟨l2, hl2⟩ : ∃ u, p1 + z = u := ⟨_, rfl⟩
  have f2 : IntKind.i64.wrap (p1 + z) = l2 := by rw [hl2]; exact IntWalk.i64_in _ ⟨by omega, by omega⟩
  obtain ⟨p2, hp2⟩ : ∃ u, l2 * n = u := ⟨_, rfl⟩
  have p20 : 0 ≤ p2 := by rw [← hp2]; exact Int.mul_nonneg (by omega) (by omega)
  have p21 : p2 ≤ 260 * 16 := by rw [← hp2]; exact Int.mul_le_mul (by omega) (by omega) (by omega) (by omega)
  have f3 : IntKind.i64.wrap (l2 * n) = p2 := by rw [hp2]; exact IntWalk.i64_in _ ⟨by omega, by omega⟩
  obtain ⟨l3, hl3⟩ : ∃ u, p2 + x = u := ⟨_, rfl⟩
  have f4 : IntKind.i64.wrap (p2 + x) = l3 := by rw [hl3]; exact IntWalk.i64_in _ ⟨by omega, by omega⟩
  have HF : Hid (lineF a b r d 1 false x y z = l3) := by
    show _ = _
    rw [HE.out, ← hl3, ← hp2, ← hl2, ← hp1]
    rfl
  have f5 : IntKind.i64.wrap y = y := IntWalk.i64_in _ ⟨by omega, by omega⟩
  clear hp1 hl2 hp2 hl3 HE
  go_enter Try.func15, Try.ntmps15
  go_wp2_with fail
  refine (implMappingOk_is _ _ _ KO.out _).mono ?_
  rintro e w2 ⟨rfl, hb2⟩
  have r2 := keep_block hb2 r1 (lt_of_block r1)
  have g2 := keep_block hb2 g1 (lt_of_block g1)
  have m2 := keep_block hb2 m1 (lt_of_block m1)
  have HB2 : Hid (Below w.heap.size w w2) := HB1.out.trans (hb2.mono HB1.out.size)
  clear hb2 r1 g1 m1 hw1 HB1 cm0 cm1
  obtain ⟨cg0, cg1, cg2, cg3⟩ := cells4 g2
  obtain ⟨cr0, cr1, cr2⟩ := cells3 r2
  go_wp2_with fail
  refine (implAddrOk_is _ _ _ _ _ _ _ _ KA.out _).mono ?_
  rintro e w3 ⟨rfl, hb3⟩
  have r3 := keep_block hb3 r2 (lt_of_block r2)
  have g3 := keep_block hb3 g2 (lt_of_block g2)
  have m3 := keep_block hb3 m2 (lt_of_block m2)
  have HB3 : Hid (Below w.heap.size w w3) := HB2.out.trans (hb3.mono HB2.out.size)
  clear hb3 r2 g2 m2 HB2 cg0 cg1 cg2 cg3 cr0 cr1 cr2
  obtain ⟨cg0, cg1, cg2, cg3⟩ := cells4 g3
  obtain ⟨cm0, cm1⟩ := cells2 m3
  obtain ⟨cr0, cr1, cr2⟩ := cells3 r3
  have r5 := r3
  have g5 := g3
  have m5 := m3
  have HB5 := HB3
  clear r3 g3 m3 HB3 cr0 cr1 cr2 cg0 cg1 cg2 cg3
  have hlr := lt_of_block r5
  go_wp2_with fail
  refine (digitsOf_1 _).mono ?_
  rintro e w6 ⟨rfl, hb6⟩
  have r6 := keep_block hb6 r5 (lt_of_block r5)
  have g6 := keep_block hb6 g5 (lt_of_block g5)
  have HB6 : Hid (Below w.heap.size w w6) := HB5.out.trans (hb6.mono HB5.out.size)
  clear hb6 r5 g5 m5 HB5 cm0 cm1
  have hl6 := lt_of_block r6
  obtain ⟨w7, hw7⟩ : ∃ u, w6.alloc (.cells #[.func (.func 49) #[] #[], .func (.func 48) #[] #[], .func (.func 50) #[] #[]] 67) = u := ⟨_, rfl⟩
  have hb7 : Below w6.heap.size w6 w7 := by subst hw7; exact (Below.refl _ _).alloc (Nat.le_refl _) _
  have t7 : w7.heap[w6.heap.size]? = some (.cells #[.func (.func 49) #[] #[], .func (.func 48) #[] #[], .func (.func 50) #[] #[]] 67) := by subst hw7; exact heap_alloc_new _ _
  have r7 := keep_block hb7 r6 (lt_of_block r6)
  have g7 := keep_block hb7 g6 (lt_of_block g6)
  have HB7 : Hid (Below w.heap.size w w7) := HB6.out.trans (hb7.mono HB6.out.size)
  clear hb7 r6 g6 HB6
  obtain ⟨db, hdb⟩ : ∃ u, w6.heap.size = u := ⟨_, rfl⟩
  rw [hdb] at t7
  go_wp2_with fail
  clear hw7 hdb
  go_loopw [8, 9] (fun line i wr => (∃ k : Nat, (k = 3 ∧ i = .int .i64 2 ∧ line = .int .i64 0) ∨ (k = 2 ∧ i = .int .i64 1 ∧ line = .int .i64 y) ∨ (k = 1 ∧ i = .int .i64 0 ∧ line = .int .i64 l2) ∨ (k = 0 ∧ i = .int .i64 (-1) ∧ line = .int .i64 l3))
    ∧ wr.heap[w.heap.size]? = some (.cells #[.int .i64 a, .int .i64 b, .int .i64 r, .int .i64 d] 25) ∧ wr.heap[w.heap.size + 1 + 1]? = some (.cells #[.int .i64 x, .int .i64 y, .int .i64 z] 37) ∧ wr.heap[db]? = some (.cells #[.func (.func 49) #[] #[], .func (.func 48) #[] #[], .func (.func 50) #[] #[]] 67) ∧ Below w.heap.size w wr) (fun _ i _ => (intOf i + 1).toNat)
  case atStart => exact ⟨⟨3, .inl ⟨rfl, rfl, rfl⟩⟩, g7, r7, t7, HB7.out⟩
  case round =>
    obtain ⟨⟨k, hk⟩, hg, hrr, hd, hbr⟩ := hrel
    have HBR := Lib.hid hbr
    clear hbr t7 r7 g7 HB7
    obtain ⟨cg0, cg1, cg2, cg3⟩ := cells4 hg
    obtain ⟨cr0, cr1, cr2⟩ := cells3 hrr
    obtain ⟨cd0, cd1, cd2⟩ := cells3 hd
    rcases hk with ⟨rfl, rfl, rfl⟩ | ⟨rfl, rfl, rfl⟩ | ⟨rfl, rfl, rfl⟩ | ⟨rfl, rfl, rfl⟩
    · have v0 := fun zz : Later wr => zz.cell cg0
      have v1 := fun zz : Later wr => zz.cell cg1
      have v2 := fun zz : Later wr => zz.cell cg2
      have v3 := fun zz : Later wr => zz.cell cg3
      have v4 := fun zz : Later wr => zz.cell cd2
      go_wp2_with fail
      refine wp_region_later (by kernel_rfl) (by kernel_rfl) ?_
      repeat (go_big_quiet_step (first | (go_at_call 50; exact Gives.later _ (rowDigit_is a b r d _ _))))
      refine wpQuiet_nil ?_
      rintro w8 ⟨q8, hq8⟩
      have hb8 : Below wr.heap.size wr w8 := hq8 ▸ q8.ok
      have g8' := keep_block hb8 hg (lt_of_block hg)
      have r8 := keep_block hb8 hrr (lt_of_block hrr)
      have d8 := keep_block hb8 hd (lt_of_block hd)
      have HB8 : Hid (Below w.heap.size w w8) := HBR.out.trans (hb8.mono HBR.out.size)
      clear hq8 q8 hb8 hg hrr hd HBR cg0 cg1 cg2 cg3 cr0 cr1 cr2 cd0 cd1 cd2 v0 v1 v2 v3 v4
      obtain ⟨cr0, cr1, cr2⟩ := cells3 r8
      go_wp2_with fail
      go_roundw
      case rel => exact ⟨⟨2, .inr (.inl ⟨rfl, rfl, rfl⟩)⟩, g8', r8, d8, HB8.out⟩
      case measure => simp [intOf]
    · have v0 := fun zz : Later wr => zz.cell cg0
      have v1 := fun zz : Later wr => zz.cell cg1
      have v2 := fun zz : Later wr => zz.cell cg2
      have v3 := fun zz : Later wr => zz.cell cg3
      have v4 := fun zz : Later wr => zz.cell cd1
      go_wp2_with fail
      refine wp_region_later (by kernel_rfl) (by kernel_rfl) ?_
      repeat (go_big_quiet_step (first | (go_at_call 48; exact Gives.later _ (colDigit_is a b r d _ _))))
      refine wpQuiet_nil ?_
      rintro w8 ⟨q8, hq8⟩
      have hb8 : Below wr.heap.size wr w8 := hq8 ▸ q8.ok
      have g8' := keep_block hb8 hg (lt_of_block hg)
      have r8 := keep_block hb8 hrr (lt_of_block hrr)
      have d8 := keep_block hb8 hd (lt_of_block hd)
      have HB8 : Hid (Below w.heap.size w w8) := HBR.out.trans (hb8.mono HBR.out.size)
      clear hq8 q8 hb8 hg hrr hd HBR cg0 cg1 cg2 cg3 cr0 cr1 cr2 cd0 cd1 cd2 v0 v1 v2 v3 v4
      obtain ⟨cr0, cr1, cr2⟩ := cells3 r8
      go_wp2_with fail
      go_roundw
      case rel => exact ⟨⟨1, .inr (.inr (.inl ⟨rfl, rfl, rfl⟩))⟩, g8', r8, d8, HB8.out⟩
      case measure => simp [intOf]
    · have v0 := fun zz : Later wr => zz.cell cg0
      have v1 := fun zz : Later wr => zz.cell cg1
      have v2 := fun zz : Later wr => zz.cell cg2
      have v3 := fun zz : Later wr => zz.cell cg3
      have v4 := fun zz : Later wr => zz.cell cd0
      go_wp2_with fail
      refine wp_region_later (by kernel_rfl) (by kernel_rfl) ?_
      repeat (go_big_quiet_step (first | (go_at_call 49; exact Gives.later _ (bankDigit_is a b r d n HN.out _ _))))
      refine wpQuiet_nil ?_
      rintro w8 ⟨q8, hq8⟩
      have hb8 : Below wr.heap.size wr w8 := hq8 ▸ q8.ok
      have g8' := keep_block hb8 hg (lt_of_block hg)
      have r8 := keep_block hb8 hrr (lt_of_block hrr)
      have d8 := keep_block hb8 hd (lt_of_block hd)
      have HB8 : Hid (Below w.heap.size w w8) := HBR.out.trans (hb8.mono HBR.out.size)
      clear hq8 q8 hb8 hg hrr hd HBR cg0 cg1 cg2 cg3 cr0 cr1 cr2 cd0 cd1 cd2 v0 v1 v2 v3 v4
      obtain ⟨cr0, cr1, cr2⟩ := cells3 r8
      go_wp2_with fail
      go_roundw
      case rel => exact ⟨⟨0, .inr (.inr (.inr ⟨rfl, rfl, rfl⟩))⟩, g8', r8, d8, HB8.out⟩
      case measure => simp [intOf]
    · go_wp2_with fail
      go_ret
      exact ⟨ret_i HF.out.symm, HBR.out⟩

set_option maxHeartbeats 4000000 in
set_option maxRecDepth 100000 in
theorem implLineOf_1_true (a b r d x y z : Int) (ka : AdOk a b r d x y z) (w : World) :
    Calls Try.prog 15 #[.agg #[.int .i64 a, .int .i64 b, .int .i64 r, .int .i64 d], .agg #[.int .i64 1, .bool true], .agg #[.int .i64 x, .int .i64 y, .int .i64 z]] w (Gives (.int .i64 (lineF a b r d 1 true x y z)) w) := by
  obtain ⟨w1, hw1⟩ : ∃ u, ((w.alloc (.cells #[.int .i64 a, .int .i64 b, .int .i64 r, .int .i64 d] 25)).alloc (.cells #[.int .i64 1, .bool true] 27)).alloc (.cells #[.int .i64 x, .int .i64 y, .int .i64 z] 37) = u := ⟨_, rfl⟩
  have HB1 : Hid (Below w.heap.size w w1) := by subst hw1; exact (((Below.refl _ _).alloc (by simp) _).alloc (by simp) _).alloc (by simp; omega) _
  have g1 : w1.heap[w.heap.size]? = some (.cells #[.int .i64 a, .int .i64 b, .int .i64 r, .int .i64 d] 25) := by subst hw1; exact box3_0 _ _ _ _
  have m1 : w1.heap[w.heap.size + 1]? = some (.cells #[.int .i64 1, .bool true] 27) := by subst hw1; exact box3_1 _ _ _ _
  have r1 : w1.heap[w.heap.size + 1 + 1]? = some (.cells #[.int .i64 x, .int .i64 y, .int .i64 z] 37) := by subst hw1; exact box3_2 _ _ _ _
  obtain ⟨cm0, cm1⟩ := cells2 m1
  have KO := Lib.hid (decide_eq_true (show (0 : Int) ≤ 1 ∧ (1 : Int) ≤ 2 by decide))
  have KA := Lib.hid (decide_eq_true ka)
  have hn2 := bankN_range a b r d
  have HE : Hid (lineF a b r d 1 true x y z = lineOrd 1 d r (bankN a b r d) (unHash true x y (bankN a b r d)) y z) := by show _ = _; exact if_pos ⟨by decide, ka⟩
  obtain ⟨_, _, ⟨e5, e6⟩, ⟨e7, e8⟩⟩ := geo_of_bank ka.1
  obtain ⟨⟨x0, x9⟩, ⟨y0, y9⟩, ⟨z0, z9⟩⟩ := ka
  obtain ⟨n, hn⟩ : ∃ n, bankN a b r d = n := ⟨_, rfl⟩
  have HN := Lib.hid hn
  rw [hn] at hn2 HE x9
  clear hn
  have hu := unHash_range (h := true) (y := y) (show 0 ≤ x ∧ x < n by omega)
  obtain ⟨k1, hk1⟩ : ∃ u, n - 1 = u := ⟨_, rfl⟩
  have hk0 : 0 ≤ k1 ∧ k1 ≤ 7 := by omega
  have w1' : IntKind.i64.wrap (n - 1) = k1 := by rw [hk1]; exact IntWalk.i64_in _ ⟨by omega, by omega⟩
  obtain ⟨k2, hk2⟩ : ∃ u, y * k1 = u := ⟨_, rfl⟩
  have hk3 : 0 ≤ k2 := by rw [← hk2]; exact Int.mul_nonneg y0 hk0.1
  have hk4 : k2 ≤ 15 * 7 := by rw [← hk2]; exact Int.mul_le_mul (by omega) hk0.2 hk0.1 (by omega)
  have w2' : IntKind.i64.wrap (y * k1) = k2 := by rw [hk2]; exact IntWalk.i64_in _ ⟨by omega, by omega⟩
  have hx1 : (x + k2) % n = unHash true x y n := by rw [← hk2, ← hk1]; exact unHash_back
  obtain ⟨x1, hx2⟩ : ∃ u, unHash true x y n = u := ⟨_, rfl⟩
  rw [hx2] at hx1 hu HE
  have HR : Hid (∀ w, Calls Try.prog 39 #[.agg #[.int .i64 a, .int .i64 b, .int .i64 r, .int .i64 d], .int .i64 x, .int .i64 k2] w (Gives (.int .i64 x1) w)) := fun w => by
    have h := rotatedBank_is a b r d n x k2 HN.out (by omega) (by omega) (by omega) w
    rwa [hx1] at h
  clear hx1 hx2 hk1 hk2
  obtain ⟨p1, hp1⟩ : ∃ u, y * d = u := ⟨_, rfl⟩
  have p10 : 0 ≤ p1 := by rw [← hp1]; exact Int.mul_nonneg (by omega) (by omega)
  have p11 : p1 ≤ 15 * 16 := by rw [← hp1]; exact Int.mul_le_mul (by omega) (by omega) (by omega) (by omega)
  have f1 : IntKind.i64.wrap (y * d) = p1 := by rw [hp1]; exact IntWalk.i64_in _ ⟨by omega, by omega⟩
  obtain ⟨l2, hl2⟩ : ∃ u, p1 + z = u := ⟨_, rfl⟩
  have f2 : IntKind.i64.wrap (p1 + z) = l2 := by rw [hl2]; exact IntWalk.i64_in _ ⟨by omega, by omega⟩
  obtain ⟨p2, hp2⟩ : ∃ u, l2 * n = u := ⟨_, rfl⟩
  have p20 : 0 ≤ p2 := by rw [← hp2]; exact Int.mul_nonneg (by omega) (by omega)
  have p21 : p2 ≤ 260 * 16 := by rw [← hp2]; exact Int.mul_le_mul (by omega) (by omega) (by omega) (by omega)
  have f3 : IntKind.i64.wrap (l2 * n) = p2 := by rw [hp2]; exact IntWalk.i64_in _ ⟨by omega, by omega⟩
  obtain ⟨l3, hl3⟩ : ∃ u, p2 + x1 = u := ⟨_, rfl⟩
  have f4 : IntKind.i64.wrap (p2 + x1) = l3 := by rw [hl3]; exact IntWalk.i64_in _ ⟨by omega, by omega⟩
  have HF : Hid (lineF a b r d 1 true x y z = l3) := by
    show _ = _
    rw [HE.out, ← hl3, ← hp2, ← hl2, ← hp1]
    rfl
  have f5 : IntKind.i64.wrap y = y := IntWalk.i64_in _ ⟨by omega, by omega⟩
  clear hp1 hl2 hp2 hl3 HE
  go_enter Try.func15, Try.ntmps15
  go_wp2_with fail
  refine (implMappingOk_is _ _ _ KO.out _).mono ?_
  rintro e w2 ⟨rfl, hb2⟩
  have r2 := keep_block hb2 r1 (lt_of_block r1)
  have g2 := keep_block hb2 g1 (lt_of_block g1)
  have m2 := keep_block hb2 m1 (lt_of_block m1)
  have HB2 : Hid (Below w.heap.size w w2) := HB1.out.trans (hb2.mono HB1.out.size)
  clear hb2 r1 g1 m1 hw1 HB1 cm0 cm1
  obtain ⟨cg0, cg1, cg2, cg3⟩ := cells4 g2
  obtain ⟨cr0, cr1, cr2⟩ := cells3 r2
  go_wp2_with fail
  refine (implAddrOk_is _ _ _ _ _ _ _ _ KA.out _).mono ?_
  rintro e w3 ⟨rfl, hb3⟩
  have r3 := keep_block hb3 r2 (lt_of_block r2)
  have g3 := keep_block hb3 g2 (lt_of_block g2)
  have m3 := keep_block hb3 m2 (lt_of_block m2)
  have HB3 : Hid (Below w.heap.size w w3) := HB2.out.trans (hb3.mono HB2.out.size)
  clear hb3 r2 g2 m2 HB2 cg0 cg1 cg2 cg3 cr0 cr1 cr2
  obtain ⟨cg0, cg1, cg2, cg3⟩ := cells4 g3
  obtain ⟨cm0, cm1⟩ := cells2 m3
  obtain ⟨cr0, cr1, cr2⟩ := cells3 r3
  have v0 := fun zz : Later w3 => zz.cell cg0
  have v1 := fun zz : Later w3 => zz.cell cg1
  have v2 := fun zz : Later w3 => zz.cell cg2
  have v3 := fun zz : Later w3 => zz.cell cg3
  have v4 := fun zz : Later w3 => zz.cell cr0
  have v5 := fun zz : Later w3 => zz.cell cr1
  go_wp2_with fail
  refine wp_region_later_tail 11 (by kernel_rfl) (by kernel_rfl) ?_
  simp only [List.take_succ_cons, List.take_zero, List.drop_succ_cons, List.drop_zero]
  repeat (go_big_quiet_step (first | (go_at_call 42; exact Gives.later _ (implBank_is _ _ _ _ _ HN.out _)) | (go_at_call 39; exact Gives.later _ (HR.out _))))
  refine wpQuiet_nil ?_
  rintro w4 ⟨q4, hq4⟩
  have hb4 : Below w3.heap.size w3 w4 := hq4 ▸ q4.ok
  have r4 := keep_block hb4 r3 (lt_of_block r3)
  have g4 := keep_block hb4 g3 (lt_of_block g3)
  have m4 := keep_block hb4 m3 (lt_of_block m3)
  have HB4 : Hid (Below w.heap.size w w4) := HB3.out.trans (hb4.mono HB3.out.size)
  clear hq4 q4 hb4 r3 g3 m3 HB3 cg0 cg1 cg2 cg3 cm0 cm1 cr0 cr1 cr2 v0 v1 v2 v3 v4 v5
  have hlr := lt_of_block r4
  have hlg := lt_of_block g4
  have hlm := lt_of_block m4
  obtain ⟨w5, hw5⟩ : ∃ u, w4.setCell ⟨w.heap.size + 1 + 1, 0, none⟩ (.int .i64 x1) = u := ⟨_, rfl⟩
  have r5 : w5.heap[w.heap.size + 1 + 1]? = some (.cells #[.int .i64 x1, .int .i64 y, .int .i64 z] 37) := by rw [← hw5]; exact set_cells3_0 r4 _
  have g5 : w5.heap[w.heap.size]? = some (.cells #[.int .i64 a, .int .i64 b, .int .i64 r, .int .i64 d] 25) := by rw [← hw5]; exact (Below.heap_setCell _ _ _ _ (by simp <;> omega)).trans g4
  have m5 : w5.heap[w.heap.size + 1]? = some (.cells #[.int .i64 1, .bool true] 27) := by rw [← hw5]; exact (Below.heap_setCell _ _ _ _ (by simp <;> omega)).trans m4
  have HB5 : Hid (Below w.heap.size w w5) := by show Below _ _ _; rw [← hw5]; exact HB4.out.setCell (by simp <;> omega) _
  obtain ⟨cr0, cr1, cr2⟩ := cells3 r4
  have fz := thawed r4 0
  clear r4 g4 m4 HB4
  obtain ⟨cm0, cm1⟩ := cells2 m5
  go_wp2_with fail
  clear hw5 cr0 cr1 cr2 fz
  refine (digitsOf_1 _).mono ?_
  rintro e w6 ⟨rfl, hb6⟩
  have r6 := keep_block hb6 r5 (lt_of_block r5)
  have g6 := keep_block hb6 g5 (lt_of_block g5)
  have HB6 : Hid (Below w.heap.size w w6) := HB5.out.trans (hb6.mono HB5.out.size)
  clear hb6 r5 g5 m5 HB5 cm0 cm1
  have hl6 := lt_of_block r6
  obtain ⟨w7, hw7⟩ : ∃ u, w6.alloc (.cells #[.func (.func 49) #[] #[], .func (.func 48) #[] #[], .func (.func 50) #[] #[]] 67) = u := ⟨_, rfl⟩
  have hb7 : Below w6.heap.size w6 w7 := by subst hw7; exact (Below.refl _ _).alloc (Nat.le_refl _) _
  have t7 : w7.heap[w6.heap.size]? = some (.cells #[.func (.func 49) #[] #[], .func (.func 48) #[] #[], .func (.func 50) #[] #[]] 67) := by subst hw7; exact heap_alloc_new _ _
  have r7 := keep_block hb7 r6 (lt_of_block r6)
  have g7 := keep_block hb7 g6 (lt_of_block g6)
  have HB7 : Hid (Below w.heap.size w w7) := HB6.out.trans (hb7.mono HB6.out.size)
  clear hb7 r6 g6 HB6
  obtain ⟨db, hdb⟩ : ∃ u, w6.heap.size = u := ⟨_, rfl⟩
  rw [hdb] at t7
  go_wp2_with fail
  clear hw7 hdb
  go_loopw [8, 9] (fun line i wr => (∃ k : Nat, (k = 3 ∧ i = .int .i64 2 ∧ line = .int .i64 0) ∨ (k = 2 ∧ i = .int .i64 1 ∧ line = .int .i64 y) ∨ (k = 1 ∧ i = .int .i64 0 ∧ line = .int .i64 l2) ∨ (k = 0 ∧ i = .int .i64 (-1) ∧ line = .int .i64 l3))
    ∧ wr.heap[w.heap.size]? = some (.cells #[.int .i64 a, .int .i64 b, .int .i64 r, .int .i64 d] 25) ∧ wr.heap[w.heap.size + 1 + 1]? = some (.cells #[.int .i64 x1, .int .i64 y, .int .i64 z] 37) ∧ wr.heap[db]? = some (.cells #[.func (.func 49) #[] #[], .func (.func 48) #[] #[], .func (.func 50) #[] #[]] 67) ∧ Below w.heap.size w wr) (fun _ i _ => (intOf i + 1).toNat)
  case atStart => exact ⟨⟨3, .inl ⟨rfl, rfl, rfl⟩⟩, g7, r7, t7, HB7.out⟩
  case round =>
    obtain ⟨⟨k, hk⟩, hg, hrr, hd, hbr⟩ := hrel
    have HBR := Lib.hid hbr
    clear hbr t7 r7 g7 HB7
    obtain ⟨cg0, cg1, cg2, cg3⟩ := cells4 hg
    obtain ⟨cr0, cr1, cr2⟩ := cells3 hrr
    obtain ⟨cd0, cd1, cd2⟩ := cells3 hd
    rcases hk with ⟨rfl, rfl, rfl⟩ | ⟨rfl, rfl, rfl⟩ | ⟨rfl, rfl, rfl⟩ | ⟨rfl, rfl, rfl⟩
    · have v0 := fun zz : Later wr => zz.cell cg0
      have v1 := fun zz : Later wr => zz.cell cg1
      have v2 := fun zz : Later wr => zz.cell cg2
      have v3 := fun zz : Later wr => zz.cell cg3
      have v4 := fun zz : Later wr => zz.cell cd2
      go_wp2_with fail
      refine wp_region_later (by kernel_rfl) (by kernel_rfl) ?_
      repeat (go_big_quiet_step (first | (go_at_call 50; exact Gives.later _ (rowDigit_is a b r d _ _))))
      refine wpQuiet_nil ?_
      rintro w8 ⟨q8, hq8⟩
      have hb8 : Below wr.heap.size wr w8 := hq8 ▸ q8.ok
      have g8' := keep_block hb8 hg (lt_of_block hg)
      have r8 := keep_block hb8 hrr (lt_of_block hrr)
      have d8 := keep_block hb8 hd (lt_of_block hd)
      have HB8 : Hid (Below w.heap.size w w8) := HBR.out.trans (hb8.mono HBR.out.size)
      clear hq8 q8 hb8 hg hrr hd HBR cg0 cg1 cg2 cg3 cr0 cr1 cr2 cd0 cd1 cd2 v0 v1 v2 v3 v4
      obtain ⟨cr0, cr1, cr2⟩ := cells3 r8
      go_wp2_with fail
      go_roundw
      case rel => exact ⟨⟨2, .inr (.inl ⟨rfl, rfl, rfl⟩)⟩, g8', r8, d8, HB8.out⟩
      case measure => simp [intOf]
    · have v0 := fun zz : Later wr => zz.cell cg0
      have v1 := fun zz : Later wr => zz.cell cg1
      have v2 := fun zz : Later wr => zz.cell cg2
      have v3 := fun zz : Later wr => zz.cell cg3
      have v4 := fun zz : Later wr => zz.cell cd1
      go_wp2_with fail
      refine wp_region_later (by kernel_rfl) (by kernel_rfl) ?_
      repeat (go_big_quiet_step (first | (go_at_call 48; exact Gives.later _ (colDigit_is a b r d _ _))))
      refine wpQuiet_nil ?_
      rintro w8 ⟨q8, hq8⟩
      have hb8 : Below wr.heap.size wr w8 := hq8 ▸ q8.ok
      have g8' := keep_block hb8 hg (lt_of_block hg)
      have r8 := keep_block hb8 hrr (lt_of_block hrr)
      have d8 := keep_block hb8 hd (lt_of_block hd)
      have HB8 : Hid (Below w.heap.size w w8) := HBR.out.trans (hb8.mono HBR.out.size)
      clear hq8 q8 hb8 hg hrr hd HBR cg0 cg1 cg2 cg3 cr0 cr1 cr2 cd0 cd1 cd2 v0 v1 v2 v3 v4
      obtain ⟨cr0, cr1, cr2⟩ := cells3 r8
      go_wp2_with fail
      go_roundw
      case rel => exact ⟨⟨1, .inr (.inr (.inl ⟨rfl, rfl, rfl⟩))⟩, g8', r8, d8, HB8.out⟩
      case measure => simp [intOf]
    · have v0 := fun zz : Later wr => zz.cell cg0
      have v1 := fun zz : Later wr => zz.cell cg1
      have v2 := fun zz : Later wr => zz.cell cg2
      have v3 := fun zz : Later wr => zz.cell cg3
      have v4 := fun zz : Later wr => zz.cell cd0
      go_wp2_with fail
      refine wp_region_later (by kernel_rfl) (by kernel_rfl) ?_
      repeat (go_big_quiet_step (first | (go_at_call 49; exact Gives.later _ (bankDigit_is a b r d n HN.out _ _))))
      refine wpQuiet_nil ?_
      rintro w8 ⟨q8, hq8⟩
      have hb8 : Below wr.heap.size wr w8 := hq8 ▸ q8.ok
      have g8' := keep_block hb8 hg (lt_of_block hg)
      have r8 := keep_block hb8 hrr (lt_of_block hrr)
      have d8 := keep_block hb8 hd (lt_of_block hd)
      have HB8 : Hid (Below w.heap.size w w8) := HBR.out.trans (hb8.mono HBR.out.size)
      clear hq8 q8 hb8 hg hrr hd HBR cg0 cg1 cg2 cg3 cr0 cr1 cr2 cd0 cd1 cd2 v0 v1 v2 v3 v4
      obtain ⟨cr0, cr1, cr2⟩ := cells3 r8
      go_wp2_with fail
      go_roundw
      case rel => exact ⟨⟨0, .inr (.inr (.inr ⟨rfl, rfl, rfl⟩))⟩, g8', r8, d8, HB8.out⟩
      case measure => simp [intOf]
    · go_wp2_with fail
      go_ret
      exact ⟨ret_i HF.out.symm, HBR.out⟩

end Go.Proofs.Ytdgaggcjimafbaa
