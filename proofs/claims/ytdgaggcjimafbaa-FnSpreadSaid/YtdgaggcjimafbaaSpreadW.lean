/-
  The walk of FnSpread.
-/
import Derived.Test.YtdgaggcjimafbaaMapLaws
import Derived.Test.YtdgaggcjimafbaaImplBanks
namespace Go.Proofs.Ytdgaggcjimafbaa
open Go.RowKit

set_option linter.unusedVariables false

set_option maxHeartbeats 4000000 in
set_option maxRecDepth 100000 in
theorem spread_walk (a : Option Addr) (len cap : Nat) (z : List Int) (w : World) (hr : IsRow .u8 w a len cap z) :
    Calls Try.prog 4 #[.slice a len cap] w fun e w' => e = .returned (.bool true) ∧ Below w.heap.size w w' := by
  have hl := hr.len_le
  unfold maxLen at hl
  by_cases hbig : (1048576 : Int) < (len : Int)
  · go_enter Try.func4, Try.ntmps4
    go_wp2_with (go_at_call 9; refine (big_any _ _ _ _ (by omega)).mono ?_; rintro e w' ⟨rfl, rfl⟩)
    go_ret
    exact ⟨rfl, Below.refl _ _⟩
  · go_enter Try.func4, Try.ntmps4
    go_wp2_with (go_at_call 9; refine (big_any _ _ _ _ (by omega)).mono ?_; rintro e w' ⟨rfl, rfl⟩)
    refine (drawBatch_any hr).mono ?_
    rintro e w1 ⟨g, b, r, d, o, h, v, ls, sn, lv, rs, rfl, hok, ho, own1, hll, hla, hsn, ownr, hrl, hra, hb1⟩
    obtain ⟨aa, cc, rfl⟩ := own1.shape
    obtain ⟨ll, hll'⟩ : ∃ u, ls.length = u := ⟨_, rfl⟩
    rw [hll']
    obtain ⟨w2, hw2⟩ : ∃ u, ((w1.alloc (.cells #[.int .i64 g, .int .i64 b, .int .i64 r, .int .i64 d] 25)).alloc (.cells #[.int .i64 o, .bool h] 27)).alloc (.cells #[.slice aa ll cc, .int .i64 sn] 30) = u := ⟨_, rfl⟩
    have HR0 := Lib.hid hr
    have hr1 := hr.below (fun x hx hc => hr.lt hx hc) hb1
    have HR2 := Lib.hid (((hr1.alloc (.cells #[.int .i64 g, .int .i64 b, .int .i64 r, .int .i64 d] 25)).alloc (.cells #[.int .i64 o, .bool h] 27)).alloc (.cells #[.slice aa ll cc, .int .i64 sn] 30))
    rw [hw2] at HR2
    have HB1 := Lib.hid hb1
    have hs1 := hb1.size
    have HB2 : Hid (Below w.heap.size w w2) := by subst hw2; exact ((HB1.out.alloc hs1 _).alloc (by simp; omega) _).alloc (by simp; omega) _
    have g2 : w2.heap[w1.heap.size]? = some (.cells #[.int .i64 g, .int .i64 b, .int .i64 r, .int .i64 d] 25) := by subst hw2; exact box3_0 _ _ _ _
    have m2 : w2.heap[w1.heap.size + 1]? = some (.cells #[.int .i64 o, .bool h] 27) := by subst hw2; exact box3_1 _ _ _ _
    obtain ⟨gb, hgb⟩ : ∃ u, w1.heap.size = u := ⟨_, rfl⟩
    rw [hgb] at g2 m2
    clear hr hr1 hb1 own1 hll hla hsn ownr hrl hra HB1 hll'
    -- the numbers
    have hgeo : GeoOk g b r d := by
      obtain ⟨h1, h2, h4, h5⟩ := hok
      exact ⟨h1, h2, ⟨h4.1, by omega⟩, ⟨h5.1, by omega⟩⟩
    obtain ⟨hm1, hn1⟩ := lineN_pos hgeo
    obtain ⟨_, _, ⟨r1, r8⟩, ⟨d1, d8⟩⟩ := id hgeo
    have hnr := bankN_range g b r d
    have hall := fun q hq => touchF_all (h := h) (q := q) hgeo hq
    have hone := fun k hk => touchF_one (a := g) (b := b) (r := r) (d := d) (o := 1) (k := k) (h := h) (by decide) hk
    have hBT := fun k n hk w => implBanks_is g b r d 1 h k n hk w
    unfold LnOk lineN at hone
    obtain ⟨nn, hnn⟩ : ∃ n, bankN g b r d = n := ⟨_, rfl⟩
    have HBN := Lib.hid hnn
    rw [hnn] at hn1 hnr hall hone
    clear hnn
    obtain ⟨N, rfl⟩ := Int.eq_ofNat_of_zero_le hnr.1
    rw [Int.toNat_natCast] at hall
    obtain ⟨rd, hrd⟩ : ∃ u, r * d = u := ⟨_, rfl⟩
    have hrd0 : 0 < rd := by rw [← hrd]; exact Int.mul_pos (by omega) (by omega)
    have hrd1 : rd ≤ 16 * 8 := by rw [← hrd]; exact Int.mul_le_mul r8 d8 (by omega) (by omega)
    have e0 : IntKind.i64.wrap (r * d) = rd := by rw [hrd]; exact IntWalk.i64_in _ ⟨by omega, by omega⟩
    rw [hrd] at hall
    have hassoc : (N : Int) * r * d = N * rd := by rw [Int.mul_assoc, hrd]
    rw [hassoc] at hone
    clear hrd hassoc
    have hw21 : w2.heap[w1.heap.size + 1]? = some (.cells #[.int .i64 o, .bool h] 27) := by rw [hgb]; exact m2
    have hlt2 := lt_of_block g2
    have hlm2 := lt_of_block m2
    have hs2w : w.heap.size ≤ w2.heap.size := HB2.out.size
    have hgbw : w.heap.size ≤ gb := by omega
    obtain ⟨cm0, cm1⟩ := cells2 m2
    have f0 := thawed m2 0
    obtain ⟨w3, hw3⟩ : ∃ u, w2.setCell ⟨gb + 1, 0, none⟩ (.int .i64 1) = u := ⟨_, rfl⟩
    have m3 : w3.heap[gb + 1]? = some (.cells #[.int .i64 1, .bool h] 27) := by rw [← hw3]; exact set_cells m2 0 _
    have g3 : w3.heap[gb]? = some (.cells #[.int .i64 g, .int .i64 b, .int .i64 r, .int .i64 d] 25) := by rw [← hw3]; exact (Below.heap_setCell _ _ _ _ (by simp)).trans g2
    have HB3 : Hid (Below w.heap.size w w3) := by show Below _ _ _; rw [← hw3]; exact HB2.out.setCell (by simp; omega) _
    have HR3 : Hid (IsRow .u8 w3 a len cap z) := by
      show IsRow _ _ _ _ _ _
      exact HR0.out.below (fun x hx hc => HR0.out.lt hx hc) HB3.out
    clear g2 m2 HB2 HR2 hw21
    obtain ⟨cg0, cg1, cg2, cg3⟩ := cells4 g3
    go_wp2_with fail
    clear hw2 hw3 cm0 cm1 f0
    refine (specBank_is _ _ _ _ _ HBN.out _).mono ?_
    rintro e w4 ⟨rfl, hb4⟩
    have g4 := keep_block hb4 g3 (lt_of_block g3)
    have m4 := keep_block hb4 m3 (lt_of_block m3)
    have HB4 : Hid (Below w.heap.size w w4) := HB3.out.trans (hb4.mono HB3.out.size)
    have HR4 : Hid (IsRow .u8 w4 a len cap z) := HR3.out.below (fun x hx hc => HR3.out.lt hx hc) hb4
    clear hb4 g3 m3 HB3 HR3 cg0 cg1 cg2 cg3
    go_wp2_with fail
    refine (drawPlaces_any HR4.out).mono ?_
    rintro e w5 ⟨gp, c2, l, rfl, hl12, hp, ho5, hb5⟩
    obtain ⟨p0, hc0, p00, p01⟩ := place_at ho5 hl12 hp 0 (by omega)
    have g5 := keep_block hb5 g4 (lt_of_block g4)
    have m5 := keep_block hb5 m4 (lt_of_block m4)
    have HB5 : Hid (Below w.heap.size w w5) := HB4.out.trans (hb5.mono HB4.out.size)
    clear ho5 hl12 hp hb5 HR4 HB4 g4 m4
    obtain ⟨q, hq⟩ : ∃ q, p0 % rd = q := ⟨_, rfl⟩
    have q0 : 0 ≤ q := by rw [← hq]; exact Int.emod_nonneg _ (by omega)
    have q1 : q < rd := by rw [← hq]; exact Int.emod_lt_of_pos _ hrd0
    have e1 : p0.tmod rd = q := by rw [Int.tmod_eq_emod_of_nonneg p00, hq]
    have rd0 : ¬ rd = 0 := by omega
    have hA := hall q ⟨q0, q1⟩
    obtain ⟨k, hk⟩ : ∃ k, (N : Int) * q = k := ⟨_, rfl⟩
    have hk0 : 0 ≤ k := by rw [← hk]; exact Int.mul_nonneg (by omega) q0
    have hk1 : k ≤ 8 * 128 := by rw [← hk]; exact Int.mul_le_mul hnr.2 (by omega) q0 (by omega)
    have hk2 : k + N ≤ N * rd := by
      have := Int.mul_le_mul_of_nonneg_left (show q + 1 ≤ rd by omega) (show 0 ≤ (N : Int) by omega)
      rw [Int.mul_add, Int.mul_one, hk] at this
      exact this
    have e2 : IntKind.i64.wrap ((N : Int) * q) = k := by rw [hk]; exact IntWalk.i64_in _ ⟨by omega, by omega⟩
    rw [hk] at hA
    have hO := hone k ⟨hk0, by omega⟩
    have hB1 := hBT k N (by omega)
    have hB2 := hBT k 1 (by omega)
    obtain ⟨L1, hL1⟩ : ∃ L, touchF g b r d 1 h k N = L := ⟨_, rfl⟩
    obtain ⟨L2, hL2⟩ : ∃ L, touchF g b r d 1 h k 1 = L := ⟨_, rfl⟩
    rw [hL1] at hA hB1
    rw [hL2] at hO hB2
    unfold GivesI at hB1 hB2
    rw [hA] at hB1
    rw [hO] at hB2
    have IB1 := Lib.hid hB1
    have IB2 := Lib.hid hB2
    clear hB1 hB2 hA hO hL1 hL2 hk hall hone hBT hq
    obtain ⟨cg0, cg1, cg2, cg3⟩ := cells4 g5
    have z0 := fun q : Later w5 => q.cell hc0
    have z2 := fun q : Later w5 => q.cell cg2
    have z3 := fun q : Later w5 => q.cell cg3
    go_wp2_with fail
    refine wp_region_later (by kernel_rfl) (by kernel_rfl) ?_
    repeat (go_big_quiet_step (fail))
    refine wpQuiet_nil ?_
    rintro w6 ⟨q6, hq6⟩
    have hb6 : Below w5.heap.size w5 w6 := hq6 ▸ q6.ok
    have g6 := keep_block hb6 g5 (lt_of_block g5)
    have m6 := keep_block hb6 m5 (lt_of_block m5)
    have HB6 : Hid (Below w.heap.size w w6) := HB5.out.trans (hb6.mono HB5.out.size)
    clear hq6 q6 hb6 g5 m5 z0 z2 z3 cg0 cg1 cg2 cg3 hc0 HB5
    obtain ⟨cg0, cg1, cg2, cg3⟩ := cells4 g6
    obtain ⟨cm0, cm1⟩ := cells2 m6
    go_wp2_with fail
    refine (IB1.out _).mono ?_
    rintro e w7 ⟨a1, c1, rfl, _, hb7⟩
    have g7 := keep_block hb7 g6 (lt_of_block g6)
    have m7 := keep_block hb7 m6 (lt_of_block m6)
    have HB7 : Hid (Below w.heap.size w w7) := HB6.out.trans (hb7.mono HB6.out.size)
    clear hb7 g6 m6 HB6 cg0 cg1 cg2 cg3 cm0 cm1
    obtain ⟨cg0, cg1, cg2, cg3⟩ := cells4 g7
    obtain ⟨cm0, cm1⟩ := cells2 m7
    have tNN : ((N : Int) == (N : Int)) = true := by simp
    go_wp2_with fail
    refine (IB2.out _).mono ?_
    rintro e w8 ⟨a2, c2', rfl, _, hb8⟩
    have HB8 : Hid (Below w.heap.size w w8) := HB7.out.trans (hb8.mono HB7.out.size)
    clear hb8 g7 m7 HB7 cg0 cg1 cg2 cg3 cm0 cm1
    go_wp2
    go_ret
    exact ⟨rfl, HB8.out⟩

end Go.Proofs.Ytdgaggcjimafbaa
