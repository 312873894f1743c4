/-
  The walk of FnMapping.
-/
import Derived.Test.YtdgaggcjimafbaaBatch2W
import Derived.Test.YtdgaggcjimafbaaImplMapW
import Derived.Test.YtdgaggcjimafbaaAddrW
namespace Go.Proofs.Ytdgaggcjimafbaa
open Go.RowKit

set_option linter.unusedVariables false

theorem lineN_pos {a b r d : Int} (h : GeoOk a b r d) : 1 ≤ lineN a b r d ∧ 1 ≤ bankN a b r d := by
  unfold lineN bankN
  rw [if_pos h]
  obtain ⟨h1, h2, h4, h5⟩ := h
  have t1 : 0 < a * b := Int.mul_pos (by omega) (by omega)
  have t2 : 0 < a * b * r := Int.mul_pos t1 (by omega)
  have t3 : 0 < a * b * r * d := Int.mul_pos t2 (by omega)
  omega

set_option maxHeartbeats 4000000 in
set_option maxRecDepth 100000 in
theorem mapping_walk (a : Option Addr) (len cap : Nat) (z : List Int) (w : World) (hr : IsRow .u8 w a len cap z) :
    Calls Try.prog 3 #[.slice a len cap] w fun e w' => e = .returned (.bool true) ∧ Below w.heap.size w w' := by
  have hl := hr.len_le
  unfold maxLen at hl
  by_cases hbig : (1048576 : Int) < (len : Int)
  · go_enter Try.func3, Try.ntmps3
    go_wp2_with (go_at_call 9; refine (big_any _ _ _ _ (by omega)).mono ?_; rintro e w' ⟨rfl, rfl⟩)
    go_ret
    exact ⟨rfl, Below.refl _ _⟩
  · go_enter Try.func3, Try.ntmps3
    go_wp2_with (go_at_call 9; refine (big_any _ _ _ _ (by omega)).mono ?_; rintro e w' ⟨rfl, rfl⟩)
    refine (drawBatch_any hr).mono ?_
    rintro e w1 ⟨g, b, r, d, o, h, v, ls, sn, lv, rs, rfl, hok, ho, own1, hll, hla, hsn, ownr, hrl, hra, hb1⟩
    obtain ⟨aa, cc, rfl⟩ := own1.shape
    obtain ⟨ll, hll'⟩ : ∃ u, ls.length = u := ⟨_, rfl⟩
    rw [hll']
    obtain ⟨w2, hw2⟩ : ∃ u, ((w1.alloc (.cells #[.int .i64 g, .int .i64 b, .int .i64 r, .int .i64 d] 25)).alloc (.cells #[.int .i64 o, .bool h] 27)).alloc (.cells #[.slice aa ll cc, .int .i64 sn] 30) = u := ⟨_, rfl⟩
    have hr1 := hr.below (fun x hx hc => hr.lt hx hc) hb1
    have HR2 := Lib.hid (((hr1.alloc (.cells #[.int .i64 g, .int .i64 b, .int .i64 r, .int .i64 d] 25)).alloc (.cells #[.int .i64 o, .bool h] 27)).alloc (.cells #[.slice aa ll cc, .int .i64 sn] 30))
    rw [hw2] at HR2
    have HB1 := Lib.hid hb1
    have hs1 := hb1.size
    have HB2 : Hid (Below w.heap.size w w2) := by subst hw2; exact ((HB1.out.alloc hs1 _).alloc (by simp; omega) _).alloc (by simp; omega) _
    have g2 : w2.heap[w1.heap.size]? = some (.cells #[.int .i64 g, .int .i64 b, .int .i64 r, .int .i64 d] 25) := by subst hw2; exact box3_0 _ _ _ _
    have m2 : w2.heap[w1.heap.size + 1]? = some (.cells #[.int .i64 o, .bool h] 27) := by subst hw2; exact box3_1 _ _ _ _
    obtain ⟨gb, hgb⟩ : ∃ u, w1.heap.size = u := ⟨_, rfl⟩
    rw [hgb] at g2 m2
    clear hr hr1 hb1 own1 hll hla hsn ownr hrl hra HB1 hll'
    -- the numbers
    have hgeo : GeoOk g b r d := by
      obtain ⟨h1, h2, h4, h5⟩ := hok
      exact ⟨h1, h2, ⟨h4.1, by omega⟩, ⟨h5.1, by omega⟩⟩
    obtain ⟨hm1, _⟩ := lineN_pos hgeo
    have hmr := lineN_range g b r d
    obtain ⟨m, hm⟩ : ∃ m, lineN g b r d = m := ⟨_, rfl⟩
    rw [hm] at hm1 hmr
    have SL : Hid (∀ w, Calls Try.prog 12 #[.agg #[.int .i64 g, .int .i64 b, .int .i64 r, .int .i64 d]] w (Gives (.int .i64 m) w)) := fun w => specLine_is g b r d m hm w
    have hlt2 := lt_of_block g2
    have hlm2 := lt_of_block m2
    go_wp2_with fail
    clear hw2 hgb
    refine (drawPlaces_any HR2.out).mono ?_
    rintro e w3 ⟨gp, c2, l, rfl, hl12, hp, ho3, hb3⟩
    obtain ⟨p0, hc0, p00, p01⟩ := place_at ho3 hl12 hp 0 (by omega)
    obtain ⟨p1, hc1, p10, p11⟩ := place_at ho3 hl12 hp 1 (by omega)
    have g3 := keep_block hb3 g2 hlt2
    have m3 := keep_block hb3 m2 hlm2
    have HB3 : Hid (Below w.heap.size w w3) := HB2.out.trans (hb3.mono HB2.out.size)
    clear ho3 hl12 hp hb3 HR2 HB2 g2 m2 hlt2 hlm2
    obtain ⟨na, hna⟩ : ∃ n, p0 % m = n := ⟨_, rfl⟩
    have na0 : 0 ≤ na := by rw [← hna]; exact Int.emod_nonneg _ (by omega)
    have na1 : na < m := by rw [← hna]; exact Int.emod_lt_of_pos _ (by omega)
    obtain ⟨nb, hnb⟩ : ∃ n, p1 % m = n := ⟨_, rfl⟩
    have nb0 : 0 ≤ nb := by rw [← hnb]; exact Int.emod_nonneg _ (by omega)
    have nb1 : nb < m := by rw [← hnb]; exact Int.emod_lt_of_pos _ (by omega)
    have e0 : p0.tmod m = na := by rw [Int.tmod_eq_emod_of_nonneg p00, hna]
    have e1 : p1.tmod m = nb := by rw [Int.tmod_eq_emod_of_nonneg p10, hnb]
    have m0 : ¬ m = 0 := by omega
    have kla : LnOk g b r d na := ⟨na0, by omega⟩
    have klb : LnOk g b r d nb := ⟨nb0, by omega⟩
    have hada := map_addr (h := h) ho kla
    have hbka := map_back (h := h) ho kla
    have hbkb := map_back (h := h) ho klb
    have hfa := mapF_ok (h := h) ho kla
    have hfb := mapF_ok (h := h) ho klb
    obtain ⟨x0, hx0⟩ : ∃ u, bankF g b r d o h na = u := ⟨_, rfl⟩
    obtain ⟨x1, hx1⟩ : ∃ u, mapRow o d r (bankN g b r d) na = u := ⟨_, rfl⟩
    obtain ⟨x2, hx2⟩ : ∃ u, mapCol o d r (bankN g b r d) na = u := ⟨_, rfl⟩
    obtain ⟨y0, hy0⟩ : ∃ u, bankF g b r d o h nb = u := ⟨_, rfl⟩
    obtain ⟨y1, hy1⟩ : ∃ u, mapRow o d r (bankN g b r d) nb = u := ⟨_, rfl⟩
    obtain ⟨y2, hy2⟩ : ∃ u, mapCol o d r (bankN g b r d) nb = u := ⟨_, rfl⟩
    have hsame : na = nb → x0 = y0 ∧ x1 = y1 ∧ x2 = y2 := fun e => by subst e; exact ⟨hx0.symm.trans hy0, hx1.symm.trans hy1, hx2.symm.trans hy2⟩
    rw [hx0, hx1, hx2] at hada hbka hfa
    rw [hy0, hy1, hy2] at hbkb hfb
    have hother : x0 = y0 ∧ x1 = y1 ∧ x2 = y2 → na = nb := by
      rintro ⟨e1, e2, e3⟩
      rw [← hbka, ← hbkb, e1, e2, e3]
    have IA : Hid (∀ w, Calls Try.prog 13 #[.agg #[.int .i64 g, .int .i64 b, .int .i64 r, .int .i64 d], .agg #[.int .i64 o, .bool h], .int .i64 na] w (Gives (.tuple #[.agg #[.int .i64 x0, .int .i64 x1, .int .i64 x2], .bool true]) w)) := fun w => by have h := implMapLine_is g b r d o h na w; rw [hfa] at h; exact h
    have IB : Hid (∀ w, Calls Try.prog 13 #[.agg #[.int .i64 g, .int .i64 b, .int .i64 r, .int .i64 d], .agg #[.int .i64 o, .bool h], .int .i64 nb] w (Gives (.tuple #[.agg #[.int .i64 y0, .int .i64 y1, .int .i64 y2], .bool true]) w)) := fun w => by have h := implMapLine_is g b r d o h nb w; rw [hfb] at h; exact h
    have IL : Hid (∀ w, Calls Try.prog 15 #[.agg #[.int .i64 g, .int .i64 b, .int .i64 r, .int .i64 d], .agg #[.int .i64 o, .bool h], .agg #[.int .i64 x0, .int .i64 x1, .int .i64 x2]] w (Gives (.int .i64 na) w)) := fun w => by have h := implLineOf_is g b r d o h x0 x1 x2 w; rw [hbka] at h; exact h
    have SO : Hid (∀ w, Calls Try.prog 14 #[.agg #[.int .i64 g, .int .i64 b, .int .i64 r, .int .i64 d], .agg #[.int .i64 x0, .int .i64 x1, .int .i64 x2]] w (Gives (.bool true) w)) := fun w => specAddrOk_is g b r d x0 x1 x2 true (decide_eq_true hada) w
    have IM : Hid (∀ w, Calls Try.prog 16 #[.agg #[.int .i64 o, .bool h]] w (Gives (.bool true) w)) := fun w => implMappingOk_is o h true (decide_eq_true ho) w
    clear hfa hfb hbka hbkb hada kla klb hx0 hx1 hx2 hy0 hy1 hy2 hna hnb hm hgeo hok ho
    obtain ⟨cg0, cg1, cg2, cg3⟩ := cells4 g3
    have zp0 := fun q : Later w3 => q.cell hc0
    have z0 := fun q : Later w3 => q.cell cg0
    have z1 := fun q : Later w3 => q.cell cg1
    have z2 := fun q : Later w3 => q.cell cg2
    have z3 := fun q : Later w3 => q.cell cg3
    go_wp2_with fail
    refine wp_region_later (by kernel_rfl) (by kernel_rfl) ?_
    repeat (go_big_quiet_step (first | (go_at_call 12; exact Gives.later _ (SL.out _))))
    refine wpQuiet_nil ?_
    rintro w4 ⟨q4, hq4⟩
    have hb4 : Below w3.heap.size w3 w4 := hq4 ▸ q4.ok
    have g4 := keep_block hb4 g3 (lt_of_block g3)
    have m4 := keep_block hb4 m3 (lt_of_block m3)
    have hc1' := keep_cell hb4 hc1 (World.block_lt_of_cell? _ _ hc1)
    have HB4 : Hid (Below w.heap.size w w4) := HB3.out.trans (hb4.mono HB3.out.size)
    clear hq4 q4 hb4 g3 m3 zp0 z0 z1 z2 z3 cg0 cg1 cg2 cg3 hc0 hc1 HB3
    obtain ⟨cg0, cg1, cg2, cg3⟩ := cells4 g4
    have zp0 := fun q : Later w4 => q.cell hc1'
    have z0 := fun q : Later w4 => q.cell cg0
    have z1 := fun q : Later w4 => q.cell cg1
    have z2 := fun q : Later w4 => q.cell cg2
    have z3 := fun q : Later w4 => q.cell cg3
    go_wp2_with fail
    refine wp_region_later (by kernel_rfl) (by kernel_rfl) ?_
    repeat (go_big_quiet_step (first | (go_at_call 12; exact Gives.later _ (SL.out _))))
    refine wpQuiet_nil ?_
    rintro w5 ⟨q5, hq5⟩
    have hb5 : Below w4.heap.size w4 w5 := hq5 ▸ q5.ok
    have g5 := keep_block hb5 g4 (lt_of_block g4)
    have m5 := keep_block hb5 m4 (lt_of_block m4)
    have HB5 : Hid (Below w.heap.size w w5) := HB4.out.trans (hb5.mono HB4.out.size)
    clear hq5 q5 hb5 g4 m4 zp0 z0 z1 z2 z3 cg0 cg1 cg2 cg3 hc1' HB4
    obtain ⟨cg0, cg1, cg2, cg3⟩ := cells4 g5
    obtain ⟨cm0, cm1⟩ := cells2 m5
    go_wp2_with fail
    refine (IA.out _).mono ?_
    rintro e w6 ⟨rfl, hb6⟩
    have g6 := keep_block hb6 g5 (lt_of_block g5)
    have m6 := keep_block hb6 m5 (lt_of_block m5)
    have HB6 : Hid (Below w.heap.size w w6) := HB5.out.trans (hb6.mono HB5.out.size)
    clear hb6 g5 m5 HB5 cg0 cg1 cg2 cg3 cm0 cm1
    obtain ⟨w7, hw7⟩ : ∃ u, w6.alloc (.cells #[.int .i64 x0, .int .i64 x1, .int .i64 x2] 37) = u := ⟨_, rfl⟩
    have hb7 : Below w6.heap.size w6 w7 := by subst hw7; exact (Below.refl _ _).alloc (Nat.le_refl _) _
    have x7 : w7.heap[w6.heap.size]? = some (.cells #[.int .i64 x0, .int .i64 x1, .int .i64 x2] 37) := by subst hw7; exact heap_alloc_new _ _
    have g7 := keep_block hb7 g6 (lt_of_block g6)
    have m7 := keep_block hb7 m6 (lt_of_block m6)
    have HB7 : Hid (Below w.heap.size w w7) := HB6.out.trans (hb7.mono HB6.out.size)
    obtain ⟨xb, hxb⟩ : ∃ u, w6.heap.size = u := ⟨_, rfl⟩
    rw [hxb] at x7
    clear hb7 g6 m6 HB6
    obtain ⟨cg0, cg1, cg2, cg3⟩ := cells4 g7
    obtain ⟨cm0, cm1⟩ := cells2 m7
    go_wp2_with fail
    clear hw7 hxb
    refine (IB.out _).mono ?_
    rintro e w8 ⟨rfl, hb8⟩
    have g8 := keep_block hb8 g7 (lt_of_block g7)
    have m8 := keep_block hb8 m7 (lt_of_block m7)
    have x8 := keep_block hb8 x7 (lt_of_block x7)
    have HB8 : Hid (Below w.heap.size w w8) := HB7.out.trans (hb8.mono HB7.out.size)
    clear hb8 g7 m7 x7 HB7 cg0 cg1 cg2 cg3 cm0 cm1
    obtain ⟨w9, hw9⟩ : ∃ u, w8.alloc (.cells #[.int .i64 y0, .int .i64 y1, .int .i64 y2] 37) = u := ⟨_, rfl⟩
    have hb9 : Below w8.heap.size w8 w9 := by subst hw9; exact (Below.refl _ _).alloc (Nat.le_refl _) _
    have y9 : w9.heap[w8.heap.size]? = some (.cells #[.int .i64 y0, .int .i64 y1, .int .i64 y2] 37) := by subst hw9; exact heap_alloc_new _ _
    have g9 := keep_block hb9 g8 (lt_of_block g8)
    have m9 := keep_block hb9 m8 (lt_of_block m8)
    have x9 := keep_block hb9 x8 (lt_of_block x8)
    have HB9 : Hid (Below w.heap.size w w9) := HB8.out.trans (hb9.mono HB8.out.size)
    obtain ⟨yb, hyb⟩ : ∃ u, w8.heap.size = u := ⟨_, rfl⟩
    rw [hyb] at y9
    clear hb9 g8 m8 x8 HB8
    obtain ⟨cg0, cg1, cg2, cg3⟩ := cells4 g9
    obtain ⟨cm0, cm1⟩ := cells2 m9
    obtain ⟨cx0, cx1, cx2⟩ := cells3 x9
    obtain ⟨cy0, cy1, cy2⟩ := cells3 y9
    go_wp2_with fail
    clear hw9 hyb
    refine (SO.out _).mono ?_
    rintro e w10 ⟨rfl, hb10⟩
    have g10 := keep_block hb10 g9 (lt_of_block g9)
    have m10 := keep_block hb10 m9 (lt_of_block m9)
    have x10 := keep_block hb10 x9 (lt_of_block x9)
    have y10 := keep_block hb10 y9 (lt_of_block y9)
    have HB10 : Hid (Below w.heap.size w w10) := HB9.out.trans (hb10.mono HB9.out.size)
    clear hb10 g9 m9 x9 y9 HB9 cg0 cg1 cg2 cg3 cm0 cm1 cx0 cx1 cx2 cy0 cy1 cy2
    obtain ⟨cg0, cg1, cg2, cg3⟩ := cells4 g10
    obtain ⟨cm0, cm1⟩ := cells2 m10
    obtain ⟨cx0, cx1, cx2⟩ := cells3 x10
    go_wp2_with fail
    refine (IL.out _).mono ?_
    rintro e w11 ⟨rfl, hb11⟩
    have m11 := keep_block hb11 m10 (lt_of_block m10)
    have x11 := keep_block hb11 x10 (lt_of_block x10)
    have y11 := keep_block hb11 y10 (lt_of_block y10)
    have HB11 : Hid (Below w.heap.size w w11) := HB10.out.trans (hb11.mono HB10.out.size)
    clear hb11 g10 m10 x10 y10 HB10 cg0 cg1 cg2 cg3 cm0 cm1 cx0 cx1 cx2
    obtain ⟨cm0, cm1⟩ := cells2 m11
    obtain ⟨cx0, cx1, cx2⟩ := cells3 x11
    obtain ⟨cy0, cy1, cy2⟩ := cells3 y11
    have taa : (na == na) = true := by simp
    by_cases hab : na = nb
    · obtain ⟨rfl, rfl, rfl⟩ := hsame hab
      subst hab
      have t0 : (x0 == x0) = true := by simp
      have t1 : (x1 == x1) = true := by simp
      have t2 : (x2 == x2) = true := by simp
      go_wp2_with fail
      all_goals first
        | (exfalso; omega)
        | (refine (IM.out _).mono ?_
           rintro e w12 ⟨rfl, hb12⟩
           have HB12 : Hid (Below w.heap.size w w12) := HB11.out.trans (hb12.mono HB11.out.size)
           clear hb12 m11 x11 y11 cm0 cm1 cx0 cx1 cx2 cy0 cy1 cy2
           go_wp2
           go_ret
           exact ⟨rfl, HB12.out⟩)
    · have tab : (na == nb) = false := by simpa using hab
      have hne : ¬ (x0 = y0 ∧ x1 = y1 ∧ x2 = y2) := fun e => hab (hother e)
      go_wp2_with fail
      all_goals first
        | (exfalso; omega)
        | (refine (IM.out _).mono ?_
           rintro e w12 ⟨rfl, hb12⟩
           have HB12 : Hid (Below w.heap.size w w12) := HB11.out.trans (hb12.mono HB11.out.size)
           clear hb12 m11 x11 y11 cm0 cm1 cx0 cx1 cx2 cy0 cy1 cy2
           go_wp2
           go_ret
           exact ⟨rfl, HB12.out⟩)

end Go.Proofs.Ytdgaggcjimafbaa
