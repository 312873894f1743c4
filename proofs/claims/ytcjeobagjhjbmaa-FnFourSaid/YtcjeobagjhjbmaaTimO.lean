/-
  Four activations.
-/
import Derived.Test.YtcjeobagjhjbmaaTimN
import Derived.Test.YtcjeobagjhjbmaaTimX
import Derived.Test.YtcjeobagjhjbmaaDraw2W
namespace Go.Proofs.Ytcjeobagjhjbmaa
open Go.RowKit

set_option linter.unusedVariables false

theorem rowI_new (w : World) (l : List Int) (vs : Array Value) (t : TypeId) (h : vs = (l.map (Value.int .i64)).toArray) : RowI (w.alloc (.cells vs t)) (some ⟨w.heap.size, 0, none⟩) l := by
  refine .inr ⟨_, 0, rfl, fun i hi => ?_⟩
  rw [Nat.zero_add]
  exact (ints_new w l vs t h).2 i hi

theorem rowI_init {w : World} {a : Option Addr} {l : List Int} (m : List Int) (h : RowI w a (l ++ m)) : RowI w a l := by
  rcases h with h | ⟨b, off, rfl, h⟩
  · exact .inl (List.append_eq_nil_iff.1 h).1
  · refine .inr ⟨b, off, rfl, fun i hi => ?_⟩
    rw [h i (by rw [List.length_append]; omega), List.getD_eq_getElem?_getD, List.getD_eq_getElem?_getD, List.getElem?_append_left hi]


set_option maxHeartbeats 16000000 in
set_option maxRecDepth 100000 in
theorem fnFour_walk (a : Option Addr) (len cap : Nat) (z : List Int) (w : World) (hr : IsRow .u8 w a len cap z) :
    Calls Try.prog 5 #[.slice a len cap] w fun e w' => e = .returned (.bool true) ∧ Below w.heap.size w w' := by
  have hl := hr.len_le
  unfold maxLen at hl
  by_cases hbig : (1048576 : Int) < (len : Int)
  · go_enter Try.func5, Try.ntmps5
    go_wp2_with (go_at_call 12; refine (big_any _ _ _ _ (by omega)).mono ?_; rintro e w' ⟨rfl, rfl⟩)
    go_ret
    exact ⟨rfl, Below.refl _ _⟩
  have SPEC := Lib.hid specFast_t
  obtain ⟨u, hu⟩ : ∃ u, fastT = u := ⟨_, rfl⟩
  have UF : Hid (u.faw = 10) := Lib.hid (hu ▸ rfl)
  have U4 := Lib.hid four_ok
  have U5 := Lib.hid five_ok
  rw [hu] at SPEC U4 U5
  clear hu
  go_enter Try.func5, Try.ntmps5
  go_wp2_with (go_at_call 12; refine (big_any _ _ _ _ (by omega)).mono ?_; rintro e w' ⟨rfl, rfl⟩)
  refine (SPEC.out _).mono ?_
  rintro e w1 ⟨rfl, hb1⟩
  have HB1 := Lib.hid hb1
  clear hb1
  have hn := heap_alloc_new w1 (.cells #[.int .i64 0, .int .i64 0, .int .i64 0, .int .i64 0, .int .i64 0, .int .i64 0, .int .i64 0, .int .i64 0, .int .i64 0, .int .i64 0, .int .i64 0, .int .i64 0, .int .i64 0, .int .i64 0, .int .i64 0, .int .i64 0, .int .i64 0] 25)
  have p2 := setRow_same _ _ #[.int .i64 u.rcd, .int .i64 u.rp, .int .i64 u.ras, .int .i64 u.rrds, .int .i64 u.rrdl, .int .i64 u.faw, .int .i64 u.ccds, .int .i64 u.ccdl, .int .i64 u.rtp, .int .i64 u.wr, .int .i64 u.wtrs, .int .i64 u.wtrl, .int .i64 u.rtw, .int .i64 u.rfc, .int .i64 u.cke, .int .i64 u.xp, .int .i64 u.xs] _ _ hn
  have HB2 : Hid (Below w.heap.size w ((w1.alloc (.cells #[.int .i64 0, .int .i64 0, .int .i64 0, .int .i64 0, .int .i64 0, .int .i64 0, .int .i64 0, .int .i64 0, .int .i64 0, .int .i64 0, .int .i64 0, .int .i64 0, .int .i64 0, .int .i64 0, .int .i64 0, .int .i64 0, .int .i64 0] 25)).setRow w1.heap.size #[.int .i64 u.rcd, .int .i64 u.rp, .int .i64 u.ras, .int .i64 u.rrds, .int .i64 u.rrdl, .int .i64 u.faw, .int .i64 u.ccds, .int .i64 u.ccdl, .int .i64 u.rtp, .int .i64 u.wr, .int .i64 u.wtrs, .int .i64 u.wtrl, .int .i64 u.rtw, .int .i64 u.rfc, .int .i64 u.cke, .int .i64 u.xp, .int .i64 u.xs])) := below_setRow (HB1.out.alloc HB1.out.size _) HB1.out.size _
  go_wp2_with ((with_reducible refine store_list (cells := #[.int .i64 u.rcd, .int .i64 u.rp, .int .i64 u.ras, .int .i64 u.rrds, .int .i64 u.rrdl, .int .i64 u.faw, .int .i64 u.ccds, .int .i64 u.ccdl, .int .i64 u.rtp, .int .i64 u.wr, .int .i64 u.wtrs, .int .i64 u.wtrl, .int .i64 u.rtw, .int .i64 u.rfc, .int .i64 u.cke, .int .i64 u.xp, .int .i64 u.xs]) hn ?_ ?_ ?_ ?_ ?_ ?_); kernel_rfl; kernel_rfl; kernel_rfl; kernel_rfl; kernel_rfl)
  obtain ⟨pb, hpb⟩ : ∃ p, w1.heap.size = p := ⟨_, rfl⟩
  have HPB : Hid (w.heap.size ≤ pb) := hpb ▸ HB1.out.size
  generalize ((w1.alloc (.cells #[.int .i64 0, .int .i64 0, .int .i64 0, .int .i64 0, .int .i64 0, .int .i64 0, .int .i64 0, .int .i64 0, .int .i64 0, .int .i64 0, .int .i64 0, .int .i64 0, .int .i64 0, .int .i64 0, .int .i64 0, .int .i64 0, .int .i64 0] 25)).setRow w1.heap.size #[.int .i64 u.rcd, .int .i64 u.rp, .int .i64 u.ras, .int .i64 u.rrds, .int .i64 u.rrdl, .int .i64 u.faw, .int .i64 u.ccds, .int .i64 u.ccdl, .int .i64 u.rtp, .int .i64 u.wr, .int .i64 u.wtrs, .int .i64 u.wtrl, .int .i64 u.rtw, .int .i64 u.rfc, .int .i64 u.cke, .int .i64 u.xp, .int .i64 u.xs]) = w2 at p2 HB2 ⊢
  rw [hpb] at p2
  (try simp only [hpb])
  clear hn HB1 hpb
  have HR2 := Lib.hid (hr.below (fun x hx hc => hr.lt hx hc) HB2.out)
  refine (drawPlaces_any HR2.out).mono ?_
  rintro e w3 ⟨gp, c2, l, rfl, hl12, hp, ho3, hb3⟩
  obtain ⟨p, hc0, p00, p01⟩ := place_at ho3 hl12 hp 0 (by omega)
  obtain ⟨s, hc1, s00, s01⟩ := place_at ho3 hl12 hp 1 (by omega)
  have p3 := keep_block hb3 p2 (lt_of_block p2)
  have HB3 : Hid (Below w.heap.size w w3) := HB2.out.trans (hb3.mono HB2.out.size)
  clear ho3 hl12 hp hb3 HR2 HB2 p2 hr
  obtain ⟨q, hq⟩ : ∃ n, s % 6 = n := ⟨_, rfl⟩
  have q0 : 0 ≤ q := by rw [← hq]; exact Int.emod_nonneg _ (by omega)
  have q1 : q ≤ 5 := by have := Int.emod_lt_of_pos s (show (0 : Int) < 6 by omega); omega
  have m1 : s.tmod 6 = q := by rw [Int.tmod_eq_emod_of_nonneg s00, hq]
  have m2 : IntKind.i64.wrap q = q := IntWalk.i64_in _ ⟨by omega, by omega⟩
  have e2 : IntKind.i64.wrap (p + 2) = p + 2 := IntWalk.i64_in _ ⟨by omega, by omega⟩
  have e4 : IntKind.i64.wrap (p + 4) = p + 4 := IntWalk.i64_in _ ⟨by omega, by omega⟩
  have e6 : IntKind.i64.wrap (p + 6) = p + 6 := IntWalk.i64_in _ ⟨by omega, by omega⟩
  have e7 : IntKind.i64.wrap (p + 7) = p + 7 := IntWalk.i64_in _ ⟨by omega, by omega⟩
  have e8 : IntKind.i64.wrap (p + 7 + q) = p + 7 + q := IntWalk.i64_in _ ⟨by omega, by omega⟩
  have e9 : IntKind.i64.wrap (p + 7 + q - p) = p + 7 + q - p := IntWalk.i64_in _ ⟨by omega, by omega⟩
  obtain ⟨r, hr⟩ : ∃ r, fawOk u [p, p + 2, p + 4, p + 6, p + 7 + q] = r := ⟨_, rfl⟩
  have R5 := Lib.hid hr
  have R4 := Lib.hid (U4.out p ⟨p00, p01⟩)
  have rr : decide (u.faw ≤ p + 7 + q - p) = r := by rw [← hr, U5.out p q ⟨p00, p01⟩ ⟨q0, q1⟩, UF.out]
  have rr2 : (r == r) = true := by simp
  clear U4 U5 UF hr hq q0 q1 p00 p01 s00 s01 SPEC
  have z0 := fun q : Later w3 => q.cell hc0
  have z1 := fun q : Later w3 => q.cell hc1
  clear hc0 hc1
  go_wp2_with fail
  refine wp_region_later_tail 24 (by kernel_rfl) (by kernel_rfl) ?_
  simp only [List.take_succ_cons, List.take_zero, List.drop_succ_cons, List.drop_zero]
  repeat (go_big_quiet_step (fail))
  refine wpQuiet_nil ?_
  rintro w4 ⟨zz, hz⟩
  have hb4 : Below w3.heap.size w3 w4 := hz ▸ zz.ok
  have p4 := keep_block hb4 p3 (lt_of_block p3)
  have hlt4 := lt_of_block p4
  have HB4 : Hid (Below w.heap.size w w4) := HB3.out.trans (hb4.mono HB3.out.size)
  clear z0 z1 hz zz hb4 p3 HB3
  have p5 : (w4.alloc (.cells #[.int .i64 p, .int .i64 (p + 2), .int .i64 (p + 4), .int .i64 (p + 6), .int .i64 (p + 7 + q)] 3)).heap[pb]? = some (.cells #[.int .i64 u.rcd, .int .i64 u.rp, .int .i64 u.ras, .int .i64 u.rrds, .int .i64 u.rrdl, .int .i64 u.faw, .int .i64 u.ccds, .int .i64 u.ccdl, .int .i64 u.rtp, .int .i64 u.wr, .int .i64 u.wtrs, .int .i64 u.wtrl, .int .i64 u.rtw, .int .i64 u.rfc, .int .i64 u.cke, .int .i64 u.xp, .int .i64 u.xs] 25) := (Below.heap_alloc _ _ _ hlt4).trans p4
  have R50 := Lib.hid (rowI_new w4 [p, p + 2, p + 4, p + 6, p + 7 + q] #[.int .i64 p, .int .i64 (p + 2), .int .i64 (p + 4), .int .i64 (p + 6), .int .i64 (p + 7 + q)] 3 rfl)
  have HB5 : Hid (Below w.heap.size w (w4.alloc (.cells #[.int .i64 p, .int .i64 (p + 2), .int .i64 (p + 4), .int .i64 (p + 6), .int .i64 (p + 7 + q)] 3))) := HB4.out.alloc HB4.out.size _
  go_wp2_with (first | ((with_reducible refine ld_tm ?_ ?_ p5 ?_); kernel_rfl; exact rfl; go_simp))
  obtain ⟨tb, htb⟩ : ∃ p, w4.heap.size = p := ⟨_, rfl⟩
  have n5 := heap_alloc_new w4 (.cells #[.int .i64 p, .int .i64 (p + 2), .int .i64 (p + 4), .int .i64 (p + 6), .int .i64 (p + 7 + q)] 3)
  generalize (w4.alloc (.cells #[.int .i64 p, .int .i64 (p + 2), .int .i64 (p + 4), .int .i64 (p + 6), .int .i64 (p + 7 + q)] 3)) = w5 at p5 n5 R50 HB5 ⊢
  rw [htb] at R50 n5
  (try simp only [htb])
  clear htb hlt4 p4 HB4
  refine (implFaw_is u [p, p + 2, p + 4, p + 6, p + 7 + q] _ 5 _ rfl (by decide) _ R5.out _ R50.out).mono ?_
  rintro e w6 ⟨rfl, hb6⟩
  have p6 := keep_block hb6 p5 (lt_of_block p5)
  have n6 := keep_block hb6 n5 (lt_of_block n5)
  have R60 : Hid (RowI w6 (some ⟨tb, 0, none⟩) [p, p + 2, p + 4, p + 6, p + 7 + q]) := R50.out.below hb6
  have HB6 : Hid (Below w.heap.size w w6) := HB5.out.trans (hb6.mono HB5.out.size)
  clear hb6 p5 n5 R50 HB5
  obtain ⟨c0, c1, c2, c3, c4, c5, c6, c7, c8, c9, c10, c11, c12, c13, c14, c15, c16⟩ := tm_cells p6
  have d0 : w6.cell? ⟨tb, 0, none⟩ = some (.int .i64 p) := by simp [World.cell?, n6]
  have d4 : w6.cell? ⟨tb, 4, none⟩ = some (.int .i64 (p + 7 + q)) := by simp [World.cell?, n6]
  have z5 := fun q : Later w6 => q.cell c5
  have y0 := fun q : Later w6 => q.cell d0
  have y4 := fun q : Later w6 => q.cell d4
  have R6 : Hid (∀ zz : Later w6, RowI zz.to (some ⟨tb, 0, none⟩) [p, p + 2, p + 4, p + 6]) := fun zz => rowI_init [p + 7 + q] (R60.out.below zz.ok)
  clear c0 c1 c2 c3 c4 c5 c6 c7 c8 c9 c10 c11 c12 c13 c14 c15 c16 d0 d4 n6 R60
  go_wp2_with fail
  refine wp_region_later (by kernel_rfl) (by kernel_rfl) ?_
  repeat (first | ((with_reducible refine ld_later ?_ ?_ p6 ?_); kernel_rfl; kernel_rfl; go_simp) | go_big_quiet_step ((go_at_call 24; exact Gives.later _ (implFaw_is u [p, p + 2, p + 4, p + 6] _ 4 _ rfl (by decide) _ R4.out _ (R6.out _)))))
  refine wpQuiet_nil ?_
  intro zz
  have HB7 : Hid (Below w.heap.size w zz.to) := HB6.out.trans (zz.ok.mono HB6.out.size)
  go_wp2
  go_ret
  exact ⟨rfl, HB7.out⟩



end Go.Proofs.Ytcjeobagjhjbmaa
