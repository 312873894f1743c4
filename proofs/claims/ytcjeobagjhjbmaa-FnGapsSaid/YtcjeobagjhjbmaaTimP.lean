/-
  Every distance.
-/
import Derived.Test.YtcjeobagjhjbmaaTimN
import Derived.Test.YtcjeobagjhjbmaaTimX
import Derived.Test.YtcjeobagjhjbmaaDraw2W
import Derived.Test.YtcjeobagjhjbmaaCmdT
namespace Go.Proofs.Ytcjeobagjhjbmaa
open Go.RowKit

set_option linter.unusedVariables false

theorem eq_tm (t : Tm) (w : World) : (Go.binOp .eql 25 (.agg #[.int .i64 t.rcd, .int .i64 t.rp, .int .i64 t.ras, .int .i64 t.rrds, .int .i64 t.rrdl, .int .i64 t.faw, .int .i64 t.ccds, .int .i64 t.ccdl, .int .i64 t.rtp, .int .i64 t.wr, .int .i64 t.wtrs, .int .i64 t.wtrl, .int .i64 t.rtw, .int .i64 t.rfc, .int .i64 t.cke, .int .i64 t.xp, .int .i64 t.xs]) (.agg #[.int .i64 t.rcd, .int .i64 t.rp, .int .i64 t.ras, .int .i64 t.rrds, .int .i64 t.rrdl, .int .i64 t.faw, .int .i64 t.ccds, .int .i64 t.ccdl, .int .i64 t.rtp, .int .i64 t.wr, .int .i64 t.wtrs, .int .i64 t.wtrl, .int .i64 t.rtw, .int .i64 t.rfc, .int .i64 t.cke, .int .i64 t.xp, .int .i64 t.xs])).run Try.prog w = .ok (.bool true) w := by
  simp [go_sem]


set_option maxHeartbeats 16000000 in
set_option maxRecDepth 100000 in
theorem fnGaps_walk (a : Option Addr) (len cap : Nat) (z : List Int) (w : World) (hr : IsRow .u8 w a len cap z) :
    Calls Try.prog 4 #[.slice a len cap] w fun e w' => e = .returned (.bool true) ∧ Below w.heap.size w w' := by
  have hl := hr.len_le
  unfold maxLen at hl
  by_cases hbig : (1048576 : Int) < (len : Int)
  · go_enter Try.func4, Try.ntmps4
    go_wp2_with (go_at_call 12; refine (big_any _ _ _ _ (by omega)).mono ?_; rintro e w' ⟨rfl, rfl⟩)
    go_ret
    exact ⟨rfl, Below.refl _ _⟩
  have SPEC := Lib.hid specFast_t
  have IMPL := Lib.hid implFast_t
  have WL : Hid (rankG fastT 3 2 true = fastT.wtrl) := Lib.hid (by decide)
  obtain ⟨u, hu⟩ : ∃ u, fastT = u := ⟨_, rfl⟩
  have UOK : Hid (TimOk u) := hu ▸ fast_ok
  rw [hu] at SPEC IMPL WL
  clear hu
  go_enter Try.func4, Try.ntmps4
  go_wp2_with (go_at_call 12; refine (big_any _ _ _ _ (by omega)).mono ?_; rintro e w' ⟨rfl, rfl⟩)
  refine (drawCommand_any hr).mono ?_
  rintro e w1 ⟨ga, gb, gr, gd, k, x, y, c, rfl, hg, hcm, had, hb1⟩
  obtain ⟨w2, hw2⟩ : ∃ u, (w1.alloc (.cells #[.int .i64 ga, .int .i64 gb, .int .i64 gr, .int .i64 gd] 31)).alloc (.cells #[.int .i64 k, .int .i64 x, .int .i64 y, .int .i64 c] 33) = u := ⟨_, rfl⟩
  have hb2 : Below w1.heap.size w1 w2 := by subst hw2; exact ((Below.refl _ _).alloc (Nat.le_refl _) _).alloc (by simp) _
  have g2 : w2.heap[w1.heap.size]? = some (.cells #[.int .i64 ga, .int .i64 gb, .int .i64 gr, .int .i64 gd] 31) := by subst hw2; exact heap_alloc2_old _ _ _
  have a2 : w2.heap[w1.heap.size + 1]? = some (.cells #[.int .i64 k, .int .i64 x, .int .i64 y, .int .i64 c] 33) := by subst hw2; exact heap_alloc2_new _ _ _
  have HB2 : Hid (Below w.heap.size w w2) := hb1.trans (hb2.mono hb1.size)
  have HC2 := Lib.hid (hr.below (fun x hx hc => hr.lt hx hc) HB2.out)
  obtain ⟨gB, hgB⟩ : ∃ u, w1.heap.size = u := ⟨_, rfl⟩
  have HGB : Hid (w.heap.size ≤ gB) := hgB ▸ hb1.size
  rw [hgB] at g2 a2
  have HG := Lib.hid hg
  have HA := Lib.hid (And.intro hcm had)
  clear hb1 hb2 hr hg hcm had
  go_wp2_with fail
  clear hw2
  (try simp only [hgB])
  clear hgB
  refine (drawPlaces_any HC2.out).mono ?_
  rintro e w3 ⟨gp, c2, pl, rfl, hl12, hp, hown, hb3⟩
  obtain ⟨p, hc0, p00, p01⟩ := place_at hown hl12 hp 0 (by omega)
  obtain ⟨s, hc1, s00, s01⟩ := place_at hown hl12 hp 1 (by omega)
  have g3 := keep_block hb3 g2 (lt_of_block g2)
  have a3 := keep_block hb3 a2 (lt_of_block a2)
  have HB3 : Hid (Below w.heap.size w w3) := HB2.out.trans (hb3.mono HB2.out.size)
  have SEC := second_ok HG.out ⟨p00, p01⟩ ⟨s00, s01⟩
  clear hb3 g2 a2 HB2 HC2 hown hl12 hp
  obtain ⟨m, hm⟩ : ∃ n, p % 9 = n := ⟨_, rfl⟩
  have m0 : 0 ≤ m := by rw [← hm]; exact Int.emod_nonneg _ (by omega)
  have m1 : m < 9 := by rw [← hm]; exact Int.emod_lt_of_pos _ (by omega)
  have tm : p.tmod 9 = m := by rw [Int.tmod_eq_emod_of_nonneg p00, hm]
  have wm : IntKind.i64.wrap m = m := IntWalk.i64_in _ ⟨by omega, by omega⟩
  have wk : IntKind.i64.wrap (1 + m) = 1 + m := IntWalk.i64_in _ ⟨by omega, by omega⟩
  have n0 := (SEC.2).1
  obtain ⟨n, hn⟩ : ∃ n, bankN ga gb gr gd = n := ⟨_, rfl⟩
  have BC : Hid (∀ w, Calls Try.prog 20 #[.agg #[.int .i64 ga, .int .i64 gb, .int .i64 gr, .int .i64 gd]] w (Gives (.int .i64 n) w)) := fun w => specBank_is ga gb gr gd n hn w
  rw [hn] at n0
  have hnr := bankN_range ga gb gr gd
  rw [hn, hm] at SEC
  rw [hn] at hnr
  have n1 : 1 ≤ n := by
    rw [hm] at n0
    split at n0 <;> omega
  obtain ⟨v, hv⟩ : ∃ v, gapG u ga gb gr gd k x y c (1 + m) (if 1 + m ≤ 5 then s % n else 0) 0 0 = v := ⟨_, rfl⟩
  have LEAST := gap_least UOK.out HA.out SEC
  rw [hv] at LEAST
  have tv : decide (1 ≤ v) = true := decide_eq_true LEAST.1.1
  have tr : decide (rankG u k (1 + m) false ≤ v) = true := decide_eq_true LEAST.2.1
  have tw : (rankG u 3 2 true == u.wtrl) = true := by rw [WL.out]; simp
  have te := eq_tm u
  have LB := LEAST.2.2
  clear LEAST SEC n0 hm hn UOK WL HA HG
  by_cases h5' : 1 + m ≤ 5
  case pos =>
    rw [if_pos h5'] at hv LB
    have t2 : decide (1 + m ≤ 5) = true := decide_eq_true h5'
    have h5 := Lib.hid h5'
    obtain ⟨j, hj⟩ : ∃ j, s % n = j := ⟨_, rfl⟩
    have j0 : 0 ≤ j := by rw [← hj]; exact Int.emod_nonneg _ (by omega)
    have j1 : j < n := by rw [← hj]; exact Int.emod_lt_of_pos _ (by omega)
    have tj : s.tmod n = j := by rw [Int.tmod_eq_emod_of_nonneg s00, hj]
    have wj : IntKind.i64.wrap j = j := IntWalk.i64_in _ ⟨by omega, by omega⟩
    have nz : ¬ n = 0 := by omega
    rw [hj] at hv LB
    have HV := Lib.hid hv
    have LBANK := Lib.hid LB
    clear hv LB hj j0 j1 hnr n1 p00 p01 s00 s01 m0 m1 h5'
    go_wp2_with fail
    have hb4 : Below w3.heap.size w3 (w3.alloc (.cells #[.int .i64 (1 + m), .int .i64 0, .int .i64 0, .int .i64 0] 33)) := (Below.refl _ _).alloc (Nat.le_refl _) _
    have b4 : (w3.alloc (.cells #[.int .i64 (1 + m), .int .i64 0, .int .i64 0, .int .i64 0] 33)).heap[w3.heap.size]? = some (.cells #[.int .i64 (1 + m), .int .i64 0, .int .i64 0, .int .i64 0] 33) := heap_alloc_new _ _
    have g4 := keep_block hb4 g3 (lt_of_block g3)
    have a4 := keep_block hb4 a3 (lt_of_block a3)
    have s4 := keep_cell hb4 hc1 (World.block_lt_of_cell? _ _ hc1)
    have HB4 : Hid (Below w.heap.size w (w3.alloc (.cells #[.int .i64 (1 + m), .int .i64 0, .int .i64 0, .int .i64 0] 33))) := HB3.out.trans (hb4.mono HB3.out.size)
    clear hb4
    generalize (w3.alloc (.cells #[.int .i64 (1 + m), .int .i64 0, .int .i64 0, .int .i64 0] 33)) = w4 at b4 g4 a4 s4 HB4 ⊢
    obtain ⟨bB, hbB⟩ : ∃ u, w3.heap.size = u := ⟨_, rfl⟩
    have HbB : Hid (w.heap.size ≤ bB ∧ gB + 1 < bB) := hbB ▸ ⟨HB3.out.size, lt_of_block a3⟩
    rw [hbB] at b4
    (try simp only [hbB])
    clear g3 a3 hc0 hc1 HB3 hbB
    obtain ⟨y0, y1, y2, y3⟩ := cells4 g4
    have yy0 := fun q : Later w4 => q.cell y0
    have yy1 := fun q : Later w4 => q.cell y1
    have yy2 := fun q : Later w4 => q.cell y2
    have yy3 := fun q : Later w4 => q.cell y3
    have ys := fun q : Later w4 => q.cell s4
    clear y0 y1 y2 y3 s4
    refine wp_region_later_tail 7 (by kernel_rfl) (by kernel_rfl) ?_
    simp only [List.take_succ_cons, List.take_zero, List.drop_succ_cons, List.drop_zero]
    repeat (go_big_quiet_step ((go_at_call 20; exact Gives.later _ (BC.out _))))
    refine wpQuiet_nil ?_
    rintro w5 ⟨zz, hz⟩
    have hb5 : Below w4.heap.size w4 w5 := hz ▸ zz.ok
    have g5 := keep_block hb5 g4 (lt_of_block g4)
    have a5 := keep_block hb5 a4 (lt_of_block a4)
    have b5 := keep_block hb5 b4 (lt_of_block b4)
    have HB5 : Hid (Below w.heap.size w w5) := HB4.out.trans (hb5.mono HB4.out.size)
    clear yy0 yy1 yy2 yy3 ys hz zz hb5 g4 a4 b4 HB4
    have fz := thawed b5 1
    obtain ⟨q0, q1, q2, q3⟩ := cells4 b5
    have b6 : (w5.setCell ⟨bB, 1, none⟩ (.int .i64 j)).heap[bB]? = some (.cells #[.int .i64 (1 + m), .int .i64 j, .int .i64 0, .int .i64 0] 33) := set_cells b5 1 _
    have g6 : (w5.setCell ⟨bB, 1, none⟩ (.int .i64 j)).heap[gB]? = some (.cells #[.int .i64 ga, .int .i64 gb, .int .i64 gr, .int .i64 gd] 31) := (Below.heap_setCell _ _ _ _ (by show gB ≠ bB; have := HbB.out.2; omega)).trans g5
    have a6 : (w5.setCell ⟨bB, 1, none⟩ (.int .i64 j)).heap[gB + 1]? = some (.cells #[.int .i64 k, .int .i64 x, .int .i64 y, .int .i64 c] 33) := (Below.heap_setCell _ _ _ _ (by show gB + 1 ≠ bB; have := HbB.out.2; omega)).trans a5
    have HB6 : Hid (Below w.heap.size w (w5.setCell ⟨bB, 1, none⟩ (.int .i64 j))) := HB5.out.setCell HbB.out.1 _
    go_wp2_with fail
    generalize (w5.setCell ⟨bB, 1, none⟩ (.int .i64 j)) = w6 at b6 g6 a6 HB6 ⊢
    clear q0 q1 q2 q3 fz g5 a5 b5 HB5
    refine (IMPL.out _).mono ?_
    rintro e w7 ⟨rfl, hb7⟩
    have g7 := keep_block hb7 g6 (lt_of_block g6)
    have a7 := keep_block hb7 a6 (lt_of_block a6)
    have b7 := keep_block hb7 b6 (lt_of_block b6)
    have HB7 : Hid (Below w.heap.size w w7) := HB6.out.trans (hb7.mono HB6.out.size)
    clear hb7 g6 a6 b6 HB6
    have hn := heap_alloc_new w7 (.cells #[.int .i64 0, .int .i64 0, .int .i64 0, .int .i64 0, .int .i64 0, .int .i64 0, .int .i64 0, .int .i64 0, .int .i64 0, .int .i64 0, .int .i64 0, .int .i64 0, .int .i64 0, .int .i64 0, .int .i64 0, .int .i64 0, .int .i64 0] 25)
    have p8 := setRow_same _ _ #[.int .i64 u.rcd, .int .i64 u.rp, .int .i64 u.ras, .int .i64 u.rrds, .int .i64 u.rrdl, .int .i64 u.faw, .int .i64 u.ccds, .int .i64 u.ccdl, .int .i64 u.rtp, .int .i64 u.wr, .int .i64 u.wtrs, .int .i64 u.wtrl, .int .i64 u.rtw, .int .i64 u.rfc, .int .i64 u.cke, .int .i64 u.xp, .int .i64 u.xs] _ _ hn
    have HB8 : Hid (Below w.heap.size w ((w7.alloc (.cells #[.int .i64 0, .int .i64 0, .int .i64 0, .int .i64 0, .int .i64 0, .int .i64 0, .int .i64 0, .int .i64 0, .int .i64 0, .int .i64 0, .int .i64 0, .int .i64 0, .int .i64 0, .int .i64 0, .int .i64 0, .int .i64 0, .int .i64 0] 25)).setRow w7.heap.size #[.int .i64 u.rcd, .int .i64 u.rp, .int .i64 u.ras, .int .i64 u.rrds, .int .i64 u.rrdl, .int .i64 u.faw, .int .i64 u.ccds, .int .i64 u.ccdl, .int .i64 u.rtp, .int .i64 u.wr, .int .i64 u.wtrs, .int .i64 u.wtrl, .int .i64 u.rtw, .int .i64 u.rfc, .int .i64 u.cke, .int .i64 u.xp, .int .i64 u.xs])) := below_setRow (HB7.out.alloc HB7.out.size _) HB7.out.size _
    have g8 : ((w7.alloc (.cells #[.int .i64 0, .int .i64 0, .int .i64 0, .int .i64 0, .int .i64 0, .int .i64 0, .int .i64 0, .int .i64 0, .int .i64 0, .int .i64 0, .int .i64 0, .int .i64 0, .int .i64 0, .int .i64 0, .int .i64 0, .int .i64 0, .int .i64 0] 25)).setRow w7.heap.size #[.int .i64 u.rcd, .int .i64 u.rp, .int .i64 u.ras, .int .i64 u.rrds, .int .i64 u.rrdl, .int .i64 u.faw, .int .i64 u.ccds, .int .i64 u.ccdl, .int .i64 u.rtp, .int .i64 u.wr, .int .i64 u.wtrs, .int .i64 u.wtrl, .int .i64 u.rtw, .int .i64 u.rfc, .int .i64 u.cke, .int .i64 u.xp, .int .i64 u.xs]).heap[gB]? = some (.cells #[.int .i64 ga, .int .i64 gb, .int .i64 gr, .int .i64 gd] 31) := by rw [setRow_other _ _ _ _ (Nat.ne_of_lt (lt_of_block g7)), Below.heap_alloc _ _ _ (lt_of_block g7)]; exact g7
    have a8 : ((w7.alloc (.cells #[.int .i64 0, .int .i64 0, .int .i64 0, .int .i64 0, .int .i64 0, .int .i64 0, .int .i64 0, .int .i64 0, .int .i64 0, .int .i64 0, .int .i64 0, .int .i64 0, .int .i64 0, .int .i64 0, .int .i64 0, .int .i64 0, .int .i64 0] 25)).setRow w7.heap.size #[.int .i64 u.rcd, .int .i64 u.rp, .int .i64 u.ras, .int .i64 u.rrds, .int .i64 u.rrdl, .int .i64 u.faw, .int .i64 u.ccds, .int .i64 u.ccdl, .int .i64 u.rtp, .int .i64 u.wr, .int .i64 u.wtrs, .int .i64 u.wtrl, .int .i64 u.rtw, .int .i64 u.rfc, .int .i64 u.cke, .int .i64 u.xp, .int .i64 u.xs]).heap[(gB + 1)]? = some (.cells #[.int .i64 k, .int .i64 x, .int .i64 y, .int .i64 c] 33) := by rw [setRow_other _ _ _ _ (Nat.ne_of_lt (lt_of_block a7)), Below.heap_alloc _ _ _ (lt_of_block a7)]; exact a7
    have b8 : ((w7.alloc (.cells #[.int .i64 0, .int .i64 0, .int .i64 0, .int .i64 0, .int .i64 0, .int .i64 0, .int .i64 0, .int .i64 0, .int .i64 0, .int .i64 0, .int .i64 0, .int .i64 0, .int .i64 0, .int .i64 0, .int .i64 0, .int .i64 0, .int .i64 0] 25)).setRow w7.heap.size #[.int .i64 u.rcd, .int .i64 u.rp, .int .i64 u.ras, .int .i64 u.rrds, .int .i64 u.rrdl, .int .i64 u.faw, .int .i64 u.ccds, .int .i64 u.ccdl, .int .i64 u.rtp, .int .i64 u.wr, .int .i64 u.wtrs, .int .i64 u.wtrl, .int .i64 u.rtw, .int .i64 u.rfc, .int .i64 u.cke, .int .i64 u.xp, .int .i64 u.xs]).heap[bB]? = some (.cells #[.int .i64 (1 + m), .int .i64 j, .int .i64 0, .int .i64 0] 33) := by rw [setRow_other _ _ _ _ (Nat.ne_of_lt (lt_of_block b7)), Below.heap_alloc _ _ _ (lt_of_block b7)]; exact b7
    obtain ⟨y0, y1, y2, y3⟩ := cells4 g8
    obtain ⟨x0, x1, x2, x3⟩ := cells4 a8
    obtain ⟨z0, z1, z2, z3⟩ := cells4 b8
    go_wp2_with (first | ((with_reducible refine store_list (cells := #[.int .i64 u.rcd, .int .i64 u.rp, .int .i64 u.ras, .int .i64 u.rrds, .int .i64 u.rrdl, .int .i64 u.faw, .int .i64 u.ccds, .int .i64 u.ccdl, .int .i64 u.rtp, .int .i64 u.wr, .int .i64 u.wtrs, .int .i64 u.wtrl, .int .i64 u.rtw, .int .i64 u.rfc, .int .i64 u.cke, .int .i64 u.xp, .int .i64 u.xs]) hn ?_ ?_ ?_ ?_ ?_ ?_); kernel_rfl; kernel_rfl; kernel_rfl; kernel_rfl; kernel_rfl) | (first | ((with_reducible refine ld_tm ?_ ?_ p8 ?_); kernel_rfl; exact rfl; go_simp)))
    clear y0 y1 y2 y3 x0 x1 x2 x3 z0 z1 z2 z3 hn g7 a7 b7
    obtain ⟨pb, hpb⟩ : ∃ p, w7.heap.size = p := ⟨_, rfl⟩
    generalize ((w7.alloc (.cells #[.int .i64 0, .int .i64 0, .int .i64 0, .int .i64 0, .int .i64 0, .int .i64 0, .int .i64 0, .int .i64 0, .int .i64 0, .int .i64 0, .int .i64 0, .int .i64 0, .int .i64 0, .int .i64 0, .int .i64 0, .int .i64 0, .int .i64 0] 25)).setRow w7.heap.size #[.int .i64 u.rcd, .int .i64 u.rp, .int .i64 u.ras, .int .i64 u.rrds, .int .i64 u.rrdl, .int .i64 u.faw, .int .i64 u.ccds, .int .i64 u.ccdl, .int .i64 u.rtp, .int .i64 u.wr, .int .i64 u.wtrs, .int .i64 u.wtrl, .int .i64 u.rtw, .int .i64 u.rfc, .int .i64 u.cke, .int .i64 u.xp, .int .i64 u.xs]) = w8 at p8 g8 a8 b8 HB8 ⊢
    rw [hpb] at p8
    (try simp only [hpb])
    clear hpb HB7
    refine (implGap_is u ga gb gr gd k x y c (1 + m) j 0 0 v HV.out _).mono ?_
    rintro e w9 ⟨rfl, hb9⟩
    have p9 := keep_block hb9 p8 (lt_of_block p8)
    have a9 := keep_block hb9 a8 (lt_of_block a8)
    have b9 := keep_block hb9 b8 (lt_of_block b8)
    have HB9 : Hid (Below w.heap.size w w9) := HB8.out.trans (hb9.mono HB8.out.size)
    clear hb9 p8 g8 a8 b8 HB8
    obtain ⟨ka0, ka1, ka2, ka3⟩ := cells4 a9
    obtain ⟨kb0, kb1, kb2, kb3⟩ := cells4 b9
    by_cases hk : k ≤ 5
    case neg =>
      have t1 : decide (k ≤ 5) = false := decide_eq_false hk
      clear hk
      obtain ⟨c0, c1, c2, c3, c4, c5, c6, c7, c8, c9, c10, c11, c12, c13, c14, c15, c16⟩ := tm_cells p9
      obtain ⟨x0, x1, x2, x3⟩ := cells4 a9
      obtain ⟨z0, z1, z2, z3⟩ := cells4 b9
      have y11 := fun q : Later w9 => q.cell c11
      have yx0 := fun q : Later w9 => q.cell x0
      have yz0 := fun q : Later w9 => q.cell z0
      clear c0 c1 c2 c3 c4 c5 c6 c7 c8 c9 c10 c11 c12 c13 c14 c15 c16 x0 x1 x2 x3 z0 z1 z2 z3
      go_wp2_with fail
      refine wp_region_later (by kernel_rfl) (by kernel_rfl) ?_
      repeat (first | ((with_reducible refine ld_later ?_ ?_ p9 ?_); kernel_rfl; kernel_rfl; go_simp) | go_big_quiet_step (first | (go_at_call 22; exact Gives.later _ (implRankGap_is u _ _ _ _ rfl _)) | (go_at_call 23; exact Gives.later _ (SPEC.out _))))
      refine wpQuiet_nil ?_
      intro zz
      have HBz : Hid (Below w.heap.size w zz.to) := HB9.out.trans (zz.ok.mono HB9.out.size)
      go_wp2
      go_ret
      exact ⟨rfl, HBz.out⟩
    case pos =>
      have t1 : decide (k ≤ 5) = true := decide_eq_true hk
      by_cases hx : x = j
      case neg =>
        have t3 : (x == j) = false := by simp [hx]
        clear hk hx
        obtain ⟨c0, c1, c2, c3, c4, c5, c6, c7, c8, c9, c10, c11, c12, c13, c14, c15, c16⟩ := tm_cells p9
        obtain ⟨x0, x1, x2, x3⟩ := cells4 a9
        obtain ⟨z0, z1, z2, z3⟩ := cells4 b9
        have y11 := fun q : Later w9 => q.cell c11
        have yx0 := fun q : Later w9 => q.cell x0
        have yz0 := fun q : Later w9 => q.cell z0
        clear c0 c1 c2 c3 c4 c5 c6 c7 c8 c9 c10 c11 c12 c13 c14 c15 c16 x0 x1 x2 x3 z0 z1 z2 z3
        go_wp2_with fail
        refine wp_region_later (by kernel_rfl) (by kernel_rfl) ?_
        repeat (first | ((with_reducible refine ld_later ?_ ?_ p9 ?_); kernel_rfl; kernel_rfl; go_simp) | go_big_quiet_step (first | (go_at_call 22; exact Gives.later _ (implRankGap_is u _ _ _ _ rfl _)) | (go_at_call 23; exact Gives.later _ (SPEC.out _))))
        refine wpQuiet_nil ?_
        intro zz
        have HBz : Hid (Below w.heap.size w zz.to) := HB9.out.trans (zz.ok.mono HB9.out.size)
        go_wp2
        go_ret
        exact ⟨rfl, HBz.out⟩
      case pos =>
        have t3 : (x == j) = true := by simp [hx]
        obtain ⟨bg, hbg⟩ : ∃ b, bankG u k (1 + m) = b := ⟨_, rfl⟩
        have hle := LBANK.out hk h5.out hx
        rw [hbg] at hle
        have t4 : decide (v < bg) = false := decide_eq_false (by omega)
        have HBG := Lib.hid hbg
        clear hk hx hbg hle
        go_wp2_with (first | ((with_reducible refine ld_tm ?_ ?_ p9 ?_); kernel_rfl; exact rfl; go_simp))
        refine (implBankGap_is u _ _ _ HBG.out _).mono ?_
        rintro e w10 ⟨rfl, hb10⟩
        have p10 := keep_block hb10 p9 (lt_of_block p9)
        have a10 := keep_block hb10 a9 (lt_of_block a9)
        have b10 := keep_block hb10 b9 (lt_of_block b9)
        have HB10 : Hid (Below w.heap.size w w10) := HB9.out.trans (hb10.mono HB9.out.size)
        clear hb10 p9 a9 b9 HB9 ka0 ka1 ka2 ka3 kb0 kb1 kb2 kb3
        obtain ⟨c0, c1, c2, c3, c4, c5, c6, c7, c8, c9, c10, c11, c12, c13, c14, c15, c16⟩ := tm_cells p10
        obtain ⟨x0, x1, x2, x3⟩ := cells4 a10
        obtain ⟨z0, z1, z2, z3⟩ := cells4 b10
        have y11 := fun q : Later w10 => q.cell c11
        have yx0 := fun q : Later w10 => q.cell x0
        have yz0 := fun q : Later w10 => q.cell z0
        clear c0 c1 c2 c3 c4 c5 c6 c7 c8 c9 c10 c11 c12 c13 c14 c15 c16 x0 x1 x2 x3 z0 z1 z2 z3
        go_wp2_with fail
        refine wp_region_later (by kernel_rfl) (by kernel_rfl) ?_
        repeat (first | ((with_reducible refine ld_later ?_ ?_ p10 ?_); kernel_rfl; kernel_rfl; go_simp) | go_big_quiet_step (first | (go_at_call 22; exact Gives.later _ (implRankGap_is u _ _ _ _ rfl _)) | (go_at_call 23; exact Gives.later _ (SPEC.out _))))
        refine wpQuiet_nil ?_
        intro zz
        have HBz : Hid (Below w.heap.size w zz.to) := HB10.out.trans (zz.ok.mono HB10.out.size)
        go_wp2
        go_ret
        exact ⟨rfl, HBz.out⟩
  case neg =>
    rw [if_neg h5'] at hv LB
    have t2 : decide (1 + m ≤ 5) = false := decide_eq_false h5'
    have HV := Lib.hid hv
    clear hv LB hnr n1 p00 p01 s00 s01 m0 m1 h5'
    go_wp2_with fail
    have hb4 : Below w3.heap.size w3 (w3.alloc (.cells #[.int .i64 (1 + m), .int .i64 0, .int .i64 0, .int .i64 0] 33)) := (Below.refl _ _).alloc (Nat.le_refl _) _
    have b4 : (w3.alloc (.cells #[.int .i64 (1 + m), .int .i64 0, .int .i64 0, .int .i64 0] 33)).heap[w3.heap.size]? = some (.cells #[.int .i64 (1 + m), .int .i64 0, .int .i64 0, .int .i64 0] 33) := heap_alloc_new _ _
    have g4 := keep_block hb4 g3 (lt_of_block g3)
    have a4 := keep_block hb4 a3 (lt_of_block a3)
    have s4 := keep_cell hb4 hc1 (World.block_lt_of_cell? _ _ hc1)
    have HB4 : Hid (Below w.heap.size w (w3.alloc (.cells #[.int .i64 (1 + m), .int .i64 0, .int .i64 0, .int .i64 0] 33))) := HB3.out.trans (hb4.mono HB3.out.size)
    clear hb4
    generalize (w3.alloc (.cells #[.int .i64 (1 + m), .int .i64 0, .int .i64 0, .int .i64 0] 33)) = w4 at b4 g4 a4 s4 HB4 ⊢
    obtain ⟨bB, hbB⟩ : ∃ u, w3.heap.size = u := ⟨_, rfl⟩
    have HbB : Hid (w.heap.size ≤ bB ∧ gB + 1 < bB) := hbB ▸ ⟨HB3.out.size, lt_of_block a3⟩
    rw [hbB] at b4
    (try simp only [hbB])
    clear g3 a3 hc0 hc1 HB3 hbB
    refine (IMPL.out _).mono ?_
    rintro e w7 ⟨rfl, hb7⟩
    have g7 := keep_block hb7 g4 (lt_of_block g4)
    have a7 := keep_block hb7 a4 (lt_of_block a4)
    have b7 := keep_block hb7 b4 (lt_of_block b4)
    have HB7 : Hid (Below w.heap.size w w7) := HB4.out.trans (hb7.mono HB4.out.size)
    clear hb7 g4 a4 b4 HB4
    have hn := heap_alloc_new w7 (.cells #[.int .i64 0, .int .i64 0, .int .i64 0, .int .i64 0, .int .i64 0, .int .i64 0, .int .i64 0, .int .i64 0, .int .i64 0, .int .i64 0, .int .i64 0, .int .i64 0, .int .i64 0, .int .i64 0, .int .i64 0, .int .i64 0, .int .i64 0] 25)
    have p8 := setRow_same _ _ #[.int .i64 u.rcd, .int .i64 u.rp, .int .i64 u.ras, .int .i64 u.rrds, .int .i64 u.rrdl, .int .i64 u.faw, .int .i64 u.ccds, .int .i64 u.ccdl, .int .i64 u.rtp, .int .i64 u.wr, .int .i64 u.wtrs, .int .i64 u.wtrl, .int .i64 u.rtw, .int .i64 u.rfc, .int .i64 u.cke, .int .i64 u.xp, .int .i64 u.xs] _ _ hn
    have HB8 : Hid (Below w.heap.size w ((w7.alloc (.cells #[.int .i64 0, .int .i64 0, .int .i64 0, .int .i64 0, .int .i64 0, .int .i64 0, .int .i64 0, .int .i64 0, .int .i64 0, .int .i64 0, .int .i64 0, .int .i64 0, .int .i64 0, .int .i64 0, .int .i64 0, .int .i64 0, .int .i64 0] 25)).setRow w7.heap.size #[.int .i64 u.rcd, .int .i64 u.rp, .int .i64 u.ras, .int .i64 u.rrds, .int .i64 u.rrdl, .int .i64 u.faw, .int .i64 u.ccds, .int .i64 u.ccdl, .int .i64 u.rtp, .int .i64 u.wr, .int .i64 u.wtrs, .int .i64 u.wtrl, .int .i64 u.rtw, .int .i64 u.rfc, .int .i64 u.cke, .int .i64 u.xp, .int .i64 u.xs])) := below_setRow (HB7.out.alloc HB7.out.size _) HB7.out.size _
    have g8 : ((w7.alloc (.cells #[.int .i64 0, .int .i64 0, .int .i64 0, .int .i64 0, .int .i64 0, .int .i64 0, .int .i64 0, .int .i64 0, .int .i64 0, .int .i64 0, .int .i64 0, .int .i64 0, .int .i64 0, .int .i64 0, .int .i64 0, .int .i64 0, .int .i64 0] 25)).setRow w7.heap.size #[.int .i64 u.rcd, .int .i64 u.rp, .int .i64 u.ras, .int .i64 u.rrds, .int .i64 u.rrdl, .int .i64 u.faw, .int .i64 u.ccds, .int .i64 u.ccdl, .int .i64 u.rtp, .int .i64 u.wr, .int .i64 u.wtrs, .int .i64 u.wtrl, .int .i64 u.rtw, .int .i64 u.rfc, .int .i64 u.cke, .int .i64 u.xp, .int .i64 u.xs]).heap[gB]? = some (.cells #[.int .i64 ga, .int .i64 gb, .int .i64 gr, .int .i64 gd] 31) := by rw [setRow_other _ _ _ _ (Nat.ne_of_lt (lt_of_block g7)), Below.heap_alloc _ _ _ (lt_of_block g7)]; exact g7
    have a8 : ((w7.alloc (.cells #[.int .i64 0, .int .i64 0, .int .i64 0, .int .i64 0, .int .i64 0, .int .i64 0, .int .i64 0, .int .i64 0, .int .i64 0, .int .i64 0, .int .i64 0, .int .i64 0, .int .i64 0, .int .i64 0, .int .i64 0, .int .i64 0, .int .i64 0] 25)).setRow w7.heap.size #[.int .i64 u.rcd, .int .i64 u.rp, .int .i64 u.ras, .int .i64 u.rrds, .int .i64 u.rrdl, .int .i64 u.faw, .int .i64 u.ccds, .int .i64 u.ccdl, .int .i64 u.rtp, .int .i64 u.wr, .int .i64 u.wtrs, .int .i64 u.wtrl, .int .i64 u.rtw, .int .i64 u.rfc, .int .i64 u.cke, .int .i64 u.xp, .int .i64 u.xs]).heap[(gB + 1)]? = some (.cells #[.int .i64 k, .int .i64 x, .int .i64 y, .int .i64 c] 33) := by rw [setRow_other _ _ _ _ (Nat.ne_of_lt (lt_of_block a7)), Below.heap_alloc _ _ _ (lt_of_block a7)]; exact a7
    have b8 : ((w7.alloc (.cells #[.int .i64 0, .int .i64 0, .int .i64 0, .int .i64 0, .int .i64 0, .int .i64 0, .int .i64 0, .int .i64 0, .int .i64 0, .int .i64 0, .int .i64 0, .int .i64 0, .int .i64 0, .int .i64 0, .int .i64 0, .int .i64 0, .int .i64 0] 25)).setRow w7.heap.size #[.int .i64 u.rcd, .int .i64 u.rp, .int .i64 u.ras, .int .i64 u.rrds, .int .i64 u.rrdl, .int .i64 u.faw, .int .i64 u.ccds, .int .i64 u.ccdl, .int .i64 u.rtp, .int .i64 u.wr, .int .i64 u.wtrs, .int .i64 u.wtrl, .int .i64 u.rtw, .int .i64 u.rfc, .int .i64 u.cke, .int .i64 u.xp, .int .i64 u.xs]).heap[bB]? = some (.cells #[.int .i64 (1 + m), .int .i64 0, .int .i64 0, .int .i64 0] 33) := by rw [setRow_other _ _ _ _ (Nat.ne_of_lt (lt_of_block b7)), Below.heap_alloc _ _ _ (lt_of_block b7)]; exact b7
    obtain ⟨y0, y1, y2, y3⟩ := cells4 g8
    obtain ⟨x0, x1, x2, x3⟩ := cells4 a8
    obtain ⟨z0, z1, z2, z3⟩ := cells4 b8
    go_wp2_with (first | ((with_reducible refine store_list (cells := #[.int .i64 u.rcd, .int .i64 u.rp, .int .i64 u.ras, .int .i64 u.rrds, .int .i64 u.rrdl, .int .i64 u.faw, .int .i64 u.ccds, .int .i64 u.ccdl, .int .i64 u.rtp, .int .i64 u.wr, .int .i64 u.wtrs, .int .i64 u.wtrl, .int .i64 u.rtw, .int .i64 u.rfc, .int .i64 u.cke, .int .i64 u.xp, .int .i64 u.xs]) hn ?_ ?_ ?_ ?_ ?_ ?_); kernel_rfl; kernel_rfl; kernel_rfl; kernel_rfl; kernel_rfl) | (first | ((with_reducible refine ld_tm ?_ ?_ p8 ?_); kernel_rfl; exact rfl; go_simp)))
    clear y0 y1 y2 y3 x0 x1 x2 x3 z0 z1 z2 z3 hn g7 a7 b7
    obtain ⟨pb, hpb⟩ : ∃ p, w7.heap.size = p := ⟨_, rfl⟩
    generalize ((w7.alloc (.cells #[.int .i64 0, .int .i64 0, .int .i64 0, .int .i64 0, .int .i64 0, .int .i64 0, .int .i64 0, .int .i64 0, .int .i64 0, .int .i64 0, .int .i64 0, .int .i64 0, .int .i64 0, .int .i64 0, .int .i64 0, .int .i64 0, .int .i64 0] 25)).setRow w7.heap.size #[.int .i64 u.rcd, .int .i64 u.rp, .int .i64 u.ras, .int .i64 u.rrds, .int .i64 u.rrdl, .int .i64 u.faw, .int .i64 u.ccds, .int .i64 u.ccdl, .int .i64 u.rtp, .int .i64 u.wr, .int .i64 u.wtrs, .int .i64 u.wtrl, .int .i64 u.rtw, .int .i64 u.rfc, .int .i64 u.cke, .int .i64 u.xp, .int .i64 u.xs]) = w8 at p8 g8 a8 b8 HB8 ⊢
    rw [hpb] at p8
    (try simp only [hpb])
    clear hpb HB7
    refine (implGap_is u ga gb gr gd k x y c (1 + m) 0 0 0 v HV.out _).mono ?_
    rintro e w9 ⟨rfl, hb9⟩
    have p9 := keep_block hb9 p8 (lt_of_block p8)
    have a9 := keep_block hb9 a8 (lt_of_block a8)
    have b9 := keep_block hb9 b8 (lt_of_block b8)
    have HB9 : Hid (Below w.heap.size w w9) := HB8.out.trans (hb9.mono HB8.out.size)
    clear hb9 p8 g8 a8 b8 HB8
    obtain ⟨ka0, ka1, ka2, ka3⟩ := cells4 a9
    obtain ⟨kb0, kb1, kb2, kb3⟩ := cells4 b9
    by_cases hk : k ≤ 5
    case neg =>
      have t1 : decide (k ≤ 5) = false := decide_eq_false hk
      clear hk
      obtain ⟨c0, c1, c2, c3, c4, c5, c6, c7, c8, c9, c10, c11, c12, c13, c14, c15, c16⟩ := tm_cells p9
      obtain ⟨x0, x1, x2, x3⟩ := cells4 a9
      obtain ⟨z0, z1, z2, z3⟩ := cells4 b9
      have y11 := fun q : Later w9 => q.cell c11
      have yx0 := fun q : Later w9 => q.cell x0
      have yz0 := fun q : Later w9 => q.cell z0
      clear c0 c1 c2 c3 c4 c5 c6 c7 c8 c9 c10 c11 c12 c13 c14 c15 c16 x0 x1 x2 x3 z0 z1 z2 z3
      go_wp2_with fail
      refine wp_region_later (by kernel_rfl) (by kernel_rfl) ?_
      repeat (first | ((with_reducible refine ld_later ?_ ?_ p9 ?_); kernel_rfl; kernel_rfl; go_simp) | go_big_quiet_step (first | (go_at_call 22; exact Gives.later _ (implRankGap_is u _ _ _ _ rfl _)) | (go_at_call 23; exact Gives.later _ (SPEC.out _))))
      refine wpQuiet_nil ?_
      intro zz
      have HBz : Hid (Below w.heap.size w zz.to) := HB9.out.trans (zz.ok.mono HB9.out.size)
      go_wp2
      go_ret
      exact ⟨rfl, HBz.out⟩
    case pos =>
      have t1 : decide (k ≤ 5) = true := decide_eq_true hk
      clear hk
      obtain ⟨c0, c1, c2, c3, c4, c5, c6, c7, c8, c9, c10, c11, c12, c13, c14, c15, c16⟩ := tm_cells p9
      obtain ⟨x0, x1, x2, x3⟩ := cells4 a9
      obtain ⟨z0, z1, z2, z3⟩ := cells4 b9
      have y11 := fun q : Later w9 => q.cell c11
      have yx0 := fun q : Later w9 => q.cell x0
      have yz0 := fun q : Later w9 => q.cell z0
      clear c0 c1 c2 c3 c4 c5 c6 c7 c8 c9 c10 c11 c12 c13 c14 c15 c16 x0 x1 x2 x3 z0 z1 z2 z3
      go_wp2_with fail
      refine wp_region_later (by kernel_rfl) (by kernel_rfl) ?_
      repeat (first | ((with_reducible refine ld_later ?_ ?_ p9 ?_); kernel_rfl; kernel_rfl; go_simp) | go_big_quiet_step (first | (go_at_call 22; exact Gives.later _ (implRankGap_is u _ _ _ _ rfl _)) | (go_at_call 23; exact Gives.later _ (SPEC.out _))))
      refine wpQuiet_nil ?_
      intro zz
      have HBz : Hid (Below w.heap.size w zz.to) := HB9.out.trans (zz.ok.mono HB9.out.size)
      go_wp2
      go_ret
      exact ⟨rfl, HBz.out⟩



end Go.Proofs.Ytcjeobagjhjbmaa
