/-
  The model's distance of two commands.
-/
import Derived.Test.YtihhcnckoeaihaaTimR
import Derived.Test.YtihhcnckoeaihaaCmdW2
namespace Go.Proofs.Ytihhcnckoeaihaa
open Go.RowKit

set_option linter.unusedVariables false

/-- The distance of two commands; 0 where something is not valid. -/
def gapG (t : Tm) (g0 B g2 g3 ka xa ya za kb xb yb zb : Int) : Int :=
  if TimOk t ∧ (CmOk ka xa ya za ∧ AdOk g0 B g2 g3 xa ya za) ∧ (CmOk kb xb yb zb ∧ AdOk g0 B g2 g3 xb yb zb) then gapR B t ka xa kb xb else 0

theorem div_facts {x B : Int} (hx : 0 ≤ x ∧ x ≤ 7) (hB : 1 ≤ B ∧ B ≤ 4) : x.tdiv B = x / B ∧ IntKind.i64.wrap (x / B) = x / B := by
  have h1 := Int.ediv_nonneg hx.1 (show 0 ≤ B by omega)
  have h2 := Int.ediv_le_self B hx.1
  exact ⟨Int.tdiv_eq_ediv_of_nonneg hx.1, IntWalk.i64_in _ ⟨by omega, by omega⟩⟩

set_option maxHeartbeats 8000000 in
theorem specL07Gap_is (t : Tm) (g0 B g2 g3 ka xa ya za kb xb yb zb : Int) (hB : 1 ≤ B ∧ B ≤ 4) (hxa : 0 ≤ xa ∧ xa ≤ 7) (hxb : 0 ≤ xb ∧ xb ≤ 7) (v : Int) (hv : gapR B t ka xa kb xb = v) (w : World) :
    Calls Try.prog 49 #[.agg #[.int .i64 g0, .int .i64 B, .int .i64 g2, .int .i64 g3], .agg #[.int .i64 t.rcd, .int .i64 t.rp, .int .i64 t.ras, .int .i64 t.rrds, .int .i64 t.rrdl, .int .i64 t.faw, .int .i64 t.ccds, .int .i64 t.ccdl, .int .i64 t.rtp, .int .i64 t.wr, .int .i64 t.wtrs, .int .i64 t.wtrl, .int .i64 t.rtw, .int .i64 t.rfc, .int .i64 t.cke, .int .i64 t.xp, .int .i64 t.xs], .agg #[.int .i64 ka, .int .i64 xa, .int .i64 ya, .int .i64 za], .agg #[.int .i64 kb, .int .i64 xb, .int .i64 yb, .int .i64 zb]] w (Gives (.int .i64 v) w) := by
  obtain ⟨w1, hw1⟩ : ∃ u, (((w.alloc (.cells #[.int .i64 g0, .int .i64 B, .int .i64 g2, .int .i64 g3] 30)).alloc (.cells #[.int .i64 t.rcd, .int .i64 t.rp, .int .i64 t.ras, .int .i64 t.rrds, .int .i64 t.rrdl, .int .i64 t.faw, .int .i64 t.ccds, .int .i64 t.ccdl, .int .i64 t.rtp, .int .i64 t.wr, .int .i64 t.wtrs, .int .i64 t.wtrl, .int .i64 t.rtw, .int .i64 t.rfc, .int .i64 t.cke, .int .i64 t.xp, .int .i64 t.xs] 32)).alloc (.cells #[.int .i64 ka, .int .i64 xa, .int .i64 ya, .int .i64 za] 56)).alloc (.cells #[.int .i64 kb, .int .i64 xb, .int .i64 yb, .int .i64 zb] 56) = u := ⟨_, rfl⟩
  have HB1 : Hid (Below w.heap.size w w1) := by subst hw1; exact ((((Below.refl _ _).alloc (by simp) _).alloc (by simp) _).alloc (by simp; omega) _).alloc (by simp; omega) _
  have g1 : w1.heap[w.heap.size]? = some (.cells #[.int .i64 g0, .int .i64 B, .int .i64 g2, .int .i64 g3] 30) := by subst hw1; exact box4_0 _ _ _ _ _
  have p1 : w1.heap[w.heap.size + 1]? = some (.cells #[.int .i64 t.rcd, .int .i64 t.rp, .int .i64 t.ras, .int .i64 t.rrds, .int .i64 t.rrdl, .int .i64 t.faw, .int .i64 t.ccds, .int .i64 t.ccdl, .int .i64 t.rtp, .int .i64 t.wr, .int .i64 t.wtrs, .int .i64 t.wtrl, .int .i64 t.rtw, .int .i64 t.rfc, .int .i64 t.cke, .int .i64 t.xp, .int .i64 t.xs] 32) := by subst hw1; exact box4_1 _ _ _ _ _
  have a1 : w1.heap[w.heap.size + 1 + 1]? = some (.cells #[.int .i64 ka, .int .i64 xa, .int .i64 ya, .int .i64 za] 56) := by subst hw1; exact box4_2 _ _ _ _ _
  have b1 : w1.heap[w.heap.size + 1 + 1 + 1]? = some (.cells #[.int .i64 kb, .int .i64 xb, .int .i64 yb, .int .i64 zb] 56) := by subst hw1; exact box4_3 _ _ _ _ _
  obtain ⟨_, cg, _, _⟩ := cells4 g1
  obtain ⟨ca, cx, _, _⟩ := cells4 a1
  obtain ⟨cb, cy, _, _⟩ := cells4 b1
  have zg := fun q : Later w1 => q.cell cg
  have za0 := fun q : Later w1 => q.cell ca
  have za1 := fun q : Later w1 => q.cell cx
  have zb0 := fun q : Later w1 => q.cell cb
  have zb1 := fun q : Later w1 => q.cell cy
  obtain ⟨e1, e2⟩ := div_facts hxa hB
  obtain ⟨e3, e4⟩ := div_facts hxb hB
  have e5 : ¬ (B = 0) := by omega
  clear hB hxa hxb
  by_cases h1 : ka ≤ 5
  case neg =>
    have d1 : decide (ka ≤ 5) = false := decide_eq_false h1
    have HN : nearP B ka xa kb xb = false := decide_eq_false (fun h => h1 h.1.1)
    have HS : sameP ka xa kb xb = false := decide_eq_false (fun h => h1 h.1.1)
    obtain ⟨N, hN⟩ : ∃ N, rankG t ka kb false = N := ⟨_, rfl⟩
    have HRN := Lib.hid hN
    have HE : Hid (v = max (max N 0) 1) := by show _ = _; rw [← hv]; unfold gapR; rw [HN, HS, hN]; rfl
    have rN := rankG_range t ka kb false
    rw [hN] at rN
    clear hv hN HN HS h1
    go_enter Try.func49, Try.ntmps49
    go_wp2_with fail
    refine wp_region_later (by kernel_rfl) (by kernel_rfl) ?_
    repeat (first | ((with_reducible refine ld_later ?_ ?_ p1 ?_); kernel_rfl; kernel_rfl; go_simp) | go_big_quiet_step ((go_at_call 65; exact Gives.later _ (specRankGap_is _ _ _ _ _ HRN.out _))))
    refine wpQuiet_nil ?_
    intro zz
    have p2 := zz.block p1
    obtain ⟨_, cx, _, _⟩ := cells4 (zz.block a1)
    obtain ⟨_, cy, _, _⟩ := cells4 (zz.block b1)
    obtain ⟨ca, _, _, _⟩ := cells4 (zz.block a1)
    obtain ⟨cb, _, _, _⟩ := cells4 (zz.block b1)
    have HB2 : Hid (Below w.heap.size w zz.to) := HB1.out.trans (zz.ok.mono HB1.out.size)
    by_cases hn : N < 1
    · go_wp2
      go_ret
      exact ⟨ret_i (by rw [HE.out]; omega), HB2.out⟩
    · go_wp2
      go_ret
      exact ⟨ret_i (by rw [HE.out]; omega), HB2.out⟩
  by_cases h2 : kb ≤ 5
  case neg =>
    have d1 : decide (ka ≤ 5) = true := decide_eq_true h1
    have d2 : decide (kb ≤ 5) = false := decide_eq_false h2
    have HN : nearP B ka xa kb xb = false := decide_eq_false (fun h => h2 h.1.2)
    have HS : sameP ka xa kb xb = false := decide_eq_false (fun h => h2 h.1.2)
    obtain ⟨N, hN⟩ : ∃ N, rankG t ka kb false = N := ⟨_, rfl⟩
    have HRN := Lib.hid hN
    have HE : Hid (v = max (max N 0) 1) := by show _ = _; rw [← hv]; unfold gapR; rw [HN, HS, hN]; rfl
    have rN := rankG_range t ka kb false
    rw [hN] at rN
    clear hv hN HN HS h1 h2
    go_enter Try.func49, Try.ntmps49
    go_wp2_with fail
    refine wp_region_later (by kernel_rfl) (by kernel_rfl) ?_
    repeat (first | ((with_reducible refine ld_later ?_ ?_ p1 ?_); kernel_rfl; kernel_rfl; go_simp) | go_big_quiet_step ((go_at_call 65; exact Gives.later _ (specRankGap_is _ _ _ _ _ HRN.out _))))
    refine wpQuiet_nil ?_
    intro zz
    have p2 := zz.block p1
    obtain ⟨_, cx, _, _⟩ := cells4 (zz.block a1)
    obtain ⟨_, cy, _, _⟩ := cells4 (zz.block b1)
    obtain ⟨ca, _, _, _⟩ := cells4 (zz.block a1)
    obtain ⟨cb, _, _, _⟩ := cells4 (zz.block b1)
    have HB2 : Hid (Below w.heap.size w zz.to) := HB1.out.trans (zz.ok.mono HB1.out.size)
    by_cases hn : N < 1
    · go_wp2
      go_ret
      exact ⟨ret_i (by rw [HE.out]; omega), HB2.out⟩
    · go_wp2
      go_ret
      exact ⟨ret_i (by rw [HE.out]; omega), HB2.out⟩
  by_cases hs : xa = xb
  case neg =>
    have d1 : decide (ka ≤ 5) = true := decide_eq_true h1
    have d2 : decide (kb ≤ 5) = true := decide_eq_true h2
    obtain ⟨q, hq⟩ : ∃ q, ((xa / B : Int) == xb / B) = q := ⟨_, rfl⟩
    have ds : ((xa : Int) == xb) = false := beq_eq_false_iff_ne.2 hs
    have HN : nearP B ka xa kb xb = q := by rw [← hq]; unfold nearP; rw [Bool.eq_iff_iff]; simp only [decide_eq_true_eq, beq_iff_eq]; exact ⟨fun h => h.2, fun h => ⟨⟨h1, h2⟩, h⟩⟩
    have HS : sameP ka xa kb xb = false := decide_eq_false (fun h => hs h.2)
    obtain ⟨N, hN⟩ : ∃ N, rankG t ka kb q = N := ⟨_, rfl⟩
    have HRN := Lib.hid hN
    have HE : Hid (v = max (max N 0) 1) := by show _ = _; rw [← hv]; unfold gapR; rw [HN, HS, hN]; rfl
    have rN := rankG_range t ka kb q
    rw [hN] at rN
    clear hv hN HN HS h1 h2 hs
    go_enter Try.func49, Try.ntmps49
    go_wp2_with fail
    refine wp_region_later (by kernel_rfl) (by kernel_rfl) ?_
    repeat (first | ((with_reducible refine ld_later ?_ ?_ p1 ?_); kernel_rfl; kernel_rfl; go_simp) | go_big_quiet_step ((go_at_call 65; exact Gives.later _ (specRankGap_is _ _ _ _ _ HRN.out _))))
    refine wpQuiet_nil ?_
    intro zz
    have p2 := zz.block p1
    obtain ⟨_, cx, _, _⟩ := cells4 (zz.block a1)
    obtain ⟨_, cy, _, _⟩ := cells4 (zz.block b1)
    obtain ⟨ca, _, _, _⟩ := cells4 (zz.block a1)
    obtain ⟨cb, _, _, _⟩ := cells4 (zz.block b1)
    have HB2 : Hid (Below w.heap.size w zz.to) := HB1.out.trans (zz.ok.mono HB1.out.size)
    by_cases hn : N < 1
    · go_wp2
      go_ret
      exact ⟨ret_i (by rw [HE.out]; omega), HB2.out⟩
    · go_wp2
      go_ret
      exact ⟨ret_i (by rw [HE.out]; omega), HB2.out⟩
  have d1 : decide (ka ≤ 5) = true := decide_eq_true h1
  have d2 : decide (kb ≤ 5) = true := decide_eq_true h2
  obtain ⟨q, hq⟩ : ∃ q, ((xa / B : Int) == xb / B) = q := ⟨_, rfl⟩
  have ds : ((xa : Int) == xb) = true := beq_iff_eq.2 hs
  have HN : nearP B ka xa kb xb = q := by rw [← hq]; unfold nearP; rw [Bool.eq_iff_iff]; simp only [decide_eq_true_eq, beq_iff_eq]; exact ⟨fun h => h.2, fun h => ⟨⟨h1, h2⟩, h⟩⟩
  have HS : sameP ka xa kb xb = true := decide_eq_true ⟨⟨h1, h2⟩, hs⟩
  obtain ⟨N, hN⟩ : ∃ N, rankG t ka kb q = N := ⟨_, rfl⟩
  have HRN := Lib.hid hN
  obtain ⟨M, hM⟩ : ∃ M, bankG t ka kb = M := ⟨_, rfl⟩
  have HRM := Lib.hid hM
  have HE : Hid (v = max (max N M) 1) := by show _ = _; rw [← hv]; unfold gapR; rw [HN, HS, hN, hM]; rfl
  have rN := rankG_range t ka kb q
  rw [hN] at rN
  clear hv hN HN HS hM h1 h2 hs
  go_enter Try.func49, Try.ntmps49
  go_wp2_with fail
  refine wp_region_later (by kernel_rfl) (by kernel_rfl) ?_
  repeat (first | ((with_reducible refine ld_later ?_ ?_ p1 ?_); kernel_rfl; kernel_rfl; go_simp) | go_big_quiet_step ((go_at_call 65; exact Gives.later _ (specRankGap_is _ _ _ _ _ HRN.out _))))
  refine wpQuiet_nil ?_
  intro zz
  have p2 := zz.block p1
  obtain ⟨_, cx, _, _⟩ := cells4 (zz.block a1)
  obtain ⟨_, cy, _, _⟩ := cells4 (zz.block b1)
  obtain ⟨ca, _, _, _⟩ := cells4 (zz.block a1)
  obtain ⟨cb, _, _, _⟩ := cells4 (zz.block b1)
  have HB2 : Hid (Below w.heap.size w zz.to) := HB1.out.trans (zz.ok.mono HB1.out.size)
  go_wp2_with (first | ((with_reducible refine ld_tm ?_ ?_ p2 ?_); kernel_rfl; kernel_rfl; go_simp))
  refine (specBankGap_is t _ _ _ HRM.out _).mono ?_
  rintro e w3 ⟨rfl, hb3⟩
  have HB3 : Hid (Below w.heap.size w w3) := HB2.out.trans (hb3.mono HB2.out.size)
  clear hb3
  have rM := bankG_range t ka kb
  rw [HRM.out] at rM
  by_cases hnm : N < M
  · by_cases hn : M < 1
    · go_wp2
      go_ret
      exact ⟨ret_i (by rw [HE.out]; omega), HB3.out⟩
    · go_wp2
      go_ret
      exact ⟨ret_i (by rw [HE.out]; omega), HB3.out⟩
  · by_cases hn : N < 1
    · go_wp2
      go_ret
      exact ⟨ret_i (by rw [HE.out]; omega), HB3.out⟩
    · go_wp2
      go_ret
      exact ⟨ret_i (by rw [HE.out]; omega), HB3.out⟩

end Go.Proofs.Ytihhcnckoeaihaa
