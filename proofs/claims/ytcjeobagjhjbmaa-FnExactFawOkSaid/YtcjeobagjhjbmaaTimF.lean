/-
  FawOk, of the model and of impl: a row of times.
-/
import Derived.Test.YtcjeobagjhjbmaaTimR
import Derived.Test.YtcjeobagjhjbmaaTimJ
import Derived.Test.YtcjeobagjhjbmaaGivesI
namespace Go.Proofs.Ytcjeobagjhjbmaa
open Go.RowKit

set_option linter.unusedVariables false

/-- What holds of the times before the k-th. -/
def FawTo (faw : Int) (l : List Int) (k : Nat) : Prop := ∀ i, i < k → (0 ≤ l.getD i 0 ∧ l.getD i 0 ≤ 1000000) ∧ (4 ≤ i → faw ≤ l.getD i 0 - l.getD (i - 4) 0)

theorem fawTo_step {faw : Int} {l : List Int} {k : Nat} (h : FawTo faw l k) (h1 : (0 ≤ l.getD k 0 ∧ l.getD k 0 ≤ 1000000) ∧ (4 ≤ k → faw ≤ l.getD k 0 - l.getD (k - 4) 0)) : FawTo faw l (k + 1) := fun i hi => by
  rcases Nat.lt_succ_iff_lt_or_eq.1 hi with h2 | h2
  · exact h i h2
  · subst h2; exact h1

theorem faw_bad {t : Tm} {l : List Int} {k : Nat} (hk : k < l.length) (h1 : ¬ ((0 ≤ l.getD k 0 ∧ l.getD k 0 ≤ 1000000) ∧ (4 ≤ k → t.faw ≤ l.getD k 0 - l.getD (k - 4) 0))) : fawOk t l = false := decide_eq_false fun h => h1 (h.2 k hk)

theorem faw_end {t : Tm} {l : List Int} (h : FawTo t.faw l l.length) : fawOk t l = decide (TimOk t) := by
  unfold fawOk
  by_cases ht : TimOk t
  · rw [decide_eq_true ht]; exact decide_eq_true ⟨ht, h⟩
  · rw [decide_eq_false ht]; exact decide_eq_false fun hh => ht hh.1


set_option maxHeartbeats 8000000 in
theorem specFaw_is (t : Tm) (l : List Int) (a : Option Addr) (n c : Nat) (hn : l.length = n) (hb : (n : Int) ≤ 9223372036854775807) (v : Bool) (hv : fawOk t l = v) (w : World) (hr : RowI w a l) :
    Calls Try.prog 32 #[.agg #[.int .i64 t.rcd, .int .i64 t.rp, .int .i64 t.ras, .int .i64 t.rrds, .int .i64 t.rrdl, .int .i64 t.faw, .int .i64 t.ccds, .int .i64 t.ccdl, .int .i64 t.rtp, .int .i64 t.wr, .int .i64 t.wtrs, .int .i64 t.wtrl, .int .i64 t.rtw, .int .i64 t.rfc, .int .i64 t.cke, .int .i64 t.xp, .int .i64 t.xs], .slice a n c] w (Gives (.bool v) w) := by
  have HV := Lib.hid hv
  have HN := Lib.hid hn
  obtain ⟨w1, hw1⟩ : ∃ u, w.alloc (.cells #[.int .i64 t.rcd, .int .i64 t.rp, .int .i64 t.ras, .int .i64 t.rrds, .int .i64 t.rrdl, .int .i64 t.faw, .int .i64 t.ccds, .int .i64 t.ccdl, .int .i64 t.rtp, .int .i64 t.wr, .int .i64 t.wtrs, .int .i64 t.wtrl, .int .i64 t.rtw, .int .i64 t.rfc, .int .i64 t.cke, .int .i64 t.xp, .int .i64 t.xs] 25) = u := ⟨_, rfl⟩
  have HB1 : Hid (Below w.heap.size w w1) := by subst hw1; exact (Below.refl _ _).alloc (Nat.le_refl _) _
  have p1 : w1.heap[w.heap.size]? = some (.cells #[.int .i64 t.rcd, .int .i64 t.rp, .int .i64 t.ras, .int .i64 t.rrds, .int .i64 t.rrdl, .int .i64 t.faw, .int .i64 t.ccds, .int .i64 t.ccdl, .int .i64 t.rtp, .int .i64 t.wr, .int .i64 t.wtrs, .int .i64 t.wtrl, .int .i64 t.rtw, .int .i64 t.rfc, .int .i64 t.cke, .int .i64 t.xp, .int .i64 t.xs] 25) := by subst hw1; exact heap_alloc_new _ _
  have HROW : Hid (RowI w1 a l) := hr.below HB1.out
  have HS1 := HB1.out.size
  clear hv hn hr
  go_enter Try.func32, Try.ntmps32
  go_wp2_with fail
  go_loopw [5] (fun i wr => ∃ k : Nat, k ≤ n ∧ i = .int .i64 (k : Int) ∧ FawTo t.faw l k ∧ Below w1.heap.size w1 wr) (fun i _ => n - (intOf i).toNat)
  case atStart => exact ⟨0, Nat.zero_le _, rfl, fun m hm => absurd hm (Nat.not_lt_zero _), Below.refl _ _⟩
  case round =>
    obtain ⟨k, hk, rfl, hok, hbr⟩ := hrel
    have HOK := Lib.hid hok
    have HBR := Lib.hid hbr
    have p2 := keep_block hbr p1 (lt_of_block p1)
    clear hok hbr
    by_cases hlt : k < n
    · have hkl : k < l.length := by rw [HN.out]; exact hlt
      obtain ⟨bb, off, rfl, hc⟩ := (HROW.out.below HBR.out).at hkl
      obtain ⟨x, hx⟩ : ∃ x, l.getD k 0 = x := ⟨_, rfl⟩
      rw [hx] at hc
      have zc := fun q : Later wr => q.cell hc
      by_cases hin : 0 ≤ x ∧ x ≤ 1000000
      · have KI := Lib.hid (decide_eq_true hin)
        by_cases h4 : 4 ≤ k
        · obtain ⟨m, hm4⟩ : ∃ m, k = m + 4 := ⟨k - 4, by omega⟩
          have hm44 : k - 4 = m := by omega
          have hm : m < n := by omega
          obtain ⟨bb2, off2, heq, hc2⟩ := (HROW.out.below HBR.out).at (k := m) (by rw [HN.out]; omega)
          cases heq
          have hy := (HOK.out m (by omega)).1
          obtain ⟨y, hyy⟩ : ∃ y, l.getD m 0 = y := ⟨_, rfl⟩
          rw [hyy] at hy hc2
          have zc2 := fun q : Later wr => q.cell hc2
          obtain ⟨_, _, _, _, _, c5, _⟩ := tm_cells p2
          have zt := fun q : Later wr => q.cell c5
          have g1 : decide ((4 : Int) ≤ (k : Int)) = true := decide_eq_true (by omega)
          have g2 : decide (4 ≤ k) = true := decide_eq_true (by omega)
          have e1 : IntKind.i64.wrap ((k : Int) - 4) = (m : Int) := by
            rw [show (k : Int) - 4 = (m : Int) by omega]; exact IntWalk.i64_in _ ⟨by omega, by omega⟩
          have e2 : IntKind.i64.wrap (x - y) = x - y := IntWalk.i64_in _ ⟨by omega, by omega⟩
          by_cases hf : x - y < t.faw
          · have d1 : decide (x - y < t.faw) = true := decide_eq_true hf
            have HE : Hid (v = false) := by
              show _ = _
              rw [← HV.out]
              refine faw_bad hkl fun h => ?_
              have := h.2 (by omega)
              rw [hx, hm44, hyy] at this
              omega
            clear hf hy hin hx hyy hm4 hm44 h4
            go_wp2_with fail
            refine wp_region_later (by kernel_rfl) (by kernel_rfl) ?_
            repeat (go_big_quiet_step ((go_at_call 38; exact Gives.later_same _ (specIn_is _ _ _ _ KI.out _))))
            refine wpQuiet_nil ?_
            rintro w3 ⟨zz, rfl⟩
            have HB3 : Hid (Below w1.heap.size w1 zz.to) := HBR.out.trans (zz.ok.mono HBR.out.size)
            go_wp2
            go_ret
            exact ⟨ret_b HE.out.symm, HB1.out.trans (HB3.out.mono HS1)⟩
          · have d1 : decide (x - y < t.faw) = false := decide_eq_false hf
            have HOK2 := Lib.hid (fawTo_step HOK.out ⟨by rw [hx]; exact hin, fun _ => by rw [hx, hm44, hyy]; omega⟩)
            clear hf hy hin hx hyy hm4 hm44 h4
            go_wp2_with fail
            refine wp_region_later (by kernel_rfl) (by kernel_rfl) ?_
            repeat (go_big_quiet_step ((go_at_call 38; exact Gives.later_same _ (specIn_is _ _ _ _ KI.out _))))
            refine wpQuiet_nil ?_
            rintro w3 ⟨zz, rfl⟩
            have HB3 : Hid (Below w1.heap.size w1 zz.to) := HBR.out.trans (zz.ok.mono HBR.out.size)
            go_wp2
            go_roundw
            case rel => exact ⟨k + 1, by omega, by go_num, HOK2.out, HB3.out⟩
            case measure => simp [intOf]; omega
        · have g1 : decide ((4 : Int) ≤ (k : Int)) = false := decide_eq_false (by omega)
          have g2 : decide (4 ≤ k) = false := decide_eq_false (by omega)
          have HOK2 := Lib.hid (fawTo_step HOK.out ⟨by rw [hx]; exact hin, fun hh => absurd hh h4⟩)
          clear hin hx
          go_wp2_with fail
          refine wp_region_later (by kernel_rfl) (by kernel_rfl) ?_
          repeat (go_big_quiet_step ((go_at_call 38; exact Gives.later_same _ (specIn_is _ _ _ _ KI.out _))))
          refine wpQuiet_nil ?_
          rintro w3 ⟨zz, rfl⟩
          have HB3 : Hid (Below w1.heap.size w1 zz.to) := HBR.out.trans (zz.ok.mono HBR.out.size)
          go_wp2
          go_roundw
          case rel => exact ⟨k + 1, by omega, by go_num, HOK2.out, HB3.out⟩
          case measure => simp [intOf]; omega
      · have KI := Lib.hid (decide_eq_false hin)
        have HE : Hid (v = false) := by
          show _ = _
          rw [← HV.out]
          exact faw_bad hkl fun h => hin (by have := h.1; rwa [hx] at this)
        clear hin hx
        go_wp2_with fail
        refine wp_region_later (by kernel_rfl) (by kernel_rfl) ?_
        repeat (go_big_quiet_step ((go_at_call 38; exact Gives.later_same _ (specIn_is _ _ _ _ KI.out _))))
        refine wpQuiet_nil ?_
        rintro w3 ⟨zz, rfl⟩
        have HB3 : Hid (Below w1.heap.size w1 zz.to) := HBR.out.trans (zz.ok.mono HBR.out.size)
        go_wp2
        go_ret
        exact ⟨ret_b HE.out.symm, HB1.out.trans (HB3.out.mono HS1)⟩
    · obtain rfl : k = n := by omega
      have HE : Hid (decide (TimOk t) = v) := by show _ = _; rw [← HV.out, faw_end (by rw [HN.out]; exact HOK.out)]
      go_wp2_with (first | ((with_reducible refine ld_tm ?_ ?_ p2 ?_); kernel_rfl; kernel_rfl; go_simp))
      refine (specTimOk_is t _ HE.out _).mono ?_
      rintro e w3 ⟨rfl, hb3⟩
      have HB3 : Hid (Below w1.heap.size w1 w3) := HBR.out.trans (hb3.mono HBR.out.size)
      go_wp2
      go_ret
      exact ⟨rfl, HB1.out.trans (HB3.out.mono HS1)⟩



set_option maxHeartbeats 8000000 in
theorem implFaw_is (t : Tm) (l : List Int) (a : Option Addr) (n c : Nat) (hn : l.length = n) (hb : (n : Int) ≤ 9223372036854775807) (v : Bool) (hv : fawOk t l = v) (w : World) (hr : RowI w a l) :
    Calls Try.prog 24 #[.agg #[.int .i64 t.rcd, .int .i64 t.rp, .int .i64 t.ras, .int .i64 t.rrds, .int .i64 t.rrdl, .int .i64 t.faw, .int .i64 t.ccds, .int .i64 t.ccdl, .int .i64 t.rtp, .int .i64 t.wr, .int .i64 t.wtrs, .int .i64 t.wtrl, .int .i64 t.rtw, .int .i64 t.rfc, .int .i64 t.cke, .int .i64 t.xp, .int .i64 t.xs], .slice a n c] w (Gives (.bool v) w) := by
  have HV := Lib.hid hv
  have HN := Lib.hid hn
  obtain ⟨w1, hw1⟩ : ∃ u, w.alloc (.cells #[.int .i64 t.rcd, .int .i64 t.rp, .int .i64 t.ras, .int .i64 t.rrds, .int .i64 t.rrdl, .int .i64 t.faw, .int .i64 t.ccds, .int .i64 t.ccdl, .int .i64 t.rtp, .int .i64 t.wr, .int .i64 t.wtrs, .int .i64 t.wtrl, .int .i64 t.rtw, .int .i64 t.rfc, .int .i64 t.cke, .int .i64 t.xp, .int .i64 t.xs] 25) = u := ⟨_, rfl⟩
  have HB1 : Hid (Below w.heap.size w w1) := by subst hw1; exact (Below.refl _ _).alloc (Nat.le_refl _) _
  have p1 : w1.heap[w.heap.size]? = some (.cells #[.int .i64 t.rcd, .int .i64 t.rp, .int .i64 t.ras, .int .i64 t.rrds, .int .i64 t.rrdl, .int .i64 t.faw, .int .i64 t.ccds, .int .i64 t.ccdl, .int .i64 t.rtp, .int .i64 t.wr, .int .i64 t.wtrs, .int .i64 t.wtrl, .int .i64 t.rtw, .int .i64 t.rfc, .int .i64 t.cke, .int .i64 t.xp, .int .i64 t.xs] 25) := by subst hw1; exact heap_alloc_new _ _
  have HROW1 : Hid (RowI w1 a l) := hr.below HB1.out
  clear hv hn hr
  by_cases ht : TimOk t
  case neg =>
    have K := Lib.hid (decide_eq_false ht)
    have HE : Hid (v = false) := by show _ = _; rw [← HV.out]; exact decide_eq_false fun hh => ht hh.1
    clear ht
    go_enter Try.func24, Try.ntmps24
    go_wp2_with (first | ((with_reducible refine ld_tm ?_ ?_ p1 ?_); kernel_rfl; kernel_rfl; go_simp))
    refine (implTimOk_is t _ K.out _).mono ?_
    rintro e w2 ⟨rfl, hb2⟩
    have HB2 : Hid (Below w.heap.size w w2) := HB1.out.trans (hb2.mono HB1.out.size)
    clear hb2
    go_wp2
    go_ret
    exact ⟨ret_b HE.out.symm, HB2.out⟩
  have K := Lib.hid (decide_eq_true ht)
  have HW := Lib.hid ht.nums.2.2.2.2.2.1
  have HT := Lib.hid ht
  clear ht
  go_enter Try.func24, Try.ntmps24
  go_wp2_with (first | ((with_reducible refine ld_tm ?_ ?_ p1 ?_); kernel_rfl; kernel_rfl; go_simp))
  refine (implTimOk_is t _ K.out _).mono ?_
  rintro e w2 ⟨rfl, hb2⟩
  have p2 := keep_block hb2 p1 (lt_of_block p1)
  have HB2 : Hid (Below w.heap.size w w2) := HB1.out.trans (hb2.mono HB1.out.size)
  have HROW : Hid (RowI w2 a l) := HROW1.out.below hb2
  clear hb2 p1 HB1 hw1 HROW1
  go_wp2_with fail
  go_loopw [12] (fun i wr => ∃ k : Nat, k ≤ n ∧ i = .int .i64 (k : Int) ∧ FawTo t.faw l k ∧ Below w2.heap.size w2 wr) (fun i _ => n - (intOf i).toNat)
  case atStart => exact ⟨0, Nat.zero_le _, rfl, fun m hm => absurd hm (Nat.not_lt_zero _), Below.refl _ _⟩
  case round =>
    obtain ⟨k, hk, rfl, hok, hbr⟩ := hrel
    have HOK := Lib.hid hok
    have HBR := Lib.hid hbr
    have p3 := keep_block hbr p2 (lt_of_block p2)
    clear hok hbr
    by_cases hlt : k < n
    · have hkl : k < l.length := by rw [HN.out]; exact hlt
      obtain ⟨bb, off, rfl, hc⟩ := (HROW.out.below HBR.out).at hkl
      obtain ⟨x, hx⟩ : ∃ x, l.getD k 0 = x := ⟨_, rfl⟩
      rw [hx] at hc
      by_cases hx0 : x < 0
      · have s0 : decide (x < 0) = true := decide_eq_true hx0
        have HE : Hid (v = false) := by
          show _ = _
          rw [← HV.out]
          exact faw_bad hkl fun h => by have := h.1; rw [hx] at this; omega
        clear hx hx0
        go_wp2
        go_ret
        exact ⟨ret_b HE.out.symm, HB2.out.trans (HBR.out.mono HB2.out.size)⟩
      have s0 : decide (x < 0) = false := decide_eq_false hx0
      by_cases hx1 : 1000000 < x
      · have s1 : decide (1000000 < x) = true := decide_eq_true hx1
        have HE : Hid (v = false) := by
          show _ = _
          rw [← HV.out]
          exact faw_bad hkl fun h => by have := h.1; rw [hx] at this; omega
        clear hx hx0 hx1
        go_wp2
        go_ret
        exact ⟨ret_b HE.out.symm, HB2.out.trans (HBR.out.mono HB2.out.size)⟩
      have s1 : decide (1000000 < x) = false := decide_eq_false hx1
      have hin : 0 ≤ x ∧ x ≤ 1000000 := by omega
      by_cases h4 : 4 ≤ k
      · obtain ⟨m, hm4⟩ : ∃ m, k = m + 4 := ⟨k - 4, by omega⟩
        have hm44 : k - 4 = m := by omega
        have hm : m < n := by omega
        obtain ⟨bb2, off2, heq, hc2⟩ := (HROW.out.below HBR.out).at (k := m) (by rw [HN.out]; omega)
        cases heq
        have hy := (HOK.out m (by omega)).1
        obtain ⟨y, hyy⟩ : ∃ y, l.getD m 0 = y := ⟨_, rfl⟩
        rw [hyy] at hy hc2
        have zc2 := fun q : Later wr => q.cell hc2
        obtain ⟨_, _, _, _, _, c5, _⟩ := tm_cells p3
        have zt := fun q : Later wr => q.cell c5
        have g1 : decide ((4 : Int) ≤ (k : Int)) = true := decide_eq_true (by omega)
        have g2 : decide (4 ≤ k) = true := decide_eq_true (by omega)
        have e1 : IntKind.i64.wrap ((k : Int) - 4) = (m : Int) := by
          rw [show (k : Int) - 4 = (m : Int) by omega]; exact IntWalk.i64_in _ ⟨by omega, by omega⟩
        have e2 : IntKind.i64.wrap (y + t.faw) = y + t.faw := IntWalk.i64_in _ (by have := HW.out; unfold In64 at this; exact ⟨by omega, by omega⟩)
        by_cases hf : x < y + t.faw
        · have d1 : decide (x < y + t.faw) = true := decide_eq_true hf
          have HE : Hid (v = false) := by
            show _ = _
            rw [← HV.out]
            refine faw_bad hkl fun h => ?_
            have := h.2 (by omega)
            rw [hx, hm44, hyy] at this
            omega
          clear hf hy hin hx hyy hm4 hm44 h4 hx0 hx1
          go_wp2_with fail
          refine wp_region_later (by kernel_rfl) (by kernel_rfl) ?_
          repeat (go_big_quiet_step (fail))
          refine wpQuiet_nil ?_
          rintro w3 ⟨zz, rfl⟩
          have HB3 : Hid (Below w2.heap.size w2 zz.to) := HBR.out.trans (zz.ok.mono HBR.out.size)
          go_wp2
          go_ret
          exact ⟨ret_b HE.out.symm, HB2.out.trans (HB3.out.mono HB2.out.size)⟩
        · have d1 : decide (x < y + t.faw) = false := decide_eq_false hf
          have HOK2 := Lib.hid (fawTo_step HOK.out ⟨by rw [hx]; exact hin, fun _ => by rw [hx, hm44, hyy]; omega⟩)
          clear hf hy hin hx hyy hm4 hm44 h4 hx0 hx1
          go_wp2_with fail
          refine wp_region_later (by kernel_rfl) (by kernel_rfl) ?_
          repeat (go_big_quiet_step (fail))
          refine wpQuiet_nil ?_
          rintro w3 ⟨zz, rfl⟩
          have HB3 : Hid (Below w2.heap.size w2 zz.to) := HBR.out.trans (zz.ok.mono HBR.out.size)
          go_wp2
          go_roundw
          case rel => exact ⟨k + 1, by omega, by go_num, HOK2.out, HB3.out⟩
          case measure => simp [intOf]; omega
      · have g1 : decide ((4 : Int) ≤ (k : Int)) = false := decide_eq_false (by omega)
        have g2 : decide (4 ≤ k) = false := decide_eq_false (by omega)
        have HOK2 := Lib.hid (fawTo_step HOK.out ⟨by rw [hx]; exact hin, fun hh => absurd hh h4⟩)
        clear hin hx hx0 hx1
        go_wp2_with fail
        refine wp_region_later (by kernel_rfl) (by kernel_rfl) ?_
        repeat (go_big_quiet_step (fail))
        refine wpQuiet_nil ?_
        rintro w3 ⟨zz, rfl⟩
        have HB3 : Hid (Below w2.heap.size w2 zz.to) := HBR.out.trans (zz.ok.mono HBR.out.size)
        go_wp2
        go_roundw
        case rel => exact ⟨k + 1, by omega, by go_num, HOK2.out, HB3.out⟩
        case measure => simp [intOf]; omega
    · obtain rfl : k = n := by omega
      have HE : Hid (v = true) := by show _ = _; rw [← HV.out, faw_end (by rw [HN.out]; exact HOK.out)]; exact decide_eq_true HT.out
      go_wp2
      go_ret
      exact ⟨ret_b HE.out.symm, HB2.out.trans (HBR.out.mono HB2.out.size)⟩



end Go.Proofs.Ytcjeobagjhjbmaa
