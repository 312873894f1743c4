/-
  An allowed command leads to a valid state.
-/
import Derived.Test.YtigoniochamjgaaBnkI
import Derived.Test.YtigoniochamjgaaBnkN
import Derived.Test.YtigoniochamjgaaBnkT
namespace Go.Proofs.Ytigoniochamjgaa
open Go.RowKit

set_option linter.unusedVariables false

theorem one_bank (w : World) : RowB (w.alloc (.cells #[.bool false, .int .i64 0] 39)) (some ⟨w.heap.size, 0, none⟩) [bk0] := by
  refine .inr ⟨_, 0, rfl, fun i hi => ?_⟩
  obtain rfl : i = 0 := by simpa using hi
  have h := heap_alloc_new w (.cells #[.bool false, .int .i64 0] 39)
  obtain ⟨h0, h1⟩ := cells2 h
  exact ⟨h0, h1⟩


set_option maxHeartbeats 16000000 in
set_option maxRecDepth 100000 in
theorem fnStates_of (AF : Hid IRankAfter) (AL : Hid IAllowed) (RO : Hid IRankOk) (RW : Hid IRowOf) (a0 : Option Addr) (len cap : Nat) (zs : List Int) (w : World) (hr : IsRow .u8 w a0 len cap zs) :
    Calls Try.prog 3 #[.slice a0 len cap] w fun e w' => e = .returned (.bool true) ∧ Below w.heap.size w w' := by
  have hl := hr.len_le
  unfold maxLen at hl
  by_cases hbig : (1048576 : Int) < (len : Int)
  · go_enter Try.func3, Try.ntmps3
    go_wp2_with (go_at_call 11; refine (big_any _ _ _ _ (by omega)).mono ?_; rintro e w' ⟨rfl, rfl⟩)
    go_ret
    exact ⟨rfl, Below.refl _ _⟩
  go_enter Try.func3, Try.ntmps3
  go_wp2_with (go_at_call 11; refine (big_any _ _ _ _ (by omega)).mono ?_; rintro e w' ⟨rfl, rfl⟩)
  refine (drawRankAfter_any hr).mono ?_
  rintro e w1 ⟨a, b, r, d, ad, n, cp, l, pw, k, x, y, z, rfl, hlen, hn8, hrow, hblk, hnc, hb1⟩
  have HNC := Lib.hid hnc
  have HL := Lib.hid hlen
  obtain ⟨v, hv⟩ : ∃ v, allowR a b r d l pw k x y z = v := ⟨_, rfl⟩
  obtain ⟨l', hl'⟩ : ∃ u, afterL a b r d l pw k x y z = u := ⟨_, rfl⟩
  obtain ⟨pw', hp'⟩ : ∃ u, afterP a b r d l pw k x y z = u := ⟨_, rfl⟩
  have HV := Lib.hid hv
  have HLP := Lib.hid hl'
  have HPP := Lib.hid hp'
  clear hr hblk hnc hlen hl' hp' hv
  have hb2 : Below w1.heap.size w1 (((w1.alloc (.cells #[.int .i64 a, .int .i64 b, .int .i64 r, .int .i64 d] 25)).alloc (.cells #[.slice ad n cp, .int .i64 pw] 28)).alloc (.cells #[.int .i64 k, .int .i64 x, .int .i64 y, .int .i64 z] 30)) := (((Below.refl _ _).alloc (Nat.le_refl _) _).alloc (by simp) _).alloc (by simp; omega) _
  have g2 : (((w1.alloc (.cells #[.int .i64 a, .int .i64 b, .int .i64 r, .int .i64 d] 25)).alloc (.cells #[.slice ad n cp, .int .i64 pw] 28)).alloc (.cells #[.int .i64 k, .int .i64 x, .int .i64 y, .int .i64 z] 30)).heap[w1.heap.size]? = some (.cells #[.int .i64 a, .int .i64 b, .int .i64 r, .int .i64 d] 25) := box3_0 _ _ _ _
  have p2 : (((w1.alloc (.cells #[.int .i64 a, .int .i64 b, .int .i64 r, .int .i64 d] 25)).alloc (.cells #[.slice ad n cp, .int .i64 pw] 28)).alloc (.cells #[.int .i64 k, .int .i64 x, .int .i64 y, .int .i64 z] 30)).heap[w1.heap.size + 1]? = some (.cells #[.slice ad n cp, .int .i64 pw] 28) := box3_1 _ _ _ _
  have q2 : (((w1.alloc (.cells #[.int .i64 a, .int .i64 b, .int .i64 r, .int .i64 d] 25)).alloc (.cells #[.slice ad n cp, .int .i64 pw] 28)).alloc (.cells #[.int .i64 k, .int .i64 x, .int .i64 y, .int .i64 z] 30)).heap[w1.heap.size + 1 + 1]? = some (.cells #[.int .i64 k, .int .i64 x, .int .i64 y, .int .i64 z] 30) := box3_2 _ _ _ _
  have HB2 : Hid (Below w.heap.size w (((w1.alloc (.cells #[.int .i64 a, .int .i64 b, .int .i64 r, .int .i64 d] 25)).alloc (.cells #[.slice ad n cp, .int .i64 pw] 28)).alloc (.cells #[.int .i64 k, .int .i64 x, .int .i64 y, .int .i64 z] 30))) := hb1.trans (hb2.mono hb1.size)
  have R2 : Hid (RowB (((w1.alloc (.cells #[.int .i64 a, .int .i64 b, .int .i64 r, .int .i64 d] 25)).alloc (.cells #[.slice ad n cp, .int .i64 pw] 28)).alloc (.cells #[.int .i64 k, .int .i64 x, .int .i64 y, .int .i64 z] 30)) ad l) := hrow.below hb2
  obtain ⟨v0, v1, v2, v3⟩ := cells4 g2
  obtain ⟨u0, u1⟩ := cells2 p2
  obtain ⟨t0, t1, t2, t3⟩ := cells4 q2
  go_wp2_with fail
  clear hb1 hb2 hrow v0 v1 v2 v3 u0 u1 t0 t1 t2 t3
  obtain ⟨G, hG⟩ : ∃ u, w1.heap.size = u := ⟨_, rfl⟩
  generalize (((w1.alloc (.cells #[.int .i64 a, .int .i64 b, .int .i64 r, .int .i64 d] 25)).alloc (.cells #[.slice ad n cp, .int .i64 pw] 28)).alloc (.cells #[.int .i64 k, .int .i64 x, .int .i64 y, .int .i64 z] 30)) = w2 at g2 p2 q2 HB2 R2 ⊢
  rw [hG] at g2 p2 q2
  (try simp only [hG])
  clear hG
  refine (AF.out _ _ _ _ _ _ _ _ _ _ _ _ _ _ _ _ HV.out HLP.out HPP.out HL.out (by omega) HNC.out _ R2.out).mono ?_
  rintro e w3 ⟨aa, cc, rfl, own3, hb3⟩
  have g3 := keep_block hb3 g2 (lt_of_block g2)
  have p3 := keep_block hb3 p2 (lt_of_block p2)
  have q3 := keep_block hb3 q2 (lt_of_block q2)
  have R3 : Hid (RowB w3 ad l) := R2.out.below hb3
  have HB3 : Hid (Below w.heap.size w w3) := HB2.out.trans (hb3.mono HB2.out.size)
  clear g2 p2 q2 R2 HB2
  have N3 : Hid (aa = none → cc = 0) := own3.none
  have X3 : Hid (RowB w3 aa l') := own3.row
  clear own3
  clear hb3
  have hb4 : Below w3.heap.size w3 (w3.alloc (.cells #[.slice aa n cc, .int .i64 pw'] 28)) := (Below.refl _ _).alloc (Nat.le_refl _) _
  have g4 := keep_block hb4 g3 (lt_of_block g3)
  have p4 := keep_block hb4 p3 (lt_of_block p3)
  have q4 := keep_block hb4 q3 (lt_of_block q3)
  have R4 : Hid (RowB (w3.alloc (.cells #[.slice aa n cc, .int .i64 pw'] 28)) ad l) := R3.out.below hb4
  have X4 : Hid (RowB (w3.alloc (.cells #[.slice aa n cc, .int .i64 pw'] 28)) aa l') := X3.out.below hb4
  have t4 := heap_alloc_new w3 (.cells #[.slice aa n cc, .int .i64 pw'] 28)
  have HB4 : Hid (Below w.heap.size w (w3.alloc (.cells #[.slice aa n cc, .int .i64 pw'] 28))) := HB3.out.trans (hb4.mono HB3.out.size)
  obtain ⟨vg0, vg1, vg2, vg3⟩ := cells4 g4
  obtain ⟨vp0, vp1⟩ := cells2 p4
  obtain ⟨vq0, vq1, vq2, vq3⟩ := cells4 q4
  obtain ⟨vt0, vt1⟩ := cells2 t4
  go_wp2_with fail
  clear vg0 vg1 vg2 vg3 vp0 vp1 vq0 vq1 vq2 vq3 vt0 vt1 hb4
  clear g3 p3 q3 R3 X3 HB3
  generalize (w3.alloc (.cells #[.slice aa n cc, .int .i64 pw'] 28)) = w4 at g4 p4 q4 R4 X4 t4 HB4 ⊢
  obtain ⟨tP, htP⟩ : ∃ p, w3.heap.size = p := ⟨_, rfl⟩
  rw [htP] at t4
  (try simp only [htP])
  clear htP
  refine (AL.out _ _ _ _ _ _ _ _ _ _ _ _ _ _ HV.out HL.out (by omega) HNC.out _ R4.out).mono ?_
  rintro e w5 ⟨rfl, hb5⟩
  have g5 := keep_block hb5 g4 (lt_of_block g4)
  have p5 := keep_block hb5 p4 (lt_of_block p4)
  have q5 := keep_block hb5 q4 (lt_of_block q4)
  have t5 := keep_block hb5 t4 (lt_of_block t4)
  have R5 : Hid (RowB w5 ad l) := R4.out.below hb5
  have X5 : Hid (RowB w5 aa l') := X4.out.below hb5
  have HB5 : Hid (Below w.heap.size w w5) := HB4.out.trans (hb5.mono HB4.out.size)
  clear g4 p4 q4 t4 R4 X4 HB4
  clear hb5
  have tvv : (v != v) = false := by simp
  cases v
  · have hne : ¬ allowR a b r d l pw k x y z = true := by rw [HV.out]; simp
    have E1 : l = l' := by rw [← HLP.out]; exact (if_neg hne).symm
    have E2 : pw = pw' := by rw [← HPP.out]; exact (if_neg hne).symm
    subst E1
    subst E2
    clear hne
    obtain ⟨vg0, vg1, vg2, vg3⟩ := cells4 g5
    obtain ⟨vp0, vp1⟩ := cells2 p5
    obtain ⟨vq0, vq1, vq2, vq3⟩ := cells4 q5
    obtain ⟨vt0, vt1⟩ := cells2 t5
    go_wp2_with fail
    clear vg0 vg1 vg2 vg3 vp0 vp1 vq0 vq1 vq2 vq3 vt0 vt1
    refine (sameRank_is pw HL.out X5.out R5.out (by omega)).mono ?_
    rintro e w6 ⟨rfl, hb6⟩
    have g6 := keep_block hb6 g5 (lt_of_block g5)
    have p6 := keep_block hb6 p5 (lt_of_block p5)
    have q6 := keep_block hb6 q5 (lt_of_block q5)
    have t6 := keep_block hb6 t5 (lt_of_block t5)
    have R6 : Hid (RowB w6 ad l) := R5.out.below hb6
    have X6 : Hid (RowB w6 aa l) := X5.out.below hb6
    have HB6 : Hid (Below w.heap.size w w6) := HB5.out.trans (hb6.mono HB5.out.size)
    clear g5 p5 q5 t5 R5 X5 HB5
    clear hb6
    have one := Lib.hid (one_bank w6)
    have HB7 : Hid (Below w.heap.size w (w6.alloc (.cells #[.bool false, .int .i64 0] 39))) := HB6.out.alloc HB6.out.size _
    go_wp2_with fail
    refine (RO.out _ _ _ _ _ 1 1 [bk0] _ true small_ok rfl (by decide) (fun h => by cases h) _ one.out).mono ?_
    rintro e w8 ⟨rfl, hb8⟩
    have HB8 : Hid (Below w.heap.size w w8) := HB7.out.trans (hb8.mono HB7.out.size)
    clear hb8
    go_wp2
    go_ret
    exact ⟨rfl, HB8.out⟩
  · have PA := allow_parts HV.out
    have HXX := bank_in (k := k) HL.out PA.1 PA.2.2.1
    have E1 : l' = doL l k x y := by rw [← HLP.out]; exact if_pos HV.out
    have E2 : pw' = doP pw k := by rw [← HPP.out]; exact if_pos HV.out
    have HR1 := Lib.hid (decide_eq_true PA.1)
    have HR2 : Hid (decide (RkOk a b r d l' pw') = true) := by rw [E1, E2]; exact decide_eq_true (do_ok HV.out)
    have HLL : Hid (l'.length = n) := by show _ = _; rw [E1, doL_length]; exact HL.out
    obtain ⟨rv, hrv⟩ : ∃ u, rowN l' x = u := ⟨_, rfl⟩
    have HRV := Lib.hid hrv
    have T1 : k = 1 → (rv == y) = true := by
      rintro rfl
      rw [← hrv, E1, rowN_act HXX.1 (by rw [HL.out]; exact HXX.2)]
      simp
    have T4 : k = 4 → (rv == -1) = true := by
      rintro rfl
      rw [← hrv, E1, rowN_pre HXX.1 (by rw [HL.out]; exact HXX.2)]
      simp
    clear E1 E2 PA HXX hrv HLP HPP
    have HRz := Lib.hid (fun zz : Later w5 => R5.out.below zz.ok)
    have HXz := Lib.hid (fun zz : Later w5 => X5.out.below zz.ok)
    obtain ⟨vg0, vg1, vg2, vg3⟩ := cells4 g5
    obtain ⟨vp0, vp1⟩ := cells2 p5
    obtain ⟨vq0, vq1, vq2, vq3⟩ := cells4 q5
    obtain ⟨vt0, vt1⟩ := cells2 t5
    have zvg0 := fun qq : Later w5 => qq.cell vg0
    have zvg1 := fun qq : Later w5 => qq.cell vg1
    have zvg2 := fun qq : Later w5 => qq.cell vg2
    have zvg3 := fun qq : Later w5 => qq.cell vg3
    have zvp0 := fun qq : Later w5 => qq.cell vp0
    have zvp1 := fun qq : Later w5 => qq.cell vp1
    have zvq0 := fun qq : Later w5 => qq.cell vq0
    have zvq1 := fun qq : Later w5 => qq.cell vq1
    have zvq2 := fun qq : Later w5 => qq.cell vq2
    have zvq3 := fun qq : Later w5 => qq.cell vq3
    have zvt0 := fun qq : Later w5 => qq.cell vt0
    have zvt1 := fun qq : Later w5 => qq.cell vt1
    clear vg0 vg1 vg2 vg3 vp0 vp1 vq0 vq1 vq2 vq3 vt0 vt1
    by_cases k1 : k = 1
    case pos =>
      have c1 := T1 k1
      have b1 : (k != 1) = false := by simp [k1]
      have b4 : (k != 4) = true := by simp [k1]
      clear T1 T4 k1
      go_wp2_with fail
      refine wp_region_later (by kernel_rfl) (by kernel_rfl) ?_
      repeat (go_big_quiet_step (first | (go_at_call_of 16 ad; exact Gives.later _ (RO.out _ _ _ _ _ _ _ _ _ _ HR1.out HL.out (by omega) HNC.out _ (HRz.out _))) | (go_at_call_of 16 aa; exact Gives.later _ (RO.out _ _ _ _ _ _ _ _ _ _ HR2.out HLL.out (by omega) N3.out _ (HXz.out _))) | (go_at_call 17; exact Gives.later _ (RW.out _ _ _ _ _ _ _ HRV.out HLL.out (by omega) N3.out _ (HXz.out _)))))
      refine wpQuiet_nil ?_
      rintro w6 ⟨zz, hz⟩
      have HB6 : Hid (Below w.heap.size w w6) := HB5.out.trans ((hz ▸ zz.ok : Below w5.heap.size w5 w6).mono HB5.out.size)
      clear hz zz
      go_wp2
      go_ret
      exact ⟨rfl, HB6.out⟩
    by_cases k4 : k = 4
    case pos =>
      have c4 := T4 k4
      have b1 : (k != 1) = true := by simp [k4]
      have b4 : (k != 4) = false := by simp [k4]
      clear T1 T4 k1 k4
      go_wp2_with fail
      refine wp_region_later (by kernel_rfl) (by kernel_rfl) ?_
      repeat (go_big_quiet_step (first | (go_at_call_of 16 ad; exact Gives.later _ (RO.out _ _ _ _ _ _ _ _ _ _ HR1.out HL.out (by omega) HNC.out _ (HRz.out _))) | (go_at_call_of 16 aa; exact Gives.later _ (RO.out _ _ _ _ _ _ _ _ _ _ HR2.out HLL.out (by omega) N3.out _ (HXz.out _))) | (go_at_call 17; exact Gives.later _ (RW.out _ _ _ _ _ _ _ HRV.out HLL.out (by omega) N3.out _ (HXz.out _)))))
      refine wpQuiet_nil ?_
      rintro w6 ⟨zz, hz⟩
      have HB6 : Hid (Below w.heap.size w w6) := HB5.out.trans ((hz ▸ zz.ok : Below w5.heap.size w5 w6).mono HB5.out.size)
      clear hz zz
      go_wp2
      go_ret
      exact ⟨rfl, HB6.out⟩
    case neg =>
      have b1 : (k != 1) = true := by simp [k1]
      have b4 : (k != 4) = true := by simp [k4]
      clear T1 T4 k1 k4
      go_wp2_with fail
      refine wp_region_later (by kernel_rfl) (by kernel_rfl) ?_
      repeat (go_big_quiet_step (first | (go_at_call_of 16 ad; exact Gives.later _ (RO.out _ _ _ _ _ _ _ _ _ _ HR1.out HL.out (by omega) HNC.out _ (HRz.out _))) | (go_at_call_of 16 aa; exact Gives.later _ (RO.out _ _ _ _ _ _ _ _ _ _ HR2.out HLL.out (by omega) N3.out _ (HXz.out _))) | (go_at_call 17; exact Gives.later _ (RW.out _ _ _ _ _ _ _ HRV.out HLL.out (by omega) N3.out _ (HXz.out _)))))
      refine wpQuiet_nil ?_
      rintro w6 ⟨zz, hz⟩
      have HB6 : Hid (Below w.heap.size w w6) := HB5.out.trans ((hz ▸ zz.ok : Below w5.heap.size w5 w6).mono HB5.out.size)
      clear hz zz
      go_wp2
      go_ret
      exact ⟨rfl, HB6.out⟩


end Go.Proofs.Ytigoniochamjgaa
