/-
  The model's commands: valid in a geometry, and read from a frame; the laws' own words on commands.
-/
import Derived.Test.YtfhgbgcdkiiflaaCmdW
namespace Go.Proofs.Ytfhgbgcdkiiflaa
open Go.RowKit

set_option linter.unusedVariables false

theorem toCommand_any (a b c d : Int) (w : World) :
    Calls Try.prog 15 #[.agg #[.int .i64 a, .int .i64 b, .int .i64 c, .int .i64 d]] w (Gives (.agg #[.int .i64 a, .int .i64 b, .int .i64 c, .int .i64 d]) w) := by
  go_enter Try.func15, Try.ntmps15
  go_wp2
  (try simp only [Exit.inBlock, Exit.then])
  refine bodyPost_ret (v := .agg #[.int .i64 a, .int .i64 b, .int .i64 c, .int .i64 d]) (by simp [results, Try.results15, go_sem]) rfl ⟨rfl, ?_⟩
  repeat' (first | exact Below.refl _ _ | refine Below.drew ?_ | refine Below.alloc ?_ (by simp <;> omega) _ | refine Below.setCell ?_ (by simp <;> omega) _)


theorem eqCommand_same (a b c d : Int) (w : World) :
    Calls Try.prog 21 #[.agg #[.int .i64 a, .int .i64 b, .int .i64 c, .int .i64 d], .agg #[.int .i64 a, .int .i64 b, .int .i64 c, .int .i64 d]] w (Gives (.bool true) w) := by
  go_enter Try.func21, Try.ntmps21
  go_wp2
  go_ret
  refine ⟨rfl, ?_⟩
  repeat' (first | exact Below.refl _ _ | refine Below.drew ?_ | refine Below.alloc ?_ (by simp <;> omega) _ | refine Below.setCell ?_ (by simp <;> omega) _)



theorem specCommandOk_is (a b r d k x y z : Int) (v : Bool) (hv : decide (CmOk k x y z ∧ AdOk a b r d x y z) = v) (w : World) :
    Calls Try.prog 13 #[.agg #[.int .i64 a, .int .i64 b, .int .i64 r, .int .i64 d], .agg #[.int .i64 k, .int .i64 x, .int .i64 y, .int .i64 z]] w (Gives (.bool v) w) := by
  obtain ⟨w1, hw1⟩ : ∃ u, (w.alloc (.cells #[.int .i64 a, .int .i64 b, .int .i64 r, .int .i64 d] 25)).alloc (.cells #[.int .i64 k, .int .i64 x, .int .i64 y, .int .i64 z] 27) = u := ⟨_, rfl⟩
  have HB1 : Hid (Below w.heap.size w w1) := by subst hw1; exact ((Below.refl _ _).alloc (Nat.le_refl _) _).alloc (by simp) _
  have g1 : w1.heap[w.heap.size]? = some (.cells #[.int .i64 a, .int .i64 b, .int .i64 r, .int .i64 d] 25) := by subst hw1; exact heap_alloc2_old _ _ _
  have p1 : w1.heap[w.heap.size + 1]? = some (.cells #[.int .i64 k, .int .i64 x, .int .i64 y, .int .i64 z] 27) := by subst hw1; exact heap_alloc2_new _ _ _
  obtain ⟨c0, c1, c2, c3⟩ := cells4 p1
  by_cases h : CmOk k x y z
  · have K := Lib.hid (decide_eq_true h)
    obtain ⟨u, hu⟩ : ∃ u, decide (AdOk a b r d x y z) = u := ⟨_, rfl⟩
    have KA := Lib.hid hu
    have HE : Hid (v = u) := by
      show _ = _
      rw [← hv, ← hu, Bool.eq_iff_iff]
      simp only [decide_eq_true_eq]
      exact ⟨fun hh => hh.2, fun hh => ⟨h, hh⟩⟩
    clear hv h hu
    go_enter Try.func13, Try.ntmps13
    go_wp2_with fail
    refine (specForm_is _ _ _ _ _ K.out _).mono ?_
    rintro e w2 ⟨rfl, hb2⟩
    have g2 := keep_block hb2 g1 (lt_of_block g1)
    have p2 := keep_block hb2 p1 (lt_of_block p1)
    have HB2 : Hid (Below w.heap.size w w2) := HB1.out.trans (hb2.mono HB1.out.size)
    clear hb2 p1 g1 HB1 hw1 c0 c1 c2 c3
    obtain ⟨c0, c1, c2, c3⟩ := cells4 p2
    obtain ⟨e0, e1, e2, e3⟩ := cells4 g2
    go_wp2_with fail
    refine (specAddrOk_is _ _ _ _ _ _ _ _ KA.out _).mono ?_
    rintro e w3 ⟨rfl, hb3⟩
    have HB3 : Hid (Below w.heap.size w w3) := HB2.out.trans (hb3.mono HB2.out.size)
    clear hb3
    go_wp2
    go_ret
    exact ⟨ret_b HE.out.symm, HB3.out⟩
  · have K := Lib.hid (decide_eq_false h)
    have HE : Hid (v = false) := by show _ = _; rw [← hv]; exact decide_eq_false (fun hh => h hh.1)
    clear hv h
    go_enter Try.func13, Try.ntmps13
    go_wp2_with fail
    refine (specForm_is _ _ _ _ _ K.out _).mono ?_
    rintro e w2 ⟨rfl, hb2⟩
    have HB2 : Hid (Below w.heap.size w w2) := HB1.out.trans (hb2.mono HB1.out.size)
    clear hb2
    go_wp2
    go_ret
    exact ⟨ret_b HE.out.symm, HB2.out⟩



set_option maxHeartbeats 2000000 in
theorem specRead_is (n : Int) (w : World) :
    Calls Try.prog 20 #[.int .i64 n] w (Gives (readV n) w) := by
  obtain ⟨w1, hw1⟩ : ∃ u, w.alloc (.cells #[.int .i64 0, .int .i64 0, .int .i64 0, .int .i64 0] 27) = u := ⟨_, rfl⟩
  have HB1 : Hid (Below w.heap.size w w1) := by subst hw1; exact (Below.refl _ _).alloc (Nat.le_refl _) _
  have z1 : w1.heap[w.heap.size]? = some (.cells #[.int .i64 0, .int .i64 0, .int .i64 0, .int .i64 0] 27) := by subst hw1; exact heap_alloc_new _ _
  by_cases hr : 0 ≤ n ∧ n ≤ 32767
  case neg =>
    have KI := Lib.hid (decide_eq_false hr)
    have HE : Hid (readV n = .tuple #[.agg #[.int .i64 0, .int .i64 0, .int .i64 0, .int .i64 0], .bool false]) := by show _ = _; exact if_neg (fun h => hr ⟨h.1, h.2.1⟩)
    obtain ⟨y0, y1, y2, y3⟩ := cells4 z1
    have f0 := thawed z1 0
    have f1 := thawed z1 1
    have f2 := thawed z1 2
    have f3 := thawed z1 3
    have hs1 := HB1.out.size
    clear hr
    go_enter Try.func20, Try.ntmps20
    go_wp2_with fail
    refine (specIn_is _ _ _ _ KI.out _).mono ?_
    rintro e w' ⟨rfl, rfl⟩
    go_wp2
    (try simp only [Exit.inBlock, Exit.then])
    refine bodyPost_ret (v := .tuple #[.agg #[.int .i64 0, .int .i64 0, .int .i64 0, .int .i64 0], .bool false]) ?_ rfl ⟨by rw [HE.out], ?_⟩
    · rw [results_cell_tmp rfl]
      go_simp
    · repeat' (first | exact HB1.out | refine Below.drew ?_ | refine Below.setCell ?_ (by simp <;> omega) _)
  have KI := Lib.hid (decide_eq_true hr)
  obtain ⟨hr0, hr1⟩ := hr
  obtain ⟨k, hk⟩ : ∃ u, n % 16 = u := ⟨_, rfl⟩
  obtain ⟨x, hx⟩ : ∃ u, n / 16 % 8 = u := ⟨_, rfl⟩
  obtain ⟨y, hy⟩ : ∃ u, n / 128 % 16 = u := ⟨_, rfl⟩
  obtain ⟨z, hz⟩ : ∃ u, n / 2048 % 8 = u := ⟨_, rfl⟩
  have b0 : bits .and .i64 n 15 = k := by rw [i64_and15, hk]
  have b1 : bits .and .i64 (n / 16) 7 = x := by rw [i64_and7, hx]
  have b2 : bits .and .i64 (n / 128) 15 = y := by rw [i64_and15, hy]
  have b3 : bits .and .i64 (n / 2048) 7 = z := by rw [i64_and7, hz]
  obtain ⟨fr, hfr⟩ : ∃ u, frameF k x y z = u := ⟨_, rfl⟩
  have HFR := Lib.hid hfr
  have HV : Hid (readV n = if fr = n then .tuple #[.agg #[.int .i64 k, .int .i64 x, .int .i64 y, .int .i64 z], .bool true] else .tuple #[.agg #[.int .i64 0, .int .i64 0, .int .i64 0, .int .i64 0], .bool false]) := by
    show _ = _
    unfold readV
    rw [hk, hx, hy, hz, hfr]
    by_cases h : fr = n
    · rw [if_pos ⟨hr0, hr1, h⟩, if_pos h]
    · rw [if_neg (fun hh => h hh.2.2), if_neg h]
  obtain ⟨w2, hw2⟩ : ∃ u, w1.alloc (.cells #[.int .i64 k, .int .i64 x, .int .i64 y, .int .i64 z] 27) = u := ⟨_, rfl⟩
  have hb2 : Below w1.heap.size w1 w2 := by rw [← hw2]; exact (Below.refl _ _).alloc (Nat.le_refl _) _
  have p2 : w2.heap[w1.heap.size]? = some (.cells #[.int .i64 k, .int .i64 x, .int .i64 y, .int .i64 z] 27) := by rw [← hw2]; exact heap_alloc_new _ _
  have z2 := keep_block hb2 z1 (lt_of_block z1)
  have HB2 : Hid (Below w.heap.size w w2) := HB1.out.trans (hb2.mono HB1.out.size)
  have hzl := lt_of_block z1
  obtain ⟨pb, hpb⟩ : ∃ u, w1.heap.size = u := ⟨_, rfl⟩
  rw [hpb] at p2
  obtain ⟨c0, c1, c2, c3⟩ := cells4 p2
  clear hb2 z1 HB1 hk hx hy hz hfr
  go_enter Try.func20, Try.ntmps20
  go_wp2_with fail
  refine (specIn_is _ _ _ _ KI.out _).mono ?_
  rintro e w' ⟨rfl, rfl⟩
  go_wp2_with fail
  clear hw2 hw1
  (try simp only [hpb])
  refine (specFrame_is _ _ _ _ _ HFR.out _).mono ?_
  rintro e w3 ⟨rfl, hb3⟩
  have p3 := keep_block hb3 p2 (lt_of_block p2)
  have z3 := keep_block hb3 z2 (lt_of_block z2)
  have HB3 : Hid (Below w.heap.size w w3) := HB2.out.trans (hb3.mono HB2.out.size)
  have hs3 := HB3.out.size
  clear hb3 p2 z2 HB2 c0 c1 c2 c3 hpb
  obtain ⟨c0, c1, c2, c3⟩ := cells4 p3
  obtain ⟨y0, y1, y2, y3⟩ := cells4 z3
  have f0 := thawed z3 0
  have f1 := thawed z3 1
  have f2 := thawed z3 2
  have f3 := thawed z3 3
  by_cases h : fr = n
  · have tn : (fr != n) = false := by simpa using h
    have HE := Lib.hid (HV.out.trans (if_pos h))
    clear h HV
    go_wp2
    (try simp only [Exit.inBlock, Exit.then])
    refine bodyPost_ret (v := .tuple #[.agg #[.int .i64 k, .int .i64 x, .int .i64 y, .int .i64 z], .bool true]) ?_ rfl ⟨by rw [HE.out], ?_⟩
    · rw [results_cell_tmp rfl]
      go_simp
    · repeat' (first | exact HB3.out | refine Below.drew ?_ | refine Below.setCell ?_ (by simp <;> omega) _)
  · have tn : (fr != n) = true := by simpa using h
    have HE := Lib.hid (HV.out.trans (if_neg h))
    clear h HV
    go_wp2
    (try simp only [Exit.inBlock, Exit.then])
    refine bodyPost_ret (v := .tuple #[.agg #[.int .i64 0, .int .i64 0, .int .i64 0, .int .i64 0], .bool false]) ?_ rfl ⟨by rw [HE.out], ?_⟩
    · rw [results_cell_tmp rfl]
      go_simp
    · repeat' (first | exact HB3.out | refine Below.drew ?_ | refine Below.setCell ?_ (by simp <;> omega) _)


end Go.Proofs.Ytfhgbgcdkiiflaa
