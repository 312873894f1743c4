/-
  impl's commands: valid in a geometry, packed, framed, read from a frame.
-/
import Derived.Test.YtfhgbgcdkiiflaaDoorCmdJ
import Derived.Test.YtfhgbgcdkiiflaaDoorCmdF
namespace Go.Proofs.YtfhgbgcdkiiflaaDoor
open Go.RowKit

set_option linter.unusedVariables false


set_option maxHeartbeats 2000000 in
theorem implCommandOk_is (a b r d k x y z : Int) (v : Bool) (hv : decide (CmOk k x y z ∧ AdOk a b r d x y z) = v) (w : World) :
    Calls Tryd.prog 12 #[.agg #[.int .i64 a, .int .i64 b, .int .i64 r, .int .i64 d], .agg #[.int .i64 k, .int .i64 x, .int .i64 y, .int .i64 z]] w (Gives (.bool v) w) := by
  obtain ⟨w1, hw1⟩ : ∃ u, (w.alloc (.cells #[.int .i64 a, .int .i64 b, .int .i64 r, .int .i64 d] 25)).alloc (.cells #[.int .i64 k, .int .i64 x, .int .i64 y, .int .i64 z] 27) = u := ⟨_, rfl⟩
  have HB1 : Hid (Below w.heap.size w w1) := by subst hw1; exact ((Below.refl _ _).alloc (Nat.le_refl _) _).alloc (by simp) _
  have g1 : w1.heap[w.heap.size]? = some (.cells #[.int .i64 a, .int .i64 b, .int .i64 r, .int .i64 d] 25) := by subst hw1; exact heap_alloc2_old _ _ _
  have p1 : w1.heap[w.heap.size + 1]? = some (.cells #[.int .i64 k, .int .i64 x, .int .i64 y, .int .i64 z] 27) := by subst hw1; exact heap_alloc2_new _ _ _
  obtain ⟨a0, a1, a2, a3⟩ := cells4 g1
  obtain ⟨c0, c1, c2, c3⟩ := cells4 p1
  have za0 := fun zz : Later w1 => zz.cell a0
  have za1 := fun zz : Later w1 => zz.cell a1
  have za2 := fun zz : Later w1 => zz.cell a2
  have za3 := fun zz : Later w1 => zz.cell a3
  have zc0 := fun zz : Later w1 => zz.cell c0
  have zc1 := fun zz : Later w1 => zz.cell c1
  have zc2 := fun zz : Later w1 => zz.cell c2
  have zc3 := fun zz : Later w1 => zz.cell c3
  clear g1 p1 a0 a1 a2 a3 c0 c1 c2 c3
  by_cases h : CmOk k x y z
  · have K := Lib.hid (decide_eq_true h)
    obtain ⟨u, hu⟩ : ∃ u, decide (AdOk a b r d x y z) = u := ⟨_, rfl⟩
    have KA := Lib.hid hu
    have HE : Hid (v = u) := by
      show _ = _
      rw [← hv, ← hu, Bool.eq_iff_iff]
      simp only [decide_eq_true_eq]
      exact ⟨fun hh => hh.2, fun hh => ⟨h, hh⟩⟩
    clear hv h hu
    go_enter Tryd.func12, Tryd.ntmps12
    go_wp2_with fail
    refine wp_region_later (by kernel_rfl) (by kernel_rfl) ?_
    repeat (go_big_quiet_step (first | (go_at_call 22; exact Gives.later _ (implWell_is _ _ _ _ _ K.out _)) | (go_at_call 31; exact Gives.later _ (implPlace_is _ _ _ _ _)) | (go_at_call 30; exact Gives.later _ (implAddrOk_is _ _ _ _ _ _ _ _ KA.out _))))
    refine wpQuiet_nil ?_
    rintro w3 ⟨zz, rfl⟩
    go_wp2
    go_ret
    exact ⟨ret_b HE.out.symm, HB1.out.trans (zz.ok.mono HB1.out.size)⟩
  · have K := Lib.hid (decide_eq_false h)
    have HE : Hid (v = false) := by show _ = _; rw [← hv]; exact decide_eq_false (fun hh => h hh.1)
    clear hv h
    go_enter Tryd.func12, Tryd.ntmps12
    go_wp2_with fail
    refine wp_region_later (by kernel_rfl) (by kernel_rfl) ?_
    repeat (go_big_quiet_step (first | (go_at_call 22; exact Gives.later _ (implWell_is _ _ _ _ _ K.out _))))
    refine wpQuiet_nil ?_
    rintro w3 ⟨zz, rfl⟩
    go_wp2
    go_ret
    exact ⟨ret_b HE.out.symm, HB1.out.trans (zz.ok.mono HB1.out.size)⟩



theorem implPack_is (k b r c v : Int) (hv : packF k b r c = v) (w : World) :
    Calls Tryd.prog 14 #[.agg #[.int .i64 k, .int .i64 b, .int .i64 r, .int .i64 c]] w (Gives (.int .i64 v) w) := by
  obtain ⟨w1, hw1⟩ : ∃ u, w.alloc (.cells #[.int .i64 k, .int .i64 b, .int .i64 r, .int .i64 c] 27) = u := ⟨_, rfl⟩
  have HB1 : Hid (Below w.heap.size w w1) := by subst hw1; exact (Below.refl _ _).alloc (Nat.le_refl _) _
  have p1 : w1.heap[w.heap.size]? = some (.cells #[.int .i64 k, .int .i64 b, .int .i64 r, .int .i64 c] 27) := by subst hw1; exact heap_alloc_new _ _
  obtain ⟨c0, c1, c2, c3⟩ := cells4 p1
  by_cases h : CmOk k b r c
  · have K := Lib.hid (decide_eq_true h)
    have HE : Hid (v = k + 16 * b + 128 * r + 2048 * c) := by show _ = _; rw [← hv]; exact if_pos h
    obtain ⟨h1, h2, h3, h4, _⟩ := h
    have e1 : IntKind.i64.wrap (16 * b) = 16 * b := IntWalk.i64_in _ ⟨by omega, by omega⟩
    have e2 : IntKind.i64.wrap (k + 16 * b) = k + 16 * b := IntWalk.i64_in _ ⟨by omega, by omega⟩
    have e3 : IntKind.i64.wrap (128 * r) = 128 * r := IntWalk.i64_in _ ⟨by omega, by omega⟩
    have e4 : IntKind.i64.wrap (k + 16 * b + 128 * r) = k + 16 * b + 128 * r := IntWalk.i64_in _ ⟨by omega, by omega⟩
    have e5 : IntKind.i64.wrap (2048 * c) = 2048 * c := IntWalk.i64_in _ ⟨by omega, by omega⟩
    have e6 : IntKind.i64.wrap (k + 16 * b + 128 * r + 2048 * c) = k + 16 * b + 128 * r + 2048 * c := IntWalk.i64_in _ ⟨by omega, by omega⟩
    clear hv h1 h2 h3 h4
    go_enter Tryd.func14, Tryd.ntmps14
    go_wp2_with fail
    refine (implWell_is _ _ _ _ _ K.out _).mono ?_
    rintro e w2 ⟨rfl, hb2⟩
    have p2 := keep_block hb2 p1 (lt_of_block p1)
    have HB2 : Hid (Below w.heap.size w w2) := HB1.out.trans (hb2.mono HB1.out.size)
    clear hb2 p1 HB1 hw1 c0 c1 c2 c3
    obtain ⟨c0, c1, c2, c3⟩ := cells4 p2
    go_wp2
    go_ret
    exact ⟨ret_i HE.out.symm, HB2.out⟩
  · have K := Lib.hid (decide_eq_false h)
    have HE : Hid (v = -1) := by show _ = _; rw [← hv]; exact if_neg h
    clear hv h
    go_enter Tryd.func14, Tryd.ntmps14
    go_wp2_with fail
    refine (implWell_is _ _ _ _ _ K.out _).mono ?_
    rintro e w2 ⟨rfl, hb2⟩
    have HB2 : Hid (Below w.heap.size w w2) := HB1.out.trans (hb2.mono HB1.out.size)
    clear hb2
    go_wp2
    go_ret
    exact ⟨ret_i HE.out.symm, HB2.out⟩



theorem implFrame_is (k b r c v : Int) (hv : frameF k b r c = v) (w : World) :
    Calls Tryd.prog 10 #[.agg #[.int .i64 k, .int .i64 b, .int .i64 r, .int .i64 c]] w (Gives (.int .i64 v) w) := by
  obtain ⟨w1, hw1⟩ : ∃ u, w.alloc (.cells #[.int .i64 k, .int .i64 b, .int .i64 r, .int .i64 c] 27) = u := ⟨_, rfl⟩
  have HB1 : Hid (Below w.heap.size w w1) := by subst hw1; exact (Below.refl _ _).alloc (Nat.le_refl _) _
  have p1 : w1.heap[w.heap.size]? = some (.cells #[.int .i64 k, .int .i64 b, .int .i64 r, .int .i64 c] 27) := by subst hw1; exact heap_alloc_new _ _
  obtain ⟨c0, c1, c2, c3⟩ := cells4 p1
  obtain ⟨p, hp⟩ : ∃ u, packF k b r c = u := ⟨_, rfl⟩
  have HP := Lib.hid hp
  by_cases h : CmOk k b r c
  · have hr := packF_range h
    have hq := parF_range p
    rw [hp] at hr
    have HE : Hid (v = p + 16384 * parF p) := by show _ = _; rw [← hv, ← hp]; exact if_pos h
    generalize hg : parF p = q at HE hq
    have HQ : Hid (∀ w, Calls Tryd.prog 29 #[.int .i64 p] w (Says (.int .i64 q) w)) := fun w => by rw [← hg]; exact implParityOf_any p w
    have t0 : decide (p < 0) = false := decide_eq_false (by omega)
    have e1 : IntKind.i64.wrap (16384 * q) = 16384 * q := IntWalk.i64_in _ ⟨by omega, by omega⟩
    have e2 : IntKind.i64.wrap (p + 16384 * q) = p + 16384 * q := IntWalk.i64_in _ ⟨by omega, by omega⟩
    clear hv h hr hq hg hp
    go_enter Tryd.func10, Tryd.ntmps10
    go_wp2_with fail
    refine (implPack_is _ _ _ _ _ HP.out _).mono ?_
    rintro e w2 ⟨rfl, hb2⟩
    have HB2 : Hid (Below w.heap.size w w2) := HB1.out.trans (hb2.mono HB1.out.size)
    clear hb2
    go_wp2_with fail
    refine (HQ.out _).mono ?_
    rintro e w3 ⟨rfl, rfl⟩
    go_wp2
    go_ret
    exact ⟨ret_i HE.out.symm, HB2.out⟩
  · have hm : packF k b r c = -1 := if_neg h
    have HE : Hid (v = -1) := by show _ = _; rw [← hv]; exact if_neg h
    rw [hm] at hp
    subst hp
    clear hv h hm
    go_enter Tryd.func10, Tryd.ntmps10
    go_wp2_with fail
    refine (implPack_is _ _ _ _ _ HP.out _).mono ?_
    rintro e w2 ⟨rfl, hb2⟩
    have HB2 : Hid (Below w.heap.size w w2) := HB1.out.trans (hb2.mono HB1.out.size)
    clear hb2
    go_wp2
    go_ret
    exact ⟨ret_i HE.out.symm, HB2.out⟩



theorem frame_small {k b r c n : Int} (h : frameF k b r c = n) : n ≤ 32767 := by
  by_cases hk : CmOk k b r c
  · have := frame_range hk
    omega
  · have : frameF k b r c = -1 := if_neg hk
    omega

set_option maxHeartbeats 2000000 in
theorem implRead_is (n : Int) (w : World) :
    Calls Tryd.prog 11 #[.int .i64 n] w (Gives (readV n) w) := by
  obtain ⟨w1, hw1⟩ : ∃ u, w.alloc (.cells #[.int .i64 0, .int .i64 0, .int .i64 0, .int .i64 0] 27) = u := ⟨_, rfl⟩
  have HB1 : Hid (Below w.heap.size w w1) := by subst hw1; exact (Below.refl _ _).alloc (Nat.le_refl _) _
  have z1 : w1.heap[w.heap.size]? = some (.cells #[.int .i64 0, .int .i64 0, .int .i64 0, .int .i64 0] 27) := by subst hw1; exact heap_alloc_new _ _
  by_cases hr : n < 0
  case pos =>
    have KI : decide (n < 0) = true := decide_eq_true hr
    have HE : Hid (readV n = .tuple #[.agg #[.int .i64 0, .int .i64 0, .int .i64 0, .int .i64 0], .bool false]) := by show _ = _; exact if_neg (fun h => by omega)
    obtain ⟨y0, y1, y2, y3⟩ := cells4 z1
    have f0 := thawed z1 0
    have f1 := thawed z1 1
    have f2 := thawed z1 2
    have f3 := thawed z1 3
    have hs1 := HB1.out.size
    clear hr
    go_enter Tryd.func11, Tryd.ntmps11
    go_wp2
    (try simp only [Exit.inBlock, Exit.then])
    refine bodyPost_ret (v := .tuple #[.agg #[.int .i64 0, .int .i64 0, .int .i64 0, .int .i64 0], .bool false]) ?_ rfl ⟨by rw [HE.out], ?_⟩
    · rw [results_cell_tmp rfl]
      go_simp
    · repeat' (first | exact HB1.out | refine Below.drew ?_ | refine Below.setCell ?_ (by simp <;> omega) _)
  have KI : decide (n < 0) = false := decide_eq_false hr
  obtain ⟨k, hk⟩ : ∃ u, n % 16 = u := ⟨_, rfl⟩
  obtain ⟨x, hx⟩ : ∃ u, n / 16 % 8 = u := ⟨_, rfl⟩
  obtain ⟨y, hy⟩ : ∃ u, n / 128 % 16 = u := ⟨_, rfl⟩
  obtain ⟨z, hz⟩ : ∃ u, n / 2048 % 8 = u := ⟨_, rfl⟩
  have b0 : n.tmod 16 = k := by rw [Int.tmod_eq_emod_of_nonneg (by omega), hk]
  have b1 : (n.tmod 128).tdiv 16 = x := by rw [Int.tmod_eq_emod_of_nonneg (by omega), Int.tdiv_eq_ediv_of_nonneg (by omega), ← hx]; omega
  have b2 : (n.tmod 2048).tdiv 128 = y := by rw [Int.tmod_eq_emod_of_nonneg (by omega), Int.tdiv_eq_ediv_of_nonneg (by omega), ← hy]; omega
  have b3 : (n.tmod 16384).tdiv 2048 = z := by rw [Int.tmod_eq_emod_of_nonneg (by omega), Int.tdiv_eq_ediv_of_nonneg (by omega), ← hz]; omega
  have i0 : IntKind.i64.wrap k = k := IntWalk.i64_in _ ⟨by omega, by omega⟩
  have i1 : IntKind.i64.wrap x = x := IntWalk.i64_in _ ⟨by omega, by omega⟩
  have i2 : IntKind.i64.wrap y = y := IntWalk.i64_in _ ⟨by omega, by omega⟩
  have i3 : IntKind.i64.wrap z = z := IntWalk.i64_in _ ⟨by omega, by omega⟩
  have j1 : IntKind.i64.wrap (n.tmod 128) = n.tmod 128 := by rw [Int.tmod_eq_emod_of_nonneg (by omega)]; exact IntWalk.i64_in _ ⟨by omega, by omega⟩
  have j2 : IntKind.i64.wrap (n.tmod 2048) = n.tmod 2048 := by rw [Int.tmod_eq_emod_of_nonneg (by omega)]; exact IntWalk.i64_in _ ⟨by omega, by omega⟩
  have j3 : IntKind.i64.wrap (n.tmod 16384) = n.tmod 16384 := by rw [Int.tmod_eq_emod_of_nonneg (by omega)]; exact IntWalk.i64_in _ ⟨by omega, by omega⟩
  obtain ⟨fr, hfr⟩ : ∃ u, frameF k x y z = u := ⟨_, rfl⟩
  have HFR := Lib.hid hfr
  have HV : Hid (readV n = if fr = n then .tuple #[.agg #[.int .i64 k, .int .i64 x, .int .i64 y, .int .i64 z], .bool true] else .tuple #[.agg #[.int .i64 0, .int .i64 0, .int .i64 0, .int .i64 0], .bool false]) := by
    show _ = _
    unfold readV
    rw [hk, hx, hy, hz, hfr]
    by_cases h : fr = n
    · rw [if_pos ⟨by omega, frame_small (hfr.trans h), h⟩, if_pos h]
    · rw [if_neg (fun hh => h hh.2.2), if_neg h]
  obtain ⟨w2, hw2⟩ : ∃ u, w1.alloc (.cells #[.int .i64 k, .int .i64 x, .int .i64 y, .int .i64 z] 27) = u := ⟨_, rfl⟩
  have hb2 : Below w1.heap.size w1 w2 := by rw [← hw2]; exact (Below.refl _ _).alloc (Nat.le_refl _) _
  have p2 : w2.heap[w1.heap.size]? = some (.cells #[.int .i64 k, .int .i64 x, .int .i64 y, .int .i64 z] 27) := by rw [← hw2]; exact heap_alloc_new _ _
  have z2 := keep_block hb2 z1 (lt_of_block z1)
  have HB2 : Hid (Below w.heap.size w w2) := HB1.out.trans (hb2.mono HB1.out.size)
  have hzl := lt_of_block z1
  obtain ⟨pb, hpb⟩ : ∃ u, w1.heap.size = u := ⟨_, rfl⟩
  rw [hpb] at p2
  obtain ⟨c0, c1, c2, c3⟩ := cells4 p2
  clear hb2 z1 HB1 hk hx hy hz hfr hr
  go_enter Tryd.func11, Tryd.ntmps11
  go_wp2_with fail
  clear hw2 hw1
  (try simp only [hpb])
  refine (implFrame_is _ _ _ _ _ HFR.out _).mono ?_
  rintro e w3 ⟨rfl, hb3⟩
  have p3 := keep_block hb3 p2 (lt_of_block p2)
  have z3 := keep_block hb3 z2 (lt_of_block z2)
  have HB3 : Hid (Below w.heap.size w w3) := HB2.out.trans (hb3.mono HB2.out.size)
  have hs3 := HB3.out.size
  clear hb3 p2 z2 HB2 c0 c1 c2 c3 hpb
  obtain ⟨c0, c1, c2, c3⟩ := cells4 p3
  obtain ⟨y0, y1, y2, y3⟩ := cells4 z3
  have f0 := thawed z3 0
  have f1 := thawed z3 1
  have f2 := thawed z3 2
  have f3 := thawed z3 3
  by_cases h : fr = n
  · have tn : (fr != n) = false := by simpa using h
    have HE := Lib.hid (HV.out.trans (if_pos h))
    clear h HV
    go_wp2
    (try simp only [Exit.inBlock, Exit.then])
    refine bodyPost_ret (v := .tuple #[.agg #[.int .i64 k, .int .i64 x, .int .i64 y, .int .i64 z], .bool true]) ?_ rfl ⟨by rw [HE.out], ?_⟩
    · rw [results_cell_tmp rfl]
      go_simp
    · repeat' (first | exact HB3.out | refine Below.drew ?_ | refine Below.setCell ?_ (by simp <;> omega) _)
  · have tn : (fr != n) = true := by simpa using h
    have HE := Lib.hid (HV.out.trans (if_neg h))
    clear h HV
    go_wp2
    (try simp only [Exit.inBlock, Exit.then])
    refine bodyPost_ret (v := .tuple #[.agg #[.int .i64 0, .int .i64 0, .int .i64 0, .int .i64 0], .bool false]) ?_ rfl ⟨by rw [HE.out], ?_⟩
    · rw [results_cell_tmp rfl]
      go_simp
    · repeat' (first | exact HB3.out | refine Below.drew ?_ | refine Below.setCell ?_ (by simp <;> omega) _)


end Go.Proofs.YtfhgbgcdkiiflaaDoor
