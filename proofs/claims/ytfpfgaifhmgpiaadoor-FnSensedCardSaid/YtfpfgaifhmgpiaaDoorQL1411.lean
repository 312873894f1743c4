/-
  Texts of one proof, merged: GeoI.
-/
import Derived.Test.YtfpfgaifhmgpiaaDoorQL142
import Derived.Test.YtfpfgaifhmgpiaaDoorQL148
import Derived.Test.YtfpfgaifhmgpiaaDoorQL1410
import Derived.Laws.StructEq
namespace Go.Proofs.YtfpfgaifhmgpiaaDoor
open Go.RowKit

set_option linter.unusedVariables false

theorem results_cell1 {fn : Func} {p : Tmp} {ty : TypeId} (h : fn.results = #[.cell p ty]) (tmps : Array Value) (P : Program) (w : World) :
    (results fn tmps).run P w = ((asAddr (tmps.getD p undef)).run P w).andThen fun a w₁ => (loadVar ty a).run P w₁ := by
  simp only [results, h]
  simp [Sem.run_bind, Result.andThen]

theorem clampF_eq {n lo hi : Int} (h : lo ≤ hi) : (n == clampF n lo hi) = decide (lo ≤ n ∧ n ≤ hi) := by
  unfold clampF
  by_cases h1 : lo ≤ n ∧ n ≤ hi
  · rw [if_neg (by omega), if_neg (by omega), decide_eq_true h1]; simp
  · rw [decide_eq_false h1]
    simp only [beq_eq_false_iff_ne]
    repeat' split
    all_goals omega

set_option maxHeartbeats 2000000 in
theorem implGeoOk_is (a b c d : Int) (v : Bool) (hv : decide (GeoOk a b c d) = v) (w : World) :
    Calls Tryd.prog 40 #[.agg #[.int .i64 a, .int .i64 b, .int .i64 c, .int .i64 d]] w (Gives (.bool v) w) := by
  have HE : Hid (v = (decide (1 ≤ a ∧ a ≤ 2) && (decide (1 ≤ b ∧ b ≤ 4) && (decide (2 ≤ c ∧ c ≤ 16) && decide (1 ≤ d ∧ d ≤ 8))))) := by
    show _ = _
    rw [← hv, Bool.eq_iff_iff]
    simp only [Bool.and_eq_true, decide_eq_true_eq]
    exact Iff.rfl
  clear hv
  have ha := clampF_eq (n := a) (show (1 : Int) ≤ 2 by omega)
  have CA : Hid (∀ w, Calls Tryd.prog 82 #[.int .i64 a, .int .i64 1, .int .i64 2] w fun e w' => e = .returned (.int .i64 (clampF a 1 2)) ∧ w = w') := fun w => implClamp_any _ _ _ w
  rw [← ha] at HE
  generalize clampF a 1 2 = A at ha CA HE
  clear ha
  have hb := clampF_eq (n := b) (show (1 : Int) ≤ 4 by omega)
  have CB : Hid (∀ w, Calls Tryd.prog 82 #[.int .i64 b, .int .i64 1, .int .i64 4] w fun e w' => e = .returned (.int .i64 (clampF b 1 4)) ∧ w = w') := fun w => implClamp_any _ _ _ w
  rw [← hb] at HE
  generalize clampF b 1 4 = B at hb CB HE
  clear hb
  have hc := clampF_eq (n := c) (show (2 : Int) ≤ 16 by omega)
  have CC : Hid (∀ w, Calls Tryd.prog 82 #[.int .i64 c, .int .i64 2, .int .i64 16] w fun e w' => e = .returned (.int .i64 (clampF c 2 16)) ∧ w = w') := fun w => implClamp_any _ _ _ w
  rw [← hc] at HE
  generalize clampF c 2 16 = C at hc CC HE
  clear hc
  have hd := clampF_eq (n := d) (show (1 : Int) ≤ 8 by omega)
  have CD : Hid (∀ w, Calls Tryd.prog 82 #[.int .i64 d, .int .i64 1, .int .i64 8] w fun e w' => e = .returned (.int .i64 (clampF d 1 8)) ∧ w = w') := fun w => implClamp_any _ _ _ w
  rw [← hd] at HE
  generalize clampF d 1 8 = D at hd CD HE
  clear hd
  obtain ⟨w1, hw1⟩ : ∃ w1, w.alloc (.cells #[.int .i64 a, .int .i64 b, .int .i64 c, .int .i64 d] 25) = w1 := ⟨_, rfl⟩
  have HB : Hid (Below w.heap.size w w1) := by subst hw1; exact (Below.refl _ _).alloc (Nat.le_refl _) _
  have hA : w1.heap[w.heap.size]? = some (.cells #[.int .i64 a, .int .i64 b, .int .i64 c, .int .i64 d] 25) := hw1 ▸ heap_alloc_new w _
  obtain ⟨a0, a1, a2, a3⟩ := cells4 hA
  have za0 := fun zz : Later w1 => zz.cell a0
  have za1 := fun zz : Later w1 => zz.cell a1
  have za2 := fun zz : Later w1 => zz.cell a2
  have za3 := fun zz : Later w1 => zz.cell a3
  clear hA a0 a1 a2 a3
  obtain ⟨p0, hp0⟩ : ∃ p, (a == A) = p := ⟨_, rfl⟩
  rw [hp0] at HE
  cases p0
  case false =>
    rw [Bool.false_and] at HE
    go_enter Tryd.func40, Tryd.ntmps40
    go_wp2_with fail
    refine wp_region_later (by kernel_rfl) (by kernel_rfl) ?_
    repeat (go_big_quiet_step (first | (go_at_call_of 82 a; exact Gives.later_same _ (CA.out _)) | (go_at_call_of 82 b; exact Gives.later_same _ (CB.out _)) | (go_at_call_of 82 c; exact Gives.later_same _ (CC.out _)) | (go_at_call_of 82 d; exact Gives.later_same _ (CD.out _))))
    refine wpQuiet_nil ?_
    rintro w2 ⟨zz, rfl⟩
    go_wp2
    go_ret
    exact ⟨ret_b HE.out.symm, HB.out.trans (zz.ok.mono HB.out.size)⟩
  rw [Bool.true_and] at HE
  obtain ⟨p1, hp1⟩ : ∃ p, (b == B) = p := ⟨_, rfl⟩
  rw [hp1] at HE
  cases p1
  case false =>
    rw [Bool.false_and] at HE
    go_enter Tryd.func40, Tryd.ntmps40
    go_wp2_with fail
    refine wp_region_later (by kernel_rfl) (by kernel_rfl) ?_
    repeat (go_big_quiet_step (first | (go_at_call_of 82 a; exact Gives.later_same _ (CA.out _)) | (go_at_call_of 82 b; exact Gives.later_same _ (CB.out _)) | (go_at_call_of 82 c; exact Gives.later_same _ (CC.out _)) | (go_at_call_of 82 d; exact Gives.later_same _ (CD.out _))))
    refine wpQuiet_nil ?_
    rintro w2 ⟨zz, rfl⟩
    go_wp2
    go_ret
    exact ⟨ret_b HE.out.symm, HB.out.trans (zz.ok.mono HB.out.size)⟩
  rw [Bool.true_and] at HE
  obtain ⟨p2, hp2⟩ : ∃ p, (c == C) = p := ⟨_, rfl⟩
  rw [hp2] at HE
  cases p2
  case false =>
    rw [Bool.false_and] at HE
    go_enter Tryd.func40, Tryd.ntmps40
    go_wp2_with fail
    refine wp_region_later (by kernel_rfl) (by kernel_rfl) ?_
    repeat (go_big_quiet_step (first | (go_at_call_of 82 a; exact Gives.later_same _ (CA.out _)) | (go_at_call_of 82 b; exact Gives.later_same _ (CB.out _)) | (go_at_call_of 82 c; exact Gives.later_same _ (CC.out _)) | (go_at_call_of 82 d; exact Gives.later_same _ (CD.out _))))
    refine wpQuiet_nil ?_
    rintro w2 ⟨zz, rfl⟩
    go_wp2
    go_ret
    exact ⟨ret_b HE.out.symm, HB.out.trans (zz.ok.mono HB.out.size)⟩
  rw [Bool.true_and] at HE
  obtain ⟨p3, hp3⟩ : ∃ p, (d == D) = p := ⟨_, rfl⟩
  rw [hp3] at HE
  cases p3
  case false =>
    go_enter Tryd.func40, Tryd.ntmps40
    go_wp2_with fail
    refine wp_region_later (by kernel_rfl) (by kernel_rfl) ?_
    repeat (go_big_quiet_step (first | (go_at_call_of 82 a; exact Gives.later_same _ (CA.out _)) | (go_at_call_of 82 b; exact Gives.later_same _ (CB.out _)) | (go_at_call_of 82 c; exact Gives.later_same _ (CC.out _)) | (go_at_call_of 82 d; exact Gives.later_same _ (CD.out _))))
    refine wpQuiet_nil ?_
    rintro w2 ⟨zz, rfl⟩
    go_wp2
    go_ret
    exact ⟨ret_b HE.out.symm, HB.out.trans (zz.ok.mono HB.out.size)⟩

  go_enter Tryd.func40, Tryd.ntmps40
  go_wp2_with fail
  refine wp_region_later (by kernel_rfl) (by kernel_rfl) ?_
  repeat (go_big_quiet_step (first | (go_at_call_of 82 a; exact Gives.later_same _ (CA.out _)) | (go_at_call_of 82 b; exact Gives.later_same _ (CB.out _)) | (go_at_call_of 82 c; exact Gives.later_same _ (CC.out _)) | (go_at_call_of 82 d; exact Gives.later_same _ (CD.out _))))
  refine wpQuiet_nil ?_
  rintro w2 ⟨zz, rfl⟩
  go_wp2
  go_ret
  exact ⟨ret_b HE.out.symm, HB.out.trans (zz.ok.mono HB.out.size)⟩

theorem implBank_is (a b c d v : Int) (hv : bankN a b c d = v) (w : World) :
    Calls Tryd.prog 90 #[.agg #[.int .i64 a, .int .i64 b, .int .i64 c, .int .i64 d]] w (Gives (.int .i64 v) w) := by
  have HV := Lib.hid hv
  clear hv
  by_cases k : GeoOk a b c d
  · have K := Lib.hid (decide_eq_true k)
    have HE : Hid (v = a * b) := by show _ = _; rw [← HV.out]; exact if_pos k
    obtain ⟨⟨h1, h2⟩, ⟨h3, h4⟩, _⟩ := k
    have e1 : IntKind.i64.wrap (a * b) = a * b := by
      refine IntWalk.i64_in _ ?_
      have : a = 1 ∨ a = 2 := by omega
      rcases this with rfl | rfl <;> omega
    go_enter Tryd.func90, Tryd.ntmps90
    go_wp2_with fail
    refine (implGeoOk_is a b c d _ K.out _).mono ?_
    rintro e w1 ⟨rfl, hb1⟩
    obtain ⟨x0, x1, x2, x3⟩ := cells4 (keep_block hb1 (heap_alloc_new _ _) (by simp))
    have HB : Hid (Below w.heap.size w w1) := ((Below.refl _ _).alloc (Nat.le_refl _) _).trans (hb1.mono (by simp))
    clear hb1
    go_wp2
    go_ret
    exact ⟨ret_i HE.out.symm, HB.out⟩
  · have K := Lib.hid (decide_eq_false k)
    have HE : Hid (v = 0) := by show _ = _; rw [← HV.out]; exact if_neg k
    clear k
    go_enter Tryd.func90, Tryd.ntmps90
    go_wp2_with fail
    refine (implGeoOk_is a b c d _ K.out _).mono ?_
    rintro e w1 ⟨rfl, hb1⟩
    have HB : Hid (Below w.heap.size w w1) := ((Below.refl _ _).alloc (Nat.le_refl _) _).trans (hb1.mono (by simp))
    clear hb1
    go_wp2
    go_ret
    exact ⟨ret_i HE.out.symm, HB.out⟩

set_option maxHeartbeats 2000000 in
theorem implNear_is (a b c d x y z X Y Z n : Int) (hn : bankN a b c d = n) (hg : GeoOk a b c d) (hX : clampF x 0 (n - 1) = X) (hY : clampF y 0 (c - 1) = Y) (hZ : clampF z 0 (d - 1) = Z) (w : World) :
    Calls Tryd.prog 84 #[.agg #[.int .i64 a, .int .i64 b, .int .i64 c, .int .i64 d], .agg #[.int .i64 x, .int .i64 y, .int .i64 z]] w (Gives (.agg #[.int .i64 X, .int .i64 Y, .int .i64 Z]) w) := by
  have HN := Lib.hid hn
  have hn2 := bankN_range a b c d
  rw [hn] at hn2
  obtain ⟨_, _, ⟨g0, g1⟩, ⟨g2, g3⟩⟩ := hg
  have e1 : IntKind.i64.wrap (n - 1) = n - 1 := IntWalk.i64_in _ ⟨by omega, by omega⟩
  have e2 : IntKind.i64.wrap (c - 1) = c - 1 := IntWalk.i64_in _ ⟨by omega, by omega⟩
  have e3 : IntKind.i64.wrap (d - 1) = d - 1 := IntWalk.i64_in _ ⟨by omega, by omega⟩
  have CX : Hid (∀ w, Calls Tryd.prog 82 #[.int .i64 x, .int .i64 0, .int .i64 (n - 1)] w fun e w' => e = .returned (.int .i64 X) ∧ w = w') := fun w => by rw [← hX]; exact implClamp_any _ _ _ w
  have CY : Hid (∀ w, Calls Tryd.prog 82 #[.int .i64 y, .int .i64 0, .int .i64 (c - 1)] w fun e w' => e = .returned (.int .i64 Y) ∧ w = w') := fun w => by rw [← hY]; exact implClamp_any _ _ _ w
  have CZ : Hid (∀ w, Calls Tryd.prog 82 #[.int .i64 z, .int .i64 0, .int .i64 (d - 1)] w fun e w' => e = .returned (.int .i64 Z) ∧ w = w') := fun w => by rw [← hZ]; exact implClamp_any _ _ _ w
  clear hn hX hY hZ
  obtain ⟨w1, hw1⟩ : ∃ w1, ((w.alloc (.cells #[.int .i64 a, .int .i64 b, .int .i64 c, .int .i64 d] 25)).alloc (.cells #[.int .i64 x, .int .i64 y, .int .i64 z] 45)).alloc (.cells #[.int .i64 0, .int .i64 0, .int .i64 0] 45) = w1 := ⟨_, rfl⟩
  have HB : Hid (Below w.heap.size w w1) := by subst hw1; exact (((Below.refl _ _).alloc (Nat.le_refl _) _).alloc (by simp) _).alloc (by simp <;> omega) _
  have hA : w1.heap[w.heap.size]? = some (.cells #[.int .i64 a, .int .i64 b, .int .i64 c, .int .i64 d] 25) := hw1 ▸ box3_0 w _ _ _
  have hC : w1.heap[w.heap.size + 1]? = some (.cells #[.int .i64 x, .int .i64 y, .int .i64 z] 45) := hw1 ▸ box3_1 w _ _ _
  have hR : w1.heap[w.heap.size + 1 + 1]? = some (.cells #[.int .i64 0, .int .i64 0, .int .i64 0] 45) := hw1 ▸ box3_2 w _ _ _
  obtain ⟨a0, a1, a2, a3⟩ := cells4 hA
  obtain ⟨b0, b1, b2⟩ := cells3 hC
  have za0 := fun zz : Later w1 => zz.cell a0
  have za1 := fun zz : Later w1 => zz.cell a1
  have za2 := fun zz : Later w1 => zz.cell a2
  have za3 := fun zz : Later w1 => zz.cell a3
  have zb0 := fun zz : Later w1 => zz.cell b0
  have zb1 := fun zz : Later w1 => zz.cell b1
  have zb2 := fun zz : Later w1 => zz.cell b2
  have HR := Lib.hid hR
  clear hA hC hR a0 a1 a2 a3 b0 b1 b2
  go_enter Tryd.func84, Tryd.ntmps84
  go_wp2_with fail
  refine wp_region_later_tail 19 (by kernel_rfl) (by kernel_rfl) ?_
  simp only [List.take_succ_cons, List.take_zero]
  repeat (go_big_quiet_step (first | (go_at_call 90; exact Gives.later _ (implBank_is _ _ _ _ _ HN.out _)) | (go_at_call_of 82 x; exact Gives.later_same _ (CX.out _)) | (go_at_call_of 82 y; exact Gives.later_same _ (CY.out _)) | (go_at_call_of 82 z; exact Gives.later_same _ (CZ.out _))))
  refine wpQuiet_nil ?_
  simp only [List.drop_succ_cons, List.drop_zero]
  rintro w2 ⟨zz, rfl⟩
  have hR2 := zz.block HR.out
  obtain ⟨y0, y1, y2⟩ := cells3 hR2
  have z0 := thawed hR2 0
  have z1 := thawed hR2 1
  have z2 := thawed hR2 2
  go_wp2
  (try simp only [Exit.inBlock, Exit.then])
  refine bodyPost_ret (v := .agg #[.int .i64 X, .int .i64 Y, .int .i64 Z]) ?_ rfl ⟨rfl, ?_⟩
  · rw [results_cell1 rfl]
    go_simp
  · have h1 := HB.out.size
    have h2 := HB.out.trans (zz.ok.mono HB.out.size)
    repeat' (first | exact h2 | refine Below.drew ?_ | refine Below.setCell ?_ (by simp <;> omega) _)

set_option maxHeartbeats 2000000 in
theorem implAddrOk_is (a b c d x y z : Int) (v : Bool) (hv : decide (AdOk a b c d x y z) = v) (w : World) :
    Calls Tryd.prog 45 #[.agg #[.int .i64 a, .int .i64 b, .int .i64 c, .int .i64 d], .agg #[.int .i64 x, .int .i64 y, .int .i64 z]] w (Gives (.bool v) w) := by
  have HV := Lib.hid hv
  clear hv
  obtain ⟨w1, hw1⟩ : ∃ w1, (w.alloc (.cells #[.int .i64 a, .int .i64 b, .int .i64 c, .int .i64 d] 25)).alloc (.cells #[.int .i64 x, .int .i64 y, .int .i64 z] 45) = w1 := ⟨_, rfl⟩
  have HB : Hid (Below w.heap.size w w1) := by subst hw1; exact ((Below.refl _ _).alloc (Nat.le_refl _) _).alloc (by simp) _
  have hA : w1.heap[w.heap.size]? = some (.cells #[.int .i64 a, .int .i64 b, .int .i64 c, .int .i64 d] 25) := hw1 ▸ heap_alloc2_old w _ _
  have hC : w1.heap[w.heap.size + 1]? = some (.cells #[.int .i64 x, .int .i64 y, .int .i64 z] 45) := hw1 ▸ heap_alloc2_new w _ _
  obtain ⟨a0, a1, a2, a3⟩ := cells4 hA
  obtain ⟨b0, b1, b2⟩ := cells3 hC
  have za0 := fun zz : Later w1 => zz.cell a0
  have za1 := fun zz : Later w1 => zz.cell a1
  have za2 := fun zz : Later w1 => zz.cell a2
  have za3 := fun zz : Later w1 => zz.cell a3
  have zb0 := fun zz : Later w1 => zz.cell b0
  have zb1 := fun zz : Later w1 => zz.cell b1
  have zb2 := fun zz : Later w1 => zz.cell b2
  clear hA hC a0 a1 a2 a3 b0 b1 b2
  by_cases k : GeoOk a b c d
  case neg =>
    have K := Lib.hid (decide_eq_false k)
    have HE := Lib.hid (HV.out.symm.trans (decide_eq_false (fun h => k (geo_of_bank h.1))))
    clear k
    go_enter Tryd.func45, Tryd.ntmps45
    go_wp2_with fail
    refine wp_region_later (by kernel_rfl) (by kernel_rfl) ?_
    repeat (go_big_quiet_step (first | (go_at_call 40; exact Gives.later _ (implGeoOk_is _ _ _ _ _ K.out _))))
    refine wpQuiet_nil ?_
    rintro w2 ⟨zz, rfl⟩
    go_wp2
    go_ret
    exact ⟨ret_b HE.out.symm, HB.out.trans (zz.ok.mono HB.out.size)⟩
  have HE : Hid (v = (decide (0 ≤ x ∧ x ≤ bankN a b c d - 1) && (decide (0 ≤ y ∧ y ≤ c - 1) && decide (0 ≤ z ∧ z ≤ d - 1)))) := by
    show _ = _
    rw [← HV.out, Bool.eq_iff_iff]
    simp only [Bool.and_eq_true, decide_eq_true_eq]
    exact Iff.rfl
  have hb1 : 1 ≤ bankN a b c d := by
    have h := k
    unfold bankN
    rw [if_pos h]
    obtain ⟨⟨h1, h2⟩, ⟨h3, h4⟩, _⟩ := h
    have : a = 1 ∨ a = 2 := by omega
    rcases this with rfl | rfl <;> omega
  rw [← clampF_eq (by omega : (0 : Int) ≤ bankN a b c d - 1), ← clampF_eq (by have h := k.2.2.1; omega : (0 : Int) ≤ c - 1), ← clampF_eq (by have h := k.2.2.2; omega : (0 : Int) ≤ d - 1)] at HE
  have NEAR := Lib.hid (implNear_is a b c d x y z _ _ _ _ rfl k rfl rfl rfl)
  have K := Lib.hid (decide_eq_true k)
  generalize clampF x 0 (bankN a b c d - 1) = X at HE NEAR
  generalize clampF y 0 (c - 1) = Y at HE NEAR
  generalize clampF z 0 (d - 1) = Z at HE NEAR
  clear HV hb1 k
  obtain ⟨p0, hp0⟩ : ∃ p, (x == X) = p := ⟨_, rfl⟩
  rw [hp0] at HE
  cases p0
  case false =>
    rw [Bool.false_and] at HE
    go_enter Tryd.func45, Tryd.ntmps45
    go_wp2_with fail
    refine wp_region_later (by kernel_rfl) (by kernel_rfl) ?_
    repeat (go_big_quiet_step (first | (go_at_call 40; exact Gives.later _ (implGeoOk_is _ _ _ _ _ K.out _)) | (go_at_call 84; exact Gives.later _ (NEAR.out _))))
    refine wpQuiet_nil ?_
    rintro w2 ⟨zz, rfl⟩
    go_wp2
    go_ret
    exact ⟨ret_b HE.out.symm, HB.out.trans (zz.ok.mono HB.out.size)⟩
  rw [Bool.true_and] at HE
  obtain ⟨p1, hp1⟩ : ∃ p, (y == Y) = p := ⟨_, rfl⟩
  rw [hp1] at HE
  cases p1
  case false =>
    rw [Bool.false_and] at HE
    go_enter Tryd.func45, Tryd.ntmps45
    go_wp2_with fail
    refine wp_region_later (by kernel_rfl) (by kernel_rfl) ?_
    repeat (go_big_quiet_step (first | (go_at_call 40; exact Gives.later _ (implGeoOk_is _ _ _ _ _ K.out _)) | (go_at_call 84; exact Gives.later _ (NEAR.out _))))
    refine wpQuiet_nil ?_
    rintro w2 ⟨zz, rfl⟩
    go_wp2
    go_ret
    exact ⟨ret_b HE.out.symm, HB.out.trans (zz.ok.mono HB.out.size)⟩
  rw [Bool.true_and] at HE
  obtain ⟨p2, hp2⟩ : ∃ p, (z == Z) = p := ⟨_, rfl⟩
  rw [hp2] at HE
  cases p2
  case false =>
    go_enter Tryd.func45, Tryd.ntmps45
    go_wp2_with fail
    refine wp_region_later (by kernel_rfl) (by kernel_rfl) ?_
    repeat (go_big_quiet_step (first | (go_at_call 40; exact Gives.later _ (implGeoOk_is _ _ _ _ _ K.out _)) | (go_at_call 84; exact Gives.later _ (NEAR.out _))))
    refine wpQuiet_nil ?_
    rintro w2 ⟨zz, rfl⟩
    go_wp2
    go_ret
    exact ⟨ret_b HE.out.symm, HB.out.trans (zz.ok.mono HB.out.size)⟩

  go_enter Tryd.func45, Tryd.ntmps45
  go_wp2_with fail
  refine wp_region_later (by kernel_rfl) (by kernel_rfl) ?_
  repeat (go_big_quiet_step (first | (go_at_call 40; exact Gives.later _ (implGeoOk_is _ _ _ _ _ K.out _)) | (go_at_call 84; exact Gives.later _ (NEAR.out _))))
  refine wpQuiet_nil ?_
  rintro w2 ⟨zz, rfl⟩
  go_wp2
  go_ret
  exact ⟨ret_b HE.out.symm, HB.out.trans (zz.ok.mono HB.out.size)⟩

theorem implLine_is (a b c d v : Int) (hv : lineN a b c d = v) (w : World) :
    Calls Tryd.prog 51 #[.agg #[.int .i64 a, .int .i64 b, .int .i64 c, .int .i64 d]] w (Gives (.int .i64 v) w) := by
  have hr := lineN_range a b c d
  obtain ⟨n, hn⟩ : ∃ n, bankN a b c d = n := ⟨_, rfl⟩
  have HN := Lib.hid hn
  have hl : lineN a b c d = n * c * d := by unfold lineN; rw [hn]
  have HE : Hid (v = n * c * d) := by show _ = _; rw [← hv, hl]
  have hp : 0 ≤ n * c ∧ n * c ≤ 8 * 16 := by
    rw [← hn]
    by_cases k : GeoOk a b c d
    · have hb := bankN_range a b c d
      obtain ⟨_, _, ⟨h1, h2⟩, _⟩ := k
      exact ⟨Int.mul_nonneg hb.1 (by omega), Int.mul_le_mul hb.2 h2 (by omega) (by omega)⟩
    · have h0 : bankN a b c d = 0 := if_neg k
      rw [h0, Int.zero_mul]; omega
  rw [hl] at hr
  have e1 : IntKind.i64.wrap (n * c) = n * c := IntWalk.i64_in _ ⟨by omega, by omega⟩
  have e2 : IntKind.i64.wrap (n * c * d) = n * c * d := IntWalk.i64_in _ ⟨by omega, by omega⟩
  clear hn hl hp hr hv
  obtain ⟨w1, hw1⟩ : ∃ w1, w.alloc (.cells #[.int .i64 a, .int .i64 b, .int .i64 c, .int .i64 d] 25) = w1 := ⟨_, rfl⟩
  have HB : Hid (Below w.heap.size w w1) := by subst hw1; exact (Below.refl _ _).alloc (Nat.le_refl _) _
  have hA : w1.heap[w.heap.size]? = some (.cells #[.int .i64 a, .int .i64 b, .int .i64 c, .int .i64 d] 25) := hw1 ▸ heap_alloc_new w _
  obtain ⟨a0, a1, a2, a3⟩ := cells4 hA
  have za0 := fun zz : Later w1 => zz.cell a0
  have za1 := fun zz : Later w1 => zz.cell a1
  have za2 := fun zz : Later w1 => zz.cell a2
  have za3 := fun zz : Later w1 => zz.cell a3
  clear hA a0 a1 a2 a3
  go_enter Tryd.func51, Tryd.ntmps51
  go_wp2_with fail
  refine wp_region_later (by kernel_rfl) (by kernel_rfl) ?_
  repeat (go_big_quiet_step (first | (go_at_call 90; exact Gives.later _ (implBank_is _ _ _ _ _ HN.out _))))
  refine wpQuiet_nil ?_
  rintro w2 ⟨zz, rfl⟩
  go_wp2
  go_ret
  exact ⟨ret_i HE.out.symm, HB.out.trans (zz.ok.mono HB.out.size)⟩

theorem implIndex_is (a b c d x y z v : Int) (hv : idxF a b c d x y z = v) (w : World) :
    Calls Tryd.prog 46 #[.agg #[.int .i64 a, .int .i64 b, .int .i64 c, .int .i64 d], .agg #[.int .i64 x, .int .i64 y, .int .i64 z]] w (Gives (.int .i64 v) w) := by
  have HV := Lib.hid hv
  clear hv
  by_cases k : AdOk a b c d x y z
  · have K := Lib.hid (decide_eq_true k)
    have HE : Hid (v = (x * c + y) * d + z) := by show _ = _; rw [← HV.out]; exact if_pos k
    obtain ⟨q1, q2, q3, q4⟩ := idx_bounds k
    have k1 := k.2.1.1
    have k2 := k.2.2.1
    have e1 : IntKind.i64.wrap (x * c) = x * c := IntWalk.i64_in _ ⟨by omega, by omega⟩
    have e2 : IntKind.i64.wrap (x * c + y) = x * c + y := IntWalk.i64_in _ ⟨by omega, by omega⟩
    have e3 : IntKind.i64.wrap ((x * c + y) * d) = (x * c + y) * d := IntWalk.i64_in _ ⟨by omega, by omega⟩
    have e4 : IntKind.i64.wrap ((x * c + y) * d + z) = (x * c + y) * d + z := IntWalk.i64_in _ ⟨by omega, by omega⟩
    clear k q1 q2 q3 q4 k1 k2
    go_enter Tryd.func46, Tryd.ntmps46
    go_wp2_with fail
    refine (implAddrOk_is a b c d x y z _ K.out _).mono ?_
    rintro e w1 ⟨rfl, hb1⟩
    obtain ⟨x0, x1, x2, x3⟩ := cells4 (keep_block hb1 (heap_alloc2_old _ _ _) (by simp; omega))
    obtain ⟨y0, y1, y2⟩ := cells3 (keep_block hb1 (heap_alloc2_new _ _ _) (by simp))
    have HB : Hid (Below w.heap.size w w1) := (((Below.refl _ _).alloc (Nat.le_refl _) _).alloc (by simp) _).trans (hb1.mono (by simp <;> omega))
    clear hb1
    go_wp2
    go_ret
    exact ⟨ret_i HE.out.symm, HB.out⟩
  · have K := Lib.hid (decide_eq_false k)
    have HE : Hid (v = -1) := by show _ = _; rw [← HV.out]; exact if_neg k
    clear k
    go_enter Tryd.func46, Tryd.ntmps46
    go_wp2_with fail
    refine (implAddrOk_is a b c d x y z _ K.out _).mono ?_
    rintro e w1 ⟨rfl, hb1⟩
    have HB : Hid (Below w.heap.size w w1) := (((Below.refl _ _).alloc (Nat.le_refl _) _).alloc (by simp) _).trans (hb1.mono (by simp <;> omega))
    clear hb1
    go_wp2
    go_ret
    exact ⟨ret_i HE.out.symm, HB.out⟩

end Go.Proofs.YtfpfgaifhmgpiaaDoor
