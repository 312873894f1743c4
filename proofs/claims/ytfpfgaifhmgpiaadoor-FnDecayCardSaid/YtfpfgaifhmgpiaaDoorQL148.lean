/-
  Texts of one proof, merged: GeoW, GfW.
-/
import Derived.Test.YtfpfgaifhmgpiaaDoorQL141
import Derived.Test.YtfpfgaifhmgpiaaDoorQL142
import Derived.Test.YtfpfgaifhmgpiaaDoorQL145
import Derived.Test.YtfpfgaifhmgpiaaDoorQL147
namespace Go.Proofs.YtfpfgaifhmgpiaaDoor
open Go.RowKit

set_option linter.unusedVariables false

theorem specIn_is (x lo hi : Int) (v : Bool) (h : decide (lo ≤ x ∧ x ≤ hi) = v) (w : World) :
    Calls Tryd.prog 78 #[.int .i64 x, .int .i64 lo, .int .i64 hi] w fun e w' => e = .returned (.bool v) ∧ w = w' := by
  subst h
  go_enter Tryd.func78, Tryd.ntmps78
  by_cases h0 : lo ≤ x <;> by_cases h1 : x ≤ hi
  all_goals (go_wp2; go_ret; refine ⟨?_, rfl⟩; simp [h0, h1])

def GeoOk (a b c d : Int) : Prop := (1 ≤ a ∧ a ≤ 2) ∧ (1 ≤ b ∧ b ≤ 4) ∧ (2 ≤ c ∧ c ≤ 16) ∧ (1 ≤ d ∧ d ≤ 8)

instance (a b c d : Int) : Decidable (GeoOk a b c d) := inferInstanceAs (Decidable (_ ∧ _))

set_option maxHeartbeats 1000000 in
theorem specGeoOk_is (a b c d : Int) (v : Bool) (hv : decide (GeoOk a b c d) = v) (w : World) :
    Calls Tryd.prog 35 #[.agg #[.int .i64 a, .int .i64 b, .int .i64 c, .int .i64 d]] w (Gives (.bool v) w) := by
  have HV := Lib.hid hv
  clear hv
  by_cases k1 : 1 ≤ a ∧ a ≤ 2
  case neg =>
    have HE := Lib.hid (HV.out.symm.trans (decide_eq_false (fun h => k1 h.1)))
    have K1 := Lib.hid (decide_eq_false k1)
    clear k1
    go_enter Tryd.func35, Tryd.ntmps35
    go_wp2_with (first | (go_at_call_of 78 a; refine (specIn_is _ _ _ _ K1.out _).mono ?_; rintro e w' ⟨rfl, rfl⟩))
    go_ret
    refine ⟨by rw [HE.out]; rfl, ?_⟩
    repeat' (first | exact Below.refl _ _ | refine Below.drew ?_ | refine Below.alloc ?_ (by simp <;> omega) _ | refine Below.setCell ?_ (by simp <;> omega) _)
  by_cases k2 : 1 ≤ b ∧ b ≤ 4
  case neg =>
    have HE := Lib.hid (HV.out.symm.trans (decide_eq_false (fun h => k2 h.2.1)))
    have K1 := Lib.hid (decide_eq_true k1)
    have K2 := Lib.hid (decide_eq_false k2)
    clear k1 k2
    go_enter Tryd.func35, Tryd.ntmps35
    go_wp2_with (first | (go_at_call_of 78 a; refine (specIn_is _ _ _ _ K1.out _).mono ?_; rintro e w' ⟨rfl, rfl⟩) | (go_at_call_of 78 b; refine (specIn_is _ _ _ _ K2.out _).mono ?_; rintro e w' ⟨rfl, rfl⟩))
    go_ret
    refine ⟨by rw [HE.out]; rfl, ?_⟩
    repeat' (first | exact Below.refl _ _ | refine Below.drew ?_ | refine Below.alloc ?_ (by simp <;> omega) _ | refine Below.setCell ?_ (by simp <;> omega) _)
  by_cases k3 : 2 ≤ c ∧ c ≤ 16
  case neg =>
    have HE := Lib.hid (HV.out.symm.trans (decide_eq_false (fun h => k3 h.2.2.1)))
    have K1 := Lib.hid (decide_eq_true k1)
    have K2 := Lib.hid (decide_eq_true k2)
    have K3 := Lib.hid (decide_eq_false k3)
    clear k1 k2 k3
    go_enter Tryd.func35, Tryd.ntmps35
    go_wp2_with (first | (go_at_call_of 78 a; refine (specIn_is _ _ _ _ K1.out _).mono ?_; rintro e w' ⟨rfl, rfl⟩) | (go_at_call_of 78 b; refine (specIn_is _ _ _ _ K2.out _).mono ?_; rintro e w' ⟨rfl, rfl⟩) | (go_at_call_of 78 c; refine (specIn_is _ _ _ _ K3.out _).mono ?_; rintro e w' ⟨rfl, rfl⟩))
    go_ret
    refine ⟨by rw [HE.out]; rfl, ?_⟩
    repeat' (first | exact Below.refl _ _ | refine Below.drew ?_ | refine Below.alloc ?_ (by simp <;> omega) _ | refine Below.setCell ?_ (by simp <;> omega) _)
  by_cases k4 : 1 ≤ d ∧ d ≤ 8
  case neg =>
    have HE := Lib.hid (HV.out.symm.trans (decide_eq_false (fun h => k4 h.2.2.2)))
    have K1 := Lib.hid (decide_eq_true k1)
    have K2 := Lib.hid (decide_eq_true k2)
    have K3 := Lib.hid (decide_eq_true k3)
    have K4 := Lib.hid (decide_eq_false k4)
    clear k1 k2 k3 k4
    go_enter Tryd.func35, Tryd.ntmps35
    go_wp2_with (first | (go_at_call_of 78 a; refine (specIn_is _ _ _ _ K1.out _).mono ?_; rintro e w' ⟨rfl, rfl⟩) | (go_at_call_of 78 b; refine (specIn_is _ _ _ _ K2.out _).mono ?_; rintro e w' ⟨rfl, rfl⟩) | (go_at_call_of 78 c; refine (specIn_is _ _ _ _ K3.out _).mono ?_; rintro e w' ⟨rfl, rfl⟩) | (go_at_call_of 78 d; refine (specIn_is _ _ _ _ K4.out _).mono ?_; rintro e w' ⟨rfl, rfl⟩))
    go_ret
    refine ⟨by rw [HE.out]; rfl, ?_⟩
    repeat' (first | exact Below.refl _ _ | refine Below.drew ?_ | refine Below.alloc ?_ (by simp <;> omega) _ | refine Below.setCell ?_ (by simp <;> omega) _)
  case pos =>
    have HE := Lib.hid (HV.out.symm.trans (decide_eq_true (show GeoOk a b c d from ⟨k1, k2, k3, k4⟩)))
    have K1 := Lib.hid (decide_eq_true k1)
    have K2 := Lib.hid (decide_eq_true k2)
    have K3 := Lib.hid (decide_eq_true k3)
    have K4 := Lib.hid (decide_eq_true k4)
    clear k1 k2 k3 k4
    go_enter Tryd.func35, Tryd.ntmps35
    go_wp2_with (first | (go_at_call_of 78 a; refine (specIn_is _ _ _ _ K1.out _).mono ?_; rintro e w' ⟨rfl, rfl⟩) | (go_at_call_of 78 b; refine (specIn_is _ _ _ _ K2.out _).mono ?_; rintro e w' ⟨rfl, rfl⟩) | (go_at_call_of 78 c; refine (specIn_is _ _ _ _ K3.out _).mono ?_; rintro e w' ⟨rfl, rfl⟩) | (go_at_call_of 78 d; refine (specIn_is _ _ _ _ K4.out _).mono ?_; rintro e w' ⟨rfl, rfl⟩))
    go_ret
    refine ⟨by rw [HE.out]; rfl, ?_⟩
    repeat' (first | exact Below.refl _ _ | refine Below.drew ?_ | refine Below.alloc ?_ (by simp <;> omega) _ | refine Below.setCell ?_ (by simp <;> omega) _)

/-- The number of banks. -/
def bankN (a b c d : Int) : Int := if GeoOk a b c d then a * b else 0

theorem bankN_range (a b c d : Int) : 0 ≤ bankN a b c d ∧ bankN a b c d ≤ 8 := by
  unfold bankN
  split
  · rename_i h
    obtain ⟨⟨h1, h2⟩, ⟨h3, h4⟩, _⟩ := h
    have : a = 1 ∨ a = 2 := by omega
    rcases this with rfl | rfl <;> omega
  · omega

theorem specBank_is (a b c d v : Int) (hv : bankN a b c d = v) (w : World) :
    Calls Tryd.prog 12 #[.agg #[.int .i64 a, .int .i64 b, .int .i64 c, .int .i64 d]] w (Gives (.int .i64 v) w) := by
  have HV := Lib.hid hv
  clear hv
  by_cases k : GeoOk a b c d
  · have K := Lib.hid (decide_eq_true k)
    have HE : Hid (v = a * b) := by show _ = _; rw [← HV.out]; exact if_pos k
    obtain ⟨⟨h1, h2⟩, ⟨h3, h4⟩, _⟩ := k
    have e1 : IntKind.i64.wrap (a * b) = a * b := by
      refine IntWalk.i64_in _ ?_
      have : a = 1 ∨ a = 2 := by omega
      rcases this with rfl | rfl <;> omega
    go_enter Tryd.func12, Tryd.ntmps12
    go_wp2_with fail
    refine (specGeoOk_is a b c d _ K.out _).mono ?_
    rintro e w1 ⟨rfl, hb1⟩
    obtain ⟨x0, x1, x2, x3⟩ := cells4 (keep_block hb1 (heap_alloc_new _ _) (by simp))
    have HB : Hid (Below w.heap.size w w1) := ((Below.refl _ _).alloc (Nat.le_refl _) _).trans (hb1.mono (by simp))
    clear hb1
    go_wp2
    go_ret
    exact ⟨ret_i HE.out.symm, HB.out⟩
  · have K := Lib.hid (decide_eq_false k)
    have HE : Hid (v = 0) := by show _ = _; rw [← HV.out]; exact if_neg k
    clear k
    go_enter Tryd.func12, Tryd.ntmps12
    go_wp2_with fail
    refine (specGeoOk_is a b c d _ K.out _).mono ?_
    rintro e w1 ⟨rfl, hb1⟩
    have HB : Hid (Below w.heap.size w w1) := ((Below.refl _ _).alloc (Nat.le_refl _) _).trans (hb1.mono (by simp))
    clear hb1
    go_wp2
    go_ret
    exact ⟨ret_i HE.out.symm, HB.out⟩

/-- An address of the geometry. -/
def AdOk (a b c d x y z : Int) : Prop := (0 ≤ x ∧ x ≤ bankN a b c d - 1) ∧ (0 ≤ y ∧ y ≤ c - 1) ∧ (0 ≤ z ∧ z ≤ d - 1)

instance (a b c d x y z : Int) : Decidable (AdOk a b c d x y z) := inferInstanceAs (Decidable (_ ∧ _))

theorem geo_of_bank {a b c d x : Int} (h : 0 ≤ x ∧ x ≤ bankN a b c d - 1) : GeoOk a b c d := by
  unfold bankN at h
  split at h
  · assumption
  · omega

set_option maxHeartbeats 1000000 in
theorem specAddrOk_is (a b c d x y z : Int) (v : Bool) (hv : decide (AdOk a b c d x y z) = v) (w : World) :
    Calls Tryd.prog 96 #[.agg #[.int .i64 a, .int .i64 b, .int .i64 c, .int .i64 d], .agg #[.int .i64 x, .int .i64 y, .int .i64 z]] w (Gives (.bool v) w) := by
  have HV := Lib.hid hv
  clear hv
  obtain ⟨n, hn⟩ : ∃ n, bankN a b c d = n := ⟨_, rfl⟩
  have HN := Lib.hid hn
  have hn2 := bankN_range a b c d
  rw [hn] at hn2
  clear hn
  obtain ⟨w1, hw1⟩ : ∃ w1, (w.alloc (.cells #[.int .i64 a, .int .i64 b, .int .i64 c, .int .i64 d] 25)).alloc (.cells #[.int .i64 x, .int .i64 y, .int .i64 z] 45) = w1 := ⟨_, rfl⟩
  have HB : Hid (Below w.heap.size w w1) := by subst hw1; exact ((Below.refl _ _).alloc (Nat.le_refl _) _).alloc (by simp) _
  have hA : w1.heap[w.heap.size]? = some (.cells #[.int .i64 a, .int .i64 b, .int .i64 c, .int .i64 d] 25) := hw1 ▸ heap_alloc2_old w _ _
  have hC : w1.heap[w.heap.size + 1]? = some (.cells #[.int .i64 x, .int .i64 y, .int .i64 z] 45) := hw1 ▸ heap_alloc2_new w _ _
  obtain ⟨a0, a1, a2, a3⟩ := cells4 hA
  obtain ⟨b0, b1, b2⟩ := cells3 hC
  have za0 := fun zz : Later w1 => zz.cell a0
  have za1 := fun zz : Later w1 => zz.cell a1
  have za2 := fun zz : Later w1 => zz.cell a2
  have za3 := fun zz : Later w1 => zz.cell a3
  have zb0 := fun zz : Later w1 => zz.cell b0
  have zb1 := fun zz : Later w1 => zz.cell b1
  have zb2 := fun zz : Later w1 => zz.cell b2
  clear hA hC a0 a1 a2 a3 b0 b1 b2
  have e1 : IntKind.i64.wrap (n - 1) = n - 1 := IntWalk.i64_in _ ⟨by omega, by omega⟩
  by_cases k1 : 0 ≤ x ∧ x ≤ n - 1
  case neg =>
    have HE := Lib.hid (HV.out.symm.trans (decide_eq_false (fun h => k1 (by rw [← HN.out]; exact h.1))))
    have K1 := Lib.hid (decide_eq_false k1)
    clear k1
    go_enter Tryd.func96, Tryd.ntmps96
    go_wp2_with fail
    refine wp_region_later (by kernel_rfl) (by kernel_rfl) ?_
    repeat (go_big_quiet_step (first | (go_at_call 12; exact Gives.later _ (specBank_is _ _ _ _ _ HN.out _)) | (go_at_call_of 78 x; exact Gives.later_same _ (specIn_is _ _ _ _ K1.out _))))
    refine wpQuiet_nil ?_
    rintro w2 ⟨zz, rfl⟩
    go_wp2
    go_ret
    exact ⟨ret_b HE.out.symm, HB.out.trans (zz.ok.mono HB.out.size)⟩
  by_cases k2 : 0 ≤ y ∧ y ≤ c - 1
  case neg =>
    have hg := geo_of_bank (a := a) (b := b) (c := c) (d := d) (x := x) (by rw [HN.out]; exact k1)
    obtain ⟨_, _, ⟨g0, g1⟩, ⟨g2, g3⟩⟩ := hg
    have e2 : IntKind.i64.wrap (c - 1) = c - 1 := IntWalk.i64_in _ ⟨by omega, by omega⟩
    have e3 : IntKind.i64.wrap (d - 1) = d - 1 := IntWalk.i64_in _ ⟨by omega, by omega⟩
    have HE := Lib.hid (HV.out.symm.trans (decide_eq_false (fun h => k2 h.2.1)))
    have K1 := Lib.hid (decide_eq_true k1)
    have K2 := Lib.hid (decide_eq_false k2)
    clear k1 k2
    go_enter Tryd.func96, Tryd.ntmps96
    go_wp2_with fail
    refine wp_region_later (by kernel_rfl) (by kernel_rfl) ?_
    repeat (go_big_quiet_step (first | (go_at_call 12; exact Gives.later _ (specBank_is _ _ _ _ _ HN.out _)) | (go_at_call_of 78 x; exact Gives.later_same _ (specIn_is _ _ _ _ K1.out _)) | (go_at_call_of 78 y; exact Gives.later_same _ (specIn_is _ _ _ _ K2.out _))))
    refine wpQuiet_nil ?_
    rintro w2 ⟨zz, rfl⟩
    go_wp2
    go_ret
    exact ⟨ret_b HE.out.symm, HB.out.trans (zz.ok.mono HB.out.size)⟩
  by_cases k3 : 0 ≤ z ∧ z ≤ d - 1
  case neg =>
    have hg := geo_of_bank (a := a) (b := b) (c := c) (d := d) (x := x) (by rw [HN.out]; exact k1)
    obtain ⟨_, _, ⟨g0, g1⟩, ⟨g2, g3⟩⟩ := hg
    have e2 : IntKind.i64.wrap (c - 1) = c - 1 := IntWalk.i64_in _ ⟨by omega, by omega⟩
    have e3 : IntKind.i64.wrap (d - 1) = d - 1 := IntWalk.i64_in _ ⟨by omega, by omega⟩
    have HE := Lib.hid (HV.out.symm.trans (decide_eq_false (fun h => k3 h.2.2)))
    have K1 := Lib.hid (decide_eq_true k1)
    have K2 := Lib.hid (decide_eq_true k2)
    have K3 := Lib.hid (decide_eq_false k3)
    clear k1 k2 k3
    go_enter Tryd.func96, Tryd.ntmps96
    go_wp2_with fail
    refine wp_region_later (by kernel_rfl) (by kernel_rfl) ?_
    repeat (go_big_quiet_step (first | (go_at_call 12; exact Gives.later _ (specBank_is _ _ _ _ _ HN.out _)) | (go_at_call_of 78 x; exact Gives.later_same _ (specIn_is _ _ _ _ K1.out _)) | (go_at_call_of 78 y; exact Gives.later_same _ (specIn_is _ _ _ _ K2.out _)) | (go_at_call_of 78 z; exact Gives.later_same _ (specIn_is _ _ _ _ K3.out _))))
    refine wpQuiet_nil ?_
    rintro w2 ⟨zz, rfl⟩
    go_wp2
    go_ret
    exact ⟨ret_b HE.out.symm, HB.out.trans (zz.ok.mono HB.out.size)⟩
  case pos =>
    have hg := geo_of_bank (a := a) (b := b) (c := c) (d := d) (x := x) (by rw [HN.out]; exact k1)
    obtain ⟨_, _, ⟨g0, g1⟩, ⟨g2, g3⟩⟩ := hg
    have e2 : IntKind.i64.wrap (c - 1) = c - 1 := IntWalk.i64_in _ ⟨by omega, by omega⟩
    have e3 : IntKind.i64.wrap (d - 1) = d - 1 := IntWalk.i64_in _ ⟨by omega, by omega⟩
    have HE := Lib.hid (HV.out.symm.trans (decide_eq_true (show AdOk a b c d x y z from ⟨by rw [HN.out]; exact k1, k2, k3⟩)))
    have K1 := Lib.hid (decide_eq_true k1)
    have K2 := Lib.hid (decide_eq_true k2)
    have K3 := Lib.hid (decide_eq_true k3)
    clear k1 k2 k3
    go_enter Tryd.func96, Tryd.ntmps96
    go_wp2_with fail
    refine wp_region_later (by kernel_rfl) (by kernel_rfl) ?_
    repeat (go_big_quiet_step (first | (go_at_call 12; exact Gives.later _ (specBank_is _ _ _ _ _ HN.out _)) | (go_at_call_of 78 x; exact Gives.later_same _ (specIn_is _ _ _ _ K1.out _)) | (go_at_call_of 78 y; exact Gives.later_same _ (specIn_is _ _ _ _ K2.out _)) | (go_at_call_of 78 z; exact Gives.later_same _ (specIn_is _ _ _ _ K3.out _))))
    refine wpQuiet_nil ?_
    rintro w2 ⟨zz, rfl⟩
    go_wp2
    go_ret
    exact ⟨ret_b HE.out.symm, HB.out.trans (zz.ok.mono HB.out.size)⟩

/-- The number of lines. -/
def lineN (a b c d : Int) : Int := bankN a b c d * c * d

theorem lineN_non {a b c d : Int} (h : ¬ GeoOk a b c d) : lineN a b c d = 0 := by
  unfold lineN bankN
  rw [if_neg h, Int.zero_mul, Int.zero_mul]

theorem lineN_range (a b c d : Int) : 0 ≤ lineN a b c d ∧ lineN a b c d ≤ 1024 := by
  by_cases h : GeoOk a b c d
  · have hb := bankN_range a b c d
    obtain ⟨_, _, ⟨h1, h2⟩, ⟨h3, h4⟩⟩ := h
    unfold lineN
    have p1 : 0 ≤ bankN a b c d * c := Int.mul_nonneg hb.1 (by omega)
    have p2 : bankN a b c d * c ≤ 8 * 16 := Int.mul_le_mul hb.2 h2 (by omega) (by omega)
    exact ⟨Int.mul_nonneg p1 (by omega), Int.mul_le_mul p2 h4 (by omega) (by omega)⟩
  · rw [lineN_non h]; omega

theorem specLine_is (a b c d v : Int) (hv : lineN a b c d = v) (w : World) :
    Calls Tryd.prog 44 #[.agg #[.int .i64 a, .int .i64 b, .int .i64 c, .int .i64 d]] w (Gives (.int .i64 v) w) := by
  have HV := Lib.hid hv
  clear hv
  by_cases k : GeoOk a b c d
  · have K := Lib.hid (decide_eq_true k)
    obtain ⟨_, _, ⟨h1, h2⟩, ⟨h3, h4⟩⟩ := k
    have hr := lineN_range a b c d
    obtain ⟨n, hn⟩ : ∃ n, bankN a b c d = n := ⟨_, rfl⟩
    have HN := Lib.hid hn
    have hn2 := bankN_range a b c d
    have hl : lineN a b c d = n * c * d := by unfold lineN; rw [hn]
    rw [hn] at hn2
    rw [hl] at hr
    have p1 : 0 ≤ n * c := Int.mul_nonneg hn2.1 (by omega)
    have p2 : n * c ≤ 8 * 16 := Int.mul_le_mul hn2.2 h2 (by omega) (by omega)
    have HE : Hid (v = n * c * d) := by show _ = _; rw [← HV.out, hl]
    have e1 : IntKind.i64.wrap (n * c) = n * c := IntWalk.i64_in _ ⟨by omega, by omega⟩
    have e2 : IntKind.i64.wrap (n * c * d) = n * c * d := IntWalk.i64_in _ ⟨by omega, by omega⟩
    clear hn hl p1 p2 hr
    go_enter Tryd.func44, Tryd.ntmps44
    go_wp2_with fail
    refine (specGeoOk_is a b c d _ K.out _).mono ?_
    rintro e w1 ⟨rfl, hb1⟩
    have hA := keep_block hb1 (heap_alloc_new _ _) (by simp)
    obtain ⟨x0, x1, x2, x3⟩ := cells4 hA
    have za0 := fun zz : Later w1 => zz.cell x0
    have za1 := fun zz : Later w1 => zz.cell x1
    have za2 := fun zz : Later w1 => zz.cell x2
    have za3 := fun zz : Later w1 => zz.cell x3
    have HB : Hid (Below w.heap.size w w1) := ((Below.refl _ _).alloc (Nat.le_refl _) _).trans (hb1.mono (by simp))
    clear hb1 hA x0 x1 x2 x3
    go_wp2_with fail
    refine wp_region_later (by kernel_rfl) (by kernel_rfl) ?_
    repeat (go_big_quiet_step (first | (go_at_call 12; exact Gives.later _ (specBank_is _ _ _ _ _ HN.out _))))
    refine wpQuiet_nil ?_
    rintro w2 ⟨zz, rfl⟩
    go_wp2
    go_ret
    exact ⟨ret_i HE.out.symm, HB.out.trans (zz.ok.mono HB.out.size)⟩
  · have K := Lib.hid (decide_eq_false k)
    have HE : Hid (v = 0) := by show _ = _; rw [← HV.out]; exact lineN_non k
    clear k
    go_enter Tryd.func44, Tryd.ntmps44
    go_wp2_with fail
    refine (specGeoOk_is a b c d _ K.out _).mono ?_
    rintro e w1 ⟨rfl, hb1⟩
    have HB : Hid (Below w.heap.size w w1) := ((Below.refl _ _).alloc (Nat.le_refl _) _).trans (hb1.mono (by simp))
    clear hb1
    go_wp2
    go_ret
    exact ⟨ret_i HE.out.symm, HB.out⟩

/-- The index of an address. -/
def idxF (a b c d x y z : Int) : Int := if AdOk a b c d x y z then (x * c + y) * d + z else -1

theorem idx_bounds {a b c d x y z : Int} (h : AdOk a b c d x y z) : 0 ≤ x * c ∧ x * c + y ≤ 8 * 16 ∧ 0 ≤ (x * c + y) * d ∧ (x * c + y) * d + z ≤ 2000 := by
  obtain ⟨h1, h2, h3⟩ := h
  obtain ⟨_, _, ⟨g0, g1⟩, ⟨g2, g3⟩⟩ := geo_of_bank h1
  have hb := bankN_range a b c d
  have p1 : 0 ≤ x * c := Int.mul_nonneg h1.1 (by omega)
  have p2 : x * c ≤ 7 * 16 := Int.mul_le_mul (by omega) g1 (by omega) (by omega)
  have p3 : 0 ≤ (x * c + y) * d := Int.mul_nonneg (by omega) (by omega)
  have p4 : (x * c + y) * d ≤ 128 * 8 := Int.mul_le_mul (by omega) g3 (by omega) (by omega)
  omega

theorem specIndex_is (a b c d x y z v : Int) (hv : idxF a b c d x y z = v) (w : World) :
    Calls Tryd.prog 76 #[.agg #[.int .i64 a, .int .i64 b, .int .i64 c, .int .i64 d], .agg #[.int .i64 x, .int .i64 y, .int .i64 z]] w (Gives (.int .i64 v) w) := by
  have HV := Lib.hid hv
  clear hv
  by_cases k : AdOk a b c d x y z
  · have K := Lib.hid (decide_eq_true k)
    have HE : Hid (v = (x * c + y) * d + z) := by show _ = _; rw [← HV.out]; exact if_pos k
    obtain ⟨q1, q2, q3, q4⟩ := idx_bounds k
    have k1 := k.2.1.1
    have k2 := k.2.2.1
    have e1 : IntKind.i64.wrap (x * c) = x * c := IntWalk.i64_in _ ⟨by omega, by omega⟩
    have e2 : IntKind.i64.wrap (x * c + y) = x * c + y := IntWalk.i64_in _ ⟨by omega, by omega⟩
    have e3 : IntKind.i64.wrap ((x * c + y) * d) = (x * c + y) * d := IntWalk.i64_in _ ⟨by omega, by omega⟩
    have e4 : IntKind.i64.wrap ((x * c + y) * d + z) = (x * c + y) * d + z := IntWalk.i64_in _ ⟨by omega, by omega⟩
    clear k q1 q2 q3 q4 k1 k2
    go_enter Tryd.func76, Tryd.ntmps76
    go_wp2_with fail
    refine (specAddrOk_is a b c d x y z _ K.out _).mono ?_
    rintro e w1 ⟨rfl, hb1⟩
    obtain ⟨x0, x1, x2, x3⟩ := cells4 (keep_block hb1 (heap_alloc2_old _ _ _) (by simp; omega))
    obtain ⟨y0, y1, y2⟩ := cells3 (keep_block hb1 (heap_alloc2_new _ _ _) (by simp))
    have HB : Hid (Below w.heap.size w w1) := (((Below.refl _ _).alloc (Nat.le_refl _) _).alloc (by simp) _).trans (hb1.mono (by simp <;> omega))
    clear hb1
    go_wp2
    go_ret
    exact ⟨ret_i HE.out.symm, HB.out⟩
  · have K := Lib.hid (decide_eq_false k)
    have HE : Hid (v = -1) := by show _ = _; rw [← HV.out]; exact if_neg k
    clear k
    go_enter Tryd.func76, Tryd.ntmps76
    go_wp2_with fail
    refine (specAddrOk_is a b c d x y z _ K.out _).mono ?_
    rintro e w1 ⟨rfl, hb1⟩
    have HB : Hid (Below w.heap.size w w1) := (((Below.refl _ _).alloc (Nat.le_refl _) _).alloc (by simp) _).trans (hb1.mono (by simp <;> omega))
    clear hb1
    go_wp2
    go_ret
    exact ⟨ret_i HE.out.symm, HB.out⟩

/-- The number of a line. -/
def LnOk (a b c d n : Int) : Prop := 0 ≤ n ∧ n ≤ lineN a b c d - 1

instance (a b c d n : Int) : Decidable (LnOk a b c d n) := inferInstanceAs (Decidable (_ ∧ _))

end Go.Proofs.YtfpfgaifhmgpiaaDoor

namespace Go.Proofs.YtfpfgaifhmgpiaaDoor
open Go.RowKit

set_option linter.unusedVariables false

theorem specIs_is (a : Int) (v : Bool) (hv : decide (El a) = v) (w : World) :
    Calls Tryd.prog 106 #[.int .i64 a] w (Says (.bool v) w) := by
  have h' : Hid (decide (0 ≤ a ∧ a ≤ 15) = v) := hv
  clear hv
  go_enter Tryd.func106, Tryd.ntmps106
  go_wp2_with fail
  refine (specIn_is a 0 15 v h'.out w).mono ?_
  rintro e w' ⟨rfl, rfl⟩
  go_wp2
  go_ret
  exact ⟨rfl, rfl⟩

theorem bit_is (y k : Nat) (hy : y < 2 ^ 62) : (bits .and .i64 ((y : Int) / 2 ^ k) 1 == 1) = decide ((y >>> k) &&& 1 = 1) := by
  have e : (y : Int) / 2 ^ k = ((y >>> k : Nat) : Int) := by rw [Nat.shiftRight_eq_div_pow]; simp
  have h : y >>> k < 2 ^ 63 := by rw [Nat.shiftRight_eq_div_pow]; exact Nat.lt_of_le_of_lt (Nat.div_le_self _ _) (by omega)
  rw [e, show (1 : Int) = ((1 : Nat) : Int) from rfl, i64_and_nat _ 1 h (by decide)]
  by_cases hb : (y >>> k) &&& 1 = 1
  · rw [hb]; decide
  · rw [decide_eq_false hb, beq_eq_false_iff_ne]
    intro hh
    exact hb (by omega)

theorem gA_all : ∀ a b : Fin 16, ∀ i : Fin 5, gA a.1 b.1 i.1 < 256 := by decide +kernel

theorem gA_lt {a b i : Nat} (ha : a < 16) (hb : b < 16) (hi : i ≤ 4) : gA a b i < 256 := gA_all ⟨a, ha⟩ ⟨b, hb⟩ ⟨i, by omega⟩

/-- The product behind so many reductions. -/
def gS (x y : Nat) : Nat → Nat
  | 0 => gA x y 4
  | j + 1 => gR (gS x y j) (6 - j)

theorem gS_all : ∀ a b : Fin 16, ∀ i : Fin 4, gS a.1 b.1 i.1 < 256 := by decide +kernel

theorem gS_lt {a b i : Nat} (ha : a < 16) (hb : b < 16) (hi : i ≤ 3) : gS a b i < 256 := gS_all ⟨a, ha⟩ ⟨b, hb⟩ ⟨i, by omega⟩

theorem xs_is (P x k : Nat) (hP : P < 256) (hx : x < 32) (hk : k < 4) : bits .xor .i64 (P : Int) (wrap64 ((x : Int) * 2 ^ k)) = ((P ^^^ (x <<< k) : Nat) : Int) := by
  have h1 : x <<< k < 256 := by
    rw [Nat.shiftLeft_eq]
    have : 2 ^ k ≤ 8 := by
      have : k = 0 ∨ k = 1 ∨ k = 2 ∨ k = 3 := by omega
      rcases this with rfl | rfl | rfl | rfl <;> decide
    calc x * 2 ^ k ≤ 31 * 8 := Nat.mul_le_mul (by omega) this
      _ < 256 := by decide
  have e : (x : Int) * 2 ^ k = ((x <<< k : Nat) : Int) := by rw [Nat.shiftLeft_eq]; simp
  rw [e]
  generalize x <<< k = S at h1
  have w : wrap64 (S : Int) = (S : Int) := by rw [← IntWalk.i64_left]; exact IntWalk.i64_in _ (by omega)
  rw [w, i64_xor_nat P S (by omega) (by omega)]

set_option maxHeartbeats 4000000 in
set_option maxRecDepth 100000 in
theorem specGfMul_in (x y : Nat) (hx : x < 16) (hy : y < 16) (w : World) :
    Calls Tryd.prog 89 #[.int .i64 (x : Int), .int .i64 (y : Int)] w (Says (.int .i64 ((gm x y : Nat) : Int)) w) := by
  have KA : Hid (decide (El (x : Int)) = true) := decide_eq_true ⟨by omega, by omega⟩
  have KB : Hid (decide (El (y : Int)) = true) := decide_eq_true ⟨by omega, by omega⟩
  go_enter Tryd.func89, Tryd.ntmps89
  go_wp2_with fail
  refine (specIs_is (x : Int) true KA.out _).mono ?_
  rintro e w2 ⟨rfl, rfl⟩
  go_wp2_with fail
  refine (specIs_is (y : Int) true KB.out _).mono ?_
  rintro e w3 ⟨rfl, rfl⟩
  go_wp2_with fail
  go_loopw [5, 6] (fun o i wr => ∃ k : Nat, k ≤ 4 ∧ i = .int .i64 k ∧ o = .int .i64 ((gA x y k : Nat) : Int) ∧ wr = w) (fun _ i _ => 5 - (intOf i).toNat)
  case atStart => exact ⟨0, by omega, rfl, rfl, rfl⟩
  case round =>
    obtain ⟨k, hk, rfl, rfl, rfl⟩ := hrel
    by_cases hlt : k < 4
    case neg =>
      obtain rfl : k = 4 := by omega
      (try rw [show ((4 : Nat) : Int) = 4 from rfl])
      go_wp2_with fail
      go_loopw [5, 7] (fun o i wv => ∃ j : Nat, j ≤ 3 ∧ i = .int .i64 ((6 - j : Nat) : Int) ∧ o = .int .i64 ((gS x y j : Nat) : Int) ∧ wv = wr) (fun _ i _ => (intOf i).toNat)
      case atStart => exact ⟨0, by omega, rfl, rfl, by trivial⟩
      case round =>
        obtain ⟨j, hj, rfl, rfl, rfl⟩ := hrel
        obtain ⟨i, hi⟩ : ∃ i, 6 - j = i := ⟨_, rfl⟩
        rw [hi]
        by_cases hltj : j < 3
        case neg =>
          obtain rfl : j = 3 := by omega
          obtain rfl : i = 3 := by omega
          have t3 : decide ((4 : Int) ≤ ((3 : Nat) : Int)) = false := by decide
          clear hi
          go_wp2_with fail
          go_ret
          exact ⟨rfl, rfl⟩
        have t3 : decide ((4 : Int) ≤ (i : Int)) = true := decide_eq_true (by omega)
        have t3' : decide (4 ≤ i) = true := decide_eq_true (by omega)
        have u2 : IntKind.u64.wrap (i : Int) = (i : Int) := IntWalk.u64_in _ (by omega)
        have u3 : IntKind.i64.wrap ((i : Int) - 1) = ((i - 1 : Nat) : Int) := by rw [IntWalk.i64_in _ (by omega)]; omega
        have u4 : IntKind.i64.wrap ((i : Int) - 4) = ((i - 4 : Nat) : Int) := by rw [IntWalk.i64_in _ (by omega)]; omega
        have u5 : IntKind.u64.wrap ((i - 4 : Nat) : Int) = ((i - 4 : Nat) : Int) := IntWalk.u64_in _ (by omega)
        obtain ⟨P, hP⟩ : ∃ P, gS x y j = P := ⟨_, rfl⟩
        have hPl : P < 256 := by rw [← hP]; exact gS_lt hx hy (by omega)
        have HN : Hid (gS x y (j + 1) = gR P i) := by show gR (gS x y j) (6 - j) = _; rw [hP, hi]
        have HI := Lib.hid hi
        have hi4 : 4 ≤ i ∧ i ≤ 6 := by omega
        have hm1 : min i 64 = i := Nat.min_eq_left (by omega)
        have hm2 : min (i - 4) 64 = i - 4 := Nat.min_eq_left (by omega)
        rw [hP]
        have F := Lib.hid (bit_is P i (by omega))
        clear hi hP
        by_cases hbit : (P >>> i) &&& 1 = 1
        case neg =>
          have t1 : (bits .and .i64 ((P : Int) / 2 ^ i) 1 == 1) = false := by rw [F.out]; exact decide_eq_false hbit
          have HG : Hid (gR P i = P) := if_neg hbit
          clear hbit
          go_wp2_with fail
          go_roundw
          case rel => exact ⟨j + 1, by omega, by have := HI.out; congr 1; omega, by rw [HN.out, HG.out], by trivial⟩
          case measure => simp [intOf]; omega
        have t1 : (bits .and .i64 ((P : Int) / 2 ^ i) 1 == 1) = true := by rw [F.out]; exact decide_eq_true hbit
        have HG : Hid (gR P i = P ^^^ (19 <<< (i - 4))) := if_pos hbit
        have X := Lib.hid (xs_is P 19 (i - 4) (by omega) (by omega) (by omega))
        clear hbit
        go_wp2_with fail
        go_roundw
        case rel => exact ⟨j + 1, by omega, by have := HI.out; congr 1; omega, by rw [HN.out, HG.out, ← X.out]; rfl, by trivial⟩
        case measure => simp [intOf]; omega
    have t0 : decide ((k : Int) < 4) = true := decide_eq_true (by omega)
    have hI : (k : Int) < 4 := by omega
    have u0 : IntKind.u64.wrap (k : Int) = (k : Int) := IntWalk.u64_in _ (by omega)
    have u1 : IntKind.i64.wrap ((k : Int) + 1) = (k : Int) + 1 := IntWalk.i64_in _ (by omega)
    have F := Lib.hid (bit_is y k (by omega))
    by_cases hbit : (y >>> k) &&& 1 = 1
    case neg =>
      have t1 : (bits .and .i64 ((y : Int) / 2 ^ k) 1 == 1) = false := by rw [F.out]; exact decide_eq_false hbit
      have HG : Hid (gA x y (k + 1) = gA x y k) := if_neg hbit
      clear hbit
      go_wp2_with fail
      go_roundw
      case rel => exact ⟨k + 1, by omega, by go_num, by rw [HG.out], by trivial⟩
      case measure => simp [intOf]; omega
    have t1 : (bits .and .i64 ((y : Int) / 2 ^ k) 1 == 1) = true := by rw [F.out]; exact decide_eq_true hbit
    have HG : Hid (gA x y (k + 1) = gA x y k ^^^ (x <<< k)) := if_pos hbit
    clear hbit
    have X := Lib.hid (xs_is (gA x y k) x k (gA_lt hx hy hk) (by omega) (by omega))
    go_wp2_with fail
    go_roundw
    case rel => exact ⟨k + 1, by omega, by go_num, by rw [HG.out, ← X.out], by trivial⟩
    case measure => simp [intOf]; omega

theorem specGfMul_is (a b v : Int) (hv : gfMul a b = v) (w : World) :
    Calls Tryd.prog 89 #[.int .i64 a, .int .i64 b] w (Says (.int .i64 v) w) := by
  by_cases ha : El a
  case neg =>
    have HE : Hid (-1 = v) := by show _ = _; rw [← hv]; exact (if_neg (fun h => ha h.1)).symm
    have KA := Lib.hid (decide_eq_false ha)
    clear ha hv
    go_enter Tryd.func89, Tryd.ntmps89
    go_wp2_with fail
    refine (specIs_is a false KA.out _).mono ?_
    rintro e w2 ⟨rfl, rfl⟩
    go_wp2_with fail
    go_ret
    exact ⟨ret_i HE.out, rfl⟩
  have KA := Lib.hid (decide_eq_true ha)
  by_cases hb : El b
  case neg =>
    have HE : Hid (-1 = v) := by show _ = _; rw [← hv]; exact (if_neg (fun h => hb h.2)).symm
    have KB := Lib.hid (decide_eq_false hb)
    clear ha hb hv
    go_enter Tryd.func89, Tryd.ntmps89
    go_wp2_with fail
    refine (specIs_is a true KA.out _).mono ?_
    rintro e w2 ⟨rfl, rfl⟩
    go_wp2_with fail
    refine (specIs_is b false KB.out _).mono ?_
    rintro e w3 ⟨rfl, rfl⟩
    go_wp2_with fail
    go_ret
    exact ⟨ret_i HE.out, rfl⟩
  obtain ⟨x, rfl⟩ := Int.eq_ofNat_of_zero_le ha.1
  obtain ⟨y, rfl⟩ := Int.eq_ofNat_of_zero_le hb.1
  have hx : x < 16 := by have := ha.2; omega
  have hy : y < 16 := by have := hb.2; omega
  rw [← hv, gfMul_nat hx hy]
  exact specGfMul_in x y hx hy w

set_option maxHeartbeats 2000000 in
set_option maxRecDepth 100000 in
theorem specGfPow_is (a n v : Int) (hv : gfPow a n = v) (w : World) :
    Calls Tryd.prog 88 #[.int .i64 a, .int .i64 n] w (Says (.int .i64 v) w) := by
  by_cases ha : El a
  case neg =>
    have HE : Hid (-1 = v) := by show _ = _; rw [← hv]; exact (if_neg (fun h => ha h.1)).symm
    have KA := Lib.hid (decide_eq_false ha)
    clear ha hv
    go_enter Tryd.func88, Tryd.ntmps88
    go_wp2_with fail
    refine (specIs_is a false KA.out _).mono ?_
    rintro e w2 ⟨rfl, rfl⟩
    go_wp2_with fail
    go_ret
    exact ⟨ret_i HE.out, rfl⟩
  have KA := Lib.hid (decide_eq_true ha)
  by_cases hn : 0 ≤ n ∧ n ≤ 1000
  case neg =>
    have HE : Hid (-1 = v) := by show _ = _; rw [← hv]; exact (if_neg (fun h => hn h.2)).symm
    have KB := Lib.hid (decide_eq_false hn)
    clear ha hn hv
    go_enter Tryd.func88, Tryd.ntmps88
    go_wp2_with fail
    refine (specIs_is a true KA.out _).mono ?_
    rintro e w2 ⟨rfl, rfl⟩
    go_wp2_with fail
    refine (specIn_is n 0 1000 false KB.out _).mono ?_
    rintro e w3 ⟨rfl, rfl⟩
    go_wp2_with fail
    go_ret
    exact ⟨ret_i HE.out, rfl⟩
  have KB := Lib.hid (decide_eq_true hn)
  obtain ⟨x, rfl⟩ := Int.eq_ofNat_of_zero_le ha.1
  obtain ⟨m, rfl⟩ := Int.eq_ofNat_of_zero_le hn.1
  have hx : x < 16 := by have := ha.2; omega
  have hm : m ≤ 1000 := by omega
  have HE : Hid (((gp x m : Nat) : Int) = v) := by show _ = _; rw [← hv]; exact (gfPow_nat hx hm).symm
  clear ha hn hv
  go_enter Tryd.func88, Tryd.ntmps88
  go_wp2_with fail
  refine (specIs_is (x : Int) true KA.out _).mono ?_
  rintro e w2 ⟨rfl, rfl⟩
  go_wp2_with fail
  refine (specIn_is (m : Int) 0 1000 true KB.out _).mono ?_
  rintro e w3 ⟨rfl, rfl⟩
  go_wp2_with fail
  go_loopw [5, 6] (fun o i wr => ∃ k : Nat, k ≤ m ∧ i = .int .i64 k ∧ o = .int .i64 ((gp x k : Nat) : Int) ∧ wr = w) (fun _ i _ => m - (intOf i).toNat)
  case atStart => exact ⟨0, by omega, rfl, rfl, rfl⟩
  case round =>
    obtain ⟨k, hk, rfl, rfl, rfl⟩ := hrel
    by_cases hlt : k < m
    case neg =>
      obtain rfl : k = m := by omega
      go_wp2_with fail
      go_ret
      exact ⟨ret_i HE.out, rfl⟩
    have t0 : decide ((k : Int) < (m : Int)) = true := decide_eq_true (by omega)
    have u1 : IntKind.i64.wrap ((k : Int) + 1) = (k : Int) + 1 := IntWalk.i64_in _ (by omega)
    obtain ⟨Q, hQ⟩ : ∃ Q, gp x k = Q := ⟨_, rfl⟩
    have hQl : Q < 16 := by rw [← hQ]; exact gp_lt hx k
    have HN : Hid (gp x (k + 1) = gm Q x) := by show gm (gp x k) x = _; rw [hQ]
    have HM : Hid (gfMul (Q : Int) (x : Int) = ((gm Q x : Nat) : Int)) := gfMul_nat hQl hx
    rw [hQ]
    clear hQ
    go_wp2_with fail
    refine (specGfMul_is (Q : Int) (x : Int) _ HM.out _).mono ?_
    rintro e w2 ⟨rfl, rfl⟩
    go_wp2_with fail
    go_roundw
    case rel => exact ⟨k + 1, by omega, by go_num, by rw [HN.out], by trivial⟩
    case measure => simp [intOf]; omega

end Go.Proofs.YtfpfgaifhmgpiaaDoor
