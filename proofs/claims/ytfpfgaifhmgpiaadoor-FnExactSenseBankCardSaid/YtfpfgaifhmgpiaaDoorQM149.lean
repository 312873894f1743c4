/-
  Texts of one proof, merged: GeoW, GfW.
-/
import Derived.Test.YtfpfgaifhmgpiaaDoorQM141
import Derived.Test.YtfpfgaifhmgpiaaDoorQM142
import Derived.Test.YtfpfgaifhmgpiaaDoorQM145
import Derived.Test.YtfpfgaifhmgpiaaDoorQM147
namespace Go.Proofs.YtfpfgaifhmgpiaaDoor
open Go.RowKit

set_option linter.unusedVariables false

theorem toGeometry_any (a b c d : Int) (w : World) :
    Calls Tryd.prog 22 #[.agg #[.int .i64 a, .int .i64 b, .int .i64 c, .int .i64 d]] w (Gives (.agg #[.int .i64 a, .int .i64 b, .int .i64 c, .int .i64 d]) w) := by
  go_enter Tryd.func22, Tryd.ntmps22
  go_wp2
  (try simp only [Exit.inBlock, Exit.then])
  refine bodyPost_ret (v := .agg #[.int .i64 a, .int .i64 b, .int .i64 c, .int .i64 d]) (by simp [results, Tryd.results22, go_sem]) rfl ⟨rfl, ?_⟩
  repeat' (first | exact Below.refl _ _ | refine Below.drew ?_ | refine Below.alloc ?_ (by simp <;> omega) _ | refine Below.setCell ?_ (by simp <;> omega) _)

theorem specIn_is (x lo hi : Int) (v : Bool) (h : decide (lo ≤ x ∧ x ≤ hi) = v) (w : World) :
    Calls Tryd.prog 78 #[.int .i64 x, .int .i64 lo, .int .i64 hi] w fun e w' => e = .returned (.bool v) ∧ w = w' := by
  subst h
  go_enter Tryd.func78, Tryd.ntmps78
  by_cases h0 : lo ≤ x <;> by_cases h1 : x ≤ hi
  all_goals (go_wp2; go_ret; refine ⟨?_, rfl⟩; simp [h0, h1])

def GeoOk (a b c d : Int) : Prop := (1 ≤ a ∧ a ≤ 2) ∧ (1 ≤ b ∧ b ≤ 4) ∧ (2 ≤ c ∧ c ≤ 16) ∧ (1 ≤ d ∧ d ≤ 8)

instance (a b c d : Int) : Decidable (GeoOk a b c d) := inferInstanceAs (Decidable (_ ∧ _))

set_option maxHeartbeats 1000000 in
theorem specGeoOk_is (a b c d : Int) (v : Bool) (hv : decide (GeoOk a b c d) = v) (w : World) :
    Calls Tryd.prog 35 #[.agg #[.int .i64 a, .int .i64 b, .int .i64 c, .int .i64 d]] w (Gives (.bool v) w) := by
  have HV := Lib.hid hv
  clear hv
  by_cases k1 : 1 ≤ a ∧ a ≤ 2
  case neg =>
    have HE := Lib.hid (HV.out.symm.trans (decide_eq_false (fun h => k1 h.1)))
    have K1 := Lib.hid (decide_eq_false k1)
    clear k1
    go_enter Tryd.func35, Tryd.ntmps35
    go_wp2_with (first | (go_at_call_of 78 a; refine (specIn_is _ _ _ _ K1.out _).mono ?_; rintro e w' ⟨rfl, rfl⟩))
    go_ret
    refine ⟨by rw [HE.out]; rfl, ?_⟩
    repeat' (first | exact Below.refl _ _ | refine Below.drew ?_ | refine Below.alloc ?_ (by simp <;> omega) _ | refine Below.setCell ?_ (by simp <;> omega) _)
  by_cases k2 : 1 ≤ b ∧ b ≤ 4
  case neg =>
    have HE := Lib.hid (HV.out.symm.trans (decide_eq_false (fun h => k2 h.2.1)))
    have K1 := Lib.hid (decide_eq_true k1)
    have K2 := Lib.hid (decide_eq_false k2)
    clear k1 k2
    go_enter Tryd.func35, Tryd.ntmps35
    go_wp2_with (first | (go_at_call_of 78 a; refine (specIn_is _ _ _ _ K1.out _).mono ?_; rintro e w' ⟨rfl, rfl⟩) | (go_at_call_of 78 b; refine (specIn_is _ _ _ _ K2.out _).mono ?_; rintro e w' ⟨rfl, rfl⟩))
    go_ret
    refine ⟨by rw [HE.out]; rfl, ?_⟩
    repeat' (first | exact Below.refl _ _ | refine Below.drew ?_ | refine Below.alloc ?_ (by simp <;> omega) _ | refine Below.setCell ?_ (by simp <;> omega) _)
  by_cases k3 : 2 ≤ c ∧ c ≤ 16
  case neg =>
    have HE := Lib.hid (HV.out.symm.trans (decide_eq_false (fun h => k3 h.2.2.1)))
    have K1 := Lib.hid (decide_eq_true k1)
    have K2 := Lib.hid (decide_eq_true k2)
    have K3 := Lib.hid (decide_eq_false k3)
    clear k1 k2 k3
    go_enter Tryd.func35, Tryd.ntmps35
    go_wp2_with (first | (go_at_call_of 78 a; refine (specIn_is _ _ _ _ K1.out _).mono ?_; rintro e w' ⟨rfl, rfl⟩) | (go_at_call_of 78 b; refine (specIn_is _ _ _ _ K2.out _).mono ?_; rintro e w' ⟨rfl, rfl⟩) | (go_at_call_of 78 c; refine (specIn_is _ _ _ _ K3.out _).mono ?_; rintro e w' ⟨rfl, rfl⟩))
    go_ret
    refine ⟨by rw [HE.out]; rfl, ?_⟩
    repeat' (first | exact Below.refl _ _ | refine Below.drew ?_ | refine Below.alloc ?_ (by simp <;> omega) _ | refine Below.setCell ?_ (by simp <;> omega) _)
  by_cases k4 : 1 ≤ d ∧ d ≤ 8
  case neg =>
    have HE := Lib.hid (HV.out.symm.trans (decide_eq_false (fun h => k4 h.2.2.2)))
    have K1 := Lib.hid (decide_eq_true k1)
    have K2 := Lib.hid (decide_eq_true k2)
    have K3 := Lib.hid (decide_eq_true k3)
    have K4 := Lib.hid (decide_eq_false k4)
    clear k1 k2 k3 k4
    go_enter Tryd.func35, Tryd.ntmps35
    go_wp2_with (first | (go_at_call_of 78 a; refine (specIn_is _ _ _ _ K1.out _).mono ?_; rintro e w' ⟨rfl, rfl⟩) | (go_at_call_of 78 b; refine (specIn_is _ _ _ _ K2.out _).mono ?_; rintro e w' ⟨rfl, rfl⟩) | (go_at_call_of 78 c; refine (specIn_is _ _ _ _ K3.out _).mono ?_; rintro e w' ⟨rfl, rfl⟩) | (go_at_call_of 78 d; refine (specIn_is _ _ _ _ K4.out _).mono ?_; rintro e w' ⟨rfl, rfl⟩))
    go_ret
    refine ⟨by rw [HE.out]; rfl, ?_⟩
    repeat' (first | exact Below.refl _ _ | refine Below.drew ?_ | refine Below.alloc ?_ (by simp <;> omega) _ | refine Below.setCell ?_ (by simp <;> omega) _)
  case pos =>
    have HE := Lib.hid (HV.out.symm.trans (decide_eq_true (show GeoOk a b c d from ⟨k1, k2, k3, k4⟩)))
    have K1 := Lib.hid (decide_eq_true k1)
    have K2 := Lib.hid (decide_eq_true k2)
    have K3 := Lib.hid (decide_eq_true k3)
    have K4 := Lib.hid (decide_eq_true k4)
    clear k1 k2 k3 k4
    go_enter Tryd.func35, Tryd.ntmps35
    go_wp2_with (first | (go_at_call_of 78 a; refine (specIn_is _ _ _ _ K1.out _).mono ?_; rintro e w' ⟨rfl, rfl⟩) | (go_at_call_of 78 b; refine (specIn_is _ _ _ _ K2.out _).mono ?_; rintro e w' ⟨rfl, rfl⟩) | (go_at_call_of 78 c; refine (specIn_is _ _ _ _ K3.out _).mono ?_; rintro e w' ⟨rfl, rfl⟩) | (go_at_call_of 78 d; refine (specIn_is _ _ _ _ K4.out _).mono ?_; rintro e w' ⟨rfl, rfl⟩))
    go_ret
    refine ⟨by rw [HE.out]; rfl, ?_⟩
    repeat' (first | exact Below.refl _ _ | refine Below.drew ?_ | refine Below.alloc ?_ (by simp <;> omega) _ | refine Below.setCell ?_ (by simp <;> omega) _)

/-- The number of banks. -/
def bankN (a b c d : Int) : Int := if GeoOk a b c d then a * b else 0

theorem bankN_range (a b c d : Int) : 0 ≤ bankN a b c d ∧ bankN a b c d ≤ 8 := by
  unfold bankN
  split
  · rename_i h
    obtain ⟨⟨h1, h2⟩, ⟨h3, h4⟩, _⟩ := h
    have : a = 1 ∨ a = 2 := by omega
    rcases this with rfl | rfl <;> omega
  · omega

theorem specBank_is (a b c d v : Int) (hv : bankN a b c d = v) (w : World) :
    Calls Tryd.prog 12 #[.agg #[.int .i64 a, .int .i64 b, .int .i64 c, .int .i64 d]] w (Gives (.int .i64 v) w) := by
  have HV := Lib.hid hv
  clear hv
  by_cases k : GeoOk a b c d
  · have K := Lib.hid (decide_eq_true k)
    have HE : Hid (v = a * b) := by show _ = _; rw [← HV.out]; exact if_pos k
    obtain ⟨⟨h1, h2⟩, ⟨h3, h4⟩, _⟩ := k
    have e1 : IntKind.i64.wrap (a * b) = a * b := by
      refine IntWalk.i64_in _ ?_
      have : a = 1 ∨ a = 2 := by omega
      rcases this with rfl | rfl <;> omega
    go_enter Tryd.func12, Tryd.ntmps12
    go_wp2_with fail
    refine (specGeoOk_is a b c d _ K.out _).mono ?_
    rintro e w1 ⟨rfl, hb1⟩
    obtain ⟨x0, x1, x2, x3⟩ := cells4 (keep_block hb1 (heap_alloc_new _ _) (by simp))
    have HB : Hid (Below w.heap.size w w1) := ((Below.refl _ _).alloc (Nat.le_refl _) _).trans (hb1.mono (by simp))
    clear hb1
    go_wp2
    go_ret
    exact ⟨ret_i HE.out.symm, HB.out⟩
  · have K := Lib.hid (decide_eq_false k)
    have HE : Hid (v = 0) := by show _ = _; rw [← HV.out]; exact if_neg k
    clear k
    go_enter Tryd.func12, Tryd.ntmps12
    go_wp2_with fail
    refine (specGeoOk_is a b c d _ K.out _).mono ?_
    rintro e w1 ⟨rfl, hb1⟩
    have HB : Hid (Below w.heap.size w w1) := ((Below.refl _ _).alloc (Nat.le_refl _) _).trans (hb1.mono (by simp))
    clear hb1
    go_wp2
    go_ret
    exact ⟨ret_i HE.out.symm, HB.out⟩

/-- An address of the geometry. -/
def AdOk (a b c d x y z : Int) : Prop := (0 ≤ x ∧ x ≤ bankN a b c d - 1) ∧ (0 ≤ y ∧ y ≤ c - 1) ∧ (0 ≤ z ∧ z ≤ d - 1)

instance (a b c d x y z : Int) : Decidable (AdOk a b c d x y z) := inferInstanceAs (Decidable (_ ∧ _))

theorem geo_of_bank {a b c d x : Int} (h : 0 ≤ x ∧ x ≤ bankN a b c d - 1) : GeoOk a b c d := by
  unfold bankN at h
  split at h
  · assumption
  · omega

set_option maxHeartbeats 1000000 in
theorem specAddrOk_is (a b c d x y z : Int) (v : Bool) (hv : decide (AdOk a b c d x y z) = v) (w : World) :
    Calls Tryd.prog 96 #[.agg #[.int .i64 a, .int .i64 b, .int .i64 c, .int .i64 d], .agg #[.int .i64 x, .int .i64 y, .int .i64 z]] w (Gives (.bool v) w) := by
  have HV := Lib.hid hv
  clear hv
  obtain ⟨n, hn⟩ : ∃ n, bankN a b c d = n := ⟨_, rfl⟩
  have HN := Lib.hid hn
  have hn2 := bankN_range a b c d
  rw [hn] at hn2
  clear hn
  obtain ⟨w1, hw1⟩ : ∃ w1, (w.alloc (.cells #[.int .i64 a, .int .i64 b, .int .i64 c, .int .i64 d] 25)).alloc (.cells #[.int .i64 x, .int .i64 y, .int .i64 z] 45) = w1 := ⟨_, rfl⟩
  have HB : Hid (Below w.heap.size w w1) := by subst hw1; exact ((Below.refl _ _).alloc (Nat.le_refl _) _).alloc (by simp) _
  have hA : w1.heap[w.heap.size]? = some (.cells #[.int .i64 a, .int .i64 b, .int .i64 c, .int .i64 d] 25) := hw1 ▸ heap_alloc2_old w _ _
  have hC : w1.heap[w.heap.size + 1]? = some (.cells #[.int .i64 x, .int .i64 y, .int .i64 z] 45) := hw1 ▸ heap_alloc2_new w _ _
  obtain ⟨a0, a1, a2, a3⟩ := cells4 hA
  obtain ⟨b0, b1, b2⟩ := cells3 hC
  have za0 := fun zz : Later w1 => zz.cell a0
  have za1 := fun zz : Later w1 => zz.cell a1
  have za2 := fun zz : Later w1 => zz.cell a2
  have za3 := fun zz : Later w1 => zz.cell a3
  have zb0 := fun zz : Later w1 => zz.cell b0
  have zb1 := fun zz : Later w1 => zz.cell b1
  have zb2 := fun zz : Later w1 => zz.cell b2
  clear hA hC a0 a1 a2 a3 b0 b1 b2
  have e1 : IntKind.i64.wrap (n - 1) = n - 1 := IntWalk.i64_in _ ⟨by omega, by omega⟩
  by_cases k1 : 0 ≤ x ∧ x ≤ n - 1
  case neg =>
    have HE := Lib.hid (HV.out.symm.trans (decide_eq_false (fun h => k1 (by rw [← HN.out]; exact h.1))))
    have K1 := Lib.hid (decide_eq_false k1)
    clear k1
    go_enter Tryd.func96, Tryd.ntmps96
    go_wp2_with fail
    refine wp_region_later (by kernel_rfl) (by kernel_rfl) ?_
    repeat (go_big_quiet_step (first | (go_at_call 12; exact Gives.later _ (specBank_is _ _ _ _ _ HN.out _)) | (go_at_call_of 78 x; exact Gives.later_same _ (specIn_is _ _ _ _ K1.out _))))
    refine wpQuiet_nil ?_
    rintro w2 ⟨zz, rfl⟩
    go_wp2
    go_ret
    exact ⟨ret_b HE.out.symm, HB.out.trans (zz.ok.mono HB.out.size)⟩
  by_cases k2 : 0 ≤ y ∧ y ≤ c - 1
  case neg =>
    have hg := geo_of_bank (a := a) (b := b) (c := c) (d := d) (x := x) (by rw [HN.out]; exact k1)
    obtain ⟨_, _, ⟨g0, g1⟩, ⟨g2, g3⟩⟩ := hg
    have e2 : IntKind.i64.wrap (c - 1) = c - 1 := IntWalk.i64_in _ ⟨by omega, by omega⟩
    have e3 : IntKind.i64.wrap (d - 1) = d - 1 := IntWalk.i64_in _ ⟨by omega, by omega⟩
    have HE := Lib.hid (HV.out.symm.trans (decide_eq_false (fun h => k2 h.2.1)))
    have K1 := Lib.hid (decide_eq_true k1)
    have K2 := Lib.hid (decide_eq_false k2)
    clear k1 k2
    go_enter Tryd.func96, Tryd.ntmps96
    go_wp2_with fail
    refine wp_region_later (by kernel_rfl) (by kernel_rfl) ?_
    repeat (go_big_quiet_step (first | (go_at_call 12; exact Gives.later _ (specBank_is _ _ _ _ _ HN.out _)) | (go_at_call_of 78 x; exact Gives.later_same _ (specIn_is _ _ _ _ K1.out _)) | (go_at_call_of 78 y; exact Gives.later_same _ (specIn_is _ _ _ _ K2.out _))))
    refine wpQuiet_nil ?_
    rintro w2 ⟨zz, rfl⟩
    go_wp2
    go_ret
    exact ⟨ret_b HE.out.symm, HB.out.trans (zz.ok.mono HB.out.size)⟩
  by_cases k3 : 0 ≤ z ∧ z ≤ d - 1
  case neg =>
    have hg := geo_of_bank (a := a) (b := b) (c := c) (d := d) (x := x) (by rw [HN.out]; exact k1)
    obtain ⟨_, _, ⟨g0, g1⟩, ⟨g2, g3⟩⟩ := hg
    have e2 : IntKind.i64.wrap (c - 1) = c - 1 := IntWalk.i64_in _ ⟨by omega, by omega⟩
    have e3 : IntKind.i64.wrap (d - 1) = d - 1 := IntWalk.i64_in _ ⟨by omega, by omega⟩
    have HE := Lib.hid (HV.out.symm.trans (decide_eq_false (fun h => k3 h.2.2)))
    have K1 := Lib.hid (decide_eq_true k1)
    have K2 := Lib.hid (decide_eq_true k2)
    have K3 := Lib.hid (decide_eq_false k3)
    clear k1 k2 k3
    go_enter Tryd.func96, Tryd.ntmps96
    go_wp2_with fail
    refine wp_region_later (by kernel_rfl) (by kernel_rfl) ?_
    repeat (go_big_quiet_step (first | (go_at_call 12; exact Gives.later _ (specBank_is _ _ _ _ _ HN.out _)) | (go_at_call_of 78 x; exact Gives.later_same _ (specIn_is _ _ _ _ K1.out _)) | (go_at_call_of 78 y; exact Gives.later_same _ (specIn_is _ _ _ _ K2.out _)) | (go_at_call_of 78 z; exact Gives.later_same _ (specIn_is _ _ _ _ K3.out _))))
    refine wpQuiet_nil ?_
    rintro w2 ⟨zz, rfl⟩
    go_wp2
    go_ret
    exact ⟨ret_b HE.out.symm, HB.out.trans (zz.ok.mono HB.out.size)⟩
  case pos =>
    have hg := geo_of_bank (a := a) (b := b) (c := c) (d := d) (x := x) (by rw [HN.out]; exact k1)
    obtain ⟨_, _, ⟨g0, g1⟩, ⟨g2, g3⟩⟩ := hg
    have e2 : IntKind.i64.wrap (c - 1) = c - 1 := IntWalk.i64_in _ ⟨by omega, by omega⟩
    have e3 : IntKind.i64.wrap (d - 1) = d - 1 := IntWalk.i64_in _ ⟨by omega, by omega⟩
    have HE := Lib.hid (HV.out.symm.trans (decide_eq_true (show AdOk a b c d x y z from ⟨by rw [HN.out]; exact k1, k2, k3⟩)))
    have K1 := Lib.hid (decide_eq_true k1)
    have K2 := Lib.hid (decide_eq_true k2)
    have K3 := Lib.hid (decide_eq_true k3)
    clear k1 k2 k3
    go_enter Tryd.func96, Tryd.ntmps96
    go_wp2_with fail
    refine wp_region_later (by kernel_rfl) (by kernel_rfl) ?_
    repeat (go_big_quiet_step (first | (go_at_call 12; exact Gives.later _ (specBank_is _ _ _ _ _ HN.out _)) | (go_at_call_of 78 x; exact Gives.later_same _ (specIn_is _ _ _ _ K1.out _)) | (go_at_call_of 78 y; exact Gives.later_same _ (specIn_is _ _ _ _ K2.out _)) | (go_at_call_of 78 z; exact Gives.later_same _ (specIn_is _ _ _ _ K3.out _))))
    refine wpQuiet_nil ?_
    rintro w2 ⟨zz, rfl⟩
    go_wp2
    go_ret
    exact ⟨ret_b HE.out.symm, HB.out.trans (zz.ok.mono HB.out.size)⟩

/-- The number of lines. -/
def lineN (a b c d : Int) : Int := bankN a b c d * c * d

theorem lineN_non {a b c d : Int} (h : ¬ GeoOk a b c d) : lineN a b c d = 0 := by
  unfold lineN bankN
  rw [if_neg h, Int.zero_mul, Int.zero_mul]

theorem lineN_range (a b c d : Int) : 0 ≤ lineN a b c d ∧ lineN a b c d ≤ 1024 := by
  by_cases h : GeoOk a b c d
  · have hb := bankN_range a b c d
    obtain ⟨_, _, ⟨h1, h2⟩, ⟨h3, h4⟩⟩ := h
    unfold lineN
    have p1 : 0 ≤ bankN a b c d * c := Int.mul_nonneg hb.1 (by omega)
    have p2 : bankN a b c d * c ≤ 8 * 16 := Int.mul_le_mul hb.2 h2 (by omega) (by omega)
    exact ⟨Int.mul_nonneg p1 (by omega), Int.mul_le_mul p2 h4 (by omega) (by omega)⟩
  · rw [lineN_non h]; omega

theorem specLine_is (a b c d v : Int) (hv : lineN a b c d = v) (w : World) :
    Calls Tryd.prog 44 #[.agg #[.int .i64 a, .int .i64 b, .int .i64 c, .int .i64 d]] w (Gives (.int .i64 v) w) := by
  have HV := Lib.hid hv
  clear hv
  by_cases k : GeoOk a b c d
  · have K := Lib.hid (decide_eq_true k)
    obtain ⟨_, _, ⟨h1, h2⟩, ⟨h3, h4⟩⟩ := k
    have hr := lineN_range a b c d
    obtain ⟨n, hn⟩ : ∃ n, bankN a b c d = n := ⟨_, rfl⟩
    have HN := Lib.hid hn
    have hn2 := bankN_range a b c d
    have hl : lineN a b c d = n * c * d := by unfold lineN; rw [hn]
    rw [hn] at hn2
    rw [hl] at hr
    have p1 : 0 ≤ n * c := Int.mul_nonneg hn2.1 (by omega)
    have p2 : n * c ≤ 8 * 16 := Int.mul_le_mul hn2.2 h2 (by omega) (by omega)
    have HE : Hid (v = n * c * d) := by show _ = _; rw [← HV.out, hl]
    have e1 : IntKind.i64.wrap (n * c) = n * c := IntWalk.i64_in _ ⟨by omega, by omega⟩
    have e2 : IntKind.i64.wrap (n * c * d) = n * c * d := IntWalk.i64_in _ ⟨by omega, by omega⟩
    clear hn hl p1 p2 hr
    go_enter Tryd.func44, Tryd.ntmps44
    go_wp2_with fail
    refine (specGeoOk_is a b c d _ K.out _).mono ?_
    rintro e w1 ⟨rfl, hb1⟩
    have hA := keep_block hb1 (heap_alloc_new _ _) (by simp)
    obtain ⟨x0, x1, x2, x3⟩ := cells4 hA
    have za0 := fun zz : Later w1 => zz.cell x0
    have za1 := fun zz : Later w1 => zz.cell x1
    have za2 := fun zz : Later w1 => zz.cell x2
    have za3 := fun zz : Later w1 => zz.cell x3
    have HB : Hid (Below w.heap.size w w1) := ((Below.refl _ _).alloc (Nat.le_refl _) _).trans (hb1.mono (by simp))
    clear hb1 hA x0 x1 x2 x3
    go_wp2_with fail
    refine wp_region_later (by kernel_rfl) (by kernel_rfl) ?_
    repeat (go_big_quiet_step (first | (go_at_call 12; exact Gives.later _ (specBank_is _ _ _ _ _ HN.out _))))
    refine wpQuiet_nil ?_
    rintro w2 ⟨zz, rfl⟩
    go_wp2
    go_ret
    exact ⟨ret_i HE.out.symm, HB.out.trans (zz.ok.mono HB.out.size)⟩
  · have K := Lib.hid (decide_eq_false k)
    have HE : Hid (v = 0) := by show _ = _; rw [← HV.out]; exact lineN_non k
    clear k
    go_enter Tryd.func44, Tryd.ntmps44
    go_wp2_with fail
    refine (specGeoOk_is a b c d _ K.out _).mono ?_
    rintro e w1 ⟨rfl, hb1⟩
    have HB : Hid (Below w.heap.size w w1) := ((Below.refl _ _).alloc (Nat.le_refl _) _).trans (hb1.mono (by simp))
    clear hb1
    go_wp2
    go_ret
    exact ⟨ret_i HE.out.symm, HB.out⟩

/-- The number of a line. -/
def LnOk (a b c d n : Int) : Prop := 0 ≤ n ∧ n ≤ lineN a b c d - 1

instance (a b c d n : Int) : Decidable (LnOk a b c d n) := inferInstanceAs (Decidable (_ ∧ _))

end Go.Proofs.YtfpfgaifhmgpiaaDoor

namespace Go.Proofs.YtfpfgaifhmgpiaaDoor
open Go.RowKit

set_option linter.unusedVariables false

theorem specIs_is (a : Int) (v : Bool) (hv : decide (El a) = v) (w : World) :
    Calls Tryd.prog 106 #[.int .i64 a] w (Says (.bool v) w) := by
  have h' : Hid (decide (0 ≤ a ∧ a ≤ 15) = v) := hv
  clear hv
  go_enter Tryd.func106, Tryd.ntmps106
  go_wp2_with fail
  refine (specIn_is a 0 15 v h'.out w).mono ?_
  rintro e w' ⟨rfl, rfl⟩
  go_wp2
  go_ret
  exact ⟨rfl, rfl⟩

end Go.Proofs.YtfpfgaifhmgpiaaDoor
