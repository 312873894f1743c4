/-
  impl's commands: valid in a geometry, packed, framed, read from a frame.
-/
import Derived.Test.YtihhcnckoeaihaaCmdJ
import Derived.Test.YtihhcnckoeaihaaCmdF
namespace Go.Proofs.Ytihhcnckoeaihaa
open Go.RowKit

set_option linter.unusedVariables false

set_option maxHeartbeats 2000000 in
theorem implCommandOk_is (a b r d k x y z : Int) (v : Bool) (hv : decide (CmOk k x y z ∧ AdOk a b r d x y z) = v) (w : World) :
    Calls Try.prog 54 #[.agg #[.int .i64 a, .int .i64 b, .int .i64 r, .int .i64 d], .agg #[.int .i64 k, .int .i64 x, .int .i64 y, .int .i64 z]] w (Gives (.bool v) w) := by
  obtain ⟨w1, hw1⟩ : ∃ u, (w.alloc (.cells #[.int .i64 a, .int .i64 b, .int .i64 r, .int .i64 d] 30)).alloc (.cells #[.int .i64 k, .int .i64 x, .int .i64 y, .int .i64 z] 56) = u := ⟨_, rfl⟩
  have HB1 : Hid (Below w.heap.size w w1) := by subst hw1; exact ((Below.refl _ _).alloc (Nat.le_refl _) _).alloc (by simp) _
  have g1 : w1.heap[w.heap.size]? = some (.cells #[.int .i64 a, .int .i64 b, .int .i64 r, .int .i64 d] 30) := by subst hw1; exact heap_alloc2_old _ _ _
  have p1 : w1.heap[w.heap.size + 1]? = some (.cells #[.int .i64 k, .int .i64 x, .int .i64 y, .int .i64 z] 56) := by subst hw1; exact heap_alloc2_new _ _ _
  obtain ⟨a0, a1, a2, a3⟩ := cells4 g1
  obtain ⟨c0, c1, c2, c3⟩ := cells4 p1
  have za0 := fun zz : Later w1 => zz.cell a0
  have za1 := fun zz : Later w1 => zz.cell a1
  have za2 := fun zz : Later w1 => zz.cell a2
  have za3 := fun zz : Later w1 => zz.cell a3
  have zc0 := fun zz : Later w1 => zz.cell c0
  have zc1 := fun zz : Later w1 => zz.cell c1
  have zc2 := fun zz : Later w1 => zz.cell c2
  have zc3 := fun zz : Later w1 => zz.cell c3
  clear g1 p1 a0 a1 a2 a3 c0 c1 c2 c3
  by_cases h : CmOk k x y z
  · have K := Lib.hid (decide_eq_true h)
    obtain ⟨u, hu⟩ : ∃ u, decide (AdOk a b r d x y z) = u := ⟨_, rfl⟩
    have KA := Lib.hid hu
    have HE : Hid (v = u) := by
      show _ = _
      rw [← hv, ← hu, Bool.eq_iff_iff]
      simp only [decide_eq_true_eq]
      exact ⟨fun hh => hh.2, fun hh => ⟨h, hh⟩⟩
    clear hv h hu
    go_enter Try.func54, Try.ntmps54
    go_wp2_with fail
    refine wp_region_later (by kernel_rfl) (by kernel_rfl) ?_
    repeat (go_big_quiet_step (first | (go_at_call 67; exact Gives.later _ (implWell_is _ _ _ _ _ K.out _)) | (go_at_call 69; exact Gives.later _ (implPlace_is _ _ _ _ _)) | (go_at_call 68; exact Gives.later _ (implAddrOk_is _ _ _ _ _ _ _ _ KA.out _))))
    refine wpQuiet_nil ?_
    rintro w3 ⟨zz, rfl⟩
    go_wp2
    go_ret
    exact ⟨ret_b HE.out.symm, HB1.out.trans (zz.ok.mono HB1.out.size)⟩
  · have K := Lib.hid (decide_eq_false h)
    have HE : Hid (v = false) := by show _ = _; rw [← hv]; exact decide_eq_false (fun hh => h hh.1)
    clear hv h
    go_enter Try.func54, Try.ntmps54
    go_wp2_with fail
    refine wp_region_later (by kernel_rfl) (by kernel_rfl) ?_
    repeat (go_big_quiet_step (first | (go_at_call 67; exact Gives.later _ (implWell_is _ _ _ _ _ K.out _))))
    refine wpQuiet_nil ?_
    rintro w3 ⟨zz, rfl⟩
    go_wp2
    go_ret
    exact ⟨ret_b HE.out.symm, HB1.out.trans (zz.ok.mono HB1.out.size)⟩

end Go.Proofs.Ytihhcnckoeaihaa
