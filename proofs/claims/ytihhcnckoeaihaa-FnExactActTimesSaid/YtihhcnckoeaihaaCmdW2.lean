/-
  The model's commands: valid in a geometry, and read from a frame; the laws' own words on commands.
-/
import Derived.Test.YtihhcnckoeaihaaCmdW
namespace Go.Proofs.Ytihhcnckoeaihaa
open Go.RowKit

set_option linter.unusedVariables false

theorem toCommand_any (a b c d : Int) (w : World) :
    Calls Try.prog 50 #[.agg #[.int .i64 a, .int .i64 b, .int .i64 c, .int .i64 d]] w (Gives (.agg #[.int .i64 a, .int .i64 b, .int .i64 c, .int .i64 d]) w) := by
  go_enter Try.func50, Try.ntmps50
  go_wp2
  (try simp only [Exit.inBlock, Exit.then])
  refine bodyPost_ret (v := .agg #[.int .i64 a, .int .i64 b, .int .i64 c, .int .i64 d]) (by simp [results, Try.results50, go_sem]) rfl ⟨rfl, ?_⟩
  repeat' (first | exact Below.refl _ _ | refine Below.drew ?_ | refine Below.alloc ?_ (by simp <;> omega) _ | refine Below.setCell ?_ (by simp <;> omega) _)

theorem eqCommand_same (a b c d : Int) (w : World) :
    Calls Try.prog 60 #[.agg #[.int .i64 a, .int .i64 b, .int .i64 c, .int .i64 d], .agg #[.int .i64 a, .int .i64 b, .int .i64 c, .int .i64 d]] w (Gives (.bool true) w) := by
  go_enter Try.func60, Try.ntmps60
  go_wp2
  go_ret
  refine ⟨rfl, ?_⟩
  repeat' (first | exact Below.refl _ _ | refine Below.drew ?_ | refine Below.alloc ?_ (by simp <;> omega) _ | refine Below.setCell ?_ (by simp <;> omega) _)

theorem specCommandOk_is (a b r d k x y z : Int) (v : Bool) (hv : decide (CmOk k x y z ∧ AdOk a b r d x y z) = v) (w : World) :
    Calls Try.prog 27 #[.agg #[.int .i64 a, .int .i64 b, .int .i64 r, .int .i64 d], .agg #[.int .i64 k, .int .i64 x, .int .i64 y, .int .i64 z]] w (Gives (.bool v) w) := by
  obtain ⟨w1, hw1⟩ : ∃ u, (w.alloc (.cells #[.int .i64 a, .int .i64 b, .int .i64 r, .int .i64 d] 30)).alloc (.cells #[.int .i64 k, .int .i64 x, .int .i64 y, .int .i64 z] 56) = u := ⟨_, rfl⟩
  have HB1 : Hid (Below w.heap.size w w1) := by subst hw1; exact ((Below.refl _ _).alloc (Nat.le_refl _) _).alloc (by simp) _
  have g1 : w1.heap[w.heap.size]? = some (.cells #[.int .i64 a, .int .i64 b, .int .i64 r, .int .i64 d] 30) := by subst hw1; exact heap_alloc2_old _ _ _
  have p1 : w1.heap[w.heap.size + 1]? = some (.cells #[.int .i64 k, .int .i64 x, .int .i64 y, .int .i64 z] 56) := by subst hw1; exact heap_alloc2_new _ _ _
  obtain ⟨c0, c1, c2, c3⟩ := cells4 p1
  by_cases h : CmOk k x y z
  · have K := Lib.hid (decide_eq_true h)
    obtain ⟨u, hu⟩ : ∃ u, decide (AdOk a b r d x y z) = u := ⟨_, rfl⟩
    have KA := Lib.hid hu
    have HE : Hid (v = u) := by
      show _ = _
      rw [← hv, ← hu, Bool.eq_iff_iff]
      simp only [decide_eq_true_eq]
      exact ⟨fun hh => hh.2, fun hh => ⟨h, hh⟩⟩
    clear hv h hu
    go_enter Try.func27, Try.ntmps27
    go_wp2_with fail
    refine (specForm_is _ _ _ _ _ K.out _).mono ?_
    rintro e w2 ⟨rfl, hb2⟩
    have g2 := keep_block hb2 g1 (lt_of_block g1)
    have p2 := keep_block hb2 p1 (lt_of_block p1)
    have HB2 : Hid (Below w.heap.size w w2) := HB1.out.trans (hb2.mono HB1.out.size)
    clear hb2 p1 g1 HB1 hw1 c0 c1 c2 c3
    obtain ⟨c0, c1, c2, c3⟩ := cells4 p2
    obtain ⟨e0, e1, e2, e3⟩ := cells4 g2
    go_wp2_with fail
    refine (specAddrOk_is _ _ _ _ _ _ _ _ KA.out _).mono ?_
    rintro e w3 ⟨rfl, hb3⟩
    have HB3 : Hid (Below w.heap.size w w3) := HB2.out.trans (hb3.mono HB2.out.size)
    clear hb3
    go_wp2
    go_ret
    exact ⟨ret_b HE.out.symm, HB3.out⟩
  · have K := Lib.hid (decide_eq_false h)
    have HE : Hid (v = false) := by show _ = _; rw [← hv]; exact decide_eq_false (fun hh => h hh.1)
    clear hv h
    go_enter Try.func27, Try.ntmps27
    go_wp2_with fail
    refine (specForm_is _ _ _ _ _ K.out _).mono ?_
    rintro e w2 ⟨rfl, hb2⟩
    have HB2 : Hid (Below w.heap.size w w2) := HB1.out.trans (hb2.mono HB1.out.size)
    clear hb2
    go_wp2
    go_ret
    exact ⟨ret_b HE.out.symm, HB2.out⟩

end Go.Proofs.Ytihhcnckoeaihaa
