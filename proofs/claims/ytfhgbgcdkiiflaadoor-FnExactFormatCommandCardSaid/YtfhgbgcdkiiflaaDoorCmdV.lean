/-
  The walks of the exact statements on commands' texts.
-/
import Derived.Test.YtfhgbgcdkiiflaaDoorCmdX
import Derived.Test.YtfhgbgcdkiiflaaDoorCmdW2
namespace Go.Proofs.YtfhgbgcdkiiflaaDoor
open Go.RowKit

set_option linter.unusedVariables false


set_option maxHeartbeats 2000000 in
theorem exFmtCmd_walk (k b r c : Int) (w : World) (_ : (Lit.int .i64 k).wf = true) (_ : (Lit.int .i64 b).wf = true) (_ : (Lit.int .i64 r).wf = true) (_ : (Lit.int .i64 c).wf = true) (ht : Tab10 w) (hw : WordsVar w) :
    Calls Tryd.prog 4 #[.agg #[.int .i64 k, .int .i64 b, .int .i64 r, .int .i64 c]] w fun e w' => e = .returned (.bool true) ∧ Below w.heap.size w w' := by
  have HT := Lib.hid (Lib.tabBelow_of_tabIs ht)
  have HW := Lib.hid hw
  clear ht hw
  obtain ⟨S, hS⟩ : ∃ S, fmtB k b r c = S := ⟨_, rfl⟩
  have HS := Lib.hid hS
  obtain ⟨w1, hw1⟩ : ∃ u, w.alloc (.cells #[.int .i64 k, .int .i64 b, .int .i64 r, .int .i64 c] 37) = u := ⟨_, rfl⟩
  have HB1 : Hid (Below w.heap.size w w1) := by subst hw1; exact (Below.refl _ _).alloc (Nat.le_refl _) _
  have p1 : w1.heap[w.heap.size]? = some (.cells #[.int .i64 k, .int .i64 b, .int .i64 r, .int .i64 c] 37) := by subst hw1; exact heap_alloc_new _ _
  obtain ⟨c0, c1, c2, c3⟩ := cells4 p1
  clear hS
  go_enter Tryd.func4, Tryd.ntmps4
  go_wp2_with fail
  refine (toCommand_any _ _ _ _ _).mono ?_
  rintro e w2 ⟨rfl, hb2⟩
  have p2 := keep_block hb2 p1 (lt_of_block p1)
  have HB2 : Hid (Below w.heap.size w w2) := HB1.out.trans (hb2.mono HB1.out.size)
  clear hb2 p1 HB1 hw1 c0 c1 c2 c3
  go_wp2_with fail
  refine (specFmt_is _ _ _ _ S HS.out _).mono ?_
  rintro e w3 ⟨rfl, hb3⟩
  have p3 := keep_block hb3 p2 (lt_of_block p2)
  have HB3 : Hid (Below w.heap.size w w3) := HB2.out.trans (hb3.mono HB2.out.size)
  clear hb3 p2 HB2
  obtain ⟨c0, c1, c2, c3⟩ := cells4 p3
  go_wp2_with fail
  refine (toCommand_any _ _ _ _ _).mono ?_
  rintro e w4 ⟨rfl, hb4⟩
  have HB4 : Hid (Below w.heap.size w w4) := HB3.out.trans (hb4.mono HB3.out.size)
  clear hb4 p3 HB3 c0 c1 c2 c3
  go_wp2_with fail
  refine (implFmt_is _ _ _ _ S HS.out _ (HT.out.on HB4.out).here (HW.out.below HB4.out)).mono ?_
  rintro e w5 ⟨rfl, hb5⟩
  have HB5 : Hid (Below w.heap.size w w5) := HB4.out.trans (hb5.mono HB4.out.size)
  clear hb5
  go_wp2
  go_ret
  exact ⟨rfl, HB5.out⟩



set_option maxHeartbeats 2000000 in
theorem exParseCmd_walk (s : ByteArray) (w : World) (hs : s.size ≤ maxLen) (ht : Tab10 w) (he : ErrS w) (hr : ErrR w) (hw : WordsVar w) :
    Calls Tryd.prog 5 #[.string s] w fun e w' => e = .returned (.bool true) ∧ Below w.heap.size w w' := by
  have HM := Lib.hid hs
  unfold maxLen at hs
  by_cases h1 : (1048576 : Int) < (s.size : Int)
  · clear ht he hr hw
    go_enter Tryd.func5, Tryd.ntmps5
    go_wp2_with fail
    go_ret
    exact ⟨rfl, Below.refl _ _⟩
  have HT := Lib.hid (Lib.tabBelow_of_tabIs ht)
  have HES := Lib.hid he
  have HER := Lib.hid hr
  have HW := Lib.hid hw
  clear ht he hr hw
  obtain ⟨r0, r1, r2, r3, rb, hv⟩ : ∃ r0 r1 r2 r3 rb, parseV s = .tuple #[.agg #[.int .i64 r0, .int .i64 r1, .int .i64 r2, .int .i64 r3], .bool rb] := by
    unfold parseV
    split
    · exact ⟨_, _, _, _, _, rfl⟩
    · exact ⟨_, _, _, _, _, rfl⟩
  have SPEC : Hid (∀ w, Calls Tryd.prog 17 #[.string s] w (Gives (.tuple #[.agg #[.int .i64 r0, .int .i64 r1, .int .i64 r2, .int .i64 r3], .bool rb]) w)) := fun w => by rw [← hv]; exact specParseCmd_is s HM.out w
  have IMPL : Hid (∀ w, Tab10 w → ErrS w → ErrR w → WordsVar w → Calls Tryd.prog 9 #[.string s] w (Gives (.tuple #[.agg #[.int .i64 r0, .int .i64 r1, .int .i64 r2, .int .i64 r3], .bool rb]) w)) := fun w a b c d => by rw [← hv]; exact implParseCmd_is s HM.out w a b c d
  clear hv
  go_enter Tryd.func5, Tryd.ntmps5
  go_wp2_with fail
  refine (SPEC.out _).mono ?_
  rintro e w1 ⟨rfl, hb1⟩
  have HB1 := Lib.hid hb1
  obtain ⟨w2, hw2⟩ : ∃ u, w1.alloc (.cells #[.int .i64 r0, .int .i64 r1, .int .i64 r2, .int .i64 r3] 27) = u := ⟨_, rfl⟩
  have HB2 : Hid (Below w.heap.size w w2) := by subst hw2; exact HB1.out.alloc HB1.out.size _
  have p2 : w2.heap[w1.heap.size]? = some (.cells #[.int .i64 r0, .int .i64 r1, .int .i64 r2, .int .i64 r3] 27) := by subst hw2; exact heap_alloc_new _ _
  obtain ⟨pb, hpb⟩ : ∃ u, w1.heap.size = u := ⟨_, rfl⟩
  rw [hpb] at p2
  clear hb1 HB1
  go_wp2_with fail
  clear hw2
  (try simp only [hpb])
  clear hpb
  refine (IMPL.out _ (HT.out.on HB2.out).here (HES.out.keeps HB2.out) (HER.out.keeps HB2.out) (HW.out.below HB2.out)).mono ?_
  rintro e w3 ⟨rfl, hb3⟩
  have p3 := keep_block hb3 p2 (lt_of_block p2)
  have HB3 : Hid (Below w.heap.size w w3) := HB2.out.trans (hb3.mono HB2.out.size)
  obtain ⟨w4, hw4⟩ : ∃ u, w3.alloc (.cells #[.int .i64 r0, .int .i64 r1, .int .i64 r2, .int .i64 r3] 27) = u := ⟨_, rfl⟩
  have hb4 : Below w3.heap.size w3 w4 := by rw [← hw4]; exact (Below.refl _ _).alloc (Nat.le_refl _) _
  have q4 : w4.heap[w3.heap.size]? = some (.cells #[.int .i64 r0, .int .i64 r1, .int .i64 r2, .int .i64 r3] 27) := by rw [← hw4]; exact heap_alloc_new _ _
  have p4 := keep_block hb4 p3 (lt_of_block p3)
  have HB4 : Hid (Below w.heap.size w w4) := HB3.out.trans (hb4.mono HB3.out.size)
  obtain ⟨qb, hqb⟩ : ∃ u, w3.heap.size = u := ⟨_, rfl⟩
  rw [hqb] at q4
  obtain ⟨c0, c1, c2, c3⟩ := cells4 p4
  obtain ⟨d0, d1, d2, d3⟩ := cells4 q4
  have tbb : (rb != rb) = false := by simp
  clear hb3 hb4 p2 p3 HB2 HB3
  go_wp2_with fail
  clear hw4
  (try simp only [hqb])
  refine (eqCommand_same _ _ _ _ _).mono ?_
  rintro e w5 ⟨rfl, hb5⟩
  have HB5 : Hid (Below w.heap.size w w5) := HB4.out.trans (hb5.mono HB4.out.size)
  clear hb5
  go_wp2
  go_ret
  exact ⟨rfl, HB5.out⟩


end Go.Proofs.YtfhgbgcdkiiflaaDoor
