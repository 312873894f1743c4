/-
  impl's mapping of line numbers to addresses and back.
-/
import Derived.Test.YtdgaggcjimafbaaImplMap0
import Derived.Test.YtdgaggcjimafbaaImplMap1
import Derived.Test.YtdgaggcjimafbaaImplMap2
import Derived.Test.YtdgaggcjimafbaaImplLine0
import Derived.Test.YtdgaggcjimafbaaImplLine1
import Derived.Test.YtdgaggcjimafbaaImplLine2
namespace Go.Proofs.Ytdgaggcjimafbaa
open Go.RowKit

set_option linter.unusedVariables false

set_option maxHeartbeats 4000000 in
theorem implMapLine_is (a b r d o : Int) (h : Bool) (l : Int) (w : World) :
    Calls Try.prog 13 #[.agg #[.int .i64 a, .int .i64 b, .int .i64 r, .int .i64 d], .agg #[.int .i64 o, .bool h], .int .i64 l] w (Gives (mapF a b r d o h l) w) := by
  obtain ⟨w1, hw1⟩ : ∃ x, ((w.alloc (.cells #[.int .i64 a, .int .i64 b, .int .i64 r, .int .i64 d] 25)).alloc (.cells #[.int .i64 o, .bool h] 27)).alloc (.cells #[.int .i64 0, .int .i64 0, .int .i64 0] 37) = x := ⟨_, rfl⟩
  have HB1 : Hid (Below w.heap.size w w1) := by subst hw1; exact (((Below.refl _ _).alloc (by simp) _).alloc (by simp) _).alloc (by simp; omega) _
  have g1 : w1.heap[w.heap.size]? = some (.cells #[.int .i64 a, .int .i64 b, .int .i64 r, .int .i64 d] 25) := by subst hw1; exact box3_0 _ _ _ _
  have m1 : w1.heap[w.heap.size + 1]? = some (.cells #[.int .i64 o, .bool h] 27) := by subst hw1; exact box3_1 _ _ _ _
  have r1 : w1.heap[w.heap.size + 1 + 1]? = some (.cells #[.int .i64 0, .int .i64 0, .int .i64 0] 37) := by subst hw1; exact box3_2 _ _ _ _
  obtain ⟨cg0, cg1, cg2, cg3⟩ := cells4 g1
  obtain ⟨cm0, cm1⟩ := cells2 m1
  by_cases ko : 0 ≤ o ∧ o ≤ 2
  case neg =>
    have HE : Hid (mapF a b r d o h l = adV 0 0 0 false) := by show _ = _; exact if_neg (fun hh => ko hh.1)
    have KO := Lib.hid (decide_eq_false ko)
    clear ko
    go_enter Try.func13, Try.ntmps13
    go_wp2_with fail
    refine (implMappingOk_is _ _ _ KO.out _).mono ?_
    rintro e w2 ⟨rfl, hb2⟩
    have r2 := keep_block hb2 r1 (lt_of_block r1)
    have g2 := keep_block hb2 g1 (lt_of_block g1)
    have HB : Hid (Below w.heap.size w w2) := HB1.out.trans (hb2.mono HB1.out.size)
    clear hb2 r1 g1 m1 hw1 HB1 cg0 cg1 cg2 cg3 cm0 cm1
    obtain ⟨y0, y1, y2⟩ := cells3 r2
    have z0 := thawed r2 0
    have z1 := thawed r2 1
    have z2 := thawed r2 2
    go_wp2
    (try simp only [Exit.inBlock, Exit.then])
    refine bodyPost_ret (v := adV 0 0 0 false) ?_ rfl ⟨by rw [HE.out], ?_⟩
    · rw [results_cell_tmp rfl]
      go_simp
      rfl
    · have h1 := HB.out.size
      repeat' (first | refine Below.setCell ?_ (by simp <;> omega) _ | refine Below.drew ?_ | exact HB.out)
  case pos =>
  have KO := Lib.hid (decide_eq_true ko)
  obtain ⟨m, hm⟩ : ∃ m, lineN a b r d = m := ⟨_, rfl⟩
  have HM := Lib.hid hm
  by_cases kl : LnOk a b r d l
  case neg =>
    have HE : Hid (mapF a b r d o h l = adV 0 0 0 false) := by show _ = _; exact if_neg (fun hh => kl hh.2)
    have KL : ¬ (0 ≤ l ∧ l ≤ m - 1) := by rw [← hm]; exact kl
    clear ko kl hm
    by_cases hneg : l < 0
    case pos =>
      go_enter Try.func13, Try.ntmps13
      go_wp2_with fail
      refine (implMappingOk_is _ _ _ KO.out _).mono ?_
      rintro e w2 ⟨rfl, hb2⟩
      have r2 := keep_block hb2 r1 (lt_of_block r1)
      have g2 := keep_block hb2 g1 (lt_of_block g1)
      have HB : Hid (Below w.heap.size w w2) := HB1.out.trans (hb2.mono HB1.out.size)
      clear hb2 r1 g1 m1 hw1 HB1 cg0 cg1 cg2 cg3 cm0 cm1
      obtain ⟨y0, y1, y2⟩ := cells3 r2
      have z0 := thawed r2 0
      have z1 := thawed r2 1
      have z2 := thawed r2 2
      go_wp2
      (try simp only [Exit.inBlock, Exit.then])
      refine bodyPost_ret (v := adV 0 0 0 false) ?_ rfl ⟨by rw [HE.out], ?_⟩
      · rw [results_cell_tmp rfl]
        go_simp
        rfl
      · have h1 := HB.out.size
        repeat' (first | refine Below.setCell ?_ (by simp <;> omega) _ | refine Below.drew ?_ | exact HB.out)
    case neg =>
      have hge : m ≤ l := by omega
      clear KL
      go_enter Try.func13, Try.ntmps13
      go_wp2_with fail
      refine (implMappingOk_is _ _ _ KO.out _).mono ?_
      rintro e w2 ⟨rfl, hb2⟩
      have r2 := keep_block hb2 r1 (lt_of_block r1)
      have g2 := keep_block hb2 g1 (lt_of_block g1)
      have HB2 : Hid (Below w.heap.size w w2) := HB1.out.trans (hb2.mono HB1.out.size)
      clear hb2 r1 g1 m1 hw1 HB1 cg0 cg1 cg2 cg3 cm0 cm1
      obtain ⟨cg0, cg1, cg2, cg3⟩ := cells4 g2
      go_wp2_with fail
      refine (implLine_is _ _ _ _ _ HM.out _).mono ?_
      rintro e w3 ⟨rfl, hb3⟩
      have r3 := keep_block hb3 r2 (lt_of_block r2)
      have HB : Hid (Below w.heap.size w w3) := HB2.out.trans (hb3.mono HB2.out.size)
      clear hb3 r2 g2 HB2 cg0 cg1 cg2 cg3
      obtain ⟨y0, y1, y2⟩ := cells3 r3
      have z0 := thawed r3 0
      have z1 := thawed r3 1
      have z2 := thawed r3 2
      go_wp2
      (try simp only [Exit.inBlock, Exit.then])
      refine bodyPost_ret (v := adV 0 0 0 false) ?_ rfl ⟨by rw [HE.out], ?_⟩
      · rw [results_cell_tmp rfl]
        go_simp
        rfl
      · have h1 := HB.out.size
        repeat' (first | refine Below.setCell ?_ (by simp <;> omega) _ | refine Below.drew ?_ | exact HB.out)
  case pos =>
    have ko3 : o = 0 ∨ o = 1 ∨ o = 2 := by omega
    rcases ko3 with rfl | rfl | rfl
    · cases h
      · exact implMapLine_0_false a b r d l kl w
      · exact implMapLine_0_true a b r d l kl w
    · cases h
      · exact implMapLine_1_false a b r d l kl w
      · exact implMapLine_1_true a b r d l kl w
    · cases h
      · exact implMapLine_2_false a b r d l kl w
      · exact implMapLine_2_true a b r d l kl w

set_option maxHeartbeats 4000000 in
theorem implLineOf_is (a b r d o : Int) (h : Bool) (x y z : Int) (w : World) :
    Calls Try.prog 15 #[.agg #[.int .i64 a, .int .i64 b, .int .i64 r, .int .i64 d], .agg #[.int .i64 o, .bool h], .agg #[.int .i64 x, .int .i64 y, .int .i64 z]] w (Gives (.int .i64 (lineF a b r d o h x y z)) w) := by
  by_cases ko : 0 ≤ o ∧ o ≤ 2
  case neg =>
    have HE : Hid (lineF a b r d o h x y z = -1) := by show _ = _; exact if_neg (fun hh => ko hh.1)
    have KO := Lib.hid (decide_eq_false ko)
    clear ko
    obtain ⟨w1, hw1⟩ : ∃ u, ((w.alloc (.cells #[.int .i64 a, .int .i64 b, .int .i64 r, .int .i64 d] 25)).alloc (.cells #[.int .i64 o, .bool h] 27)).alloc (.cells #[.int .i64 x, .int .i64 y, .int .i64 z] 37) = u := ⟨_, rfl⟩
    have HB1 : Hid (Below w.heap.size w w1) := by subst hw1; exact (((Below.refl _ _).alloc (by simp) _).alloc (by simp) _).alloc (by simp; omega) _
    have m1 : w1.heap[w.heap.size + 1]? = some (.cells #[.int .i64 o, .bool h] 27) := by subst hw1; exact box3_1 _ _ _ _
    obtain ⟨cm0, cm1⟩ := cells2 m1
    go_enter Try.func15, Try.ntmps15
    go_wp2_with fail
    refine (implMappingOk_is _ _ _ KO.out _).mono ?_
    rintro e w2 ⟨rfl, hb2⟩
    have HB2 : Hid (Below w.heap.size w w2) := HB1.out.trans (hb2.mono HB1.out.size)
    clear hb2 m1 hw1 HB1 cm0 cm1
    go_wp2
    go_ret
    exact ⟨ret_i HE.out.symm, HB2.out⟩
  case pos =>
    by_cases ka : AdOk a b r d x y z
    case neg =>
      have HE : Hid (lineF a b r d o h x y z = -1) := by show _ = _; exact if_neg (fun hh => ka hh.2)
      have KO := Lib.hid (decide_eq_true ko)
      have KA := Lib.hid (decide_eq_false ka)
      clear ko ka
      obtain ⟨w1, hw1⟩ : ∃ u, ((w.alloc (.cells #[.int .i64 a, .int .i64 b, .int .i64 r, .int .i64 d] 25)).alloc (.cells #[.int .i64 o, .bool h] 27)).alloc (.cells #[.int .i64 x, .int .i64 y, .int .i64 z] 37) = u := ⟨_, rfl⟩
      have HB1 : Hid (Below w.heap.size w w1) := by subst hw1; exact (((Below.refl _ _).alloc (by simp) _).alloc (by simp) _).alloc (by simp; omega) _
      have g1 : w1.heap[w.heap.size]? = some (.cells #[.int .i64 a, .int .i64 b, .int .i64 r, .int .i64 d] 25) := by subst hw1; exact box3_0 _ _ _ _
      have m1 : w1.heap[w.heap.size + 1]? = some (.cells #[.int .i64 o, .bool h] 27) := by subst hw1; exact box3_1 _ _ _ _
      have r1 : w1.heap[w.heap.size + 1 + 1]? = some (.cells #[.int .i64 x, .int .i64 y, .int .i64 z] 37) := by subst hw1; exact box3_2 _ _ _ _
      obtain ⟨cm0, cm1⟩ := cells2 m1
      go_enter Try.func15, Try.ntmps15
      go_wp2_with fail
      refine (implMappingOk_is _ _ _ KO.out _).mono ?_
      rintro e w2 ⟨rfl, hb2⟩
      have r2 := keep_block hb2 r1 (lt_of_block r1)
      have g2 := keep_block hb2 g1 (lt_of_block g1)
      have HB2 : Hid (Below w.heap.size w w2) := HB1.out.trans (hb2.mono HB1.out.size)
      clear hb2 r1 g1 m1 hw1 HB1 cm0 cm1
      obtain ⟨cg0, cg1, cg2, cg3⟩ := cells4 g2
      obtain ⟨cr0, cr1, cr2⟩ := cells3 r2
      go_wp2_with fail
      refine (implAddrOk_is _ _ _ _ _ _ _ _ KA.out _).mono ?_
      rintro e w3 ⟨rfl, hb3⟩
      have HB3 : Hid (Below w.heap.size w w3) := HB2.out.trans (hb3.mono HB2.out.size)
      clear hb3 r2 g2 HB2 cg0 cg1 cg2 cg3 cr0 cr1 cr2
      go_wp2
      go_ret
      exact ⟨ret_i HE.out.symm, HB3.out⟩
    case pos =>
      have ko3 : o = 0 ∨ o = 1 ∨ o = 2 := by omega
      rcases ko3 with rfl | rfl | rfl
      · cases h
        · exact implLineOf_0_false a b r d x y z ka w
        · exact implLineOf_0_true a b r d x y z ka w
      · cases h
        · exact implLineOf_1_false a b r d x y z ka w
        · exact implLineOf_1_true a b r d x y z ka w
      · cases h
        · exact implLineOf_2_false a b r d x y z ka w
        · exact implLineOf_2_true a b r d x y z ka w

end Go.Proofs.Ytdgaggcjimafbaa
