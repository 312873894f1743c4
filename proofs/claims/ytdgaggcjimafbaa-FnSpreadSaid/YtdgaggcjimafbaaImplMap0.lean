/-
  impl's mapping of line numbers to addresses, order by order.
-/
import Derived.Test.YtdgaggcjimafbaaDigitW
import Derived.Test.YtdgaggcjimafbaaMapM
namespace Go.Proofs.Ytdgaggcjimafbaa
open Go.RowKit

set_option linter.unusedVariables false

set_option maxHeartbeats 4000000 in
set_option maxRecDepth 100000 in
theorem implMapLine_0_false (a b r d l : Int) (kl : LnOk a b r d l) (w : World) :
    Calls Try.prog 13 #[.agg #[.int .i64 a, .int .i64 b, .int .i64 r, .int .i64 d], .agg #[.int .i64 0, .bool false], .int .i64 l] w (Gives (mapF a b r d 0 false l) w) := by
  obtain ⟨w1, hw1⟩ : ∃ x, ((w.alloc (.cells #[.int .i64 a, .int .i64 b, .int .i64 r, .int .i64 d] 25)).alloc (.cells #[.int .i64 0, .bool false] 27)).alloc (.cells #[.int .i64 0, .int .i64 0, .int .i64 0] 37) = x := ⟨_, rfl⟩
  have HB1 : Hid (Below w.heap.size w w1) := by subst hw1; exact (((Below.refl _ _).alloc (by simp) _).alloc (by simp) _).alloc (by simp; omega) _
  have g1 : w1.heap[w.heap.size]? = some (.cells #[.int .i64 a, .int .i64 b, .int .i64 r, .int .i64 d] 25) := by subst hw1; exact box3_0 _ _ _ _
  have m1 : w1.heap[w.heap.size + 1]? = some (.cells #[.int .i64 0, .bool false] 27) := by subst hw1; exact box3_1 _ _ _ _
  have r1 : w1.heap[w.heap.size + 1 + 1]? = some (.cells #[.int .i64 0, .int .i64 0, .int .i64 0] 37) := by subst hw1; exact box3_2 _ _ _ _
  obtain ⟨cg0, cg1, cg2, cg3⟩ := cells4 g1
  obtain ⟨cm0, cm1⟩ := cells2 m1
  have KO := Lib.hid (decide_eq_true (show (0 : Int) ≤ 0 ∧ (0 : Int) ≤ 2 by decide))
  have hmr := lineN_range a b r d
  have KLT : Hid (LnOk a b r d l) := kl
  have hn1 := kl.bank
  have hn2 := bankN_range a b r d
  have HE := Lib.hid (mapF_ok (o := 0) (h := false) (by decide) kl)
  have l0 := kl.1
  have l1 := kl.2
  have hr := map_range (o := 0) (by decide) hn1 (show 1 ≤ r from by have := kl.geo; unfold GeoOk at this; omega) (show 1 ≤ d from by have := kl.geo; unfold GeoOk at this; omega) l0 (by unfold lineN at l1; omega)
  obtain ⟨_, _, ⟨g5, g6⟩, ⟨g7, g8⟩⟩ := kl.geo
  clear kl
  unfold bankF at HE
  obtain ⟨m, hm⟩ : ∃ m, lineN a b r d = m := ⟨_, rfl⟩
  have HM := Lib.hid hm
  rw [hm] at hmr l1
  clear hm
  obtain ⟨n, hn⟩ : ∃ n, bankN a b r d = n := ⟨_, rfl⟩
  have HN := Lib.hid hn
  rw [hn] at hn1 hn2 hr HE
  clear hn
  have d0 : ¬ d = 0 := by omega
  have n0 : ¬ n = 0 := by omega
  have r0 : ¬ r = 0 := by omega
  obtain ⟨q1, hq1⟩ : ∃ x, l / d = x := ⟨_, rfl⟩
  have p10 : 0 ≤ q1 := by rw [← hq1]; exact Int.ediv_nonneg l0 (by omega)
  have p11 : q1 ≤ l := by rw [← hq1]; exact Int.ediv_le_self _ l0
  obtain ⟨v0, hv0⟩ : ∃ x, l % d = x := ⟨_, rfl⟩
  have s00 : 0 ≤ v0 := by rw [← hv0]; exact Int.emod_nonneg _ d0
  have s01 : v0 < d := by rw [← hv0]; exact Int.emod_lt_of_pos _ (by omega)
  have t00 : l.tdiv d = q1 := by rw [Int.tdiv_eq_ediv_of_nonneg l0, hq1]
  have t01 : IntKind.i64.wrap q1 = q1 := IntWalk.i64_in _ ⟨by omega, by omega⟩
  have t02 : l.tmod d = v0 := by rw [Int.tmod_eq_emod_of_nonneg l0, hv0]
  obtain ⟨q2, hq2⟩ : ∃ x, q1 / n = x := ⟨_, rfl⟩
  have p20 : 0 ≤ q2 := by rw [← hq2]; exact Int.ediv_nonneg p10 (by omega)
  have p21 : q2 ≤ q1 := by rw [← hq2]; exact Int.ediv_le_self _ p10
  obtain ⟨v1, hv1⟩ : ∃ x, q1 % n = x := ⟨_, rfl⟩
  have s10 : 0 ≤ v1 := by rw [← hv1]; exact Int.emod_nonneg _ n0
  have s11 : v1 < n := by rw [← hv1]; exact Int.emod_lt_of_pos _ (by omega)
  have t10 : q1.tdiv n = q2 := by rw [Int.tdiv_eq_ediv_of_nonneg p10, hq2]
  have t11 : IntKind.i64.wrap q2 = q2 := IntWalk.i64_in _ ⟨by omega, by omega⟩
  have t12 : q1.tmod n = v1 := by rw [Int.tmod_eq_emod_of_nonneg p10, hv1]
  obtain ⟨q3, hq3⟩ : ∃ x, q2 / r = x := ⟨_, rfl⟩
  have p30 : 0 ≤ q3 := by rw [← hq3]; exact Int.ediv_nonneg p20 (by omega)
  have p31 : q3 ≤ q2 := by rw [← hq3]; exact Int.ediv_le_self _ p20
  obtain ⟨v2, hv2⟩ : ∃ x, q2 % r = x := ⟨_, rfl⟩
  have s20 : 0 ≤ v2 := by rw [← hv2]; exact Int.emod_nonneg _ r0
  have s21 : v2 < r := by rw [← hv2]; exact Int.emod_lt_of_pos _ (by omega)
  have t20 : q2.tdiv r = q3 := by rw [Int.tdiv_eq_ediv_of_nonneg p20, hq3]
  have t21 : IntKind.i64.wrap q3 = q3 := IntWalk.i64_in _ ⟨by omega, by omega⟩
  have t22 : q2.tmod r = v2 := by rw [Int.tmod_eq_emod_of_nonneg p20, hv2]
  have hlast : mapRow 0 d r n l = q2 := by show l / d / n = q2; rw [hq1, hq2]
  rw [hlast] at hr
  have hv2q : v2 = q2 := by rw [← hv2]; exact Int.emod_eq_of_lt p20 (by omega)
  have hx_bank : mapBank 0 d r n l = v1 := by show l / d % n = v1; rw [hq1, hv1]
  have hx_row : mapRow 0 d r n l = v2 := hlast.trans hv2q.symm
  have hx_col : mapCol 0 d r n l = v0 := by show l % d = v0; rw [hv0]
  rw [hx_bank, hx_row, hx_col] at HE
  have hh : mapHash false v1 v2 n = v1 := rfl
  rw [hh] at HE
  have ix0 : ∀ w : World, (Instr.index 67 (.agg #[.func (.func 48) #[] #[], .func (.func 49) #[] #[], .func (.func 50) #[] #[]]) (.int .i64 0)).run Try.prog w = .ok (.func (.func 48) #[] #[]) w := fun w => by rfl
  have ix1 : ∀ w : World, (Instr.index 67 (.agg #[.func (.func 48) #[] #[], .func (.func 49) #[] #[], .func (.func 50) #[] #[]]) (.int .i64 1)).run Try.prog w = .ok (.func (.func 49) #[] #[]) w := fun w => by rfl
  have ix2 : ∀ w : World, (Instr.index 67 (.agg #[.func (.func 48) #[] #[], .func (.func 49) #[] #[], .func (.func 50) #[] #[]]) (.int .i64 2)).run Try.prog w = .ok (.func (.func 50) #[] #[]) w := fun w => by rfl
  clear hh hx_bank hx_row hx_col hv2q hlast hr hq1 hv0 hq2 hv1 hq3 hv2
  go_enter Try.func13, Try.ntmps13
  go_wp2_with fail
  refine (implMappingOk_is _ _ _ KO.out _).mono ?_
  rintro e w2 ⟨rfl, hb2⟩
  have r2 := keep_block hb2 r1 (lt_of_block r1)
  have g2 := keep_block hb2 g1 (lt_of_block g1)
  have m2 := keep_block hb2 m1 (lt_of_block m1)
  have HB2 : Hid (Below w.heap.size w w2) := HB1.out.trans (hb2.mono HB1.out.size)
  clear hb2 r1 g1 m1 hw1 HB1 cg0 cg1 cg2 cg3 cm0 cm1
  obtain ⟨cg0, cg1, cg2, cg3⟩ := cells4 g2
  go_wp2_with fail
  refine (implLine_is _ _ _ _ _ HM.out _).mono ?_
  rintro e w3 ⟨rfl, hb3⟩
  have r3 := keep_block hb3 r2 (lt_of_block r2)
  have g3 := keep_block hb3 g2 (lt_of_block g2)
  have m3 := keep_block hb3 m2 (lt_of_block m2)
  have HB3 : Hid (Below w.heap.size w w3) := HB2.out.trans (hb3.mono HB2.out.size)
  have hs3 := hb3.size
  clear hb3 r2 g2 m2 HB2 cg0 cg1 cg2 cg3
  obtain ⟨w4, hw4⟩ : ∃ x, w3.alloc (.cells #[.int .i64 0, .int .i64 0, .int .i64 0] 37) = x := ⟨_, rfl⟩
  have hb4 : Below w3.heap.size w3 w4 := by subst hw4; exact (Below.refl _ _).alloc (Nat.le_refl _) _
  have t4 : w4.heap[w3.heap.size]? = some (.cells #[.int .i64 0, .int .i64 0, .int .i64 0] 37) := by subst hw4; exact heap_alloc_new _ _
  have r4 := keep_block hb4 r3 (lt_of_block r3)
  have g4 := keep_block hb4 g3 (lt_of_block g3)
  have m4 := keep_block hb4 m3 (lt_of_block m3)
  have HB4 : Hid (Below w.heap.size w w4) := HB3.out.trans (hb4.mono HB3.out.size)
  have HBS3 := Lib.hid HB3.out.size
  have hlr := lt_of_block r3
  clear hb4 r3 g3 m3 HB3
  obtain ⟨cm0, cm1⟩ := cells2 m4
  go_wp2_with fail
  refine (digitsOf_0 _).mono ?_
  rintro e w5 ⟨rfl, hb5⟩
  have t5 := keep_block hb5 t4 (lt_of_block t4)
  have r5 := keep_block hb5 r4 (lt_of_block r4)
  have g5 := keep_block hb5 g4 (lt_of_block g4)
  have m5 := keep_block hb5 m4 (lt_of_block m4)
  have HB5 : Hid (Below w.heap.size w w5) := HB4.out.trans (hb5.mono HB4.out.size)
  have hab : w.heap.size + 2 < w3.heap.size := hlr
  clear hb5 t4 r4 g4 m4 HB4 hw4 cm0 cm1
  obtain ⟨ab, hab'⟩ : ∃ x, w3.heap.size = x := ⟨_, rfl⟩
  rw [hab'] at t5 hab HBS3
  go_wp2_with fail
  go_loopw [2, 30] (fun line kk wr => (∃ k : Nat, kk = .int .i64 k ∧ ((k = 0 ∧ line = .int .i64 l ∧ wr.heap[ab]? = some (.cells #[.int .i64 0, .int .i64 0, .int .i64 0] 37)) ∨ (k = 1 ∧ line = .int .i64 q1 ∧ wr.heap[ab]? = some (.cells #[.int .i64 0, .int .i64 0, .int .i64 v0] 37)) ∨ (k = 2 ∧ line = .int .i64 q2 ∧ wr.heap[ab]? = some (.cells #[.int .i64 v1, .int .i64 0, .int .i64 v0] 37)) ∨ (k = 3 ∧ line = .int .i64 q3 ∧ wr.heap[ab]? = some (.cells #[.int .i64 v1, .int .i64 v2, .int .i64 v0] 37))))
    ∧ wr.heap[w.heap.size]? = some (.cells #[.int .i64 a, .int .i64 b, .int .i64 r, .int .i64 d] 25) ∧ wr.heap[w.heap.size + 1]? = some (.cells #[.int .i64 0, .bool false] 27) ∧ wr.heap[w.heap.size + 1 + 1]? = some (.cells #[.int .i64 0, .int .i64 0, .int .i64 0] 37) ∧ Below w.heap.size w wr) (fun _ kk _ => 3 - (intOf kk).toNat)
  case atStart => exact ⟨⟨0, rfl, .inl ⟨rfl, rfl, t5⟩⟩, g5, m5, r5, HB5.out⟩
  case round =>
    obtain ⟨⟨k, rfl, hk⟩, hg, hmm, hrr, hbr⟩ := hrel
    have HBR := Lib.hid hbr
    clear hbr t5 r5 g5 m5 HB5
    obtain ⟨cg0, cg1, cg2, cg3⟩ := cells4 hg
    rcases hk with ⟨rfl, rfl, ha⟩ | ⟨rfl, rfl, ha⟩ | ⟨rfl, rfl, ha⟩ | ⟨rfl, rfl, ha⟩
    · go_wp2_with fail
      refine (colDigit_is a b r d _ _).mono ?_
      rintro e w7 ⟨rfl, hb7⟩
      have a7 := keep_block hb7 ha (lt_of_block ha)
      have g7' := keep_block hb7 hg (lt_of_block hg)
      have m7 := keep_block hb7 hmm (lt_of_block hmm)
      have r7 := keep_block hb7 hrr (lt_of_block hrr)
      have HB7 : Hid (Below w.heap.size w w7) := HBR.out.trans (hb7.mono HBR.out.size)
      clear hb7 ha hg hmm hrr HBR cg0 cg1 cg2 cg3
      obtain ⟨y0, y1, y2⟩ := cells3 a7
      have z0 := thawed a7 2
      go_wp2_with fail
      have A8 : (w7.setCell ⟨ab, 2, none⟩ (.int .i64 v0)).heap[ab]? = some (.cells #[.int .i64 0, .int .i64 0, .int .i64 v0] 37) := set_cells3_2 a7 _
      have G8 : (w7.setCell ⟨ab, 2, none⟩ (.int .i64 v0)).heap[w.heap.size]? = some (.cells #[.int .i64 a, .int .i64 b, .int .i64 r, .int .i64 d] 25) := (Below.heap_setCell _ _ _ _ (by simp <;> omega)).trans g7'
      have M8 : (w7.setCell ⟨ab, 2, none⟩ (.int .i64 v0)).heap[w.heap.size + 1]? = some (.cells #[.int .i64 0, .bool false] 27) := (Below.heap_setCell _ _ _ _ (by simp <;> omega)).trans m7
      have R8 : (w7.setCell ⟨ab, 2, none⟩ (.int .i64 v0)).heap[w.heap.size + 1 + 1]? = some (.cells #[.int .i64 0, .int .i64 0, .int .i64 0] 37) := (Below.heap_setCell _ _ _ _ (by simp <;> omega)).trans r7
      have B8 : Below w.heap.size w (w7.setCell ⟨ab, 2, none⟩ (.int .i64 v0)) := HB7.out.setCell (by simp <;> omega) _
      go_roundw
      case rel => exact ⟨⟨1, rfl, .inr (.inl ⟨rfl, rfl, A8⟩)⟩, G8, M8, R8, B8⟩
      case measure => simp [intOf]
    · go_wp2_with fail
      refine (bankDigit_is a b r d n HN.out _ _).mono ?_
      rintro e w7 ⟨rfl, hb7⟩
      have a7 := keep_block hb7 ha (lt_of_block ha)
      have g7' := keep_block hb7 hg (lt_of_block hg)
      have m7 := keep_block hb7 hmm (lt_of_block hmm)
      have r7 := keep_block hb7 hrr (lt_of_block hrr)
      have HB7 : Hid (Below w.heap.size w w7) := HBR.out.trans (hb7.mono HBR.out.size)
      clear hb7 ha hg hmm hrr HBR cg0 cg1 cg2 cg3
      obtain ⟨y0, y1, y2⟩ := cells3 a7
      have z0 := thawed a7 0
      go_wp2_with fail
      have A8 : (w7.setCell ⟨ab, 0, none⟩ (.int .i64 v1)).heap[ab]? = some (.cells #[.int .i64 v1, .int .i64 0, .int .i64 v0] 37) := set_cells3_0 a7 _
      have G8 : (w7.setCell ⟨ab, 0, none⟩ (.int .i64 v1)).heap[w.heap.size]? = some (.cells #[.int .i64 a, .int .i64 b, .int .i64 r, .int .i64 d] 25) := (Below.heap_setCell _ _ _ _ (by simp <;> omega)).trans g7'
      have M8 : (w7.setCell ⟨ab, 0, none⟩ (.int .i64 v1)).heap[w.heap.size + 1]? = some (.cells #[.int .i64 0, .bool false] 27) := (Below.heap_setCell _ _ _ _ (by simp <;> omega)).trans m7
      have R8 : (w7.setCell ⟨ab, 0, none⟩ (.int .i64 v1)).heap[w.heap.size + 1 + 1]? = some (.cells #[.int .i64 0, .int .i64 0, .int .i64 0] 37) := (Below.heap_setCell _ _ _ _ (by simp <;> omega)).trans r7
      have B8 : Below w.heap.size w (w7.setCell ⟨ab, 0, none⟩ (.int .i64 v1)) := HB7.out.setCell (by simp <;> omega) _
      go_roundw
      case rel => exact ⟨⟨2, rfl, .inr (.inr (.inl ⟨rfl, rfl, A8⟩))⟩, G8, M8, R8, B8⟩
      case measure => simp [intOf]
    · go_wp2_with fail
      refine (rowDigit_is a b r d _ _).mono ?_
      rintro e w7 ⟨rfl, hb7⟩
      have a7 := keep_block hb7 ha (lt_of_block ha)
      have g7' := keep_block hb7 hg (lt_of_block hg)
      have m7 := keep_block hb7 hmm (lt_of_block hmm)
      have r7 := keep_block hb7 hrr (lt_of_block hrr)
      have HB7 : Hid (Below w.heap.size w w7) := HBR.out.trans (hb7.mono HBR.out.size)
      clear hb7 ha hg hmm hrr HBR cg0 cg1 cg2 cg3
      obtain ⟨y0, y1, y2⟩ := cells3 a7
      have z0 := thawed a7 1
      go_wp2_with fail
      have A8 : (w7.setCell ⟨ab, 1, none⟩ (.int .i64 v2)).heap[ab]? = some (.cells #[.int .i64 v1, .int .i64 v2, .int .i64 v0] 37) := set_cells3_1 a7 _
      have G8 : (w7.setCell ⟨ab, 1, none⟩ (.int .i64 v2)).heap[w.heap.size]? = some (.cells #[.int .i64 a, .int .i64 b, .int .i64 r, .int .i64 d] 25) := (Below.heap_setCell _ _ _ _ (by simp <;> omega)).trans g7'
      have M8 : (w7.setCell ⟨ab, 1, none⟩ (.int .i64 v2)).heap[w.heap.size + 1]? = some (.cells #[.int .i64 0, .bool false] 27) := (Below.heap_setCell _ _ _ _ (by simp <;> omega)).trans m7
      have R8 : (w7.setCell ⟨ab, 1, none⟩ (.int .i64 v2)).heap[w.heap.size + 1 + 1]? = some (.cells #[.int .i64 0, .int .i64 0, .int .i64 0] 37) := (Below.heap_setCell _ _ _ _ (by simp <;> omega)).trans r7
      have B8 : Below w.heap.size w (w7.setCell ⟨ab, 1, none⟩ (.int .i64 v2)) := HB7.out.setCell (by simp <;> omega) _
      go_roundw
      case rel => exact ⟨⟨3, rfl, .inr (.inr (.inr ⟨rfl, rfl, A8⟩))⟩, G8, M8, R8, B8⟩
      case measure => simp [intOf]
    · obtain ⟨cm0, cm1⟩ := cells2 hmm
      obtain ⟨x0, x1, x2⟩ := cells3 ha
      obtain ⟨y0, y1, y2⟩ := cells3 hrr
      have z0 := thawed hrr 0
      have z1 := thawed hrr 1
      have z2 := thawed hrr 2
      go_wp2
      (try simp only [Exit.inBlock, Exit.then])
      refine bodyPost_ret (v := adV v1 v2 v0 true) ?_ rfl ⟨by rw [HE.out], ?_⟩
      · rw [results_cell_tmp rfl]
        go_simp
        rfl
      · have h1 := HBR.out.size
        repeat' (first | refine Below.setCell ?_ (by simp <;> omega) _ | refine Below.drew ?_ | exact HBR.out)

set_option maxHeartbeats 4000000 in
set_option maxRecDepth 100000 in
theorem implMapLine_0_true (a b r d l : Int) (kl : LnOk a b r d l) (w : World) :
    Calls Try.prog 13 #[.agg #[.int .i64 a, .int .i64 b, .int .i64 r, .int .i64 d], .agg #[.int .i64 0, .bool true], .int .i64 l] w (Gives (mapF a b r d 0 true l) w) := by
  obtain ⟨w1, hw1⟩ : ∃ x, ((w.alloc (.cells #[.int .i64 a, .int .i64 b, .int .i64 r, .int .i64 d] 25)).alloc (.cells #[.int .i64 0, .bool true] 27)).alloc (.cells #[.int .i64 0, .int .i64 0, .int .i64 0] 37) = x := ⟨_, rfl⟩
  have HB1 : Hid (Below w.heap.size w w1) := by subst hw1; exact (((Below.refl _ _).alloc (by simp) _).alloc (by simp) _).alloc (by simp; omega) _
  have g1 : w1.heap[w.heap.size]? = some (.cells #[.int .i64 a, .int .i64 b, .int .i64 r, .int .i64 d] 25) := by subst hw1; exact box3_0 _ _ _ _
  have m1 : w1.heap[w.heap.size + 1]? = some (.cells #[.int .i64 0, .bool true] 27) := by subst hw1; exact box3_1 _ _ _ _
  have r1 : w1.heap[w.heap.size + 1 + 1]? = some (.cells #[.int .i64 0, .int .i64 0, .int .i64 0] 37) := by subst hw1; exact box3_2 _ _ _ _
  obtain ⟨cg0, cg1, cg2, cg3⟩ := cells4 g1
  obtain ⟨cm0, cm1⟩ := cells2 m1
  have KO := Lib.hid (decide_eq_true (show (0 : Int) ≤ 0 ∧ (0 : Int) ≤ 2 by decide))
  have hmr := lineN_range a b r d
  have KLT : Hid (LnOk a b r d l) := kl
  have hn1 := kl.bank
  have hn2 := bankN_range a b r d
  have HE := Lib.hid (mapF_ok (o := 0) (h := true) (by decide) kl)
  have l0 := kl.1
  have l1 := kl.2
  have hr := map_range (o := 0) (by decide) hn1 (show 1 ≤ r from by have := kl.geo; unfold GeoOk at this; omega) (show 1 ≤ d from by have := kl.geo; unfold GeoOk at this; omega) l0 (by unfold lineN at l1; omega)
  obtain ⟨_, _, ⟨g5, g6⟩, ⟨g7, g8⟩⟩ := kl.geo
  clear kl
  unfold bankF at HE
  obtain ⟨m, hm⟩ : ∃ m, lineN a b r d = m := ⟨_, rfl⟩
  have HM := Lib.hid hm
  rw [hm] at hmr l1
  clear hm
  obtain ⟨n, hn⟩ : ∃ n, bankN a b r d = n := ⟨_, rfl⟩
  have HN := Lib.hid hn
  rw [hn] at hn1 hn2 hr HE
  clear hn
  have d0 : ¬ d = 0 := by omega
  have n0 : ¬ n = 0 := by omega
  have r0 : ¬ r = 0 := by omega
  obtain ⟨q1, hq1⟩ : ∃ x, l / d = x := ⟨_, rfl⟩
  have p10 : 0 ≤ q1 := by rw [← hq1]; exact Int.ediv_nonneg l0 (by omega)
  have p11 : q1 ≤ l := by rw [← hq1]; exact Int.ediv_le_self _ l0
  obtain ⟨v0, hv0⟩ : ∃ x, l % d = x := ⟨_, rfl⟩
  have s00 : 0 ≤ v0 := by rw [← hv0]; exact Int.emod_nonneg _ d0
  have s01 : v0 < d := by rw [← hv0]; exact Int.emod_lt_of_pos _ (by omega)
  have t00 : l.tdiv d = q1 := by rw [Int.tdiv_eq_ediv_of_nonneg l0, hq1]
  have t01 : IntKind.i64.wrap q1 = q1 := IntWalk.i64_in _ ⟨by omega, by omega⟩
  have t02 : l.tmod d = v0 := by rw [Int.tmod_eq_emod_of_nonneg l0, hv0]
  obtain ⟨q2, hq2⟩ : ∃ x, q1 / n = x := ⟨_, rfl⟩
  have p20 : 0 ≤ q2 := by rw [← hq2]; exact Int.ediv_nonneg p10 (by omega)
  have p21 : q2 ≤ q1 := by rw [← hq2]; exact Int.ediv_le_self _ p10
  obtain ⟨v1, hv1⟩ : ∃ x, q1 % n = x := ⟨_, rfl⟩
  have s10 : 0 ≤ v1 := by rw [← hv1]; exact Int.emod_nonneg _ n0
  have s11 : v1 < n := by rw [← hv1]; exact Int.emod_lt_of_pos _ (by omega)
  have t10 : q1.tdiv n = q2 := by rw [Int.tdiv_eq_ediv_of_nonneg p10, hq2]
  have t11 : IntKind.i64.wrap q2 = q2 := IntWalk.i64_in _ ⟨by omega, by omega⟩
  have t12 : q1.tmod n = v1 := by rw [Int.tmod_eq_emod_of_nonneg p10, hv1]
  obtain ⟨q3, hq3⟩ : ∃ x, q2 / r = x := ⟨_, rfl⟩
  have p30 : 0 ≤ q3 := by rw [← hq3]; exact Int.ediv_nonneg p20 (by omega)
  have p31 : q3 ≤ q2 := by rw [← hq3]; exact Int.ediv_le_self _ p20
  obtain ⟨v2, hv2⟩ : ∃ x, q2 % r = x := ⟨_, rfl⟩
  have s20 : 0 ≤ v2 := by rw [← hv2]; exact Int.emod_nonneg _ r0
  have s21 : v2 < r := by rw [← hv2]; exact Int.emod_lt_of_pos _ (by omega)
  have t20 : q2.tdiv r = q3 := by rw [Int.tdiv_eq_ediv_of_nonneg p20, hq3]
  have t21 : IntKind.i64.wrap q3 = q3 := IntWalk.i64_in _ ⟨by omega, by omega⟩
  have t22 : q2.tmod r = v2 := by rw [Int.tmod_eq_emod_of_nonneg p20, hv2]
  have hlast : mapRow 0 d r n l = q2 := by show l / d / n = q2; rw [hq1, hq2]
  rw [hlast] at hr
  have hv2q : v2 = q2 := by rw [← hv2]; exact Int.emod_eq_of_lt p20 (by omega)
  have hx_bank : mapBank 0 d r n l = v1 := by show l / d % n = v1; rw [hq1, hv1]
  have hx_row : mapRow 0 d r n l = v2 := hlast.trans hv2q.symm
  have hx_col : mapCol 0 d r n l = v0 := by show l % d = v0; rw [hv0]
  rw [hx_bank, hx_row, hx_col] at HE
  have hh : mapHash true v1 v2 n = (v1 + v2) % n := rfl
  rw [hh] at HE
  have ix0 : ∀ w : World, (Instr.index 67 (.agg #[.func (.func 48) #[] #[], .func (.func 49) #[] #[], .func (.func 50) #[] #[]]) (.int .i64 0)).run Try.prog w = .ok (.func (.func 48) #[] #[]) w := fun w => by rfl
  have ix1 : ∀ w : World, (Instr.index 67 (.agg #[.func (.func 48) #[] #[], .func (.func 49) #[] #[], .func (.func 50) #[] #[]]) (.int .i64 1)).run Try.prog w = .ok (.func (.func 49) #[] #[]) w := fun w => by rfl
  have ix2 : ∀ w : World, (Instr.index 67 (.agg #[.func (.func 48) #[] #[], .func (.func 49) #[] #[], .func (.func 50) #[] #[]]) (.int .i64 2)).run Try.prog w = .ok (.func (.func 50) #[] #[]) w := fun w => by rfl
  clear hh hx_bank hx_row hx_col hv2q hlast hr hq1 hv0 hq2 hv1 hq3 hv2
  go_enter Try.func13, Try.ntmps13
  go_wp2_with fail
  refine (implMappingOk_is _ _ _ KO.out _).mono ?_
  rintro e w2 ⟨rfl, hb2⟩
  have r2 := keep_block hb2 r1 (lt_of_block r1)
  have g2 := keep_block hb2 g1 (lt_of_block g1)
  have m2 := keep_block hb2 m1 (lt_of_block m1)
  have HB2 : Hid (Below w.heap.size w w2) := HB1.out.trans (hb2.mono HB1.out.size)
  clear hb2 r1 g1 m1 hw1 HB1 cg0 cg1 cg2 cg3 cm0 cm1
  obtain ⟨cg0, cg1, cg2, cg3⟩ := cells4 g2
  go_wp2_with fail
  refine (implLine_is _ _ _ _ _ HM.out _).mono ?_
  rintro e w3 ⟨rfl, hb3⟩
  have r3 := keep_block hb3 r2 (lt_of_block r2)
  have g3 := keep_block hb3 g2 (lt_of_block g2)
  have m3 := keep_block hb3 m2 (lt_of_block m2)
  have HB3 : Hid (Below w.heap.size w w3) := HB2.out.trans (hb3.mono HB2.out.size)
  have hs3 := hb3.size
  clear hb3 r2 g2 m2 HB2 cg0 cg1 cg2 cg3
  obtain ⟨w4, hw4⟩ : ∃ x, w3.alloc (.cells #[.int .i64 0, .int .i64 0, .int .i64 0] 37) = x := ⟨_, rfl⟩
  have hb4 : Below w3.heap.size w3 w4 := by subst hw4; exact (Below.refl _ _).alloc (Nat.le_refl _) _
  have t4 : w4.heap[w3.heap.size]? = some (.cells #[.int .i64 0, .int .i64 0, .int .i64 0] 37) := by subst hw4; exact heap_alloc_new _ _
  have r4 := keep_block hb4 r3 (lt_of_block r3)
  have g4 := keep_block hb4 g3 (lt_of_block g3)
  have m4 := keep_block hb4 m3 (lt_of_block m3)
  have HB4 : Hid (Below w.heap.size w w4) := HB3.out.trans (hb4.mono HB3.out.size)
  have HBS3 := Lib.hid HB3.out.size
  have hlr := lt_of_block r3
  clear hb4 r3 g3 m3 HB3
  obtain ⟨cm0, cm1⟩ := cells2 m4
  go_wp2_with fail
  refine (digitsOf_0 _).mono ?_
  rintro e w5 ⟨rfl, hb5⟩
  have t5 := keep_block hb5 t4 (lt_of_block t4)
  have r5 := keep_block hb5 r4 (lt_of_block r4)
  have g5 := keep_block hb5 g4 (lt_of_block g4)
  have m5 := keep_block hb5 m4 (lt_of_block m4)
  have HB5 : Hid (Below w.heap.size w w5) := HB4.out.trans (hb5.mono HB4.out.size)
  have hab : w.heap.size + 2 < w3.heap.size := hlr
  clear hb5 t4 r4 g4 m4 HB4 hw4 cm0 cm1
  obtain ⟨ab, hab'⟩ : ∃ x, w3.heap.size = x := ⟨_, rfl⟩
  rw [hab'] at t5 hab HBS3
  go_wp2_with fail
  go_loopw [2, 30] (fun line kk wr => (∃ k : Nat, kk = .int .i64 k ∧ ((k = 0 ∧ line = .int .i64 l ∧ wr.heap[ab]? = some (.cells #[.int .i64 0, .int .i64 0, .int .i64 0] 37)) ∨ (k = 1 ∧ line = .int .i64 q1 ∧ wr.heap[ab]? = some (.cells #[.int .i64 0, .int .i64 0, .int .i64 v0] 37)) ∨ (k = 2 ∧ line = .int .i64 q2 ∧ wr.heap[ab]? = some (.cells #[.int .i64 v1, .int .i64 0, .int .i64 v0] 37)) ∨ (k = 3 ∧ line = .int .i64 q3 ∧ wr.heap[ab]? = some (.cells #[.int .i64 v1, .int .i64 v2, .int .i64 v0] 37))))
    ∧ wr.heap[w.heap.size]? = some (.cells #[.int .i64 a, .int .i64 b, .int .i64 r, .int .i64 d] 25) ∧ wr.heap[w.heap.size + 1]? = some (.cells #[.int .i64 0, .bool true] 27) ∧ wr.heap[w.heap.size + 1 + 1]? = some (.cells #[.int .i64 0, .int .i64 0, .int .i64 0] 37) ∧ Below w.heap.size w wr) (fun _ kk _ => 3 - (intOf kk).toNat)
  case atStart => exact ⟨⟨0, rfl, .inl ⟨rfl, rfl, t5⟩⟩, g5, m5, r5, HB5.out⟩
  case round =>
    obtain ⟨⟨k, rfl, hk⟩, hg, hmm, hrr, hbr⟩ := hrel
    have HBR := Lib.hid hbr
    clear hbr t5 r5 g5 m5 HB5
    obtain ⟨cg0, cg1, cg2, cg3⟩ := cells4 hg
    rcases hk with ⟨rfl, rfl, ha⟩ | ⟨rfl, rfl, ha⟩ | ⟨rfl, rfl, ha⟩ | ⟨rfl, rfl, ha⟩
    · go_wp2_with fail
      refine (colDigit_is a b r d _ _).mono ?_
      rintro e w7 ⟨rfl, hb7⟩
      have a7 := keep_block hb7 ha (lt_of_block ha)
      have g7' := keep_block hb7 hg (lt_of_block hg)
      have m7 := keep_block hb7 hmm (lt_of_block hmm)
      have r7 := keep_block hb7 hrr (lt_of_block hrr)
      have HB7 : Hid (Below w.heap.size w w7) := HBR.out.trans (hb7.mono HBR.out.size)
      clear hb7 ha hg hmm hrr HBR cg0 cg1 cg2 cg3
      obtain ⟨y0, y1, y2⟩ := cells3 a7
      have z0 := thawed a7 2
      go_wp2_with fail
      have A8 : (w7.setCell ⟨ab, 2, none⟩ (.int .i64 v0)).heap[ab]? = some (.cells #[.int .i64 0, .int .i64 0, .int .i64 v0] 37) := set_cells3_2 a7 _
      have G8 : (w7.setCell ⟨ab, 2, none⟩ (.int .i64 v0)).heap[w.heap.size]? = some (.cells #[.int .i64 a, .int .i64 b, .int .i64 r, .int .i64 d] 25) := (Below.heap_setCell _ _ _ _ (by simp <;> omega)).trans g7'
      have M8 : (w7.setCell ⟨ab, 2, none⟩ (.int .i64 v0)).heap[w.heap.size + 1]? = some (.cells #[.int .i64 0, .bool true] 27) := (Below.heap_setCell _ _ _ _ (by simp <;> omega)).trans m7
      have R8 : (w7.setCell ⟨ab, 2, none⟩ (.int .i64 v0)).heap[w.heap.size + 1 + 1]? = some (.cells #[.int .i64 0, .int .i64 0, .int .i64 0] 37) := (Below.heap_setCell _ _ _ _ (by simp <;> omega)).trans r7
      have B8 : Below w.heap.size w (w7.setCell ⟨ab, 2, none⟩ (.int .i64 v0)) := HB7.out.setCell (by simp <;> omega) _
      go_roundw
      case rel => exact ⟨⟨1, rfl, .inr (.inl ⟨rfl, rfl, A8⟩)⟩, G8, M8, R8, B8⟩
      case measure => simp [intOf]
    · go_wp2_with fail
      refine (bankDigit_is a b r d n HN.out _ _).mono ?_
      rintro e w7 ⟨rfl, hb7⟩
      have a7 := keep_block hb7 ha (lt_of_block ha)
      have g7' := keep_block hb7 hg (lt_of_block hg)
      have m7 := keep_block hb7 hmm (lt_of_block hmm)
      have r7 := keep_block hb7 hrr (lt_of_block hrr)
      have HB7 : Hid (Below w.heap.size w w7) := HBR.out.trans (hb7.mono HBR.out.size)
      clear hb7 ha hg hmm hrr HBR cg0 cg1 cg2 cg3
      obtain ⟨y0, y1, y2⟩ := cells3 a7
      have z0 := thawed a7 0
      go_wp2_with fail
      have A8 : (w7.setCell ⟨ab, 0, none⟩ (.int .i64 v1)).heap[ab]? = some (.cells #[.int .i64 v1, .int .i64 0, .int .i64 v0] 37) := set_cells3_0 a7 _
      have G8 : (w7.setCell ⟨ab, 0, none⟩ (.int .i64 v1)).heap[w.heap.size]? = some (.cells #[.int .i64 a, .int .i64 b, .int .i64 r, .int .i64 d] 25) := (Below.heap_setCell _ _ _ _ (by simp <;> omega)).trans g7'
      have M8 : (w7.setCell ⟨ab, 0, none⟩ (.int .i64 v1)).heap[w.heap.size + 1]? = some (.cells #[.int .i64 0, .bool true] 27) := (Below.heap_setCell _ _ _ _ (by simp <;> omega)).trans m7
      have R8 : (w7.setCell ⟨ab, 0, none⟩ (.int .i64 v1)).heap[w.heap.size + 1 + 1]? = some (.cells #[.int .i64 0, .int .i64 0, .int .i64 0] 37) := (Below.heap_setCell _ _ _ _ (by simp <;> omega)).trans r7
      have B8 : Below w.heap.size w (w7.setCell ⟨ab, 0, none⟩ (.int .i64 v1)) := HB7.out.setCell (by simp <;> omega) _
      go_roundw
      case rel => exact ⟨⟨2, rfl, .inr (.inr (.inl ⟨rfl, rfl, A8⟩))⟩, G8, M8, R8, B8⟩
      case measure => simp [intOf]
    · go_wp2_with fail
      refine (rowDigit_is a b r d _ _).mono ?_
      rintro e w7 ⟨rfl, hb7⟩
      have a7 := keep_block hb7 ha (lt_of_block ha)
      have g7' := keep_block hb7 hg (lt_of_block hg)
      have m7 := keep_block hb7 hmm (lt_of_block hmm)
      have r7 := keep_block hb7 hrr (lt_of_block hrr)
      have HB7 : Hid (Below w.heap.size w w7) := HBR.out.trans (hb7.mono HBR.out.size)
      clear hb7 ha hg hmm hrr HBR cg0 cg1 cg2 cg3
      obtain ⟨y0, y1, y2⟩ := cells3 a7
      have z0 := thawed a7 1
      go_wp2_with fail
      have A8 : (w7.setCell ⟨ab, 1, none⟩ (.int .i64 v2)).heap[ab]? = some (.cells #[.int .i64 v1, .int .i64 v2, .int .i64 v0] 37) := set_cells3_1 a7 _
      have G8 : (w7.setCell ⟨ab, 1, none⟩ (.int .i64 v2)).heap[w.heap.size]? = some (.cells #[.int .i64 a, .int .i64 b, .int .i64 r, .int .i64 d] 25) := (Below.heap_setCell _ _ _ _ (by simp <;> omega)).trans g7'
      have M8 : (w7.setCell ⟨ab, 1, none⟩ (.int .i64 v2)).heap[w.heap.size + 1]? = some (.cells #[.int .i64 0, .bool true] 27) := (Below.heap_setCell _ _ _ _ (by simp <;> omega)).trans m7
      have R8 : (w7.setCell ⟨ab, 1, none⟩ (.int .i64 v2)).heap[w.heap.size + 1 + 1]? = some (.cells #[.int .i64 0, .int .i64 0, .int .i64 0] 37) := (Below.heap_setCell _ _ _ _ (by simp <;> omega)).trans r7
      have B8 : Below w.heap.size w (w7.setCell ⟨ab, 1, none⟩ (.int .i64 v2)) := HB7.out.setCell (by simp <;> omega) _
      go_roundw
      case rel => exact ⟨⟨3, rfl, .inr (.inr (.inr ⟨rfl, rfl, A8⟩))⟩, G8, M8, R8, B8⟩
      case measure => simp [intOf]
    · obtain ⟨cm0, cm1⟩ := cells2 hmm
      obtain ⟨x0, x1, x2⟩ := cells3 ha
      obtain ⟨y0, y1, y2⟩ := cells3 hrr
      have z0 := thawed hrr 0
      have z1 := thawed hrr 1
      have z2 := thawed hrr 2
      have f0 := thawed ha 0
      go_wp2_with fail
      refine (rotatedBank_is a b r d n v1 v2 HN.out hn1 (by omega) (by omega) _).mono ?_
      rintro e w7 ⟨rfl, hb7⟩
      have a7 := keep_block hb7 ha (lt_of_block ha)
      have r7 := keep_block hb7 hrr (lt_of_block hrr)
      have HB7 : Hid (Below w.heap.size w w7) := HBR.out.trans (hb7.mono HBR.out.size)
      clear hb7 ha hg hmm hrr HBR cg0 cg1 cg2 cg3 cm0 cm1 x0 x1 x2 y0 y1 y2 z0 z1 z2 f0
      obtain ⟨x0, x1, x2⟩ := cells3 a7
      obtain ⟨y0, y1, y2⟩ := cells3 r7
      have f0 := thawed a7 0
      have z0 := thawed r7 0
      have z1 := thawed r7 1
      have z2 := thawed r7 2
      have hne : ab ≠ w.heap.size + 1 + 1 := by omega
      go_wp2
      (try simp only [Exit.inBlock, Exit.then])
      refine bodyPost_ret (v := adV ((v1 + v2) % n) v2 v0 true) ?_ rfl ⟨by rw [HE.out], ?_⟩
      · rw [results_cell_tmp rfl]
        go_simp
        rfl
      · have h1 := HB7.out.size
        repeat' (first | refine Below.setCell ?_ (by simp <;> omega) _ | refine Below.drew ?_ | exact HB7.out)

end Go.Proofs.Ytdgaggcjimafbaa
