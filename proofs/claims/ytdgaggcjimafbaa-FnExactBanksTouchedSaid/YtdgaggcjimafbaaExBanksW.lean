/-
  The walk of the exact statement over the banks of a run of lines, out of the two contracts.
-/
import Derived.Test.YtdgaggcjimafbaaSpecBanks
import Derived.Test.YtdgaggcjimafbaaImplBanks
import Derived.Test.YtdgaggcjimafbaaIntsW
import Derived.Test.YtdgaggcjimafbaaTail
namespace Go.Proofs.Ytdgaggcjimafbaa
open Go.RowKit

set_option linter.unusedVariables false

set_option maxHeartbeats 4000000 in
set_option maxRecDepth 100000 in
theorem exBanksTouched_walk (a b c d o : Int) (h : Bool) (s t : Int) (w : World) (_ : (Lit.int .i64 a).wf = true) (_ : (Lit.int .i64 b).wf = true) (_ : (Lit.int .i64 c).wf = true) (_ : (Lit.int .i64 d).wf = true) (_ : (Lit.int .i64 o).wf = true) (hsw : (Lit.int .i64 s).wf = true) (_ : (Lit.int .i64 t).wf = true) :
    Calls Try.prog 8 #[.agg #[.int .i64 a, .int .i64 b, .int .i64 c, .int .i64 d], .agg #[.int .i64 o, .bool h], .int .i64 s, .int .i64 t] w fun e w' => e = .returned (.bool true) ∧ Below w.heap.size w w' := by
  have hs : s ≤ 9223372036854775807 := by
    have : IntKind.i64.min ≤ s ∧ s ≤ IntKind.i64.max := by simpa [Lit.wf] using hsw
    have e : IntKind.i64.max = 9223372036854775807 := by decide
    omega
  have hs' := specBanks_is a b c d o h s t
  have hi' := implBanks_is a b c d o h s t hs
  have hl8 := touchF_length_le a b c d o h s t
  obtain ⟨L, hL⟩ : ∃ L, touchF a b c d o h s t = L := ⟨_, rfl⟩
  rw [hL] at hs' hi' hl8
  clear hL hs hsw
  obtain ⟨n, hn⟩ : ∃ n, L.length = n := ⟨_, rfl⟩
  unfold GivesI at hs' hi'
  rw [hn] at hs' hi' hl8
  have HN := Lib.hid hn
  have SPEC := Lib.hid hs'
  have IMPL := Lib.hid hi'
  clear hs' hi' hn
  obtain ⟨w1, hw1⟩ : ∃ u, (w.alloc (.cells #[.int .i64 a, .int .i64 b, .int .i64 c, .int .i64 d] 47)).alloc (.cells #[.int .i64 o, .bool h] 44) = u := ⟨_, rfl⟩
  have HB1 : Hid (Below w.heap.size w w1) := by subst hw1; exact ((Below.refl _ _).alloc (by simp) _).alloc (by simp) _
  have g1 : w1.heap[w.heap.size]? = some (.cells #[.int .i64 a, .int .i64 b, .int .i64 c, .int .i64 d] 47) := by subst hw1; exact heap_alloc2_old _ _ _
  have m1 : w1.heap[w.heap.size + 1]? = some (.cells #[.int .i64 o, .bool h] 44) := by subst hw1; exact heap_alloc2_new _ _ _
  obtain ⟨cg0, cg1, cg2, cg3⟩ := cells4 g1
  obtain ⟨cm0, cm1⟩ := cells2 m1
  have v0 := fun zz : Later w1 => zz.cell cg0
  have v1 := fun zz : Later w1 => zz.cell cg1
  have v2 := fun zz : Later w1 => zz.cell cg2
  have v3 := fun zz : Later w1 => zz.cell cg3
  have v4 := fun zz : Later w1 => zz.cell cm0
  have v5 := fun zz : Later w1 => zz.cell cm1
  go_enter Try.func8, Try.ntmps8
  go_wp2_with fail
  refine wp_region_later_tail 6 (by kernel_rfl) (by kernel_rfl) ?_
  simp only [List.take_succ_cons, List.take_zero, List.drop_succ_cons, List.drop_zero]
  repeat (go_big_quiet_step (first | (go_at_call 22; exact Gives.later _ (toGeometry_any _ _ _ _ _)) | (go_at_call 20; exact Gives.later _ (toMapping_any _ _ _))))
  refine wpQuiet_nil ?_
  rintro w2 ⟨q2, hq2⟩
  have hb2 : Below w1.heap.size w1 w2 := hq2 ▸ q2.ok
  have g2 := keep_block hb2 g1 (lt_of_block g1)
  have m2 := keep_block hb2 m1 (lt_of_block m1)
  have HB2 : Hid (Below w.heap.size w w2) := HB1.out.trans (hb2.mono HB1.out.size)
  clear hq2 q2 hb2 g1 m1 hw1 HB1 cg0 cg1 cg2 cg3 cm0 cm1 v0 v1 v2 v3 v4 v5
  go_wp2_with fail
  refine (SPEC.out _).mono ?_
  rintro e w3 ⟨a1, c1, rfl, own1, hb3⟩
  have g3 := keep_block hb3 g2 (lt_of_block g2)
  have m3 := keep_block hb3 m2 (lt_of_block m2)
  have HB3 : Hid (Below w.heap.size w w3) := HB2.out.trans (hb3.mono HB2.out.size)
  have O1 := Lib.hid own1
  clear hb3 own1 g2 m2 HB2
  obtain ⟨cg0, cg1, cg2, cg3⟩ := cells4 g3
  obtain ⟨cm0, cm1⟩ := cells2 m3
  have v0 := fun zz : Later w3 => zz.cell cg0
  have v1 := fun zz : Later w3 => zz.cell cg1
  have v2 := fun zz : Later w3 => zz.cell cg2
  have v3 := fun zz : Later w3 => zz.cell cg3
  have v4 := fun zz : Later w3 => zz.cell cm0
  have v5 := fun zz : Later w3 => zz.cell cm1
  go_wp2_with fail
  refine wp_region_later_tail 6 (by kernel_rfl) (by kernel_rfl) ?_
  simp only [List.take_succ_cons, List.take_zero, List.drop_succ_cons, List.drop_zero]
  repeat (go_big_quiet_step (first | (go_at_call 22; exact Gives.later _ (toGeometry_any _ _ _ _ _)) | (go_at_call 20; exact Gives.later _ (toMapping_any _ _ _))))
  refine wpQuiet_nil ?_
  rintro w4 ⟨q4, hq4⟩
  have hb4 : Below w3.heap.size w3 w4 := hq4 ▸ q4.ok
  have g4 := keep_block hb4 g3 (lt_of_block g3)
  have m4 := keep_block hb4 m3 (lt_of_block m3)
  have HB4 : Hid (Below w.heap.size w w4) := HB3.out.trans (hb4.mono HB3.out.size)
  have B34 := Lib.hid hb4
  clear hq4 q4 hb4 g3 m3 HB3 cg0 cg1 cg2 cg3 cm0 cm1 v0 v1 v2 v3 v4 v5
  go_wp2_with fail
  refine (IMPL.out _).mono ?_
  rintro e w5 ⟨a2, c2, rfl, own2, hb5⟩
  have g5 := keep_block hb5 g4 (lt_of_block g4)
  have m5 := keep_block hb5 m4 (lt_of_block m4)
  have HB5 : Hid (Below w.heap.size w w5) := HB4.out.trans (hb5.mono HB4.out.size)
  have B35 : Hid (Below w3.heap.size w3 w5) := B34.out.trans (hb5.mono B34.out.size)
  obtain ⟨gg, hgg, hge⟩ : ∃ gg : Nat, (∀ x, a2 = some x → x.block = gg) ∧ w4.heap.size ≤ gg := by
    cases a2 with
    | none => exact ⟨w4.heap.size, fun x hx => (by cases hx), Nat.le_refl _⟩
    | some x => exact ⟨x.block, fun y hy => by cases hy; rfl, (World.ownsRow.lt own2 x.block rfl).1⟩
  have hge3 : w3.heap.size ≤ gg := Nat.le_trans B34.out.size hge
  have hgw : w.heap.size ≤ gg := Nat.le_trans HB4.out.size hge
  have hg4 := lt_of_block g4
  have hm4 := lt_of_block m4
  have O2 := Lib.hid own2
  have HGG := Lib.hid hgg
  have hz5 : w4.heap.size ≤ w5.heap.size := hb5.size
  clear hb5 own2 g4 m4 HB4 B34 hgg
  go_wp2_with fail
  refine (eqIntS_any HN.out O2.out (O1.out.below B35.out) (by omega)).mono ?_
  rintro e w6 ⟨rfl, hb6⟩
  have g6 := keep_block hb6 g5 (lt_of_block g5)
  have m6 := keep_block hb6 m5 (lt_of_block m5)
  have HB6 : Hid (Below w.heap.size w w6) := HB5.out.trans (hb6.mono HB5.out.size)
  have B36 : Hid (Below w3.heap.size w3 w6) := B35.out.trans (hb6.mono B35.out.size)
  have O26 := Lib.hid (O2.out.below hb6)
  have hz6 : w4.heap.size ≤ w6.heap.size := Nat.le_trans hz5 hb6.size
  clear hb6 O2 g5 m5 HB5 B35
  go_wp2_with fail
  refine (markIntS_any HN.out O26.out 1 (by omega) gg HGG.out).mono ?_
  rintro e w7 ⟨rfl, own7, ho7⟩
  have bel7 : Below w4.heap.size w6 w7 := ho7.below hge hz6
  have g7 := keep_block bel7 g6 hg4
  have m7 := keep_block bel7 m6 hm4
  have HB7 : Hid (Below w.heap.size w w7) := HB6.out.trans (ho7.below hgw HB6.out.size)
  have B37 : Hid (Below w3.heap.size w3 w7) := B36.out.trans (ho7.below hge3 B36.out.size)
  have O7 := Lib.hid own7
  clear own7 ho7 bel7 g6 m6 HB6 B36 O26 HGG
  obtain ⟨M, hM⟩ : ∃ M : Int, ((1 + n : Nat) : Int) = M := ⟨_, rfl⟩
  have hM0 : 0 ≤ M := by omega
  rw [hM]
  have hh := fun (w : World) (k : OwnI w4.heap.size (.slice a2 n c2) (marksI 1 n) w) => heldIntS_any (w := w) 1 k (by omega)
  rw [hM] at hh
  have HH := Lib.hid hh
  have tMM : (M != M) = false := by simp
  clear hh hM
  go_wp2_with fail
  refine (HH.out _ O7.out).mono ?_
  rintro e w8 ⟨rfl, hb8⟩
  have g8 := keep_block hb8 g7 (lt_of_block g7)
  have m8 := keep_block hb8 m7 (lt_of_block m7)
  have HB8 : Hid (Below w.heap.size w w8) := HB7.out.trans (hb8.mono HB7.out.size)
  have B38 : Hid (Below w3.heap.size w3 w8) := B37.out.trans (hb8.mono B37.out.size)
  have O8 := Lib.hid (O7.out.below hb8)
  clear hb8 g7 m7 HB7 B37 O7
  obtain ⟨cg0, cg1, cg2, cg3⟩ := cells4 g8
  obtain ⟨cm0, cm1⟩ := cells2 m8
  have v0 := fun zz : Later w8 => zz.cell cg0
  have v1 := fun zz : Later w8 => zz.cell cg1
  have v2 := fun zz : Later w8 => zz.cell cg2
  have v3 := fun zz : Later w8 => zz.cell cg3
  have v4 := fun zz : Later w8 => zz.cell cm0
  have v5 := fun zz : Later w8 => zz.cell cm1
  go_wp2_with fail
  refine wp_region_later_tail 6 (by kernel_rfl) (by kernel_rfl) ?_
  simp only [List.take_succ_cons, List.take_zero, List.drop_succ_cons, List.drop_zero]
  repeat (go_big_quiet_step (first | (go_at_call 22; exact Gives.later _ (toGeometry_any _ _ _ _ _)) | (go_at_call 20; exact Gives.later _ (toMapping_any _ _ _))))
  refine wpQuiet_nil ?_
  rintro w9 ⟨q9, hq9⟩
  have hb9 : Below w8.heap.size w8 w9 := hq9 ▸ q9.ok
  have HB9 : Hid (Below w.heap.size w w9) := HB8.out.trans (hb9.mono HB8.out.size)
  have B39 : Hid (Below w3.heap.size w3 w9) := B38.out.trans (hb9.mono B38.out.size)
  have O9 := Lib.hid (O8.out.below hb9)
  clear hq9 q9 hb9 g8 m8 HB8 B38 O8 cg0 cg1 cg2 cg3 cm0 cm1 v0 v1 v2 v3 v4 v5
  go_wp2_with fail
  refine (IMPL.out _).mono ?_
  rintro e w10 ⟨a3, c3, rfl, own3, hb10⟩
  have HB10 : Hid (Below w.heap.size w w10) := HB9.out.trans (hb10.mono HB9.out.size)
  have B310 : Hid (Below w3.heap.size w3 w10) := B39.out.trans (hb10.mono B39.out.size)
  have O10 := Lib.hid (O9.out.below hb10)
  have O3 := Lib.hid own3
  clear hb10 own3 HB9 B39 O9
  go_wp2_with fail
  refine (eqIntS_any HN.out O3.out (O1.out.below B310.out) (by omega)).mono ?_
  rintro e w11 ⟨rfl, hb11⟩
  have HB11 : Hid (Below w.heap.size w w11) := HB10.out.trans (hb11.mono HB10.out.size)
  have O11 := Lib.hid (O10.out.below hb11)
  clear hb11 O3 HB10 B310 O10 O1
  go_wp2_with fail
  refine (HH.out _ O11.out).mono ?_
  rintro e w12 ⟨rfl, hb12⟩
  have HB12 : Hid (Below w.heap.size w w12) := HB11.out.trans (hb12.mono HB11.out.size)
  clear hb12 O11 HB11
  go_wp2
  go_ret
  exact ⟨rfl, HB12.out⟩

end Go.Proofs.Ytdgaggcjimafbaa
