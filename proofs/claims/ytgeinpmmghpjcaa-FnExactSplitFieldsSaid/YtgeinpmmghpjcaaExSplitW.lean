/-
  FnExactSplitFields's walk.
-/
import Derived.Test.YtgeinpmmghpjcaaMarkW
namespace Go.Proofs.Ytgeinpmmghpjcaa
open Go.RowKit
set_option linter.unusedVariables false

set_option maxHeartbeats 2000000 in
set_option maxRecDepth 100000 in
theorem exSplit_walk (s : ByteArray) (w : World) (hs : s.size ≤ maxLen) :
    Calls Try.prog 7 #[.string s] w fun e w' => e = .returned (.bool true) ∧ Below w.heap.size w w' := by
  have hs' := hs
  unfold maxLen at hs'
  have hn : (splitF s).length ≤ 24 := splitF_length s
  obtain ⟨n, hN⟩ : ∃ n, (splitF s).length = n := ⟨_, rfl⟩
  rw [hN] at hn
  have HN := Lib.hid hN; clear hN
  by_cases h1 : (1048576 : Int) < (s.size : Int)
  · go_enter Try.func7, Try.ntmps7
    go_wp2_with fail
    go_ret
    exact ⟨rfl, Below.refl _ _⟩
  · go_enter Try.func7, Try.ntmps7
    go_wp2_with fail
    refine (specSplit_any s _ hs).mono ?_
    rintro e w1 ⟨a1, c1, rfl, ho1, hb1⟩
    rw [HN.out] at ho1 ⊢
    have O1 := Lib.hid ho1; have B1 := Lib.hid hb1; clear ho1 hb1
    go_wp2_with fail
    refine (implSplit_any s _ hs).mono ?_
    rintro e w2 ⟨a2, c2, rfl, ho2, hb2⟩
    rw [HN.out] at ho2 ⊢
    have O2 := Lib.hid ho2; have B2 := Lib.hid hb2; clear ho2 hb2
    have O12 := Lib.hid (O1.out.below B2.out)
    go_wp2_with fail
    refine (eqStringS_any HN.out O2.out O12.out (by omega)).mono ?_
    rintro e w3 ⟨rfl, q3, rfl⟩
    have O2' := Lib.hid (O2.out.drewN q3)
    cases hok : splitOk s
    all_goals
      have HOK := Lib.hid hok; clear hok
      go_wp2_with fail
      refine (markStringS_1 HN.out O2'.out (by omega) (blkOf w1.heap.size a2) blkOf_some).mono ?_
      rintro e w4 ⟨rfl, ho4, hk4⟩
      have O4 := Lib.hid ho4; have K4 := Lib.hid hk4; clear ho4 hk4
      go_wp2_with fail
      refine (heldStringS_1 O4.out (by omega)).mono ?_
      rintro e w5 ⟨rfl, hb5⟩
      have O5 := Lib.hid (O4.out.below hb5); have B5 := Lib.hid hb5; clear hb5
      go_wp2_with fail
      refine (implSplit_any s _ hs).mono ?_
      rintro e w6 ⟨a6, c6, rfl, ho6, hb6⟩
      rw [HN.out] at ho6 ⊢
      rw [HOK.out]
      have O6 := Lib.hid ho6; have B6 := Lib.hid hb6; have O56 := Lib.hid (O5.out.below hb6); clear ho6 hb6
      have O16 : Hid (OwnS w.heap.size (.slice a1 n c1) (splitF s) w6) :=
        (((O12.out.drewN q3).keep K4.out (fun x hx => by have h1 := O1.out.lo x hx; have h2 := O2.out.lo_blk (Nat.le_refl _); omega)).below B5.out).below B6.out
      go_wp2_with fail
      refine (eqStringS_any HN.out O6.out O16.out (by omega)).mono ?_
      rintro e w7 ⟨rfl, q7, rfl⟩
      have O7 := Lib.hid (O56.out.drewN q7)
      go_wp2_with fail
      refine (heldStringS_1 O7.out (by omega)).mono ?_
      rintro e w8 ⟨rfl, hb8⟩
      have B8 := Lib.hid hb8; clear hb8
      go_wp2_with fail
      go_ret
      refine ⟨rfl, ?_⟩
      have l1 := B1.out.size
      have l2 := B2.out.size
      have l4 : w2.heap.size ≤ w4.heap.size := K4.out.size
      have l5 := B5.out.size
      have l6 := B6.out.size
      have l7 := O2.out.lo_blk (Nat.le_refl _)
      have b4 : Below w.heap.size (w2.drewN q3) w4 := K4.out.below (by omega) (show w.heap.size ≤ w2.heap.size by omega)
      have b24 : Below w.heap.size w2 w4 := ⟨b4.os, b4.tape, b4.output, b4.size, b4.block⟩
      have b8 : Below w.heap.size w6 w8 := ⟨B8.out.os, B8.out.tape, B8.out.output, B8.out.size, fun k hk => B8.out.block k (show k < w6.heap.size by omega)⟩
      exact ((((B1.out.trans (B2.out.mono (by omega))).trans b24).trans (B5.out.mono (by omega))).trans (B6.out.mono (by omega))).trans b8
end Go.Proofs.Ytgeinpmmghpjcaa
