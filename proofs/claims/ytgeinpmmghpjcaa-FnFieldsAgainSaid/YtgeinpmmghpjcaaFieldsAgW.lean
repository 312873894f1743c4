/-
  FnFieldsAgain's walk.
-/
import Derived.Test.YtgeinpmmghpjcaaDrawSplitW
import Derived.Test.YtgeinpmmghpjcaaMarkW
import Derived.Test.YtgeinpmmghpjcaaJoinM
import Derived.Test.YtgeinpmmghpjcaaClampedW
namespace Go.Proofs.Ytgeinpmmghpjcaa
open Go.RowKit
set_option linter.unusedVariables false

set_option maxHeartbeats 1000000 in
set_option maxRecDepth 100000 in
/-- Two rows of texts that are alike. -/
theorem sameTexts_any {B C : Nat} {a b : Option Addr} {ca cb : Nat} {l : List ByteArray} {w : World} {n : Nat} (hn : l.length = n) (ha : OwnS B (.slice a n ca) l w) (hb : OwnS C (.slice b n cb) l w) (hl : n ≤ 1000000) :
    Calls Try.prog 16 #[.slice a n ca, .slice b n cb] w fun e w' => e = .returned (.bool true) ∧ ∃ n, w' = w.drewN n := by
  have HN := Lib.hid hn
  have HA := Lib.hid ha
  have HB := Lib.hid hb
  clear hn ha hb
  go_enter Try.func16, Try.ntmps16
  go_wp2_with fail
  go_loopw [5] (fun i wr => ∃ k : Nat, k ≤ n ∧ i = .int .i64 k ∧ ∃ q, wr = w.drewN q) (fun i _ => n - (intOf i).toNat)
  case atStart => exact ⟨0, Nat.zero_le _, rfl, 0, rfl⟩
  case round =>
    obtain ⟨k, hk, rfl, q, rfl⟩ := hrel
    by_cases hlt : k < n
    · obtain ⟨ga, rfl, hca, _, _, _⟩ := HA.out.at (k := k) (by rw [HN.out]; exact hlt)
      obtain ⟨gb, rfl, hcb, _, _, _⟩ := HB.out.at (k := k) (by rw [HN.out]; exact hlt)
      obtain ⟨x, hx⟩ : ∃ x, l[k]'(by rw [HN.out]; exact hlt) = x := ⟨_, rfl⟩
      rw [hx] at hca hcb
      clear hx
      go_wp2_with fail
      go_quiet (fail)
      go_wp2
      go_roundw
      case rel => exact ⟨k + 1, by omega, by go_num, _, rfl⟩
      case measure => simp [intOf]; omega
    · go_wp2_with fail
      go_ret
      exact ⟨rfl, q, rfl⟩

set_option maxHeartbeats 4000000 in
set_option maxRecDepth 100000 in
theorem fieldsAgain_walk (a : Option Addr) (len cap : Nat) (z : List Int) (w : World) (hr : IsRow .u8 w a len cap z) :
    Calls Try.prog 4 #[.slice a len cap] w fun e w' => e = .returned (.bool true) ∧ Below w.heap.size w w' := by
  have hl := hr.len_le
  unfold maxLen at hl
  by_cases hbig : (1048576 : Int) < (len : Int)
  · go_enter Try.func4, Try.ntmps4
    go_wp2_with (go_at_call 9; refine (big_any _ _ _ _ (by omega)).mono ?_; rintro e w' ⟨rfl, rfl⟩)
    go_ret
    exact ⟨rfl, Below.refl _ _⟩
  · have HRow := Lib.hid hr
    go_enter Try.func4, Try.ntmps4
    go_wp2_with (go_at_call 9; refine (big_any _ _ _ _ (by omega)).mono ?_; rintro e w' ⟨rfl, rfl⟩)
    refine (drawSplit_any hr).mono ?_
    rintro e w1 ⟨s, rfl, hs, hb1⟩
    have hs' : s.size ≤ maxLen := by unfold maxLen; omega
    have hn : (splitF s).length ≤ 24 := splitF_length s
    obtain ⟨n, hN⟩ : ∃ n, (splitF s).length = n := ⟨_, rfl⟩
    rw [hN] at hn
    have HN := Lib.hid hN
    have B1 := Lib.hid hb1
    clear hN hb1 hr
    go_wp2_with fail
    refine (implSplit_any s _ hs').mono ?_
    rintro e w2 ⟨a2, c2, rfl, ho2, hb2⟩
    rw [HN.out] at ho2 ⊢
    have O2 := Lib.hid ho2; have B2 := Lib.hid hb2; clear ho2 hb2
    go_wp2_with fail
    refine (specSplit_any s _ hs').mono ?_
    rintro e w3 ⟨a3, c3, rfl, ho3, hb3⟩
    rw [HN.out] at ho3 ⊢
    have O23 := Lib.hid (O2.out.below hb3); have B3 := Lib.hid hb3; clear ho3 hb3
    have B03 : Hid (Below w.heap.size w w3) := (B1.out.trans (B2.out.mono B1.out.size)).trans (B3.out.mono (by have := B1.out.size; have := B2.out.size; omega))
    cases hok : splitOk s
    · have HOK := Lib.hid hok
      have hn0 : Hid (n = 0) := by show n = 0; rw [← HN.out, splitF_no hok]; rfl
      obtain rfl := hn0.out
      clear hok
      go_wp2_with fail
      refine (drawPlaces_any (HRow.out.below (fun x hx hc => HRow.out.lt hx hc) B03.out)).mono ?_
      rintro e w4 ⟨g, c4, l, rfl, _, _, _, hb4⟩
      have B4 := Lib.hid hb4; clear hb4
      go_wp2_with fail
      go_ret
      exact ⟨rfl, B03.out.trans (B4.out.mono B03.out.size)⟩
    · have HOK := Lib.hid hok
      have HJ := Lib.hid (join_size hok)
      clear hok
      go_wp2_with fail
      go_loopw [8, 9] (fun t i wr => ∃ k : Nat, k ≤ n ∧ i = .int .i64 k ∧ t = .string (joinTo (splitF s) k) ∧ wr = w3) (fun _ i _ => n - (intOf i).toNat)
      case atStart => exact ⟨0, Nat.zero_le _, rfl, rfl, rfl⟩
      case round =>
        obtain ⟨k, hk, rfl, rfl, rfl⟩ := hrel
        have hj : (joinTo (splitF s) k).size ≤ 14424 := HJ.out k (by rw [HN.out]; exact hk)
        by_cases hlt : k < n
        · have hkl : k < (splitF s).length := by rw [HN.out]; exact hlt
          obtain ⟨g, rfl, hc, _, _, _⟩ := O23.out.at (k := k) hkl
          have HX : Hid (joinTo (splitF s) (k + 1) = joinTo (splitF s) k ++ (splitF s)[k] ++ ⟨#[32]⟩) := by
            show _ = _
            simp only [joinTo]
            rw [List.getD_eq_getElem?_getD, List.getElem?_eq_getElem hkl]; rfl
          have hx2 : ((splitF s)[k]).size ≤ 600 := by
            obtain ⟨h1, h2, _⟩ := splitOk_parts HOK.out
            have := (fieldsOf_good s h2 ((splitF s)[k]) (by rw [← splitF_yes HOK.out]; exact List.getElem_mem _)).2
            omega
          obtain ⟨x, hx⟩ : ∃ x, (splitF s)[k] = x := ⟨_, rfl⟩
          rw [hx] at hc hx2 HX
          obtain ⟨y, hy⟩ : ∃ y, joinTo (splitF s) k = y := ⟨_, rfl⟩
          rw [hy] at hj HX ⊢
          clear hx hy hkl
          go_wp2_with fail
          go_roundw
          case rel => exact ⟨k + 1, by omega, by go_num, by rw [HX.out], by first | rfl | trivial⟩
          case measure => simp [intOf]; omega
        · obtain rfl : k = n := by omega
          have hJ : Hid (joinTo (splitF s) k = joinF s) := by show _ = joinF s; unfold joinF; rw [HN.out]
          rw [hJ.out] at hj ⊢
          have hj' : (joinF s).size ≤ maxLen := by unfold maxLen; omega
          go_wp2_with fail
          refine (implSplit_any (joinF s) _ hj').mono ?_
          rintro e w4 ⟨a4, c4, rfl, ho4, hb4⟩
          have O4 := Lib.hid ho4; have B4 := Lib.hid hb4; have O24 := Lib.hid (O23.out.below hb4); clear ho4 hb4
          by_cases h600 : (600 : Int) < ((joinF s).size : Int)
          · have hno := splitOk_long (s := joinF s) (by omega)
            rw [hno, splitF_no hno]
            clear hno O4 O24
            go_wp2_with fail
            go_ret
            exact ⟨rfl, B03.out.trans (B4.out.mono B03.out.size)⟩
          · obtain ⟨ja, jb⟩ := join_again HOK.out (show (joinF s).size ≤ 600 by omega)
            rw [jb, HN.out, ja]
            have O4' := O4.out
            rw [jb, HN.out] at O4'
            have O4b := Lib.hid O4'
            clear ja jb O4'
            go_wp2_with fail
            refine (sameTexts_any HN.out O24.out O4b.out (by omega)).mono ?_
            rintro e w5 ⟨rfl, q5, rfl⟩
            go_wp2_with fail
            go_ret
            refine ⟨rfl, ?_⟩
            have b4 := B03.out.trans (B4.out.mono B03.out.size)
            exact ⟨b4.os, b4.tape, b4.output, b4.size, b4.block⟩
end Go.Proofs.Ytgeinpmmghpjcaa
