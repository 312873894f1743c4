/-
  FnHexText's walk.
-/
import Derived.Test.YtgeinpmmghpjcaaDoorHexM
import Derived.Test.YtgeinpmmghpjcaaDoorDraw2W
import Derived.Test.YtgeinpmmghpjcaaDoorFmtW
namespace Go.Proofs.YtgeinpmmghpjcaaDoor
open Go.RowKit Go.PlainAid
set_option linter.unusedVariables false

/-- Some text of at most n bytes. -/
def DrewTe (n : Nat) (w : World) (e : Ending) (w' : World) : Prop := ∃ s : ByteArray, e = .returned (.string s) ∧ s.size ≤ n ∧ Below w.heap.size w w'

set_option maxHeartbeats 1000000 in
theorem drawEncode_any {a : Option Addr} {len cap : Nat} {zs : List Int} {w : World} (hr : IsRow .u8 w a len cap zs) :
    Calls Tryd.prog 8 #[.slice a len cap] w (DrewTe 20001 w) := by
  go_enter Tryd.func8, Tryd.ntmps8
  go_wp2_with fail
  refine (l01New_any hr).mono ?_
  rintro e w1 ⟨c, rfl, hB, hc1, hb1⟩
  have hs1 := Lib.hid hb1.size
  go_wp2_with fail
  refine (l01Once_any hc1 60 (by omega)).mono ?_
  rintro e w2 ⟨x, rfl, hc2, ho2⟩
  cases x
  · go_wp2_with fail
    refine (l01Below_any hc2 30 (by omega)).mono ?_
    rintro e w3 ⟨x, rfl, hx0, hx1, hc3, ho3⟩
    rw [topOf_pos (by omega)] at hx1
    go_wp2_with fail
    refine (l01Text_any hc3 x (by omega) (by omega)).mono ?_
    rintro e w4 ⟨s, rfl, hs, hc4, ho4⟩
    go_wp2
    go_ret
    exact ⟨s, rfl, by omega, hb1.trans (((ho2.trans ho3).trans ho4).below hB hs1.out)⟩
  · go_wp2_with fail
    refine (l01Below_any hc2 2 (by omega)).mono ?_
    rintro e w3 ⟨x, rfl, hx0, hx1, hc3, ho3⟩
    rw [topOf_pos (by omega)] at hx1
    go_wp2_with fail
    refine (l01Long_any _ _ _ (by omega) (by omega) (by omega) (by omega)).mono ?_
    rintro e w4 ⟨s, rfl, hs, hb4⟩
    have hss : s.size ≤ 20001 := by omega
    go_wp2
    go_ret
    have hb3 := hb1.trans ((ho2.trans ho3).below hB hs1.out)
    exact ⟨s, rfl, hss, hb3.trans (hb4.mono hb3.size)⟩

set_option maxHeartbeats 1000000 in
theorem hexText_walk (a : Option Addr) (len cap : Nat) (z : List Int) (w : World) (hr : IsRow .u8 w a len cap z) (ht : Tab10 w) :
    Calls Tryd.prog 3 #[.slice a len cap] w fun e w' => e = .returned (.bool true) ∧ Below w.heap.size w w' := by
  have hl := hr.len_le
  unfold maxLen at hl
  have HT := Lib.hid (Lib.tabBelow_of_tabIs ht)
  have HRow := Lib.hid hr
  clear ht hr
  by_cases hbig : (1048576 : Int) < (len : Int)
  · go_enter Tryd.func3, Tryd.ntmps3
    go_wp2_with (go_at_call 7; refine (big_any _ _ _ _ (by omega)).mono ?_; rintro e w' ⟨rfl, rfl⟩)
    go_ret
    exact ⟨rfl, Below.refl _ _⟩
  · go_enter Tryd.func3, Tryd.ntmps3
    go_wp2_with (go_at_call 7; refine (big_any _ _ _ _ (by omega)).mono ?_; rintro e w' ⟨rfl, rfl⟩)
    refine (drawEncode_any HRow.out).mono ?_
    rintro e w1 ⟨s, rfl, hs, hb1⟩
    have HB1 := Lib.hid hb1; clear hb1
    by_cases h2 : (20000 : Int) < (s.size : Int)
    · go_wp2_with fail
      refine (implEnc_no s _ h2 (by omega)).mono ?_
      rintro e w' ⟨rfl, rfl⟩
      have e10 : Lib.itoa 10 = [49, 48] := by unfold Lib.itoa; rw [if_neg (by omega)]; exact Lib.decDigits_two (i := 10) (by decide) (by decide)
      have HE := Lib.hid e10; clear e10
      go_wp2_with fail
      refine (implFormat_any 10 (by omega) (by omega) _ (HT.out.on HB1.out).here).mono ?_
      rintro e w2 ⟨rfl, hb2⟩
      rw [HE.out]
      have HB2 := Lib.hid hb2; clear hb2
      go_wp2_with fail
      go_ret
      exact ⟨rfl, HB1.out.trans (HB2.out.mono HB1.out.size)⟩
    · have h20 : s.size ≤ 20000 := by omega
      have HV := Lib.hid (dec_hexS s)
      have HZ := Lib.hid (hexS_size s)
      go_wp2_with fail
      refine (implEnc_any s _ h20).mono ?_
      rintro e w2 ⟨rfl, hb2⟩
      have HB2 : Hid (Below w.heap.size w w2) := HB1.out.trans (hb2.mono HB1.out.size)
      clear hb2
      rw [show (⟨(hexTo s s.size).toArray⟩ : ByteArray) = hexS s from rfl]
      obtain ⟨t, htt⟩ : ∃ t : ByteArray, hexS s = t := ⟨_, rfl⟩
      rw [htt] at HV HZ ⊢
      clear htt
      go_wp2_with fail
      refine (implDec_any t _ s.size HZ.out (by have := HZ.out; omega)).mono ?_
      rintro e w3 ⟨rfl, hb3⟩
      rw [HV.out]
      have HB3 := Lib.hid hb3; clear hb3
      have hz : (t.size : Int) = 2 * (s.size : Int) := by have := HZ.out; omega
      have hzb : ((t.size : Int) == 2 * (s.size : Int)) = true := by rw [hz]; simp
      clear hz
      go_wp2_with fail
      go_ret
      exact ⟨rfl, HB2.out.trans (HB3.out.mono HB2.out.size)⟩

end Go.Proofs.YtgeinpmmghpjcaaDoor
