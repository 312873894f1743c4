/-
  FnNumbers's walk.
-/
import Derived.Test.YtgeinpmmghpjcaaDoorDrawW
import Derived.Test.YtgeinpmmghpjcaaDoorNumW
import Derived.Test.YtgeinpmmghpjcaaDoorExNumW
namespace Go.Proofs.YtgeinpmmghpjcaaDoor
open Go.RowKit
set_option linter.unusedVariables false

/-- Some number of 64 bits. -/
def Drew1 (w : World) (e : Ending) (w' : World) : Prop := ∃ x : Int, e = .returned (.int .i64 x) ∧ Is64 x ∧ Below w.heap.size w w'

theorem mul_bd {x y : Int} (x0 : 0 ≤ x) (x1 : x ≤ 999999) (y0 : -1000000 ≤ y) (y1 : y ≤ 1000000) : -1000000000000 ≤ x * y ∧ x * y ≤ 1000000000000 := by
  have h1 : x * y ≤ x * 1000000 := Int.mul_le_mul_of_nonneg_left y1 x0
  have h2 : x * (-1000000) ≤ x * y := Int.mul_le_mul_of_nonneg_left y0 x0
  omega

set_option maxHeartbeats 1000000 in
theorem drawFormat_any {a : Option Addr} {len cap : Nat} {zs : List Int} {w : World} (hr : IsRow .u8 w a len cap zs) :
    Calls Tryd.prog 12 #[.slice a len cap] w (Drew1 w) := by
  go_enter Tryd.func12, Tryd.ntmps12
  go_wp2_with fail
  refine (l01New_any hr).mono ?_
  rintro e w1 ⟨c, rfl, hB, hc1, hb1⟩
  have hs1 := Lib.hid hb1.size
  go_wp2_with fail
  refine (l01Once_any hc1 3 (by omega)).mono ?_
  rintro e w2 ⟨x, rfl, hc2, ho2⟩
  cases x
  · go_wp2_with fail
    refine (l01Number_any hc2).mono ?_
    rintro e w3 ⟨x, rfl, hx, hc3, ho3⟩
    go_wp2
    go_ret
    exact ⟨_, rfl, hx, hb1.trans ((ho2.trans ho3).below hB hs1.out)⟩
  · go_wp2_with fail
    refine (l01Below_any hc2 1000000 (by omega)).mono ?_
    rintro e w3 ⟨x, rfl, hx0, hx1, hc3, ho3⟩
    rw [topOf_pos (by omega)] at hx1
    go_wp2_with fail
    refine (l01Below_any hc3 2000000 (by omega)).mono ?_
    rintro e w4 ⟨y, rfl, hy0, hy1, hc4, ho4⟩
    rw [topOf_pos (by omega)] at hy1
    obtain ⟨m0, m1⟩ := mul_bd (x := x) (y := y - 1000000) hx0 (by omega) (by omega) (by omega)
    go_wp2
    go_ret
    exact ⟨_, rfl, ⟨by omega, by omega⟩, hb1.trans (((ho2.trans ho3).trans ho4).below hB hs1.out)⟩

theorem itoa_PU {n : Int} (h0 : 0 ≤ n) (h1 : n ≤ 1000000000) : PU ⟨(Lib.itoa n).toArray⟩ n.toNat := by
  obtain ⟨m, rfl⟩ := Int.eq_ofNat_of_zero_le h0
  exact ⟨by omega, by rw [itoa_nat, Int.toNat_natCast]⟩

theorem itoa_noPU {n : Int} (h : n < 0 ∨ 1000000000 < n) : ∀ v, ¬ PU ⟨(Lib.itoa n).toArray⟩ v := by
  rintro v ⟨hv, e⟩
  have e2 : Lib.itoa n = Lib.decDigits v := by simpa using e
  by_cases hn : n < 0
  · unfold Lib.itoa at e2
    rw [if_pos hn] at e2
    have := dec_digs v 45 (by rw [← e2]; exact List.mem_cons_self ..)
    unfold DigB at this
    have h45 : (45 : UInt8).toNat = 45 := rfl
    omega
  · obtain ⟨m, rfl⟩ := Int.eq_ofNat_of_zero_le (show 0 ≤ n by omega)
    rw [itoa_nat] at e2
    have := congrArg (valFrom 0) e2
    rw [dec_val, dec_val] at this
    omega

theorem itoa_ne (n : Int) : Lib.itoa n ≠ [] := by
  unfold Lib.itoa
  split
  · simp
  · exact dec_ne _

set_option maxHeartbeats 1000000 in
theorem numbers_walk (a : Option Addr) (len cap : Nat) (z : List Int) (w : World) (hr : IsRow .u8 w a len cap z) (ht : Tab10 w) (he : ErrS w) (hR : ErrR w) :
    Calls Tryd.prog 4 #[.slice a len cap] w fun e w' => e = .returned (.bool true) ∧ Below w.heap.size w w' := by
  have hl := hr.len_le
  unfold maxLen at hl
  have HT := Lib.hid (Lib.tabBelow_of_tabIs ht)
  have HE := Lib.hid he
  have HR := Lib.hid hR
  have HRow := Lib.hid hr
  clear ht he hR hr
  by_cases hbig : (1048576 : Int) < (len : Int)
  · go_enter Tryd.func4, Tryd.ntmps4
    go_wp2_with (go_at_call 7; refine (big_any _ _ _ _ (by omega)).mono ?_; rintro e w' ⟨rfl, rfl⟩)
    go_ret
    exact ⟨rfl, Below.refl _ _⟩
  · go_enter Tryd.func4, Tryd.ntmps4
    go_wp2_with (go_at_call 7; refine (big_any _ _ _ _ (by omega)).mono ?_; rintro e w' ⟨rfl, rfl⟩)
    refine (drawFormat_any HRow.out).mono ?_
    rintro e w1 ⟨n, rfl, ⟨hn0, hn1⟩, hb1⟩
    have HB1 := Lib.hid hb1; clear hb1
    go_wp2_with fail
    refine (implFormat_any n hn0 hn1 _ (HT.out.on HB1.out).here).mono ?_
    rintro e w2 ⟨rfl, hb2⟩
    have HB2 : Hid (Below w.heap.size w w2) := HB1.out.trans (hb2.mono HB1.out.size)
    have HL := Lib.hid (Lib.itoa_length_le n hn0 hn1)
    have HX := Lib.hid (itoa_ne n)
    clear hb2
    obtain ⟨t, htt⟩ : ∃ t : ByteArray, (⟨(Lib.itoa n).toArray⟩ : ByteArray) = t := ⟨_, rfl⟩
    rw [htt]
    have hne : t.toList.isEmpty = false := by
      rw [Lib.toList_data, ← htt]
      cases hd : Lib.itoa n with
      | nil => exact absurd hd HX.out
      | cons c r => rfl
    have HTT := Lib.hid htt; clear htt
    have hts : t.size ≤ 281474976710656 := by
      rw [← HTT.out, Lib.size_eq]
      have := HL.out
      show (Lib.itoa n).length ≤ _
      omega
    have he2 : ErrS w2 := by obtain ⟨a, b, c⟩ := HE.out; exact ⟨a, b, var_below c HB2.out⟩
    have hr2 : ErrR w2 := by obtain ⟨a, b, c⟩ := HR.out; exact ⟨a, b, var_below c HB2.out⟩
    have HE2 := Lib.hid he2
    have HR2 := Lib.hid hr2
    clear he2 hr2
    by_cases hin : 0 ≤ n ∧ n ≤ 1000000000
    · obtain ⟨i0, i1⟩ := hin
      have HP : Hid (PU t n.toNat) := by show PU t _; rw [← HTT.out]; exact itoa_PU i0 i1
      go_wp2_with fail
      refine (implParse_yes t n.toNat HP.out _ (HT.out.on HB2.out).here).mono ?_
      rintro e w3 ⟨rfl, hb3⟩
      rw [show ((n.toNat : Nat) : Int) = n by omega]
      have HB3 := Lib.hid hb3; clear hb3
      go_wp2_with fail
      go_ret
      exact ⟨rfl, HB2.out.trans (HB3.out.mono HB2.out.size)⟩
    · have HP : Hid (∀ v, ¬ PU t v) := by show ∀ v, ¬ PU t v; rw [← HTT.out]; exact itoa_noPU (by omega)
      have hor : n < 0 ∨ 1000000000 < n := by omega
      clear hin
      rcases hor with hx | hx
      · go_wp2_with fail
        refine (implParse_no t hts HP.out _ (HT.out.on HB2.out).here HE2.out HR2.out).mono ?_
        rintro e w3 ⟨rfl, hb3⟩
        have HB3 := Lib.hid hb3; clear hb3
        go_wp2_with fail
        go_ret
        exact ⟨rfl, HB2.out.trans (HB3.out.mono HB2.out.size)⟩
      · go_wp2_with fail
        refine (implParse_no t hts HP.out _ (HT.out.on HB2.out).here HE2.out HR2.out).mono ?_
        rintro e w3 ⟨rfl, hb3⟩
        have HB3 := Lib.hid hb3; clear hb3
        go_wp2_with fail
        go_ret
        exact ⟨rfl, HB2.out.trans (HB3.out.mono HB2.out.size)⟩

end Go.Proofs.YtgeinpmmghpjcaaDoor
