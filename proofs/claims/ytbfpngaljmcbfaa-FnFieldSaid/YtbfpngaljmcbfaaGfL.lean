/-
  The laws of the field, out of what impl must answer.
-/
import Derived.Test.YtbfpngaljmcbfaaGfI
import Derived.Test.YtbfpngaljmcbfaaDraw2W
namespace Go.Proofs.Ytbfpngaljmcbfaa
open Go.RowKit

set_option linter.unusedVariables false

theorem elem_mod {p : Int} (h : 0 ≤ p) : ∃ n : Nat, p.tmod 16 = (n : Int) ∧ n < 16 := by
  rw [Int.tmod_eq_emod_of_nonneg h]
  exact ⟨(p % 16).toNat, by omega, by omega⟩

set_option maxHeartbeats 8000000 in
theorem fnField_of (MUL : Hid IGfMul) (ADD : Hid IGfAdd) (INV : Hid IGfInv) (a0 : Option Addr) (len cap : Nat) (zs : List Int) (w : World) (hr : IsRow .u8 w a0 len cap zs) :
    Calls Try.prog 3 #[.slice a0 len cap] w fun e w' => e = .returned (.bool true) ∧ Below w.heap.size w w' := by
  have hl := hr.len_le
  unfold maxLen at hl
  by_cases hbig : (1048576 : Int) < (len : Int)
  · go_enter Try.func3, Try.ntmps3
    go_wp2_with (go_at_call 10; refine (big_any _ _ _ _ (by omega)).mono ?_; rintro e w' ⟨rfl, rfl⟩)
    go_ret
    exact ⟨rfl, Below.refl _ _⟩
  go_enter Try.func3, Try.ntmps3
  go_wp2_with (go_at_call 10; refine (big_any _ _ _ _ (by omega)).mono ?_; rintro e w' ⟨rfl, rfl⟩)
  refine (drawPlaces_any hr).mono ?_
  rintro e w1 ⟨g, cap', l, rfl, hl12, hp, hpo, hb1⟩
  obtain ⟨p0, c0, p00, p01⟩ := place_at hpo hl12 hp 0 (by omega)
  obtain ⟨p1, c1, p10, p11⟩ := place_at hpo hl12 hp 1 (by omega)
  obtain ⟨p2, c2, p20, p21⟩ := place_at hpo hl12 hp 2 (by omega)
  obtain ⟨a, ea, ha⟩ := elem_mod p00
  obtain ⟨b, eb, hb⟩ := elem_mod p10
  obtain ⟨c, ec, hc⟩ := elem_mod p20
  have wa : IntKind.i64.wrap (a : Int) = (a : Int) := IntWalk.i64_in _ (by omega)
  have wb : IntKind.i64.wrap (b : Int) = (b : Int) := IntWalk.i64_in _ (by omega)
  have wc : IntKind.i64.wrap (c : Int) = (c : Int) := IntWalk.i64_in _ (by omega)
  have HB1 := Lib.hid hb1
  have A1 : Hid (gfAdd (b : Int) (c : Int) = ((b ^^^ c : Nat) : Int)) := gfAdd_nat hb hc
  have M1 : Hid (gfMul (a : Int) ((b ^^^ c : Nat) : Int) = ((gm a (b ^^^ c) : Nat) : Int)) := gfMul_nat ha (xor_lt hb hc)
  have M2 : Hid (gfMul (a : Int) (b : Int) = ((gm a b : Nat) : Int)) := gfMul_nat ha hb
  have M3 : Hid (gfMul (a : Int) (c : Int) = ((gm a c : Nat) : Int)) := gfMul_nat ha hc
  have A2 : Hid (gfAdd ((gm a b : Nat) : Int) ((gm a c : Nat) : Int) = ((gm a (b ^^^ c) : Nat) : Int)) := by show _ = _; rw [gfAdd_nat (gm_lt ha hb) (gm_lt ha hc), gm_xor ha hb hc]
  have M4 : Hid (gfMul (b : Int) (a : Int) = ((gm a b : Nat) : Int)) := by show _ = _; rw [gfMul_nat hb ha, gm_comm hb ha]
  have M5 : Hid (gfMul ((gm a b : Nat) : Int) (c : Int) = ((gm a (gm b c) : Nat) : Int)) := by show _ = _; rw [gfMul_nat (gm_lt ha hb) hc, gm_assoc ha hb hc]
  have M6 : Hid (gfMul (b : Int) (c : Int) = ((gm b c : Nat) : Int)) := gfMul_nat hb hc
  have M7 : Hid (gfMul (a : Int) ((gm b c : Nat) : Int) = ((gm a (gm b c) : Nat) : Int)) := gfMul_nat ha (gm_lt hb hc)
  have M8 : Hid (gfMul (a : Int) 1 = (a : Int)) := by
    have := gfMul_nat ha (show 1 < 16 by decide)
    rw [gm_one ha] at this
    exact this
  have HI := gfInv_all ⟨a, ha⟩
  have H0 : Hid (gfInv 0 = -1) := (gfInv_all ⟨0, by decide⟩).1 rfl
  obtain ⟨iv, hiv⟩ : ∃ u, gfInv (a : Int) = u := ⟨_, rfl⟩
  have HIV := Lib.hid hiv
  have HI2 : Hid (a ≠ 0 → gfMul (a : Int) iv = 1) := fun h => by have := HI.2 h; rw [show ((⟨a, ha⟩ : Fin 16).1 : Int) = (a : Int) from rfl, hiv] at this; exact this
  clear HI hiv
  generalize b ^^^ c = s at A1 M1 A2
  generalize gm a s = d at M1 A2
  generalize gm a b = m at M2 A2 M4 M5
  generalize gm a c = n at M3 A2
  generalize gm a (gm b c) = r at M5 M7
  generalize gm b c = q at M6 M7
  have td : ((d : Int) != (d : Int)) = false := by simp
  have tm : ((m : Int) != (m : Int)) = false := by simp
  have tr : ((r : Int) != (r : Int)) = false := by simp
  have ta : ((a : Int) == (a : Int)) = true := beq_self_eq_true _
  clear hb1 hp hpo hl12
  go_wp2_with fail
  refine (ADD.out _ _ _ A1.out _).mono ?_
  rintro e w2 ⟨rfl, hb2⟩
  have HB2 : Hid (Below w.heap.size w w2) := HB1.out.trans (hb2.mono HB1.out.size)
  clear hb2 HB1
  go_wp2_with fail
  refine (MUL.out _ _ _ M1.out _).mono ?_
  rintro e w3 ⟨rfl, hb3⟩
  have HB3 : Hid (Below w.heap.size w w3) := HB2.out.trans (hb3.mono HB2.out.size)
  clear hb3 HB2
  go_wp2_with fail
  refine (MUL.out _ _ _ M2.out _).mono ?_
  rintro e w4 ⟨rfl, hb4⟩
  have HB4 : Hid (Below w.heap.size w w4) := HB3.out.trans (hb4.mono HB3.out.size)
  clear hb4 HB3
  go_wp2_with fail
  refine (MUL.out _ _ _ M3.out _).mono ?_
  rintro e w5 ⟨rfl, hb5⟩
  have HB5 : Hid (Below w.heap.size w w5) := HB4.out.trans (hb5.mono HB4.out.size)
  clear hb5 HB4
  go_wp2_with fail
  refine (ADD.out _ _ _ A2.out _).mono ?_
  rintro e w6 ⟨rfl, hb6⟩
  have HB6 : Hid (Below w.heap.size w w6) := HB5.out.trans (hb6.mono HB5.out.size)
  clear hb6 HB5
  go_wp2_with fail
  refine (MUL.out _ _ _ M2.out _).mono ?_
  rintro e w7 ⟨rfl, hb7⟩
  have HB7 : Hid (Below w.heap.size w w7) := HB6.out.trans (hb7.mono HB6.out.size)
  clear hb7 HB6
  go_wp2_with fail
  refine (MUL.out _ _ _ M4.out _).mono ?_
  rintro e w8 ⟨rfl, hb8⟩
  have HB8 : Hid (Below w.heap.size w w8) := HB7.out.trans (hb8.mono HB7.out.size)
  clear hb8 HB7
  go_wp2_with fail
  refine (MUL.out _ _ _ M2.out _).mono ?_
  rintro e w9 ⟨rfl, hb9⟩
  have HB9 : Hid (Below w.heap.size w w9) := HB8.out.trans (hb9.mono HB8.out.size)
  clear hb9 HB8
  go_wp2_with fail
  refine (MUL.out _ _ _ M5.out _).mono ?_
  rintro e w10 ⟨rfl, hb10⟩
  have HB10 : Hid (Below w.heap.size w w10) := HB9.out.trans (hb10.mono HB9.out.size)
  clear hb10 HB9
  go_wp2_with fail
  refine (MUL.out _ _ _ M6.out _).mono ?_
  rintro e w11 ⟨rfl, hb11⟩
  have HB11 : Hid (Below w.heap.size w w11) := HB10.out.trans (hb11.mono HB10.out.size)
  clear hb11 HB10
  go_wp2_with fail
  refine (MUL.out _ _ _ M7.out _).mono ?_
  rintro e w12 ⟨rfl, hb12⟩
  have HB12 : Hid (Below w.heap.size w w12) := HB11.out.trans (hb12.mono HB11.out.size)
  clear hb12 HB11
  go_wp2_with fail
  refine (MUL.out _ _ _ M8.out _).mono ?_
  rintro e w13 ⟨rfl, hb13⟩
  have HB13 : Hid (Below w.heap.size w w13) := HB12.out.trans (hb13.mono HB12.out.size)
  clear hb13 HB12
  by_cases hz : a = 0
  case pos =>
    have tz : ((a : Int) == 0) = true := by rw [hz]; rfl
    have tz' : (a == 0) = true := by rw [hz]; rfl
    go_wp2_with fail
    refine (INV.out 0 _ H0.out _).mono ?_
    rintro e w14 ⟨rfl, hb⟩
    have HBZ : Hid (Below w.heap.size w w14) := HB13.out.trans (hb.mono HB13.out.size)
    go_wp2_with fail
    go_ret
    exact ⟨rfl, HBZ.out⟩
  have tz : ((a : Int) == 0) = false := by rw [beq_eq_false_iff_ne]; omega
  have tz' : (a == 0) = false := by rw [beq_eq_false_iff_ne]; exact hz
  have M9 := Lib.hid (HI2.out hz)
  clear hz
  go_wp2_with fail
  refine (INV.out _ _ HIV.out _).mono ?_
  rintro e w14 ⟨rfl, hb14⟩
  have HB14 : Hid (Below w.heap.size w w14) := HB13.out.trans (hb14.mono HB13.out.size)
  clear hb14 HB13
  go_wp2_with fail
  refine (MUL.out _ _ _ M9.out _).mono ?_
  rintro e w15 ⟨rfl, hb15⟩
  have HB15 : Hid (Below w.heap.size w w15) := HB14.out.trans (hb15.mono HB14.out.size)
  clear hb15 HB14
  go_wp2_with fail
  refine (INV.out 0 _ H0.out _).mono ?_
  rintro e w16 ⟨rfl, hb16⟩
  have HB16 : Hid (Below w.heap.size w w16) := HB15.out.trans (hb16.mono HB15.out.size)
  clear hb16 HB15
  go_wp2_with fail
  go_ret
  exact ⟨rfl, HB16.out⟩

theorem elem_mod15 {p : Int} (h : 0 ≤ p) : ∃ n : Nat, p.tmod 15 = (n : Int) ∧ n < 15 := by
  rw [Int.tmod_eq_emod_of_nonneg h]
  exact ⟨(p % 15).toNat, by omega, by omega⟩

theorem elem_mod30 {p : Int} (h : 0 ≤ p) : ∃ n : Nat, p.tmod 30 = (n : Int) ∧ n < 30 := by
  rw [Int.tmod_eq_emod_of_nonneg h]
  exact ⟨(p % 30).toNat, by omega, by omega⟩

set_option maxHeartbeats 8000000 in
theorem fnPowers_of (MUL : Hid IGfMul) (POW : Hid IGfPow) (LOG : Hid IGfLog) (a0 : Option Addr) (len cap : Nat) (zs : List Int) (w : World) (hr : IsRow .u8 w a0 len cap zs) :
    Calls Try.prog 4 #[.slice a0 len cap] w fun e w' => e = .returned (.bool true) ∧ Below w.heap.size w w' := by
  have hl := hr.len_le
  unfold maxLen at hl
  by_cases hbig : (1048576 : Int) < (len : Int)
  · go_enter Try.func4, Try.ntmps4
    go_wp2_with (go_at_call 10; refine (big_any _ _ _ _ (by omega)).mono ?_; rintro e w' ⟨rfl, rfl⟩)
    go_ret
    exact ⟨rfl, Below.refl _ _⟩
  go_enter Try.func4, Try.ntmps4
  go_wp2_with (go_at_call 10; refine (big_any _ _ _ _ (by omega)).mono ?_; rintro e w' ⟨rfl, rfl⟩)
  refine (drawPlaces_any hr).mono ?_
  rintro e w1 ⟨g, cap', l, rfl, hl12, hp, hpo, hb1⟩
  obtain ⟨p0, c0, p00, p01⟩ := place_at hpo hl12 hp 0 (by omega)
  obtain ⟨p1, c1, p10, p11⟩ := place_at hpo hl12 hp 1 (by omega)
  obtain ⟨p2, c2, p20, p21⟩ := place_at hpo hl12 hp 2 (by omega)
  obtain ⟨x, ex, hx⟩ := elem_mod15 p00
  obtain ⟨m, em, hm⟩ := elem_mod30 p10
  obtain ⟨n, en, hn⟩ := elem_mod30 p20
  obtain ⟨a, ha⟩ : ∃ a, 1 + x = a := ⟨_, rfl⟩
  have ha16 : a < 16 := by omega
  have ha0 : a ≠ 0 := by omega
  have wx : IntKind.i64.wrap (x : Int) = (x : Int) := IntWalk.i64_in _ (by omega)
  have wm : IntKind.i64.wrap (m : Int) = (m : Int) := IntWalk.i64_in _ (by omega)
  have wn : IntKind.i64.wrap (n : Int) = (n : Int) := IntWalk.i64_in _ (by omega)
  have wa : IntKind.i64.wrap (1 + (x : Int)) = (a : Int) := by rw [IntWalk.i64_in _ (by omega)]; omega
  have ws : IntKind.i64.wrap ((m : Int) + (n : Int)) = ((m + n : Nat) : Int) := by rw [IntWalk.i64_in _ (by omega)]; omega
  have HB1 := Lib.hid hb1
  obtain ⟨lg, hlg⟩ : ∃ u, gfLog (a : Int) = u := ⟨_, rfl⟩
  have G1 := Lib.hid hlg
  have P1 : Hid (gfPow 2 lg = (a : Int)) := by have := (gfLog_all ⟨a, ha16⟩).2 ha0; rw [← hlg]; exact this
  have P2 : Hid (gfPow (a : Int) 15 = 1) := by
    have := gfPow_nat ha16 (show 15 ≤ 1000 by decide)
    rw [gp_fifteen ⟨a, ha16⟩ ha0] at this
    exact this
  have P3 : Hid (gfPow (a : Int) (m : Int) = ((gp a m : Nat) : Int)) := gfPow_nat ha16 (by omega)
  have P4 : Hid (gfPow (a : Int) (n : Int) = ((gp a n : Nat) : Int)) := gfPow_nat ha16 (by omega)
  have M1 : Hid (gfMul ((gp a m : Nat) : Int) ((gp a n : Nat) : Int) = ((gp a (m + n) : Nat) : Int)) := by show _ = _; rw [gfMul_nat (gp_lt ha16 m) (gp_lt ha16 n), gp_add ha16]
  have P5 : Hid (gfPow (a : Int) ((m + n : Nat) : Int) = ((gp a (m + n) : Nat) : Int)) := gfPow_nat ha16 (by omega)
  have G2 : Hid (gfLog 0 = -1) := (gfLog_all ⟨0, by decide⟩).1 rfl
  generalize gp a m = u at P3 M1
  generalize gp a n = v at P4 M1
  generalize gp a (m + n) = s at M1 P5
  have ta : ((a : Int) == (a : Int)) = true := beq_self_eq_true _
  have ts : ((s : Int) == (s : Int)) = true := beq_self_eq_true _
  clear hb1 hp hpo hl12 hlg ha
  go_wp2_with fail
  refine (LOG.out _ _ G1.out _).mono ?_
  rintro e w2 ⟨rfl, hb2⟩
  have HB2 : Hid (Below w.heap.size w w2) := HB1.out.trans (hb2.mono HB1.out.size)
  clear hb2 HB1
  go_wp2_with fail
  refine (POW.out _ _ _ P1.out _).mono ?_
  rintro e w3 ⟨rfl, hb3⟩
  have HB3 : Hid (Below w.heap.size w w3) := HB2.out.trans (hb3.mono HB2.out.size)
  clear hb3 HB2
  go_wp2_with fail
  refine (POW.out _ _ _ P2.out _).mono ?_
  rintro e w4 ⟨rfl, hb4⟩
  have HB4 : Hid (Below w.heap.size w w4) := HB3.out.trans (hb4.mono HB3.out.size)
  clear hb4 HB3
  go_wp2_with fail
  refine (POW.out _ _ _ P3.out _).mono ?_
  rintro e w5 ⟨rfl, hb5⟩
  have HB5 : Hid (Below w.heap.size w w5) := HB4.out.trans (hb5.mono HB4.out.size)
  clear hb5 HB4
  go_wp2_with fail
  refine (POW.out _ _ _ P4.out _).mono ?_
  rintro e w6 ⟨rfl, hb6⟩
  have HB6 : Hid (Below w.heap.size w w6) := HB5.out.trans (hb6.mono HB5.out.size)
  clear hb6 HB5
  go_wp2_with fail
  refine (MUL.out _ _ _ M1.out _).mono ?_
  rintro e w7 ⟨rfl, hb7⟩
  have HB7 : Hid (Below w.heap.size w w7) := HB6.out.trans (hb7.mono HB6.out.size)
  clear hb7 HB6
  go_wp2_with fail
  refine (POW.out _ _ _ P5.out _).mono ?_
  rintro e w8 ⟨rfl, hb8⟩
  have HB8 : Hid (Below w.heap.size w w8) := HB7.out.trans (hb8.mono HB7.out.size)
  clear hb8 HB7
  go_wp2_with fail
  refine (LOG.out 0 _ G2.out _).mono ?_
  rintro e w9 ⟨rfl, hb9⟩
  have HB9 : Hid (Below w.heap.size w w9) := HB8.out.trans (hb9.mono HB8.out.size)
  clear hb9 HB8
  go_wp2_with fail
  go_ret
  exact ⟨rfl, HB9.out⟩

end Go.Proofs.Ytbfpngaljmcbfaa
