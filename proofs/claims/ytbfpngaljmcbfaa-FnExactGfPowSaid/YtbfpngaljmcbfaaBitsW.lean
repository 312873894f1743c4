/-
  impl's and spec's functions over words of 32 bits give the numbers of the text BitsM.
-/
import Derived.Test.YtbfpngaljmcbfaaBitsM
import Derived.WalkLawsBesides
namespace Go.Proofs.Ytbfpngaljmcbfaa
open Go.RowKit

set_option linter.unusedVariables false

/-- A call that answers v and turns nothing. -/
def Says (v : Value) (w : World) (e : Ending) (w' : World) : Prop := e = .returned v ∧ w = w'

theorem implIsWord_is (x : Int) (v : Bool) (h : decide (Wd x) = v) (w : World) :
    Calls Try.prog 32 #[.int .i64 x] w (Says (.bool v) w) := by
  subst h
  unfold Wd
  go_enter Try.func32, Try.ntmps32
  by_cases h0 : 0 ≤ x <;> by_cases h1 : x ≤ 4294967295
  all_goals (go_wp2; go_ret; refine ⟨?_, rfl⟩; simp [h0, h1]; try omega)

theorem implIsBit_is (x : Int) (v : Bool) (h : decide (Bn x) = v) (w : World) :
    Calls Try.prog 33 #[.int .i64 x] w (Says (.bool v) w) := by
  subst h
  unfold Bn
  go_enter Try.func33, Try.ntmps33
  by_cases h0 : 0 ≤ x <;> by_cases h1 : x ≤ 31
  all_goals (go_wp2; go_ret; refine ⟨?_, rfl⟩; simp [h0, h1]; try omega)

theorem specInB_is (x lo hi : Int) (v : Bool) (h : decide (lo ≤ x ∧ x ≤ hi) = v) (w : World) :
    Calls Try.prog 27 #[.int .i64 x, .int .i64 lo, .int .i64 hi] w (Says (.bool v) w) := by
  subst h
  go_enter Try.func27, Try.ntmps27
  by_cases h0 : lo ≤ x <;> by_cases h1 : x ≤ hi
  all_goals (go_wp2; go_ret; refine ⟨?_, rfl⟩; simp [h0, h1]; try omega)

theorem shr_word (x i : Int) (hi : Bn i) : x / 2 ^ min i.toNat IntKind.i64.bits = x / 2 ^ i.toNat := by
  unfold Bn at hi
  rw [show min i.toNat IntKind.i64.bits = i.toNat by simp [IntKind.bits]; omega]

theorem bitF_in {x i : Int} (hx : Wd x) (hi : Bn i) : bits .and .i64 (x / 2 ^ min i.toNat IntKind.i64.bits) 1 = bitF x i := by
  rw [i64_and1, shr_word x i hi]; unfold bitF; rw [if_pos ⟨hx, hi⟩]

theorem bitF_out {x i : Int} (h : ¬ (Wd x ∧ Bn i)) : bitF x i = 0 := by unfold bitF; rw [if_neg h]

theorem implBitOf_any (x i : Int) (w : World) :
    Calls Try.prog 31 #[.int .i64 x, .int .i64 i] w (Says (.int .i64 (bitF x i)) w) := by
  by_cases hx : Wd x
  · have dx := Lib.hid (decide_eq_true hx)
    by_cases hi : Bn i
    · have di := Lib.hid (decide_eq_true hi)
      have hi0 := hi.1
      have H := Lib.hid (bitF_in hx hi)
      clear hx hi
      go_enter Try.func31, Try.ntmps31
      go_wp2_with (first | (go_at_call 32; refine (implIsWord_is _ _ dx.out _).mono ?_; rintro e w' ⟨rfl, rfl⟩) | (go_at_call 33; refine (implIsBit_is _ _ di.out _).mono ?_; rintro e w' ⟨rfl, rfl⟩))
      go_ret
      exact ⟨ret_i H.out, rfl⟩
    · have di := Lib.hid (decide_eq_false hi)
      have H := Lib.hid (bitF_out (x := x) (i := i) (fun h => hi h.2))
      clear hx hi
      go_enter Try.func31, Try.ntmps31
      go_wp2_with (first | (go_at_call 32; refine (implIsWord_is _ _ dx.out _).mono ?_; rintro e w' ⟨rfl, rfl⟩) | (go_at_call 33; refine (implIsBit_is _ _ di.out _).mono ?_; rintro e w' ⟨rfl, rfl⟩))
      go_ret
      exact ⟨ret_i H.out.symm, rfl⟩
  · have dx := Lib.hid (decide_eq_false hx)
    have H := Lib.hid (bitF_out (x := x) (i := i) (fun h => hx h.1))
    clear hx
    go_enter Try.func31, Try.ntmps31
    go_wp2_with (first | (go_at_call 32; refine (implIsWord_is _ _ dx.out _).mono ?_; rintro e w' ⟨rfl, rfl⟩))
    go_ret
    exact ⟨ret_i H.out.symm, rfl⟩

theorem setF_out {x i b : Int} (h : ¬ (Wd x ∧ Bn i ∧ (b = 0 ∨ b = 1))) : setF x i b = x := by unfold setF; rw [if_neg h]

theorem setF_zero {x i : Int} (hx : Wd x) (hi : Bn i) : bits .andNot .i64 x (2 ^ i.toNat) = setF x i 0 := by
  unfold setF
  rw [if_pos ⟨hx, hi, .inl rfl⟩]
  obtain ⟨n, rfl⟩ := Int.eq_ofNat_of_zero_le hx.1
  obtain ⟨k, rfl⟩ := Int.eq_ofNat_of_zero_le hi.1
  have h1 := hx.2
  have h2 := hi.2
  have hp : 2 ^ k < 2 ^ 63 := Nat.pow_lt_pow_of_lt (by decide) (by omega)
  simp only [Int.toNat_natCast]
  rw [show ((2 : Int) ^ k) = ((2 ^ k : Nat) : Int) by simp, i64_andNot_nat n (2 ^ k) (by omega) hp, show Int.toNat 0 = 0 from rfl, setN_zero]

theorem setF_one {x i : Int} (hx : Wd x) (hi : Bn i) : bits .or .i64 x (2 ^ i.toNat) = setF x i 1 := by
  unfold setF
  rw [if_pos ⟨hx, hi, .inr rfl⟩]
  obtain ⟨n, rfl⟩ := Int.eq_ofNat_of_zero_le hx.1
  obtain ⟨k, rfl⟩ := Int.eq_ofNat_of_zero_le hi.1
  have h1 := hx.2
  have h2 := hi.2
  have hp : 2 ^ k < 2 ^ 63 := Nat.pow_lt_pow_of_lt (by decide) (by omega)
  simp only [Int.toNat_natCast]
  rw [show ((2 : Int) ^ k) = ((2 ^ k : Nat) : Int) by simp, i64_or_nat n (2 ^ k) (by omega) hp, show Int.toNat 1 = 1 from rfl, setN_one]

theorem shl_word (i : Int) (hi : Bn i) : IntKind.i64.wrap (1 * 2 ^ min i.toNat IntKind.i64.bits) = 2 ^ i.toNat := by
  obtain ⟨k, rfl⟩ := Int.eq_ofNat_of_zero_le hi.1
  have h2 := hi.2
  have hp : 2 ^ k < 2 ^ 63 := Nat.pow_lt_pow_of_lt (by decide) (by omega)
  simp only [Int.toNat_natCast]
  rw [show min k IntKind.i64.bits = k by simp [IntKind.bits]; omega, Int.one_mul, show ((2 : Int) ^ k) = ((2 ^ k : Nat) : Int) by simp, wrap_nat64 _ hp]

theorem shl_word64 (i : Int) (hi : Bn i) : wrap64 (2 ^ i.toNat) = 2 ^ i.toNat := by
  obtain ⟨k, rfl⟩ := Int.eq_ofNat_of_zero_le hi.1
  have h2 := hi.2
  have hp : 2 ^ k < 2 ^ 63 := Nat.pow_lt_pow_of_lt (by decide) (by omega)
  rw [← IntWalk.i64_left]
  simp only [Int.toNat_natCast]
  rw [show ((2 : Int) ^ k) = ((2 ^ k : Nat) : Int) by simp, wrap_nat64 _ hp]

theorem setF_both {x i b : Int} (hx : Wd x) (hi : Bn i) (hb : b = 0 ∨ b = 1) : bits .or .i64 (bits .andNot .i64 x (2 ^ i.toNat)) (b * 2 ^ i.toNat) = setF x i b := by
  unfold setF
  rw [if_pos ⟨hx, hi, hb⟩]
  obtain ⟨n, rfl⟩ := Int.eq_ofNat_of_zero_le hx.1
  obtain ⟨k, rfl⟩ := Int.eq_ofNat_of_zero_le hi.1
  obtain ⟨d, rfl⟩ := Int.eq_ofNat_of_zero_le (show 0 ≤ b by omega)
  have h1 := hx.2
  have h2 := hi.2
  have hp : 2 ^ k < 2 ^ 32 := Nat.pow_lt_pow_of_lt (by decide) (by omega)
  have hd : d = 0 ∨ d = 1 := by omega
  have hdp : d * 2 ^ k < 2 ^ 63 := by rcases hd with rfl | rfl <;> omega
  simp only [Int.toNat_natCast]
  rw [show ((2 : Int) ^ k) = ((2 ^ k : Nat) : Int) by simp, i64_andNot_nat n (2 ^ k) (by omega) (by omega), ← Int.natCast_mul, i64_or_nat _ _ (Nat.xor_lt_two_pow (by omega) (Nat.and_lt_two_pow _ (by omega))) hdp]
  rfl

theorem shl_b64 (b i : Int) (hi : Bn i) (hb : b = 0 ∨ b = 1) : wrap64 (b * 2 ^ i.toNat) = b * 2 ^ i.toNat := by
  rcases hb with rfl | rfl
  · rw [Int.zero_mul, ← IntWalk.i64_left]; decide
  · rw [Int.one_mul]; exact shl_word64 i hi

/-- One adding of neighbouring groups, as the program does it. -/
theorem step_word (k n m a : Nat) (M D : Int) (hM : M = (m : Int)) (hD : D = ((2 ^ k : Nat) : Int)) (hm : maskN k n = m) (ha : a < 2 ^ 32) (hk : 0 < k) (hkn : 2 * k * n = 32) :
    wrap64 (bits .and .i64 (a : Int) M + bits .and .i64 ((a : Int) / D) M) = ((pairs k n a : Nat) : Int) := by
  subst hM hD
  have hp := pairs_lt k n a hk
  rw [hkn] at hp
  have hml : m < 2 ^ 63 := by
    subst hm
    have h2 := pairs_step k n (maskN k n)
    have h3 := pairs_lt k n (maskN k n) hk
    rw [hkn] at h3
    rw [Nat.and_self] at h2
    omega
  have hd : a / 2 ^ k < 2 ^ 63 := Nat.lt_of_le_of_lt (Nat.div_le_self _ _) (by omega)
  rw [i64_and_nat a m (by omega) hml, ← Int.natCast_ediv, i64_and_nat (a / 2 ^ k) m hd hml, ← Int.natCast_add, ← hm, pairs_step, ← IntWalk.i64_left, wrap_nat64 _ (by omega)]

def parF (x : Int) : Int := cntTo x 32 % 2

theorem fold_word (n : Nat) (hn : n < 2 ^ 32) : bits .xor .i64 (n : Int) ((n : Int) / 65536) = ((foldN n : Nat) : Int) := by
  rw [show ((n : Int) / 65536) = ((n / 65536 : Nat) : Int) by simp, i64_xor_nat n _ (by omega) (by omega)]
  rfl

theorem mixF_in (n : Nat) (h : Wd n) : mixF n = ((foldN (turnTo n 2) : Nat) : Int) := by
  unfold mixF
  rw [if_pos h, Int.toNat_natCast]
  rfl

theorem mixF_out {x : Int} (h : ¬ Wd x) : mixF x = 0 := by unfold mixF; rw [if_neg h]

end Go.Proofs.Ytbfpngaljmcbfaa
