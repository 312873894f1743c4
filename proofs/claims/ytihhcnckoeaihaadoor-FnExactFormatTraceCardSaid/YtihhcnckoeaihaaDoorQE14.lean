/-
  Texts of one proof, merged: FmtW.
-/
import Derived.Test.YtihhcnckoeaihaaDoorQE7
import Derived.Test.YtihhcnckoeaihaaDoorQE13
import Derived.Lib.AppendIntMem
import Derived.Lib.ItoaLen
namespace Go.Proofs.YtihhcnckoeaihaaDoor
open Go.RowKit Go.PlainAid

set_option linter.unusedVariables false

theorem below_grow (w : World) (k : Nat) (os : Array Obj) : Below w.heap.size w (Sort.grow (w.drewN k) os) :=
  ⟨rfl, rfl, rfl, by show w.heap.size ≤ (w.heap ++ os).size; simp, fun i hi => by show (w.heap ++ os)[i]? = _; rw [Array.getElem?_append_left hi]⟩

/-- The table that strconv reads. -/
def Tab10 (w : World) : Prop := Lib.TabIs Tryd.prog w "internal/strconv.uint64pow10" .u64 Lib.pow10Tab

theorem implFormat_any (n : Int) (h0 : -9223372036854775808 ≤ n) (h1 : n ≤ 9223372036854775807) (w : World) (ht : Tab10 w) :
    Calls Tryd.prog 16 #[.int .i64 n] w fun e w' => e = .returned (.string ⟨(Lib.itoa n).toArray⟩) ∧ Below w.heap.size w w' := by
  go_enter Tryd.func16, Tryd.ntmps16
  go_wp2_with fail
  refine (Tryd.strconv_Itoa n h0 h1 w ht).mono ?_
  rintro e w1 ⟨rfl, k, os, rfl⟩
  have HB := Lib.hid (below_grow w k os)
  go_wp2_with fail
  go_ret
  exact ⟨rfl, HB.out⟩

theorem fig_dig {d : Nat} (h : d < 10) : fig d = UInt8.ofNat (48 + d) := by unfold fig; rw [if_pos h]

/-- The digits of u, if there are any, ahead of acc. -/
def decA (u : Nat) (acc : List UInt8) : List UInt8 := if u = 0 then acc else Lib.decDigits u ++ acc

theorem decA_zero (acc : List UInt8) : decA 0 acc = acc := if_pos rfl

theorem decA_start {m : Nat} (h : 0 < m) : decA m [] = Lib.decDigits m := by unfold decA; rw [if_neg (by omega), List.append_nil]

theorem decA_step {u : Nat} (hu : 0 < u) (acc : List UInt8) : decA (u / 10) (fig (u % 10) :: acc) = decA u acc := by
  have h2 : decA u acc = Lib.decDigits u ++ acc := if_neg (by omega)
  rw [h2, fig_dig (by omega)]
  by_cases e : u < 10
  · rw [show u / 10 = 0 by omega, decA_zero, Nat.mod_eq_of_lt e, Lib.decDigits, dif_pos e]; rfl
  · have h3 : Lib.decDigits u = Lib.decDigits (u / 10) ++ [UInt8.ofNat (48 + u % 10)] := by
      conv => lhs; rw [Lib.decDigits, dif_neg e]
    rw [h3]
    unfold decA
    rw [if_neg (by omega)]
    simp

theorem figure_is (x : Int) (d : Nat) (h : x = d) (hd : d < 16) (w : World) :
    Calls Tryd.prog 32 #[.int .i64 x] w fun e w' => e = .returned (.int .u8 (fig d).toNat) ∧ w = w' := by
  subst h
  have := figure_any (d : Int) (by omega) (by omega) w
  rwa [Int.toNat_natCast] at this

theorem fig_le (d : Nat) : (0 : Int) ≤ (fig d).toNat ∧ ((fig d).toNat : Int) ≤ 255 := by have := (fig d).toNat_lt; omega

theorem ofNat_fig (d : Nat) : UInt8.ofNat ((fig d).toNat : Int).toNat = fig d := by simp

theorem cat_one (x y : UInt8) (acc : List UInt8) (h : x = y) : Value.string ((⟨#[x]⟩ : ByteArray) ++ ⟨acc.toArray⟩) = .string ⟨(y :: acc).toArray⟩ := by
  subst h
  congr 1

set_option maxHeartbeats 1000000 in
set_option maxRecDepth 100000 in
theorem specFormat_pos (m : Nat) (h0 : 0 < m) (h1 : (m : Int) ≤ 9223372036854775807) (w : World) :
    Calls Tryd.prog 19 #[.int .i64 m] w fun e w' => e = .returned (.string ⟨(Lib.decDigits m).toArray⟩) ∧ Below w.heap.size w w' := by
  have t0 : ((m : Int) == 0) = false := by simp; omega
  have t1 : decide ((m : Int) < 0) = false := by simp
  go_enter Tryd.func19, Tryd.ntmps19
  go_wp2_with fail
  go_loopw [0, 4, 5] (fun x s d wr => ∃ u : Nat, ∃ acc : List UInt8, x = .int .i64 u ∧ u ≤ m ∧ s = .string ⟨acc.toArray⟩ ∧ acc.length + u ≤ m ∧ Hid (decA u acc = Lib.decDigits m) ∧ Below w.heap.size w wr) (fun x _ _ _ => (intOf x).toNat)
  case atStart => exact ⟨m, [], rfl, Nat.le_refl _, rfl, by simp, decA_start h0, Below.refl _ _⟩
  case round =>
    obtain ⟨u, acc, rfl, hum, rfl, hacc, HD, hbk⟩ := hrel
    by_cases hu : 0 < u
    · have HD2 : Hid (decA (u / 10) (fig (u % 10) :: acc) = Lib.decDigits m) := (decA_step hu acc).trans HD.out
      obtain ⟨d, hd⟩ : ∃ d, u % 10 = d := ⟨_, rfl⟩
      have hd9 : d < 10 := by omega
      rw [hd] at HD2
      have HDD := Lib.hid hd; clear hd
      go_wp2_with fail
      refine (figure_is _ d (by have := HDD.out; omega) (by omega) _).mono ?_
      rintro e w' ⟨rfl, rfl⟩
      have hcv := conv_one wr (fig d).toNat (fig_le d).1 (fig_le d).2
      rw [ofNat_fig] at hcv
      go_wp2_with fail
      go_roundw
      case rel => exact ⟨u / 10, fig d :: acc, by go_num, by omega, cat_one _ _ _ rfl, by simp; omega, HD2, hbk.alloc hbk.size _⟩
      case measure => simp [intOf]; omega
    · obtain rfl : u = 0 := by omega
      have HE : Hid (acc = Lib.decDigits m) := by have := HD.out; rw [decA_zero] at this; exact this
      go_wp2_with fail
      go_ret
      exact ⟨by rw [HE.out]; rfl, hbk⟩

theorem decA_len (u : Nat) (acc : List UInt8) : acc.length ≤ (decA u acc).length := by unfold decA; split <;> simp

theorem neg_mod10 (u : Nat) : (-(u : Int)).tmod 10 = -((u % 10 : Nat) : Int) := by rw [Int.neg_tmod]; rfl

theorem neg_div10 (u : Nat) : (-(u : Int)).tdiv 10 = -((u / 10 : Nat) : Int) := by rw [Int.neg_tdiv]; rfl

set_option maxHeartbeats 1000000 in
set_option maxRecDepth 100000 in
theorem specFormat_neg (n : Int) (m : Nat) (hn : n = -(m : Int)) (h0 : 0 < m) (h1 : (m : Int) ≤ 9223372036854775808) (w : World) :
    Calls Tryd.prog 19 #[.int .i64 n] w fun e w' => e = .returned (.string ⟨(45 :: Lib.decDigits m).toArray⟩) ∧ Below w.heap.size w w' := by
  have HNM := Lib.hid hn
  have hn0 : n ≤ -1 := by omega
  have hn1 : -9223372036854775808 ≤ n := by omega
  have t0 : (n == 0) = false := by simp; omega
  have t1 : decide (n < 0) = true := by simp; omega
  have H0 := Lib.hid h0
  have HLM : Hid ((Lib.decDigits m).length ≤ 20) := by
    have h2 := Lib.itoa_length_le n hn1 (by omega)
    unfold Lib.itoa at h2
    rw [if_pos (by omega), show n.natAbs = m by omega, List.length_cons] at h2
    show _ ≤ _; omega
  clear hn h0
  go_enter Tryd.func19, Tryd.ntmps19
  go_wp2_with fail
  go_loopw [0, 4, 5] (fun x s d wr => ∃ y : Int, ∃ u : Nat, ∃ acc : List UInt8, Hid (y = -(u : Int)) ∧ x = .int .i64 y ∧ n ≤ y ∧ y ≤ 0 ∧ s = .string ⟨acc.toArray⟩ ∧ Hid (decA u acc = Lib.decDigits m) ∧ Below w.heap.size w wr) (fun x _ _ _ => (-(intOf x)).toNat)
  case atStart => exact ⟨n, m, [], HNM.out, rfl, Int.le_refl _, by omega, rfl, decA_start H0.out, Below.refl _ _⟩
  case round =>
    obtain ⟨y, u, acc, HY, rfl, hy0, hy1, rfl, HD, hbk⟩ := hrel
    have hacc : acc.length ≤ 20 := Nat.le_trans (decA_len u acc) (by rw [HD.out]; exact HLM.out)
    by_cases hu : y < 0
    · have hu' : 0 < u := by have := HY.out; omega
      have HD2 : Hid (decA (u / 10) (fig (u % 10) :: acc) = Lib.decDigits m) := (decA_step hu' acc).trans HD.out
      obtain ⟨d, hd⟩ : ∃ d, u % 10 = d := ⟨_, rfl⟩
      have hd9 : d < 10 := by omega
      rw [hd] at HD2
      obtain ⟨z, hz⟩ : ∃ z : Int, z = -(d : Int) := ⟨_, rfl⟩
      obtain ⟨y2, hy2⟩ : ∃ y2 : Int, y2 = -((u / 10 : Nat) : Int) := ⟨_, rfl⟩
      have e1 : y.tmod 10 = z := by rw [HY.out, neg_mod10, hd, hz]
      have e2 : y.tdiv 10 = y2 := by rw [HY.out, neg_div10, hy2]
      have z0 : z ≤ 0 := by omega
      have z9 : -9 ≤ z := by omega
      have y20 : y2 ≤ 0 := by omega
      have y21 : y < y2 := by have := HY.out; omega
      have HZ := Lib.hid hz
      have HY2 := Lib.hid hy2
      clear hz hy2 hd hu'
      by_cases hz0 : z < 0
      · go_wp2_with fail
        refine (figure_is _ d (by have := HZ.out; omega) (by omega) _).mono ?_
        rintro e w' ⟨rfl, rfl⟩
        have hcv := conv_one wr (fig d).toNat (fig_le d).1 (fig_le d).2
        rw [ofNat_fig] at hcv
        go_wp2_with fail
        go_roundw
        case rel => exact ⟨y2, u / 10, fig d :: acc, HY2, rfl, by omega, y20, cat_one _ _ _ rfl, HD2, hbk.alloc hbk.size _⟩
        case measure => simp [intOf]; omega
      · go_wp2_with fail
        refine (figure_is _ d (by have := HZ.out; omega) (by omega) _).mono ?_
        rintro e w' ⟨rfl, rfl⟩
        have hcv := conv_one wr (fig d).toNat (fig_le d).1 (fig_le d).2
        rw [ofNat_fig] at hcv
        go_wp2_with fail
        go_roundw
        case rel => exact ⟨y2, u / 10, fig d :: acc, HY2, rfl, by omega, y20, cat_one _ _ _ rfl, HD2, hbk.alloc hbk.size _⟩
        case measure => simp [intOf]; omega
    · have hu0 : u = 0 := by have := HY.out; omega
      obtain rfl : y = 0 := by omega
      have HE : Hid (acc = Lib.decDigits m) := by have := HD.out; rw [hu0, decA_zero] at this; exact this
      go_wp2_with fail
      go_ret
      exact ⟨by rw [HE.out]; exact congrArg Ending.returned (cat_one _ _ _ rfl), hbk⟩

theorem specFormat_any (n : Int) (h0 : -9223372036854775808 ≤ n) (h1 : n ≤ 9223372036854775807) (w : World) :
    Calls Tryd.prog 19 #[.int .i64 n] w fun e w' => e = .returned (.string ⟨(Lib.itoa n).toArray⟩) ∧ Below w.heap.size w w' := by
  by_cases hz : n = 0
  · subst hz
    have e : Lib.itoa 0 = [48] := by unfold Lib.itoa; rw [if_neg (by omega), Lib.decDigits, dif_pos (by omega)]; rfl
    have HE := Lib.hid e; clear e
    go_enter Tryd.func19, Tryd.ntmps19
    go_wp2_with fail
    go_ret
    exact ⟨by rw [HE.out]; rfl, Below.refl _ _⟩
  · by_cases hn : n < 0
    · have e : Lib.itoa n = 45 :: Lib.decDigits n.natAbs := by unfold Lib.itoa; rw [if_pos hn]
      rw [e]
      exact specFormat_neg n n.natAbs (by omega) (by omega) (by omega) w
    · have e : Lib.itoa n = Lib.decDigits n.toNat := by unfold Lib.itoa; rw [if_neg hn]
      rw [e]
      obtain ⟨m, rfl⟩ := Int.eq_ofNat_of_zero_le (show 0 ≤ n by omega)
      rw [Int.toNat_natCast]
      exact specFormat_pos m (by omega) h1 w

end Go.Proofs.YtihhcnckoeaihaaDoor
