/-
  ParseUint of both packages.
-/
import Derived.Test.YtfhgbgcdkiiflaaDoorNumM
import Derived.Test.YtfhgbgcdkiiflaaDoorFmtW
namespace Go.Proofs.YtfhgbgcdkiiflaaDoor
open Go.RowKit Go.PlainAid
set_option linter.unusedVariables false

/-- What the library's two error variables hold. -/
def ErrS (w : World) : Prop := ∃ tp p, w.var? Tryd.prog "strconv.ErrSyntax" = some #[.iface tp p]

def ErrR (w : World) : Prop := ∃ tp p, w.var? Tryd.prog "strconv.ErrRange" = some #[.iface tp p]

theorem ne_toList {s t : ByteArray} (h : ¬ s = t) : (t.toList == s.toList) = false := by
  rw [Lib.toList_data, Lib.toList_data, beq_eq_false_iff_ne]
  intro e
  apply h
  have e2 : t.data = s.data := by
    have := congrArg List.toArray e
    simpa using this
  cases s; cases t; simp_all

theorem below_bytes {w w' : World} {e : TypeId} (h : w' = w ∨ ∃ t, w' = Lib.bytesWorld w e t) : Below w.heap.size w w' := by
  rcases h with rfl | ⟨t, rfl⟩
  · exact Below.refl _ _
  · exact ⟨rfl, rfl, rfl, by rw [Lib.bytesWorld_size]; omega, fun j hj => Lib.bytesWorld_at_old w e t j hj⟩

set_option maxHeartbeats 1000000 in
set_option maxRecDepth 100000 in
theorem implParse_yes (s : ByteArray) (v : Nat) (h : PU s v) (w : World) (ht : Tab10 w) :
    Calls Tryd.prog 43 #[.string s] w fun e w' => e = .returned (.tuple #[.int .i64 v, .bool true]) ∧ Below w.heap.size w w' := by
  obtain ⟨hv, hs⟩ := h
  have HT := Lib.hid (Lib.tabBelow_of_tabIs ht)
  have HS := Lib.hid hs
  have hl := size_dec hs hv
  have hat : Lib.atoiAll s.data.toList = .ok (v : Int) := by subst hs; exact atoi_dec hv
  clear ht hs
  go_enter Tryd.func43, Tryd.ntmps43
  go_wp2_with fail
  refine (Tryd.strconv_Atoi_ok s (by omega) v hat _).mono ?_
  rintro e w1 ⟨rfl, hw1⟩
  have HB1 : Hid (Below w.heap.size w w1) := below_bytes hw1
  clear hw1 hat
  go_wp2_with fail
  refine (implFormat_any v (by omega) (by omega) _ (HT.out.on HB1.out).here).mono ?_
  rintro e w2 ⟨rfl, hb2⟩
  have HB2 := Lib.hid hb2; clear hb2
  rw [itoa_nat, ← HS.out]
  go_wp2_with fail
  go_ret2
  exact ⟨rfl, HB1.out.trans (HB2.out.mono HB1.out.size)⟩

set_option maxHeartbeats 1000000 in
set_option maxRecDepth 100000 in
theorem implParse_no (s : ByteArray) (hs : s.size ≤ 281474976710656) (h : ∀ v, ¬ PU s v) (w : World) (ht : Tab10 w) (he : ErrS w) (hr : ErrR w) :
    Calls Tryd.prog 43 #[.string s] w fun e w' => e = .returned (.tuple #[.int .i64 0, .bool false]) ∧ Below w.heap.size w w' := by
  have HT := Lib.hid (Lib.tabBelow_of_tabIs ht)
  have HP := Lib.hid h
  obtain ⟨te, pe, hes⟩ := he
  obtain ⟨tr, pr, her⟩ := hr
  clear ht h
  by_cases hok : ∃ v, Lib.atoiAll s.data.toList = .ok v
  · obtain ⟨v, hat⟩ := hok
    obtain ⟨v0, v1⟩ := Lib.atoiAll_bounds hat
    clear hes her
    by_cases hneg : v < 0
    · go_enter Tryd.func43, Tryd.ntmps43
      go_wp2_with fail
      refine (Tryd.strconv_Atoi_ok s (by omega) v hat _).mono ?_
      rintro e w1 ⟨rfl, hw1⟩
      have HB1 := Lib.hid (below_bytes hw1)
      clear hw1 hat
      go_wp2_with fail
      go_ret2
      exact ⟨rfl, HB1.out⟩
    · by_cases hbig : 1000000000 < v
      · go_enter Tryd.func43, Tryd.ntmps43
        go_wp2_with fail
        refine (Tryd.strconv_Atoi_ok s (by omega) v hat _).mono ?_
        rintro e w1 ⟨rfl, hw1⟩
        have HB1 := Lib.hid (below_bytes hw1)
        clear hw1 hat
        go_wp2_with fail
        go_ret2
        exact ⟨rfl, HB1.out⟩
      · obtain ⟨n, rfl⟩ := Int.eq_ofNat_of_zero_le (show 0 ≤ v by omega)
        have HN : Hid (¬ s = ⟨(Lib.decDigits n).toArray⟩) := fun e => HP.out n ⟨by omega, e⟩
        go_enter Tryd.func43, Tryd.ntmps43
        go_wp2_with fail
        refine (Tryd.strconv_Atoi_ok s (by omega) n hat _).mono ?_
        rintro e w1 ⟨rfl, hw1⟩
        have HB1 := Lib.hid (below_bytes hw1)
        clear hw1 hat
        go_wp2_with fail
        refine (implFormat_any n (by omega) (by omega) _ (HT.out.on HB1.out).here).mono ?_
        rintro e w2 ⟨rfl, hb2⟩
        have HB2 := Lib.hid hb2; clear hb2
        rw [itoa_nat]
        obtain ⟨t, ht⟩ : ∃ t : ByteArray, (⟨(Lib.decDigits n).toArray⟩ : ByteArray) = t := ⟨_, rfl⟩
        rw [ht] at HN ⊢
        have hne := ne_toList HN.out
        go_wp2_with fail
        go_ret2
        exact ⟨rfl, HB1.out.trans (HB2.out.mono HB1.out.size)⟩
  · by_cases hat : Lib.atoiAll s.data.toList = .range
    · clear hok
      go_enter Tryd.func43, Tryd.ntmps43
      go_wp2_with fail
      refine (Tryd.strconv_Atoi_range_var s hs hat tr pr _ her).mono ?_
      rintro e w1 ⟨N, rfl, _, _, hb1⟩
      have HB1 := Lib.hid hb1
      clear hb1 hat hes her
      go_wp2_with fail
      go_ret2
      exact ⟨rfl, HB1.out⟩
    · have hat2 : (∀ v, Lib.atoiAll s.data.toList ≠ .ok v) ∧ Lib.atoiAll s.data.toList ≠ .range := ⟨fun v e => hok ⟨v, e⟩, hat⟩
      have HAT := Lib.hid hat2
      clear hok hat hat2
      go_enter Tryd.func43, Tryd.ntmps43
      go_wp2_with fail
      refine (Tryd.strconv_Atoi_syntax_var s hs HAT.out te pe _ hes).mono ?_
      rintro e w1 ⟨N, rfl, _, _, hb1⟩
      have HB1 := Lib.hid hb1
      clear hb1 hes her
      go_wp2_with fail
      go_ret2
      exact ⟨rfl, HB1.out⟩

set_option maxHeartbeats 2000000 in
set_option maxRecDepth 100000 in
/-- Digits alone, at most ten: the loop's end is the number that they spell. -/
theorem specParse_digits (s : ByteArray) (hs : s.size ≤ 10) (hd : ∀ i, i < s.size → 48 ≤ bt s i ∧ bt s i ≤ 57) (w : World) (R : Int × Bool) (hR : R = if valTo s s.size > 1000000000 ∨ ¬ s = ⟨(Lib.itoa (valTo s s.size)).toArray⟩ then (0, false) else (valTo s s.size, true)) :
    Calls Tryd.prog 38 #[.string s] w fun e w' => e = .returned (.tuple #[.int .i64 R.1, .bool R.2]) ∧ Below w.heap.size w w' := by
  have hbt := get_bt s
  have HD := Lib.hid hd
  have HR := Lib.hid hR
  clear hd hR
  go_enter Tryd.func38, Tryd.ntmps38
  go_wp2_with fail
  go_loop [4, 5] (fun n i => ∃ k : Nat, ∃ v : Int, k ≤ s.size ∧ i = .int .i64 k ∧ n = .int .i64 v ∧ Hid (v = valTo s k)) (fun _ i => s.size - (intOf i).toNat)
  case atStart => exact ⟨0, 0, Nat.zero_le _, rfl, rfl, rfl⟩
  case round =>
    obtain ⟨k, v, hk, rfl, rfl, HV⟩ := hrel
    by_cases hlt : k < s.size
    · obtain ⟨g0, g1⟩ := HD.out k hlt
      obtain ⟨v0, v1⟩ := valTo_small s (k := k) (by omega) (fun i hi => HD.out i (by omega))
      rw [← HV.out] at v0 v1
      have HV2 : Hid (10 * v + bt s k - 48 = valTo s (k + 1)) := by show _ = _; rw [HV.out]; rfl
      go_wp2_with fail
      go_round
      case rel => exact ⟨k + 1, 10 * v + bt s k - 48, by omega, by go_num, rfl, HV2⟩
      case measure => simp [intOf]; omega
    · obtain rfl : k = s.size := by omega
      have hb := valTo_bd s s.size HD.out
      have hb2 : (10 : Int) ^ s.size ≤ 10 ^ 10 := by
        have := Nat.pow_le_pow_right (n := 10) (by decide) hs
        exact_mod_cast this
      rw [← HV.out] at hb
      have v0 : 0 ≤ v := hb.1
      have v1 : v ≤ 9999999999 := by have := hb.2; omega
      clear hb hb2
      by_cases hbig : 1000000000 < v
      · have HE : Hid (R = (0, false)) := by show R = _; rw [HR.out, ← HV.out, if_pos (.inl hbig)]
        go_wp2_with fail
        go_ret2
        exact ⟨by rw [HE.out]; rfl, Below.refl _ _⟩
      · by_cases he : s = ⟨(Lib.itoa v).toArray⟩
        · have HE : Hid (R = (v, true)) := by show R = _; rw [HR.out, ← HV.out, if_neg (by intro h; rcases h with h | h; omega; exact h he)]
          have HS := Lib.hid he
          clear he
          go_wp2_with fail
          refine (specFormat_any v (by omega) (by omega) _).mono ?_
          rintro e w2 ⟨rfl, hb2⟩
          have HB2 := Lib.hid hb2; clear hb2
          rw [← HS.out]
          go_wp2_with fail
          go_ret2
          exact ⟨by rw [HE.out]; rfl, HB2.out⟩
        · have HE : Hid (R = (0, false)) := by show R = _; rw [HR.out, ← HV.out, if_pos (.inr he)]
          have HS := Lib.hid he
          clear he
          go_wp2_with fail
          refine (specFormat_any v (by omega) (by omega) _).mono ?_
          rintro e w2 ⟨rfl, hb2⟩
          have HB2 := Lib.hid hb2; clear hb2
          obtain ⟨t, ht⟩ : ∃ t : ByteArray, (⟨(Lib.itoa v).toArray⟩ : ByteArray) = t := ⟨_, rfl⟩
          rw [ht] at HS ⊢
          have hne := ne_toList HS.out
          go_wp2_with fail
          go_ret2
          exact ⟨by rw [HE.out]; rfl, HB2.out⟩

theorem specParse_long (s : ByteArray) (hs : 10 < (s.size : Int)) (hm : (s.size : Int) ≤ 9223372036854775807) (w : World) :
    Calls Tryd.prog 38 #[.string s] w fun e w' => e = .returned (.tuple #[.int .i64 0, .bool false]) ∧ Below w.heap.size w w' := by
  go_enter Tryd.func38, Tryd.ntmps38
  go_wp2_with fail
  go_ret2
  exact ⟨rfl, Below.refl _ _⟩

set_option maxHeartbeats 2000000 in
set_option maxRecDepth 100000 in
theorem specParse_bad (s : ByteArray) (hs : s.size ≤ 10) (m : Nat) (hm : m < s.size) (hb : bt s m < 48 ∨ 57 < bt s m) (hd : ∀ i, i < m → 48 ≤ bt s i ∧ bt s i ≤ 57) (w : World) :
    Calls Tryd.prog 38 #[.string s] w fun e w' => e = .returned (.tuple #[.int .i64 0, .bool false]) ∧ Below w.heap.size w w' := by
  have hbt := get_bt s
  have HD := Lib.hid hd
  have HX := Lib.hid hb
  clear hd hb
  go_enter Tryd.func38, Tryd.ntmps38
  go_wp2_with fail
  go_loop [4, 5] (fun n i => ∃ k : Nat, ∃ v : Int, k ≤ m ∧ i = .int .i64 k ∧ n = .int .i64 v ∧ Hid (v = valTo s k)) (fun _ i => s.size - (intOf i).toNat)
  case atStart => exact ⟨0, 0, Nat.zero_le _, rfl, rfl, rfl⟩
  case round =>
    obtain ⟨k, v, hk, rfl, rfl, HV⟩ := hrel
    have hks : k < s.size := by omega
    by_cases hlt : k < m
    · obtain ⟨g0, g1⟩ := HD.out k hlt
      obtain ⟨v0, v1⟩ := valTo_small s (k := k) (by omega) (fun i hi => HD.out i (by omega))
      rw [← HV.out] at v0 v1
      have HV2 : Hid (10 * v + bt s k - 48 = valTo s (k + 1)) := by show _ = _; rw [HV.out]; rfl
      go_wp2_with fail
      go_round
      case rel => exact ⟨k + 1, 10 * v + bt s k - 48, by omega, by go_num, rfl, HV2⟩
      case measure => simp [intOf]; omega
    · obtain rfl : k = m := by omega
      rcases HX.out with hx | hx
      · go_wp2_with fail
        go_ret2
        exact ⟨rfl, Below.refl _ _⟩
      · have hy : ¬ bt s k < 48 := by omega
        go_wp2_with fail
        go_ret2
        exact ⟨rfl, Below.refl _ _⟩

theorem first_bad (s : ByteArray) : ∀ n, (∀ i, i < n → 48 ≤ bt s i ∧ bt s i ≤ 57) ∨ ∃ m, m < n ∧ (bt s m < 48 ∨ 57 < bt s m) ∧ ∀ i, i < m → 48 ≤ bt s i ∧ bt s i ≤ 57
  | 0 => .inl (fun i hi => by omega)
  | n + 1 => by
    rcases first_bad s n with h | ⟨m, hm, r⟩
    · by_cases hn : 48 ≤ bt s n ∧ bt s n ≤ 57
      · left; intro i hi
        by_cases e : i = n
        · subst e; exact hn
        · exact h i (by omega)
      · exact .inr ⟨n, by omega, by omega, h⟩
    · exact .inr ⟨m, by omega, r⟩

theorem specParse_yes (s : ByteArray) (v : Nat) (h : PU s v) (w : World) :
    Calls Tryd.prog 38 #[.string s] w fun e w' => e = .returned (.tuple #[.int .i64 v, .bool true]) ∧ Below w.heap.size w w' := by
  obtain ⟨hv, hs⟩ := h
  have e := valTo_dec hs
  refine specParse_digits s (size_dec hs hv) (bt_dig hs) w ((v : Int), true) ?_
  rw [e, if_neg]
  intro h
  rcases h with h | h
  · omega
  · rw [itoa_nat] at h; exact h hs

theorem specParse_no (s : ByteArray) (hs : s.size ≤ maxLen) (h : ∀ v, ¬ PU s v) (w : World) :
    Calls Tryd.prog 38 #[.string s] w fun e w' => e = .returned (.tuple #[.int .i64 0, .bool false]) ∧ Below w.heap.size w w' := by
  unfold maxLen at hs
  by_cases h10 : s.size ≤ 10
  · rcases first_bad s s.size with hd | ⟨m, hm, hb, hd⟩
    · refine specParse_digits s h10 hd w ((0 : Int), false) ?_
      rw [if_pos]
      by_cases hbig : valTo s s.size > 1000000000
      · exact .inl hbig
      · right
        intro e
        obtain ⟨n, hn⟩ := Int.eq_ofNat_of_zero_le (valTo_bd s s.size hd).1
        rw [hn] at e hbig
        rw [itoa_nat] at e
        exact h n ⟨by omega, e⟩
    · exact specParse_bad s h10 m hm hb hd w
  · exact specParse_long s (by omega) (by omega) w

end Go.Proofs.YtfhgbgcdkiiflaaDoor
