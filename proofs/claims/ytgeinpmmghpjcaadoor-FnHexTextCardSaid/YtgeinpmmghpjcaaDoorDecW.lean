/-
  DecodeHex of both packages: one text, or none.
-/
import Derived.Test.YtgeinpmmghpjcaaDoorBytesW
import Derived.Test.YtgeinpmmghpjcaaDoorShelf
namespace Go.Proofs.YtgeinpmmghpjcaaDoor
open Go.RowKit
open Go.PlainAid

set_option linter.unusedVariables false

/-- What a hexadecimal digit stands for; -1 for any other byte. -/
def valF (x : Int) : Int := if 48 ≤ x ∧ x ≤ 57 then x - 48 else if 97 ≤ x ∧ x ≤ 102 then x - 87 else -1

theorem valF_le (x : Int) : -1 ≤ valF x ∧ valF x ≤ 15 := by unfold valF; repeat' split; all_goals omega

/-- The bytes that the first k pairs of digits stand for. -/
def decTo (s : ByteArray) : Nat → Option (List UInt8)
  | 0 => some []
  | k + 1 => match decTo s k with
    | none => none
    | some l => if valF (bt s (2 * k)) < 0 ∨ valF (bt s (2 * k + 1)) < 0 then none else some (l ++ [UInt8.ofNat (16 * valF (bt s (2 * k)) + valF (bt s (2 * k + 1))).toNat])

theorem decTo_yes {s : ByteArray} {k : Nat} {l : List UInt8} (h : decTo s k = some l) (h0 : 0 ≤ valF (bt s (2 * k))) (h1 : 0 ≤ valF (bt s (2 * k + 1))) :
    decTo s (k + 1) = some (l ++ [UInt8.ofNat (16 * valF (bt s (2 * k)) + valF (bt s (2 * k + 1))).toNat]) := by
  simp only [decTo, h]; rw [if_neg (by omega)]

theorem decTo_no {s : ByteArray} {k : Nat} {l : List UInt8} (h : decTo s k = some l) (h0 : valF (bt s (2 * k)) < 0 ∨ valF (bt s (2 * k + 1)) < 0) :
    ∀ n, k < n → decTo s n = none := by
  intro n
  induction n with
  | zero => intro hn; omega
  | succ n ih =>
    intro hn
    by_cases e : n = k
    · subst e; simp only [decTo, h]; rw [if_pos h0]
    · simp only [decTo, ih (by omega)]

theorem decTo_length {s : ByteArray} : ∀ {k : Nat} {l : List UInt8}, decTo s k = some l → l.length = k
  | 0, l, h => by simp [decTo] at h; subst h; rfl
  | k + 1, l, h => by
    simp only [decTo] at h
    split at h
    · cases h
    · rename_i l' h'
      split at h
      · cases h
      · cases h; simp [decTo_length h']

/-- What DecodeHex gives at a text that may be one. -/
def decV (s : ByteArray) : Value := match decTo s (s.size / 2) with
  | some l => .tuple #[.string ⟨l.toArray⟩, .bool true]
  | none => .tuple #[.string ⟨#[]⟩, .bool false]

theorem decV_some {s : ByteArray} {l : List UInt8} (h : decTo s (s.size / 2) = some l) : decV s = .tuple #[.string ⟨l.toArray⟩, .bool true] := by unfold decV; rw [h]

theorem decV_none {s : ByteArray} (h : decTo s (s.size / 2) = none) : decV s = .tuple #[.string ⟨#[]⟩, .bool false] := by unfold decV; rw [h]

set_option maxRecDepth 100000 in
theorem index_val : ∀ n : Fin 256, (Lib.indexByte [48, 49, 50, 51, 52, 53, 54, 55, 56, 57, 97, 98, 99, 100, 101, 102] (UInt8.ofNat n.1) : Int) = valF (n.1 : Int) := by decide

theorem indexByte_any (x : Int) (h0 : 0 ≤ x) (h1 : x ≤ 255) (w : World) :
    Calls Tryd.prog 22 #[.string ⟨#[48, 49, 50, 51, 52, 53, 54, 55, 56, 57, 97, 98, 99, 100, 101, 102]⟩, .int .u8 x] w fun e w' => e = .returned (.int .i64 (valF x)) ∧ w = w' := by
  refine (Tryd.strings_IndexByte _ _ _).mono ?_
  rintro e w' ⟨rfl, rfl⟩
  obtain ⟨n, rfl⟩ := Int.eq_ofNat_of_zero_le h0
  have := index_val ⟨n, by omega⟩
  refine ⟨?_, rfl⟩
  simp only [Int.toNat_natCast]
  exact ret_i this

set_option maxHeartbeats 2000000 in
set_option maxRecDepth 100000 in
theorem implDec_any (s : ByteArray) (w : World) (n : Nat) (hn : s.size = 2 * n) (hs : s.size ≤ 40000) :
    Calls Tryd.prog 11 #[.string s] w fun e w' => e = .returned (decV s) ∧ Below w.heap.size w w' := by
  obtain ⟨i0, hi, hz0, hz1, hz2⟩ := info_parts infoB
  have hs' : (s.size : Int) ≤ 40000 := by omega
  have hev : (s.size : Int) % 2 = 0 := by omega
  have hbt := get_bt s
  have HN := Lib.hid hn; clear hn
  have hdn : Hid (s.size / 2 = n) := by have := HN.out; show s.size / 2 = n; omega
  go_enter Tryd.func11, Tryd.ntmps11
  have h2 : (s.size : Int).tdiv 2 = (s.size / 2 : Nat) := by rw [Int.tdiv_eq_ediv_of_nonneg (by omega)]; omega
  go_wp2_with (at_make; refine wpList_make_own _ rfl _ _ 22 rfl w.heap.size 5 i0 (.int .u8 0) 1 Tryd.underlying22 hi hz0 hz1 _ _ _ (s.size / 2) rfl rfl (by omega) (by rw [hz2]; omega) (by unfold maxLen; omega) (Nat.le_refl _) ?_)
  intro w1 hown hgr
  have hb1 : Below w.heap.size w w1 := (Below.refl _ _).grown hgr (Nat.le_refl _) (fun k hk => by cases hk)
  clear hgr
  go_wp2_with fail
  go_loopw [4, 5] (fun t i wr => ∃ k j : Nat, ∃ l : List UInt8, k ≤ n ∧ Hid (j = 2 * k) ∧ i = .int .i64 j ∧ Hid (decTo s k = some l) ∧ OwnB w.heap.size t l wr ∧ Below w.heap.size w wr) (fun _ i _ => s.size + 2 - (intOf i).toNat)
  case atStart => exact ⟨0, 0, [], Nat.zero_le _, rfl, rfl, rfl, hown, hb1⟩
  case round =>
    obtain ⟨k, j, l, hk, HJ, rfl, HD, hownk, hbk⟩ := hrel
    have hj := HJ.out
    have hsz := HN.out
    have HL := Lib.hid (decTo_length HD.out)
    by_cases hlt : k < n
    · have hlt' : j < s.size := by omega
      have hlt2 : j + 1 < s.size := by omega
      have b0 := bt_nonneg s j
      have b1 := bt_le s j
      have c0 := bt_nonneg s (j + 1)
      have c1 := bt_le s (j + 1)
      have HE0 : Hid (valF (bt s (2 * k)) = valF (bt s j)) := by show valF _ = _; rw [hj]
      have HE1 : Hid (valF (bt s (2 * k + 1)) = valF (bt s (j + 1))) := by show valF _ = _; rw [hj]
      have hls : l.length ≤ 20000 := by have := HL.out; omega
      clear hj hsz
      by_cases hv0 : valF (bt s j) < 0
      · have HV : Hid (decV s = .tuple #[.string ⟨#[]⟩, .bool false]) := decV_none (by rw [hdn.out]; exact decTo_no HD.out (.inl (by rw [HE0.out]; exact hv0)) n hlt)
        go_wp2_with (go_at_call 22; refine (indexByte_any _ (by assumption) (by assumption) _).mono ?_; rintro e w' ⟨rfl, rfl⟩)
        go_ret2
        exact ⟨by rw [HV.out]; rfl, hbk⟩
      · have hv0' : 0 ≤ valF (bt s j) := by omega
        by_cases hv1 : valF (bt s (j + 1)) < 0
        · have HV : Hid (decV s = .tuple #[.string ⟨#[]⟩, .bool false]) := decV_none (by rw [hdn.out]; exact decTo_no HD.out (.inr (by rw [HE1.out]; exact hv1)) n hlt)
          go_wp2_with (go_at_call 22; refine (indexByte_any _ (by assumption) (by assumption) _).mono ?_; rintro e w' ⟨rfl, rfl⟩)
          go_ret2
          exact ⟨by rw [HV.out]; rfl, hbk⟩
        · have hv1' : 0 ≤ valF (bt s (j + 1)) := by omega
          have d0 := (valF_le (bt s j)).2
          have d1 := (valF_le (bt s (j + 1))).2
          have hbs := hbk.size
          go_wp2_with (first | (go_at_call 22; refine (indexByte_any _ (by assumption) (by assumption) _).mono ?_; rintro e w' ⟨rfl, rfl⟩) | (at_builtin; refine wpList_append_own _ rfl _ _ 22 rfl w.heap.size 5 i0 (.int .u8 0) 1 1 Tryd.underlying22 hi hz0 hz1 hz2 rfl (by decide) _ _ _ rfl (World.ownsRow.alloc hownk _) ⟨wr.heap.size, 0, none⟩ 1 1 [_] rfl rfl (cell_one_new _ _ _) (by intro u hu; simp at hu; subst hu; rfl) (by unfold maxLen; omega) (by omega) (by simp; omega) ?_))
          intro v' w2 hown2 hgrow _
          have R : OwnB w.heap.size v' (l ++ [UInt8.ofNat (16 * valF (bt s (2 * k)) + valF (bt s (2 * k + 1))).toNat]) w2 := by
            refine own_more hown2 ?_
            rw [HE0.out, HE1.out]
            simp; omega
          have HD2 := Lib.hid (decTo_yes HD.out (by rw [HE0.out]; exact hv0') (by rw [HE1.out]; exact hv1'))
          have hb2 : Below w.heap.size w w2 := (hbk.alloc hbs _).grown hgrow (by simp; omega) (fun k hk => (World.ownsRow.lt hownk k hk).1)
          have HJ2 : Hid (j + 2 = 2 * (k + 1)) := by have := HJ.out; show j + 2 = _; omega
          clear hown2 hgrow hownk hbk
          go_wp2
          go_roundw
          case rel => exact ⟨k + 1, j + 2, _, by omega, HJ2, by go_num, HD2, R, hb2⟩
          case measure => simp [intOf]; omega
    · have hkn : k = n := by omega
      have hge : s.size ≤ j := by omega
      clear hj hsz
      have HV : Hid (decV s = .tuple #[.string ⟨l.toArray⟩, .bool true]) := decV_some (by rw [hdn.out, ← hkn]; exact HD.out)
      have hcv := hownk.conv
      have HK := Lib.hid hkn; clear hkn
      go_wp2
      go_ret2
      exact ⟨by rw [HV.out]; rfl, hbk⟩

theorem implDec_no (s : ByteArray) (w : World) (h : 40000 < (s.size : Int) ∨ (s.size : Int) % 2 = 1) (hm : (s.size : Int) ≤ 9223372036854775807) :
    Calls Tryd.prog 11 #[.string s] w fun e w' => e = .returned (.tuple #[.string ⟨#[]⟩, .bool false]) ∧ w = w' := by
  by_cases h1 : 40000 < (s.size : Int)
  · by_cases h2 : (s.size : Int) % 2 = 1
    · clear h
      go_enter Tryd.func11, Tryd.ntmps11
      go_wp2
      go_ret2
      exact ⟨rfl, rfl⟩
    · have h3 : (s.size : Int) % 2 = 0 := by omega
      clear h h2
      go_enter Tryd.func11, Tryd.ntmps11
      go_wp2
      go_ret2
      exact ⟨rfl, rfl⟩
  · have h2 : (s.size : Int) % 2 = 1 := by omega
    clear h
    go_enter Tryd.func11, Tryd.ntmps11
    go_wp2
    go_ret2
    exact ⟨rfl, rfl⟩

end Go.Proofs.YtgeinpmmghpjcaaDoor
