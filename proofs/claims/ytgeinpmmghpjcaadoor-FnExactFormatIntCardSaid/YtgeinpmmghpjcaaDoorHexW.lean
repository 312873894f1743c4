/-
  EncodeHex of both packages: one text.
-/
import Derived.Test.YtgeinpmmghpjcaaDoorBytesW
namespace Go.Proofs.YtgeinpmmghpjcaaDoor
open Go.RowKit

set_option linter.unusedVariables false

open Go.PlainAid

/-- The hexadecimal digit of a number below 16. -/
def fig (x : Nat) : UInt8 := if x < 10 then UInt8.ofNat (48 + x) else UInt8.ofNat (87 + x)

/-- The text of the first k bytes. -/
def hexTo (s : ByteArray) : Nat → List UInt8
  | 0 => []
  | k + 1 => hexTo s k ++ [fig (bt s k / 16).toNat, fig (bt s k % 16).toNat]

theorem hexTo_length (s : ByteArray) : ∀ k, (hexTo s k).length = 2 * k
  | 0 => rfl
  | k + 1 => by simp [hexTo, hexTo_length s k]; omega

theorem u8_and15_bt (s : ByteArray) (k : Nat) : bits .and .u8 (bt s k) 15 = bt s k % 16 := u8_and15 _ (bt_nonneg s k) (by have := bt_le s k; omega)

theorem dig_at (q : Nat) (h : q < 16) : (({ data := #[48, 49, 50, 51, 52, 53, 54, 55, 56, 57, 97, 98, 99, 100, 101, 102] } : ByteArray)[q]'h).toNat = (fig q).toNat :=
  (show ∀ q : Fin 16, (({ data := #[48, 49, 50, 51, 52, 53, 54, 55, 56, 57, 97, 98, 99, 100, 101, 102] } : ByteArray)[q.1]'q.2).toNat = (fig q.1).toNat by decide) ⟨q, h⟩

/-- One round: two bytes more. -/
theorem hex_more {B : Nat} {v : Value} {s : ByteArray} {k : Nat} {x y : Int} {w : World} (h : w.ownsRow B 5 1 v ((hexTo s k).length + 2) (Lib.byteCells (hexTo s k) ++ [.int .u8 x, .int .u8 y]))
    (hx : x = (fig (bt s k / 16).toNat).toNat) (hy : y = (fig (bt s k % 16).toNat).toNat) : OwnB B v (hexTo s (k + 1)) w := by
  subst hx hy
  unfold OwnB
  have e1 : (hexTo s (k + 1)).length = (hexTo s k).length + 2 := by simp [hexTo]
  have e2 : Lib.byteCells (hexTo s (k + 1)) = Lib.byteCells (hexTo s k) ++ [.int .u8 (fig (bt s k / 16).toNat).toNat, .int .u8 (fig (bt s k % 16).toNat).toNat] := by simp [hexTo, Lib.byteCells]
  rw [e1, e2]; exact h

set_option maxHeartbeats 1000000 in
set_option maxRecDepth 100000 in
theorem implEnc_any (s : ByteArray) (w : World) (hs : s.size ≤ 20000) :
    Calls Tryd.prog 9 #[.string s] w fun e w' => e = .returned (.tuple #[.string ⟨(hexTo s s.size).toArray⟩, .bool true]) ∧ Below w.heap.size w w' := by
  obtain ⟨i0, hi, hz0, hz1, hz2⟩ := info_parts infoB
  have hs' : (s.size : Int) ≤ 20000 := by omega
  have hbt := get_bt s
  go_enter Tryd.func9, Tryd.ntmps9
  go_wp2_with (at_make; refine wpList_make_own _ rfl _ _ 22 rfl w.heap.size 5 i0 (.int .u8 0) 1 Tryd.underlying22 hi hz0 hz1 _ _ _ (2 * s.size) rfl rfl (by omega) (by rw [hz2]; omega) (by unfold maxLen; omega) (Nat.le_refl _) ?_)
  intro w1 hown hgr
  have hb1 : Below w.heap.size w w1 := (Below.refl _ _).grown hgr (Nat.le_refl _) (fun k hk => by cases hk)
  clear hgr
  go_wp2_with fail
  go_loopw [4, 15] (fun t i wr => ∃ k : Nat, k ≤ s.size ∧ i = .int .i64 k ∧ OwnB w.heap.size t (hexTo s k) wr ∧ Below w.heap.size w wr) (fun _ i _ => s.size - (intOf i).toNat)
  case atStart => exact ⟨0, Nat.zero_le _, rfl, hown, hb1⟩
  case round =>
    obtain ⟨k, hk, rfl, hownk, hbk⟩ := hrel
    by_cases hlt : k < s.size
    · have b0 := bt_nonneg s k
      have b1 := bt_le s k
      have ba := u8_and15_bt s k
      have q0 : 0 ≤ bt s k / 16 := by omega
      have q1 : bt s k / 16 < 16 := by omega
      have r0 : 0 ≤ bt s k % 16 := by omega
      have r1 : bt s k % 16 < 16 := by omega
      go_wp2
      have HL := Lib.hid (hexTo_length s k)
      have hsz := hbk.size
      go_region_law ((refine step_append_lies _ (by rfl) _ _ _ (by rfl) w.heap.size 5 i0 (.int .u8 0) 1 1 Tryd.underlying22 hi hz0 hz1 hz2 rfl (by omega) _ _ _ (by rfl) ((World.ownsRow.alloc hownk _).drew) ⟨wr.heap.size, 0, none⟩ 2 2 [_, _] (by rfl) (by rfl) (World.news_of_block (t := 5) (fr := (0, 0)) (heap_alloc_new wr _)) (by simp [Value.oneCell']) (by omega) (by rw [HL.out]; unfold maxLen; omega) (by rw [HL.out]; omega) (by simp; omega) (wr.heap.size + 1) (by simp) ?_; intro gg cap w2 hown2 hgrow hat hltg))
      all_goals
        have R := hex_more hown2 (congrArg (fun n : Nat => (n : Int)) (dig_at (bt s k / 16).toNat (by omega))) (congrArg (fun n : Nat => (n : Int)) (dig_at (bt s k % 16).toNat (by omega)))
        have hb2 : Below w.heap.size w w2 := ((hbk.alloc hsz _).drew).grown hgrow (by simp; omega) (fun k hk => (World.ownsRow.lt hownk k hk).1)
        clear hown2 hgrow hat hownk hbk
        go_wp2
        go_roundw
        case rel => exact ⟨k + 1, by omega, by go_num, R, hb2⟩
        case measure => simp [intOf]; omega
    · obtain rfl : k = s.size := by omega
      have hcv := hownk.conv
      go_wp2
      go_ret2
      exact ⟨rfl, hbk⟩

theorem figure_any (x : Int) (h0 : 0 ≤ x) (h1 : x < 16) (w : World) :
    Calls Tryd.prog 25 #[.int .i64 x] w fun e w' => e = .returned (.int .u8 (fig x.toNat).toNat) ∧ w = w' := by
  obtain ⟨n, rfl⟩ := Int.eq_ofNat_of_zero_le h0
  by_cases h : (n : Int) < 10
  · have hf : ((fig n).toNat : Int) = 48 + n := by unfold fig; rw [if_pos (by omega)]; simp; omega
    have HF := Lib.hid hf; clear hf
    go_enter Tryd.func25, Tryd.ntmps25
    go_wp2
    go_ret
    exact ⟨by rw [Int.toNat_natCast, HF.out]; rfl, rfl⟩
  · have hf : ((fig n).toNat : Int) = 87 + n := by unfold fig; rw [if_neg (by omega)]; simp; omega
    have HF := Lib.hid hf; clear hf
    go_enter Tryd.func25, Tryd.ntmps25
    go_wp2
    go_ret
    exact ⟨by rw [HF.out]; exact ret_i (by omega), rfl⟩

theorem implEnc_no (s : ByteArray) (w : World) (hs : 20000 < (s.size : Int)) (hm : (s.size : Int) ≤ 9223372036854775807) :
    Calls Tryd.prog 9 #[.string s] w fun e w' => e = .returned (.tuple #[.string ⟨#[]⟩, .bool false]) ∧ w = w' := by
  go_enter Tryd.func9, Tryd.ntmps9
  go_wp2
  go_ret2
  exact ⟨rfl, rfl⟩

end Go.Proofs.YtgeinpmmghpjcaaDoor
