/-
  EncodeHex of both packages: one text.
-/
import Derived.Test.YtfhgbgcdkiiflaaDoorBytesW
namespace Go.Proofs.YtfhgbgcdkiiflaaDoor
open Go.RowKit

set_option linter.unusedVariables false

open Go.PlainAid

/-- The hexadecimal digit of a number below 16. -/
def fig (x : Nat) : UInt8 := if x < 10 then UInt8.ofNat (48 + x) else UInt8.ofNat (87 + x)

/-- The text of the first k bytes. -/
def hexTo (s : ByteArray) : Nat → List UInt8
  | 0 => []
  | k + 1 => hexTo s k ++ [fig (bt s k / 16).toNat, fig (bt s k % 16).toNat]

theorem hexTo_length (s : ByteArray) : ∀ k, (hexTo s k).length = 2 * k
  | 0 => rfl
  | k + 1 => by simp [hexTo, hexTo_length s k]; omega

theorem u8_and15_bt (s : ByteArray) (k : Nat) : bits .and .u8 (bt s k) 15 = bt s k % 16 := u8_and15 _ (bt_nonneg s k) (by have := bt_le s k; omega)

theorem dig_at (q : Nat) (h : q < 16) : (({ data := #[48, 49, 50, 51, 52, 53, 54, 55, 56, 57, 97, 98, 99, 100, 101, 102] } : ByteArray)[q]'h).toNat = (fig q).toNat :=
  (show ∀ q : Fin 16, (({ data := #[48, 49, 50, 51, 52, 53, 54, 55, 56, 57, 97, 98, 99, 100, 101, 102] } : ByteArray)[q.1]'q.2).toNat = (fig q.1).toNat by decide) ⟨q, h⟩

/-- One round: two bytes more. -/
theorem hex_more {B : Nat} {v : Value} {s : ByteArray} {k : Nat} {x y : Int} {w : World} (h : w.ownsRow B 5 1 v ((hexTo s k).length + 2) (Lib.byteCells (hexTo s k) ++ [.int .u8 x, .int .u8 y]))
    (hx : x = (fig (bt s k / 16).toNat).toNat) (hy : y = (fig (bt s k % 16).toNat).toNat) : OwnB B v (hexTo s (k + 1)) w := by
  subst hx hy
  unfold OwnB
  have e1 : (hexTo s (k + 1)).length = (hexTo s k).length + 2 := by simp [hexTo]
  have e2 : Lib.byteCells (hexTo s (k + 1)) = Lib.byteCells (hexTo s k) ++ [.int .u8 (fig (bt s k / 16).toNat).toNat, .int .u8 (fig (bt s k % 16).toNat).toNat] := by simp [hexTo, Lib.byteCells]
  rw [e1, e2]; exact h

theorem figure_any (x : Int) (h0 : 0 ≤ x) (h1 : x < 16) (w : World) :
    Calls Tryd.prog 49 #[.int .i64 x] w fun e w' => e = .returned (.int .u8 (fig x.toNat).toNat) ∧ w = w' := by
  obtain ⟨n, rfl⟩ := Int.eq_ofNat_of_zero_le h0
  by_cases h : (n : Int) < 10
  · have hf : ((fig n).toNat : Int) = 48 + n := by unfold fig; rw [if_pos (by omega)]; simp; omega
    have HF := Lib.hid hf; clear hf
    go_enter Tryd.func49, Tryd.ntmps49
    go_wp2
    go_ret
    exact ⟨by rw [Int.toNat_natCast, HF.out]; rfl, rfl⟩
  · have hf : ((fig n).toNat : Int) = 87 + n := by unfold fig; rw [if_neg (by omega)]; simp; omega
    have HF := Lib.hid hf; clear hf
    go_enter Tryd.func49, Tryd.ntmps49
    go_wp2
    go_ret
    exact ⟨by rw [HF.out]; exact ret_i (by omega), rfl⟩

end Go.Proofs.YtfhgbgcdkiiflaaDoor
