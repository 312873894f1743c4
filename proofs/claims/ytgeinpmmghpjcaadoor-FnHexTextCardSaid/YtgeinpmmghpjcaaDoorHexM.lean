/-
  What EncodeHex writes, DecodeHex reads back: plain lists of bytes.
-/
import Derived.Test.YtgeinpmmghpjcaaDoorHexW
import Derived.Test.YtgeinpmmghpjcaaDoorDecW
import Derived.Lib.Strings
namespace Go.Proofs.YtgeinpmmghpjcaaDoor
open Go.RowKit Go.PlainAid
set_option linter.unusedVariables false

theorem valF_fig : ∀ q : Fin 16, valF ((fig q.1).toNat : Int) = q.1 := by decide

theorem valF_figI {x : Int} (h0 : 0 ≤ x) (h1 : x < 16) : valF ((fig x.toNat).toNat : Int) = x := by
  obtain ⟨n, rfl⟩ := Int.eq_ofNat_of_zero_le h0
  rw [Int.toNat_natCast]
  exact valF_fig ⟨n, by omega⟩

theorem hexTo_get (s : ByteArray) : ∀ n k, k < n → (hexTo s n)[2 * k]? = some (fig (bt s k / 16).toNat) ∧ (hexTo s n)[2 * k + 1]? = some (fig (bt s k % 16).toNat)
  | 0, k, h => by omega
  | n + 1, k, h => by
    have hl := hexTo_length s n
    simp only [hexTo]
    by_cases e : k = n
    · subst e
      rw [List.getElem?_append_right (by omega), List.getElem?_append_right (by omega), hl, Nat.sub_self, show 2 * k + 1 - 2 * k = 1 by omega]
      exact ⟨rfl, rfl⟩
    · rw [List.getElem?_append_left (by omega), List.getElem?_append_left (by omega)]
      exact hexTo_get s n k (by omega)

/-- The text that EncodeHex gives. -/
def hexS (s : ByteArray) : ByteArray := ⟨(hexTo s s.size).toArray⟩

theorem hexS_size (s : ByteArray) : (hexS s).size = 2 * s.size := by rw [Lib.size_eq]; exact hexTo_length s s.size

theorem bt_of_list {s : ByteArray} {k : Nat} {b : UInt8} (h : s.data.toList[k]? = some b) : bt s k = (b.toNat : Int) := by
  have hk : k < s.data.toList.length := (List.getElem?_eq_some_iff.1 h).1
  have hk' : k < s.size := by rw [Lib.size_eq]; exact hk
  have e : s.data.toList[k] = b := (List.getElem?_eq_some_iff.1 h).2
  unfold bt
  rw [dif_pos hk', ← e]; rfl

theorem list_of_bt {s : ByteArray} {k : Nat} (hk : k < s.size) : s.data.toList[k]? = some (UInt8.ofNat (bt s k).toNat) := by
  have hl : k < s.data.toList.length := by rw [← Lib.size_eq]; exact hk
  rw [List.getElem?_eq_getElem hl]
  unfold bt
  rw [dif_pos hk]
  have e : s.data.toList[k] = s[k] := rfl
  rw [e]; simp

theorem dec_hex (s : ByteArray) : ∀ k, k ≤ s.size → decTo (hexS s) k = some (s.data.toList.take k)
  | 0, _ => rfl
  | k + 1, h => by
    have ih := dec_hex s k (by omega)
    obtain ⟨g0, g1⟩ := hexTo_get s s.size k (by omega)
    have b0 := bt_nonneg s k
    have b1 := bt_le s k
    have e0 : bt (hexS s) (2 * k) = _ := bt_of_list g0
    have e1 : bt (hexS s) (2 * k + 1) = _ := bt_of_list g1
    have v0 : valF (bt (hexS s) (2 * k)) = bt s k / 16 := by rw [e0]; exact valF_figI (by omega) (by omega)
    have v1 : valF (bt (hexS s) (2 * k + 1)) = bt s k % 16 := by rw [e1]; exact valF_figI (by omega) (by omega)
    rw [decTo_yes ih (by omega) (by omega), v0, v1, List.take_add_one, list_of_bt (by omega)]
    rw [show 16 * (bt s k / 16) + bt s k % 16 = bt s k by omega]
    rfl

theorem dec_hexS (s : ByteArray) : decV (hexS s) = .tuple #[.string s, .bool true] := by
  have h : decTo (hexS s) ((hexS s).size / 2) = some s.data.toList := by
    rw [hexS_size, show 2 * s.size / 2 = s.size by omega, dec_hex s s.size (Nat.le_refl _), List.take_of_length_le (by rw [← Lib.size_eq]; exact Nat.le_refl _)]
  rw [decV_some h]

end Go.Proofs.YtgeinpmmghpjcaaDoor
