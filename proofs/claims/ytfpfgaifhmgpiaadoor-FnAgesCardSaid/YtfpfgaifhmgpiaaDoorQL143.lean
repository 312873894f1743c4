/-
  Texts of one proof, merged: BytesW, LinM.
-/
import Derived.Test.YtfpfgaifhmgpiaaDoorQL141
import Derived.Test.YtfpfgaifhmgpiaaDoorQL142
import Derived.BigQuiet
import Derived.Deep.AppendLies
import Derived.Deep.QuietTactic
import Derived.Deep.RegionHeld3
import Derived.Deep.RegionLaw
import Derived.Laws.IdiomStrings
import Derived.Lib.UnsafeStr
import Derived.PlainAid
import Derived.WalkLawsBesides
namespace Go.Proofs.YtfpfgaifhmgpiaaDoor
open Go.RowKit

set_option linter.unusedVariables false

/-- A row of the call's own that holds the bytes l. -/
def OwnB (B : Nat) (v : Value) (l : List UInt8) (w : World) : Prop := w.ownsRow B 5 1 v l.length (Lib.byteCells l)

/-- 'string(v)' of such a row. -/
theorem OwnB.conv {B : Nat} {v : Value} {l : List UInt8} {w : World} (h : OwnB B v l w) :
    (convert 22 9 v).run Tryd.prog w = .ok (.string ⟨l.toArray⟩) w := by
  rcases h.2 with ⟨rfl, h0⟩ | ⟨g, cap, cur, rfl, _⟩
  · obtain rfl : l = [] := List.eq_nil_of_length_eq_zero h0
    rw [run_convert_bytes_string w 22 9 5 none 0 0 Tryd.underlying22 Tryd.underlying5 Tryd.underlying9]; rfl
  · exact run_convert_bytes_back (P := Tryd.prog) w 22 9 5 ⟨g, 0, none⟩ cap l Tryd.underlying22 Tryd.underlying5 Tryd.underlying9 (fun j hj => World.ownsRow.cells h (g := g) rfl j _ (by simp [Lib.byteCells, hj]))

end Go.Proofs.YtfpfgaifhmgpiaaDoor

namespace Go.Proofs.YtfpfgaifhmgpiaaDoor

open Go.RowKit Go.PlainAid

set_option linter.unusedVariables false

/-- The number whose groups these are. -/
def wordN : List Nat → Nat
  | [] => 0
  | a :: r => a + 16 * wordN r

theorem wordN_snoc (b : Nat) : ∀ l : List Nat, wordN (l ++ [b]) = wordN l + 16 ^ l.length * b
  | [] => by simp [wordN]
  | a :: l => by
    show a + 16 * wordN (l ++ [b]) = a + 16 * wordN l + 16 ^ (l.length + 1) * b
    rw [wordN_snoc b l, Nat.mul_add, Nat.pow_succ, ← Nat.mul_assoc, Nat.mul_comm (16 ^ l.length) 16]
    omega

theorem wordN_lt : ∀ l : List Nat, Lt16 l → wordN l < 16 ^ l.length
  | [], _ => by simp [wordN]
  | a :: l, h => by
    have h1 := wordN_lt l (fun v hv => h v (List.mem_cons_of_mem _ hv))
    have h2 := h a (List.mem_cons_self ..)
    show a + 16 * wordN l < 16 ^ (l.length + 1)
    rw [Nat.pow_succ]
    omega

theorem wordN_take {u : List Nat} {k : Nat} (hk : k < u.length) : wordN (u.take (k + 1)) = wordN (u.take k) + 16 ^ k * u.getD k 0 := by
  rw [List.take_succ_eq_append_getElem hk, wordN_snoc, List.length_take, Nat.min_eq_left (by omega), List.getD_eq_getElem?_getD, List.getElem?_eq_getElem hk]
  rfl

/-- The word of eight symbols. -/
def wordS (l : List Int) : Int × Bool := if SymOk l 8 then (((wordN (nats l) : Nat) : Int), true) else (0, false)

/-- What is read of a line: the word, the code, the place. -/
def decW (l : List Int) : Int × Int × Int := if (corW l).2.1 = 2 then (0, 2, (corW l).2.2) else ((wordS (dataI (corW l).1)).1, (corW l).2.1, (corW l).2.2)

theorem or_step {a b k : Nat} (ha : a < 16 ^ k) : a ||| (b <<< (4 * k)) = a + 16 ^ k * b := by
  have h : a < 2 ^ (4 * k) := by rwa [Nat.pow_mul]
  rw [Nat.or_comm, ← Nat.shiftLeft_add_eq_or_of_lt h, Nat.shiftLeft_eq, Nat.pow_mul]
  have : (2 : Nat) ^ 4 = 16 := by decide
  rw [this, Nat.mul_comm b, Nat.add_comm]

theorem wordS_no {l : List Int} (h : ¬ SymOk l 8) : wordS l = (0, false) := if_neg h

theorem wordS_yes {l : List Int} (h : SymOk l 8) : wordS l = (((wordN (nats l) : Nat) : Int), true) := if_pos h

theorem take_lt {u : List Nat} (hu : Lt16 u) (k : Nat) : Lt16 (u.take k) := fun v hv => hu v (List.mem_of_mem_take hv)

/-- One more group. -/
theorem word_step {u : List Nat} (hu : Lt16 u) {k : Nat} (hk : k < u.length) : wordN (u.take k) ||| (u.getD k 0 <<< (4 * k)) = wordN (u.take (k + 1)) := by
  have h := wordN_lt (u.take k) (take_lt hu k)
  rw [List.length_take, Nat.min_eq_left (by omega)] at h
  rw [or_step h, wordN_take hk]

theorem word_lt {u : List Nat} (hu : Lt16 u) {k : Nat} (hk : k ≤ 8) : wordN (u.take k) < 4294967296 := by
  have h := wordN_lt (u.take k) (take_lt hu k)
  have h1 : (16 : Nat) ^ (u.take k).length ≤ 16 ^ 8 := Nat.pow_le_pow_right (by decide) (by rw [List.length_take]; omega)
  have h2 : (16 : Nat) ^ 8 = 4294967296 := by decide
  omega

theorem shl_lt {b k : Nat} (hb : b < 16) (hk : k < 8) : b <<< (4 * k) < 4294967296 := by
  rw [Nat.shiftLeft_eq]
  have h1 : (2 : Nat) ^ (4 * k) ≤ 2 ^ 28 := Nat.pow_le_pow_right (by decide) (by omega)
  have h2 : (2 : Nat) ^ 28 = 268435456 := by decide
  have h3 : b * 2 ^ (4 * k) ≤ 15 * 2 ^ 28 := Nat.mul_le_mul (by omega) h1
  omega

end Go.Proofs.YtfpfgaifhmgpiaaDoor
