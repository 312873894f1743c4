/-
  Texts of one proof, merged: BytesW, HexW, LinM.
-/
import Derived.Test.YtpddinflkkcodaaDoorQM131
import Derived.Test.YtpddinflkkcodaaDoorQM132
import Derived.BigQuiet
import Derived.Deep.AppendLies
import Derived.Deep.QuietTactic
import Derived.Deep.RegionHeld3
import Derived.Deep.RegionLaw
import Derived.Laws.IdiomStrings
import Derived.Lib.UnsafeStr
import Derived.PlainAid
import Derived.WalkLawsBesides
namespace Go.Proofs.YtpddinflkkcodaaDoor
open Go.RowKit

set_option linter.unusedVariables false

theorem infoB : (Tryd.prog.info? 5).map (fun i => (i.zero, i.size, i.bytes)) = some (some (.int .u8 0), 1, 1) := by kernel_rfl

/-- A row of the call's own that holds the bytes l. -/
def OwnB (B : Nat) (v : Value) (l : List UInt8) (w : World) : Prop := w.ownsRow B 5 1 v l.length (Lib.byteCells l)

/-- 'string(v)' of such a row. -/
theorem OwnB.conv {B : Nat} {v : Value} {l : List UInt8} {w : World} (h : OwnB B v l w) :
    (convert 22 9 v).run Tryd.prog w = .ok (.string ⟨l.toArray⟩) w := by
  rcases h.2 with ⟨rfl, h0⟩ | ⟨g, cap, cur, rfl, _⟩
  · obtain rfl : l = [] := List.eq_nil_of_length_eq_zero h0
    rw [run_convert_bytes_string w 22 9 5 none 0 0 Tryd.underlying22 Tryd.underlying5 Tryd.underlying9]; rfl
  · exact run_convert_bytes_back (P := Tryd.prog) w 22 9 5 ⟨g, 0, none⟩ cap l Tryd.underlying22 Tryd.underlying5 Tryd.underlying9 (fun j hj => World.ownsRow.cells h (g := g) rfl j _ (by simp [Lib.byteCells, hj]))

end Go.Proofs.YtpddinflkkcodaaDoor

namespace Go.Proofs.YtpddinflkkcodaaDoor
open Go.RowKit

set_option linter.unusedVariables false

open Go.PlainAid

/-- The hexadecimal digit of a number below 16. -/
def fig (x : Nat) : UInt8 := if x < 10 then UInt8.ofNat (48 + x) else UInt8.ofNat (87 + x)

end Go.Proofs.YtpddinflkkcodaaDoor

namespace Go.Proofs.YtpddinflkkcodaaDoor

open Go.RowKit Go.PlainAid

set_option linter.unusedVariables false

/-- The first n groups of four bits of x. -/
def grp (x : Nat) (n : Nat) : List Nat := (List.range n).map (fun i => x / 16 ^ i % 16)

theorem grp_length (x n : Nat) : (grp x n).length = n := by unfold grp; simp

theorem grp_succ (x n : Nat) : grp x (n + 1) = grp x n ++ [x / 16 ^ n % 16] := by
  unfold grp
  rw [List.range_succ, List.map_append]
  rfl

theorem grp_lt (x n : Nat) : Lt16 (grp x n) := by
  intro v hv
  unfold grp at hv
  obtain ⟨i, _, rfl⟩ := List.mem_map.mp hv
  exact Nat.mod_lt _ (by decide)

/-- The number whose groups these are. -/
def wordN : List Nat → Nat
  | [] => 0
  | a :: r => a + 16 * wordN r

theorem wordN_snoc (b : Nat) : ∀ l : List Nat, wordN (l ++ [b]) = wordN l + 16 ^ l.length * b
  | [] => by simp [wordN]
  | a :: l => by
    show a + 16 * wordN (l ++ [b]) = a + 16 * wordN l + 16 ^ (l.length + 1) * b
    rw [wordN_snoc b l, Nat.mul_add, Nat.pow_succ, ← Nat.mul_assoc, Nat.mul_comm (16 ^ l.length) 16]
    omega

theorem wordN_lt : ∀ l : List Nat, Lt16 l → wordN l < 16 ^ l.length
  | [], _ => by simp [wordN]
  | a :: l, h => by
    have h1 := wordN_lt l (fun v hv => h v (List.mem_cons_of_mem _ hv))
    have h2 := h a (List.mem_cons_self ..)
    show a + 16 * wordN l < 16 ^ (l.length + 1)
    rw [Nat.pow_succ]
    omega

theorem wordN_grp (x : Nat) : ∀ n, wordN (grp x n) = x % 16 ^ n
  | 0 => by simp [grp, wordN, Nat.mod_one]
  | n + 1 => by
    rw [grp_succ, wordN_snoc, wordN_grp x n, grp_length, Nat.pow_succ, Nat.mod_mul]

theorem wordN_take {u : List Nat} {k : Nat} (hk : k < u.length) : wordN (u.take (k + 1)) = wordN (u.take k) + 16 ^ k * u.getD k 0 := by
  rw [List.take_succ_eq_append_getElem hk, wordN_snoc, List.length_take, Nat.min_eq_left (by omega), List.getD_eq_getElem?_getD, List.getElem?_eq_getElem hk]
  rfl

/-- A word's symbols. -/
def symW (x : Int) : List Int := if Wd x then ints (grp x.toNat 8) else []

/-- The word of eight symbols. -/
def wordS (l : List Int) : Int × Bool := if SymOk l 8 then (((wordN (nats l) : Nat) : Int), true) else (0, false)

/-- What is read of a line: the word, the code, the place. -/
def decW (l : List Int) : Int × Int × Int := if (corW l).2.1 = 2 then (0, 2, (corW l).2.2) else ((wordS (dataI (corW l).1)).1, (corW l).2.1, (corW l).2.2)

theorem symW_no {x : Int} (h : ¬ Wd x) : symW x = [] := if_neg h

theorem symW_nat {x : Nat} (h : Wd (x : Int)) : symW (x : Int) = ints (grp x 8) := by
  unfold symW
  rw [if_pos h, Int.toNat_natCast]

theorem symW_len {x : Int} (h : Wd x) : (symW x).length = 8 := by
  unfold symW
  rw [if_pos h, ints_length, grp_length]

theorem symW_els {x : Int} (h : Wd x) : Els (symW x) := by
  unfold symW
  rw [if_pos h]
  exact els_ints (grp_lt _ _)

theorem symW_le (x : Int) : (symW x).length ≤ 8 := by
  by_cases h : Wd x
  · rw [symW_len h]; exact Nat.le_refl _
  · rw [symW_no h]; exact Nat.zero_le _

theorem wordS_symW {x : Int} (h : Wd x) : wordS (symW x) = (x, true) := by
  unfold wordS
  rw [if_pos ⟨symW_els h, by rw [symW_len h]; rfl⟩]
  unfold symW
  rw [if_pos h, nats_ints, wordN_grp]
  unfold Wd at h
  rw [Nat.mod_eq_of_lt (by omega)]
  rw [Int.toNat_of_nonneg h.1]

/-- The groups that a loop over the bits of x appends. -/
theorem grp_step (x k : Nat) : ints (grp x k) ++ [((x / 16 ^ k % 16 : Nat) : Int)] = ints (grp x (k + 1)) := by
  rw [grp_succ]
  unfold ints
  rw [List.map_append]
  rfl

theorem or_step {a b k : Nat} (ha : a < 16 ^ k) : a ||| (b <<< (4 * k)) = a + 16 ^ k * b := by
  have h : a < 2 ^ (4 * k) := by rwa [Nat.pow_mul]
  rw [Nat.or_comm, ← Nat.shiftLeft_add_eq_or_of_lt h, Nat.shiftLeft_eq, Nat.pow_mul]
  have : (2 : Nat) ^ 4 = 16 := by decide
  rw [this, Nat.mul_comm b, Nat.add_comm]

/-- The line of a word, one symbol of which is set to any element. -/
theorem line_any {x : Int} (hx : Wd x) {k v : Nat} (hk : k < 11) (hv : v < 16) :
    ∃ c at' : Int, decW ((cwI (symW x)).set k (v : Int)) = (x, c, at') ∧ (c = 0 ∨ c = 1) := by
  have hl := symW_len hx
  have he := symW_els hx
  obtain ⟨y, hy, h1, h2⟩ := cd_at hl he hk
  by_cases hyv : v = y
  · subst hyv
    have e : (cwI (symW x)).set k (v : Int) = cwI (symW x) := by
      rw [← h1]
      apply List.ext_getElem (by simp)
      intro i h3 h4
      rw [List.getElem_set]
      split
      · rename_i h; subst h
        rw [List.getD_eq_getElem?_getD, List.getElem?_eq_getElem h4]
        rfl
      · rfl
    refine ⟨0, -1, ?_, .inl rfl⟩
    rw [e]
    unfold decW
    rw [cd_cor hl he]
    show (if (0 : Int) = 2 then _ else _) = _
    rw [if_neg (by decide), cd_data hl he, wordS_symW hx]
  · have hx16 : y ^^^ v < 16 := xor_lt hy hv
    have hne : y ^^^ v ≠ 0 := fun h => hyv (eq_of_xor h).symm
    obtain ⟨y2, hy2, h3, h4⟩ := cd_one hl he hk (x := (y ^^^ v) - 1) (by omega)
    have e1 : y2 = y := by rw [h1] at h3; omega
    subst e1
    have e2 : y2 ^^^ (1 + ((y2 ^^^ v) - 1)) = v := by
      rw [show 1 + ((y2 ^^^ v) - 1) = y2 ^^^ v by omega, ← Nat.xor_assoc, Nat.xor_self, Nat.zero_xor]
    rw [e2] at h4
    refine ⟨1, (k : Int), ?_, .inr rfl⟩
    unfold decW
    rw [h4]
    show (if (1 : Int) = 2 then _ else _) = _
    rw [if_neg (by decide), cd_data hl he, wordS_symW hx]

theorem line_els {x : Int} (hx : Wd x) {k v : Nat} (hv : v < 16) : SymOk ((cwI (symW x)).set k (v : Int)) 11 := by
  refine ⟨fun z hz => ?_, by rw [List.length_set, cd_length (symW_len hx)]; rfl⟩
  rcases List.mem_or_eq_of_mem_set hz with h | rfl
  · exact cd_els (symW_els hx) z h
  · exact ⟨by omega, by omega⟩

/-- A hexadecimal digit for each symbol. -/
def lineT (l : List Int) : ByteArray := if SymOk l 11 then ⟨((nats l).map fig).toArray⟩ else ⟨#[]⟩

theorem wordS_yes {l : List Int} (h : SymOk l 8) : wordS l = (((wordN (nats l) : Nat) : Int), true) := if_pos h

theorem take_lt {u : List Nat} (hu : Lt16 u) (k : Nat) : Lt16 (u.take k) := fun v hv => hu v (List.mem_of_mem_take hv)

/-- One more group. -/
theorem word_step {u : List Nat} (hu : Lt16 u) {k : Nat} (hk : k < u.length) : wordN (u.take k) ||| (u.getD k 0 <<< (4 * k)) = wordN (u.take (k + 1)) := by
  have h := wordN_lt (u.take k) (take_lt hu k)
  rw [List.length_take, Nat.min_eq_left (by omega)] at h
  rw [or_step h, wordN_take hk]

theorem word_lt {u : List Nat} (hu : Lt16 u) {k : Nat} (hk : k ≤ 8) : wordN (u.take k) < 4294967296 := by
  have h := wordN_lt (u.take k) (take_lt hu k)
  have h1 : (16 : Nat) ^ (u.take k).length ≤ 16 ^ 8 := Nat.pow_le_pow_right (by decide) (by rw [List.length_take]; omega)
  have h2 : (16 : Nat) ^ 8 = 4294967296 := by decide
  omega

theorem shl_lt {b k : Nat} (hb : b < 16) (hk : k < 8) : b <<< (4 * k) < 4294967296 := by
  rw [Nat.shiftLeft_eq]
  have h1 : (2 : Nat) ^ (4 * k) ≤ 2 ^ 28 := Nat.pow_le_pow_right (by decide) (by omega)
  have h2 : (2 : Nat) ^ 28 = 268435456 := by decide
  have h3 : b * 2 ^ (4 * k) ≤ 15 * 2 ^ 28 := Nat.mul_le_mul (by omega) h1
  omega

end Go.Proofs.YtpddinflkkcodaaDoor
