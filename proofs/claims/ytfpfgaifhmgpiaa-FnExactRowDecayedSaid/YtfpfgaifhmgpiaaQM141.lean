/-
  Texts of one proof, merged: Base, BitsM, GfM, CodM, CodX.
-/
import Derived.Below
import Derived.BigQuiet
import Derived.ChangeOld
import Derived.Deep.QuietTactic
import Derived.Lib.Hide
import Derived.OpenShut
import Derived.ProofKit
import Derived.ShutString
import Derived.SizedLaws
import Derived.Test.YtfpfgaifhmgpiaaRows
import Derived.WalkKit
namespace Go.Proofs.Ytfpfgaifhmgpiaa

open Go.RowKit

theorem ownK : ownKnob Try.prog.godebug = none := by kernel_rfl

theorem laidOutK : laidOutB Try.prog = true := by kernel_rfl

/-- A slice of integers that came in: nil; or a row of 'cap' cells, the numbers 'zs' (the first 'len' are its elements). -/
def IsRow (k : IntKind) (w : World) (a : Option Addr) (len cap : Nat) (zs : List Int) : Prop :=
  (a = none ∧ len = 0 ∧ cap = 0 ∧ zs = []) ∨
  ∃ x, a = some x ∧ len ≤ cap ∧ cap ≤ maxLen ∧ zs.length = cap ∧ (∀ i, i < zs.length → w.cell? (x.add i) = some (.int k (zs.getD i 0))) ∧ ∀ n ∈ zs, (Lit.int k n).wf = true

/-- Two numbers that are one are returned alike. -/
theorem ret_i {k : IntKind} {a b : Int} (h : a = b) : Ending.returned (.int k a) = .returned (.int k b) := by rw [h]

theorem ret_b {a b : Bool} (h : a = b) : Ending.returned (.bool a) = .returned (.bool b) := by rw [h]

/-- Of all blocks that are there, at most block c has turned. -/
structure Only (c : Nat) (w w' : World) : Prop where
  os : w'.os = w.os
  tape : w'.tape = w.tape
  output : w'.output = w.output
  size : w.heap.size ≤ w'.heap.size
  block : ∀ k, k < w.heap.size → k ≠ c → w'.heap[k]? = w.heap[k]?

theorem Only.refl (c : Nat) (w : World) : Only c w w := ⟨rfl, rfl, rfl, Nat.le_refl _, fun _ _ _ => rfl⟩

theorem Only.trans {c : Nat} {a b d : World} (h : Only c a b) (k : Only c b d) : Only c a d :=
  ⟨k.os.trans h.os, k.tape.trans h.tape, k.output.trans h.output, Nat.le_trans h.size k.size, fun i hi hn => (k.block i (Nat.lt_of_lt_of_le hi h.size) hn).trans (h.block i hi hn)⟩

theorem Only.drew {c : Nat} {a w : World} (h : Only c a w) : Only c a w.drew := ⟨h.os, h.tape, h.output, h.size, h.block⟩

theorem Only.drewN {c : Nat} {a w : World} (h : Only c a w) (n : Nat) : Only c a (w.drewN n) := ⟨h.os, h.tape, h.output, h.size, h.block⟩

theorem Only.alloc {c : Nat} {a w : World} (h : Only c a w) (o : Obj) : Only c a (w.alloc o) :=
  h.trans ⟨rfl, rfl, rfl, by simp, fun k hk _ => Below.heap_alloc _ _ _ hk⟩

theorem Only.setCell {c : Nat} {a w : World} (h : Only c a w) {p : Addr} (hp : p.block = c) (u : Value) : Only c a (w.setCell p u) :=
  h.trans ⟨rfl, rfl, rfl, by simp [World.setCell], fun k _ hn => Below.heap_setCell _ _ _ _ (by omega)⟩

theorem Only.below {c B : Nat} {w w' : World} (h : Only c w w') (hB : B ≤ c) (hs : B ≤ w.heap.size) : Below B w w' :=
  ⟨h.os, h.tape, h.output, h.size, fun k hk => h.block k (by omega) (by omega)⟩

theorem made_one (z : Value) (n : Nat) : (madeCells #[z] n).toList = List.replicate n z := by
  apply List.ext_getElem
  · simp [size_madeCells]
  · intro i h1 h2
    simp [madeCells, Nat.mod_one]

end Go.Proofs.Ytfpfgaifhmgpiaa

namespace Go.Proofs.Ytfpfgaifhmgpiaa
open Go.RowKit

theorem ofInt_nat64 (a : Nat) (h : a < 2 ^ 63) : (BitVec.ofInt 64 (a : Int)).toNat = a := by
  rw [BitVec.toNat_ofInt]
  omega

theorem wrap_nat64 (a : Nat) (h : a < 2 ^ 63) : IntKind.i64.wrap (a : Int) = (a : Int) := by
  rw [IntKind.wrap_i64]; omega

theorem i64_xor_nat (a b : Nat) (ha : a < 2 ^ 63) (hb : b < 2 ^ 63) : bits .xor .i64 (a : Int) (b : Int) = ((a ^^^ b : Nat) : Int) := by
  show IntKind.i64.wrap ((BitVec.ofInt 64 (a : Int) ^^^ BitVec.ofInt 64 (b : Int)).toNat : Nat) = _
  rw [BitVec.toNat_xor, ofInt_nat64 a ha, ofInt_nat64 b hb, wrap_nat64 _ (Nat.xor_lt_two_pow ha hb)]

/-- A word. -/
def Wd (x : Int) : Prop := 0 ≤ x ∧ x ≤ 4294967295

instance (x : Int) : Decidable (Wd x) := inferInstanceAs (Decidable (_ ∧ _))

/-- The number of a bit. -/
def Bn (i : Int) : Prop := 0 ≤ i ∧ i ≤ 31

instance (x : Int) : Decidable (Bn x) := inferInstanceAs (Decidable (_ ∧ _))

end Go.Proofs.Ytfpfgaifhmgpiaa

namespace Go.Proofs.Ytfpfgaifhmgpiaa

set_option linter.unusedVariables false

/-- The sum of the shifted factors of the first i bits. -/
def gA (a b : Nat) : Nat → Nat
  | 0 => 0
  | i + 1 => if (b >>> i) &&& 1 = 1 then gA a b i ^^^ (a <<< i) else gA a b i

/-- A bit taken away by the polynomial. -/
def gR (x i : Nat) : Nat := if (x >>> i) &&& 1 = 1 then x ^^^ (19 <<< (i - 4)) else x

/-- The product of two elements. -/
def gm (a b : Nat) : Nat := gR (gR (gR (gA a b 4) 6) 5) 4

/-- A power of an element. -/
def gp (a : Nat) : Nat → Nat
  | 0 => 1
  | n + 1 => gm (gp a n) a

def El (a : Int) : Prop := 0 ≤ a ∧ a ≤ 15

instance (a : Int) : Decidable (El a) := inferInstanceAs (Decidable (_ ∧ _))

def gfAdd (a b : Int) : Int := if El a ∧ El b then ((a.toNat ^^^ b.toNat : Nat) : Int) else -1

theorem gfAdd_nat {a b : Nat} (ha : a < 16) (hb : b < 16) : gfAdd (a : Int) (b : Int) = ((a ^^^ b : Nat) : Int) := by
  unfold gfAdd El
  rw [if_pos (by omega)]
  simp

end Go.Proofs.Ytfpfgaifhmgpiaa

namespace Go.Proofs.Ytfpfgaifhmgpiaa

set_option linter.unusedVariables false

/-- The weight of place i in syndrome j. -/
def cw (j i : Nat) : Nat := gp (gp 2 i) j

def synA (j : Nat) : Nat → List Nat → Nat
  | _, [] => 0
  | i, a :: l => gm a (cw j i) ^^^ synA j (i + 1) l

def syn (j : Nat) (w : List Nat) : Nat := synA j 0 w

/-- The check symbols that take away these syndromes. -/
def ck0 (a b c : Nat) : Nat := gm a 12 ^^^ gm b 5 ^^^ gm c 8

def ck1 (a b c : Nat) : Nat := gm a 5 ^^^ gm b 9 ^^^ gm c 12

def ck2 (a b c : Nat) : Nat := gm a 8 ^^^ gm b 12 ^^^ gm c 4

def enc (d : List Nat) : List Nat :=
  ck0 (synA 0 3 d) (synA 1 3 d) (synA 2 3 d) :: ck1 (synA 0 3 d) (synA 1 3 d) (synA 2 3 d) :: ck2 (synA 0 3 d) (synA 1 3 d) (synA 2 3 d) :: d

def Zero3 (w : List Nat) : Prop := syn 0 w = 0 ∧ syn 1 w = 0 ∧ syn 2 w = 0

instance (w : List Nat) : Decidable (Zero3 w) := inferInstanceAs (Decidable (_ ∧ _))

end Go.Proofs.Ytfpfgaifhmgpiaa

namespace Go.Proofs.Ytfpfgaifhmgpiaa

set_option linter.unusedVariables false

def Els (l : List Int) : Prop := ∀ v ∈ l, El v

instance (l : List Int) : Decidable (Els l) := inferInstanceAs (Decidable (∀ v ∈ l, El v))

/-- So many elements of the field. -/
def SymOk (l : List Int) (n : Int) : Prop := Els l ∧ (l.length : Int) = n

instance (l : List Int) (n : Int) : Decidable (SymOk l n) := inferInstanceAs (Decidable (_ ∧ _))

def nats (l : List Int) : List Nat := l.map Int.toNat

def ints (l : List Nat) : List Int := l.map (fun n : Nat => (n : Int))

theorem el_getD {l : List Int} (h : Els l) {k : Nat} (hk : k < l.length) : El (l.getD k 0) := by
  rw [List.getD_eq_getElem?_getD, List.getElem?_eq_getElem hk]
  exact h _ (List.getElem_mem hk)

/-- The first so many are elements, one more is. -/
theorem els_take {l : List Int} {k : Nat} (hk : k < l.length) (h : Els (l.take k)) (he : El (l.getD k 0)) : Els (l.take (k + 1)) := by
  rw [List.take_succ_eq_append_getElem hk]
  intro v hv
  rcases List.mem_append.mp hv with h1 | h1
  · exact h v h1
  · rw [List.mem_singleton.mp h1]
    rwa [List.getD_eq_getElem?_getD, List.getElem?_eq_getElem hk] at he

def goodW (w : List Int) : Prop := SymOk w 11 ∧ Zero3 (nats w)

instance (w : List Int) : Decidable (goodW w) := inferInstanceAs (Decidable (_ ∧ _))

end Go.Proofs.Ytfpfgaifhmgpiaa
