/-
  Texts of one proof, merged: Base, BitsM, GfM, CodM, CodX, CodE, GfP, CodP.
-/
import Derived.Below
import Derived.BigQuiet
import Derived.ChangeOld
import Derived.Deep.QuietTactic
import Derived.Lib.Hide
import Derived.OpenShut
import Derived.ProofKit
import Derived.ShutString
import Derived.SizedLaws
import Derived.Test.YtfpfgaifhmgpiaaDoorRows
import Derived.WalkKit
namespace Go.Proofs.YtfpfgaifhmgpiaaDoor

open Go.RowKit

theorem ownK : ownKnob Tryd.prog.godebug = none := by kernel_rfl

theorem laidOutK : laidOutB Tryd.prog = true := by kernel_rfl

/-- A slice of integers that came in: nil; or a row of 'cap' cells, the numbers 'zs' (the first 'len' are its elements). -/
def IsRow (k : IntKind) (w : World) (a : Option Addr) (len cap : Nat) (zs : List Int) : Prop :=
  (a = none ∧ len = 0 ∧ cap = 0 ∧ zs = []) ∨
  ∃ x, a = some x ∧ len ≤ cap ∧ cap ≤ maxLen ∧ zs.length = cap ∧ (∀ i, i < zs.length → w.cell? (x.add i) = some (.int k (zs.getD i 0))) ∧ ∀ n ∈ zs, (Lit.int k n).wf = true

/-- Two numbers that are one are returned alike. -/
theorem ret_i {k : IntKind} {a b : Int} (h : a = b) : Ending.returned (.int k a) = .returned (.int k b) := by rw [h]

theorem ret_b {a b : Bool} (h : a = b) : Ending.returned (.bool a) = .returned (.bool b) := by rw [h]

theorem i64_and255 (n : Int) : bits .and .i64 n 255 = n % 256 := by
  have h127 : (BitVec.ofInt 64 255).toNat = 2 ^ 8 - 1 := by decide
  have key : (BitVec.ofInt 64 n &&& BitVec.ofInt 64 255).toNat = (n % ((2 ^ 64 : Nat) : Int)).toNat % 2 ^ 8 := by
    rw [BitVec.toNat_and, BitVec.toNat_ofInt, h127, Nat.and_two_pow_sub_one_eq_mod]
  show IntKind.i64.wrap ((BitVec.ofInt 64 n &&& BitVec.ofInt 64 255).toNat : Nat) = n % 256
  rw [key, IntKind.wrap_i64]
  omega

/-- Of all blocks that are there, at most block c has turned. -/
structure Only (c : Nat) (w w' : World) : Prop where
  os : w'.os = w.os
  tape : w'.tape = w.tape
  output : w'.output = w.output
  size : w.heap.size ≤ w'.heap.size
  block : ∀ k, k < w.heap.size → k ≠ c → w'.heap[k]? = w.heap[k]?

theorem Only.refl (c : Nat) (w : World) : Only c w w := ⟨rfl, rfl, rfl, Nat.le_refl _, fun _ _ _ => rfl⟩

theorem Only.trans {c : Nat} {a b d : World} (h : Only c a b) (k : Only c b d) : Only c a d :=
  ⟨k.os.trans h.os, k.tape.trans h.tape, k.output.trans h.output, Nat.le_trans h.size k.size, fun i hi hn => (k.block i (Nat.lt_of_lt_of_le hi h.size) hn).trans (h.block i hi hn)⟩

theorem Only.trans' {c : Nat} {a b d : World} (h : Only c a b) (k : d.os = b.os ∧ d.tape = b.tape ∧ d.output = b.output ∧ b.heap.size ≤ d.heap.size) (hb : ∀ i, i < a.heap.size → i ≠ c → d.heap[i]? = b.heap[i]?) : Only c a d :=
  ⟨k.1.trans h.os, k.2.1.trans h.tape, k.2.2.1.trans h.output, Nat.le_trans h.size k.2.2.2, fun i hi hn => (hb i hi hn).trans (h.block i hi hn)⟩

theorem Only.drew {c : Nat} {a w : World} (h : Only c a w) : Only c a w.drew := ⟨h.os, h.tape, h.output, h.size, h.block⟩

theorem Only.drewN {c : Nat} {a w : World} (h : Only c a w) (n : Nat) : Only c a (w.drewN n) := ⟨h.os, h.tape, h.output, h.size, h.block⟩

theorem Only.alloc {c : Nat} {a w : World} (h : Only c a w) (o : Obj) : Only c a (w.alloc o) :=
  h.trans ⟨rfl, rfl, rfl, by simp, fun k hk _ => Below.heap_alloc _ _ _ hk⟩

theorem Only.setCell {c : Nat} {a w : World} (h : Only c a w) {p : Addr} (hp : p.block = c) (u : Value) : Only c a (w.setCell p u) :=
  h.trans ⟨rfl, rfl, rfl, by simp [World.setCell], fun k _ hn => Below.heap_setCell _ _ _ _ (by omega)⟩

theorem Only.below {c B : Nat} {w w' : World} (h : Only c w w') (hB : B ≤ c) (hs : B ≤ w.heap.size) : Below B w w' :=
  ⟨h.os, h.tape, h.output, h.size, fun k hk => h.block k (by omega) (by omega)⟩

theorem made_one (z : Value) (n : Nat) : (madeCells #[z] n).toList = List.replicate n z := by
  apply List.ext_getElem
  · simp [size_madeCells]
  · intro i h1 h2
    simp [madeCells, Nat.mod_one]

end Go.Proofs.YtfpfgaifhmgpiaaDoor

namespace Go.Proofs.YtfpfgaifhmgpiaaDoor
open Go.RowKit

theorem ofInt_nat64 (a : Nat) (h : a < 2 ^ 63) : (BitVec.ofInt 64 (a : Int)).toNat = a := by
  rw [BitVec.toNat_ofInt]
  omega

theorem wrap_nat64 (a : Nat) (h : a < 2 ^ 63) : IntKind.i64.wrap (a : Int) = (a : Int) := by
  rw [IntKind.wrap_i64]; omega

theorem i64_and_nat (a b : Nat) (ha : a < 2 ^ 63) (hb : b < 2 ^ 63) : bits .and .i64 (a : Int) (b : Int) = ((a &&& b : Nat) : Int) := by
  show IntKind.i64.wrap ((BitVec.ofInt 64 (a : Int) &&& BitVec.ofInt 64 (b : Int)).toNat : Nat) = _
  rw [BitVec.toNat_and, ofInt_nat64 a ha, ofInt_nat64 b hb, wrap_nat64 _ (Nat.and_lt_two_pow _ hb)]

theorem i64_or_nat (a b : Nat) (ha : a < 2 ^ 63) (hb : b < 2 ^ 63) : bits .or .i64 (a : Int) (b : Int) = ((a ||| b : Nat) : Int) := by
  show IntKind.i64.wrap ((BitVec.ofInt 64 (a : Int) ||| BitVec.ofInt 64 (b : Int)).toNat : Nat) = _
  rw [BitVec.toNat_or, ofInt_nat64 a ha, ofInt_nat64 b hb, wrap_nat64 _ (Nat.or_lt_two_pow ha hb)]

theorem i64_xor_nat (a b : Nat) (ha : a < 2 ^ 63) (hb : b < 2 ^ 63) : bits .xor .i64 (a : Int) (b : Int) = ((a ^^^ b : Nat) : Int) := by
  show IntKind.i64.wrap ((BitVec.ofInt 64 (a : Int) ^^^ BitVec.ofInt 64 (b : Int)).toNat : Nat) = _
  rw [BitVec.toNat_xor, ofInt_nat64 a ha, ofInt_nat64 b hb, wrap_nat64 _ (Nat.xor_lt_two_pow ha hb)]

/-- A word. -/
def Wd (x : Int) : Prop := 0 ≤ x ∧ x ≤ 4294967295

instance (x : Int) : Decidable (Wd x) := inferInstanceAs (Decidable (_ ∧ _))

/-- The number of a bit. -/
def Bn (i : Int) : Prop := 0 ≤ i ∧ i ≤ 31

instance (x : Int) : Decidable (Bn x) := inferInstanceAs (Decidable (_ ∧ _))

end Go.Proofs.YtfpfgaifhmgpiaaDoor

namespace Go.Proofs.YtfpfgaifhmgpiaaDoor

set_option linter.unusedVariables false

/-- The sum of the shifted factors of the first i bits. -/
def gA (a b : Nat) : Nat → Nat
  | 0 => 0
  | i + 1 => if (b >>> i) &&& 1 = 1 then gA a b i ^^^ (a <<< i) else gA a b i

/-- A bit taken away by the polynomial. -/
def gR (x i : Nat) : Nat := if (x >>> i) &&& 1 = 1 then x ^^^ (19 <<< (i - 4)) else x

/-- The product of two elements. -/
def gm (a b : Nat) : Nat := gR (gR (gR (gA a b 4) 6) 5) 4

/-- A power of an element. -/
def gp (a : Nat) : Nat → Nat
  | 0 => 1
  | n + 1 => gm (gp a n) a

theorem gm_two : ∀ a b : Fin 16, gm a.1 b.1 < 16 ∧ gm a.1 b.1 = gm b.1 a.1 ∧ gm a.1 1 = a.1 := by decide +kernel

theorem gm_three : ∀ a b c : Fin 16, gm a.1 (b.1 ^^^ c.1) = (gm a.1 b.1) ^^^ (gm a.1 c.1) ∧ gm (gm a.1 b.1) c.1 = gm a.1 (gm b.1 c.1) := by decide +kernel

theorem xor_lt {a b : Nat} (ha : a < 16) (hb : b < 16) : a ^^^ b < 16 := Nat.xor_lt_two_pow (n := 4) ha hb

theorem gm_lt {a b : Nat} (ha : a < 16) (hb : b < 16) : gm a b < 16 := (gm_two ⟨a, ha⟩ ⟨b, hb⟩).1

theorem gm_comm {a b : Nat} (ha : a < 16) (hb : b < 16) : gm a b = gm b a := (gm_two ⟨a, ha⟩ ⟨b, hb⟩).2.1

theorem gm_one {a : Nat} (ha : a < 16) : gm a 1 = a := (gm_two ⟨a, ha⟩ ⟨a, ha⟩).2.2

theorem gm_xor {a b c : Nat} (ha : a < 16) (hb : b < 16) (hc : c < 16) : gm a (b ^^^ c) = (gm a b) ^^^ (gm a c) := (gm_three ⟨a, ha⟩ ⟨b, hb⟩ ⟨c, hc⟩).1

theorem gp_lt {a : Nat} (ha : a < 16) : ∀ n, gp a n < 16
  | 0 => by unfold gp; decide
  | n + 1 => gm_lt (gp_lt ha n) ha

def El (a : Int) : Prop := 0 ≤ a ∧ a ≤ 15

instance (a : Int) : Decidable (El a) := inferInstanceAs (Decidable (_ ∧ _))

def gfAdd (a b : Int) : Int := if El a ∧ El b then ((a.toNat ^^^ b.toNat : Nat) : Int) else -1

def gfMul (a b : Int) : Int := if El a ∧ El b then ((gm a.toNat b.toNat : Nat) : Int) else -1

def gfPow (a n : Int) : Int := if El a ∧ 0 ≤ n ∧ n ≤ 1000 then ((gp a.toNat n.toNat : Nat) : Int) else -1

/-- The first number from lo on, of so many, for which p holds. -/
def fnd (p : Int → Bool) (lo : Int) : Nat → Int
  | 0 => -1
  | k + 1 => if p lo = true then lo else fnd p (lo + 1) k

theorem gfMul_nat {a b : Nat} (ha : a < 16) (hb : b < 16) : gfMul (a : Int) (b : Int) = ((gm a b : Nat) : Int) := by
  unfold gfMul El
  rw [if_pos (by omega)]
  simp

theorem gfAdd_nat {a b : Nat} (ha : a < 16) (hb : b < 16) : gfAdd (a : Int) (b : Int) = ((a ^^^ b : Nat) : Int) := by
  unfold gfAdd El
  rw [if_pos (by omega)]
  simp

theorem gfPow_nat {a n : Nat} (ha : a < 16) (hn : n ≤ 1000) : gfPow (a : Int) (n : Int) = ((gp a n : Nat) : Int) := by
  unfold gfPow El
  rw [if_pos (by omega)]
  simp

end Go.Proofs.YtfpfgaifhmgpiaaDoor

namespace Go.Proofs.YtfpfgaifhmgpiaaDoor

set_option linter.unusedVariables false

/-- The weight of place i in syndrome j. -/
def cw (j i : Nat) : Nat := gp (gp 2 i) j

def synA (j : Nat) : Nat → List Nat → Nat
  | _, [] => 0
  | i, a :: l => gm a (cw j i) ^^^ synA j (i + 1) l

def syn (j : Nat) (w : List Nat) : Nat := synA j 0 w

def Lt16 (l : List Nat) : Prop := ∀ v ∈ l, v < 16

theorem cw_lt (j i : Nat) : cw j i < 16 := gp_lt (gp_lt (by omega) i) j

theorem xor_gm {a b c : Nat} (ha : a < 16) (hb : b < 16) (hc : c < 16) : gm (a ^^^ b) c = (gm a c) ^^^ (gm b c) := by
  rw [gm_comm (xor_lt ha hb) hc, gm_xor hc ha hb, gm_comm hc ha, gm_comm hc hb]

theorem gm_zero_all : ∀ a b : Fin 16, gm 0 b.1 = 0 ∧ (gm a.1 b.1 = 0 → a.1 = 0 ∨ b.1 = 0) := by decide +kernel

theorem zero_gm {b : Nat} (hb : b < 16) : gm 0 b = 0 := (gm_zero_all ⟨0, by omega⟩ ⟨b, hb⟩).1

theorem xor_xor (a b : Nat) : a ^^^ b ^^^ b = a := by rw [Nat.xor_assoc, Nat.xor_self, Nat.xor_zero]

theorem eq_of_xor {a b : Nat} (h : a ^^^ b = 0) : a = b := by
  have k := xor_xor a b
  rw [h, Nat.zero_xor] at k
  exact k.symm

theorem synA_lt (j : Nat) : ∀ (l : List Nat) (i : Nat), Lt16 l → synA j i l < 16
  | [], _, _ => by unfold synA; omega
  | a :: l, i, h => by
    unfold synA
    exact xor_lt (gm_lt (h a List.mem_cons_self) (cw_lt j i)) (synA_lt j l (i + 1) fun v hv => h v (List.mem_cons_of_mem _ hv))

theorem syn_lt (j : Nat) {l : List Nat} (h : Lt16 l) : syn j l < 16 := synA_lt j l 0 h

theorem synA_snoc (j : Nat) (a : Nat) : ∀ (l : List Nat) (i : Nat), synA j i (l ++ [a]) = synA j i l ^^^ gm a (cw j (i + l.length))
  | [], i => by simp [synA]
  | b :: l, i => by
    show gm b (cw j i) ^^^ synA j (i + 1) (l ++ [a]) = (gm b (cw j i) ^^^ synA j (i + 1) l) ^^^ _
    rw [synA_snoc j a l (i + 1), Nat.xor_assoc, show i + 1 + l.length = i + (b :: l).length from by simp; omega]

/-- One more symbol. -/
theorem syn_take (j : Nat) {w : List Nat} {k : Nat} (h : k < w.length) :
    syn j (w.take (k + 1)) = syn j (w.take k) ^^^ gm w[k] (cw j k) := by
  unfold syn
  rw [List.take_succ_eq_append_getElem h, synA_snoc]
  simp [List.length_take, Nat.min_eq_left (Nat.le_of_lt h)]

theorem synA_set (j : Nat) {e : Nat} (he : e < 16) : ∀ (l : List Nat) (i k : Nat) (hk : k < l.length), Lt16 l →
    synA j i (l.set k (l[k] ^^^ e)) = synA j i l ^^^ gm e (cw j (i + k))
  | a :: l, i, 0, hk, hl => by
    show gm (a ^^^ e) (cw j i) ^^^ synA j (i + 1) l = (gm a (cw j i) ^^^ synA j (i + 1) l) ^^^ gm e (cw j (i + 0))
    rw [xor_gm (hl a List.mem_cons_self) he (cw_lt j i), Nat.add_zero i, Nat.xor_assoc, Nat.xor_assoc, Nat.xor_comm (gm e _)]
  | a :: l, i, k + 1, hk, hl => by
    have hk2 : k < l.length := Nat.lt_of_succ_lt_succ hk
    show gm a (cw j i) ^^^ synA j (i + 1) (l.set k (l[k] ^^^ e)) = (gm a (cw j i) ^^^ synA j (i + 1) l) ^^^ gm e (cw j (i + (k + 1)))
    rw [synA_set j he l (i + 1) k hk2 (fun x hx => hl x (List.mem_cons_of_mem _ hx)), Nat.xor_assoc, show i + 1 + k = i + (k + 1) from by omega]

theorem syn_set (j : Nat) {e : Nat} (he : e < 16) {l : List Nat} {k : Nat} (hk : k < l.length) (hl : Lt16 l) :
    syn j (l.set k (l[k] ^^^ e)) = syn j l ^^^ gm e (cw j k) := by
  have h := synA_set j he l 0 k hk hl
  rw [Nat.zero_add] at h
  exact h

theorem lt_set {l : List Nat} (h : Lt16 l) {k e : Nat} (he : e < 16) : Lt16 (l.set k e) := by
  intro v hv
  rcases List.mem_or_eq_of_mem_set hv with h1 | h1
  · exact h v h1
  · exact h1 ▸ he

/-- The check symbols that take away these syndromes. -/
def ck0 (a b c : Nat) : Nat := gm a 12 ^^^ gm b 5 ^^^ gm c 8

def ck1 (a b c : Nat) : Nat := gm a 5 ^^^ gm b 9 ^^^ gm c 12

def ck2 (a b c : Nat) : Nat := gm a 8 ^^^ gm b 12 ^^^ gm c 4

def enc (d : List Nat) : List Nat :=
  ck0 (synA 0 3 d) (synA 1 3 d) (synA 2 3 d) :: ck1 (synA 0 3 d) (synA 1 3 d) (synA 2 3 d) :: ck2 (synA 0 3 d) (synA 1 3 d) (synA 2 3 d) :: d

theorem ck_lt {a b c : Nat} (ha : a < 16) (hb : b < 16) (hc : c < 16) : ck0 a b c < 16 ∧ ck1 a b c < 16 ∧ ck2 a b c < 16 :=
  ⟨xor_lt (xor_lt (gm_lt ha (by omega)) (gm_lt hb (by omega))) (gm_lt hc (by omega)),
    xor_lt (xor_lt (gm_lt ha (by omega)) (gm_lt hb (by omega))) (gm_lt hc (by omega)),
    xor_lt (xor_lt (gm_lt ha (by omega)) (gm_lt hb (by omega))) (gm_lt hc (by omega))⟩

def Zero3 (w : List Nat) : Prop := syn 0 w = 0 ∧ syn 1 w = 0 ∧ syn 2 w = 0

instance (w : List Nat) : Decidable (Zero3 w) := inferInstanceAs (Decidable (_ ∧ _))

theorem ck_back : ∀ a b c : Fin 16,
    ck0 (gm a.1 (cw 0 0) ^^^ (gm b.1 (cw 0 1) ^^^ gm c.1 (cw 0 2))) (gm a.1 (cw 1 0) ^^^ (gm b.1 (cw 1 1) ^^^ gm c.1 (cw 1 2))) (gm a.1 (cw 2 0) ^^^ (gm b.1 (cw 2 1) ^^^ gm c.1 (cw 2 2))) = a.1 ∧
    ck1 (gm a.1 (cw 0 0) ^^^ (gm b.1 (cw 0 1) ^^^ gm c.1 (cw 0 2))) (gm a.1 (cw 1 0) ^^^ (gm b.1 (cw 1 1) ^^^ gm c.1 (cw 1 2))) (gm a.1 (cw 2 0) ^^^ (gm b.1 (cw 2 1) ^^^ gm c.1 (cw 2 2))) = b.1 ∧
    ck2 (gm a.1 (cw 0 0) ^^^ (gm b.1 (cw 0 1) ^^^ gm c.1 (cw 0 2))) (gm a.1 (cw 1 0) ^^^ (gm b.1 (cw 1 1) ^^^ gm c.1 (cw 1 2))) (gm a.1 (cw 2 0) ^^^ (gm b.1 (cw 2 1) ^^^ gm c.1 (cw 2 2))) = c.1 := by decide +kernel

theorem syn_three (j a b c : Nat) (d : List Nat) :
    syn j (a :: b :: c :: d) = (gm a (cw j 0) ^^^ (gm b (cw j 1) ^^^ gm c (cw j 2))) ^^^ synA j 3 d := by
  show gm a (cw j 0) ^^^ (gm b (cw j 1) ^^^ (gm c (cw j 2) ^^^ synA j 3 d)) = _
  rw [Nat.xor_assoc, Nat.xor_assoc]

theorem enc_lt {d : List Nat} (h : Lt16 d) : Lt16 (enc d) := by
  have k := ck_lt (synA_lt 0 d 3 h) (synA_lt 1 d 3 h) (synA_lt 2 d 3 h)
  intro v hv
  unfold enc at hv
  rcases List.mem_cons.mp hv with h1 | hv
  · exact h1 ▸ k.1
  · rcases List.mem_cons.mp hv with h1 | hv
    · exact h1 ▸ k.2.1
    · rcases List.mem_cons.mp hv with h1 | hv
      · exact h1 ▸ k.2.2
      · exact h v hv

theorem enc_length (d : List Nat) : (enc d).length = d.length + 3 := rfl

/-- The codeword of these data is unique. -/
theorem enc_only {a b c : Nat} {d : List Nat} (h : Lt16 (a :: b :: c :: d)) (hz : Zero3 (a :: b :: c :: d)) : a :: b :: c :: d = enc d := by
  obtain ⟨h0, h1, h2⟩ := hz
  rw [syn_three] at h0 h1 h2
  have k := ck_back ⟨a, h a (by simp)⟩ ⟨b, h b (by simp)⟩ ⟨c, h c (by simp)⟩
  unfold enc
  rw [← eq_of_xor h0, ← eq_of_xor h1, ← eq_of_xor h2, k.1, k.2.1, k.2.2]

/-- The place of the wrong symbol that these syndromes tell. -/
def fixAt (a b c : Nat) : Int := fnd (fun i => decide (a ≠ 0 ∧ gm a (gp 2 i.toNat) = b ∧ gm b (gp 2 i.toNat) = c)) 0 11

def correct (w : List Nat) : List Nat × Int × Int :=
  if Zero3 w then (w, 0, -1)
  else if fixAt (syn 0 w) (syn 1 w) (syn 2 w) = -1 then (w, 2, -1)
  else (w.set (fixAt (syn 0 w) (syn 1 w) (syn 2 w)).toNat (w.getD (fixAt (syn 0 w) (syn 1 w) (syn 2 w)).toNat 0 ^^^ syn 0 w), 1, fixAt (syn 0 w) (syn 1 w) (syn 2 w))

theorem correct_none {w : List Nat} (hz : Zero3 w) : correct w = (w, 0, -1) := if_pos hz

theorem fnd_none {p : Int → Bool} : ∀ (k : Nat) (lo : Int), (∀ i, lo ≤ i → i < lo + k → p i = false) → fnd p lo k = -1
  | 0, _, _ => rfl
  | k + 1, lo, h => by
    unfold fnd
    rw [if_neg (by rw [h lo (by omega) (by omega)]; decide)]
    exact fnd_none k (lo + 1) fun i h1 h2 => h i (by omega) (by omega)

end Go.Proofs.YtfpfgaifhmgpiaaDoor

namespace Go.Proofs.YtfpfgaifhmgpiaaDoor

set_option linter.unusedVariables false

def Els (l : List Int) : Prop := ∀ v ∈ l, El v

instance (l : List Int) : Decidable (Els l) := inferInstanceAs (Decidable (∀ v ∈ l, El v))

/-- So many elements of the field. -/
def SymOk (l : List Int) (n : Int) : Prop := Els l ∧ (l.length : Int) = n

instance (l : List Int) (n : Int) : Decidable (SymOk l n) := inferInstanceAs (Decidable (_ ∧ _))

def nats (l : List Int) : List Nat := l.map Int.toNat

def ints (l : List Nat) : List Int := l.map (fun n : Nat => (n : Int))

theorem nats_length (l : List Int) : (nats l).length = l.length := by unfold nats; simp

theorem ints_length (l : List Nat) : (ints l).length = l.length := by unfold ints; simp

theorem el_getD {l : List Int} (h : Els l) {k : Nat} (hk : k < l.length) : El (l.getD k 0) := by
  rw [List.getD_eq_getElem?_getD, List.getElem?_eq_getElem hk]
  exact h _ (List.getElem_mem hk)

theorem nats_lt {l : List Int} (h : Els l) : Lt16 (nats l) := by
  intro v hv
  obtain ⟨x, hx, rfl⟩ := List.mem_map.mp hv
  have := h x hx
  unfold El at this
  omega

theorem ints_nats {l : List Int} (h : Els l) : ints (nats l) = l := by
  unfold ints nats
  rw [List.map_map]
  conv => rhs; rw [← List.map_id l]
  refine List.map_congr_left fun x hx => ?_
  have := h x hx
  unfold El at this
  show ((x.toNat : Nat) : Int) = x
  omega

theorem els_ints {l : List Nat} (h : Lt16 l) : Els (ints l) := by
  intro v hv
  obtain ⟨x, hx, rfl⟩ := List.mem_map.mp hv
  have := h x hx
  unfold El
  omega

theorem ints_getD (l : List Nat) (k : Nat) : (ints l).getD k 0 = ((l.getD k 0 : Nat) : Int) := by
  unfold ints
  rw [List.getD_eq_getElem?_getD, List.getD_eq_getElem?_getD, List.getElem?_map]
  cases l[k]? <;> rfl

theorem nats_getD {l : List Int} (h : Els l) {k : Nat} (hk : k < l.length) : l.getD k 0 = (((nats l).getD k 0 : Nat) : Int) := by
  rw [← ints_getD, ints_nats h]

theorem ints_set (l : List Nat) (k e : Nat) : ints (l.set k e) = (ints l).set k (e : Int) := by
  unfold ints
  rw [List.map_set]

/-- The first so many are elements, one more is. -/
theorem els_take {l : List Int} {k : Nat} (hk : k < l.length) (h : Els (l.take k)) (he : El (l.getD k 0)) : Els (l.take (k + 1)) := by
  rw [List.take_succ_eq_append_getElem hk]
  intro v hv
  rcases List.mem_append.mp hv with h1 | h1
  · exact h v h1
  · rw [List.mem_singleton.mp h1]
    rwa [List.getD_eq_getElem?_getD, List.getElem?_eq_getElem hk] at he

/-- The syndromes of a row, as numbers. -/
def syns (w : List Int) : List Int := if SymOk w 11 then [((syn 0 (nats w) : Nat) : Int), ((syn 1 (nats w) : Nat) : Int), ((syn 2 (nats w) : Nat) : Int)] else []

def encI (d : List Int) : List Int := if SymOk d 8 then ints (enc (nats d)) else []

def dataI (w : List Int) : List Int := if SymOk w 11 then w.drop 3 else []

def goodW (w : List Int) : Prop := SymOk w 11 ∧ Zero3 (nats w)

instance (w : List Int) : Decidable (goodW w) := inferInstanceAs (Decidable (_ ∧ _))

def corW (w : List Int) : List Int × Int × Int :=
  if SymOk w 11 then (ints (correct (nats w)).1, (correct (nats w)).2.1, (correct (nats w)).2.2) else ([], 2, -1)

end Go.Proofs.YtfpfgaifhmgpiaaDoor

namespace Go.Proofs.YtfpfgaifhmgpiaaDoor

set_option linter.unusedVariables false

/-- A polynomial times x - r, so many of its places done. -/
def mulP (b : List Nat) (r : Nat) : Nat → List Nat
  | 0 => List.replicate (b.length + 1) 0
  | i + 1 => ((mulP b r i).set (i + 1) ((mulP b r i).getD (i + 1) 0 ^^^ b.getD i 0)).set i ((mulP b r i).getD i 0 ^^^ gm (b.getD i 0) r)

theorem mulP_length (b : List Nat) (r : Nat) : ∀ i, (mulP b r i).length = b.length + 1
  | 0 => by simp [mulP]
  | i + 1 => by simp [mulP, mulP_length b r i]

/-- The divisor with its first so many factors. -/
def polyB : Nat → List Nat
  | 0 => [1, 1]
  | 1 => [1, 1]
  | j + 1 => mulP (polyB j) (gp 2 j) (polyB j).length

theorem polyB_two : polyB 2 = [2, 3, 1] := by decide +kernel

theorem polyB_three : polyB 3 = [8, 14, 7, 1] := by decide +kernel

/-- A multiple of the divisor, its lowest place at p, added at its first so many places. -/
def redP (r : List Nat) (f p : Nat) : Nat → List Nat
  | 0 => r
  | k + 1 => (redP r f p k).set (p + k) ((redP r f p k).getD (p + k) 0 ^^^ gm ([8, 14, 7, 1].getD k 0) f)

theorem redP_length (r : List Nat) (f p : Nat) : ∀ k, (redP r f p k).length = r.length
  | 0 => rfl
  | k + 1 => by simp [redP, redP_length r f p k]

theorem poly_lt (k : Nat) : [8, 14, 7, 1].getD k 0 < 16 := by
  match k with
  | 0 => decide
  | 1 => decide
  | 2 => decide
  | 3 => decide
  | k + 4 => simp

theorem getDn_lt {l : List Nat} (h : Lt16 l) (k : Nat) : l.getD k 0 < 16 := by
  rw [List.getD_eq_getElem?_getD]
  cases e : l[k]? with
  | none => simp
  | some v => exact h v (List.mem_of_getElem? e)

theorem redP_lt {r : List Nat} {f p : Nat} (h : Lt16 r) (hf : f < 16) : ∀ k, Lt16 (redP r f p k)
  | 0 => h
  | k + 1 => lt_set (redP_lt h hf k) (xor_lt (getDn_lt (redP_lt h hf k) _) (gm_lt (poly_lt k) hf))

theorem syn_setD (j : Nat) {e : Nat} (he : e < 16) {l : List Nat} {k : Nat} (hk : k < l.length) (hl : Lt16 l) :
    syn j (l.set k (l.getD k 0 ^^^ e)) = syn j l ^^^ gm e (cw j k) := by
  have : l.getD k 0 = l[k] := by rw [List.getD_eq_getElem?_getD, List.getElem?_eq_getElem hk]; rfl
  rw [this]
  exact syn_set j he hk hl

theorem poly_all : ∀ (p : Fin 8) (f : Fin 16) (j : Fin 3),
    gm (gm 8 f.1) (cw j.1 (p.1 + 0)) ^^^ gm (gm 14 f.1) (cw j.1 (p.1 + 1)) ^^^ gm (gm 7 f.1) (cw j.1 (p.1 + 2)) ^^^ gm (gm 1 f.1) (cw j.1 (p.1 + 3)) = 0 := by decide +kernel

/-- A whole step keeps the sums. -/
theorem redP_syn {r : List Nat} {f p : Nat} (h : Lt16 r) (hf : f < 16) (hr : r.length = 11) (hp : p < 8) {j : Nat} (hj : j < 3) : syn j (redP r f p 4) = syn j r := by
  have s : ∀ k, k < 4 → syn j (redP r f p (k + 1)) = syn j (redP r f p k) ^^^ gm (gm ([8, 14, 7, 1].getD k 0) f) (cw j (p + k)) := by
    intro k hk
    show syn j ((redP r f p k).set (p + k) _) = _
    exact syn_setD j (gm_lt (poly_lt k) hf) (by rw [redP_length, hr]; omega) (redP_lt h hf k)
  rw [s 3 (by omega), s 2 (by omega), s 1 (by omega), s 0 (by omega)]
  show syn j r ^^^ gm (gm 8 f) (cw j (p + 0)) ^^^ gm (gm 14 f) (cw j (p + 1)) ^^^ gm (gm 7 f) (cw j (p + 2)) ^^^ gm (gm 1 f) (cw j (p + 3)) = _
  have q := poly_all ⟨p, hp⟩ ⟨f, hf⟩ ⟨j, hj⟩
  rw [Nat.xor_assoc, Nat.xor_assoc, Nat.xor_assoc]
  rw [Nat.xor_assoc, Nat.xor_assoc] at q
  rw [q, Nat.xor_zero]

theorem getDs_ne {l : List Nat} {i k v : Nat} (h : k ≠ i) : (l.set k v).getD i 0 = l.getD i 0 := by
  rw [List.getD_eq_getElem?_getD, List.getElem?_set_ne h, ← List.getD_eq_getElem?_getD]

theorem getDs_self {l : List Nat} {k v : Nat} (h : k < l.length) : (l.set k v).getD k 0 = v := by
  rw [List.getD_eq_getElem?_getD, List.getElem?_set_self h]; rfl

/-- Behind a step its place is 0, and the places above it are kept. -/
theorem redP_high {r : List Nat} {f p : Nat} (hr : r.length = 11) (hp : p < 8) (hf : f < 16) (hv : r.getD (p + 3) 0 = f) (hz : ∀ i, p + 3 < i → r.getD i 0 = 0) :
    ∀ i, p + 3 ≤ i → (redP r f p 4).getD i 0 = 0 := by
  intro i hi
  have hl := redP_length r f p 3
  by_cases e : i = p + 3
  · subst e
    show ((redP r f p 3).set (p + 3) _).getD (p + 3) 0 = 0
    rw [getDs_self (by rw [hl, hr]; omega)]
    have : (redP r f p 3).getD (p + 3) 0 = f := by
      show (((r.set (p + 0) _).set (p + 1) _).set (p + 2) _).getD (p + 3) 0 = f
      rw [getDs_ne (by omega), getDs_ne (by omega), getDs_ne (by omega), hv]
    rw [this]
    show f ^^^ gm 1 f = 0
    rw [gm_comm (by omega) hf, gm_one hf, Nat.xor_self]
  · show ((((r.set (p + 0) _).set (p + 1) _).set (p + 2) _).set (p + 3) _).getD i 0 = 0
    rw [getDs_ne (by omega), getDs_ne (by omega), getDs_ne (by omega), getDs_ne (by omega)]
    exact hz i (by omega)

/-- What the division of these data holds ahead of place i (all above are done). -/
def DivAt (d : List Nat) (i : Nat) (r : List Nat) : Prop :=
  r.length = 11 ∧ Lt16 r ∧ (∀ j < 3, syn j r = synA j 3 d) ∧ ∀ k, i < k → r.getD k 0 = 0

theorem div_start {d : List Nat} (hd : Lt16 d) (hl : d.length = 8) : DivAt d 10 (0 :: 0 :: 0 :: d) := by
  refine ⟨by simp [hl], ?_, ?_, ?_⟩
  · intro v hv
    rcases List.mem_cons.mp hv with h | hv
    · omega
    · rcases List.mem_cons.mp hv with h | hv
      · omega
      · rcases List.mem_cons.mp hv with h | hv
        · omega
        · exact hd v hv
  · intro j hj
    rw [syn_three, zero_gm (cw_lt _ _), zero_gm (cw_lt _ _), zero_gm (cw_lt _ _)]
    simp
  · intro k hk
    rw [List.getD_eq_getElem?_getD, List.getElem?_eq_none (by simp [hl]; omega)]
    rfl

theorem div_step {d r : List Nat} {i : Nat} (h : DivAt d i r) (h3 : 3 ≤ i) (hi : i ≤ 10) : DivAt d (i - 1) (redP r (r.getD i 0) (i - 3) 4) := by
  obtain ⟨h1, h2, hs, hz⟩ := h
  have hf := getDn_lt h2 i
  refine ⟨by rw [redP_length]; exact h1, redP_lt h2 hf 4, ?_, ?_⟩
  · intro j hj
    rw [redP_syn h2 hf h1 (by omega) hj]
    exact hs j hj
  · intro k hk
    exact redP_high h1 (by omega) hf (by rw [show i - 3 + 3 = i from by omega]) (fun m hm => hz m (by omega)) k (by omega)

/-- The remainder gives the check symbols. -/
theorem div_end {d r : List Nat} (hd : Lt16 d) (h : DivAt d 2 r) : r.getD 0 0 :: r.getD 1 0 :: r.getD 2 0 :: d = enc d := by
  obtain ⟨h1, h2, hs, hz⟩ := h
  obtain ⟨a, b, c, t, rfl⟩ : ∃ a b c t, r = a :: b :: c :: t := by
    match r, h1 with
    | a :: b :: c :: t, _ => exact ⟨a, b, c, t, rfl⟩
  have ht : t = List.replicate 8 0 := by
    apply List.ext_getElem (by simpa using h1)
    intro i hi1 hi2
    have := hz (i + 3) (by omega)
    rw [List.getD_eq_getElem?_getD] at this
    simp [List.getElem?_eq_getElem hi1] at this
    rw [List.getElem_replicate]
    exact this
  have z : ∀ j, synA j 3 t = 0 := by
    intro j
    rw [ht]
    simp only [List.replicate, synA, zero_gm (cw_lt _ _)]
    rfl
  have ha : a < 16 := h2 a (by simp)
  have hb : b < 16 := h2 b (by simp)
  have hc : c < 16 := h2 c (by simp)
  show a :: b :: c :: d = enc d
  refine enc_only ?_ ?_
  · intro v hv
    rcases List.mem_cons.mp hv with h | hv
    · exact h ▸ ha
    · rcases List.mem_cons.mp hv with h | hv
      · exact h ▸ hb
      · rcases List.mem_cons.mp hv with h | hv
        · exact h ▸ hc
        · exact hd v hv
  · have e : ∀ j < 3, syn j (a :: b :: c :: d) = 0 := by
      intro j hj
      have := hs j hj
      rw [syn_three, z j, Nat.xor_zero] at this
      rw [syn_three, this, Nat.xor_self]
    exact ⟨e 0 (by omega), e 1 (by omega), e 2 (by omega)⟩

end Go.Proofs.YtfpfgaifhmgpiaaDoor

namespace Go.Proofs.YtfpfgaifhmgpiaaDoor
open Go.RowKit

set_option linter.unusedVariables false

/-- The multiple by x. -/
def gtX (a : Nat) : Nat := if 16 ≤ 2 * a then (2 * a) ^^^ 19 else 2 * a

/-- The multiple by the k-th power of x. -/
def gX (a : Nat) : Nat → Nat
  | 0 => a
  | k + 1 => gtX (gX a k)

end Go.Proofs.YtfpfgaifhmgpiaaDoor

namespace Go.Proofs.YtfpfgaifhmgpiaaDoor

set_option linter.unusedVariables false

/-- The polynomial with these coefficients (the constant one first) at x. -/
def hor (x : Nat) : List Nat → Nat
  | [] => 0
  | a :: l => gm x (hor x l) ^^^ a

end Go.Proofs.YtfpfgaifhmgpiaaDoor
