/-
  Texts of one proof, merged: NumM, CmdM, TimM.
-/
import Derived.Test.YtfpfgaifhmgpiaaDoorQL141
import Derived.Lib.AtoiAll
import Derived.Lib.ItoaLen
import Derived.Lib.Strings
import Derived.PlainAid
namespace Go.Proofs.YtfpfgaifhmgpiaaDoor
open Go.RowKit Go.PlainAid
set_option linter.unusedVariables false

/-- The number that digits spell behind acc. -/
def valFrom (acc : Nat) (l : List UInt8) : Nat := l.foldl (fun a c => a * 10 + (c.toNat - 48)) acc

theorem valFrom_snoc (acc : Nat) (l : List UInt8) (c : UInt8) : valFrom acc (l ++ [c]) = valFrom acc l * 10 + (c.toNat - 48) := by
  unfold valFrom; rw [List.foldl_append]; rfl

theorem dec_val : ∀ (u : Nat), valFrom 0 (Lib.decDigits u) = u := by
  intro u
  induction u using Nat.strongRecOn with
  | _ u ih =>
    rw [Lib.decDigits]
    split
    · show 0 * 10 + ((UInt8.ofNat (48 + u)).toNat - 48) = u
      simp; omega
    · rw [valFrom_snoc, ih (u / 10) (by omega)]
      simp; omega

/-- The text spells v, as FormatInt does, and v is at most MaxUint. -/
def PU (s : ByteArray) (v : Nat) : Prop := v ≤ 1000000000 ∧ s = ⟨(Lib.decDigits v).toArray⟩

theorem PU.inj {s : ByteArray} {u v : Nat} (h : PU s u) (k : PU s v) : u = v := by
  have e : Lib.decDigits u = Lib.decDigits v := by
    have := h.2.symm.trans k.2
    simpa using this
  rw [← dec_val u, e, dec_val]

end Go.Proofs.YtfpfgaifhmgpiaaDoor

namespace Go.Proofs.YtfpfgaifhmgpiaaDoor

set_option linter.unusedVariables false

/-- A well-formed command: its fields are in range, and those that its kind does not use are 0. -/
def CmOk (k b r c : Int) : Prop := (1 ≤ k ∧ k ≤ 9) ∧ (0 ≤ b ∧ b ≤ 7) ∧ (0 ≤ r ∧ r ≤ 15) ∧ (0 ≤ c ∧ c ≤ 7) ∧ (k ≤ 5 ∨ b = 0) ∧ (k = 1 ∨ r = 0) ∧ (k = 2 ∨ k = 3 ∨ c = 0)

instance (k b r c : Int) : Decidable (CmOk k b r c) := inferInstanceAs (Decidable (_ ∧ _))

end Go.Proofs.YtfpfgaifhmgpiaaDoor

namespace Go.Proofs.YtfpfgaifhmgpiaaDoor

set_option linter.unusedVariables false

/-- A timing's numbers. -/
structure Tm where
  rcd : Int
  rp : Int
  ras : Int
  rrds : Int
  rrdl : Int
  faw : Int
  ccds : Int
  ccdl : Int
  rtp : Int
  wr : Int
  wtrs : Int
  wtrl : Int
  rtw : Int
  rfc : Int
  cke : Int
  xp : Int
  xs : Int

def Tm.l (t : Tm) : List Int := [t.rcd, t.rp, t.ras, t.rrds, t.rrdl, t.faw, t.ccds, t.ccdl, t.rtp, t.wr, t.wtrs, t.wtrl, t.rtw, t.rfc, t.cke, t.xp, t.xs]

def In64 (x : Int) : Prop := 1 ≤ x ∧ x ≤ 64

instance (x : Int) : Decidable (In64 x) := inferInstanceAs (Decidable (_ ∧ _))

/-- A valid timing. -/
def TimOk (t : Tm) : Prop := (∀ x ∈ t.l, In64 x) ∧ t.rcd ≤ t.ras ∧ t.rrds ≤ t.rrdl ∧ t.ccds ≤ t.ccdl ∧ t.wtrs ≤ t.wtrl

instance (t : Tm) : Decidable (TimOk t) := inferInstanceAs (Decidable (_ ∧ _))

theorem TimOk.nums {t : Tm} (h : TimOk t) : In64 t.rcd ∧ In64 t.rp ∧ In64 t.ras ∧ In64 t.rrds ∧ In64 t.rrdl ∧ In64 t.faw ∧ In64 t.ccds ∧ In64 t.ccdl ∧ In64 t.rtp ∧ In64 t.wr ∧ In64 t.wtrs ∧ In64 t.wtrl ∧ In64 t.rtw ∧ In64 t.rfc ∧ In64 t.cke ∧ In64 t.xp ∧ In64 t.xs := by
  have h := h.1
  simp only [Tm.l, List.mem_cons, List.not_mem_nil, or_false, forall_eq_or_imp, forall_eq] at h
  exact h

/-- The distance of two commands of one bank, by their kinds; of a valid timing. -/
def bankR (t : Tm) (a b : Int) : Int :=
  if a = 1 then (if b = 2 ∨ b = 3 then t.rcd else if b = 4 then t.ras else if b = 1 ∨ b = 5 then t.ras + t.rp else 0)
  else if a = 2 then (if b = 4 then t.rtp else if b = 1 ∨ b = 5 then t.rtp + t.rp else 0)
  else if a = 3 then (if b = 4 then t.wr else if b = 1 ∨ b = 5 then t.wr + t.rp else 0)
  else if a = 4 then (if b = 1 ∨ b = 5 then t.rp else 0)
  else if a = 5 then (if b = 1 ∨ b = 5 then t.rfc else 0)
  else 0

def bankG (t : Tm) (a b : Int) : Int := if TimOk t then bankR t a b else 0

def nearI (n : Bool) (x y : Int) : Int := if n = true then x else y

/-- The distance of two commands of a rank, by their kinds; of a valid timing and two kinds. -/
def rankR (t : Tm) (a b : Int) (n : Bool) : Int :=
  if a = 7 then t.xp
  else if a = 9 then t.xs
  else if (a = 6 ∧ b = 7) ∨ (a = 8 ∧ b = 9) then t.cke
  else if a = 1 ∧ b = 1 then nearI n t.rrdl t.rrds
  else if (a = 2 ∧ b = 2) ∨ (a = 3 ∧ b = 3) then nearI n t.ccdl t.ccds
  else if a = 3 ∧ b = 2 then nearI n t.wtrl t.wtrs
  else if a = 2 ∧ b = 3 then t.rtw
  else if a = 5 ∧ b = 5 then t.rrdl
  else if b = 6 ∧ a = 2 then t.rtp
  else if b = 6 ∧ a = 3 then t.wr
  else if b = 8 then bankR t a 1
  else 0

def rankG (t : Tm) (a b : Int) (n : Bool) : Int := if TimOk t ∧ (1 ≤ a ∧ a ≤ 9) ∧ (1 ≤ b ∧ b ≤ 9) then rankR t a b n else 0

theorem range_ite {p : Prop} [Decidable p] {x y : Int} (hx : 0 ≤ x ∧ x ≤ 128) (hy : 0 ≤ y ∧ y ≤ 128) : 0 ≤ (if p then x else y) ∧ (if p then x else y) ≤ 128 := by split <;> assumption

theorem bankR_range {t : Tm} (h : TimOk t) (a b : Int) : 0 ≤ bankR t a b ∧ bankR t a b ≤ 128 := by
  obtain ⟨h1, h2, h3, h4, h5, h6, h7, h8, h9, h10, h11, h12, h13, h14, h15, h16, h17⟩ := h.nums
  unfold In64 at *
  unfold bankR
  repeat' (refine range_ite ?_ ?_)
  all_goals omega

theorem rankR_range {t : Tm} (h : TimOk t) (a b : Int) (n : Bool) : 0 ≤ rankR t a b n ∧ rankR t a b n ≤ 128 := by
  have hb := bankR_range h a 1
  obtain ⟨h1, h2, h3, h4, h5, h6, h7, h8, h9, h10, h11, h12, h13, h14, h15, h16, h17⟩ := h.nums
  unfold In64 at *
  unfold rankR nearI
  repeat' (first | exact hb | refine range_ite ?_ ?_)
  all_goals (clear hb; omega)

theorem bankG_range (t : Tm) (a b : Int) : 0 ≤ bankG t a b ∧ bankG t a b ≤ 128 := by
  unfold bankG
  split
  · exact bankR_range (by assumption) a b
  · omega

theorem rankG_range (t : Tm) (a b : Int) (n : Bool) : 0 ≤ rankG t a b n ∧ rankG t a b n ≤ 128 := by
  unfold rankG
  split
  · rename_i h
    exact rankR_range h.1 a b n
  · omega

/-- Are both banks in one group (of B banks), or one bank? Only of commands that use a bank. -/
def nearP (B ka xa kb xb : Int) : Bool := decide ((ka ≤ 5 ∧ kb ≤ 5) ∧ xa / B = xb / B)
def sameP (ka xa kb xb : Int) : Bool := decide ((ka ≤ 5 ∧ kb ≤ 5) ∧ xa = xb)

/-- The distance of two valid commands. -/
def gapR (B : Int) (t : Tm) (ka xa kb xb : Int) : Int :=
  max (max (rankG t ka kb (nearP B ka xa kb xb)) (if sameP ka xa kb xb = true then bankG t ka kb else 0)) 1

theorem gapR_range (B : Int) (t : Tm) (ka xa kb xb : Int) : 1 ≤ gapR B t ka xa kb xb ∧ gapR B t ka xa kb xb ≤ 128 := by
  have h1 := rankG_range t ka kb (nearP B ka xa kb xb)
  have h2 := bankG_range t ka kb
  unfold gapR
  split <;> omega

/-- Five activations within FAW. -/
def FawL (faw : Int) (l : List Int) : Prop := ∀ i, i < l.length → (0 ≤ l.getD i 0 ∧ l.getD i 0 ≤ 1000000) ∧ (4 ≤ i → faw ≤ l.getD i 0 - l.getD (i - 4) 0)

instance (faw : Int) (l : List Int) : Decidable (FawL faw l) := inferInstanceAs (Decidable (∀ i, i < l.length → _))

end Go.Proofs.YtfpfgaifhmgpiaaDoor
