/-
  Banks and ranks: valid states, what is allowed in them, and what a command does.
-/
import Derived.Test.YtihhcnckoeaihaaCmdW2
namespace Go.Proofs.Ytihhcnckoeaihaa

set_option linter.unusedVariables false

/-- A bank's state. -/
structure Bk where
  op : Bool
  row : Int

def Bk.vs (b : Bk) : List Value := [.bool b.op, .int .i64 b.row]

/-- A closed bank. -/
def bk0 : Bk := ⟨false, 0⟩

/-- A bank's state that is valid under a number of rows and a power. -/
def BkOk (rows pw : Int) (b : Bk) : Prop := (0 ≤ b.row ∧ b.row ≤ rows - 1) ∧ (b.op = true ∨ b.row = 0) ∧ (b.op = false ∨ pw ≠ 2)

instance (rows pw : Int) (b : Bk) : Decidable (BkOk rows pw b) := inferInstanceAs (Decidable (_ ∧ _))

/-- A valid state of a rank. -/
def RkOk (g0 B g2 g3 : Int) (l : List Bk) (pw : Int) : Prop := GeoOk g0 B g2 g3 ∧ (l.length : Int) = bankN g0 B g2 g3 ∧ (0 ≤ pw ∧ pw ≤ 2) ∧ ∀ b ∈ l, BkOk g2 pw b

instance (g0 B g2 g3 : Int) (l : List Bk) (pw : Int) : Decidable (RkOk g0 B g2 g3 l pw) := inferInstanceAs (Decidable (_ ∧ _))

/-- Is a valid command allowed in a valid state? -/
def mayR (l : List Bk) (pw k x : Int) : Bool :=
  if k = 1 ∨ k = 5 then decide (pw = 0) && !(l.getD x.toNat bk0).op
  else if k = 2 ∨ k = 3 ∨ k = 4 then decide (pw = 0) && (l.getD x.toNat bk0).op
  else if k = 6 then decide (pw = 0)
  else if k = 8 then decide (pw = 0) && l.all (fun b => !b.op)
  else if k = 7 then decide (pw = 1)
  else decide (pw = 2)

/-- Is a command allowed in a state? -/
def allowR (g0 B g2 g3 : Int) (l : List Bk) (pw k x y z : Int) : Bool :=
  decide (RkOk g0 B g2 g3 l pw ∧ CmOk k x y z ∧ AdOk g0 B g2 g3 x y z) && mayR l pw k x

/-- The banks and the power behind a command that is allowed. -/
def doL (l : List Bk) (k x y : Int) : List Bk := if k = 1 then l.set x.toNat ⟨true, y⟩ else if k = 4 then l.set x.toNat bk0 else l

def doP (pw k : Int) : Int := if k = 6 then 1 else if k = 8 then 2 else if k = 7 ∨ k = 9 then 0 else pw

theorem doL_length (l : List Bk) (k x y : Int) : (doL l k x y).length = l.length := by
  unfold doL
  split
  · simp
  · split <;> simp

/-- The state behind a command. -/
def afterL (g0 B g2 g3 : Int) (l : List Bk) (pw k x y z : Int) : List Bk := if allowR g0 B g2 g3 l pw k x y z = true then doL l k x y else l

def afterP (g0 B g2 g3 : Int) (l : List Bk) (pw k x y z : Int) : Int := if allowR g0 B g2 g3 l pw k x y z = true then doP pw k else pw

/-- The open ones among the banks, from the index i on. -/
def openF : Nat → List Bk → List Int
  | _, [] => []
  | i, b :: l => if b.op = true then (i : Int) :: openF (i + 1) l else openF (i + 1) l

/-- The open ones among the first k banks. -/
theorem openF_append (i : Nat) (l m : List Bk) : openF i (l ++ m) = openF i l ++ openF (i + l.length) m := by
  induction l generalizing i with
  | nil => simp [openF]
  | cons b l ih =>
    have e : i + 1 + l.length = i + (b :: l).length := by simp; omega
    simp only [List.cons_append, openF, ih, e]
    split <;> rfl

theorem openF_step {l : List Bk} {k : Nat} (hk : k < l.length) : openF 0 (l.take (k + 1)) = if (l.getD k bk0).op = true then openF 0 (l.take k) ++ [(k : Int)] else openF 0 (l.take k) := by
  have hl : (l.take k).length = k := by rw [List.length_take]; omega
  have h1 : l.take (k + 1) = l.take k ++ [l.getD k bk0] := by
    rw [List.take_add_one, List.getD_eq_getElem?_getD, List.getElem?_eq_getElem hk]
    rfl
  rw [h1, openF_append, hl]
  simp only [openF, Nat.zero_add]
  split <;> simp

theorem openF_length (i : Nat) (l : List Bk) : (openF i l).length ≤ l.length := by
  induction l generalizing i with
  | nil => simp [openF]
  | cons b l ih =>
    have := ih (i + 1)
    simp only [openF]
    split <;> simp <;> omega

theorem openF_none (i : Nat) (l : List Bk) : decide ((openF i l).length = 0) = l.all (fun b => !b.op) := by
  induction l generalizing i with
  | nil => simp [openF]
  | cons b l ih =>
    rw [List.all_cons, ← ih (i + 1)]
    simp only [openF]
    obtain ⟨o, r⟩ := b
    cases o <;> simp

/-- Row of a bank, if it is there and open. -/
def rowN (l : List Bk) (x : Int) : Int := if (0 ≤ x ∧ x ≤ (l.length : Int) - 1) ∧ (l.getD x.toNat bk0).op = true then (l.getD x.toNat bk0).row else -1

end Go.Proofs.Ytihhcnckoeaihaa
