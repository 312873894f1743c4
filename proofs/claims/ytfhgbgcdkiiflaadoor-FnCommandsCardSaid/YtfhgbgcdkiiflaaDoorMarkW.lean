/-
  The laws' own words on slices of strings: equal, marked, held.
-/
import Derived.Test.YtfhgbgcdkiiflaaDoorSplitW
namespace Go.Proofs.YtfhgbgcdkiiflaaDoor
open Go.RowKit Go.PlainAid

set_option linter.unusedVariables false

/-- The digits of k ahead of acc. -/
def dg : Nat → Nat → List UInt8 → List UInt8
  | 0, _, acc => acc
  | f + 1, k, acc => if k = 0 then acc else dg f (k / 10) (UInt8.ofNat (48 + k % 10) :: acc)

/-- What markText gives at a positive number. -/
def markL (k : Nat) : List UInt8 := 109 :: dg k k []

def markS (k : Nat) : ByteArray := ⟨(markL k).toArray⟩

theorem dg_zero (f : Nat) (acc : List UInt8) : dg f 0 acc = acc := by cases f <;> rfl

theorem cat_one (x y : UInt8) (acc : List UInt8) (h : x = y) : Value.string ((⟨#[x]⟩ : ByteArray) ++ ⟨acc.toArray⟩) = .string ⟨(y :: acc).toArray⟩ := by
  subst h
  congr 1

theorem cat_lit (x : UInt8) (acc : List UInt8) : Ending.returned (Value.string ((⟨#[x]⟩ : ByteArray) ++ ⟨acc.toArray⟩)) = .returned (.string ⟨(x :: acc).toArray⟩) := by rw [cat_one x x acc rfl]

/-- A text of an owned row. -/
theorem OwnS.at {B n : Nat} {a : Option Addr} {c : Nat} {l : List ByteArray} {w : World} (h : OwnS B (.slice a n c) l w) {k : Nat} (hk : k < l.length) :
    ∃ g, a = some ⟨g, 0, none⟩ ∧ w.cell? ⟨g, k, none⟩ = some (.string l[k]) ∧ w.frozen? ⟨g, k, none⟩ = false ∧ B ≤ g ∧ g < w.heap.size := by
  have hc := fun g hg => World.ownsRow.cells h (g := g) hg k (.string l[k]) (by simp [hk])
  rcases h.2 with ⟨_, h0⟩ | ⟨g, cap, cur, hv, hB, hh, _⟩
  · omega
  · cases hv
    refine ⟨g, rfl, ?_, ?_, hB, lt_of_block hh⟩
    · have := hc g rfl
      rwa [Addr.add_lit, Nat.zero_add] at this
    · simp [World.frozen?, hh]

def blkOf (d : Nat) : Option Addr → Nat
  | some x => x.block
  | none => d

theorem blkOf_some {d : Nat} {a : Option Addr} : ∀ x, a = some x → x.block = blkOf d a := by rintro x rfl; rfl

/-- n marks, from k on. -/
def marks (k : Nat) : Nat → List ByteArray
  | 0 => []
  | n + 1 => marks k n ++ [markS (k + n)]

theorem marks_length (k : Nat) : ∀ n, (marks k n).length = n
  | 0 => rfl
  | n + 1 => by simp [marks, marks_length k n]

theorem marks_get (k : Nat) : ∀ n i (h : i < (marks k n).length), (marks k n)[i] = markS (k + i)
  | 0, i, h => by simp [marks] at h
  | n + 1, i, h => by
    have hl := marks_length k n
    simp only [marks]
    by_cases e : i < n
    · rw [List.getElem_append_left (by omega)]; exact marks_get k n i _
    · rw [List.getElem_append_right (by omega)]
      have : i = n := by rw [marks_length] at h; omega
      subst this; simp [hl]

theorem OwnS.keep {B c n : Nat} {a : Option Addr} {l : List ByteArray} {w w' : World} {g : Nat} (h : OwnS B (.slice a n c) l w) (ho : Only g w w') (hne : ∀ x, a = some x → x.block ≠ g) : OwnS B (.slice a n c) l w' := by
  refine ⟨h.1, ?_⟩
  rcases h.2 with ⟨hv, h0⟩ | ⟨b, cap, cur, hv, hB, hh, r⟩
  · exact .inl ⟨hv, h0⟩
  · cases hv
    exact .inr ⟨b, c, cur, rfl, hB, by rw [ho.block b (lt_of_block hh) (hne _ rfl)]; exact hh, r⟩

theorem OwnS.lo {B c n : Nat} {a : Option Addr} {l : List ByteArray} {w : World} (h : OwnS B (.slice a n c) l w) : ∀ x, a = some x → B ≤ x.block ∧ x.block < w.heap.size := by
  rintro x rfl
  exact World.ownsRow.lt h x.block rfl

theorem OwnS.lo_blk {B c n d : Nat} {a : Option Addr} {l : List ByteArray} {w : World} (h : OwnS B (.slice a n c) l w) (hd : B ≤ d) : B ≤ blkOf d a := by
  cases a with
  | none => exact hd
  | some x => exact (h.lo x rfl).1

theorem OwnS.below {B c n : Nat} {a : Option Addr} {l : List ByteArray} {w w' : World} (h : OwnS B (.slice a n c) l w) (hb : Below w.heap.size w w') : OwnS B (.slice a n c) l w' := by
  refine ⟨h.1, ?_⟩
  rcases h.2 with ⟨hv, h0⟩ | ⟨b, cap, cur, hv, hB, hh, r⟩
  · exact .inl ⟨hv, h0⟩
  · exact .inr ⟨b, cap, cur, hv, hB, by rw [hb.block b (lt_of_block hh)]; exact hh, r⟩

theorem OwnS.drewN {B c n : Nat} {a : Option Addr} {l : List ByteArray} {w : World} (h : OwnS B (.slice a n c) l w) (q : Nat) : OwnS B (.slice a n c) l (w.drewN q) := h

theorem below_cell {w w' : World} {a : Addr} {v : Value} (hb : Below w.heap.size w w') (hc : w.cell? a = some v) : w'.cell? a = some v :=
  (hb.cell (World.block_lt_of_cell? w _ hc)).trans hc

end Go.Proofs.YtfhgbgcdkiiflaaDoor
