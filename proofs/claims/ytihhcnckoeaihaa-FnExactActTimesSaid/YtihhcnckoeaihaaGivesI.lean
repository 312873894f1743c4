/-
  Calls that answer a row of numbers of their own; rows of numbers that are read.
-/
import Derived.Test.YtihhcnckoeaihaaIntsW
namespace Go.Proofs.Ytihhcnckoeaihaa
open Go.RowKit

set_option linter.unusedVariables false

/-- A call that answers a row of numbers of its own and leaves all old blocks. -/
def GivesI (l : List Int) (w : World) (e : Ending) (w' : World) : Prop :=
  ∃ a cap, e = .returned (.slice a l.length cap) ∧ OwnI w.heap.size (.slice a l.length cap) l w' ∧ Below w.heap.size w w'

theorem givesI_nil {w w' : World} (hb : Below w.heap.size w w') : GivesI [] w (.returned (.slice none 0 0)) w' :=
  ⟨none, 0, rfl, World.ownsRow_nil _ _ _ _, hb⟩

theorem givesI_empty {w w' : World} {g : Nat} {e : TypeId} (he : e = 3) (hg : w.heap.size ≤ g) (h1 : w'.heap[g]? = some (.cells #[] e (0, 0))) (hb : Below w.heap.size w w') : GivesI [] w (.returned (.slice (some ⟨g, 0, none⟩) 0 0)) w' := by
  subst he
  exact ⟨_, _, rfl, ⟨rfl, .inr ⟨g, 0, #[], rfl, hg, h1, Nat.le_refl _, Nat.zero_le _, rfl, rfl⟩⟩, hb⟩

/-- A slice at this address shows these numbers. -/
def RowI (w : World) (a : Option Addr) (l : List Int) : Prop :=
  l = [] ∨ ∃ b off, a = some ⟨b, off, none⟩ ∧ ∀ i, i < l.length → w.cell? ⟨b, off + i, none⟩ = some (.int .i64 (l.getD i 0))

theorem RowI.at {w : World} {a : Option Addr} {l : List Int} (h : RowI w a l) {k : Nat} (hk : k < l.length) : ∃ b off, a = some ⟨b, off, none⟩ ∧ w.cell? ⟨b, off + k, none⟩ = some (.int .i64 (l.getD k 0)) := by
  rcases h with rfl | ⟨b, off, rfl, h⟩
  · exact absurd hk (Nat.not_lt_zero _)
  · exact ⟨b, off, rfl, h k hk⟩

theorem RowI.below {w w' : World} {a : Option Addr} {l : List Int} (h : RowI w a l) (hb : Below w.heap.size w w') : RowI w' a l := by
  rcases h with h | ⟨b, off, rfl, h⟩
  · exact .inl h
  · exact .inr ⟨b, off, rfl, fun i hi => (hb.cell (World.block_lt_of_cell? _ _ (h i hi))).trans (h i hi)⟩

theorem OwnI.row {B n c : Nat} {a : Option Addr} {l : List Int} {w : World} (h : OwnI B (.slice a n c) l w) : RowI w a l := by
  rcases h.2 with ⟨hv, h0⟩ | ⟨g, cap, cur, hv, hB, hh, r⟩
  · cases hv
    exact .inl (List.length_eq_zero_iff.1 h0)
  · cases hv
    refine .inr ⟨g, 0, rfl, fun i hi => ?_⟩
    obtain ⟨g', hg, hc, _⟩ := h.at hi
    cases hg
    rw [Nat.zero_add, List.getD_eq_getElem?_getD, List.getElem?_eq_getElem hi]
    exact hc

theorem cell1 {w : World} {c : Nat} {v0 : Value} {t : TypeId} {fr : Nat × Nat} (h : w.heap[c]? = some (.cells #[v0] t fr)) : w.cell? ⟨c, 0, none⟩ = some v0 := by
  simp [World.cell?, h]

theorem set_cells {w : World} {c : Nat} {vs : Array Value} {t : TypeId} (h : w.heap[c]? = some (.cells vs t (0, 0))) (k : Nat) (u : Value) : (w.setCell ⟨c, k, none⟩ u).heap[c]? = some (.cells (vs.setIfInBounds k u) t (0, 0)) := by
  have hlt := lt_of_block h
  have h' : w.heap[c] = .cells vs t (0, 0) := by simpa [Array.getElem?_eq_getElem hlt] using h
  show (w.heap.modify c _)[c]? = _
  rw [Array.getElem?_eq_getElem (by simpa using hlt), Array.getElem_modify_self, h']
  rfl

theorem ownI_set {B : Nat} {v : Value} {l : List Int} {w : World} {p : Addr} (hp : p.block < B) (h : OwnI B v l w) (u : Value) : OwnI B v l (w.setCell p u) := by
  refine ⟨h.1, ?_⟩
  rcases h.2 with hv | ⟨b, cap, cur, hv, hB, hh, r⟩
  · exact .inl hv
  · exact .inr ⟨b, cap, cur, hv, hB, (Below.heap_setCell _ _ _ _ (by omega)).trans hh, r⟩

theorem only_grown {c : Nat} {a w w' : World} {row : Option Nat} (h : Only c a w) (hg : w.grownBy w' row) (hr : ∀ k, row = some k → a.heap.size ≤ k) : Only c a w' :=
  h.trans' ⟨hg.os, hg.tape, hg.output, hg.size⟩ (fun k hk hn => hg.block k (Nat.lt_of_lt_of_le hk h.size) (fun e => by have := hr k e.symm; omega))

theorem OwnI.only {B c : Nat} {v : Value} {l : List Int} {w w' : World} (h : OwnI B v l w) (ho : Only c w w') (hc : c < B) : OwnI B v l w' := by
  refine ⟨h.1, ?_⟩
  rcases h.2 with hv | ⟨b, cap, cur, hv, hB, hh, r⟩
  · exact .inl hv
  · exact .inr ⟨b, cap, cur, hv, hB, by rw [ho.block b (lt_of_block hh) (by omega)]; exact hh, r⟩

/-- An own row, at an index. -/
theorem OwnI.get {B n c : Nat} {a : Option Addr} {l : List Int} {w : World} (h : OwnI B (.slice a n c) l w) {k : Nat} (hk : k < l.length) : ∃ g, a = some ⟨g, 0, none⟩ ∧ w.cell? ⟨g, k, none⟩ = some (.int .i64 (l.getD k 0)) := by
  obtain ⟨g, rfl, hc, _⟩ := h.at hk
  refine ⟨g, rfl, ?_⟩
  rw [List.getD_eq_getElem?_getD, List.getElem?_eq_getElem hk]
  exact hc

end Go.Proofs.Ytihhcnckoeaihaa
