/-
  Texts of one proof, merged: IntsW, GivesI.
-/
import Derived.Test.YtpddinflkkcodaaDoorQM134
import Derived.Test.YtpddinflkkcodaaDoorQM135
namespace Go.Proofs.YtpddinflkkcodaaDoor
open Go.RowKit Go.PlainAid

set_option linter.unusedVariables false

/-- A row of numbers of the call's own, at an index. -/
theorem OwnI.at {B n c : Nat} {a : Option Addr} {l : List Int} {w : World} (h : OwnI B (.slice a n c) l w) {k : Nat} (hk : k < l.length) :
    ∃ g, a = some ⟨g, 0, none⟩ ∧ w.cell? ⟨g, k, none⟩ = some (.int .i64 l[k]) ∧ w.frozen? ⟨g, k, none⟩ = false ∧ B ≤ g ∧ g < w.heap.size := by
  have hc := fun g hg => World.ownsRow.cells h (g := g) hg k (.int .i64 l[k]) (by simp [hk])
  rcases h.2 with ⟨_, h0⟩ | ⟨g, cap, cur, hv, hB, hh, _⟩
  · omega
  · cases hv
    refine ⟨g, rfl, ?_, ?_, hB, lt_of_block hh⟩
    · have := hc g rfl
      rwa [Addr.add_lit, Nat.zero_add] at this
    · simp [World.frozen?, hh]

theorem OwnI.stored {B n c g : Nat} {l : List Int} {w : World} (h : OwnI B (.slice (some ⟨g, 0, none⟩) n c) l w) (hl : l.length = n) (k : Nat) (x : Int) : OwnI B (.slice (some ⟨g, 0, none⟩) n c) (l.set k x) (w.setCell ⟨g, k, none⟩ (.int .i64 x)) := by
  unfold OwnI at h ⊢
  rw [hl] at h
  rw [List.length_set, List.map_set, hl]
  exact (World.ownsRow.stored h k (.int .i64 x)).1

theorem OwnI.keep {B c n : Nat} {a : Option Addr} {l : List Int} {w w' : World} {g : Nat} (h : OwnI B (.slice a n c) l w) (ho : Only g w w') (hne : ∀ x, a = some x → x.block ≠ g) : OwnI B (.slice a n c) l w' := by
  refine ⟨h.1, ?_⟩
  rcases h.2 with ⟨hv, h0⟩ | ⟨b, cap, cur, hv, hB, hh, r⟩
  · exact .inl ⟨hv, h0⟩
  · cases hv
    exact .inr ⟨b, c, cur, rfl, hB, by rw [ho.block b (lt_of_block hh) (hne _ rfl)]; exact hh, r⟩

theorem OwnI.lo {B c n : Nat} {a : Option Addr} {l : List Int} {w : World} (h : OwnI B (.slice a n c) l w) : ∀ x, a = some x → B ≤ x.block ∧ x.block < w.heap.size := by
  rintro x rfl
  exact World.ownsRow.lt h x.block rfl

theorem Only.later {c : Nat} {a w w' : World} (h : Only c a w) (hb : Below w.heap.size w w') : Only c a w' :=
  h.trans ⟨hb.os, hb.tape, hb.output, hb.size, fun k hk _ => hb.block k hk⟩

/-- n numbers, from k on. -/
def marksI (k n : Nat) : List Int := (List.range n).map fun (i : Nat) => ((k + i : Nat) : Int)

theorem marksI_length (k n : Nat) : (marksI k n).length = n := by simp [marksI]

theorem marksI_get (k n i : Nat) (h : i < (marksI k n).length) : (marksI k n)[i] = ((k + i : Nat) : Int) := by simp [marksI]

theorem marksI_step (k j : Nat) (l : List Int) (h : j < l.length) : (marksI k j ++ l.drop j).set j ((k + j : Nat) : Int) = marksI k (j + 1) ++ l.drop (j + 1) := by
  rw [List.set_append_right _ _ (by rw [marksI_length]; omega), marksI_length, Nat.sub_self, List.drop_eq_getElem_cons h, List.set_cons_zero]
  simp [marksI, List.range_succ]

end Go.Proofs.YtpddinflkkcodaaDoor

namespace Go.Proofs.YtpddinflkkcodaaDoor
open Go.RowKit

set_option linter.unusedVariables false

/-- A call that answers a row of numbers of its own and leaves all old blocks. -/
def GivesI (l : List Int) (w : World) (e : Ending) (w' : World) : Prop :=
  ∃ a cap, e = .returned (.slice a l.length cap) ∧ OwnI w.heap.size (.slice a l.length cap) l w' ∧ Below w.heap.size w w'

theorem givesI_nil {w w' : World} (hb : Below w.heap.size w w') : GivesI [] w (.returned (.slice none 0 0)) w' :=
  ⟨none, 0, rfl, World.ownsRow_nil _ _ _ _, hb⟩

theorem givesI_empty {w w' : World} {g : Nat} {e : TypeId} (he : e = 3) (hg : w.heap.size ≤ g) (h1 : w'.heap[g]? = some (.cells #[] e (0, 0))) (hb : Below w.heap.size w w') : GivesI [] w (.returned (.slice (some ⟨g, 0, none⟩) 0 0)) w' := by
  subst he
  exact ⟨_, _, rfl, ⟨rfl, .inr ⟨g, 0, #[], rfl, hg, h1, Nat.le_refl _, Nat.zero_le _, rfl, rfl⟩⟩, hb⟩

/-- A slice at this address shows these numbers. -/
def RowI (w : World) (a : Option Addr) (l : List Int) : Prop :=
  l = [] ∨ ∃ b off, a = some ⟨b, off, none⟩ ∧ ∀ i, i < l.length → w.cell? ⟨b, off + i, none⟩ = some (.int .i64 (l.getD i 0))

theorem RowI.at {w : World} {a : Option Addr} {l : List Int} (h : RowI w a l) {k : Nat} (hk : k < l.length) : ∃ b off, a = some ⟨b, off, none⟩ ∧ w.cell? ⟨b, off + k, none⟩ = some (.int .i64 (l.getD k 0)) := by
  rcases h with rfl | ⟨b, off, rfl, h⟩
  · exact absurd hk (Nat.not_lt_zero _)
  · exact ⟨b, off, rfl, h k hk⟩

theorem RowI.below {w w' : World} {a : Option Addr} {l : List Int} (h : RowI w a l) (hb : Below w.heap.size w w') : RowI w' a l := by
  rcases h with h | ⟨b, off, rfl, h⟩
  · exact .inl h
  · exact .inr ⟨b, off, rfl, fun i hi => (hb.cell (World.block_lt_of_cell? _ _ (h i hi))).trans (h i hi)⟩

theorem OwnI.row {B n c : Nat} {a : Option Addr} {l : List Int} {w : World} (h : OwnI B (.slice a n c) l w) : RowI w a l := by
  rcases h.2 with ⟨hv, h0⟩ | ⟨g, cap, cur, hv, hB, hh, r⟩
  · cases hv
    exact .inl (List.length_eq_zero_iff.1 h0)
  · cases hv
    refine .inr ⟨g, 0, rfl, fun i hi => ?_⟩
    obtain ⟨g', hg, hc, _⟩ := h.at hi
    cases hg
    rw [Nat.zero_add, List.getD_eq_getElem?_getD, List.getElem?_eq_getElem hi]
    exact hc

theorem cell1 {w : World} {c : Nat} {v0 : Value} {t : TypeId} {fr : Nat × Nat} (h : w.heap[c]? = some (.cells #[v0] t fr)) : w.cell? ⟨c, 0, none⟩ = some v0 := by
  simp [World.cell?, h]

theorem set_cells {w : World} {c : Nat} {vs : Array Value} {t : TypeId} (h : w.heap[c]? = some (.cells vs t (0, 0))) (k : Nat) (u : Value) : (w.setCell ⟨c, k, none⟩ u).heap[c]? = some (.cells (vs.setIfInBounds k u) t (0, 0)) := by
  have hlt := lt_of_block h
  have h' : w.heap[c] = .cells vs t (0, 0) := by simpa [Array.getElem?_eq_getElem hlt] using h
  show (w.heap.modify c _)[c]? = _
  rw [Array.getElem?_eq_getElem (by simpa using hlt), Array.getElem_modify_self, h']
  rfl

theorem OwnI.only {B c : Nat} {v : Value} {l : List Int} {w w' : World} (h : OwnI B v l w) (ho : Only c w w') (hc : c < B) : OwnI B v l w' := by
  refine ⟨h.1, ?_⟩
  rcases h.2 with hv | ⟨b, cap, cur, hv, hB, hh, r⟩
  · exact .inl hv
  · exact .inr ⟨b, cap, cur, hv, hB, by rw [ho.block b (lt_of_block hh) (by omega)]; exact hh, r⟩

end Go.Proofs.YtpddinflkkcodaaDoor
