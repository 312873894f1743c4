/-
  Texts of one proof, merged: BnkV, BnkF.
-/
import Derived.Test.YthplhjdfajhmpaaQX6
import Derived.Test.YthplhjdfajhmpaaQX7
import Derived.Test.YthplhjdfajhmpaaQX9
import Derived.Test.YthplhjdfajhmpaaQX10
import Derived.Test.YthplhjdfajhmpaaQX14
import Derived.Test.YthplhjdfajhmpaaQX15
namespace Go.Proofs.Ythplhjdfajhmpaa
open Go.RowKit Go.PlainAid

set_option linter.unusedVariables false

/-- What a copy appends: the cells of a row that is read. -/
theorem RowB.src {w : World} {ad : Addr} {l : List Bk} (h : RowB w (some ad) l) : ∀ j u, (l.flatMap Bk.vs)[j]? = some u → w.cell? (ad.add j) = some u := by
  rcases h with rfl | ⟨b, off, hb, h⟩
  · intro j u hu; simp at hu
  · cases hb
    exact RowB.flat h

end Go.Proofs.Ythplhjdfajhmpaa

namespace Go.Proofs.Ythplhjdfajhmpaa
open Go.RowKit

set_option linter.unusedVariables false

theorem OwnK.apart {B n c g : Nat} {a : Option Addr} {l : List Bk} {u : World} {vs : Array Value} {fr : Nat × Nat} (h : OwnK B (.slice a n c) l u) (hh : u.heap[g]? = some (.cells vs 83 fr)) : ∀ x, a = some x → x.block ≠ g := by
  rintro x rfl e
  rcases h.2 with ⟨hv, _⟩ | ⟨b, cap, cur, hv, _, hb, _⟩
  · cases hv
  · cases hv
    subst e
    rw [hb] at hh
    injection hh with h1
    injection h1 with _ h2 _
    exact absurd h2 (by decide)

/-- From operation s on a variable is there; behind t it holds a rank with a row of its own. -/
def MadeR (s t base n : Nat) (l : List Bk) (pw : Int) (listed : Array Bool) (x : Nat → Value) (u : World) : Prop :=
  (listed.getD t false = true → listed.getD s false = true) ∧
  (listed.getD s false = true → ∃ g, x s = .pointer (some ⟨g, 0, none⟩) ∧ base ≤ g ∧
    (listed.getD t false = false → u.heap[g]? = some (.cells #[.slice none 0 0, .int .i64 0] 83)) ∧
    (listed.getD t false = true → ∃ aa cc, u.heap[g]? = some (.cells #[.slice aa n cc, .int .i64 pw] 83) ∧ OwnK base (.slice aa n cc) l u))

theorem MadeR.zero (s t base n : Nat) (l : List Bk) (pw : Int) (k : Nat) (x : Nat → Value) (u : World) : MadeR s t base n l pw (Array.replicate k false) x u :=
  ⟨fun h => (by rw [getD_replicate_false] at h; cases h), fun h => by rw [getD_replicate_false] at h; cases h⟩

theorem MadeR.keep {s t base n : Nat} {l : List Bk} {pw : Int} {listed : Array Bool} {x : Nat → Value} {u u' : World} (h : MadeR s t base n l pw listed x u) {i : Nat} (hs : i ≠ s) (ht : i ≠ t) (v : Value) (hb : Below u.heap.size u u') :
    MadeR s t base n l pw (listed.setIfInBounds i true) (upd x i v) u' := by
  refine ⟨fun h1 => ?_, fun h1 => ?_⟩
  · rw [getD_set_ne false ht] at h1
    exact getD_set_true (h.1 h1)
  · rw [getD_set_ne false hs] at h1
    rw [getD_set_ne false ht]
    obtain ⟨g, e, hg, hz, hf⟩ := h.2 h1
    refine ⟨g, by rw [upd_other _ _ (Ne.symm hs)]; exact e, hg, fun h0 => keep_block hb (hz h0) (lt_of_block (hz h0)), fun h0 => ?_⟩
    obtain ⟨aa, cc, hh, ho⟩ := hf h0
    exact ⟨aa, cc, keep_block hb hh (lt_of_block hh), ho.below hb⟩

theorem MadeR.new {s t base n : Nat} {l : List Bk} {pw : Int} {listed : Array Bool} {x : Nat → Value} {u : World} (h : MadeR s t base n l pw listed x u) (hst : s ≠ t) (hs : listed.getD s false = false) (hb : base ≤ u.heap.size) :
    MadeR s t base n l pw (listed.setIfInBounds s true) (upd x s (.pointer (some ⟨u.heap.size, 0, none⟩))) (u.alloc (.cells #[.slice none 0 0, .int .i64 0] 83)) := by
  have ht : listed.getD t false = false := by
    cases e : listed.getD t false with
    | false => rfl
    | true => have := h.1 e; rw [hs] at this; cases this
  refine ⟨fun h1 => ?_, fun h1 => ?_⟩
  · rw [getD_set_ne false hst, ht] at h1; cases h1
  · rw [getD_set_ne false hst, ht]
    exact ⟨_, upd_same _ _ _, hb, fun _ => heap_alloc_new _ _, fun h0 => by cases h0⟩

theorem MadeR.there {s t base n : Nat} {l : List Bk} {pw : Int} {listed : Array Bool} {x : Nat → Value} {u : World} (h : MadeR s t base n l pw listed x u) (hs : listed.getD s false = true) (ht : listed.getD t false = false) :
    ∃ g, x s = .pointer (some ⟨g, 0, none⟩) ∧ base ≤ g ∧ u.heap[g]? = some (.cells #[.slice none 0 0, .int .i64 0] 83) := by
  obtain ⟨g, e, hg, hz, _⟩ := h.2 hs
  exact ⟨g, e, hg, hz ht⟩

theorem MadeR.fill {s t base n : Nat} {l : List Bk} {pw : Int} {listed : Array Bool} {x : Nat → Value} {u' : World} {g cc : Nat} {aa : Option Addr} {v : Value} (hst : s ≠ t) (hs : listed.getD s false = true) (ht : t < listed.size) (hx : x s = .pointer (some ⟨g, 0, none⟩)) (hg : base ≤ g)
    (hh : u'.heap[g]? = some (.cells #[.slice aa n cc, .int .i64 pw] 83)) (ho : OwnK base (.slice aa n cc) l u') : MadeR s t base n l pw (listed.setIfInBounds t true) (upd x t v) u' := by
  refine ⟨fun _ => getD_set_true hs, fun _ => ⟨g, by rw [upd_other _ _ hst]; exact hx, hg, fun h0 => ?_, fun _ => ⟨aa, cc, hh, ho⟩⟩⟩
  rw [get_set_same false ht] at h0
  cases h0

theorem MadeR.full {s t base n : Nat} {l : List Bk} {pw : Int} {listed : Array Bool} {x : Nat → Value} {u : World} (h : MadeR s t base n l pw listed x u) (hs : listed.getD s false = true) (ht : listed.getD t false = true) :
    ∃ g aa cc, x s = .pointer (some ⟨g, 0, none⟩) ∧ base ≤ g ∧ u.heap[g]? = some (.cells #[.slice aa n cc, .int .i64 pw] 83) ∧ OwnK base (.slice aa n cc) l u := by
  obtain ⟨g, e, hg, _, hf⟩ := h.2 hs
  obtain ⟨aa, cc, hh, ho⟩ := hf ht
  exact ⟨g, aa, cc, e, hg, hh, ho⟩

end Go.Proofs.Ythplhjdfajhmpaa
