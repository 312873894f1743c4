/-
  The draws of package spec: each answers some number in its range, and writes to the cursor's block alone.
-/
import Derived.Test.YtihhcnckoeaihaaBase
import Derived.WalkLawsBesides
import Derived.BigQuiet
import Derived.Deep.QuietTactic
namespace Go.Proofs.Ytihhcnckoeaihaa
open Go.RowKit

set_option linter.unusedVariables false

theorem IsRow.below {k : IntKind} {B : Nat} {w w' : World} {a : Option Addr} {len cap : Nat} {zs : List Int} (h : IsRow k w a len cap zs) (ha : ∀ x, a = some x → 0 < cap → x.block < B) (hb : Below B w w') : IsRow k w' a len cap zs := by
  rcases h with h | ⟨x, rfl, h1, h2, h3, h4, h5⟩
  · exact .inl h
  · refine .inr ⟨x, rfl, h1, h2, h3, fun i hi => ?_, h5⟩
    rw [hb.cell (by have := ha x rfl (by omega); unfold Addr.add; split <;> simpa using this)]
    exact h4 i hi

theorem cur_cells {w : World} {c : Nat} {v0 v1 v2 : Value} {t : TypeId} (h : w.heap[c]? = some (.cells #[v0, v1, v2] t (0, 0))) :
    w.cell? ⟨c, 0, none⟩ = some v0 ∧ w.cell? ⟨c, 1, none⟩ = some v1 ∧ w.cell? ⟨c, 2, none⟩ = some v2 ∧ w.frozen? ⟨c, 0, none⟩ = false ∧ w.frozen? ⟨c, 1, none⟩ = false ∧ w.frozen? ⟨c, 2, none⟩ = false := by
  simp [World.cell?, World.frozen?, h]

theorem and255_b (n : Int) : 0 ≤ bits .and .i64 n 255 ∧ bits .and .i64 n 255 ≤ 255 := by rw [i64_and255]; omega

theorem cur_set2 {w : World} {c : Nat} {v0 v1 v2 u : Value} {t : TypeId} (h : w.heap[c]? = some (.cells #[v0, v1, v2] t (0, 0))) :
    (w.setCell ⟨c, 2, none⟩ u).heap[c]? = some (.cells #[v0, v1, u] t (0, 0)) := by
  have hlt := lt_of_block h
  have h' : w.heap[c] = .cells #[v0, v1, v2] t (0, 0) := by simpa [Array.getElem?_eq_getElem hlt] using h
  show (w.heap.modify c _)[c]? = _
  rw [Array.getElem?_eq_getElem (by simpa using hlt), Array.getElem_modify_self, h']
  rfl

theorem cur_set1 {w : World} {c : Nat} {v0 v1 v2 u : Value} {t : TypeId} (h : w.heap[c]? = some (.cells #[v0, v1, v2] t (0, 0))) :
    (w.setCell ⟨c, 1, none⟩ u).heap[c]? = some (.cells #[v0, u, v2] t (0, 0)) := by
  have hlt := lt_of_block h
  have h' : w.heap[c] = .cells #[v0, v1, v2] t (0, 0) := by simpa [Array.getElem?_eq_getElem hlt] using h
  show (w.heap.modify c _)[c]? = _
  rw [Array.getElem?_eq_getElem (by simpa using hlt), Array.getElem_modify_self, h']
  rfl

/-- The greatest number that a draw below n answers. -/
def topOf (n : Int) : Int := if n ≤ 0 then 0 else n - 1

theorem topOf_pos {n : Int} (h : 0 < n) : topOf n = n - 1 := by unfold topOf; rw [if_neg (by omega)]

theorem topOf_non {n : Int} (h : n ≤ 0) : topOf n = 0 := by unfold topOf; rw [if_pos h]

theorem rem_top {x n : Int} (h0 : 0 < n) (hx : 0 ≤ x) : 0 ≤ x % n ∧ x % n ≤ topOf n := by
  have h1 := Int.emod_nonneg x (show n ≠ 0 by omega)
  have h2 := Int.emod_lt_of_pos x h0
  rw [topOf_pos h0]; omega

/-- What a row of bytes gives at an index. -/
theorem IsRow.byte {w : World} {a : Option Addr} {len cap : Nat} {zs : List Int} (h : IsRow .u8 w a len cap zs) {k : Nat} (hk : k < len) :
    ∃ b off : Nat, ∃ y : Int, a = some ⟨b, off, none⟩ ∧ w.cell? ⟨b, off + k, none⟩ = some (.int .u8 y) ∧ 0 ≤ y ∧ y ≤ 255 := by
  rcases h with ⟨rfl, rfl, rfl, rfl⟩ | ⟨x, rfl, h1, h2, h3, h4, h5⟩
  · omega
  have hk' := h4 k (by omega)
  obtain ⟨b, off, spot⟩ := x
  have hspot : spot = none := by simpa [Addr.add] using World.cell?_spot (h4 0 (by omega))
  subst hspot
  have hu : (Lit.int .u8 (zs.getD k 0)).wf = true := by
    refine h5 _ ?_
    rw [List.getD_eq_getElem?_getD, List.getElem?_eq_getElem (by omega)]
    exact List.getElem_mem _
  have hub : 0 ≤ zs.getD k 0 ∧ zs.getD k 0 ≤ 255 := by simpa [Lit.wf, IntKind.min, IntKind.max, IntKind.signed, IntKind.bits] using hu
  exact ⟨b, off, _, rfl, by rw [← Addr.add_lit]; exact hk', hub.1, hub.2⟩

theorem IsRow.len_le {w : World} {k : IntKind} {a : Option Addr} {len cap : Nat} {zs : List Int} (h : IsRow k w a len cap zs) : len ≤ maxLen := by
  rcases h with ⟨_, rfl, _⟩ | ⟨x, _, h1, h2, _⟩
  · unfold maxLen; omega
  · omega

theorem IsRow.lt {w : World} {k : IntKind} {a : Option Addr} {len cap : Nat} {zs : List Int} (h : IsRow k w a len cap zs) {x : Addr} (hx : a = some x) (hc : 0 < cap) : x.block < w.heap.size := by
  rcases h with ⟨rfl, _⟩ | ⟨y, rfl, h1, h2, h3, h4, h5⟩
  · cases hx
  · cases hx
    have := World.block_lt_of_cell? _ _ (h4 0 (by omega))
    simpa [Addr.add] using this

/-- A row of ints that is there: block b, from cell 0 on. -/
def Ints (w : World) (b : Nat) (zs : List Int) : Prop := b < w.heap.size ∧ ∀ i, i < zs.length → w.cell? ⟨b, i, none⟩ = some (.int .i64 (zs.getD i 0))

theorem Ints.only {w w' : World} {b c : Nat} {zs : List Int} (h : Ints w b zs) (ho : Only c w w') (hne : b ≠ c) : Ints w' b zs :=
  ⟨Nat.lt_of_lt_of_le h.1 ho.size, fun i hi => (World.cell?_of_block (w := w) (ho.block b h.1 hne)).trans (h.2 i hi)⟩

theorem ints_new (w : World) (zs : List Int) (vs : Array Value) (t : TypeId) (h : vs = (zs.map (Value.int .i64)).toArray) : Ints (w.alloc (.cells vs t)) w.heap.size zs := by
  subst h
  refine ⟨by simp, fun i hi => ?_⟩
  have h2 := heap_alloc_new w (.cells (zs.map (Value.int .i64)).toArray t)
  unfold World.cell?
  simp only [h2]
  simp [hi]

def Is64 (x : Int) : Prop := -9223372036854775808 ≤ x ∧ x ≤ 9223372036854775807

/-- The numbers among which spec.l01Number picks. -/
def edges : List Int := [-1, 0, 127, 128, 16383, 16384, 1000000000, 1000000001, 9223372036854775807, -9223372036854775808]

end Go.Proofs.Ytihhcnckoeaihaa
