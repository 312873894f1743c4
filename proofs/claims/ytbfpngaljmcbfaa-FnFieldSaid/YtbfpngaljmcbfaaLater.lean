/-
  Regions that draw their order and whose callees make memory of their own: one walk in the order of the text, over all worlds that keep the old blocks.
-/
import Derived.Test.YtbfpngaljmcbfaaBase
import Derived.WalkLawsBesides
import Derived.BigQuiet
import Derived.Deep.QuietTactic
import Derived.Deep.RegionWith
namespace Go.Proofs.Ytbfpngaljmcbfaa
open Go.RowKit

/-- A call that answers v and leaves all old blocks. -/
def Gives (v : Value) (w : World) (e : Ending) (w' : World) : Prop := e = .returned v ∧ Below w.heap.size w w'

/-- A world behind w that keeps the blocks of w. -/
structure Later (w : World) where
  to : World
  ok : Below w.heap.size w to

instance (w : World) : Nonempty (Later w) := ⟨⟨w, Below.refl _ _⟩⟩

theorem wp_region_later {P : Program} {id : Nat} {Q : Exit → Act → World → Prop} {a : Act} {w : World} {l : List Oper} (hm : P.follows .mixedOrders = true) (hB : Region.lexB .any l.toArray = true)
    (h : wpQuiet P l.toArray (fun w' => ∃ z : Later w, w' = z.to) (fun a' => ∀ w', (∃ z : Later w, w' = z.to) → Q .normal a' w') l a) : (Code.region id l.toArray true).wp P Q a w :=
  wp_region_quiet (C := fun w' => ∃ z : Later w, w' = z.to) hm hB ⟨⟨w.drew, rfl, rfl, rfl, Nat.le_refl _, fun _ _ => rfl⟩, rfl⟩ (by simpa using h)

theorem Later.cell {w : World} (z : Later w) {p : Addr} {v : Value} (h : w.cell? p = some v) : z.to.cell? p = some v :=
  (z.ok.cell (World.block_lt_of_cell? _ _ h)).trans h

theorem Later.block {w : World} (z : Later w) {k : Nat} {o : Obj} (h : w.heap[k]? = some o) : z.to.heap[k]? = some o :=
  (z.ok.block k (lt_of_block h)).trans h

theorem Gives.later {P : Program} {f : FuncId} {args : Array Value} {w : World} {v : Value} (z : Later w) (h : Calls P f args z.to (Gives v z.to)) :
    Calls P f args z.to fun e w'' => e = .returned v ∧ ∃ z' : Later w, w'' = z'.to :=
  h.mono fun _ w'' ⟨he, hb⟩ => ⟨he, ⟨w'', z.ok.trans (hb.mono z.ok.size)⟩, rfl⟩

theorem Gives.later_same {P : Program} {f : FuncId} {args : Array Value} {w : World} {v : Value} (z : Later w) (h : Calls P f args z.to fun e w' => e = .returned v ∧ z.to = w') :
    Calls P f args z.to fun e w'' => e = .returned v ∧ ∃ z' : Later w, w'' = z'.to :=
  h.mono fun _ _ ⟨he, hb⟩ => ⟨he, z, hb.symm⟩

theorem cells2 {w : World} {c : Nat} {v0 v1 : Value} {t : TypeId} {fr : Nat × Nat} (h : w.heap[c]? = some (.cells #[v0, v1] t fr)) :
    w.cell? ⟨c, 0, none⟩ = some v0 ∧ w.cell? ⟨c, 1, none⟩ = some v1 := by
  simp [World.cell?, h]

theorem cells3 {w : World} {c : Nat} {v0 v1 v2 : Value} {t : TypeId} {fr : Nat × Nat} (h : w.heap[c]? = some (.cells #[v0, v1, v2] t fr)) :
    w.cell? ⟨c, 0, none⟩ = some v0 ∧ w.cell? ⟨c, 1, none⟩ = some v1 ∧ w.cell? ⟨c, 2, none⟩ = some v2 := by
  simp [World.cell?, h]

theorem cells4 {w : World} {c : Nat} {v0 v1 v2 v3 : Value} {t : TypeId} {fr : Nat × Nat} (h : w.heap[c]? = some (.cells #[v0, v1, v2, v3] t fr)) :
    w.cell? ⟨c, 0, none⟩ = some v0 ∧ w.cell? ⟨c, 1, none⟩ = some v1 ∧ w.cell? ⟨c, 2, none⟩ = some v2 ∧ w.cell? ⟨c, 3, none⟩ = some v3 := by
  simp [World.cell?, h]

theorem thawed {w : World} {c : Nat} {vs : Array Value} {t : TypeId} (h : w.heap[c]? = some (.cells vs t (0, 0))) (j : Nat) : w.frozen? ⟨c, j, none⟩ = false := by
  simp [World.frozen?, h]

theorem box3_0 (w : World) (A B C : Obj) : (((w.alloc A).alloc B).alloc C).heap[w.heap.size]? = some A := by
  rw [Below.heap_alloc _ _ _ (by simp; omega)]; exact heap_alloc2_old w A B

theorem box3_1 (w : World) (A B C : Obj) : (((w.alloc A).alloc B).alloc C).heap[w.heap.size + 1]? = some B := by
  rw [Below.heap_alloc _ _ _ (by simp)]; exact heap_alloc2_new w A B

theorem box3_2 (w : World) (A B C : Obj) : (((w.alloc A).alloc B).alloc C).heap[w.heap.size + 1 + 1]? = some C := by
  have h := heap_alloc2_new (w.alloc A) B C
  rwa [World.size_alloc] at h

/-- A cell kept behind a call. -/
theorem keep_cell {w w' : World} {B : Nat} (h : Below B w w') {p : Addr} {v : Value} (hc : w.cell? p = some v) (hp : p.block < B) : w'.cell? p = some v := (h.cell hp).trans hc

theorem keep_block {w w' : World} {B k : Nat} {o : Obj} (h : Below B w w') (hc : w.heap[k]? = some o) (hp : k < B) : w'.heap[k]? = some o := (h.block k hp).trans hc

end Go.Proofs.Ytbfpngaljmcbfaa
