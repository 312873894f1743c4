/-
  Texts of one proof, merged: Later, GfI, GfQ, GfR, GfS.
-/
import Derived.Test.YtfpfgaifhmgpiaaDoorQL141
import Derived.Test.YtfpfgaifhmgpiaaDoorQL142
import Derived.BigQuiet
import Derived.Deep.QuietTactic
import Derived.Deep.RegionWith
import Derived.WalkLawsBesides
namespace Go.Proofs.YtfpfgaifhmgpiaaDoor
open Go.RowKit

/-- A call that answers v and leaves all old blocks. -/
def Gives (v : Value) (w : World) (e : Ending) (w' : World) : Prop := e = .returned v ∧ Below w.heap.size w w'

/-- A world behind w that keeps the blocks of w. -/
structure Later (w : World) where
  to : World
  ok : Below w.heap.size w to

instance (w : World) : Nonempty (Later w) := ⟨⟨w, Below.refl _ _⟩⟩

theorem wp_region_later {P : Program} {id : Nat} {Q : Exit → Act → World → Prop} {a : Act} {w : World} {l : List Oper} (hm : P.follows .mixedOrders = true) (hB : Region.lexB .any l.toArray = true)
    (h : wpQuiet P l.toArray (fun w' => ∃ z : Later w, w' = z.to) (fun a' => ∀ w', (∃ z : Later w, w' = z.to) → Q .normal a' w') l a) : (Code.region id l.toArray true).wp P Q a w :=
  wp_region_quiet (C := fun w' => ∃ z : Later w, w' = z.to) hm hB ⟨⟨w.drew, rfl, rfl, rfl, Nat.le_refl _, fun _ _ => rfl⟩, rfl⟩ (by simpa using h)

theorem Later.cell {w : World} (z : Later w) {p : Addr} {v : Value} (h : w.cell? p = some v) : z.to.cell? p = some v :=
  (z.ok.cell (World.block_lt_of_cell? _ _ h)).trans h

theorem Later.block {w : World} (z : Later w) {k : Nat} {o : Obj} (h : w.heap[k]? = some o) : z.to.heap[k]? = some o :=
  (z.ok.block k (lt_of_block h)).trans h

theorem Gives.later {P : Program} {f : FuncId} {args : Array Value} {w : World} {v : Value} (z : Later w) (h : Calls P f args z.to (Gives v z.to)) :
    Calls P f args z.to fun e w'' => e = .returned v ∧ ∃ z' : Later w, w'' = z'.to :=
  h.mono fun _ w'' ⟨he, hb⟩ => ⟨he, ⟨w'', z.ok.trans (hb.mono z.ok.size)⟩, rfl⟩

theorem Gives.later_same {P : Program} {f : FuncId} {args : Array Value} {w : World} {v : Value} (z : Later w) (h : Calls P f args z.to fun e w' => e = .returned v ∧ z.to = w') :
    Calls P f args z.to fun e w'' => e = .returned v ∧ ∃ z' : Later w, w'' = z'.to :=
  h.mono fun _ _ ⟨he, hb⟩ => ⟨he, z, hb.symm⟩

theorem cells2 {w : World} {c : Nat} {v0 v1 : Value} {t : TypeId} {fr : Nat × Nat} (h : w.heap[c]? = some (.cells #[v0, v1] t fr)) :
    w.cell? ⟨c, 0, none⟩ = some v0 ∧ w.cell? ⟨c, 1, none⟩ = some v1 := by
  simp [World.cell?, h]

theorem cells3 {w : World} {c : Nat} {v0 v1 v2 : Value} {t : TypeId} {fr : Nat × Nat} (h : w.heap[c]? = some (.cells #[v0, v1, v2] t fr)) :
    w.cell? ⟨c, 0, none⟩ = some v0 ∧ w.cell? ⟨c, 1, none⟩ = some v1 ∧ w.cell? ⟨c, 2, none⟩ = some v2 := by
  simp [World.cell?, h]

theorem cells4 {w : World} {c : Nat} {v0 v1 v2 v3 : Value} {t : TypeId} {fr : Nat × Nat} (h : w.heap[c]? = some (.cells #[v0, v1, v2, v3] t fr)) :
    w.cell? ⟨c, 0, none⟩ = some v0 ∧ w.cell? ⟨c, 1, none⟩ = some v1 ∧ w.cell? ⟨c, 2, none⟩ = some v2 ∧ w.cell? ⟨c, 3, none⟩ = some v3 := by
  simp [World.cell?, h]

theorem thawed {w : World} {c : Nat} {vs : Array Value} {t : TypeId} (h : w.heap[c]? = some (.cells vs t (0, 0))) (j : Nat) : w.frozen? ⟨c, j, none⟩ = false := by
  simp [World.frozen?, h]

theorem box3_0 (w : World) (A B C : Obj) : (((w.alloc A).alloc B).alloc C).heap[w.heap.size]? = some A := by
  rw [Below.heap_alloc _ _ _ (by simp; omega)]; exact heap_alloc2_old w A B

theorem box3_1 (w : World) (A B C : Obj) : (((w.alloc A).alloc B).alloc C).heap[w.heap.size + 1]? = some B := by
  rw [Below.heap_alloc _ _ _ (by simp)]; exact heap_alloc2_new w A B

theorem box3_2 (w : World) (A B C : Obj) : (((w.alloc A).alloc B).alloc C).heap[w.heap.size + 1 + 1]? = some C := by
  have h := heap_alloc2_new (w.alloc A) B C
  rwa [World.size_alloc] at h

theorem keep_block {w w' : World} {B k : Nat} {o : Obj} (h : Below B w w') (hc : w.heap[k]? = some o) (hp : k < B) : w'.heap[k]? = some o := (h.block k hp).trans hc

end Go.Proofs.YtfpfgaifhmgpiaaDoor

namespace Go.Proofs.YtfpfgaifhmgpiaaDoor
open Go.RowKit

set_option linter.unusedVariables false

def IGfAdd : Prop := ∀ (a b v : Int) (hv : gfAdd a b = v) (w : World), Calls Tryd.prog 111 #[.int .i64 a, .int .i64 b] w (Gives (.int .i64 v) w)

end Go.Proofs.YtfpfgaifhmgpiaaDoor

namespace Go.Proofs.YtfpfgaifhmgpiaaDoor
open Go.RowKit

set_option linter.unusedVariables false

/-- The multiples of a stand in the block g. -/
def MulAt (w : World) (g a : Nat) : Prop := w.heap[g]? = some (.cells #[.int .i64 ((gX a 0 : Nat) : Int), .int .i64 ((gX a 1 : Nat) : Int), .int .i64 ((gX a 2 : Nat) : Int), .int .i64 ((gX a 3 : Nat) : Int)] 139 (0, 0))

theorem MulAt.below {w w' : World} {g a : Nat} (h : MulAt w g a) (hb : Below w.heap.size w w') : MulAt w' g a := keep_block hb h (lt_of_block h)

theorem implIsEl_is (a : Int) (v : Bool) (hv : decide (El a) = v) (w : World) :
    Calls Tryd.prog 105 #[.int .i64 a] w (Says (.bool v) w) := by
  have HV := Lib.hid hv
  clear hv
  by_cases h0 : 0 ≤ a
  · have t0 : decide (0 ≤ a) = true := decide_eq_true h0
    have HE : Hid (decide (a < 16) = v) := by show _ = _; rw [← HV.out]; exact decide_eq_decide.2 ⟨fun h => ⟨h0, by omega⟩, fun h => by have := h.2; omega⟩
    clear h0
    go_enter Tryd.func105, Tryd.ntmps105
    go_wp2
    go_ret
    exact ⟨ret_b HE.out, rfl⟩
  · have t0 : decide (0 ≤ a) = false := decide_eq_false h0
    have HE : Hid (false = v) := by show _ = _; rw [← HV.out]; exact (decide_eq_false (fun h => h0 h.1)).symm
    clear h0
    go_enter Tryd.func105, Tryd.ntmps105
    go_wp2
    go_ret
    exact ⟨ret_b HE.out, rfl⟩

end Go.Proofs.YtfpfgaifhmgpiaaDoor

namespace Go.Proofs.YtfpfgaifhmgpiaaDoor
open Go.RowKit

set_option linter.unusedVariables false

/-- What stands in the place j when k places are written. -/
def gP (a k j : Nat) : Int := if j < k then ((gX a j : Nat) : Int) else 0

end Go.Proofs.YtfpfgaifhmgpiaaDoor

namespace Go.Proofs.YtfpfgaifhmgpiaaDoor
open Go.RowKit

set_option linter.unusedVariables false

theorem el_nat {a : Int} (h : El a) : ∃ n : Nat, a = (n : Int) ∧ n < 16 := ⟨a.toNat, by have := h.1; omega, by have := h.2; omega⟩

theorem implGfAdd_is : IGfAdd := by
  intro a b v hv w
  by_cases ha : El a
  case neg =>
    have HE : Hid (-1 = v) := by show _ = _; rw [← hv]; exact (if_neg (fun h => ha h.1)).symm
    have KA := Lib.hid (decide_eq_false ha)
    clear ha hv
    go_enter Tryd.func111, Tryd.ntmps111
    go_wp2_with fail
    refine (implIsEl_is a false KA.out _).mono ?_
    rintro e w2 ⟨rfl, rfl⟩
    go_wp2_with fail
    go_ret
    exact ⟨ret_i HE.out, Below.refl _ _⟩
  have KA := Lib.hid (decide_eq_true ha)
  by_cases hb : El b
  case neg =>
    have HE : Hid (-1 = v) := by show _ = _; rw [← hv]; exact (if_neg (fun h => hb h.2)).symm
    have KB := Lib.hid (decide_eq_false hb)
    clear ha hb hv
    go_enter Tryd.func111, Tryd.ntmps111
    go_wp2_with fail
    refine (implIsEl_is a true KA.out _).mono ?_
    rintro e w2 ⟨rfl, rfl⟩
    go_wp2_with fail
    refine (implIsEl_is b false KB.out _).mono ?_
    rintro e w3 ⟨rfl, rfl⟩
    go_wp2_with fail
    go_ret
    exact ⟨ret_i HE.out, Below.refl _ _⟩
  have KB := Lib.hid (decide_eq_true hb)
  obtain ⟨x, rfl, hx⟩ := el_nat ha
  obtain ⟨y, rfl, hy⟩ := el_nat hb
  have HE : Hid (bits .xor .i64 (x : Int) (y : Int) = v) := by
    show _ = _
    rw [← hv, i64_xor_nat x y (by omega) (by omega)]
    exact (gfAdd_nat hx hy).symm
  clear ha hb hv
  go_enter Tryd.func111, Tryd.ntmps111
  go_wp2_with fail
  refine (implIsEl_is (x : Int) true KA.out _).mono ?_
  rintro e w2 ⟨rfl, rfl⟩
  go_wp2_with fail
  refine (implIsEl_is (y : Int) true KB.out _).mono ?_
  rintro e w3 ⟨rfl, rfl⟩
  go_wp2_with fail
  go_ret
  exact ⟨ret_i HE.out, Below.refl _ _⟩

end Go.Proofs.YtfpfgaifhmgpiaaDoor
