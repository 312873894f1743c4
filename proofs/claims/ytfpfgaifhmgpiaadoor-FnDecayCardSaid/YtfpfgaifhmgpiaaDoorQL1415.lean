/-
  Texts of one proof, merged: FlowS, GuardS.
-/
import Derived.Test.YtfpfgaifhmgpiaaDoorQL146
import Derived.Test.YtfpfgaifhmgpiaaDoorQL1410
namespace Go.Proofs.YtfpfgaifhmgpiaaDoor
open Go.RowKit

set_option linter.unusedVariables false

/-- From call p to call m its answer shows these numbers. -/
def Held (p m n : Nat) (zs : List Int) (listed : Array Bool) (x : Nat → Value) (u : World) : Prop :=
  listed.getD p false = true → listed.getD m false = false → ∃ aa cc, x p = .agg #[.slice aa n cc] ∧ RowI u aa zs

theorem Held.zero (p m n : Nat) (zs : List Int) (k : Nat) (x : Nat → Value) (u : World) : Held p m n zs (Array.replicate k false) x u := fun h => by rw [getD_replicate_false] at h; cases h

theorem Held.keep {p m n : Nat} {zs : List Int} {listed : Array Bool} {x : Nat → Value} {u u' : World} (h : Held p m n zs listed x u) {i : Nat} (hp : i ≠ p) (hm : i ≠ m) (v : Value) (hb : Below u.heap.size u u') : Held p m n zs (listed.setIfInBounds i true) (upd x i v) u' := by
  intro h1 h2
  rw [getD_set_ne false hp] at h1
  rw [getD_set_ne false hm] at h2
  obtain ⟨aa, cc, e, hr⟩ := h h1 h2
  exact ⟨aa, cc, by rw [upd_other _ _ (Ne.symm hp)]; exact e, hr.below hb⟩

theorem Held.new {p m n : Nat} {zs : List Int} {listed : Array Bool} {x : Nat → Value} {u : World} {aa : Option Addr} {cc : Nat} (hr : RowI u aa zs) : Held p m n zs (listed.setIfInBounds p true) (upd x p (.agg #[.slice aa n cc])) u :=
  fun _ _ => ⟨aa, cc, upd_same _ _ _, hr⟩

theorem Held.gone {p m n : Nat} {zs : List Int} {listed : Array Bool} {x : Nat → Value} {u : World} {i : Nat} (h : listed.getD m false = true) : Held p m n zs (listed.setIfInBounds i true) x u :=
  fun _ h2 => by rw [getD_set_true h] at h2; cases h2

theorem Held.call {p m n : Nat} {zs : List Int} {listed : Array Bool} {x : Nat → Value} {u : World} (h : m < listed.size) : Held p m n zs (listed.setIfInBounds m true) x u :=
  fun _ h2 => by rw [get_set_same false h] at h2; cases h2

/-- From operation s on a variable is there, filled by operation t. -/
def MadeV (s t base : Nat) (zero cells : Array Value) (ty : TypeId) (listed : Array Bool) (x : Nat → Value) (u : World) : Prop :=
  (listed.getD t false = true → listed.getD s false = true) ∧
  (listed.getD s false = true → ∃ g, x s = .pointer (some ⟨g, 0, none⟩) ∧ base ≤ g ∧ u.heap[g]? = some (.cells (if listed.getD t false = true then cells else zero) ty (0, 0)))

theorem MadeV.zero (s t base : Nat) (zero cells : Array Value) (ty : TypeId) (k : Nat) (x : Nat → Value) (u : World) : MadeV s t base zero cells ty (Array.replicate k false) x u :=
  ⟨fun h => (by rw [getD_replicate_false] at h; cases h), fun h => by rw [getD_replicate_false] at h; cases h⟩

theorem MadeV.keep {s t base : Nat} {zero cells : Array Value} {ty : TypeId} {listed : Array Bool} {x : Nat → Value} {u u' : World} (h : MadeV s t base zero cells ty listed x u) {i : Nat} (hs : i ≠ s) (ht : i ≠ t) (v : Value) (hb : Below u.heap.size u u') :
    MadeV s t base zero cells ty (listed.setIfInBounds i true) (upd x i v) u' := by
  refine ⟨fun h1 => ?_, fun h1 => ?_⟩
  · rw [getD_set_ne false ht] at h1
    exact getD_set_true (h.1 h1)
  · rw [getD_set_ne false hs] at h1
    rw [getD_set_ne false ht]
    obtain ⟨g, e, hg, hh⟩ := h.2 h1
    exact ⟨g, by rw [upd_other _ _ (Ne.symm hs)]; exact e, hg, keep_block hb hh (lt_of_block hh)⟩

theorem MadeV.new {s t base : Nat} {zero cells : Array Value} {ty : TypeId} {listed : Array Bool} {x : Nat → Value} {u : World} (h : MadeV s t base zero cells ty listed x u) (hst : s ≠ t) (hs : listed.getD s false = false) (hb : base ≤ u.heap.size) :
    MadeV s t base zero cells ty (listed.setIfInBounds s true) (upd x s (.pointer (some ⟨u.heap.size, 0, none⟩))) (u.alloc (.cells zero ty)) := by
  have ht : listed.getD t false = false := by
    cases e : listed.getD t false with
    | false => rfl
    | true => have := h.1 e; rw [hs] at this; cases this
  refine ⟨fun h1 => ?_, fun h1 => ?_⟩
  · rw [getD_set_ne false hst, ht] at h1; cases h1
  · rw [getD_set_ne false hst, ht]
    exact ⟨_, upd_same _ _ _, hb, heap_alloc_new _ _⟩

theorem MadeV.fill {s t base : Nat} {zero cells : Array Value} {ty : TypeId} {listed : Array Bool} {x : Nat → Value} {u' : World} {g : Nat} {v : Value} (hst : s ≠ t) (hs : listed.getD s false = true) (ht : t < listed.size) (hx : x s = .pointer (some ⟨g, 0, none⟩)) (hg : base ≤ g) (hh : u'.heap[g]? = some (.cells cells ty (0, 0))) :
    MadeV s t base zero cells ty (listed.setIfInBounds t true) (upd x t v) u' := by
  refine ⟨fun _ => getD_set_true hs, fun _ => ?_⟩
  rw [get_set_same false ht]
  exact ⟨g, by rw [upd_other _ _ hst]; exact hx, hg, hh⟩

theorem MadeV.there {s t base : Nat} {zero cells : Array Value} {ty : TypeId} {listed : Array Bool} {x : Nat → Value} {u : World} (h : MadeV s t base zero cells ty listed x u) (hs : listed.getD s false = true) (ht : listed.getD t false = false) :
    ∃ g, x s = .pointer (some ⟨g, 0, none⟩) ∧ base ≤ g ∧ u.heap[g]? = some (.cells zero ty (0, 0)) := by
  obtain ⟨g, h1, h2, h3⟩ := h.2 hs
  rw [ht] at h3
  exact ⟨g, h1, h2, h3⟩

theorem MadeV.full {s t base : Nat} {zero cells : Array Value} {ty : TypeId} {listed : Array Bool} {x : Nat → Value} {u : World} (h : MadeV s t base zero cells ty listed x u) (hs : listed.getD s false = true) (ht : listed.getD t false = true) :
    ∃ g, x s = .pointer (some ⟨g, 0, none⟩) ∧ base ≤ g ∧ u.heap[g]? = some (.cells cells ty (0, 0)) := by
  obtain ⟨g, h1, h2, h3⟩ := h.2 hs
  rw [ht] at h3
  exact ⟨g, h1, h2, h3⟩

/-- What holds of the value of operation k once it has come up. -/
def Fact (k : Nat) (F : Value → Prop) (listed : Array Bool) (x : Nat → Value) : Prop := listed.getD k false = true → F (x k)

theorem Fact.zero (k : Nat) (F : Value → Prop) (n : Nat) (x : Nat → Value) : Fact k F (Array.replicate n false) x := fun h => by rw [getD_replicate_false] at h; cases h

theorem Fact.keep {k : Nat} {F : Value → Prop} {listed : Array Bool} {x : Nat → Value} (h : Fact k F listed x) {i : Nat} (hi : i ≠ k) (v : Value) : Fact k F (listed.setIfInBounds i true) (upd x i v) := fun h1 => by
  rw [getD_set_ne false hi] at h1
  rw [upd_other _ _ (Ne.symm hi)]
  exact h h1

theorem Fact.new {k : Nat} {F : Value → Prop} {listed : Array Bool} {x : Nat → Value} {v : Value} (h : F v) : Fact k F (listed.setIfInBounds k true) (upd x k v) := fun _ => by rw [upd_same]; exact h

/-- What holds of the value of operation k in the world, from k to operation m. -/
def FactW (k m : Nat) (F : Value → World → Prop) (listed : Array Bool) (x : Nat → Value) (u : World) : Prop := listed.getD k false = true → listed.getD m false = false → F (x k) u

theorem FactW.zero (k m : Nat) (F : Value → World → Prop) (n : Nat) (x : Nat → Value) (u : World) : FactW k m F (Array.replicate n false) x u := fun h => by rw [getD_replicate_false] at h; cases h

theorem FactW.keep {k m : Nat} {F : Value → World → Prop} {listed : Array Bool} {x : Nat → Value} {u u' : World} (h : FactW k m F listed x u) {i : Nat} (hi : i ≠ k) (hm : i ≠ m) (v : Value) (hF : F (x k) u → F (x k) u') : FactW k m F (listed.setIfInBounds i true) (upd x i v) u' := fun h1 h2 => by
  rw [getD_set_ne false hi] at h1
  rw [getD_set_ne false hm] at h2
  rw [upd_other _ _ (Ne.symm hi)]
  exact hF (h h1 h2)

theorem FactW.new {k m : Nat} {F : Value → World → Prop} {listed : Array Bool} {x : Nat → Value} {u : World} {v : Value} (h : F v u) : FactW k m F (listed.setIfInBounds k true) (upd x k v) u := fun _ _ => by rw [upd_same]; exact h

theorem FactW.gone {k m : Nat} {F : Value → World → Prop} {listed : Array Bool} {x : Nat → Value} {u : World} {i : Nat} (h : listed.getD m false = true) : FactW k m F (listed.setIfInBounds i true) x u :=
  fun _ h2 => by rw [getD_set_true h] at h2; cases h2

theorem FactW.call {k m : Nat} {F : Value → World → Prop} {listed : Array Bool} {x : Nat → Value} {u : World} (h : m < listed.size) : FactW k m F (listed.setIfInBounds m true) x u :=
  fun _ h2 => by rw [get_set_same false h] at h2; cases h2

/-- One walk of each operation, with the values that are the same in every order, and what else holds. -/
theorem wp_region_flowV {P : Program} {id : Nat} {Q : Exit → Act → World → Prop} {a : Act} {w : World} {l : List Oper} (V : Nat → Option Value) (S : Array Bool → (Nat → Value) → World → Prop) (x0 : Nat → Value) (hm : P.follows .mixedOrders = true) (hB : flows l.toArray = true)
    (hx0 : a = putsX a l 0 x0) (hS0 : S (Array.replicate l.toArray.size false) x0 w.drew)
    (hs : flowSteps P l.toArray (fun listed b u => ∃ x, b = putsX a l 0 x ∧ Below w.heap.size w u ∧ Uniq V listed x ∧ S listed x u) 0 l)
    (he : ∀ listed x u, (∀ i, i < l.toArray.size → listed.getD i false = true) → Below w.heap.size w u → Uniq V listed x → S listed x u → Q .normal (putsX a l 0 x) u) : (Code.region id l.toArray true).wp P Q a w :=
  wp_region_flow (fun listed b u => ∃ x, b = putsX a l 0 x ∧ Below w.heap.size w u ∧ Uniq V listed x ∧ S listed x u) hm hB
    ⟨x0, hx0, ⟨rfl, rfl, rfl, Nat.le_refl _, fun _ _ => rfl⟩, fun k v _ h => (by rw [getD_replicate_false] at h; cases h), hS0⟩ hs
    (fun listed b u hall ⟨x, hb, h1, h2, h3⟩ => hb ▸ he listed x u hall h1 h2 h3)

end Go.Proofs.YtfpfgaifhmgpiaaDoor

namespace Go.Proofs.YtfpfgaifhmgpiaaDoor
open Go.RowKit

set_option linter.unusedVariables false

theorem unguard {P : Program} {ops : Array Oper} {Q : Exit → Act → World → Prop} {a : Act} {w : World} {rest : List Oper} {d : Option Tmp} {op : Op} {y : TypeId} {p : String} {af : Array Edge} {gd : Option (Nat × Bool)}
    (hw : Region.wanted ⟨d, op, y, p, af, gd⟩ (yielded ops a.tmps) = true) (h : wpList P ops Q (⟨d, op, y, p, af, none⟩ :: rest) a w) : wpList P ops Q (⟨d, op, y, p, af, gd⟩ :: rest) a w := by
  have h1 : Region.wanted ⟨d, op, y, p, af, none⟩ (yielded ops a.tmps) = true := rfl
  unfold wpList at h ⊢
  rw [if_pos hw]
  rw [if_pos h1] at h
  exact h

theorem guardStep {P : Program} {ops : Array Oper} {Inv : Array Bool → Act → World → Prop} {i : Nat} {d : Option Tmp} {op : Op} {y : TypeId} {p : String} {af : Array Edge} {gd : Option (Nat × Bool)}
    (hg : ∀ (listed : Array Bool) (b : Act) (u : World), listed.size = ops.size → listed.getD i false = false → (∀ k, Region.waitsFor .any ops i k = true → listed.getD k false = true) → Inv listed b u → Region.wanted ⟨d, op, y, p, af, gd⟩ (yielded ops b.tmps) = true)
    (h : flowStep P ops Inv i ⟨d, op, y, p, af, none⟩) : flowStep P ops Inv i ⟨d, op, y, p, af, gd⟩ :=
  fun listed b u h1 h2 h3 h4 => unguard (hg listed b u h1 h2 h3 h4) (h listed b u h1 h2 h3 h4)

end Go.Proofs.YtfpfgaifhmgpiaaDoor
