/-
  Texts of one proof, merged: Open.
-/
import Derived.Test.YtfpfgaifhmgpiaaDoorQL141
import Derived.Deep.Slices
namespace Go.Proofs.YtfpfgaifhmgpiaaDoor
open Go.RowKit Go.ChangeShapes Go.WideShapes Go.Deep

/-- A shape: 'end' and 'and' spell the fields of a struct in their order. -/
inductive Sh
  | num (k : IntKind)
  | flag
  | text
  | row (e : Sh)
  | fin
  | and (h : Sh) (t : Sh)

/-- The cells of a shape. -/
def Sh.size : Sh → Nat
  | .num _ => 1
  | .flag => 1
  | .text => 1
  | .row _ => 1
  | .fin => 0
  | .and h t => h.size + t.size

/-- The type has this shape (left), or these fields from this cell on (right). -/
def Sh.ok (P : Program) : Sh → (TypeId ⊕ (List Field × Nat)) → Bool
  | .num k, .inl t => match P.underlying t with | some (.int k') => decide (k' = k) | _ => false
  | .flag, .inl t => match P.underlying t with | some .bool => true | _ => false
  | .text, .inl t => match P.underlying t with | some .string => true | _ => false
  | .row e, .inl t => match P.underlying t with | some (.slice u) => P.cellsOf u == e.size && decide (0 < e.size) && e.ok P (.inl u) | _ => false
  | .fin, .inr (fs, _) => fs.isEmpty
  | .and h r, .inr (fs, off) => match fs with
    | [] => false
    | f :: fs => f.offset == off && P.cellsOf f.type == h.size && h.ok P (.inl f.type) && r.ok P (.inr (fs, off + h.size))
  | .and h r, .inl t => match P.underlying t with
    | some (.struct fs) => match fs.toList with
      | [] => false
      | f :: fs => f.offset == 0 && P.cellsOf f.type == h.size && h.ok P (.inl f.type) && r.ok P (.inr (fs, h.size)) && P.cellsOf t == h.size + r.size
    | _ => false
  | _, _ => false

/-- These cells are data of this shape in this world: a slice shows all that it can reach. -/
def Sh.Fits (w : World) : Sh → List Value → Prop
  | .num k, cs => ∃ n, cs = [.int k n] ∧ (Lit.int k n).wf = true
  | .flag, cs => ∃ b, cs = [.bool b]
  | .text, cs => ∃ s : ByteArray, cs = [.string s] ∧ s.size ≤ maxLen
  | .row e, cs => cs = [.slice none 0 0] ∨ ∃ (a : Addr) (len cap : Nat), cs = [.slice (some a) len cap] ∧ len ≤ cap ∧ cap ≤ maxLen ∧
      ∀ i, i < cap → ∃ cs' : List Value, cs'.length = e.size ∧ (∀ j, j < e.size → w.cell? (a.add (i * e.size + j)) = cs'[j]?) ∧ e.Fits w cs'
  | .fin, cs => cs = []
  | .and h t, cs => ∃ c1 c2, cs = c1 ++ c2 ∧ h.Fits w c1 ∧ t.Fits w c2

theorem Sh.Fits.length {w : World} : ∀ {s : Sh} {cs : List Value}, s.Fits w cs → cs.length = s.size
  | .num _, _, ⟨_, h, _⟩ => by rw [h]; rfl
  | .flag, _, ⟨_, h⟩ => by rw [h]; rfl
  | .text, _, ⟨_, h, _⟩ => by rw [h]; rfl
  | .row _, _, .inl h => by rw [h]; rfl
  | .row _, _, .inr ⟨_, _, _, h, _⟩ => by rw [h]; rfl
  | .fin, _, h => by rw [show _ = [] from h]; rfl
  | .and _ _, _, ⟨_, _, h, h1, h2⟩ => by rw [h, List.length_append, h1.length, h2.length]; rfl

/-- What was there stays as it was behind steps that leave all old blocks. -/
theorem Sh.Fits.below {w w' : World} (hb : Below w.heap.size w w') : ∀ {s : Sh} {cs : List Value}, s.Fits w cs → s.Fits w' cs
  | .num _, _, h => h
  | .flag, _, h => h
  | .text, _, h => h
  | .fin, _, h => h
  | .row _, _, .inl h => .inl h
  | .row e, _, .inr ⟨a, len, cap, h, h1, h2, h3⟩ => .inr ⟨a, len, cap, h, h1, h2, fun i hi => by
      obtain ⟨cs', hl, hc, hf⟩ := h3 i hi
      refine ⟨cs', hl, fun j hj => ?_, hf.below hb⟩
      have h4 := hc j hj
      have hs : cs'[j]? = some (cs'[j]'(by omega)) := List.getElem?_eq_getElem (by omega)
      rw [hb.cell (World.block_lt_of_cell? _ _ (h4.trans hs))]
      exact h4⟩
  | .and _ _, _, ⟨c1, c2, h, h1, h2⟩ => ⟨c1, c2, h, h1.below hb, h2.below hb⟩

variable {H : Type} {enc : TypeId × Value → H} {P : Program} {w : World} {base : Nat} {held : Bool}

end Go.Proofs.YtfpfgaifhmgpiaaDoor
