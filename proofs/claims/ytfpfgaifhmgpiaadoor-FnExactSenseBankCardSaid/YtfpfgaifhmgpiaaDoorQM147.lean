/-
  Texts of one proof, merged: Open.
-/
import Derived.Test.YtfpfgaifhmgpiaaDoorQM141
import Derived.Deep.Slices
namespace Go.Proofs.YtfpfgaifhmgpiaaDoor
open Go.RowKit Go.ChangeShapes Go.WideShapes Go.Deep

/-- A shape: 'end' and 'and' spell the fields of a struct in their order. -/
inductive Sh
  | num (k : IntKind)
  | flag
  | text
  | row (e : Sh)
  | fin
  | and (h : Sh) (t : Sh)

/-- The cells of a shape. -/
def Sh.size : Sh → Nat
  | .num _ => 1
  | .flag => 1
  | .text => 1
  | .row _ => 1
  | .fin => 0
  | .and h t => h.size + t.size

/-- The type has this shape (left), or these fields from this cell on (right). -/
def Sh.ok (P : Program) : Sh → (TypeId ⊕ (List Field × Nat)) → Bool
  | .num k, .inl t => match P.underlying t with | some (.int k') => decide (k' = k) | _ => false
  | .flag, .inl t => match P.underlying t with | some .bool => true | _ => false
  | .text, .inl t => match P.underlying t with | some .string => true | _ => false
  | .row e, .inl t => match P.underlying t with | some (.slice u) => P.cellsOf u == e.size && decide (0 < e.size) && e.ok P (.inl u) | _ => false
  | .fin, .inr (fs, _) => fs.isEmpty
  | .and h r, .inr (fs, off) => match fs with
    | [] => false
    | f :: fs => f.offset == off && P.cellsOf f.type == h.size && h.ok P (.inl f.type) && r.ok P (.inr (fs, off + h.size))
  | .and h r, .inl t => match P.underlying t with
    | some (.struct fs) => match fs.toList with
      | [] => false
      | f :: fs => f.offset == 0 && P.cellsOf f.type == h.size && h.ok P (.inl f.type) && r.ok P (.inr (fs, h.size)) && P.cellsOf t == h.size + r.size
    | _ => false
  | _, _ => false

/-- These cells are data of this shape in this world: a slice shows all that it can reach. -/
def Sh.Fits (w : World) : Sh → List Value → Prop
  | .num k, cs => ∃ n, cs = [.int k n] ∧ (Lit.int k n).wf = true
  | .flag, cs => ∃ b, cs = [.bool b]
  | .text, cs => ∃ s : ByteArray, cs = [.string s] ∧ s.size ≤ maxLen
  | .row e, cs => cs = [.slice none 0 0] ∨ ∃ (a : Addr) (len cap : Nat), cs = [.slice (some a) len cap] ∧ len ≤ cap ∧ cap ≤ maxLen ∧
      ∀ i, i < cap → ∃ cs' : List Value, cs'.length = e.size ∧ (∀ j, j < e.size → w.cell? (a.add (i * e.size + j)) = cs'[j]?) ∧ e.Fits w cs'
  | .fin, cs => cs = []
  | .and h t, cs => ∃ c1 c2, cs = c1 ++ c2 ∧ h.Fits w c1 ∧ t.Fits w c2

theorem Sh.Fits.length {w : World} : ∀ {s : Sh} {cs : List Value}, s.Fits w cs → cs.length = s.size
  | .num _, _, ⟨_, h, _⟩ => by rw [h]; rfl
  | .flag, _, ⟨_, h⟩ => by rw [h]; rfl
  | .text, _, ⟨_, h, _⟩ => by rw [h]; rfl
  | .row _, _, .inl h => by rw [h]; rfl
  | .row _, _, .inr ⟨_, _, _, h, _⟩ => by rw [h]; rfl
  | .fin, _, h => by rw [show _ = [] from h]; rfl
  | .and _ _, _, ⟨_, _, h, h1, h2⟩ => by rw [h, List.length_append, h1.length, h2.length]; rfl

/-- What was there stays as it was behind steps that leave all old blocks. -/
theorem Sh.Fits.below {w w' : World} (hb : Below w.heap.size w w') : ∀ {s : Sh} {cs : List Value}, s.Fits w cs → s.Fits w' cs
  | .num _, _, h => h
  | .flag, _, h => h
  | .text, _, h => h
  | .fin, _, h => h
  | .row _, _, .inl h => .inl h
  | .row e, _, .inr ⟨a, len, cap, h, h1, h2, h3⟩ => .inr ⟨a, len, cap, h, h1, h2, fun i hi => by
      obtain ⟨cs', hl, hc, hf⟩ := h3 i hi
      refine ⟨cs', hl, fun j hj => ?_, hf.below hb⟩
      have h4 := hc j hj
      have hs : cs'[j]? = some (cs'[j]'(by omega)) := List.getElem?_eq_getElem (by omega)
      rw [hb.cell (World.block_lt_of_cell? _ _ (h4.trans hs))]
      exact h4⟩
  | .and _ _, _, ⟨c1, c2, h, h1, h2⟩ => ⟨c1, c2, h, h1.below hb, h2.below hb⟩

variable {H : Type} {enc : TypeId × Value → H} {P : Program} {w : World} {base : Nat} {held : Bool}

/-- What is read of a value whose type has a shape is data of this shape. -/
theorem Sh.opens : ∀ (s : Sh),
    (∀ (t : TypeId) (fuel : Nat) (cs : List Value) (x : DataW H × List MemPlace), s.ok P (.inl t) = true → DataW.trod enc P w base (fun _ => true) held fuel t cs = some x → s.Fits w cs) ∧
    (∀ (fs : List Field) (off n : Nat) (cs : List Value), s.ok P (.inr (fs, off)) = true → (∀ f ∈ fs, ∃ y, DataW.trod enc P w base (fun _ => true) held n f.type ((cs.drop f.offset).take (P.cellsOf f.type)) = some y) →
      cs.length = off + s.size → s.Fits w (cs.drop off)) := by
  intro s
  induction s with
  | num k =>
    refine ⟨fun t fuel cs x ho h => ?_, fun fs off n cs ho => by simp [Sh.ok] at ho⟩
    simp only [Sh.ok] at ho
    split at ho
    · rename_i k' hu
      obtain rfl : k' = k := by simpa using ho
      obtain ⟨n, h1, _, h2⟩ := DataW.trod_int hu h
      exact ⟨n, h1, h2⟩
    · cases ho
  | flag =>
    refine ⟨fun t fuel cs x ho h => ?_, fun fs off n cs ho => by simp [Sh.ok] at ho⟩
    simp only [Sh.ok] at ho
    split at ho
    · rename_i hu
      obtain ⟨b, h1, _⟩ := DataW.trod_bool hu h
      exact ⟨b, h1⟩
    · cases ho
  | text =>
    refine ⟨fun t fuel cs x ho h => ?_, fun fs off n cs ho => by simp [Sh.ok] at ho⟩
    simp only [Sh.ok] at ho
    split at ho
    · rename_i hu
      obtain ⟨b, h1, _, h2⟩ := DataW.trod_string hu h
      exact ⟨b, h1, h2⟩
    · cases ho
  | row e ih =>
    refine ⟨fun t fuel cs x ho h => ?_, fun fs off n cs ho => by simp [Sh.ok] at ho⟩
    simp only [Sh.ok] at ho
    split at ho
    · rename_i u hu
      simp only [Bool.and_eq_true, beq_iff_eq, decide_eq_true_eq] at ho
      obtain ⟨⟨hC, hp⟩, hk⟩ := ho
      rcases open_slice hu h with ⟨h0, _⟩ | ⟨a, len, cap, m, n, D, Pl, hcs, _, hl, hm, hmm, _, hi⟩
      · exact .inl h0
      · refine .inr ⟨a, len, cap, hcs, hl, hm, fun i hic => ?_⟩
        obtain ⟨cs', hc, ht⟩ := hi i (by rw [hmm]; simpa using hic)
        obtain ⟨_, hlen, hat⟩ := World.cells?_some hc
        rw [hC] at hlen hat
        refine ⟨cs', hlen, fun j hj => ?_, ih.1 u n cs' _ hk ht⟩
        rw [← add_add]
        exact hat j hj
    · cases ho
  | fin =>
    refine ⟨fun t fuel cs x ho h => by simp [Sh.ok] at ho, fun fs off n cs ho hf hl => ?_⟩
    show cs.drop off = []
    rw [List.drop_eq_nil_iff]
    simp only [Sh.size] at hl
    omega
  | and h r ihh ihr =>
    have key : ∀ (f : Field) (fs : List Field) (off n : Nat) (cs : List Value), f.offset = off → P.cellsOf f.type = h.size → h.ok P (.inl f.type) = true → r.ok P (.inr (fs, off + h.size)) = true →
        (∀ g ∈ f :: fs, ∃ y, DataW.trod enc P w base (fun _ => true) held n g.type ((cs.drop g.offset).take (P.cellsOf g.type)) = some y) → cs.length = off + (h.size + r.size) → (Sh.and h r).Fits w (cs.drop off) := by
      intro f fs off n cs h1 h2 h3 h4 h5 h6
      obtain ⟨y, hy⟩ := h5 f (List.mem_cons_self ..)
      rw [h1, h2] at hy
      have ha := ihh.1 _ _ _ _ h3 hy
      have hb := ihr.2 fs (off + h.size) n cs h4 (fun g hg => h5 g (List.mem_cons_of_mem _ hg)) (by omega)
      refine ⟨_, _, ?_, ha, hb⟩
      rw [← List.drop_drop, List.take_append_drop]
    refine ⟨fun t fuel cs x ho hx => ?_, fun fs off n cs ho hf hl => ?_⟩
    · simp only [Sh.ok] at ho
      split at ho
      · rename_i fs hu
        obtain ⟨xs, n, _, _, hlen, hxl, hat⟩ := DataW.trod_struct hu hx
        obtain ⟨fl⟩ := fs
        simp only at ho
        split at ho
        · cases ho
        · rename_i f fs
          simp only [Bool.and_eq_true, beq_iff_eq] at ho
          obtain ⟨⟨⟨⟨h1, h2⟩, h3⟩, h4⟩, h5⟩ := ho
          have := key f fs 0 n cs h1 h2 h3 (by rw [Nat.zero_add]; exact h4) (fun g hg => by
            obtain ⟨j, hj, rfl⟩ := List.getElem_of_mem hg
            have hx2 := hat j ((f :: fs)[j]) (by rw [← Array.getElem?_toList]; exact List.getElem?_eq_getElem hj)
            have hjx : j < xs.length := by rw [hxl]; exact hj
            exact ⟨xs[j], hx2.trans (List.getElem?_eq_getElem hjx)⟩) (by rw [hlen, h5]; omega)
          simpa using this
      · cases ho
    · simp only [Sh.ok] at ho
      split at ho
      · cases ho
      · rename_i f fs
        simp only [Bool.and_eq_true, beq_iff_eq] at ho
        obtain ⟨⟨⟨h1, h2⟩, h3⟩, h4⟩ := ho
        exact key f fs off n cs h1 h2 h3 h4 hf (by simpa [Sh.size] using hl)

/-- A parameter's value, opened. -/
theorem Sh.open_arg (s : Sh) {t : TypeId} {v : Value} {d : DataW H} {ps : List MemPlace} (ho : s.ok P (.inl t) = true) (h : DataW.Trod enc P w base (fun _ => true) held t v d ps) : s.Fits w v.cells.toList := by
  obtain ⟨fuel, hf⟩ := h
  exact (s.opens.1) _ _ _ _ ho hf

end Go.Proofs.YtfpfgaifhmgpiaaDoor
