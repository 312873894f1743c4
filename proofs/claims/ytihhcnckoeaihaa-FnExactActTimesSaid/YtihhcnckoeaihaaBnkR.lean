/-
  Rows of banks: read, and of the call's own.
-/
import Derived.Test.YtihhcnckoeaihaaBnkM
import Derived.Test.YtihhcnckoeaihaaIntsT
namespace Go.Proofs.Ytihhcnckoeaihaa
open Go.RowKit Go.PlainAid

set_option linter.unusedVariables false

theorem vs_length (l : List Bk) : (l.flatMap Bk.vs).length = l.length * 2 := by
  induction l with
  | nil => rfl
  | cons b l ih => simp only [List.flatMap_cons, List.length_append, ih, List.length_cons, Bk.vs, List.length_nil]; omega

theorem vs_at (l : List Bk) : ∀ i, i < l.length → (l.flatMap Bk.vs)[i * 2]? = some (.bool (l.getD i bk0).op) ∧ (l.flatMap Bk.vs)[i * 2 + 1]? = some (.int .i64 (l.getD i bk0).row) := by
  induction l with
  | nil => intro i hi; exact absurd hi (Nat.not_lt_zero _)
  | cons b l ih =>
    intro i hi
    cases i with
    | zero => exact ⟨rfl, rfl⟩
    | succ i =>
      have h := ih i (by simpa using hi)
      rw [show (i + 1) * 2 = i * 2 + 1 + 1 by omega]
      exact h

theorem vs_set0 (l : List Bk) (o : Bool) : ∀ i, (l.flatMap Bk.vs).set (i * 2) (.bool o) = (l.set i ⟨o, (l.getD i bk0).row⟩).flatMap Bk.vs := by
  induction l with
  | nil => intro i; rfl
  | cons b l ih =>
    intro i
    cases i with
    | zero => rfl
    | succ i =>
      rw [show (i + 1) * 2 = i * 2 + 1 + 1 by omega]
      exact congrArg (fun z => Value.bool b.op :: Value.int .i64 b.row :: z) (ih i)

theorem vs_set1 (l : List Bk) (r : Int) : ∀ i, (l.flatMap Bk.vs).set (i * 2 + 1) (.int .i64 r) = (l.set i ⟨(l.getD i bk0).op, r⟩).flatMap Bk.vs := by
  induction l with
  | nil => intro i; rfl
  | cons b l ih =>
    intro i
    cases i with
    | zero => rfl
    | succ i =>
      rw [show (i + 1) * 2 + 1 = i * 2 + 1 + 1 + 1 by omega]
      exact congrArg (fun z => Value.bool b.op :: Value.int .i64 b.row :: z) (ih i)

/-- A slice at this address shows these banks. -/
def RowB (w : World) (a : Option Addr) (l : List Bk) : Prop :=
  l = [] ∨ ∃ b off, a = some ⟨b, off, none⟩ ∧ ∀ i, i < l.length → w.cell? ⟨b, off + i * 2, none⟩ = some (.bool (l.getD i bk0).op) ∧ w.cell? ⟨b, off + i * 2 + 1, none⟩ = some (.int .i64 (l.getD i bk0).row)

theorem RowB.at {w : World} {a : Option Addr} {l : List Bk} (h : RowB w a l) {k : Nat} (hk : k < l.length) : ∃ b off, a = some ⟨b, off, none⟩ ∧ w.cell? ⟨b, off + k * 2, none⟩ = some (.bool (l.getD k bk0).op) ∧ w.cell? ⟨b, off + k * 2 + 1, none⟩ = some (.int .i64 (l.getD k bk0).row) := by
  rcases h with rfl | ⟨b, off, rfl, h⟩
  · exact absurd hk (Nat.not_lt_zero _)
  · exact ⟨b, off, rfl, h k hk⟩

theorem RowB.below {w w' : World} {a : Option Addr} {l : List Bk} (h : RowB w a l) (hb : Below w.heap.size w w') : RowB w' a l := by
  rcases h with h | ⟨b, off, rfl, h⟩
  · exact .inl h
  · exact .inr ⟨b, off, rfl, fun i hi => ⟨(hb.cell (World.block_lt_of_cell? _ _ (h i hi).1)).trans (h i hi).1, (hb.cell (World.block_lt_of_cell? _ _ (h i hi).2)).trans (h i hi).2⟩⟩

/-- The cells of a row that is read, one behind the other. -/
theorem RowB.flat {w : World} {b off : Nat} {l : List Bk} (h : ∀ i, i < l.length → w.cell? ⟨b, off + i * 2, none⟩ = some (.bool (l.getD i bk0).op) ∧ w.cell? ⟨b, off + i * 2 + 1, none⟩ = some (.int .i64 (l.getD i bk0).row)) :
    ∀ j u, (l.flatMap Bk.vs)[j]? = some u → w.cell? ((⟨b, off, none⟩ : Addr).add j) = some u := by
  intro j u hu
  have hj : j < l.length * 2 := by
    rw [← vs_length]
    by_cases hlt : j < (l.flatMap Bk.vs).length
    · exact hlt
    · rw [List.getElem?_eq_none (by omega)] at hu; cases hu
  rw [Addr.add_lit]
  have hi : j / 2 < l.length := by omega
  rcases Nat.mod_two_eq_zero_or_one j with h0 | h0
  · have e : j = j / 2 * 2 := by omega
    rw [e] at hu ⊢
    rw [(vs_at l _ hi).1] at hu
    rw [(h _ hi).1, hu]
  · have e : j = j / 2 * 2 + 1 := by omega
    rw [e] at hu ⊢
    rw [(vs_at l _ hi).2] at hu
    rw [← Nat.add_assoc, (h _ hi).2, hu]

theorem vs_oneCell (l : List Bk) : ∀ u ∈ l.flatMap Bk.vs, u.oneCell' = true := by
  intro u hu
  obtain ⟨b, _, hb⟩ := List.mem_flatMap.1 hu
  simp only [Bk.vs, List.mem_cons, List.not_mem_nil, or_false] at hb
  rcases hb with rfl | rfl <;> rfl

/-- A row of the call's own that holds banks. -/
def OwnK (B : Nat) (v : Value) (l : List Bk) (w : World) : Prop := w.ownsRow B 82 2 v l.length (l.flatMap Bk.vs)

theorem infoK : (Try.prog.info? 82).map (fun i => (i.zero, i.size, i.bytes)) = some (some (.agg #[.bool false, .int .i64 0]), 2, 16) := by kernel_rfl

theorem OwnK.below {B : Nat} {v : Value} {l : List Bk} {w w' : World} (h : OwnK B v l w) (hb : Below w.heap.size w w') : OwnK B v l w' := by
  refine ⟨h.1, ?_⟩
  rcases h.2 with hv | ⟨b, cap, cur, hv, hB, hh, r⟩
  · exact .inl hv
  · exact .inr ⟨b, cap, cur, hv, hB, by rw [hb.block b (lt_of_block hh)]; exact hh, r⟩

theorem OwnK.only {B c : Nat} {v : Value} {l : List Bk} {w w' : World} (h : OwnK B v l w) (ho : Only c w w') (hc : c < B) : OwnK B v l w' := by
  refine ⟨h.1, ?_⟩
  rcases h.2 with hv | ⟨b, cap, cur, hv, hB, hh, r⟩
  · exact .inl hv
  · exact .inr ⟨b, cap, cur, hv, hB, by rw [ho.block b (lt_of_block hh) (by omega)]; exact hh, r⟩

theorem OwnK.mono {B C : Nat} {v : Value} {l : List Bk} {w : World} (h : OwnK B v l w) (hC : C ≤ B) : OwnK C v l w := by
  refine ⟨h.1, ?_⟩
  rcases h.2 with hv | ⟨b, cap, cur, hv, hB, r⟩
  · exact .inl hv
  · exact .inr ⟨b, cap, cur, hv, by omega, r⟩

theorem OwnK.shape {B : Nat} {v : Value} {l : List Bk} {w : World} (h : OwnK B v l w) : ∃ a cap, v = .slice a l.length cap := by
  rcases h.2 with ⟨rfl, h0⟩ | ⟨g, cap, cur, rfl, _⟩
  · exact ⟨none, 0, by rw [h0]⟩
  · exact ⟨_, cap, rfl⟩

theorem OwnK.lo {B c n : Nat} {a : Option Addr} {l : List Bk} {w : World} (h : OwnK B (.slice a n c) l w) : ∀ x, a = some x → B ≤ x.block ∧ x.block < w.heap.size := by
  rintro x rfl
  exact World.ownsRow.lt h x.block rfl

theorem OwnK.keep {B c n : Nat} {a : Option Addr} {l : List Bk} {w w' : World} {g : Nat} (h : OwnK B (.slice a n c) l w) (ho : Only g w w') (hne : ∀ x, a = some x → x.block ≠ g) : OwnK B (.slice a n c) l w' := by
  refine ⟨h.1, ?_⟩
  rcases h.2 with ⟨hv, h0⟩ | ⟨b, cap, cur, hv, hB, hh, r⟩
  · exact .inl ⟨hv, h0⟩
  · cases hv
    exact .inr ⟨b, c, cur, rfl, hB, by rw [ho.block b (lt_of_block hh) (hne _ rfl)]; exact hh, r⟩

/-- A cell of another block is written. -/
theorem OwnK.setCell {B c n : Nat} {a : Option Addr} {l : List Bk} {w : World} (h : OwnK B (.slice a n c) l w) {p : Addr} (hne : ∀ x, a = some x → x.block ≠ p.block) (u : Value) : OwnK B (.slice a n c) l (w.setCell p u) := by
  refine ⟨h.1, ?_⟩
  rcases h.2 with ⟨hv, h0⟩ | ⟨b, cap, cur, hv, hB, hh, r⟩
  · exact .inl ⟨hv, h0⟩
  · cases hv
    exact .inr ⟨b, c, cur, rfl, hB, (Below.heap_setCell _ _ _ _ (hne _ rfl)).trans hh, r⟩

/-- A row of banks of the call's own, at an index. -/
theorem OwnK.at {B n c : Nat} {a : Option Addr} {l : List Bk} {w : World} (h : OwnK B (.slice a n c) l w) {k : Nat} (hk : k < l.length) :
    ∃ g, a = some ⟨g, 0, none⟩ ∧ w.cell? ⟨g, k * 2, none⟩ = some (.bool (l.getD k bk0).op) ∧ w.cell? ⟨g, k * 2 + 1, none⟩ = some (.int .i64 (l.getD k bk0).row) ∧ (∀ j, w.frozen? ⟨g, j, none⟩ = false) ∧ B ≤ g ∧ g < w.heap.size := by
  have hc := fun g hg => World.ownsRow.cells h (g := g) hg
  rcases h.2 with ⟨_, h0⟩ | ⟨g, cap, cur, hv, hB, hh, _⟩
  · omega
  · cases hv
    have h0 := hc g rfl _ _ (vs_at l k hk).1
    have h1 := hc g rfl _ _ (vs_at l k hk).2
    rw [Addr.add_lit, Nat.zero_add] at h0 h1
    exact ⟨g, rfl, h0, h1, fun j => by simp [World.frozen?, hh], hB, lt_of_block hh⟩

theorem OwnK.row {B n c : Nat} {a : Option Addr} {l : List Bk} {w : World} (h : OwnK B (.slice a n c) l w) : RowB w a l := by
  rcases h.2 with ⟨hv, h0⟩ | ⟨g, cap, cur, hv, hB, hh, r⟩
  · cases hv
    exact .inl (List.length_eq_zero_iff.1 h0)
  · cases hv
    refine .inr ⟨g, 0, rfl, fun i hi => ?_⟩
    obtain ⟨g', hg, h1, h2, _⟩ := h.at hi
    cases hg
    rw [Nat.zero_add]
    exact ⟨h1, h2⟩

theorem OwnK.stored0 {B n c g : Nat} {l : List Bk} {w : World} (h : OwnK B (.slice (some ⟨g, 0, none⟩) n c) l w) (hl : l.length = n) (k : Nat) (o : Bool) : OwnK B (.slice (some ⟨g, 0, none⟩) n c) (l.set k ⟨o, (l.getD k bk0).row⟩) (w.setCell ⟨g, k * 2, none⟩ (.bool o)) := by
  unfold OwnK at h ⊢
  rw [hl] at h
  rw [List.length_set, ← vs_set0, hl]
  exact (World.ownsRow.stored h (k * 2) (.bool o)).1

theorem OwnK.stored1 {B n c g : Nat} {l : List Bk} {w : World} (h : OwnK B (.slice (some ⟨g, 0, none⟩) n c) l w) (hl : l.length = n) (k : Nat) (r : Int) : OwnK B (.slice (some ⟨g, 0, none⟩) n c) (l.set k ⟨(l.getD k bk0).op, r⟩) (w.setCell ⟨g, k * 2 + 1, none⟩ (.int .i64 r)) := by
  unfold OwnK at h ⊢
  rw [hl] at h
  rw [List.length_set, ← vs_set1, hl]
  exact (World.ownsRow.stored h (k * 2 + 1) (.int .i64 r)).1

theorem OwnK.stored {B n c g : Nat} {l : List Bk} {w : World} (h : OwnK B (.slice (some ⟨g, 0, none⟩) n c) l w) (hl : l.length = n) {k : Nat} (hk : k < l.length) (b : Bk) : OwnK B (.slice (some ⟨g, 0, none⟩) n c) (l.set k b) ((w.setCell ⟨g, k * 2, none⟩ (.bool b.op)).setCell ⟨g, k * 2 + 1, none⟩ (.int .i64 b.row)) := by
  have h2 := (h.stored0 hl k b.op).stored1 (by rw [List.length_set]; exact hl) k b.row
  rw [List.set_set] at h2
  have e : ((l.set k ⟨b.op, (l.getD k bk0).row⟩).getD k bk0).op = b.op := by rw [List.getD_eq_getElem?_getD, List.getElem?_set_self hk]; rfl
  rw [e] at h2
  exact h2

/-- A call that answers a rank with a row of its own of n banks. -/
def GivesK (n : Nat) (l : List Bk) (pw : Int) (w : World) (e : Ending) (w' : World) : Prop :=
  ∃ a cap, e = .returned (.agg #[.slice a n cap, .int .i64 pw]) ∧ OwnK w.heap.size (.slice a n cap) l w' ∧ Below w.heap.size w w'

theorem made_bank (n : Nat) : (madeCells #[.bool false, .int .i64 0] (n * 2)).toList = (List.replicate n bk0).flatMap Bk.vs := by
  have hl : (List.replicate n bk0).length = n := List.length_replicate
  apply List.ext_getElem?
  intro i
  by_cases hi : i < n * 2
  · have hd : ∀ j, j < n → (List.replicate n bk0).getD j bk0 = bk0 := fun j hj => by rw [List.getD_eq_getElem?_getD, List.getElem?_replicate, if_pos hj]; rfl
    have e0 : (madeCells #[.bool false, .int .i64 0] (n * 2)).toList[i]? = some ((#[.bool false, .int .i64 0] : Array Value)[i % 2]!) := by
      simp [madeCells, hi]
    rw [e0]
    rcases Nat.mod_two_eq_zero_or_one i with h0 | h0
    · have e : i = i / 2 * 2 := by omega
      have h2 := (vs_at (List.replicate n bk0) (i / 2) (by omega)).1
      rw [← e, hd _ (by omega)] at h2
      rw [h2, h0]
      rfl
    · have e : i = i / 2 * 2 + 1 := by omega
      have h2 := (vs_at (List.replicate n bk0) (i / 2) (by omega)).2
      rw [← e, hd _ (by omega)] at h2
      rw [h2, h0]
      rfl
  · rw [List.getElem?_eq_none (by simp [size_madeCells]; omega), List.getElem?_eq_none (by rw [vs_length, hl]; omega)]

theorem take_setB (zs : List Bk) (n k : Nat) (hn : zs.length = n) (hk : k < n) : (zs.take k ++ List.replicate (n - k) bk0).set k (zs.getD k bk0) = zs.take (k + 1) ++ List.replicate (n - (k + 1)) bk0 := by
  have h1 : (zs.take k).length = k := by rw [List.length_take]; omega
  have h2 : n - k = (n - (k + 1)) + 1 := by omega
  rw [List.set_append_right _ _ (by omega), h1, Nat.sub_self, h2, List.replicate_succ, List.set_cons_zero, List.take_add_one, List.append_assoc]
  congr 1
  rw [List.getD_eq_getElem?_getD, List.getElem?_eq_getElem (by omega)]
  rfl

theorem OwnK.none {B n c : Nat} {a : Option Addr} {l : List Bk} {w : World} (h : OwnK B (.slice a n c) l w) : a = none → c = 0 := by
  rintro rfl
  rcases h.2 with ⟨hv, _⟩ | ⟨g, cap, cur, hv, _⟩ <;> cases hv
  rfl

end Go.Proofs.Ytihhcnckoeaihaa
