/-
  Texts of one proof, merged: RowG.
-/
import Derived.Test.YtpddinflkkcodaaDoorQM136
import Derived.Test.YtpddinflkkcodaaDoorQM137
namespace Go.Proofs.YtpddinflkkcodaaDoor
open Go.RowKit Go.PlainAid

set_option linter.unusedVariables false

/-- A type of elements: their cells, how many, and the zero. -/
structure Kd (α : Type) where
  vs : α → List Value
  d : α
  K : Nat
  len : ∀ x, (vs x).length = K
  pos : 0 < K

variable {α : Type}

theorem Kd.flat_length (k : Kd α) (l : List α) : (l.flatMap k.vs).length = l.length * k.K := by
  induction l with
  | nil => simp
  | cons b l ih => rw [List.flatMap_cons, List.length_append, ih, k.len, List.length_cons, Nat.succ_mul, Nat.add_comm]

theorem Kd.flat_at (k : Kd α) (l : List α) : ∀ i, i < l.length → ∀ j, j < k.K → (l.flatMap k.vs)[i * k.K + j]? = (k.vs (l.getD i k.d))[j]? := by
  induction l with
  | nil => intro i hi; exact absurd hi (Nat.not_lt_zero _)
  | cons b l ih =>
    intro i hi j hj
    rw [List.flatMap_cons]
    cases i with
    | zero =>
      rw [Nat.zero_mul, Nat.zero_add, List.getElem?_append_left (by rw [k.len]; exact hj)]
      rfl
    | succ i =>
      have h := ih i (by simpa using hi) j hj
      rw [List.getElem?_append_right (by rw [k.len, Nat.succ_mul]; omega), k.len, show (i + 1) * k.K + j - k.K = i * k.K + j by rw [Nat.succ_mul]; omega, h]
      rfl

/-- Cells written one behind the other. -/
def putL (c : List Value) (o : Nat) : List Value → List Value
  | [] => c
  | u :: us => putL (c.set o u) (o + 1) us

theorem putL_get : ∀ (us : List Value) (c : List Value) (o m : Nat), (putL c o us)[m]? = if o ≤ m ∧ m < o + us.length ∧ m < c.length then us[m - o]? else c[m]?
  | [], c, o, m => by simp [putL]; intro h1 h2 h3; omega
  | u :: us, c, o, m => by
    rw [putL, putL_get us, List.length_set, List.length_cons]
    by_cases h : o = m
    · subst h
      rw [if_neg (by omega)]
      by_cases hc : o < c.length
      · rw [if_pos (by omega), List.getElem?_set_self hc, Nat.sub_self]; rfl
      · rw [if_neg (by omega), List.getElem?_eq_none (by rw [List.length_set]; omega), List.getElem?_eq_none (by omega)]
    · rw [List.getElem?_set_ne h]
      by_cases hm : o ≤ m ∧ m < o + (us.length + 1) ∧ m < c.length
      · rw [if_pos (by omega), if_pos hm, show m - o = (m - (o + 1)) + 1 by omega, List.getElem?_cons_succ]
      · rw [if_neg (by omega), if_neg hm]

theorem Kd.put_flat (k : Kd α) (l : List α) (i : Nat) (hi : i < l.length) (x : α) : putL (l.flatMap k.vs) (i * k.K) (k.vs x) = (l.set i x).flatMap k.vs := by
  apply List.ext_getElem?
  intro m
  rw [putL_get, k.len, k.flat_length]
  have hp := k.pos
  by_cases hm : m < l.length * k.K
  · have hq : m / k.K < l.length := (Nat.div_lt_iff_lt_mul hp).2 hm
    have hr : m % k.K < k.K := Nat.mod_lt _ hp
    have he : m / k.K * k.K + m % k.K = m := by rw [Nat.mul_comm]; exact Nat.div_add_mod m k.K
    have hR : ((l.set i x).flatMap k.vs)[m]? = (k.vs ((l.set i x).getD (m / k.K) k.d))[m % k.K]? := by
      have := k.flat_at (l.set i x) (m / k.K) (by rw [List.length_set]; exact hq) (m % k.K) hr
      rw [he] at this
      exact this
    have hL : (l.flatMap k.vs)[m]? = (k.vs (l.getD (m / k.K) k.d))[m % k.K]? := by
      have := k.flat_at l (m / k.K) hq (m % k.K) hr
      rw [he] at this
      exact this
    rw [hR, hL]
    by_cases hqi : m / k.K = i
    · rw [if_pos (by rw [← hqi]; omega)]
      have e1 : (l.set i x).getD (m / k.K) k.d = x := by
        rw [hqi, List.getD_eq_getElem?_getD, List.getElem?_set_self hi]; rfl
      rw [e1]
      congr 1
      rw [← hqi]
      omega
    · rw [if_neg (by
        rintro ⟨h1, h2, _⟩
        refine hqi ?_
        have h3 : i ≤ m / k.K := (Nat.le_div_iff_mul_le hp).2 h1
        have h4 : m / k.K < i + 1 := (Nat.div_lt_iff_lt_mul hp).2 (by rw [Nat.succ_mul]; exact h2)
        omega)]
      congr 2
      rw [List.getD_eq_getElem?_getD, List.getD_eq_getElem?_getD, List.getElem?_set_ne (fun h => hqi h.symm)]
  · rw [if_neg (fun h => hm h.2.2), List.getElem?_eq_none (by rw [k.flat_length]; omega), List.getElem?_eq_none (by rw [k.flat_length, List.length_set]; omega)]

/-- A slice at this address shows these elements. -/
def Kd.Row (k : Kd α) (w : World) (a : Option Addr) (l : List α) : Prop :=
  l = [] ∨ ∃ b off, a = some ⟨b, off, none⟩ ∧ ∀ i, i < l.length → ∀ j, j < k.K → w.cell? ⟨b, off + i * k.K + j, none⟩ = (k.vs (l.getD i k.d))[j]?

theorem Kd.has (k : Kd α) (x : α) {j : Nat} (hj : j < k.K) : ∃ u, (k.vs x)[j]? = some u := ⟨_, List.getElem?_eq_getElem (by rw [k.len]; exact hj)⟩

theorem Kd.Row.at {k : Kd α} {w : World} {a : Option Addr} {l : List α} (h : k.Row w a l) {i : Nat} (hi : i < l.length) : ∃ b off, a = some ⟨b, off, none⟩ ∧ ∀ j, j < k.K → w.cell? ⟨b, off + i * k.K + j, none⟩ = (k.vs (l.getD i k.d))[j]? := by
  rcases h with rfl | ⟨b, off, rfl, h⟩
  · exact absurd hi (Nat.not_lt_zero _)
  · exact ⟨b, off, rfl, h i hi⟩

theorem Kd.Row.below {k : Kd α} {w w' : World} {a : Option Addr} {l : List α} (h : k.Row w a l) (hb : Below w.heap.size w w') : k.Row w' a l := by
  rcases h with h | ⟨b, off, rfl, h⟩
  · exact .inl h
  · refine .inr ⟨b, off, rfl, fun i hi j hj => ?_⟩
    obtain ⟨u, hu⟩ := k.has (l.getD i k.d) hj
    exact (hb.cell (World.block_lt_of_cell? _ _ ((h i hi j hj).trans hu))).trans (h i hi j hj)

theorem Kd.Row.take {k : Kd α} {w : World} {a : Option Addr} {l : List α} (h : k.Row w a l) (n : Nat) : k.Row w a (l.take n) := by
  rcases h with rfl | ⟨b, off, rfl, h⟩
  · left; simp
  · refine .inr ⟨b, off, rfl, fun i hi j hj => ?_⟩
    rw [List.length_take] at hi
    rw [h i (by omega) j hj, List.getD_eq_getElem?_getD, List.getD_eq_getElem?_getD, List.getElem?_take_of_lt (by omega)]

/-- The cells of a row that is read, one behind the other. -/
theorem Kd.Row.src {k : Kd α} {w : World} {ad : Addr} {l : List α} (h : k.Row w (.some ad) l) : ∀ j u, (l.flatMap k.vs)[j]? = .some u → w.cell? (ad.add j) = .some u := by
  rcases h with rfl | ⟨b, off, hb, h⟩
  · intro j u hu; simp at hu
  · cases hb
    intro m u hu
    have hp := k.pos
    have hm : m < l.length * k.K := by
      rw [← k.flat_length]
      by_cases hlt : m < (l.flatMap k.vs).length
      · exact hlt
      · rw [List.getElem?_eq_none (by omega)] at hu; cases hu
    have hq : m / k.K < l.length := (Nat.div_lt_iff_lt_mul hp).2 hm
    have hr : m % k.K < k.K := Nat.mod_lt _ hp
    have he : m / k.K * k.K + m % k.K = m := by rw [Nat.mul_comm]; exact Nat.div_add_mod m k.K
    have h1 := k.flat_at l (m / k.K) hq (m % k.K) hr
    have h2 := h (m / k.K) hq (m % k.K) hr
    rw [he, hu] at h1
    rw [← h1, Nat.add_assoc, he] at h2
    rw [Addr.add_lit]
    exact h2

/-- A row of the call's own that holds such elements. -/
def Kd.Own (k : Kd α) (T : TypeId) (B : Nat) (v : Value) (l : List α) (w : World) : Prop := w.ownsRow B T k.K v l.length (l.flatMap k.vs)

theorem Kd.Own.below {k : Kd α} {T : TypeId} {B : Nat} {v : Value} {l : List α} {w w' : World} (h : k.Own T B v l w) (hb : Below w.heap.size w w') : k.Own T B v l w' := by
  refine ⟨h.1, ?_⟩
  rcases h.2 with hv | ⟨b, cap, cur, hv, hB, hh, r⟩
  · exact .inl hv
  · exact .inr ⟨b, cap, cur, hv, hB, by rw [hb.block b (lt_of_block hh)]; exact hh, r⟩

theorem Kd.Own.only {k : Kd α} {T : TypeId} {B c : Nat} {v : Value} {l : List α} {w w' : World} (h : k.Own T B v l w) (ho : Only c w w') (hc : c < B) : k.Own T B v l w' := by
  refine ⟨h.1, ?_⟩
  rcases h.2 with hv | ⟨b, cap, cur, hv, hB, hh, r⟩
  · exact .inl hv
  · exact .inr ⟨b, cap, cur, hv, hB, by rw [ho.block b (lt_of_block hh) (by omega)]; exact hh, r⟩

theorem Kd.Own.mono {k : Kd α} {T : TypeId} {B C : Nat} {v : Value} {l : List α} {w : World} (h : k.Own T B v l w) (hC : C ≤ B) : k.Own T C v l w := by
  refine ⟨h.1, ?_⟩
  rcases h.2 with hv | ⟨b, cap, cur, hv, hB, r⟩
  · exact .inl hv
  · exact .inr ⟨b, cap, cur, hv, by omega, r⟩

theorem Kd.Own.shape {k : Kd α} {T : TypeId} {B : Nat} {v : Value} {l : List α} {w : World} (h : k.Own T B v l w) : ∃ a cap, v = .slice a l.length cap := by
  rcases h.2 with ⟨rfl, h0⟩ | ⟨g, cap, cur, rfl, _⟩
  · exact ⟨none, 0, by rw [h0]⟩
  · exact ⟨_, cap, rfl⟩

theorem Kd.Own.lo {k : Kd α} {T : TypeId} {B c n : Nat} {a : Option Addr} {l : List α} {w : World} (h : k.Own T B (.slice a n c) l w) : ∀ x, a = .some x → B ≤ x.block ∧ x.block < w.heap.size := by
  rintro x rfl
  exact World.ownsRow.lt h x.block rfl

theorem Kd.Own.keep {k : Kd α} {T : TypeId} {B c n : Nat} {a : Option Addr} {l : List α} {w w' : World} {g : Nat} (h : k.Own T B (.slice a n c) l w) (ho : Only g w w') (hne : ∀ x, a = .some x → x.block ≠ g) : k.Own T B (.slice a n c) l w' := by
  refine ⟨h.1, ?_⟩
  rcases h.2 with ⟨hv, h0⟩ | ⟨b, cap, cur, hv, hB, hh, r⟩
  · exact .inl ⟨hv, h0⟩
  · cases hv
    exact .inr ⟨b, c, cur, rfl, hB, by rw [ho.block b (lt_of_block hh) (hne _ rfl)]; exact hh, r⟩

/-- A cell of another block is written. -/
theorem Kd.Own.setCell {k : Kd α} {T : TypeId} {B c n : Nat} {a : Option Addr} {l : List α} {w : World} (h : k.Own T B (.slice a n c) l w) {p : Addr} (hne : ∀ x, a = .some x → x.block ≠ p.block) (u : Value) : k.Own T B (.slice a n c) l (w.setCell p u) := by
  refine ⟨h.1, ?_⟩
  rcases h.2 with ⟨hv, h0⟩ | ⟨b, cap, cur, hv, hB, hh, r⟩
  · exact .inl ⟨hv, h0⟩
  · cases hv
    exact .inr ⟨b, c, cur, rfl, hB, (Below.heap_setCell _ _ _ _ (hne _ rfl)).trans hh, r⟩

/-- A row of the call's own, at an index. -/
theorem Kd.Own.at {k : Kd α} {T : TypeId} {B n c : Nat} {a : Option Addr} {l : List α} {w : World} (h : k.Own T B (.slice a n c) l w) {i : Nat} (hi : i < l.length) :
    ∃ g, a = .some ⟨g, 0, none⟩ ∧ (∀ j, j < k.K → w.cell? ⟨g, i * k.K + j, none⟩ = (k.vs (l.getD i k.d))[j]?) ∧ (∀ j, w.frozen? ⟨g, j, none⟩ = false) ∧ B ≤ g ∧ g < w.heap.size := by
  have hc := fun g hg => World.ownsRow.cells h (g := g) hg
  rcases h.2 with ⟨_, h0⟩ | ⟨g, cap, cur, hv, hB, hh, _⟩
  · omega
  · cases hv
    refine ⟨g, rfl, fun j hj => ?_, fun j => by simp [World.frozen?, hh], hB, lt_of_block hh⟩
    obtain ⟨u, hu⟩ := k.has (l.getD i k.d) hj
    have := hc g rfl _ _ ((k.flat_at l i hi j hj).trans hu)
    rw [Addr.add_lit, Nat.zero_add] at this
    rw [this, hu]

theorem Kd.Own.row {k : Kd α} {T : TypeId} {B n c : Nat} {a : Option Addr} {l : List α} {w : World} (h : k.Own T B (.slice a n c) l w) : k.Row w a l := by
  rcases h.2 with ⟨hv, h0⟩ | ⟨g, cap, cur, hv, hB, hh, r⟩
  · cases hv
    exact .inl (List.length_eq_zero_iff.1 h0)
  · cases hv
    refine .inr ⟨g, 0, rfl, fun i hi j hj => ?_⟩
    obtain ⟨g', hg, h1, _⟩ := h.at hi
    cases hg
    rw [Nat.zero_add]
    exact h1 j hj

theorem Kd.Own.nil {k : Kd α} {T : TypeId} {B n c : Nat} {a : Option Addr} {l : List α} {w : World} (h : k.Own T B (.slice a n c) l w) : a = none → c = 0 := by
  rintro rfl
  rcases h.2 with ⟨hv, _⟩ | ⟨g, cap, cur, hv, _⟩ <;> cases hv
  rfl

theorem Kd.Own.cells {k : Kd α} {T : TypeId} {B n c g : Nat} {l : List α} {w : World} (h : k.Own T B (.slice (.some ⟨g, 0, none⟩) n c) l w) (hl : l.length = n) : (∀ j, w.frozen? ⟨g, j, Option.none⟩ = false) ∧ B ≤ g ∧ g < w.heap.size := by
  rcases h.2 with ⟨hv, _⟩ | ⟨g', cap, cur, hv, hB, hh, _⟩
  · cases hv
  · cases hv
    exact ⟨fun j => by simp [World.frozen?, hh], hB, lt_of_block hh⟩

theorem Kd.Own.cap {k : Kd α} {T : TypeId} {B n c : Nat} {a : Option Addr} {l : List α} {w : World} (h : k.Own T B (.slice a n c) l w) : n ≤ c ∧ c ≤ maxLen := by
  rcases h.2 with ⟨hv, _⟩ | ⟨g, cap, cur, hv, hB, hh, h1, h2, _⟩
  · cases hv; exact ⟨Nat.zero_le _, Nat.zero_le _⟩
  · cases hv; exact ⟨h1, h2⟩

/-- Cells of one block written one behind the other. -/
def putW (w : World) (g o : Nat) : List Value → World
  | [] => w
  | u :: us => putW (w.setCell ⟨g, o, none⟩ u) g (o + 1) us

/-- An element of the call's own row is written. -/
theorem Kd.Own.put {k : Kd α} {T : TypeId} {B n c g : Nat} {l : List α} {w : World} (h : k.Own T B (.slice (.some ⟨g, 0, Option.none⟩) n c) l w) (hl : l.length = n) {i : Nat} (hi : i < n) (x : α) :
    k.Own T B (.slice (.some ⟨g, 0, Option.none⟩) n c) (l.set i x) (putW w g (i * k.K) (k.vs x)) := by
  have key : ∀ (us : List Value) (w : World) (xs : List Value) (o : Nat), w.ownsRow B T k.K (.slice (.some ⟨g, 0, Option.none⟩) n c) n xs → (putW w g o us).ownsRow B T k.K (.slice (.some ⟨g, 0, Option.none⟩) n c) n (putL xs o us) := by
    intro us
    induction us with
    | nil => intro w xs o h; exact h
    | cons u us ih => intro w xs o h; exact ih _ _ _ (World.ownsRow.stored h o u).1
  have h1 := key (k.vs x) w (l.flatMap k.vs) (i * k.K) (by have := h; unfold Kd.Own at this; rw [hl] at this; exact this)
  rw [k.put_flat l i (by omega) x] at h1
  show World.ownsRow _ _ _ _ _ _ _
  rw [List.length_set, hl]
  exact h1

theorem Kd.made (k : Kd α) (n : Nat) : (madeCells (k.vs k.d).toArray (n * k.K)).toList = (List.replicate n k.d).flatMap k.vs := by
  have hl : (List.replicate n k.d).length = n := List.length_replicate
  have hp := k.pos
  apply List.ext_getElem?
  intro m
  by_cases hm : m < n * k.K
  · have hq : m / k.K < n := (Nat.div_lt_iff_lt_mul hp).2 hm
    have hr : m % k.K < k.K := Nat.mod_lt _ hp
    have he : m / k.K * k.K + m % k.K = m := by rw [Nat.mul_comm]; exact Nat.div_add_mod m k.K
    have h1 := k.flat_at (List.replicate n k.d) (m / k.K) (by omega) (m % k.K) hr
    rw [he] at h1
    have hd : (List.replicate n k.d).getD (m / k.K) k.d = k.d := by rw [List.getD_eq_getElem?_getD, List.getElem?_replicate, if_pos hq]; rfl
    rw [h1, hd]
    have hlen : m % k.K < (k.vs k.d).length := by rw [k.len]; exact hr
    have h0 : (madeCells (k.vs k.d).toArray (n * k.K)).toList[m]? = .some ((k.vs k.d).toArray[m % k.K]!) := by
      simp [madeCells, hm, k.len]
    rw [h0, List.getElem?_eq_getElem hlen]
    simp [hlen]
  · rw [List.getElem?_eq_none (by simp [size_madeCells]; omega), List.getElem?_eq_none (by rw [k.flat_length, hl]; omega)]

/-- One element more. -/
theorem Kd.Own.more {k : Kd α} {T : TypeId} {B : Nat} {v : Value} {l : List α} {x : α} {w : World} (h : w.ownsRow B T k.K v (l.length + 1) (l.flatMap k.vs ++ k.vs x)) : k.Own T B v (l ++ [x]) w := by
  unfold Kd.Own
  rw [List.length_append, List.flatMap_append]
  simpa using h

end Go.Proofs.YtpddinflkkcodaaDoor
