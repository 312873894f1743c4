/-
  Texts of one proof, merged: RowG, Kn, DrawGeoW.
-/
import Derived.Test.YtfpfgaifhmgpiaaDoorQL144
import Derived.Test.YtfpfgaifhmgpiaaDoorQL146
import Derived.Test.YtfpfgaifhmgpiaaDoorQL147
import Derived.Test.YtfpfgaifhmgpiaaDoorQL148
namespace Go.Proofs.YtfpfgaifhmgpiaaDoor
open Go.RowKit Go.PlainAid

set_option linter.unusedVariables false

/-- A type of elements: their cells, how many, and the zero. -/
structure Kd (α : Type) where
  vs : α → List Value
  d : α
  K : Nat
  len : ∀ x, (vs x).length = K
  pos : 0 < K

variable {α : Type}

theorem Kd.flat_length (k : Kd α) (l : List α) : (l.flatMap k.vs).length = l.length * k.K := by
  induction l with
  | nil => simp
  | cons b l ih => rw [List.flatMap_cons, List.length_append, ih, k.len, List.length_cons, Nat.succ_mul, Nat.add_comm]

theorem Kd.flat_at (k : Kd α) (l : List α) : ∀ i, i < l.length → ∀ j, j < k.K → (l.flatMap k.vs)[i * k.K + j]? = (k.vs (l.getD i k.d))[j]? := by
  induction l with
  | nil => intro i hi; exact absurd hi (Nat.not_lt_zero _)
  | cons b l ih =>
    intro i hi j hj
    rw [List.flatMap_cons]
    cases i with
    | zero =>
      rw [Nat.zero_mul, Nat.zero_add, List.getElem?_append_left (by rw [k.len]; exact hj)]
      rfl
    | succ i =>
      have h := ih i (by simpa using hi) j hj
      rw [List.getElem?_append_right (by rw [k.len, Nat.succ_mul]; omega), k.len, show (i + 1) * k.K + j - k.K = i * k.K + j by rw [Nat.succ_mul]; omega, h]
      rfl

/-- Cells written one behind the other. -/
def putL (c : List Value) (o : Nat) : List Value → List Value
  | [] => c
  | u :: us => putL (c.set o u) (o + 1) us

theorem putL_get : ∀ (us : List Value) (c : List Value) (o m : Nat), (putL c o us)[m]? = if o ≤ m ∧ m < o + us.length ∧ m < c.length then us[m - o]? else c[m]?
  | [], c, o, m => by simp [putL]; intro h1 h2 h3; omega
  | u :: us, c, o, m => by
    rw [putL, putL_get us, List.length_set, List.length_cons]
    by_cases h : o = m
    · subst h
      rw [if_neg (by omega)]
      by_cases hc : o < c.length
      · rw [if_pos (by omega), List.getElem?_set_self hc, Nat.sub_self]; rfl
      · rw [if_neg (by omega), List.getElem?_eq_none (by rw [List.length_set]; omega), List.getElem?_eq_none (by omega)]
    · rw [List.getElem?_set_ne h]
      by_cases hm : o ≤ m ∧ m < o + (us.length + 1) ∧ m < c.length
      · rw [if_pos (by omega), if_pos hm, show m - o = (m - (o + 1)) + 1 by omega, List.getElem?_cons_succ]
      · rw [if_neg (by omega), if_neg hm]

theorem Kd.put_flat (k : Kd α) (l : List α) (i : Nat) (hi : i < l.length) (x : α) : putL (l.flatMap k.vs) (i * k.K) (k.vs x) = (l.set i x).flatMap k.vs := by
  apply List.ext_getElem?
  intro m
  rw [putL_get, k.len, k.flat_length]
  have hp := k.pos
  by_cases hm : m < l.length * k.K
  · have hq : m / k.K < l.length := (Nat.div_lt_iff_lt_mul hp).2 hm
    have hr : m % k.K < k.K := Nat.mod_lt _ hp
    have he : m / k.K * k.K + m % k.K = m := by rw [Nat.mul_comm]; exact Nat.div_add_mod m k.K
    have hR : ((l.set i x).flatMap k.vs)[m]? = (k.vs ((l.set i x).getD (m / k.K) k.d))[m % k.K]? := by
      have := k.flat_at (l.set i x) (m / k.K) (by rw [List.length_set]; exact hq) (m % k.K) hr
      rw [he] at this
      exact this
    have hL : (l.flatMap k.vs)[m]? = (k.vs (l.getD (m / k.K) k.d))[m % k.K]? := by
      have := k.flat_at l (m / k.K) hq (m % k.K) hr
      rw [he] at this
      exact this
    rw [hR, hL]
    by_cases hqi : m / k.K = i
    · rw [if_pos (by rw [← hqi]; omega)]
      have e1 : (l.set i x).getD (m / k.K) k.d = x := by
        rw [hqi, List.getD_eq_getElem?_getD, List.getElem?_set_self hi]; rfl
      rw [e1]
      congr 1
      rw [← hqi]
      omega
    · rw [if_neg (by
        rintro ⟨h1, h2, _⟩
        refine hqi ?_
        have h3 : i ≤ m / k.K := (Nat.le_div_iff_mul_le hp).2 h1
        have h4 : m / k.K < i + 1 := (Nat.div_lt_iff_lt_mul hp).2 (by rw [Nat.succ_mul]; exact h2)
        omega)]
      congr 2
      rw [List.getD_eq_getElem?_getD, List.getD_eq_getElem?_getD, List.getElem?_set_ne (fun h => hqi h.symm)]
  · rw [if_neg (fun h => hm h.2.2), List.getElem?_eq_none (by rw [k.flat_length]; omega), List.getElem?_eq_none (by rw [k.flat_length, List.length_set]; omega)]

/-- A slice at this address shows these elements. -/
def Kd.Row (k : Kd α) (w : World) (a : Option Addr) (l : List α) : Prop :=
  l = [] ∨ ∃ b off, a = some ⟨b, off, none⟩ ∧ ∀ i, i < l.length → ∀ j, j < k.K → w.cell? ⟨b, off + i * k.K + j, none⟩ = (k.vs (l.getD i k.d))[j]?

theorem Kd.has (k : Kd α) (x : α) {j : Nat} (hj : j < k.K) : ∃ u, (k.vs x)[j]? = some u := ⟨_, List.getElem?_eq_getElem (by rw [k.len]; exact hj)⟩

theorem Kd.Row.at {k : Kd α} {w : World} {a : Option Addr} {l : List α} (h : k.Row w a l) {i : Nat} (hi : i < l.length) : ∃ b off, a = some ⟨b, off, none⟩ ∧ ∀ j, j < k.K → w.cell? ⟨b, off + i * k.K + j, none⟩ = (k.vs (l.getD i k.d))[j]? := by
  rcases h with rfl | ⟨b, off, rfl, h⟩
  · exact absurd hi (Nat.not_lt_zero _)
  · exact ⟨b, off, rfl, h i hi⟩

theorem Kd.Row.below {k : Kd α} {w w' : World} {a : Option Addr} {l : List α} (h : k.Row w a l) (hb : Below w.heap.size w w') : k.Row w' a l := by
  rcases h with h | ⟨b, off, rfl, h⟩
  · exact .inl h
  · refine .inr ⟨b, off, rfl, fun i hi j hj => ?_⟩
    obtain ⟨u, hu⟩ := k.has (l.getD i k.d) hj
    exact (hb.cell (World.block_lt_of_cell? _ _ ((h i hi j hj).trans hu))).trans (h i hi j hj)

theorem Kd.Row.take {k : Kd α} {w : World} {a : Option Addr} {l : List α} (h : k.Row w a l) (n : Nat) : k.Row w a (l.take n) := by
  rcases h with rfl | ⟨b, off, rfl, h⟩
  · left; simp
  · refine .inr ⟨b, off, rfl, fun i hi j hj => ?_⟩
    rw [List.length_take] at hi
    rw [h i (by omega) j hj, List.getD_eq_getElem?_getD, List.getD_eq_getElem?_getD, List.getElem?_take_of_lt (by omega)]

/-- The cells of a row that is read, one behind the other. -/
theorem Kd.Row.src {k : Kd α} {w : World} {ad : Addr} {l : List α} (h : k.Row w (.some ad) l) : ∀ j u, (l.flatMap k.vs)[j]? = .some u → w.cell? (ad.add j) = .some u := by
  rcases h with rfl | ⟨b, off, hb, h⟩
  · intro j u hu; simp at hu
  · cases hb
    intro m u hu
    have hp := k.pos
    have hm : m < l.length * k.K := by
      rw [← k.flat_length]
      by_cases hlt : m < (l.flatMap k.vs).length
      · exact hlt
      · rw [List.getElem?_eq_none (by omega)] at hu; cases hu
    have hq : m / k.K < l.length := (Nat.div_lt_iff_lt_mul hp).2 hm
    have hr : m % k.K < k.K := Nat.mod_lt _ hp
    have he : m / k.K * k.K + m % k.K = m := by rw [Nat.mul_comm]; exact Nat.div_add_mod m k.K
    have h1 := k.flat_at l (m / k.K) hq (m % k.K) hr
    have h2 := h (m / k.K) hq (m % k.K) hr
    rw [he, hu] at h1
    rw [← h1, Nat.add_assoc, he] at h2
    rw [Addr.add_lit]
    exact h2

/-- A row of the call's own that holds such elements. -/
def Kd.Own (k : Kd α) (T : TypeId) (B : Nat) (v : Value) (l : List α) (w : World) : Prop := w.ownsRow B T k.K v l.length (l.flatMap k.vs)

theorem Kd.Own.below {k : Kd α} {T : TypeId} {B : Nat} {v : Value} {l : List α} {w w' : World} (h : k.Own T B v l w) (hb : Below w.heap.size w w') : k.Own T B v l w' := by
  refine ⟨h.1, ?_⟩
  rcases h.2 with hv | ⟨b, cap, cur, hv, hB, hh, r⟩
  · exact .inl hv
  · exact .inr ⟨b, cap, cur, hv, hB, by rw [hb.block b (lt_of_block hh)]; exact hh, r⟩

theorem Kd.Own.only {k : Kd α} {T : TypeId} {B c : Nat} {v : Value} {l : List α} {w w' : World} (h : k.Own T B v l w) (ho : Only c w w') (hc : c < B) : k.Own T B v l w' := by
  refine ⟨h.1, ?_⟩
  rcases h.2 with hv | ⟨b, cap, cur, hv, hB, hh, r⟩
  · exact .inl hv
  · exact .inr ⟨b, cap, cur, hv, hB, by rw [ho.block b (lt_of_block hh) (by omega)]; exact hh, r⟩

theorem Kd.Own.mono {k : Kd α} {T : TypeId} {B C : Nat} {v : Value} {l : List α} {w : World} (h : k.Own T B v l w) (hC : C ≤ B) : k.Own T C v l w := by
  refine ⟨h.1, ?_⟩
  rcases h.2 with hv | ⟨b, cap, cur, hv, hB, r⟩
  · exact .inl hv
  · exact .inr ⟨b, cap, cur, hv, by omega, r⟩

theorem Kd.Own.shape {k : Kd α} {T : TypeId} {B : Nat} {v : Value} {l : List α} {w : World} (h : k.Own T B v l w) : ∃ a cap, v = .slice a l.length cap := by
  rcases h.2 with ⟨rfl, h0⟩ | ⟨g, cap, cur, rfl, _⟩
  · exact ⟨none, 0, by rw [h0]⟩
  · exact ⟨_, cap, rfl⟩

theorem Kd.Own.lo {k : Kd α} {T : TypeId} {B c n : Nat} {a : Option Addr} {l : List α} {w : World} (h : k.Own T B (.slice a n c) l w) : ∀ x, a = .some x → B ≤ x.block ∧ x.block < w.heap.size := by
  rintro x rfl
  exact World.ownsRow.lt h x.block rfl

theorem Kd.Own.keep {k : Kd α} {T : TypeId} {B c n : Nat} {a : Option Addr} {l : List α} {w w' : World} {g : Nat} (h : k.Own T B (.slice a n c) l w) (ho : Only g w w') (hne : ∀ x, a = .some x → x.block ≠ g) : k.Own T B (.slice a n c) l w' := by
  refine ⟨h.1, ?_⟩
  rcases h.2 with ⟨hv, h0⟩ | ⟨b, cap, cur, hv, hB, hh, r⟩
  · exact .inl ⟨hv, h0⟩
  · cases hv
    exact .inr ⟨b, c, cur, rfl, hB, by rw [ho.block b (lt_of_block hh) (hne _ rfl)]; exact hh, r⟩

/-- A cell of another block is written. -/
theorem Kd.Own.setCell {k : Kd α} {T : TypeId} {B c n : Nat} {a : Option Addr} {l : List α} {w : World} (h : k.Own T B (.slice a n c) l w) {p : Addr} (hne : ∀ x, a = .some x → x.block ≠ p.block) (u : Value) : k.Own T B (.slice a n c) l (w.setCell p u) := by
  refine ⟨h.1, ?_⟩
  rcases h.2 with ⟨hv, h0⟩ | ⟨b, cap, cur, hv, hB, hh, r⟩
  · exact .inl ⟨hv, h0⟩
  · cases hv
    exact .inr ⟨b, c, cur, rfl, hB, (Below.heap_setCell _ _ _ _ (hne _ rfl)).trans hh, r⟩

/-- A row of the call's own, at an index. -/
theorem Kd.Own.at {k : Kd α} {T : TypeId} {B n c : Nat} {a : Option Addr} {l : List α} {w : World} (h : k.Own T B (.slice a n c) l w) {i : Nat} (hi : i < l.length) :
    ∃ g, a = .some ⟨g, 0, none⟩ ∧ (∀ j, j < k.K → w.cell? ⟨g, i * k.K + j, none⟩ = (k.vs (l.getD i k.d))[j]?) ∧ (∀ j, w.frozen? ⟨g, j, none⟩ = false) ∧ B ≤ g ∧ g < w.heap.size := by
  have hc := fun g hg => World.ownsRow.cells h (g := g) hg
  rcases h.2 with ⟨_, h0⟩ | ⟨g, cap, cur, hv, hB, hh, _⟩
  · omega
  · cases hv
    refine ⟨g, rfl, fun j hj => ?_, fun j => by simp [World.frozen?, hh], hB, lt_of_block hh⟩
    obtain ⟨u, hu⟩ := k.has (l.getD i k.d) hj
    have := hc g rfl _ _ ((k.flat_at l i hi j hj).trans hu)
    rw [Addr.add_lit, Nat.zero_add] at this
    rw [this, hu]

theorem Kd.Own.row {k : Kd α} {T : TypeId} {B n c : Nat} {a : Option Addr} {l : List α} {w : World} (h : k.Own T B (.slice a n c) l w) : k.Row w a l := by
  rcases h.2 with ⟨hv, h0⟩ | ⟨g, cap, cur, hv, hB, hh, r⟩
  · cases hv
    exact .inl (List.length_eq_zero_iff.1 h0)
  · cases hv
    refine .inr ⟨g, 0, rfl, fun i hi j hj => ?_⟩
    obtain ⟨g', hg, h1, _⟩ := h.at hi
    cases hg
    rw [Nat.zero_add]
    exact h1 j hj

theorem Kd.Own.nil {k : Kd α} {T : TypeId} {B n c : Nat} {a : Option Addr} {l : List α} {w : World} (h : k.Own T B (.slice a n c) l w) : a = none → c = 0 := by
  rintro rfl
  rcases h.2 with ⟨hv, _⟩ | ⟨g, cap, cur, hv, _⟩ <;> cases hv
  rfl

theorem Kd.Own.cells {k : Kd α} {T : TypeId} {B n c g : Nat} {l : List α} {w : World} (h : k.Own T B (.slice (.some ⟨g, 0, none⟩) n c) l w) (hl : l.length = n) : (∀ j, w.frozen? ⟨g, j, Option.none⟩ = false) ∧ B ≤ g ∧ g < w.heap.size := by
  rcases h.2 with ⟨hv, _⟩ | ⟨g', cap, cur, hv, hB, hh, _⟩
  · cases hv
  · cases hv
    exact ⟨fun j => by simp [World.frozen?, hh], hB, lt_of_block hh⟩

theorem Kd.Own.cap {k : Kd α} {T : TypeId} {B n c : Nat} {a : Option Addr} {l : List α} {w : World} (h : k.Own T B (.slice a n c) l w) : n ≤ c ∧ c ≤ maxLen := by
  rcases h.2 with ⟨hv, _⟩ | ⟨g, cap, cur, hv, hB, hh, h1, h2, _⟩
  · cases hv; exact ⟨Nat.zero_le _, Nat.zero_le _⟩
  · cases hv; exact ⟨h1, h2⟩

/-- Cells of one block written one behind the other. -/
def putW (w : World) (g o : Nat) : List Value → World
  | [] => w
  | u :: us => putW (w.setCell ⟨g, o, none⟩ u) g (o + 1) us

/-- An element of the call's own row is written. -/
theorem Kd.Own.put {k : Kd α} {T : TypeId} {B n c g : Nat} {l : List α} {w : World} (h : k.Own T B (.slice (.some ⟨g, 0, Option.none⟩) n c) l w) (hl : l.length = n) {i : Nat} (hi : i < n) (x : α) :
    k.Own T B (.slice (.some ⟨g, 0, Option.none⟩) n c) (l.set i x) (putW w g (i * k.K) (k.vs x)) := by
  have key : ∀ (us : List Value) (w : World) (xs : List Value) (o : Nat), w.ownsRow B T k.K (.slice (.some ⟨g, 0, Option.none⟩) n c) n xs → (putW w g o us).ownsRow B T k.K (.slice (.some ⟨g, 0, Option.none⟩) n c) n (putL xs o us) := by
    intro us
    induction us with
    | nil => intro w xs o h; exact h
    | cons u us ih => intro w xs o h; exact ih _ _ _ (World.ownsRow.stored h o u).1
  have h1 := key (k.vs x) w (l.flatMap k.vs) (i * k.K) (by have := h; unfold Kd.Own at this; rw [hl] at this; exact this)
  rw [k.put_flat l i (by omega) x] at h1
  show World.ownsRow _ _ _ _ _ _ _
  rw [List.length_set, hl]
  exact h1

theorem putW_heap {g p : Nat} (hp : p ≠ g) : ∀ (us : List Value) (w : World) (o : Nat), (putW w g o us).heap[p]? = w.heap[p]?
  | [], _, _ => rfl
  | u :: us, w, o => (putW_heap hp us _ (o + 1)).trans (Below.heap_setCell _ _ _ _ hp)

theorem Kd.made (k : Kd α) (n : Nat) : (madeCells (k.vs k.d).toArray (n * k.K)).toList = (List.replicate n k.d).flatMap k.vs := by
  have hl : (List.replicate n k.d).length = n := List.length_replicate
  have hp := k.pos
  apply List.ext_getElem?
  intro m
  by_cases hm : m < n * k.K
  · have hq : m / k.K < n := (Nat.div_lt_iff_lt_mul hp).2 hm
    have hr : m % k.K < k.K := Nat.mod_lt _ hp
    have he : m / k.K * k.K + m % k.K = m := by rw [Nat.mul_comm]; exact Nat.div_add_mod m k.K
    have h1 := k.flat_at (List.replicate n k.d) (m / k.K) (by omega) (m % k.K) hr
    rw [he] at h1
    have hd : (List.replicate n k.d).getD (m / k.K) k.d = k.d := by rw [List.getD_eq_getElem?_getD, List.getElem?_replicate, if_pos hq]; rfl
    rw [h1, hd]
    have hlen : m % k.K < (k.vs k.d).length := by rw [k.len]; exact hr
    have h0 : (madeCells (k.vs k.d).toArray (n * k.K)).toList[m]? = .some ((k.vs k.d).toArray[m % k.K]!) := by
      simp [madeCells, hm, k.len]
    rw [h0, List.getElem?_eq_getElem hlen]
    simp [hlen]
  · rw [List.getElem?_eq_none (by simp [size_madeCells]; omega), List.getElem?_eq_none (by rw [k.flat_length, hl]; omega)]

/-- One element more. -/
theorem Kd.Own.more {k : Kd α} {T : TypeId} {B : Nat} {v : Value} {l : List α} {x : α} {w : World} (h : w.ownsRow B T k.K v (l.length + 1) (l.flatMap k.vs ++ k.vs x)) : k.Own T B v (l ++ [x]) w := by
  unfold Kd.Own
  rw [List.length_append, List.flatMap_append]
  simpa using h

end Go.Proofs.YtfpfgaifhmgpiaaDoor

namespace Go.Proofs.YtfpfgaifhmgpiaaDoor
open Go.RowKit Go.PlainAid

set_option linter.unusedVariables false

/-- Of all blocks that are there, at most those of S have turned. -/
structure OnlyS (S : List Nat) (w w' : World) : Prop where
  os : w'.os = w.os
  tape : w'.tape = w.tape
  output : w'.output = w.output
  size : w.heap.size ≤ w'.heap.size
  block : ∀ k, k < w.heap.size → k ∉ S → w'.heap[k]? = w.heap[k]?

theorem OnlyS.refl (S : List Nat) (w : World) : OnlyS S w w := ⟨rfl, rfl, rfl, Nat.le_refl _, fun _ _ _ => rfl⟩

theorem OnlyS.trans {S : List Nat} {a b d : World} (h : OnlyS S a b) (k : OnlyS S b d) : OnlyS S a d :=
  ⟨k.os.trans h.os, k.tape.trans h.tape, k.output.trans h.output, Nat.le_trans h.size k.size, fun i hi hn => (k.block i (Nat.lt_of_lt_of_le hi h.size) hn).trans (h.block i hi hn)⟩

theorem OnlyS.mono {S T : List Nat} {w w' : World} (h : OnlyS S w w') (hs : ∀ b ∈ S, b ∈ T) : OnlyS T w w' :=
  ⟨h.os, h.tape, h.output, h.size, fun k hk hn => h.block k hk (fun hb => hn (hs k hb))⟩

theorem OnlyS.below {S : List Nat} {B : Nat} {w w' : World} (h : OnlyS S w w') (hB : ∀ b ∈ S, B ≤ b) (hs : B ≤ w.heap.size) : Below B w w' :=
  ⟨h.os, h.tape, h.output, h.size, fun k hk => h.block k (by omega) (fun hb => by have := hB k hb; omega)⟩

theorem Below.onlyS {S : List Nat} {w w' : World} (h : Below w.heap.size w w') : OnlyS S w w' :=
  ⟨h.os, h.tape, h.output, h.size, fun k hk _ => h.block k hk⟩

theorem Only.onlyS {g : Nat} {w w' : World} (h : Only g w w') : OnlyS [g] w w' :=
  ⟨h.os, h.tape, h.output, h.size, fun k hk hn => h.block k hk (fun e => hn (by rw [e]; exact List.mem_singleton.2 rfl))⟩

theorem OnlyS.setCell {S : List Nat} {a w : World} (h : OnlyS S a w) {p : Addr} (hp : p.block ∈ S) (u : Value) : OnlyS S a (w.setCell p u) :=
  h.trans ⟨rfl, rfl, rfl, by simp [World.setCell], fun k _ hn => Below.heap_setCell _ _ _ _ (fun e => hn (e ▸ hp))⟩

theorem OnlyS.drewN {S : List Nat} {a w : World} (h : OnlyS S a w) (n : Nat) : OnlyS S a (w.drewN n) := ⟨h.os, h.tape, h.output, h.size, h.block⟩

/-- A kind of data: how many cells it has, what cells show it, what cells and blocks hold it. -/
structure Kn (α : Type) where
  K : Nat
  rd : World → List Value → α → Prop
  own : World → List Nat → List Value → α → Prop
  len : ∀ {w : World} {cs : List Value} {x : α}, rd w cs x → cs.length = K
  below : ∀ {w w' : World} {cs : List Value} {x : α}, rd w cs x → Below w.heap.size w w' → rd w' cs x
  read : ∀ {w : World} {S : List Nat} {cs : List Value} {x : α}, own w S cs x → rd w cs x
  lt : ∀ {w : World} {S : List Nat} {cs : List Value} {x : α}, own w S cs x → ∀ b ∈ S, b < w.heap.size
  nodup : ∀ {w : World} {S : List Nat} {cs : List Value} {x : α}, own w S cs x → S.Nodup
  same : ∀ {w w' : World} {S : List Nat} {cs : List Value} {x : α}, own w S cs x → (∀ b ∈ S, w'.heap[b]? = w.heap[b]?) → own w' S cs x

variable {α β : Type}

theorem Kn.ownBelow (k : Kn α) {w w' : World} {S : List Nat} {cs : List Value} {x : α} (h : k.own w S cs x) (hb : Below w.heap.size w w') : k.own w' S cs x :=
  k.same h (fun b hm => hb.block b (k.lt h b hm))

theorem Kn.ownKeep (k : Kn α) {w w' : World} {S T : List Nat} {cs : List Value} {x : α} (h : k.own w S cs x) (ho : OnlyS T w w') (hn : ∀ b ∈ S, b ∉ T) : k.own w' S cs x :=
  k.same h (fun b hm => ho.block b (k.lt h b hm) (hn b hm))

/-- Plain cells. -/
def Kn.flat (vs : α → List Value) (n : Nat) (hl : ∀ x, (vs x).length = n) : Kn α where
  K := n
  rd := fun _ cs x => cs = vs x
  own := fun _ S cs x => S = [] ∧ cs = vs x
  len := fun h => by rw [h]; exact hl _
  below := fun h _ => h
  read := fun h => h.2
  lt := fun h b hb => by rw [h.1] at hb; cases hb
  nodup := fun h => by rw [h.1]; exact List.nodup_nil
  same := fun h _ => h

/-- One behind the other. -/
def Kn.pair (k : Kn α) (m : Kn β) : Kn (α × β) where
  K := k.K + m.K
  rd := fun w cs x => ∃ c1 c2, cs = c1 ++ c2 ∧ k.rd w c1 x.1 ∧ m.rd w c2 x.2
  own := fun w S cs x => ∃ S1 S2 c1 c2, S = S1 ++ S2 ∧ cs = c1 ++ c2 ∧ k.own w S1 c1 x.1 ∧ m.own w S2 c2 x.2 ∧ (S1 ++ S2).Nodup
  len := fun ⟨c1, c2, e, h1, h2⟩ => by rw [e, List.length_append, k.len h1, m.len h2]
  below := fun ⟨c1, c2, e, h1, h2⟩ hb => ⟨c1, c2, e, k.below h1 hb, m.below h2 hb⟩
  read := fun ⟨_, _, c1, c2, _, e, h1, h2, _⟩ => ⟨c1, c2, e, k.read h1, m.read h2⟩
  lt := fun ⟨S1, S2, _, _, e, _, h1, h2, _⟩ b hb => by
    rw [e] at hb
    rcases List.mem_append.1 hb with h | h
    · exact k.lt h1 b h
    · exact m.lt h2 b h
  nodup := fun ⟨_, _, _, _, e, _, _, _, h⟩ => by rw [e]; exact h
  same := fun ⟨S1, S2, c1, c2, e, e2, h1, h2, h3⟩ hs => ⟨S1, S2, c1, c2, e, e2, k.same h1 (fun b hb => hs b (by rw [e]; exact List.mem_append_left _ hb)), m.same h2 (fun b hb => hs b (by rw [e]; exact List.mem_append_right _ hb)), h3⟩

/-- Elements one behind the other, read. -/
def Kn.rds (k : Kn α) (w : World) : List Value → List α → Prop
  | cs, [] => cs = []
  | cs, x :: l => ∃ c1 c2, cs = c1 ++ c2 ∧ k.rd w c1 x ∧ k.rds w c2 l

/-- Elements one behind the other, with the blocks behind them. -/
def Kn.owns (k : Kn α) (w : World) : List Nat → List Value → List α → Prop
  | S, cs, [] => S = [] ∧ cs = []
  | S, cs, x :: l => ∃ S1 S2 c1 c2, S = S1 ++ S2 ∧ cs = c1 ++ c2 ∧ k.own w S1 c1 x ∧ k.owns w S2 c2 l

theorem Kn.rds_len (k : Kn α) {w : World} : ∀ {l : List α} {cs : List Value}, k.rds w cs l → cs.length = l.length * k.K
  | [], cs, h => by rw [show cs = [] from h]; simp
  | x :: l, cs, ⟨c1, c2, e, h1, h2⟩ => by
    rw [e, List.length_append, k.len h1, k.rds_len h2, List.length_cons, Nat.succ_mul, Nat.add_comm]

theorem Kn.rds_below (k : Kn α) {w w' : World} (hb : Below w.heap.size w w') : ∀ {l : List α} {cs : List Value}, k.rds w cs l → k.rds w' cs l
  | [], _, h => h
  | x :: l, _, ⟨c1, c2, e, h1, h2⟩ => ⟨c1, c2, e, k.below h1 hb, k.rds_below hb h2⟩

theorem Kn.owns_rds (k : Kn α) {w : World} : ∀ {l : List α} {S : List Nat} {cs : List Value}, k.owns w S cs l → k.rds w cs l
  | [], _, _, h => h.2
  | x :: l, _, _, ⟨_, _, c1, c2, _, e, h1, h2⟩ => ⟨c1, c2, e, k.read h1, k.owns_rds h2⟩

theorem Kn.owns_lt (k : Kn α) {w : World} : ∀ {l : List α} {S : List Nat} {cs : List Value}, k.owns w S cs l → ∀ b ∈ S, b < w.heap.size
  | [], S, _, h, b, hb => by rw [h.1] at hb; cases hb
  | x :: l, S, _, ⟨S1, S2, _, _, e, _, h1, h2⟩, b, hb => by
    rw [e] at hb
    rcases List.mem_append.1 hb with h | h
    · exact k.lt h1 b h
    · exact k.owns_lt h2 b h

theorem Kn.owns_same (k : Kn α) {w w' : World} : ∀ {l : List α} {S : List Nat} {cs : List Value}, k.owns w S cs l → (∀ b ∈ S, w'.heap[b]? = w.heap[b]?) → k.owns w' S cs l
  | [], _, _, h, _ => h
  | x :: l, _, _, ⟨S1, S2, c1, c2, e, e2, h1, h2⟩, hs => ⟨S1, S2, c1, c2, e, e2, k.same h1 (fun b hb => hs b (by rw [e]; exact List.mem_append_left _ hb)), k.owns_same h2 (fun b hb => hs b (by rw [e]; exact List.mem_append_right _ hb))⟩

theorem Kn.rds_at (k : Kn α) {w : World} : ∀ {l : List α} {cs : List Value} {i : Nat} (hi : i < l.length), k.rds w cs l → ∃ c0 c1 c2, cs = c0 ++ c1 ++ c2 ∧ c0.length = i * k.K ∧ k.rd w c1 l[i]
  | x :: l, cs, 0, _, ⟨c1, c2, e, h1, h2⟩ => ⟨[], c1, c2, by rw [e]; rfl, by simp, h1⟩
  | x :: l, cs, i + 1, hi, ⟨c1, c2, e, h1, h2⟩ => by
    obtain ⟨d0, d1, d2, e2, hl, h3⟩ := k.rds_at (Nat.lt_of_succ_lt_succ hi) h2
    exact ⟨c1 ++ d0, d1, d2, by rw [e, e2]; simp, by rw [List.length_append, k.len h1, hl, Nat.succ_mul, Nat.add_comm], h3⟩

/-- One element with its blocks, and what may stand in its place. -/
theorem Kn.owns_at (k : Kn α) {w : World} : ∀ {l : List α} {S : List Nat} {cs : List Value} {i : Nat} (hi : i < l.length), k.owns w S cs l →
    ∃ S0 S1 S2 c0 c1 c2, S = S0 ++ S1 ++ S2 ∧ cs = c0 ++ c1 ++ c2 ∧ c0.length = i * k.K ∧ k.own w S1 c1 l[i] ∧
      ∀ (w' : World) (T : List Nat) (d : List Value) (y : α), (∀ b ∈ S0, w'.heap[b]? = w.heap[b]?) → (∀ b ∈ S2, w'.heap[b]? = w.heap[b]?) → k.own w' T d y → k.owns w' (S0 ++ T ++ S2) (c0 ++ d ++ c2) (l.set i y)
  | x :: l, S, cs, 0, _, ⟨S1, S2, c1, c2, e, e2, h1, h2⟩ =>
    ⟨[], S1, S2, [], c1, c2, by rw [e]; rfl, by rw [e2]; rfl, by simp, h1, fun w' T d y _ hs hy => ⟨T, S2, d, c2, rfl, rfl, hy, k.owns_same h2 hs⟩⟩
  | x :: l, S, cs, i + 1, hi, ⟨S1, S2, c1, c2, e, e2, h1, h2⟩ => by
    obtain ⟨T0, T1, T2, d0, d1, d2, f1, f2, hl, h3, h4⟩ := k.owns_at (Nat.lt_of_succ_lt_succ hi) h2
    refine ⟨S1 ++ T0, T1, T2, c1 ++ d0, d1, d2, by rw [e, f1]; simp, by rw [e2, f2]; simp, by rw [List.length_append, k.len (k.read h1), hl, Nat.succ_mul, Nat.add_comm], h3, fun w' T d y hs0 hs2 hy => ?_⟩
    exact ⟨S1, T0 ++ T ++ T2, c1, d0 ++ d ++ d2, by simp, by simp, k.same h1 (fun b hb => hs0 b (List.mem_append_left _ hb)), h4 w' T d y (fun b hb => hs0 b (List.mem_append_right _ hb)) hs2 hy⟩

/-- Slices of elements of a kind. -/
def Kn.row (T : TypeId) (k : Kn α) : Kn (List α) where
  K := 1
  rd := fun w cs l => ∃ a n c xs, cs = [.slice a n c] ∧ l.length = n ∧ (n ≤ c ∧ n ≤ maxLen) ∧ (a = none → c = 0) ∧ k.rds w xs l ∧ (l = [] ∨ ∃ g off, a = some ⟨g, off, none⟩ ∧ ∀ j, j < xs.length → w.cell? ⟨g, off + j, none⟩ = xs[j]?)
  own := fun w S cs l => ∃ a n c xs S', cs = [.slice a n c] ∧ l.length = n ∧ (n ≤ c ∧ n ≤ maxLen) ∧ k.owns w S' xs l ∧ S.Nodup ∧
    ((l = [] ∧ (a = none → c = 0) ∧ S = []) ∨ ∃ g off cur, a = some ⟨g, off, none⟩ ∧ w.heap[g]? = some (.cells cur T (0, 0)) ∧ (∀ j, j < xs.length → cur[off + j]? = xs[j]?) ∧ S = g :: S')
  len := fun ⟨_, _, _, _, e, _⟩ => by rw [e]; rfl
  below := fun {w w' cs l} ⟨a, n, c, xs, e, h1, h2, h3, h4, h5⟩ hb => ⟨a, n, c, xs, e, h1, h2, h3, k.rds_below hb h4, by
    rcases h5 with h5 | ⟨g, off, ha, hc⟩
    · exact .inl h5
    · refine .inr ⟨g, off, ha, fun j hj => ?_⟩
      have := hc j hj
      rw [List.getElem?_eq_getElem hj] at this ⊢
      exact (hb.cell (World.block_lt_of_cell? _ _ this)).trans this⟩
  read := fun {w S cs l} ⟨a, n, c, xs, S', e, h1, h2, h3, h4, h5⟩ => by
    refine ⟨a, n, c, xs, e, h1, h2, ?_, k.owns_rds h3, ?_⟩
    · rcases h5 with ⟨_, h, _⟩ | ⟨g, off, cur, ha, _⟩
      · exact h
      · intro h; rw [ha] at h; cases h
    · rcases h5 with ⟨h, _, _⟩ | ⟨g, off, cur, ha, hh, hc, _⟩
      · exact .inl h
      · exact .inr ⟨g, off, ha, fun j hj => by simp only [World.cell?, hh]; exact hc j hj⟩
  lt := fun {w S cs l} ⟨a, n, c, xs, S', e, h1, h2, h3, h4, h5⟩ b hb => by
    rcases h5 with ⟨_, _, h⟩ | ⟨g, off, cur, ha, hh, hc, h⟩
    · rw [h] at hb; cases hb
    · rw [h] at hb
      rcases List.mem_cons.1 hb with rfl | hb
      · exact lt_of_block hh
      · exact k.owns_lt h3 b hb
  nodup := fun ⟨_, _, _, _, _, _, _, _, _, h, _⟩ => h
  same := fun {w w' S cs l} ⟨a, n, c, xs, S', e, h1, h2, h3, h4, h5⟩ hs => by
    refine ⟨a, n, c, xs, S', e, h1, h2, ?_, h4, ?_⟩
    · rcases h5 with ⟨hl, h, hS⟩ | ⟨g, off, cur, ha, hh, hc, hS⟩
      · subst hl
        exact h3
      · exact k.owns_same h3 (fun b hb => hs b (by rw [hS]; exact List.mem_cons_of_mem _ hb))
    · rcases h5 with h | ⟨g, off, cur, ha, hh, hc, hS⟩
      · exact .inl h
      · exact .inr ⟨g, off, cur, ha, (hs g (by rw [hS]; exact List.mem_cons_self ..)).trans hh, hc, hS⟩

/-- An element of a slice that is read. -/
theorem Kn.row_at {T : TypeId} {k : Kn α} {w : World} {a : Option Addr} {n c : Nat} {l : List α} (h : (k.row T).rd w [.slice a n c] l) {i : Nat} (hi : i < l.length) :
    ∃ g off cs, a = some ⟨g, off, none⟩ ∧ (∀ j, j < k.K → w.cell? ⟨g, off + i * k.K + j, none⟩ = cs[j]?) ∧ k.rd w cs l[i] := by
  obtain ⟨a', n', c', xs, e, h1, h2, h3, h4, h5⟩ := h
  simp only [List.cons.injEq, Value.slice.injEq, and_true] at e
  obtain ⟨rfl, rfl, rfl⟩ := e
  obtain ⟨c0, c1, c2, e1, hl, hr⟩ := k.rds_at hi h4
  rcases h5 with h5 | ⟨g, off, ha, hc⟩
  · rw [h5] at hi; exact absurd hi (Nat.not_lt_zero _)
  · refine ⟨g, off, c1, ha, fun j hj => ?_, hr⟩
    have hl1 := k.len hr
    have := hc (i * k.K + j) (by rw [e1]; simp [hl, hl1]; omega)
    rw [← Nat.add_assoc] at this
    rw [this, e1, List.append_assoc, List.getElem?_append_right (by omega), hl, Nat.add_sub_cancel_left, List.getElem?_append_left (by omega)]

theorem Kn.row_len {T : TypeId} {k : Kn α} {w : World} {a : Option Addr} {n c : Nat} {l : List α} (h : (k.row T).rd w [.slice a n c] l) : l.length = n ∧ n ≤ c ∧ n ≤ maxLen ∧ (a = none → c = 0) := by
  obtain ⟨a', n', c', xs, e, h1, h2, h3, h4, h5⟩ := h
  simp only [List.cons.injEq, Value.slice.injEq, and_true] at e
  obtain ⟨rfl, rfl, rfl⟩ := e
  exact ⟨h1, h2.1, h2.2, h3⟩

theorem putW_cells {g : Nat} {T : TypeId} : ∀ (us : List Value) (w : World) (o : Nat) (cur : Array Value), w.heap[g]? = some (.cells cur T (0, 0)) →
    ∃ cur' : Array Value, (putW w g o us).heap[g]? = some (.cells cur' T (0, 0)) ∧ cur'.size = cur.size ∧ ∀ m, cur'[m]? = if o ≤ m ∧ m < o + us.length ∧ m < cur.size then us[m - o]? else cur[m]?
  | [], w, o, cur, h => ⟨cur, h, rfl, fun m => by rw [if_neg (by simp; omega)]⟩
  | u :: us, w, o, cur, h => by
    obtain ⟨cur', h1, h2, h3⟩ := putW_cells us (w.setCell ⟨g, o, none⟩ u) (o + 1) _ (set_cells h o u)
    refine ⟨cur', h1, by rw [h2, Array.size_setIfInBounds], fun m => ?_⟩
    rw [h3, Array.size_setIfInBounds, List.length_cons]
    by_cases hm : o = m
    · subst hm
      rw [if_neg (by omega)]
      by_cases hc : o < cur.size
      · rw [if_pos (by omega), Array.getElem?_setIfInBounds_self_of_lt hc, Nat.sub_self]; rfl
      · rw [if_neg (by omega), Array.getElem?_eq_none (by rw [Array.size_setIfInBounds]; omega), Array.getElem?_eq_none (by omega)]
    · rw [Array.getElem?_setIfInBounds_ne hm]
      by_cases hi : o ≤ m ∧ m < o + (us.length + 1) ∧ m < cur.size
      · rw [if_pos (by omega), if_pos hi, show m - o = (m - (o + 1)) + 1 by omega, List.getElem?_cons_succ]
      · rw [if_neg (by omega), if_neg hi]

/-- Three pieces of a list of cells, the middle one replaced. -/
theorem mid_get {c0 c1 c2 d : List Value} (hl : d.length = c1.length) (j : Nat) : (c0 ++ d ++ c2)[j]? = if c0.length ≤ j ∧ j < c0.length + d.length then d[j - c0.length]? else (c0 ++ c1 ++ c2)[j]? := by
  rw [List.append_assoc, List.append_assoc]
  by_cases h1 : j < c0.length
  · rw [if_neg (by omega), List.getElem?_append_left h1, List.getElem?_append_left h1]
  · rw [List.getElem?_append_right (by omega)]
    by_cases h2 : j < c0.length + d.length
    · rw [if_pos (by omega), List.getElem?_append_left (by omega)]
    · rw [if_neg (by omega), List.getElem?_append_right (by omega), List.getElem?_append_right (by omega), List.getElem?_append_right (by omega), hl]

theorem nodup_mid {g : Nat} {A B C : List Nat} (h : (g :: (A ++ B ++ C)).Nodup) : (∀ b ∈ B, b ≠ g) ∧ g ∉ A ++ B ++ C ∧ (∀ b ∈ A, b ∉ B) ∧ (∀ b ∈ C, b ∉ B) ∧ B.Nodup ∧ (A ++ C).Nodup ∧ g ∉ A ∧ g ∉ C := by
  rw [List.nodup_cons] at h
  obtain ⟨h1, h2⟩ := h
  rw [List.nodup_append] at h2
  obtain ⟨h3, h4, h5⟩ := h2
  rw [List.nodup_append] at h3
  obtain ⟨h6, h7, h8⟩ := h3
  refine ⟨fun b hb e => h1 (by rw [← e]; simp [hb]), h1, fun b hb hb' => h8 b hb b hb' rfl, fun b hb hb' => h5 b (List.mem_append_right _ hb') b hb rfl, h7, ?_, fun h => h1 (by simp [h]), fun h => h1 (by simp [h])⟩
  rw [List.nodup_append]
  exact ⟨h6, h4, fun a ha b hb => h5 a (List.mem_append_left _ ha) b hb⟩

/-- An element of a slice of the call's own: its blocks, and what may be done to it. -/
theorem Kn.own_at {T : TypeId} {k : Kn α} {w : World} {S : List Nat} {a : Option Addr} {n c : Nat} {l : List α} (h : (k.row T).own w S [.slice a n c] l) {i : Nat} (hi : i < l.length) :
    ∃ g off cs S1, a = some ⟨g, off, none⟩ ∧ g ∈ S ∧ (∀ b ∈ S1, b ∈ S ∧ b ≠ g) ∧ (∀ j, j < k.K → w.cell? ⟨g, off + i * k.K + j, none⟩ = cs[j]?) ∧ (∀ j, w.frozen? ⟨g, j, none⟩ = false) ∧ k.own w S1 cs l[i] ∧
      (∀ w' y, OnlyS S1 w w' → k.own w' S1 cs y → (k.row T).own w' S [.slice a n c] (l.set i y)) ∧
      (∀ j v y, j < k.K → k.own w S1 (cs.set j v) y → (k.row T).own (w.setCell ⟨g, off + i * k.K + j, none⟩ v) S [.slice a n c] (l.set i y)) ∧
      (∀ S2 d y, k.own w S2 d y → (∀ b ∈ S2, b ∉ S) → ∃ S', (∀ b ∈ S', b ∈ S ∨ b ∈ S2) ∧ (k.row T).own (putW w g (off + i * k.K) d) S' [.slice a n c] (l.set i y)) := by
  obtain ⟨a', n', c', xs, S', e, h1, h2, h3, h4, h5⟩ := h
  simp only [List.cons.injEq, Value.slice.injEq, and_true] at e
  obtain ⟨rfl, rfl, rfl⟩ := e
  rcases h5 with ⟨h5, _, _⟩ | ⟨g, off, cur, ha, hh, hc, hS⟩
  · subst h5; exact absurd hi (Nat.not_lt_zero _)
  obtain ⟨A, S1, C, c0, c1, c2, e1, e2, hl, ho, hu⟩ := k.owns_at hi h3
  subst hS
  rw [e1] at h4
  obtain ⟨m1, m2, m3, m4, m5, m6, m7, m8⟩ := nodup_mid h4
  have hl1 := k.len (k.read ho)
  have hxs := k.rds_len (k.owns_rds h3)
  have hcell : ∀ j, j < k.K → cur[off + i * k.K + j]? = c1[j]? := fun j hj => by
    have := hc (i * k.K + j) (by rw [e2]; simp [hl, hl1]; omega)
    rw [← Nat.add_assoc] at this
    rw [this, e2, List.append_assoc, List.getElem?_append_right (by omega), hl, Nat.add_sub_cancel_left, List.getElem?_append_left (by omega)]
  have hbig : ∀ j, j < k.K → off + i * k.K + j < cur.size := fun j hj => by
    have := hcell j hj
    rw [List.getElem?_eq_getElem (by omega)] at this
    rcases Nat.lt_or_ge (off + i * k.K + j) cur.size with h | h
    · exact h
    · rw [Array.getElem?_eq_none h] at this; cases this
  refine ⟨g, off, c1, S1, ha, List.mem_cons_self .., fun b hb => ⟨by rw [e1]; simp [hb], m1 b hb⟩, fun j hj => by simp only [World.cell?, hh]; exact hcell j hj, fun j => by simp [World.frozen?, hh], ho, ?_, ?_, ?_⟩
  · intro w' y hw hy
    have hlt := k.owns_lt h3
    have hA : ∀ b ∈ A, w'.heap[b]? = w.heap[b]? := fun b hb => hw.block b (hlt b (by rw [e1]; simp [hb])) (m3 b hb)
    have hC : ∀ b ∈ C, w'.heap[b]? = w.heap[b]? := fun b hb => hw.block b (hlt b (by rw [e1]; simp [hb])) (m4 b hb)
    refine ⟨a, n, c, xs, A ++ S1 ++ C, rfl, by rw [List.length_set]; exact h1, h2, ?_, by rw [e1]; exact h4, .inr ⟨g, off, cur, ha, (hw.block g (lt_of_block hh) (fun hg => m1 g hg rfl)).trans hh, hc, by rw [e1]⟩⟩
    rw [e2]
    exact hu w' S1 c1 y hA hC hy
  · intro j v y hj hy
    have hne : ∀ b, b ∈ A ++ S1 ++ C → (w.setCell ⟨g, off + i * k.K + j, none⟩ v).heap[b]? = w.heap[b]? := fun b hb => Below.heap_setCell _ _ _ _ (fun e => m2 (by rw [← show b = g from e]; exact hb))
    refine ⟨a, n, c, c0 ++ c1.set j v ++ c2, A ++ S1 ++ C, rfl, by rw [List.length_set]; exact h1, h2, ?_, by rw [e1]; exact h4, .inr ⟨g, off, cur.setIfInBounds (off + i * k.K + j) v, ha, set_cells hh _ _, fun m hm => ?_, by rw [e1]⟩⟩
    · exact hu _ S1 _ y (fun b hb => hne b (by simp [hb])) (fun b hb => hne b (by simp [hb])) (k.same hy (fun b hb => hne b (by simp [hb])))
    · have hm' : m < xs.length := by rw [e2]; simpa using hm
      rw [mid_get (c1 := c1) (by rw [List.length_set])]
      rw [← e2]
      by_cases hmj : m = i * k.K + j
      · subst hmj
        rw [if_pos (by rw [hl, List.length_set]; omega), ← Nat.add_assoc, Array.getElem?_setIfInBounds_self_of_lt (hbig j hj), hl, Nat.add_sub_cancel_left, List.getElem?_set_self (by omega)]
      · rw [Array.getElem?_setIfInBounds_ne (by omega), hc m hm']
        by_cases hin : c0.length ≤ m ∧ m < c0.length + (c1.set j v).length
        · rw [if_pos hin, List.getElem?_set_ne (by omega), e2, List.append_assoc, List.getElem?_append_right hin.1, List.getElem?_append_left (by rw [List.length_set] at hin; omega)]
        · rw [if_neg hin]
  · intro S2 d y hy hS2
    have hd := k.len (k.read hy)
    obtain ⟨cur', f1, f2, f3⟩ := putW_cells d w (off + i * k.K) cur hh
    have hne : ∀ b, b ≠ g → (putW w g (off + i * k.K) d).heap[b]? = w.heap[b]? := fun b hb => putW_heap hb _ _ _
    have hgA : ∀ b ∈ A, b ≠ g := fun b hb e => m7 (e ▸ hb)
    have hgC : ∀ b ∈ C, b ≠ g := fun b hb e => m8 (e ▸ hb)
    have hg2 : ∀ b ∈ S2, b ≠ g := fun b hb e => hS2 b hb (by rw [e]; exact List.mem_cons_self ..)
    refine ⟨g :: (A ++ S2 ++ C), fun b hb => ?_, a, n, c, c0 ++ d ++ c2, A ++ S2 ++ C, rfl, by rw [List.length_set]; exact h1, h2, ?_, ?_, .inr ⟨g, off, cur', ha, f1, fun m hm => ?_, rfl⟩⟩
    · rw [e1]
      simp only [List.mem_cons, List.mem_append] at hb ⊢
      rcases hb with h | (h | h) | h
      · exact .inl (.inl h)
      · exact .inl (.inr (.inl (.inl h)))
      · exact .inr h
      · exact .inl (.inr (.inr h))
    · exact hu _ S2 d y (fun b hb => hne b (hgA b hb)) (fun b hb => hne b (hgC b hb)) (k.same hy (fun b hb => hne b (hg2 b hb)))
    · have n2 := k.nodup hy
      have q : ∀ b ∈ S2, b ∉ A ∧ b ∉ C := fun b hb => ⟨fun hA => hS2 b hb (by rw [e1]; simp [hA]), fun hC => hS2 b hb (by rw [e1]; simp [hC])⟩
      rw [List.nodup_append] at m6
      obtain ⟨nA, nC, nAC⟩ := m6
      rw [List.nodup_cons, List.nodup_append, List.nodup_append]
      refine ⟨?_, ⟨nA, n2, fun x hx y hy e => (q y hy).1 (e ▸ hx)⟩, nC, fun x hx y hy e => ?_⟩
      · simp only [List.mem_append, not_or]
        exact ⟨⟨m7, fun h => hg2 g h rfl⟩, m8⟩
      · rcases List.mem_append.1 hx with h | h
        · exact nAC x h y hy e
        · exact (q x h).2 (e ▸ hy)
    · have hm' : m < xs.length := by
        rw [e2]
        simp only [List.length_append] at hm ⊢
        omega
      rw [f3, mid_get (c1 := c1) (by omega), ← e2]
      by_cases hin : c0.length ≤ m ∧ m < c0.length + d.length
      · have hb := hbig (m - i * k.K) (by omega)
        rw [if_pos (by omega), if_pos hin]
        congr 1
        omega
      · rw [if_neg (by omega), if_neg hin, hc m hm']

end Go.Proofs.YtfpfgaifhmgpiaaDoor

namespace Go.Proofs.YtfpfgaifhmgpiaaDoor
open Go.RowKit

set_option linter.unusedVariables false

theorem Cur.keep {c B : Nat} {w w' : World} (h : Cur c B w) (h1 : w'.heap[c]? = w.heap[c]?) (hb : Below B w w') : Cur c B w' := by
  obtain ⟨a, len, cs, zs, i, g, hh, hB, ⟨cap, hr, ha⟩, r⟩ := h
  exact ⟨a, len, cs, zs, i, g, h1.trans hh, hB, ⟨cap, hr.below ha hb, ha⟩, r⟩

theorem Cur.setNew {c B : Nat} {w : World} (h : Cur c B w) {p : Addr} (hp : B ≤ p.block) (hc : p.block ≠ c) (u : Value) : Cur c B (w.setCell p u) :=
  h.keep (Below.heap_setCell _ _ _ _ (by omega)) ((Below.refl _ _).setCell hp _)

theorem Only.setNew {c : Nat} {a w : World} (h : Only c a w) {p : Addr} (hp : a.heap.size ≤ p.block) (u : Value) : Only c a (w.setCell p u) :=
  h.trans' ⟨rfl, rfl, rfl, by simp [World.setCell]⟩ (fun k hk _ => Below.heap_setCell _ _ _ _ (by omega))

theorem IsRow.alloc {k : IntKind} {w : World} {a : Option Addr} {len cap : Nat} {zs : List Int} (h : IsRow k w a len cap zs) (o : Obj) : IsRow k (w.alloc o) a len cap zs :=
  h.below (fun x hx hc => h.lt hx hc) ((Below.refl _ _).alloc (Nat.le_refl _) _)

end Go.Proofs.YtfpfgaifhmgpiaaDoor
