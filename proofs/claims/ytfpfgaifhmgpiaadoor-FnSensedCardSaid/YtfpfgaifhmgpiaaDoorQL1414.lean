/-
  Texts of one proof, merged: TimG, TrcN, RdyM, RdyX.
-/
import Derived.Test.YtfpfgaifhmgpiaaDoorQL142
import Derived.Test.YtfpfgaifhmgpiaaDoorQL146
import Derived.Test.YtfpfgaifhmgpiaaDoorQL147
import Derived.Test.YtfpfgaifhmgpiaaDoorQL148
import Derived.Test.YtfpfgaifhmgpiaaDoorQL1410
import Derived.Test.YtfpfgaifhmgpiaaDoorQL1411
import Derived.Test.YtfpfgaifhmgpiaaDoorQL1412
import Derived.Test.YtfpfgaifhmgpiaaDoorQL1413
import Derived.Great.BuildSlice
import Derived.Laws.CopyOwn
namespace Go.Proofs.YtfpfgaifhmgpiaaDoor
open Go.RowKit

set_option linter.unusedVariables false

/-- The distance of two commands; 0 where something is not valid. -/
def gapG (t : Tm) (g0 B g2 g3 ka xa ya za kb xb yb zb : Int) : Int :=
  if TimOk t ∧ (CmOk ka xa ya za ∧ AdOk g0 B g2 g3 xa ya za) ∧ (CmOk kb xb yb zb ∧ AdOk g0 B g2 g3 xb yb zb) then gapR B t ka xa kb xb else 0

end Go.Proofs.YtfpfgaifhmgpiaaDoor

namespace Go.Proofs.YtfpfgaifhmgpiaaDoor

set_option linter.unusedVariables false

/-- Times that exist. -/
def TimesIn (L : List Ev) : Prop := ∀ i, i < L.length → 0 ≤ (L.getD i ev0).t ∧ (L.getD i ev0).t ≤ 1000000

theorem TrOk.times {g0 B g2 g3 : Int} {t : Tm} {n : Nat} {L : List Ev} (h : TrOk g0 B g2 g3 t n L) : TimesIn L := fun i hi => (h.isIn hi).1

theorem TrOk.cmd {g0 B g2 g3 : Int} {t : Tm} {n : Nat} {L : List Ev} (h : TrOk g0 B g2 g3 t n L) {i : Nat} (hi : i < L.length) : CmdIn g0 B g2 g3 (L.getD i ev0) := (evF_zero.1 (h.at hi)).1.1

theorem TrOk.asc {g0 B g2 g3 : Int} {t : Tm} {n : Nat} {L : List Ev} (h : TrOk g0 B g2 g3 t n L) : ∀ {i j : Nat}, i ≤ j → j < L.length → (L.getD i ev0).t ≤ (L.getD j ev0).t := by
  intro i j hij hj
  induction j with
  | zero => obtain rfl : i = 0 := by omega
            exact Int.le_refl _
  | succ j ih =>
    by_cases he : i = j + 1
    · rw [he]; exact Int.le_refl _
    · have h1 := ih (by omega) (by omega)
      have h2 := (evF_zero.1 (h.at hj)).1.2.2
      rw [past_iff (Nat.succ_pos j) (Nat.le_of_lt hj)] at h2
      have h3 : (L.getD j ev0).t < (L.getD (j + 1) ev0).t := h2
      omega

/-- From the index k on; ahead of it no rule reaches beyond the last event. -/
def RecAt (L : List Ev) (k : Nat) : Prop := k ≤ L.length ∧ (0 < L.length → k < L.length) ∧ (k = 0 ∨ (L.getD (k - 1) ev0).t + 128 ≤ (L.getD (L.length - 1) ev0).t)

/-- The earliest time that the distances to these leave. -/
def gapM (g0 B g2 g3 : Int) (t : Tm) (L : List Ev) (k x y z : Int) : Int := L.foldl (fun m e => max m (e.t + gapG t g0 B g2 g3 e.k e.x e.y e.z k x y z)) 0

theorem gapM_le {g0 B g2 g3 : Int} {t : Tm} {L : List Ev} {k x y z : Int} : 0 ≤ gapM g0 B g2 g3 t L k x y z ∧ ∀ e ∈ L, e.t + gapG t g0 B g2 g3 e.k e.x e.y e.z k x y z ≤ gapM g0 B g2 g3 t L k x y z := by
  suffices h : ∀ (L : List Ev) (m : Int), m ≤ L.foldl (fun m e => max m (e.t + gapG t g0 B g2 g3 e.k e.x e.y e.z k x y z)) m ∧ ∀ e ∈ L, e.t + gapG t g0 B g2 g3 e.k e.x e.y e.z k x y z ≤ L.foldl (fun m e => max m (e.t + gapG t g0 B g2 g3 e.k e.x e.y e.z k x y z)) m from h L 0
  intro L
  induction L with
  | nil => intro m; exact ⟨Int.le_refl _, fun e he => by cases he⟩
  | cons d L ih =>
    intro m
    obtain ⟨h1, h2⟩ := ih (max m (d.t + gapG t g0 B g2 g3 d.k d.x d.y d.z k x y z))
    refine ⟨Int.le_trans (Int.le_max_left _ _) h1, fun e he => ?_⟩
    rcases List.mem_cons.1 he with rfl | he
    · exact Int.le_trans (Int.le_max_right _ _) h1
    · exact h2 e he

theorem gapM_is {g0 B g2 g3 : Int} {t : Tm} {L : List Ev} {k x y z : Int} : gapM g0 B g2 g3 t L k x y z = 0 ∨ ∃ e ∈ L, gapM g0 B g2 g3 t L k x y z = e.t + gapG t g0 B g2 g3 e.k e.x e.y e.z k x y z := by
  suffices h : ∀ (L : List Ev) (m : Int), L.foldl (fun m e => max m (e.t + gapG t g0 B g2 g3 e.k e.x e.y e.z k x y z)) m = m ∨ ∃ e ∈ L, L.foldl (fun m e => max m (e.t + gapG t g0 B g2 g3 e.k e.x e.y e.z k x y z)) m = e.t + gapG t g0 B g2 g3 e.k e.x e.y e.z k x y z from h L 0
  intro L
  induction L with
  | nil => intro m; exact .inl rfl
  | cons d L ih =>
    intro m
    rcases ih (max m (d.t + gapG t g0 B g2 g3 d.k d.x d.y d.z k x y z)) with h | ⟨e, he, h⟩
    · rw [List.foldl_cons, h]
      by_cases hm : m ≤ d.t + gapG t g0 B g2 g3 d.k d.x d.y d.z k x y z
      · exact .inr ⟨d, List.mem_cons_self, by omega⟩
      · exact .inl (by omega)
    · exact .inr ⟨e, List.mem_cons_of_mem _ he, h⟩

/-- The first time at which a command of this kind is no fifth activation within FAW, by these events. -/
def fawM (faw : Int) (L : List Ev) (k : Int) : Int := if k = 1 ∧ 4 ≤ (actsT L).length then (actsT L).getD ((actsT L).length - 4) 0 + faw else 0

theorem getD_mem {L : List Ev} {i : Nat} (hi : i < L.length) : L.getD i ev0 ∈ L := by
  rw [List.getD_eq_getElem?_getD, List.getElem?_eq_getElem hi]
  exact List.getElem_mem hi

theorem mem_getD {L : List Ev} {e : Ev} (h : e ∈ L) : ∃ i, i < L.length ∧ L.getD i ev0 = e := by
  obtain ⟨i, hi, rfl⟩ := List.getElem_of_mem h
  exact ⟨i, hi, by rw [List.getD_eq_getElem?_getD, List.getElem?_eq_getElem hi]; rfl⟩

theorem getD_drop {L : List Ev} {k i : Nat} : (L.drop k).getD i ev0 = L.getD (k + i) ev0 := by
  rw [List.getD_eq_getElem?_getD, List.getD_eq_getElem?_getD, List.getElem?_drop]

theorem RecAt.old {g0 B g2 g3 : Int} {t : Tm} {n : Nat} {L : List Ev} {k : Nat} (hr : RecAt L k) (h : TrOk g0 B g2 g3 t n L) {i : Nat} (hi : i < k) : (L.getD i ev0).t + 128 ≤ (L.getD (L.length - 1) ev0).t := by
  rcases hr.2.2 with h0 | h1
  · omega
  · have := h.asc (i := i) (j := k - 1) (by omega) (by have := hr.1; omega)
    omega

theorem actsT_split (L : List Ev) (k : Nat) : actsT L = actsT (L.take k) ++ actsT (L.drop k) := by
  unfold actsT
  rw [← List.map_append, ← List.filter_append, List.take_append_drop]

theorem actsT_mem {L : List Ev} {a : Int} (h : a ∈ actsT L) : ∃ e ∈ L, e.t = a := by
  unfold actsT at h
  obtain ⟨e, he, hx⟩ := List.mem_map.1 h
  exact ⟨e, (List.mem_filter.1 he).1, hx⟩

/-- The fourth activation from the end: of the near ones, or long ago. -/
theorem RecAt.fourth {g0 B g2 g3 : Int} {t : Tm} {n : Nat} {L : List Ev} {k : Nat} (hr : RecAt L k) (h : TrOk g0 B g2 g3 t n L) :
    (4 ≤ (actsT (L.drop k)).length → 4 ≤ (actsT L).length ∧ (actsT L).getD ((actsT L).length - 4) 0 = (actsT (L.drop k)).getD ((actsT (L.drop k)).length - 4) 0) ∧
    (¬ 4 ≤ (actsT (L.drop k)).length → 4 ≤ (actsT L).length → (actsT L).getD ((actsT L).length - 4) 0 + 128 ≤ (L.getD (L.length - 1) ev0).t) := by
  have hs := actsT_split L k
  have hlen : (actsT L).length = (actsT (L.take k)).length + (actsT (L.drop k)).length := by rw [hs, List.length_append]
  constructor
  · intro h4
    refine ⟨by omega, ?_⟩
    rw [List.getD_eq_getElem?_getD, List.getD_eq_getElem?_getD, hlen, hs, List.getElem?_append_right (by omega)]
    congr 2
    omega
  · intro h4 h5
    have hi : (actsT L).length - 4 < (actsT (L.take k)).length := by omega
    have hm : (actsT L).getD ((actsT L).length - 4) 0 ∈ actsT (L.take k) := by
      rw [List.getD_eq_getElem?_getD, hlen, hs, List.getElem?_append_left (by omega), List.getElem?_eq_getElem (by omega)]
      exact List.getElem_mem (by omega)
    obtain ⟨e, he, hx⟩ := actsT_mem hm
    obtain ⟨i, hi, rfl⟩ := mem_getD he
    have hik : i < k := by rw [List.length_take] at hi; omega
    have hil : i < L.length := by rw [List.length_take] at hi; omega
    have e1 : (L.take k).getD i ev0 = L.getD i ev0 := by
      rw [List.getD_eq_getElem?_getD, List.getD_eq_getElem?_getD, List.getElem?_take_of_lt hik]
    rw [e1] at hx
    rw [← hx]
    exact hr.old h hik

theorem past_last {L : List Ev} {e : Ev} (h : Past L e) (h0 : 0 < L.length) : (L.getD (L.length - 1) ev0).t < e.t := by
  have h1 := (past_iff (L := L) (k := L.length) (e := e) h0 (Nat.le_refl _)).1 (by rw [List.take_length]; exact h)
  exact h1

theorem RecAt.faw {g0 B g2 g3 : Int} {t : Tm} (ht : TimOk t) {n : Nat} {L : List Ev} {k : Nat} (hr : RecAt L k) (h : TrOk g0 B g2 g3 t n L) {e : Ev} (he : FormE g0 B g2 g3 L e) :
    decide (e.t < fawM t.faw (L.drop k) e.k) = decide (FawE t.faw L e) := by
  obtain ⟨h1, h2⟩ := hr.fourth h
  have hf := ht.nums.2.2.2.2.2.1
  unfold In64 at hf
  rw [Bool.eq_iff_iff, decide_eq_true_iff, decide_eq_true_iff]
  unfold fawM FawE
  have h0 := he.2.1.1
  by_cases hk : e.k = 1
  · by_cases h4 : 4 ≤ (actsT (L.drop k)).length
    · obtain ⟨h5, h6⟩ := h1 h4
      rw [if_pos ⟨hk, h4⟩, h6]
      constructor
      · intro hlt; exact ⟨hk, h5, by omega⟩
      · rintro ⟨_, _, hlt⟩; omega
    · rw [if_neg (fun hh => h4 hh.2)]
      constructor
      · intro hlt; omega
      · rintro ⟨_, h5, hlt⟩
        have h6 := h2 h4 h5
        have h7 := past_last he.2.2 (by have := actsT_length L; omega)
        omega
  · rw [if_neg (fun hh => hk hh.1)]
    constructor
    · intro hlt; omega
    · rintro ⟨hh, _⟩; exact absurd hh hk

/-- The near events give the earliest time of a command that is one. -/
theorem RecAt.next {g0 B g2 g3 : Int} {t : Tm} (ht : TimOk t) {n : Nat} {L : List Ev} {k : Nat} (hr : RecAt L k) (h : TrOk g0 B g2 g3 t n L) {c x y z : Int} (hc : CmOk c x y z ∧ AdOk g0 B g2 g3 x y z) :
    max (gapM g0 B g2 g3 t (L.drop k) c x y z) (fawM t.faw (L.drop k) c) = nextT B t L c x := by
  have hG : ∀ d ∈ L, gapG t g0 B g2 g3 d.k d.x d.y d.z c x y z = gapR B t d.k d.x c x := fun d hd => by
    obtain ⟨i, hi, rfl⟩ := mem_getD hd
    exact if_pos ⟨ht, h.cmd hi, hc⟩
  obtain ⟨g1, g2'⟩ := gapM_le (g0 := g0) (B := B) (g2 := g2) (g3 := g3) (t := t) (L := L.drop k) (k := c) (x := x) (y := y) (z := z)
  obtain ⟨g3', g4⟩ := gapT_le (B := B) (t := t) (L := L) (k := c) (x := x)
  have hup : gapM g0 B g2 g3 t (L.drop k) c x y z ≤ gapT B t L c x := by
    rcases gapM_is (g0 := g0) (B := B) (g2 := g2) (g3 := g3) (t := t) (L := L.drop k) (k := c) (x := x) (y := y) (z := z) with hz | ⟨d, hd, hz⟩
    · omega
    · have hd' : d ∈ L := List.mem_of_mem_drop hd
      rw [hG d hd'] at hz
      have := g4 d hd'
      omega
  have hlast : 0 < L.length → (L.getD (L.length - 1) ev0).t + 1 ≤ gapM g0 B g2 g3 t (L.drop k) c x y z := fun h0 => by
    have hm : L.getD (L.length - 1) ev0 ∈ L.drop k := by
      have hk := hr.2.1 h0
      have e1 : (L.drop k).getD (L.length - 1 - k) ev0 = L.getD (L.length - 1) ev0 := by rw [getD_drop]; congr 1; omega
      rw [← e1]
      exact getD_mem (by rw [List.length_drop]; omega)
    have h3 := g2' _ hm
    rw [hG _ (List.mem_of_mem_drop hm)] at h3
    have hrg := gapR_range B t (L.getD (L.length - 1) ev0).k (L.getD (L.length - 1) ev0).x c x
    omega
  have hlow : gapT B t L c x ≤ gapM g0 B g2 g3 t (L.drop k) c x y z := by
    rcases gapT_is (B := B) (t := t) (L := L) (k := c) (x := x) with hz | ⟨d, hd, hz⟩
    · omega
    · obtain ⟨i, hi, rfl⟩ := mem_getD hd
      have hrg := gapR_range B t (L.getD i ev0).k (L.getD i ev0).x c x
      have hl := hlast (by omega)
      by_cases hik : i < k
      · have h1 := hr.old h hik
        omega
      · have hm : L.getD i ev0 ∈ L.drop k := by
          have e1 : (L.drop k).getD (i - k) ev0 = L.getD i ev0 := by rw [getD_drop]; congr 1; omega
          rw [← e1]
          exact getD_mem (by rw [List.length_drop]; omega)
        have h3 := g2' _ hm
        rw [hG _ hd] at h3
        omega
  obtain ⟨f1, f2⟩ := hr.fourth h
  have hf := ht.nums.2.2.2.2.2.1
  unfold In64 at hf
  unfold nextT fawM
  by_cases hk : c = 1
  · by_cases h4 : 4 ≤ (actsT (L.drop k)).length
    · obtain ⟨h5, h6⟩ := f1 h4
      rw [if_pos ⟨hk, h4⟩, if_pos ⟨hk, h5⟩, h6]
      omega
    · rw [if_neg (fun hh => h4 hh.2)]
      by_cases h5 : 4 ≤ (actsT L).length
      · have h6 := f2 h4 h5
        have h7 := hlast (by have := actsT_length L; omega)
        rw [if_pos ⟨hk, h5⟩]
        omega
      · rw [if_neg (fun hh => h5 hh.2)]
        omega
  · rw [if_neg (fun hh => hk hh.1), if_neg (fun hh => hk hh.1)]
    omega

theorem TimesIn.mem {L : List Ev} (h : TimesIn L) {e : Ev} (he : e ∈ L) : 0 ≤ e.t ∧ e.t ≤ 1000000 := by
  obtain ⟨i, hi, rfl⟩ := mem_getD he
  exact h i hi

theorem TimesIn.drop {L : List Ev} (h : TimesIn L) (k : Nat) : TimesIn (L.drop k) := fun i hi => by
  rw [getD_drop]
  rw [List.length_drop] at hi
  exact h _ (by omega)

end Go.Proofs.YtfpfgaifhmgpiaaDoor

namespace Go.Proofs.YtfpfgaifhmgpiaaDoor

set_option linter.unusedVariables false

/-- Is this index used, with N banks? -/
def usedI (N i : Nat) : Bool := decide (i % 9 + 1 ≤ 5) == decide (i / 9 < N)

/-- The last times of a valid summary. -/
def LastOk (N : Nat) (la : List Int) : Prop := ∀ i, i < la.length → (-1 ≤ la.getD i 0 ∧ la.getD i 0 ≤ 1000000) ∧ (usedI N i = true ∨ la.getD i 0 = -1)

instance (N : Nat) (la : List Int) : Decidable (LastOk N la) := inferInstanceAs (Decidable (∀ i, i < la.length → _))

/-- The activations of a valid summary. -/
def ActsOk (ac : List Int) : Prop := ∀ i, i < ac.length → (0 ≤ ac.getD i 0 ∧ ac.getD i 0 ≤ 1000000) ∧ (0 < i → ac.getD (i - 1) 0 < ac.getD i 0)

instance (ac : List Int) : Decidable (ActsOk ac) := inferInstanceAs (Decidable (∀ i, i < ac.length → _))

/-- A valid summary. -/
def RdOk (g0 B g2 g3 : Int) (N : Nat) (la ac : List Int) : Prop := GeoOk g0 B g2 g3 ∧ la.length = 9 * (N + 1) ∧ ac.length ≤ 4 ∧ LastOk N la ∧ ActsOk ac

instance (g0 B g2 g3 : Int) (N : Nat) (la ac : List Int) : Decidable (RdOk g0 B g2 g3 N la ac) := inferInstanceAs (Decidable (_ ∧ _))

/-- Where the last time of such a command stands. -/
def slotI (N : Nat) (k x : Int) : Nat := 9 * (if k ≤ 5 then x.toNat else N) + (k.toNat - 1)

def addL (N : Nat) (la : List Int) (e : Ev) : List Int := la.set (slotI N e.k e.x) e.t

def addA (ac : List Int) (e : Ev) : List Int := if e.k = 1 then (if 4 < (ac ++ [e.t]).length then (ac ++ [e.t]).drop 1 else ac ++ [e.t]) else ac

/-- Is an event added? -/
def CanAdd (g0 B g2 g3 : Int) (N : Nat) (la ac : List Int) (e : Ev) : Prop := RdOk g0 B g2 g3 N la ac ∧ CmdIn g0 B g2 g3 e ∧ (0 ≤ e.t ∧ e.t ≤ 1000000) ∧ ¬ (e.k = 1 ∧ 0 < ac.length ∧ e.t ≤ ac.getD (ac.length - 1) 0)

instance (g0 B g2 g3 : Int) (N : Nat) (la ac : List Int) (e : Ev) : Decidable (CanAdd g0 B g2 g3 N la ac e) := inferInstanceAs (Decidable (_ ∧ _))

/-- Kind and bank of an index. -/
def kindI (i : Nat) : Int := ((i % 9 + 1 : Nat) : Int)

def bankI (i : Nat) : Int := if i % 9 + 1 ≤ 5 then ((i / 9 : Nat) : Int) else 0

/-- The earliest time that the first m indices leave. -/
def atM (B : Int) (t : Tm) (la : List Int) (k x : Int) : Nat → Int
  | 0 => 0
  | m + 1 => if la.getD m 0 < 0 then atM B t la k x m else max (atM B t la k x m) (la.getD m 0 + gapR B t (kindI m) (bankI m) k x)

/-- .. and the activations. -/
def atS (B : Int) (t : Tm) (la ac : List Int) (k x : Int) : Int :=
  if k = 1 ∧ ac.length = 4 then max (atM B t la k x la.length) (ac.getD 0 0 + t.faw) else atM B t la k x la.length

theorem atM_le (B : Int) (t : Tm) (la : List Int) (k x : Int) : ∀ m, 0 ≤ atM B t la k x m ∧ ∀ i, i < m → 0 ≤ la.getD i 0 → la.getD i 0 + gapR B t (kindI i) (bankI i) k x ≤ atM B t la k x m
  | 0 => ⟨Int.le_refl _, fun i hi => absurd hi (Nat.not_lt_zero _)⟩
  | m + 1 => by
    obtain ⟨h1, h2⟩ := atM_le B t la k x m
    unfold atM
    split
    · refine ⟨h1, fun i hi h0 => ?_⟩
      by_cases e : i = m
      · subst e; omega
      · exact h2 i (by omega) h0
    · refine ⟨by omega, fun i hi h0 => ?_⟩
      by_cases e : i = m
      · subst e; omega
      · have := h2 i (by omega) h0
        omega

theorem atM_is (B : Int) (t : Tm) (la : List Int) (k x : Int) : ∀ m, atM B t la k x m = 0 ∨ ∃ i, i < m ∧ 0 ≤ la.getD i 0 ∧ atM B t la k x m = la.getD i 0 + gapR B t (kindI i) (bankI i) k x
  | 0 => .inl rfl
  | m + 1 => by
    unfold atM
    split
    · rcases atM_is B t la k x m with h | ⟨i, h1, h2, h3⟩
      · exact .inl h
      · exact .inr ⟨i, by omega, h2, h3⟩
    · by_cases hx : atM B t la k x m ≤ la.getD m 0 + gapR B t (kindI m) (bankI m) k x
      · exact .inr ⟨m, by omega, by omega, by omega⟩
      · rcases atM_is B t la k x m with h | ⟨i, h1, h2, h3⟩
        · exact .inl (by omega)
        · exact .inr ⟨i, by omega, h2, by omega⟩

theorem slot_lt {N : Nat} {k x : Int} (hk : 1 ≤ k ∧ k ≤ 9) (hx : k ≤ 5 → 0 ≤ x ∧ x < (N : Int)) : slotI N k x < 9 * (N + 1) := by
  unfold slotI
  split
  · rename_i h
    have := hx h
    omega
  · omega

theorem slot_parts {N : Nat} {k x : Int} (hk : 1 ≤ k ∧ k ≤ 9) : slotI N k x % 9 + 1 = k.toNat ∧ slotI N k x / 9 = (if k ≤ 5 then x.toNat else N) := by
  unfold slotI
  split <;> omega

theorem slot_used {N : Nat} {k x : Int} (hk : 1 ≤ k ∧ k ≤ 9) (hx : k ≤ 5 → 0 ≤ x ∧ x < (N : Int)) : usedI N (slotI N k x) = true := by
  obtain ⟨h1, h2⟩ := slot_parts (N := N) (x := x) hk
  unfold usedI
  rw [h1, h2, beq_iff_eq]
  split
  · rename_i h
    have := hx h
    rw [decide_eq_true (by omega), decide_eq_true (by omega)]
  · rw [decide_eq_false (by omega), decide_eq_false (by omega)]

theorem slot_gap {N : Nat} {k x y z : Int} (hc : CmOk k x y z) (B : Int) (t : Tm) (c b : Int) : gapR B t (kindI (slotI N k x)) (bankI (slotI N k x)) c b = gapR B t k x c b := by
  obtain ⟨h1, h2⟩ := slot_parts (N := N) (x := x) hc.1
  have e1 : kindI (slotI N k x) = k := by unfold kindI; rw [h1]; have := hc.1; omega
  have e2 : bankI (slotI N k x) = x := by
    unfold bankI
    rw [h1, h2]
    have := hc.1
    have h3 := hc.2.1
    have h4 := hc.2.2.2.2.1
    by_cases hk : k ≤ 5
    · rw [if_pos (by omega), if_pos hk]
      omega
    · rw [if_neg (by omega)]
      omega
  rw [e1, e2]

theorem getD_set_self {l : List Int} {i : Nat} (h : i < l.length) (v : Int) : (l.set i v).getD i 0 = v := by
  rw [List.getD_eq_getElem?_getD, List.getElem?_set_self h]; rfl

theorem getD_set_other {l : List Int} {i j : Nat} (h : i ≠ j) (v : Int) : (l.set i v).getD j 0 = l.getD j 0 := by
  rw [List.getD_eq_getElem?_getD, List.getD_eq_getElem?_getD, List.getElem?_set_ne h]

theorem ad_bank {g0 B g2 g3 x y z : Int} {N : Nat} (hN : bankN g0 B g2 g3 = (N : Int)) (h : AdOk g0 B g2 g3 x y z) : 0 ≤ x ∧ x < (N : Int) := ⟨h.1.1, by have := h.1.2; omega⟩

/-- What the summary of a trace without faults is. -/
structure Summ (N : Nat) (P : List Ev) (la ac : List Int) : Prop where
  len : la.length = 9 * (N + 1)
  acts : ac = (actsT P).drop ((actsT P).length - 4)
  src : ∀ i, i < la.length → la.getD i 0 = -1 ∨ ∃ e ∈ P, slotI N e.k e.x = i ∧ la.getD i 0 = e.t
  top : ∀ e ∈ P, e.t ≤ la.getD (slotI N e.k e.x) 0

theorem acts_sorted {g0 B g2 g3 : Int} {t : Tm} {n : Nat} {L : List Ev} (h : TrOk g0 B g2 g3 t n L) {i j : Nat} (hij : i < j) (hj : j < (actsT L).length) : (actsT L).getD i 0 < (actsT L).getD j 0 := by
  have hlt : ∀ {i j : Nat}, i < j → j < L.length → (L.getD i ev0).t < (L.getD j ev0).t := by
    intro i j hij hj
    obtain ⟨m, rfl⟩ : ∃ m, j = m + 1 := ⟨j - 1, by omega⟩
    have h1 := h.asc (i := i) (j := m) (by omega) (by omega)
    have h2 := (evF_zero.1 (h.at hj)).1.2.2
    rw [past_iff (Nat.succ_pos m) (Nat.le_of_lt hj)] at h2
    have h3 : (L.getD m ev0).t < (L.getD (m + 1) ev0).t := h2
    omega
  have hp : L.Pairwise (fun a b => a.t < b.t) := by
    rw [List.pairwise_iff_getElem]
    intro i j hi hj hij
    have := hlt hij hj
    rw [List.getD_eq_getElem?_getD, List.getD_eq_getElem?_getD, List.getElem?_eq_getElem hi, List.getElem?_eq_getElem hj] at this
    exact this
  have hq : (actsT L).Pairwise (· < ·) := by
    unfold actsT
    rw [List.pairwise_map]
    exact hp.filter _
  rw [List.pairwise_iff_getElem] at hq
  have := hq i j (by omega) hj hij
  rw [List.getD_eq_getElem?_getD, List.getD_eq_getElem?_getD, List.getElem?_eq_getElem (show i < (actsT L).length by omega), List.getElem?_eq_getElem hj]
  exact this

theorem drop_getD (l : List Int) (k i : Nat) : (l.drop k).getD i 0 = l.getD (k + i) 0 := by
  rw [List.getD_eq_getElem?_getD, List.getD_eq_getElem?_getD, List.getElem?_drop]

theorem Summ.ok {g0 B g2 g3 : Int} {t : Tm} {N : Nat} (hg : GeoOk g0 B g2 g3) (hN : bankN g0 B g2 g3 = (N : Int)) {P : List Ev} (h : TrOk g0 B g2 g3 t N P) {la ac : List Int} (s : Summ N P la ac) : RdOk g0 B g2 g3 N la ac := by
  have hrk := (st_ok hg hN h).1
  have hbank : ∀ e ∈ P, e.k ≤ 5 → 0 ≤ e.x ∧ e.x < (N : Int) := fun e he _ => by
    obtain ⟨i, hi, rfl⟩ := mem_getD he
    exact ad_bank hN (h.cmd hi).2
  refine ⟨hg, s.len, ?_, fun i hi => ?_, fun i hi => ?_⟩
  · rw [s.acts, List.length_drop]; omega
  · rcases s.src i hi with h0 | ⟨e, he, hs, ht⟩
    · rw [h0]; exact ⟨by decide, .inr rfl⟩
    · have h1 := (h.mem he).1
      refine ⟨by omega, .inl ?_⟩
      rw [← hs]
      obtain ⟨i, hi, rfl⟩ := mem_getD he
      exact slot_used (h.cmd hi).1.1 (hbank _ he)
  · rw [s.acts, List.length_drop] at hi
    have e1 : ac.getD i 0 = (actsT P).getD ((actsT P).length - 4 + i) 0 := by rw [s.acts, drop_getD]
    rw [e1]
    refine ⟨h.acts (by omega), fun h0 => ?_⟩
    have e2 : ac.getD (i - 1) 0 = (actsT P).getD ((actsT P).length - 4 + (i - 1)) 0 := by rw [s.acts, drop_getD]
    rw [e2]
    exact acts_sorted h (by omega) (by omega)

theorem Summ.can {g0 B g2 g3 : Int} {t : Tm} {N : Nat} (hg : GeoOk g0 B g2 g3) (hN : bankN g0 B g2 g3 = (N : Int)) {P : List Ev} {e : Ev} (h : TrOk g0 B g2 g3 t N (P ++ [e])) {la ac : List Int} (s : Summ N P la ac) : CanAdd g0 B g2 g3 N la ac e := by
  obtain ⟨h1, h2⟩ := h.back
  obtain ⟨hf, _, _, _⟩ := evF_zero.1 h2
  refine ⟨s.ok hg hN h1, hf.1, hf.2.1, fun ⟨_, h0, hle⟩ => ?_⟩
  have hl : ac.length = (actsT P).length - ((actsT P).length - 4) := by rw [s.acts, List.length_drop]
  have e1 : ac.getD (ac.length - 1) 0 = (actsT P).getD ((actsT P).length - 4 + (ac.length - 1)) 0 := by rw [s.acts, drop_getD, ← s.acts]
  have hm : (actsT P).getD ((actsT P).length - 4 + (ac.length - 1)) 0 ∈ actsT P := by
    rw [List.getD_eq_getElem?_getD, List.getElem?_eq_getElem (by omega)]
    exact List.getElem_mem (by omega)
  obtain ⟨d, hd, hx⟩ := actsT_mem hm
  obtain ⟨i, hi, rfl⟩ := mem_getD hd
  have h3 := h1.asc (i := i) (j := P.length - 1) (by omega) (by omega)
  have h4 := past_last hf.2.2 (by omega)
  omega

theorem Summ.add {g0 B g2 g3 : Int} {t : Tm} {N : Nat} (hg : GeoOk g0 B g2 g3) (hN : bankN g0 B g2 g3 = (N : Int)) {P : List Ev} {e : Ev} (h : TrOk g0 B g2 g3 t N (P ++ [e])) {la ac : List Int} (s : Summ N P la ac) : Summ N (P ++ [e]) (addL N la e) (addA ac e) := by
  obtain ⟨h1, h2⟩ := h.back
  obtain ⟨hf, hm, _, _⟩ := evF_zero.1 h2
  have hrk := (st_ok hg hN h1).1
  have hxx : 0 ≤ e.x ∧ e.x < (N : Int) := ad_bank hN hf.1.2
  have hsl : slotI N e.k e.x < la.length := by rw [s.len]; exact slot_lt hf.1.1.1 (fun _ => hxx)
  have hlater : ∀ d ∈ P, d.t < e.t := fun d hd => by
    obtain ⟨i, hi, rfl⟩ := mem_getD hd
    have h3 := h1.asc (i := i) (j := P.length - 1) (by omega) (by omega)
    have h4 := past_last hf.2.2 (by omega)
    omega
  refine ⟨by unfold addL; rw [List.length_set]; exact s.len, ?_, fun i hi => ?_, fun d hd => ?_⟩
  · unfold addA
    rw [actsT_snoc]
    by_cases hk : e.k = 1
    · rw [if_pos hk, if_pos hk, s.acts]
      have e1 : ((actsT P).drop ((actsT P).length - 4) ++ [e.t]).length = (actsT P).length - ((actsT P).length - 4) + 1 := by rw [List.length_append, List.length_drop]; rfl
      rw [e1, List.length_append]
      show _ = (actsT P ++ [e.t]).drop ((actsT P).length + 1 - 4)
      by_cases h4 : 4 ≤ (actsT P).length
      · rw [if_pos (by omega)]
        have e2 : (actsT P).length + 1 - 4 = (actsT P).length - 4 + 1 := by omega
        have e3 : (actsT P ++ [e.t]).drop ((actsT P).length - 4) = (actsT P).drop ((actsT P).length - 4) ++ [e.t] := List.drop_append_of_le_length (by omega)
        have e4 : (actsT P ++ [e.t]).drop ((actsT P).length - 4 + 1) = ((actsT P ++ [e.t]).drop ((actsT P).length - 4)).drop 1 := by rw [List.drop_drop]
        rw [e2, e4, e3]
      · rw [if_neg (by omega)]
        have e2 : (actsT P).length - 4 = 0 := by omega
        have e3 : (actsT P).length + 1 - 4 = 0 := by omega
        rw [e2, e3, List.drop_zero, List.drop_zero]
    · rw [if_neg hk, if_neg hk]; exact s.acts
  · unfold addL at hi ⊢
    rw [List.length_set] at hi
    by_cases hi2 : slotI N e.k e.x = i
    · refine .inr ⟨e, List.mem_append_right _ List.mem_cons_self, hi2, ?_⟩
      rw [← hi2]
      exact getD_set_self hsl _
    · rw [getD_set_other hi2]
      rcases s.src i hi with h0 | ⟨d, hd, hs, ht⟩
      · exact .inl h0
      · exact .inr ⟨d, List.mem_append_left _ hd, hs, ht⟩
  · unfold addL
    by_cases hi2 : slotI N e.k e.x = slotI N d.k d.x
    · rw [← hi2, getD_set_self hsl]
      rcases List.mem_append.1 hd with hd | hd
      · have := hlater d hd; omega
      · rw [List.mem_singleton.1 hd]; exact Int.le_refl _
    · rw [getD_set_other hi2]
      rcases List.mem_append.1 hd with hd | hd
      · exact s.top d hd
      · exact absurd (by rw [List.mem_singleton.1 hd]) hi2

/-- The earliest time by the summary is that by the whole trace. -/
theorem Summ.next {g0 B g2 g3 : Int} {t : Tm} {N : Nat} (hg : GeoOk g0 B g2 g3) (hN : bankN g0 B g2 g3 = (N : Int)) {L : List Ev} (h : TrOk g0 B g2 g3 t N L) {la ac : List Int} (s : Summ N L la ac) (k x : Int) : atS B t la ac k x = nextT B t L k x := by
  have hrk := (st_ok hg hN h).1
  obtain ⟨a1, a2⟩ := atM_le B t la k x la.length
  obtain ⟨b1, b2⟩ := gapT_le (B := B) (t := t) (L := L) (k := k) (x := x)
  have hup : atM B t la k x la.length ≤ gapT B t L k x := by
    rcases atM_is B t la k x la.length with h0 | ⟨i, hi, h0, h1⟩
    · omega
    · rcases s.src i hi with h2 | ⟨e, he, hs, ht⟩
      · omega
      · have h3 := b2 e he
        obtain ⟨j, hj, rfl⟩ := mem_getD he
        have h4 := slot_gap (N := N) (h.cmd hj).1 B t k x
        rw [hs] at h4
        omega
  have hdn : gapT B t L k x ≤ atM B t la k x la.length := by
    rcases gapT_is (B := B) (t := t) (L := L) (k := k) (x := x) with h0 | ⟨e, he, h1⟩
    · omega
    · have ht := s.top e he
      obtain ⟨j, hj, rfl⟩ := mem_getD he
      have hc := (h.cmd hj).1
      have hxx : 0 ≤ (L.getD j ev0).x ∧ (L.getD j ev0).x < (N : Int) := ad_bank hN (h.cmd hj).2
      have hsl : slotI N (L.getD j ev0).k (L.getD j ev0).x < la.length := by rw [s.len]; exact slot_lt hc.1 (fun _ => hxx)
      have h3 := a2 _ hsl (by have := (h.mem he).1; omega)
      rw [slot_gap hc] at h3
      omega
  have hl : ac.length = (actsT L).length - ((actsT L).length - 4) := by rw [s.acts, List.length_drop]
  unfold atS nextT
  by_cases hk : k = 1 ∧ 4 ≤ (actsT L).length
  · have e1 : ac.getD 0 0 = (actsT L).getD ((actsT L).length - 4) 0 := by rw [s.acts, drop_getD, Nat.add_zero]
    rw [if_pos ⟨hk.1, by omega⟩, if_pos hk, e1]
    omega
  · rw [if_neg (fun hh => hk ⟨hh.1, by omega⟩), if_neg hk]
    omega

end Go.Proofs.YtfpfgaifhmgpiaaDoor

namespace Go.Proofs.YtfpfgaifhmgpiaaDoor
open Go.RowKit Go.PlainAid

set_option linter.unusedVariables false

/-- The rows of a pair lie apart. -/
def Apt (a b : Option Addr) : Prop := ∀ x y, a = some x → b = some y → x.block ≠ y.block

/-- A call that answers a summary whose rows are its own. -/
def GivesRd (n1 n2 : Nat) (la ac : List Int) (w : World) (e : Ending) (w' : World) : Prop :=
  ∃ a1 c1 a2 c2, e = .returned (.agg #[.slice a1 n1 c1, .slice a2 n2 c2]) ∧ OwnI w.heap.size (.slice a1 n1 c1) la w' ∧ OwnI w.heap.size (.slice a2 n2 c2) ac w' ∧ Apt a1 a2 ∧ Below w.heap.size w w'

/-- At most two blocks turned. -/
structure Only2 (g h : Nat) (w w' : World) : Prop where
  os : w'.os = w.os
  tape : w'.tape = w.tape
  output : w'.output = w.output
  size : w.heap.size ≤ w'.heap.size
  block : ∀ k, k < w.heap.size → k ≠ g → k ≠ h → w'.heap[k]? = w.heap[k]?

theorem Only.two {g h : Nat} {a b c : World} (p : Only g a b) (q : Only h b c) : Only2 g h a c :=
  ⟨q.os.trans p.os, q.tape.trans p.tape, q.output.trans p.output, Nat.le_trans p.size q.size, fun k hk h1 h2 => (q.block k (Nat.lt_of_lt_of_le hk p.size) h2).trans (p.block k hk h1)⟩

theorem Only2.below {g h B : Nat} {w w' : World} (p : Only2 g h w w') (hg : B ≤ g) (hh : B ≤ h) (hs : B ≤ w.heap.size) : Below B w w' :=
  ⟨p.os, p.tape, p.output, p.size, fun k hk => p.block k (Nat.lt_of_lt_of_le hk hs) (by omega) (by omega)⟩

end Go.Proofs.YtfpfgaifhmgpiaaDoor
