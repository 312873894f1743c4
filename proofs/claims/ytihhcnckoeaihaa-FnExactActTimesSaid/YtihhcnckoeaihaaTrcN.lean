/-
  Traces, read from the last event back as far as a rule reaches.
-/
import Derived.Test.YtihhcnckoeaihaaTrcM
import Derived.Test.YtihhcnckoeaihaaTimG
namespace Go.Proofs.Ytihhcnckoeaihaa

set_option linter.unusedVariables false

/-- Times that exist. -/
def TimesIn (L : List Ev) : Prop := ∀ i, i < L.length → 0 ≤ (L.getD i ev0).t ∧ (L.getD i ev0).t ≤ 1000000

theorem TrOk.times {g0 B g2 g3 : Int} {t : Tm} {n : Nat} {L : List Ev} (h : TrOk g0 B g2 g3 t n L) : TimesIn L := fun i hi => (h.isIn hi).1

theorem TrOk.cmd {g0 B g2 g3 : Int} {t : Tm} {n : Nat} {L : List Ev} (h : TrOk g0 B g2 g3 t n L) {i : Nat} (hi : i < L.length) : CmdIn g0 B g2 g3 (L.getD i ev0) := (evF_zero.1 (h.at hi)).1.1

theorem TrOk.asc {g0 B g2 g3 : Int} {t : Tm} {n : Nat} {L : List Ev} (h : TrOk g0 B g2 g3 t n L) : ∀ {i j : Nat}, i ≤ j → j < L.length → (L.getD i ev0).t ≤ (L.getD j ev0).t := by
  intro i j hij hj
  induction j with
  | zero => obtain rfl : i = 0 := by omega
            exact Int.le_refl _
  | succ j ih =>
    by_cases he : i = j + 1
    · rw [he]; exact Int.le_refl _
    · have h1 := ih (by omega) (by omega)
      have h2 := (evF_zero.1 (h.at hj)).1.2.2
      rw [past_iff (Nat.succ_pos j) (Nat.le_of_lt hj)] at h2
      have h3 : (L.getD j ev0).t < (L.getD (j + 1) ev0).t := h2
      omega

/-- From the index k on; ahead of it no rule reaches beyond the last event. -/
def RecAt (L : List Ev) (k : Nat) : Prop := k ≤ L.length ∧ (0 < L.length → k < L.length) ∧ (k = 0 ∨ (L.getD (k - 1) ev0).t + 128 ≤ (L.getD (L.length - 1) ev0).t)

/-- The earliest time that the distances to these leave. -/
def gapM (g0 B g2 g3 : Int) (t : Tm) (L : List Ev) (k x y z : Int) : Int := L.foldl (fun m e => max m (e.t + gapG t g0 B g2 g3 e.k e.x e.y e.z k x y z)) 0

theorem gapM_snoc (g0 B g2 g3 : Int) (t : Tm) (P : List Ev) (e : Ev) (k x y z : Int) : gapM g0 B g2 g3 t (P ++ [e]) k x y z = max (gapM g0 B g2 g3 t P k x y z) (e.t + gapG t g0 B g2 g3 e.k e.x e.y e.z k x y z) := by simp [gapM]

theorem gapG_range (t : Tm) (g0 B g2 g3 ka xa ya za kb xb yb zb : Int) : 0 ≤ gapG t g0 B g2 g3 ka xa ya za kb xb yb zb ∧ gapG t g0 B g2 g3 ka xa ya za kb xb yb zb ≤ 128 := by
  unfold gapG
  split
  · have := gapR_range B t ka xa kb xb
    omega
  · omega

theorem gapM_le {g0 B g2 g3 : Int} {t : Tm} {L : List Ev} {k x y z : Int} : 0 ≤ gapM g0 B g2 g3 t L k x y z ∧ ∀ e ∈ L, e.t + gapG t g0 B g2 g3 e.k e.x e.y e.z k x y z ≤ gapM g0 B g2 g3 t L k x y z := by
  suffices h : ∀ (L : List Ev) (m : Int), m ≤ L.foldl (fun m e => max m (e.t + gapG t g0 B g2 g3 e.k e.x e.y e.z k x y z)) m ∧ ∀ e ∈ L, e.t + gapG t g0 B g2 g3 e.k e.x e.y e.z k x y z ≤ L.foldl (fun m e => max m (e.t + gapG t g0 B g2 g3 e.k e.x e.y e.z k x y z)) m from h L 0
  intro L
  induction L with
  | nil => intro m; exact ⟨Int.le_refl _, fun e he => by cases he⟩
  | cons d L ih =>
    intro m
    obtain ⟨h1, h2⟩ := ih (max m (d.t + gapG t g0 B g2 g3 d.k d.x d.y d.z k x y z))
    refine ⟨Int.le_trans (Int.le_max_left _ _) h1, fun e he => ?_⟩
    rcases List.mem_cons.1 he with rfl | he
    · exact Int.le_trans (Int.le_max_right _ _) h1
    · exact h2 e he

theorem gapM_is {g0 B g2 g3 : Int} {t : Tm} {L : List Ev} {k x y z : Int} : gapM g0 B g2 g3 t L k x y z = 0 ∨ ∃ e ∈ L, gapM g0 B g2 g3 t L k x y z = e.t + gapG t g0 B g2 g3 e.k e.x e.y e.z k x y z := by
  suffices h : ∀ (L : List Ev) (m : Int), L.foldl (fun m e => max m (e.t + gapG t g0 B g2 g3 e.k e.x e.y e.z k x y z)) m = m ∨ ∃ e ∈ L, L.foldl (fun m e => max m (e.t + gapG t g0 B g2 g3 e.k e.x e.y e.z k x y z)) m = e.t + gapG t g0 B g2 g3 e.k e.x e.y e.z k x y z from h L 0
  intro L
  induction L with
  | nil => intro m; exact .inl rfl
  | cons d L ih =>
    intro m
    rcases ih (max m (d.t + gapG t g0 B g2 g3 d.k d.x d.y d.z k x y z)) with h | ⟨e, he, h⟩
    · rw [List.foldl_cons, h]
      by_cases hm : m ≤ d.t + gapG t g0 B g2 g3 d.k d.x d.y d.z k x y z
      · exact .inr ⟨d, List.mem_cons_self, by omega⟩
      · exact .inl (by omega)
    · exact .inr ⟨e, List.mem_cons_of_mem _ he, h⟩

/-- The first time at which a command of this kind is no fifth activation within FAW, by these events. -/
def fawM (faw : Int) (L : List Ev) (k : Int) : Int := if k = 1 ∧ 4 ≤ (actsT L).length then (actsT L).getD ((actsT L).length - 4) 0 + faw else 0

theorem getD_mem {L : List Ev} {i : Nat} (hi : i < L.length) : L.getD i ev0 ∈ L := by
  rw [List.getD_eq_getElem?_getD, List.getElem?_eq_getElem hi]
  exact List.getElem_mem hi

theorem mem_getD {L : List Ev} {e : Ev} (h : e ∈ L) : ∃ i, i < L.length ∧ L.getD i ev0 = e := by
  obtain ⟨i, hi, rfl⟩ := List.getElem_of_mem h
  exact ⟨i, hi, by rw [List.getD_eq_getElem?_getD, List.getElem?_eq_getElem hi]; rfl⟩

theorem getD_drop {L : List Ev} {k i : Nat} : (L.drop k).getD i ev0 = L.getD (k + i) ev0 := by
  rw [List.getD_eq_getElem?_getD, List.getD_eq_getElem?_getD, List.getElem?_drop]

theorem RecAt.old {g0 B g2 g3 : Int} {t : Tm} {n : Nat} {L : List Ev} {k : Nat} (hr : RecAt L k) (h : TrOk g0 B g2 g3 t n L) {i : Nat} (hi : i < k) : (L.getD i ev0).t + 128 ≤ (L.getD (L.length - 1) ev0).t := by
  rcases hr.2.2 with h0 | h1
  · omega
  · have := h.asc (i := i) (j := k - 1) (by omega) (by have := hr.1; omega)
    omega

theorem actsT_split (L : List Ev) (k : Nat) : actsT L = actsT (L.take k) ++ actsT (L.drop k) := by
  unfold actsT
  rw [← List.map_append, ← List.filter_append, List.take_append_drop]

theorem actsT_mem {L : List Ev} {a : Int} (h : a ∈ actsT L) : ∃ e ∈ L, e.t = a := by
  unfold actsT at h
  obtain ⟨e, he, hx⟩ := List.mem_map.1 h
  exact ⟨e, (List.mem_filter.1 he).1, hx⟩

/-- The fourth activation from the end: of the near ones, or long ago. -/
theorem RecAt.fourth {g0 B g2 g3 : Int} {t : Tm} {n : Nat} {L : List Ev} {k : Nat} (hr : RecAt L k) (h : TrOk g0 B g2 g3 t n L) :
    (4 ≤ (actsT (L.drop k)).length → 4 ≤ (actsT L).length ∧ (actsT L).getD ((actsT L).length - 4) 0 = (actsT (L.drop k)).getD ((actsT (L.drop k)).length - 4) 0) ∧
    (¬ 4 ≤ (actsT (L.drop k)).length → 4 ≤ (actsT L).length → (actsT L).getD ((actsT L).length - 4) 0 + 128 ≤ (L.getD (L.length - 1) ev0).t) := by
  have hs := actsT_split L k
  have hlen : (actsT L).length = (actsT (L.take k)).length + (actsT (L.drop k)).length := by rw [hs, List.length_append]
  constructor
  · intro h4
    refine ⟨by omega, ?_⟩
    rw [List.getD_eq_getElem?_getD, List.getD_eq_getElem?_getD, hlen, hs, List.getElem?_append_right (by omega)]
    congr 2
    omega
  · intro h4 h5
    have hi : (actsT L).length - 4 < (actsT (L.take k)).length := by omega
    have hm : (actsT L).getD ((actsT L).length - 4) 0 ∈ actsT (L.take k) := by
      rw [List.getD_eq_getElem?_getD, hlen, hs, List.getElem?_append_left (by omega), List.getElem?_eq_getElem (by omega)]
      exact List.getElem_mem (by omega)
    obtain ⟨e, he, hx⟩ := actsT_mem hm
    obtain ⟨i, hi, rfl⟩ := mem_getD he
    have hik : i < k := by rw [List.length_take] at hi; omega
    have hil : i < L.length := by rw [List.length_take] at hi; omega
    have e1 : (L.take k).getD i ev0 = L.getD i ev0 := by
      rw [List.getD_eq_getElem?_getD, List.getD_eq_getElem?_getD, List.getElem?_take_of_lt hik]
    rw [e1] at hx
    rw [← hx]
    exact hr.old h hik

theorem past_last {L : List Ev} {e : Ev} (h : Past L e) (h0 : 0 < L.length) : (L.getD (L.length - 1) ev0).t < e.t := by
  have h1 := (past_iff (L := L) (k := L.length) (e := e) h0 (Nat.le_refl _)).1 (by rw [List.take_length]; exact h)
  exact h1

/-- The near events tell whether an event comes too early. -/
theorem RecAt.close {g0 B g2 g3 : Int} {t : Tm} (ht : TimOk t) {n : Nat} {L : List Ev} {k : Nat} (hr : RecAt L k) (h : TrOk g0 B g2 g3 t n L) {e : Ev} (he : FormE g0 B g2 g3 L e) :
    decide (e.t < gapM g0 B g2 g3 t (L.drop k) e.k e.x e.y e.z) = closeE B t L e := by
  have hG : ∀ d ∈ L, gapG t g0 B g2 g3 d.k d.x d.y d.z e.k e.x e.y e.z = gapR B t d.k d.x e.k e.x := fun d hd => by
    obtain ⟨i, hi, rfl⟩ := mem_getD hd
    exact if_pos ⟨ht, h.cmd hi, he.1⟩
  rw [Bool.eq_iff_iff, decide_eq_true_iff]
  unfold closeE
  rw [List.any_eq_true]
  constructor
  · intro hlt
    rcases gapM_is (g0 := g0) (B := B) (g2 := g2) (g3 := g3) (t := t) (L := L.drop k) (k := e.k) (x := e.x) (y := e.y) (z := e.z) with hz | ⟨d, hd, hz⟩
    · have := he.2.1.1; omega
    · have hd' : d ∈ L := List.mem_of_mem_drop hd
      rw [hG d hd'] at hz
      exact ⟨d, hd', decide_eq_true (by omega)⟩
  · rintro ⟨d, hd, hx⟩
    rw [decide_eq_true_iff] at hx
    obtain ⟨i, hi, rfl⟩ := mem_getD hd
    have hrg := gapR_range B t (L.getD i ev0).k (L.getD i ev0).x e.k e.x
    by_cases hik : i < k
    · have h1 := hr.old h hik
      have h2 := past_last he.2.2 (by omega)
      omega
    · have hm : L.getD i ev0 ∈ L.drop k := by
        have e1 : (L.drop k).getD (i - k) ev0 = L.getD i ev0 := by rw [getD_drop]; congr 1; omega
        rw [← e1]
        exact getD_mem (by rw [List.length_drop]; omega)
      have h3 := (gapM_le (g0 := g0) (B := B) (g2 := g2) (g3 := g3) (t := t) (L := L.drop k) (k := e.k) (x := e.x) (y := e.y) (z := e.z)).2 _ hm
      rw [hG _ hd] at h3
      omega

theorem RecAt.faw {g0 B g2 g3 : Int} {t : Tm} (ht : TimOk t) {n : Nat} {L : List Ev} {k : Nat} (hr : RecAt L k) (h : TrOk g0 B g2 g3 t n L) {e : Ev} (he : FormE g0 B g2 g3 L e) :
    decide (e.t < fawM t.faw (L.drop k) e.k) = decide (FawE t.faw L e) := by
  obtain ⟨h1, h2⟩ := hr.fourth h
  have hf := ht.nums.2.2.2.2.2.1
  unfold In64 at hf
  rw [Bool.eq_iff_iff, decide_eq_true_iff, decide_eq_true_iff]
  unfold fawM FawE
  have h0 := he.2.1.1
  by_cases hk : e.k = 1
  · by_cases h4 : 4 ≤ (actsT (L.drop k)).length
    · obtain ⟨h5, h6⟩ := h1 h4
      rw [if_pos ⟨hk, h4⟩, h6]
      constructor
      · intro hlt; exact ⟨hk, h5, by omega⟩
      · rintro ⟨_, _, hlt⟩; omega
    · rw [if_neg (fun hh => h4 hh.2)]
      constructor
      · intro hlt; omega
      · rintro ⟨_, h5, hlt⟩
        have h6 := h2 h4 h5
        have h7 := past_last he.2.2 (by have := actsT_length L; omega)
        omega
  · rw [if_neg (fun hh => hk hh.1)]
    constructor
    · intro hlt; omega
    · rintro ⟨hh, _⟩; exact absurd hh hk

/-- The near events give the earliest time of a command that is one. -/
theorem RecAt.next {g0 B g2 g3 : Int} {t : Tm} (ht : TimOk t) {n : Nat} {L : List Ev} {k : Nat} (hr : RecAt L k) (h : TrOk g0 B g2 g3 t n L) {c x y z : Int} (hc : CmOk c x y z ∧ AdOk g0 B g2 g3 x y z) :
    max (gapM g0 B g2 g3 t (L.drop k) c x y z) (fawM t.faw (L.drop k) c) = nextT B t L c x := by
  have hG : ∀ d ∈ L, gapG t g0 B g2 g3 d.k d.x d.y d.z c x y z = gapR B t d.k d.x c x := fun d hd => by
    obtain ⟨i, hi, rfl⟩ := mem_getD hd
    exact if_pos ⟨ht, h.cmd hi, hc⟩
  obtain ⟨g1, g2'⟩ := gapM_le (g0 := g0) (B := B) (g2 := g2) (g3 := g3) (t := t) (L := L.drop k) (k := c) (x := x) (y := y) (z := z)
  obtain ⟨g3', g4⟩ := gapT_le (B := B) (t := t) (L := L) (k := c) (x := x)
  have hup : gapM g0 B g2 g3 t (L.drop k) c x y z ≤ gapT B t L c x := by
    rcases gapM_is (g0 := g0) (B := B) (g2 := g2) (g3 := g3) (t := t) (L := L.drop k) (k := c) (x := x) (y := y) (z := z) with hz | ⟨d, hd, hz⟩
    · omega
    · have hd' : d ∈ L := List.mem_of_mem_drop hd
      rw [hG d hd'] at hz
      have := g4 d hd'
      omega
  have hlast : 0 < L.length → (L.getD (L.length - 1) ev0).t + 1 ≤ gapM g0 B g2 g3 t (L.drop k) c x y z := fun h0 => by
    have hm : L.getD (L.length - 1) ev0 ∈ L.drop k := by
      have hk := hr.2.1 h0
      have e1 : (L.drop k).getD (L.length - 1 - k) ev0 = L.getD (L.length - 1) ev0 := by rw [getD_drop]; congr 1; omega
      rw [← e1]
      exact getD_mem (by rw [List.length_drop]; omega)
    have h3 := g2' _ hm
    rw [hG _ (List.mem_of_mem_drop hm)] at h3
    have hrg := gapR_range B t (L.getD (L.length - 1) ev0).k (L.getD (L.length - 1) ev0).x c x
    omega
  have hlow : gapT B t L c x ≤ gapM g0 B g2 g3 t (L.drop k) c x y z := by
    rcases gapT_is (B := B) (t := t) (L := L) (k := c) (x := x) with hz | ⟨d, hd, hz⟩
    · omega
    · obtain ⟨i, hi, rfl⟩ := mem_getD hd
      have hrg := gapR_range B t (L.getD i ev0).k (L.getD i ev0).x c x
      have hl := hlast (by omega)
      by_cases hik : i < k
      · have h1 := hr.old h hik
        omega
      · have hm : L.getD i ev0 ∈ L.drop k := by
          have e1 : (L.drop k).getD (i - k) ev0 = L.getD i ev0 := by rw [getD_drop]; congr 1; omega
          rw [← e1]
          exact getD_mem (by rw [List.length_drop]; omega)
        have h3 := g2' _ hm
        rw [hG _ hd] at h3
        omega
  obtain ⟨f1, f2⟩ := hr.fourth h
  have hf := ht.nums.2.2.2.2.2.1
  unfold In64 at hf
  unfold nextT fawM
  by_cases hk : c = 1
  · by_cases h4 : 4 ≤ (actsT (L.drop k)).length
    · obtain ⟨h5, h6⟩ := f1 h4
      rw [if_pos ⟨hk, h4⟩, if_pos ⟨hk, h5⟩, h6]
      omega
    · rw [if_neg (fun hh => h4 hh.2)]
      by_cases h5 : 4 ≤ (actsT L).length
      · have h6 := f2 h4 h5
        have h7 := hlast (by have := actsT_length L; omega)
        rw [if_pos ⟨hk, h5⟩]
        omega
      · rw [if_neg (fun hh => h5 hh.2)]
        omega
  · rw [if_neg (fun hh => hk hh.1), if_neg (fun hh => hk hh.1)]
    omega

/-- From where on impl looks. -/
def recG (L : List Ev) : Nat → Nat
  | 0 => 0
  | k + 1 => if (L.getD (L.length - 1) ev0).t < IntKind.i64.wrap ((L.getD k ev0).t + 128) then recG L k else k + 1

def recK (L : List Ev) : Nat := recG L L.length

theorem recG_le (L : List Ev) : ∀ k, recG L k ≤ k
  | 0 => Nat.le_refl _
  | k + 1 => by
    unfold recG
    split
    · have := recG_le L k
      omega
    · exact Nat.le_refl _

theorem recG_yes {L : List Ev} {k : Nat} (h0 : 0 < k) (h : (L.getD (L.length - 1) ev0).t < IntKind.i64.wrap ((L.getD (k - 1) ev0).t + 128)) : recG L (k - 1) = recG L k := by
  obtain ⟨m, rfl⟩ : ∃ m, k = m + 1 := ⟨k - 1, by omega⟩
  have h' : (L.getD (L.length - 1) ev0).t < IntKind.i64.wrap ((L.getD m ev0).t + 128) := h
  show recG L m = recG L (m + 1)
  rw [recG, if_pos h']

theorem recG_no {L : List Ev} {k : Nat} (h0 : 0 < k) (h : ¬ ((L.getD (L.length - 1) ev0).t < IntKind.i64.wrap ((L.getD (k - 1) ev0).t + 128))) : recG L k = k := by
  obtain ⟨m, rfl⟩ : ∃ m, k = m + 1 := ⟨k - 1, by omega⟩
  have h' : ¬ ((L.getD (L.length - 1) ev0).t < IntKind.i64.wrap ((L.getD m ev0).t + 128)) := h
  rw [recG, if_neg h']

theorem recK_le (L : List Ev) : recK L ≤ L.length := recG_le L _

theorem recK_at {L : List Ev} (hT : TimesIn L) : RecAt L (recK L) := by
  have hstep : ∀ k, k < L.length → IntKind.i64.wrap ((L.getD k ev0).t + 128) = (L.getD k ev0).t + 128 := fun k hk => by
    have := hT k hk
    exact IntWalk.i64_in _ (by omega)
  refine ⟨recK_le L, fun h0 => ?_, ?_⟩
  · unfold recK
    obtain ⟨m, hm⟩ : ∃ m, L.length = m + 1 := ⟨L.length - 1, by omega⟩
    have h1 := recG_le L m
    have e1 : L.length - 1 = m := by omega
    rw [hm]
    unfold recG
    rw [e1, hstep m (by omega), if_pos (by omega)]
    omega
  · unfold recK
    suffices h : ∀ k, k ≤ L.length → (recG L k = 0 ∨ (L.getD (recG L k - 1) ev0).t + 128 ≤ (L.getD (L.length - 1) ev0).t) from h _ (Nat.le_refl _)
    intro k
    induction k with
    | zero => intro _; exact .inl rfl
    | succ k ih =>
      intro hk
      unfold recG
      split
      · exact ih (by omega)
      · rename_i hx
        rw [hstep k (by omega)] at hx
        refine .inr ?_
        show (L.getD k ev0).t + 128 ≤ _
        omega

/-- The numbers that impl computes, whatever the times are. -/
def gapW (g0 B g2 g3 : Int) (t : Tm) (L : List Ev) (k x y z : Int) : Int := L.foldl (fun m e => max m (IntKind.i64.wrap (e.t + gapG t g0 B g2 g3 e.k e.x e.y e.z k x y z))) 0

theorem gapW_snoc (g0 B g2 g3 : Int) (t : Tm) (P : List Ev) (e : Ev) (k x y z : Int) : gapW g0 B g2 g3 t (P ++ [e]) k x y z = max (gapW g0 B g2 g3 t P k x y z) (IntKind.i64.wrap (e.t + gapG t g0 B g2 g3 e.k e.x e.y e.z k x y z)) := by simp [gapW]

def fawW (faw : Int) (L : List Ev) (k : Int) : Int := if k = 1 ∧ 4 ≤ (actsT L).length then IntKind.i64.wrap ((actsT L).getD ((actsT L).length - 4) 0 + faw) else 0

theorem TimesIn.mem {L : List Ev} (h : TimesIn L) {e : Ev} (he : e ∈ L) : 0 ≤ e.t ∧ e.t ≤ 1000000 := by
  obtain ⟨i, hi, rfl⟩ := mem_getD he
  exact h i hi

theorem TimesIn.drop {L : List Ev} (h : TimesIn L) (k : Nat) : TimesIn (L.drop k) := fun i hi => by
  rw [getD_drop]
  rw [List.length_drop] at hi
  exact h _ (by omega)

theorem gapW_is {g0 B g2 g3 : Int} {t : Tm} {L : List Ev} (h : TimesIn L) {k x y z : Int} : gapW g0 B g2 g3 t L k x y z = gapM g0 B g2 g3 t L k x y z := by
  have hm : ∀ e ∈ L, IntKind.i64.wrap (e.t + gapG t g0 B g2 g3 e.k e.x e.y e.z k x y z) = e.t + gapG t g0 B g2 g3 e.k e.x e.y e.z k x y z := fun e he => by
    have h1 := h.mem he
    have h2 := gapG_range t g0 B g2 g3 e.k e.x e.y e.z k x y z
    exact IntWalk.i64_in _ (by omega)
  unfold gapW gapM
  suffices hs : ∀ (L : List Ev) (m : Int), (∀ e ∈ L, IntKind.i64.wrap (e.t + gapG t g0 B g2 g3 e.k e.x e.y e.z k x y z) = e.t + gapG t g0 B g2 g3 e.k e.x e.y e.z k x y z) → L.foldl (fun m e => max m (IntKind.i64.wrap (e.t + gapG t g0 B g2 g3 e.k e.x e.y e.z k x y z))) m = L.foldl (fun m e => max m (e.t + gapG t g0 B g2 g3 e.k e.x e.y e.z k x y z)) m from hs L 0 hm
  intro L
  induction L with
  | nil => intro m _; rfl
  | cons d L ih =>
    intro m hh
    rw [List.foldl_cons, List.foldl_cons, hh d List.mem_cons_self]
    exact ih _ (fun e he => hh e (List.mem_cons_of_mem _ he))

theorem fawW_is {t : Tm} (ht : TimOk t) {L : List Ev} (h : TimesIn L) {k : Int} : fawW t.faw L k = fawM t.faw L k := by
  unfold fawW fawM
  split
  · rename_i h4
    have hf := ht.nums.2.2.2.2.2.1
    unfold In64 at hf
    have hm : (actsT L).getD ((actsT L).length - 4) 0 ∈ actsT L := by
      rw [List.getD_eq_getElem?_getD, List.getElem?_eq_getElem (by omega)]
      exact List.getElem_mem (by omega)
    obtain ⟨e, he, hx⟩ := actsT_mem hm
    have := h.mem he
    exact IntWalk.i64_in _ (by omega)
  · rfl

/-- What gapTime and fawTime answer. -/
def gapV (g0 B g2 g3 : Int) (t : Tm) (L : List Ev) (k x y z : Int) : Int := gapW g0 B g2 g3 t (L.drop (recK L)) k x y z

def fawV (faw : Int) (L : List Ev) (k : Int) : Int := fawW faw (L.drop (recK L)) k

theorem close_is {g0 B g2 g3 : Int} {t : Tm} (ht : TimOk t) {n : Nat} {L : List Ev} (h : TrOk g0 B g2 g3 t n L) {e : Ev} (he : FormE g0 B g2 g3 L e) : decide (e.t < gapV g0 B g2 g3 t L e.k e.x e.y e.z) = closeE B t L e := by
  unfold gapV
  rw [gapW_is (h.times.drop _)]
  exact (recK_at h.times).close ht h he

theorem faw_is {g0 B g2 g3 : Int} {t : Tm} (ht : TimOk t) {n : Nat} {L : List Ev} (h : TrOk g0 B g2 g3 t n L) {e : Ev} (he : FormE g0 B g2 g3 L e) : decide (e.t < fawV t.faw L e.k) = decide (FawE t.faw L e) := by
  unfold fawV
  rw [fawW_is ht (h.times.drop _)]
  exact (recK_at h.times).faw ht h he

theorem next_is {g0 B g2 g3 : Int} {t : Tm} (ht : TimOk t) {n : Nat} {L : List Ev} (h : TrOk g0 B g2 g3 t n L) {c x y z : Int} (hc : CmOk c x y z ∧ AdOk g0 B g2 g3 x y z) : max (gapV g0 B g2 g3 t L c x y z) (fawV t.faw L c) = nextT B t L c x := by
  unfold gapV fawV
  rw [gapW_is (h.times.drop _), fawW_is ht (h.times.drop _)]
  exact (recK_at h.times).next ht h hc

/-- Behind a trace that has a fault there is one, too; and an event behind a trace without: its own. -/
theorem trace_more {g0 B g2 g3 : Int} {t : Tm} {n : Nat} {L : List Ev} {e : Ev} :
    (traceF g0 B g2 g3 t n (L ++ [e])).1 = 0 ↔ (GeoOk g0 B g2 g3 ∧ TimOk t ∧ L.length < 2000) ∧ TrOk g0 B g2 g3 t n L ∧ evF g0 B g2 g3 t n L e = 0 := by
  unfold traceF
  rw [List.length_append]
  constructor
  · intro h
    by_cases hg : GeoOk g0 B g2 g3 ∧ TimOk t ∧ L.length + [e].length ≤ 2000
    · rw [if_pos hg] at h
      have h' : TrOk g0 B g2 g3 t n (L ++ [e]) := h
      exact ⟨⟨hg.1, hg.2.1, by have := hg.2.2; simp at this; omega⟩, h'.back⟩
    · rw [if_neg hg] at h; exact absurd h (by decide)
  · rintro ⟨⟨h1, h2, h3⟩, h4, h5⟩
    rw [if_pos ⟨h1, h2, by simp; omega⟩]
    exact h4.more h5

/-- What impl's EarliestNext answers. -/
theorem early_is {g0 B g2 g3 : Int} {t : Tm} {n : Nat} (hn : bankN g0 B g2 g3 = (n : Int)) {L : List Ev} {k x y z a : Int}
    (ha : GeoOk g0 B g2 g3 → TimOk t → TrOk g0 B g2 g3 t n L → CmOk k x y z ∧ AdOk g0 B g2 g3 x y z → a = nextT B t L k x) :
    (if (traceF g0 B g2 g3 t n (L ++ [⟨a, k, x, y, z⟩])).1 = 0 then a else -1) = earlyF g0 B g2 g3 t n L k x y z := by
  unfold earlyF
  by_cases h : (traceF g0 B g2 g3 t n (L ++ [⟨a, k, x, y, z⟩])).1 = 0
  · rw [if_pos h]
    obtain ⟨⟨h1, h2, h3⟩, h4, h5⟩ := trace_more.1 h
    obtain ⟨hf, hm, _, _⟩ := evF_zero.1 h5
    have hrk := (st_ok h1 hn h4).1
    have hal : allowR g0 B g2 g3 (stL n L) (stP L) k x y z = true := by
      unfold allowR
      rw [decide_eq_true ⟨hrk, hf.1.1, hf.1.2⟩]
      exact hm
    have hx := ha h1 h2 h4 hf.1
    have htr : (traceF g0 B g2 g3 t n L).1 = 0 := by
      unfold traceF
      rw [if_pos ⟨h1, h2, by omega⟩]
      exact h4
    have hle : a ≤ 1000000 := hf.2.1.2
    rw [if_pos ⟨⟨htr, hal, h3⟩, by omega⟩]
    exact hx
  · rw [if_neg h]
    by_cases hq : ((traceF g0 B g2 g3 t n L).1 = 0 ∧ allowR g0 B g2 g3 (stL n L) (stP L) k x y z = true ∧ L.length < 2000) ∧ nextT B t L k x ≤ 1000000
    · exfalso
      obtain ⟨⟨htr, hal, h3⟩, hle⟩ := hq
      unfold traceF at htr
      by_cases hg : GeoOk g0 B g2 g3 ∧ TimOk t ∧ L.length ≤ 2000
      · rw [if_pos hg] at htr
        have hx := ha hg.1 hg.2.1 htr ⟨(allow_parts hal).2.1, (allow_parts hal).2.2.1⟩
        exact h (trace_more.2 ⟨⟨hg.1, hg.2.1, h3⟩, htr, next_ok hal (by omega) (by omega)⟩)
      · rw [if_neg hg] at htr; exact absurd htr (by decide)
    · rw [if_neg hq]

end Go.Proofs.Ytihhcnckoeaihaa
