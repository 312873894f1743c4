/-
  What the laws of chapter 8 ask of states: an allowed command leads to a valid one; opening, closing.
-/
import Derived.Test.YtihhcnckoeaihaaBnkM
namespace Go.Proofs.Ytihhcnckoeaihaa

set_option linter.unusedVariables false

theorem allow_parts {g0 B g2 g3 : Int} {l : List Bk} {pw k x y z : Int} (h : allowR g0 B g2 g3 l pw k x y z = true) : RkOk g0 B g2 g3 l pw ∧ CmOk k x y z ∧ AdOk g0 B g2 g3 x y z ∧ mayR l pw k x = true := by
  unfold allowR at h
  rw [Bool.and_eq_true, decide_eq_true_eq] at h
  exact ⟨h.1.1, h.1.2.1, h.1.2.2, h.2⟩

theorem may_kind' {k : Int} (h : 1 ≤ k ∧ k ≤ 9) : k = 1 ∨ k = 2 ∨ k = 3 ∨ k = 4 ∨ k = 5 ∨ k = 6 ∨ k = 7 ∨ k = 8 ∨ k = 9 := by omega

theorem do_ok {g0 B g2 g3 : Int} {l : List Bk} {pw k x y z : Int} (h : allowR g0 B g2 g3 l pw k x y z = true) : RkOk g0 B g2 g3 (doL l k x y) (doP pw k) := by
  obtain ⟨⟨hg, hn, hp, hall⟩, hc, ha, hm⟩ := allow_parts h
  refine ⟨hg, by rw [doL_length]; exact hn, ?_, ?_⟩
  · unfold doP
    split
    · omega
    · split
      · omega
      · split <;> omega
  · have hk := may_kind' hc.1
    have hrow := ha.2.1
    have hg2 := hg.2.2.1
    clear h hc ha
    rcases hk with rfl | rfl | rfl | rfl | rfl | rfl | rfl | rfl | rfl
    · have hp0 : pw = 0 := by
        have : (decide (pw = 0) && !(l.getD x.toNat bk0).op) = true := hm
        rw [Bool.and_eq_true, decide_eq_true_eq] at this
        exact this.1
      intro b hb
      have hb' : b ∈ l.set x.toNat ⟨true, y⟩ := hb
      show BkOk g2 pw b
      rcases List.mem_or_eq_of_mem_set hb' with hb | rfl
      · exact hall b hb
      · exact ⟨hrow, .inl rfl, .inr (by omega)⟩
    · exact fun b hb => hall b hb
    · exact fun b hb => hall b hb
    · intro b hb
      have hb' : b ∈ l.set x.toNat bk0 := hb
      show BkOk g2 pw b
      rcases List.mem_or_eq_of_mem_set hb' with hb | rfl
      · exact hall b hb
      · exact ⟨⟨by show (0 : Int) ≤ 0; omega, by show (0 : Int) ≤ g2 - 1; omega⟩, .inr rfl, .inl rfl⟩
    · exact fun b hb => hall b hb
    · exact fun b hb => ⟨(hall b hb).1, (hall b hb).2.1, .inr (show (1 : Int) ≠ 2 by decide)⟩
    · exact fun b hb => ⟨(hall b hb).1, (hall b hb).2.1, .inr (show (0 : Int) ≠ 2 by decide)⟩
    · intro b hb
      have hm' : (decide (pw = 0) && l.all (fun b => !b.op)) = true := hm
      rw [Bool.and_eq_true, List.all_eq_true] at hm'
      refine ⟨(hall b hb).1, (hall b hb).2.1, .inl ?_⟩
      have := hm'.2 b hb
      simpa using this
    · exact fun b hb => ⟨(hall b hb).1, (hall b hb).2.1, .inr (show (0 : Int) ≠ 2 by decide)⟩

/-- The row of the bank that is set. -/
theorem rowN_set {l : List Bk} {x : Int} (h0 : 0 ≤ x) (h1 : x < (l.length : Int)) (b : Bk) : rowN (l.set x.toNat b) x = if b.op = true then b.row else -1 := by
  obtain ⟨j, rfl⟩ := Int.eq_ofNat_of_zero_le h0
  have hj : j < l.length := by omega
  have hg : (l.set j b).getD j bk0 = b := by rw [List.getD_eq_getElem?_getD, List.getElem?_set_self hj]; rfl
  unfold rowN
  rw [Int.toNat_natCast, hg, List.length_set]
  by_cases ho : b.op = true
  · rw [if_pos ho, if_pos ⟨by omega, ho⟩]
  · rw [if_neg ho, if_neg (fun h => ho h.2)]

theorem rowN_act {l : List Bk} {x y : Int} (h0 : 0 ≤ x) (h1 : x < (l.length : Int)) : rowN (doL l 1 x y) x = y := rowN_set h0 h1 ⟨true, y⟩

theorem rowN_pre {l : List Bk} {x y : Int} (h0 : 0 ≤ x) (h1 : x < (l.length : Int)) : rowN (doL l 4 x y) x = -1 := rowN_set h0 h1 bk0

theorem small_ok : decide (RkOk 1 1 2 1 [bk0] 0) = true := by decide

/-- A new rank is valid. -/
theorem new_ok {g0 B g2 g3 : Int} {n : Nat} (hg : GeoOk g0 B g2 g3) (hn : bankN g0 B g2 g3 = (n : Int)) : RkOk g0 B g2 g3 (List.replicate n bk0) 0 := by
  refine ⟨hg, by rw [List.length_replicate, hn], by omega, fun b hb => ?_⟩
  obtain ⟨_, rfl⟩ := List.mem_replicate.1 hb
  have := hg.2.2.1
  exact ⟨⟨by show (0 : Int) ≤ 0; omega, by show (0 : Int) ≤ g2 - 1; omega⟩, .inr rfl, .inl rfl⟩

theorem getD_rep {n j : Nat} : (List.replicate n bk0).getD j bk0 = bk0 := by
  rw [List.getD_eq_getElem?_getD, List.getElem?_replicate]
  split <;> rfl

/-- Opening a bank of a new rank is allowed. -/
theorem open_allowed {g0 B g2 g3 x y : Int} {n : Nat} (hg : GeoOk g0 B g2 g3) (hn : bankN g0 B g2 g3 = (n : Int)) (hx : 0 ≤ x ∧ x < (n : Int)) (hy : 0 ≤ y ∧ y < g2) :
    allowR g0 B g2 g3 (List.replicate n bk0) 0 1 x y 0 = true := by
  have hr := bankN_range g0 B g2 g3
  have h2 := hg.2.2.1
  have h3 := hg.2.2.2
  have ha : RkOk g0 B g2 g3 (List.replicate n bk0) 0 ∧ CmOk 1 x y 0 ∧ AdOk g0 B g2 g3 x y 0 := by
    refine ⟨new_ok hg hn, ?_, ?_⟩
    · unfold CmOk; omega
    · unfold AdOk; rw [hn]; omega
  unfold allowR
  rw [decide_eq_true ha]
  show (decide ((0 : Int) = 0) && !((List.replicate n bk0).getD x.toNat bk0).op) = true
  rw [getD_rep]
  rfl

/-- Closing the bank that was opened is allowed. -/
theorem close_allowed {g0 B g2 g3 x y : Int} {n : Nat} (hg : GeoOk g0 B g2 g3) (hn : bankN g0 B g2 g3 = (n : Int)) (hx : 0 ≤ x ∧ x < (n : Int)) (hy : 0 ≤ y ∧ y < g2) :
    allowR g0 B g2 g3 (doL (List.replicate n bk0) 1 x y) 0 4 x 0 0 = true := by
  have hr := bankN_range g0 B g2 g3
  have h2 := hg.2.2.1
  have h3 := hg.2.2.2
  have ha : RkOk g0 B g2 g3 (doL (List.replicate n bk0) 1 x y) 0 ∧ CmOk 4 x 0 0 ∧ AdOk g0 B g2 g3 x 0 0 := by
    refine ⟨do_ok (open_allowed hg hn hx hy), ?_, ?_⟩
    · unfold CmOk; omega
    · unfold AdOk; rw [hn]; omega
  have hg1 : ((List.replicate n bk0).set x.toNat ⟨true, y⟩).getD x.toNat bk0 = ⟨true, y⟩ := by
    rw [List.getD_eq_getElem?_getD, List.getElem?_set_self (by rw [List.length_replicate]; omega)]
    rfl
  unfold allowR
  rw [decide_eq_true ha]
  show (decide ((0 : Int) = 0) && (((List.replicate n bk0).set x.toNat ⟨true, y⟩).getD x.toNat bk0).op) = true
  rw [hg1]
  rfl

theorem closed_again {n : Nat} {x y : Int} : doL (doL (List.replicate n bk0) 1 x y) 4 x 0 = List.replicate n bk0 := by
  show ((List.replicate n bk0).set x.toNat ⟨true, y⟩).set x.toNat bk0 = _
  rw [List.set_set]
  apply List.ext_getElem?
  intro i
  by_cases hi : x.toNat = i
  · subst hi
    by_cases h : x.toNat < n
    · rw [List.getElem?_set_self (by rw [List.length_replicate]; exact h), List.getElem?_replicate, if_pos h]
    · rw [List.getElem?_eq_none (by rw [List.length_set, List.length_replicate]; omega), List.getElem?_eq_none (by rw [List.length_replicate]; omega)]
  · rw [List.getElem?_set_ne hi]

theorem openF_rep (i n : Nat) : openF i (List.replicate n bk0) = [] := by
  induction n generalizing i with
  | zero => rfl
  | succ n ih => rw [List.replicate_succ]; exact ih (i + 1)

theorem openF_one (i n j : Nat) (y : Int) (hj : j < n) : openF i ((List.replicate n bk0).set j ⟨true, y⟩) = [((i + j : Nat) : Int)] := by
  induction n generalizing i j with
  | zero => exact absurd hj (Nat.not_lt_zero _)
  | succ n ih =>
    rw [List.replicate_succ]
    cases j with
    | zero => show (i : Int) :: openF (i + 1) (List.replicate n bk0) = _; rw [openF_rep]; rfl
    | succ j =>
      show openF (i + 1) ((List.replicate n bk0).set j ⟨true, y⟩) = _
      rw [ih (i + 1) j (by omega)]
      congr 1
      omega

end Go.Proofs.Ytihhcnckoeaihaa
