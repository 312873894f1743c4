/-
  What the laws of chapter 7 ask of the numbers.
-/
import Derived.Test.YtcjeobagjhjbmaaTimG
namespace Go.Proofs.Ytcjeobagjhjbmaa

set_option linter.unusedVariables false

theorem bankG_no {t : Tm} (h : ¬ TimOk t) (a b : Int) : bankG t a b = 0 := if_neg h

theorem bankG_yes {t : Tm} (h : TimOk t) (a b : Int) : bankG t a b = bankR t a b := if_pos h

theorem bankG_14 {t : Tm} (h : TimOk t) : bankG t 1 4 = t.ras := bankG_yes h 1 4
theorem bankG_41 {t : Tm} (h : TimOk t) : bankG t 4 1 = t.rp := bankG_yes h 4 1
theorem bankG_11 {t : Tm} (h : TimOk t) : bankG t 1 1 = t.ras + t.rp := bankG_yes h 1 1
theorem bankG_34 {t : Tm} (h : TimOk t) : bankG t 3 4 = t.wr := bankG_yes h 3 4
theorem bankG_35 {t : Tm} (h : TimOk t) : bankG t 3 5 = t.wr + t.rp := bankG_yes h 3 5

theorem fawL4 (f a b c d : Int) (h : ∀ x ∈ [a, b, c, d], 0 ≤ x ∧ x ≤ 1000000) : FawL f [a, b, c, d] := by
  intro i hi
  match i, hi with
  | 0, _ => exact ⟨h a (by simp), fun h => absurd h (by omega)⟩
  | 1, _ => exact ⟨h b (by simp), fun h => absurd h (by omega)⟩
  | 2, _ => exact ⟨h c (by simp), fun h => absurd h (by omega)⟩
  | 3, _ => exact ⟨h d (by simp), fun h => absurd h (by omega)⟩

theorem fawL5 (f a b c d e : Int) (h : ∀ x ∈ [a, b, c, d, e], 0 ≤ x ∧ x ≤ 1000000) : FawL f [a, b, c, d, e] ↔ f ≤ e - a := by
  refine ⟨fun k => (k 4 (by simp)).2 (Nat.le_refl _), fun k i hi => ?_⟩
  match i, hi with
  | 0, _ => exact ⟨h a (by simp), fun h => absurd h (by omega)⟩
  | 1, _ => exact ⟨h b (by simp), fun h => absurd h (by omega)⟩
  | 2, _ => exact ⟨h c (by simp), fun h => absurd h (by omega)⟩
  | 3, _ => exact ⟨h d (by simp), fun h => absurd h (by omega)⟩
  | 4, _ => exact ⟨h e (by simp), fun _ => k⟩

theorem four_ok (p : Int) (h : 0 ≤ p ∧ p ≤ 9999) : fawOk fastT [p, p + 2, p + 4, p + 6] = true := by
  refine decide_eq_true ⟨fast_ok, fawL4 _ _ _ _ _ ?_⟩
  simp only [List.mem_cons, List.not_mem_nil, or_false, forall_eq_or_imp, forall_eq]
  omega

theorem five_ok (p q : Int) (h : 0 ≤ p ∧ p ≤ 9999) (hq : 0 ≤ q ∧ q ≤ 5) : fawOk fastT [p, p + 2, p + 4, p + 6, p + 7 + q] = decide ((10 : Int) ≤ p + 7 + q - p) := by
  have h5 : ∀ x ∈ [p, p + 2, p + 4, p + 6, p + 7 + q], 0 ≤ x ∧ x ≤ 1000000 := by
    simp only [List.mem_cons, List.not_mem_nil, or_false, forall_eq_or_imp, forall_eq]
    omega
  unfold fawOk
  rw [decide_eq_decide, fawL5 _ _ _ _ _ _ h5]
  exact ⟨fun k => k.2, fun k => ⟨fast_ok, k⟩⟩

theorem ite_le {p : Prop} [Decidable p] {x y x' y' : Int} (h1 : x ≤ x') (h2 : y ≤ y') : (if p then x else y) ≤ (if p then x' else y') := by split <;> assumption

theorem near_le {x y : Int} (h : y ≤ x) (n : Bool) : nearI false x y ≤ nearI n x y := by
  cases n
  · exact Int.le_refl _
  · exact h

theorem rank_far {t : Tm} (h : TimOk t) (a b : Int) (n : Bool) : rankR t a b false ≤ rankR t a b n := by
  obtain ⟨_, _, h1, h2, h3⟩ := h
  have e1 := fun n => near_le h1 n
  have e2 := fun n => near_le h2 n
  have e3 := fun n => near_le h3 n
  unfold rankR
  repeat' (first | exact e1 n | exact e2 n | exact e3 n | with_reducible exact Int.le_refl _ | with_reducible refine ite_le ?_ ?_)

theorem rankG_far (t : Tm) (a b : Int) (n : Bool) : rankG t a b false ≤ rankG t a b n := by
  unfold rankG
  split
  · rename_i h
    exact rank_far h.1 a b n
  · exact Int.le_refl _

/-- The distance of two valid commands: at least 1, at least the rank's, at least the bank's. -/
theorem gap_least {t : Tm} {g0 B g2 g3 ka xa ya za kb xb yb zb : Int} (ht : TimOk t) (ha : CmOk ka xa ya za ∧ AdOk g0 B g2 g3 xa ya za) (hb : CmOk kb xb yb zb ∧ AdOk g0 B g2 g3 xb yb zb) :
    (1 ≤ gapG t g0 B g2 g3 ka xa ya za kb xb yb zb ∧ gapG t g0 B g2 g3 ka xa ya za kb xb yb zb ≤ 128) ∧ rankG t ka kb false ≤ gapG t g0 B g2 g3 ka xa ya za kb xb yb zb ∧ (ka ≤ 5 → kb ≤ 5 → xa = xb → bankG t ka kb ≤ gapG t g0 B g2 g3 ka xa ya za kb xb yb zb) := by
  have e : gapG t g0 B g2 g3 ka xa ya za kb xb yb zb = gapR B t ka xa kb xb := if_pos ⟨ht, ha, hb⟩
  rw [e]
  have hr := gapR_range B t ka xa kb xb
  have hf := rankG_far t ka kb (nearP B ka xa kb xb)
  refine ⟨hr, ?_, fun h1 h2 h3 => ?_⟩
  · unfold gapR
    omega
  · have hs : sameP ka xa kb xb = true := decide_eq_true ⟨⟨h1, h2⟩, h3⟩
    unfold gapR
    rw [if_pos hs]
    omega

theorem rank_wl : rankG fastT 3 2 true = 5 := by decide

/-- The second command of the law is valid. -/
theorem second_ok {g0 B g2 g3 p q : Int} (hg : GeoOk g0 B g2 g3) (hp : 0 ≤ p ∧ p ≤ 9999) (hq : 0 ≤ q ∧ q ≤ 9999) :
    CmOk (1 + p % 9) (if 1 + p % 9 ≤ 5 then q % bankN g0 B g2 g3 else 0) 0 0 ∧ AdOk g0 B g2 g3 (if 1 + p % 9 ≤ 5 then q % bankN g0 B g2 g3 else 0) 0 0 := by
  have hn : bankN g0 B g2 g3 = g0 * B := if_pos hg
  have hr := bankN_range g0 B g2 g3
  have h1 : 1 ≤ bankN g0 B g2 g3 := by
    rw [hn]
    exact Int.le_trans (by omega) (Int.mul_le_mul hg.1.1 hg.2.1.1 (by omega) (by have := hg.1.1; omega))
  unfold CmOk AdOk
  generalize bankN g0 B g2 g3 = n at hr h1
  have hg2 := hg.2.2.1
  have hg3 := hg.2.2.2
  have e1 := Int.emod_nonneg q (show n ≠ 0 by omega)
  have e2 := Int.emod_lt_of_pos q (show 0 < n by omega)
  have e3 := Int.emod_nonneg p (show (9 : Int) ≠ 0 by omega)
  have e4 := Int.emod_lt_of_pos p (show (0 : Int) < 9 by omega)
  generalize p % 9 = k at e3 e4
  generalize q % n = m at e1 e2
  clear hn
  by_cases h5 : 1 + k ≤ 5
  · rw [if_pos h5]
    omega
  · rw [if_neg h5]
    omega

end Go.Proofs.Ytcjeobagjhjbmaa
