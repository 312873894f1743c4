/-
  The command of a text, as its first field's kind and the numbers of the next two fields make it.
-/
import Derived.Test.YtfhgbgcdkiiflaaDoorCmdQ
namespace Go.Proofs.YtfhgbgcdkiiflaaDoor
open Go.RowKit

set_option linter.unusedVariables false

/-- The number of a field; 0 where there is no such field, or it is no number. -/
def NumAt (F : List ByteArray) (i n : Nat) : Prop := (F.length ≤ i ∧ n = 0) ∨ (i < F.length ∧ PU (F.getD i ⟨#[]⟩) n) ∨ (i < F.length ∧ (∀ v, ¬ PU (F.getD i ⟨#[]⟩) v) ∧ n = 0)

theorem numAt_ex (F : List ByteArray) (i : Nat) : ∃ n, NumAt F i n := by
  by_cases h : i < F.length
  · by_cases hv : ∃ v, PU (F.getD i ⟨#[]⟩) v
    · obtain ⟨v, hv⟩ := hv
      exact ⟨v, .inr (.inl ⟨h, hv⟩)⟩
    · exact ⟨0, .inr (.inr ⟨h, fun v h' => hv ⟨v, h'⟩, rfl⟩)⟩
  · exact ⟨0, .inl ⟨by omega, rfl⟩⟩

theorem NumAt.le {F : List ByteArray} {i n : Nat} (h : NumAt F i n) : n ≤ 1000000000 := by
  rcases h with ⟨_, h⟩ | ⟨_, h⟩ | ⟨_, _, h⟩
  · omega
  · exact h.1
  · omega

theorem NumAt.fig {F : List ByteArray} {i n x : Nat} (h : NumAt F i n) (hi : i < F.length) (hx : x < 16) (he : F.getD i ⟨#[]⟩ = ⟨(figL x).toArray⟩) : n = x := by
  rcases h with ⟨h, _⟩ | ⟨_, h⟩ | ⟨_, h, _⟩
  · omega
  · rw [he] at h
    exact h.inj (pu_fig hx)
  · rw [he] at h
    exact absurd (pu_fig hx) (h x)

def bP (K n : Nat) : Nat := if 1 ≤ K ∧ K ≤ 5 then n else 0
def rP (K n : Nat) : Nat := if K = 1 then n else 0
def cP (K n : Nat) : Nat := if K = 2 ∨ K = 3 then n else 0

theorem num_back {q : Cm} (hq : CmOk q.1 q.2.1 q.2.2.1 q.2.2.2) {n1 n2 : Nat} (a1 : NumAt (partsOf q) 1 n1) (a2 : NumAt (partsOf q) 2 n2) :
    kindTo ((partsOf q).getD 0 ⟨#[]⟩) 9 = q.1 ∧ bP q.1 n1 = q.2.1 ∧ rP q.1 n2 = q.2.2.1 ∧ cP q.1 n2 = q.2.2.2 := by
  obtain ⟨k, b, r, c⟩ := q
  obtain ⟨h1, h2, h3, h4, h5, h6, h7⟩ := hq
  simp only at h1 h2 h3 h4 h5 h6 h7 ⊢
  have hk : kindTo ((partsOf (k, b, r, c)).getD 0 ⟨#[]⟩) 9 = k := kind_word k (by omega) (by omega)
  refine ⟨hk, ?_⟩
  have g1 := fun x => a1.fig (x := x)
  have g2 := fun x => a2.fig (x := x)
  unfold bP rP cP
  unfold partsOf at g1 g2
  simp only at g1 g2
  have cls : k = 1 ∨ (k = 2 ∨ k = 3) ∨ (k = 4 ∨ k = 5) ∨ 5 < k := by omega
  rcases cls with hk | hk | hk | hk
  · subst hk
    have e1 := g1 b (by simp) (by omega) (by simp)
    have e2 := g2 r (by simp) (by omega) (by simp)
    rw [if_pos ⟨by omega, by omega⟩, if_pos rfl, if_neg (by omega)]
    omega
  · rw [if_pos (show k ≤ 5 by omega), if_neg (show ¬ k = 1 by omega), if_pos hk] at g1 g2
    have e1 := g1 b (by simp) (by omega) (by simp)
    have e2 := g2 c (by simp) (by omega) (by simp)
    rw [if_pos ⟨by omega, by omega⟩, if_neg (by omega), if_pos hk]
    omega
  · rw [if_pos (show k ≤ 5 by omega), if_neg (show ¬ k = 1 by omega), if_neg (show ¬ (k = 2 ∨ k = 3) by omega)] at g1 g2
    have e1 := g1 b (by simp) (by omega) (by simp)
    rw [if_pos ⟨by omega, by omega⟩, if_neg (by omega), if_neg (by omega)]
    omega
  · rw [if_neg (by omega), if_neg (by omega), if_neg (by omega)]
    omega

theorem parse_at {s : ByteArray} {K n1 n2 : Nat} (hK : kindTo ((splitF s).getD 0 ⟨#[]⟩) 9 = K) (a1 : NumAt (splitF s) 1 n1) (a2 : NumAt (splitF s) 2 n2) (hne : splitF s ≠ []) :
    parseV s = if fmtB K (bP K n1) (rP K n2) (cP K n2) = s then .tuple #[.agg #[.int .i64 (K : Int), .int .i64 ((bP K n1 : Nat) : Int), .int .i64 ((rP K n2 : Nat) : Int), .int .i64 ((cP K n2 : Nat) : Int)], .bool true] else .tuple #[.agg #[.int .i64 0, .int .i64 0, .int .i64 0, .int .i64 0], .bool false] := by
  by_cases e : fmtB K (bP K n1) (rP K n2) (cP K n2) = s
  · rw [if_pos e]
    exact parse_yes e (fun h => hne (by rw [h]; rfl))
  · rw [if_neg e]
    refine parse_none fun q hq => ?_
    obtain ⟨hm, hok, he, _, h2⟩ := parts_of hq
    rw [h2] at hK a1 a2
    obtain ⟨e1, e2, e3, e4⟩ := num_back hok a1 a2
    rw [e1] at hK
    subst hK
    rw [e2, e3, e4] at e
    refine e ?_
    rw [← he]
    exact if_pos hok

theorem parse_kind0 {s : ByteArray} (hK : kindTo ((splitF s).getD 0 ⟨#[]⟩) 9 = 0) : parseV s = .tuple #[.agg #[.int .i64 0, .int .i64 0, .int .i64 0, .int .i64 0], .bool false] := by
  refine parse_none fun q hq => ?_
  obtain ⟨hm, hok, he, _, h2⟩ := parts_of hq
  obtain ⟨n1, a1⟩ := numAt_ex (partsOf q) 1
  obtain ⟨n2, a2⟩ := numAt_ex (partsOf q) 2
  have := (num_back hok a1 a2).1
  rw [h2] at hK
  have := hok.1
  omega

theorem kind_none {f : ByteArray} (h : ∀ m, m < 10 → wordB m ≠ f) : ∀ j, j ≤ 9 → kindTo f j = 0
  | 0, _ => rfl
  | j + 1, hj => by
    unfold kindTo
    rw [if_neg (h (j + 1) (by omega))]
    exact kind_none h j (by omega)

theorem kind_hit : ∀ j, j ≤ 9 → kindTo (wordB j) 9 = j := by
  intro j hj
  rcases Nat.eq_zero_or_pos j with rfl | h
  · decide
  · exact kind_word j h hj

end Go.Proofs.YtfhgbgcdkiiflaaDoor
