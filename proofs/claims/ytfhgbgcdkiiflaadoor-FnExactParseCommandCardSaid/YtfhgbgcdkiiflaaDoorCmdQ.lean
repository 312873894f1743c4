/-
  The command of a text, as it is found field by field.
-/
import Derived.Test.YtfhgbgcdkiiflaaDoorCmdS
import Derived.Test.YtfhgbgcdkiiflaaDoorNumW
namespace Go.Proofs.YtfhgbgcdkiiflaaDoor
open Go.RowKit

set_option linter.unusedVariables false

/-- What ParseCommand answers. -/
def parseV (s : ByteArray) : Value := match findC s.data.toList with
  | some q => .tuple #[.agg #[.int .i64 (q.1 : Int), .int .i64 (q.2.1 : Int), .int .i64 (q.2.2.1 : Int), .int .i64 (q.2.2.2 : Int)], .bool true]
  | none => .tuple #[.agg #[.int .i64 0, .int .i64 0, .int .i64 0, .int .i64 0], .bool false]

def wordB (k : Nat) : ByteArray := ⟨(wordL k).toArray⟩

/-- The greatest kind up to j that has this word; 0 where none has. -/
def kindTo (f : ByteArray) : Nat → Nat
  | 0 => 0
  | j + 1 => if wordB (j + 1) = f then j + 1 else kindTo f j

theorem kindTo_le (f : ByteArray) : ∀ j, kindTo f j ≤ j
  | 0 => Nat.le_refl _
  | j + 1 => by unfold kindTo; split <;> have := kindTo_le f j <;> omega

theorem kindTo_pos (f : ByteArray) {j : Nat} (h : 1 ≤ j) : kindTo f j = if wordB j = f then j else kindTo f (j - 1) := by
  cases j with
  | zero => omega
  | succ j => rfl

theorem kind_word : ∀ k, 1 ≤ k → k ≤ 9 → kindTo (wordB k) 9 = k := by
  intro k h1 h9
  have cls : k = 1 ∨ k = 2 ∨ k = 3 ∨ k = 4 ∨ k = 5 ∨ k = 6 ∨ k = 7 ∨ k = 8 ∨ k = 9 := by omega
  rcases cls with rfl | rfl | rfl | rfl | rfl | rfl | rfl | rfl | rfl <;> decide

/-- The command that the fields make. -/
def bOf (K : Nat) (zs : List Int) : Int := if (1 ≤ K ∧ K ≤ 5) ∧ 0 < zs.length then zs.getD 0 0 else 0
def rOf (K : Nat) (zs : List Int) : Int := if K = 1 ∧ 1 < zs.length then zs.getD 1 0 else 0
def cOf (K : Nat) (zs : List Int) : Int := if (K = 2 ∨ K = 3) ∧ 1 < zs.length then zs.getD 1 0 else 0

/-- The numbers of the fields behind the first, up to the j-th. -/
def NumsOf (F : List ByteArray) (zs : List Int) : Prop := ∀ m, m < zs.length → 0 ≤ zs.getD m 0 ∧ PU (F.getD (m + 1) ⟨#[]⟩) (zs.getD m 0).toNat

theorem NumsOf.snoc {F : List ByteArray} {zs : List Int} (h : NumsOf F zs) {v : Nat} (hv : PU (F.getD (zs.length + 1) ⟨#[]⟩) v) : NumsOf F (zs ++ [(v : Int)]) := by
  intro m hm
  rw [List.length_append, List.length_singleton] at hm
  by_cases e : m = zs.length
  · subst e
    have : (zs ++ [(v : Int)]).getD zs.length 0 = v := by rw [List.getD_eq_getElem?_getD, List.getElem?_append_right (Nat.le_refl _)]; simp
    rw [this]
    exact ⟨by omega, by simpa using hv⟩
  · have : (zs ++ [(v : Int)]).getD m 0 = zs.getD m 0 := by rw [List.getD_eq_getElem?_getD, List.getD_eq_getElem?_getD, List.getElem?_append_left (by omega)]
    rw [this]
    exact h m (by omega)

theorem pu_fig {x : Nat} (h : x < 16) : PU ⟨(figL x).toArray⟩ x := ⟨by omega, by rw [fig_dec h]⟩

theorem bytes_mk (s : ByteArray) : (⟨s.data.toList.toArray⟩ : ByteArray) = s := by
  cases s
  rfl

/-- A text that is a command's: its fields. -/
theorem parts_of {s : ByteArray} {q : Cm} (h : findC s.data.toList = some q) : q ∈ allC ∧ CmOk q.1 q.2.1 q.2.2.1 q.2.2.2 ∧ (⟨(txtOf q).toArray⟩ : ByteArray) = s ∧ splitOk s = true ∧ splitF s = partsOf q := by
  obtain ⟨h1, h2⟩ := findC_some h
  have h3 := split_txt q h1
  have e : (⟨(txtOf q).toArray⟩ : ByteArray) = s := (congrArg (fun l : List UInt8 => (⟨l.toArray⟩ : ByteArray)) h2).trans (bytes_mk s)
  rw [e] at h3
  exact ⟨h1, allC_ok q h1, e, h3⟩

theorem parse_yes {K b r c : Nat} {s : ByteArray} (h : fmtB K b r c = s) (hne : s ≠ ⟨#[]⟩) : parseV s = .tuple #[.agg #[.int .i64 (K : Int), .int .i64 (b : Int), .int .i64 (r : Int), .int .i64 (c : Int)], .bool true] := by
  unfold fmtB at h
  split at h
  · rename_i hok
    have hm := mem_allC hok
    have hf := find_txt _ hm
    have e : s.data.toList = txtOf (K, b, r, c) := by rw [← h]; rfl
    unfold parseV
    rw [e, hf]
  · exact absurd h.symm hne

theorem parse_none {s : ByteArray} (h : ∀ q, findC s.data.toList ≠ some q) : parseV s = .tuple #[.agg #[.int .i64 0, .int .i64 0, .int .i64 0, .int .i64 0], .bool false] := by
  unfold parseV
  cases e : findC s.data.toList with
  | none => rfl
  | some q => exact absurd e (h q)

theorem parse_nosplit {s : ByteArray} (h : splitOk s = false ∨ splitF s = []) : parseV s = .tuple #[.agg #[.int .i64 0, .int .i64 0, .int .i64 0, .int .i64 0], .bool false] := by
  refine parse_none fun q hq => ?_
  obtain ⟨_, _, _, h1, h2⟩ := parts_of hq
  rcases h with h | h
  · rw [h1] at h; cases h
  · rw [h2] at h; cases h

/-- The fields of a command's text behind the first are numbers. -/
theorem parts_num {q : Cm} (hq : CmOk q.1 q.2.1 q.2.2.1 q.2.2.2) (m : Nat) (hm : m + 1 < (partsOf q).length) : ∃ v, PU ((partsOf q).getD (m + 1) ⟨#[]⟩) v := by
  obtain ⟨k, b, r, c⟩ := q
  obtain ⟨h1, h2, h3, h4, _⟩ := hq
  simp only at h1 h2 h3 h4
  unfold partsOf at hm ⊢
  have pb := pu_fig (x := b) (by omega)
  have pr := pu_fig (x := r) (by omega)
  have pc := pu_fig (x := c) (by omega)
  simp only at hm ⊢
  have cls : k = 1 ∨ (k = 2 ∨ k = 3) ∨ (k = 4 ∨ k = 5) ∨ 5 < k := by omega
  rcases cls with hk | hk | hk | hk
  · subst hk
    simp at hm
    have : m = 0 ∨ m = 1 := by omega
    rcases this with rfl | rfl
    · exact ⟨b, by simpa using pb⟩
    · exact ⟨r, by simpa using pr⟩
  · rw [if_pos (by omega), if_neg (by omega), if_pos hk] at hm ⊢
    simp at hm
    have : m = 0 ∨ m = 1 := by omega
    rcases this with rfl | rfl
    · exact ⟨b, by simpa using pb⟩
    · exact ⟨c, by simpa using pc⟩
  · rw [if_pos (by omega), if_neg (by omega), if_neg (by omega)] at hm ⊢
    simp at hm
    have : m = 0 := by omega
    subst this
    exact ⟨b, by simpa using pb⟩
  · rw [if_neg (by omega), if_neg (by omega), if_neg (by omega)] at hm
    simp at hm

theorem parse_nonum {s : ByteArray} {m : Nat} (hm : m + 1 < (splitF s).length) (h : ∀ v, ¬ PU ((splitF s).getD (m + 1) ⟨#[]⟩) v) : parseV s = .tuple #[.agg #[.int .i64 0, .int .i64 0, .int .i64 0, .int .i64 0], .bool false] := by
  refine parse_none fun q hq => ?_
  obtain ⟨_, hok, _, _, h2⟩ := parts_of hq
  rw [h2] at hm h
  obtain ⟨v, hv⟩ := parts_num hok m hm
  exact h v hv

/-- The fields of a command's text make the command. -/
theorem parts_back {q : Cm} (hq : CmOk q.1 q.2.1 q.2.2.1 q.2.2.2) {zs : List Int} (hn : NumsOf (partsOf q) zs) (hl : zs.length + 1 = (partsOf q).length) :
    kindTo ((partsOf q).getD 0 ⟨#[]⟩) 9 = q.1 ∧ bOf q.1 zs = q.2.1 ∧ rOf q.1 zs = q.2.2.1 ∧ cOf q.1 zs = q.2.2.2 := by
  obtain ⟨k, b, r, c⟩ := q
  obtain ⟨h1, h2, h3, h4, h5, h6, h7⟩ := hq
  simp only at h1 h2 h3 h4 h5 h6 h7 ⊢
  have hk : kindTo ((partsOf (k, b, r, c)).getD 0 ⟨#[]⟩) 9 = k := kind_word k (by omega) (by omega)
  refine ⟨hk, ?_⟩
  have num : ∀ m x, m < zs.length → x < 16 → (partsOf (k, b, r, c)).getD (m + 1) ⟨#[]⟩ = ⟨(figL x).toArray⟩ → zs.getD m 0 = (x : Int) := by
    intro m x hm hx he
    obtain ⟨h0, hp⟩ := hn m hm
    rw [he] at hp
    have := hp.inj (pu_fig hx)
    omega
  unfold bOf rOf cOf
  unfold partsOf at hl num
  simp only at hl num
  have cls : k = 1 ∨ (k = 2 ∨ k = 3) ∨ (k = 4 ∨ k = 5) ∨ 5 < k := by omega
  rcases cls with hk | hk | hk | hk
  · subst hk
    simp at hl
    have n0 := num 0 b (by omega) (by omega) (by simp)
    have n1 := num 1 r (by omega) (by omega) (by simp)
    rw [if_pos ⟨by omega, by omega⟩, if_pos ⟨rfl, by omega⟩, if_neg (by omega)]
    exact ⟨n0, n1, by omega⟩
  · rw [if_pos (show k ≤ 5 by omega), if_neg (show ¬ k = 1 by omega), if_pos hk] at hl num
    simp at hl
    have n0 := num 0 b (by omega) (by omega) (by simp)
    have n1 := num 1 c (by omega) (by omega) (by simp)
    rw [if_pos ⟨by omega, by omega⟩, if_neg (by omega), if_pos ⟨hk, by omega⟩]
    exact ⟨n0, by omega, n1⟩
  · rw [if_pos (show k ≤ 5 by omega), if_neg (show ¬ k = 1 by omega), if_neg (show ¬ (k = 2 ∨ k = 3) by omega)] at hl num
    simp at hl
    have n0 := num 0 b (by omega) (by omega) (by simp)
    rw [if_pos ⟨by omega, by omega⟩, if_neg (by omega), if_neg (by omega)]
    exact ⟨n0, by omega, by omega⟩
  · rw [if_neg (by omega), if_neg (by omega), if_neg (by omega)]
    omega

theorem parse_other {s : ByteArray} {K : Nat} {zs : List Int} (hK : kindTo ((splitF s).getD 0 ⟨#[]⟩) 9 = K) (hn : NumsOf (splitF s) zs) (hl : zs.length + 1 = (splitF s).length) (h : fmtB K (bOf K zs) (rOf K zs) (cOf K zs) ≠ s ∨ s = ⟨#[]⟩) :
    parseV s = .tuple #[.agg #[.int .i64 0, .int .i64 0, .int .i64 0, .int .i64 0], .bool false] := by
  refine parse_none fun q hq => ?_
  obtain ⟨hm, hok, he, _, h2⟩ := parts_of hq
  rw [h2] at hK hn hl
  obtain ⟨e1, e2, e3, e4⟩ := parts_back hok hn hl
  rw [e1] at hK
  subst hK
  rw [e2, e3, e4] at h
  have hf : fmtB q.1 q.2.1 q.2.2.1 q.2.2.2 = s := by
    rw [← he]
    exact if_pos hok
  rcases h with h | h
  · exact h hf
  · have := txt_ne q hm
    rw [h] at he
    exact this (by simpa using congrArg (fun t : ByteArray => t.data.toList) he)

end Go.Proofs.YtfhgbgcdkiiflaaDoor
