/-
  The fields of a line, as plain lists: no program here.
-/
import Derived.Test.YtfhgbgcdkiiflaaDoorBytesW
namespace Go.Proofs.YtfhgbgcdkiiflaaDoor
open Go.RowKit Go.PlainAid

set_option linter.unusedVariables false

/-- What one more field adds: nothing where it is empty. -/
def fieldOf (s : ByteArray) (b i : Nat) : List ByteArray := if b < i then [s.extract b i] else []

/-- Behind the first i bytes: the fields that have ended, and where the next may begin. -/
def stp (s : ByteArray) : Nat → List ByteArray × Nat
  | 0 => ([], 0)
  | i + 1 => if bt s i = 32 then ((stp s i).1 ++ fieldOf s (stp s i).2 i, i + 1) else stp s i

theorem stp_hit {s : ByteArray} {i : Nat} (h : bt s i = 32) : stp s (i + 1) = ((stp s i).1 ++ fieldOf s (stp s i).2 i, i + 1) := if_pos h

theorem stp_miss {s : ByteArray} {i : Nat} (h : ¬ bt s i = 32) : stp s (i + 1) = stp s i := if_neg h

theorem fieldOf_yes {s : ByteArray} {b i : Nat} (h : b < i) : fieldOf s b i = [s.extract b i] := if_pos h

theorem fieldOf_no {s : ByteArray} {b i : Nat} (h : ¬ b < i) : fieldOf s b i = [] := if_neg h

theorem fieldOf_length (s : ByteArray) (b i : Nat) : (fieldOf s b i).length ≤ 1 := by unfold fieldOf; split <;> simp

theorem stp_le (s : ByteArray) : ∀ i, (stp s i).2 ≤ i ∧ (stp s i).1.length ≤ i
  | 0 => by simp [stp]
  | i + 1 => by
    have h := stp_le s i
    have f := fieldOf_length s (stp s i).2 i
    by_cases e : bt s i = 32
    · rw [stp_hit e]; simp; omega
    · rw [stp_miss e]; omega

/-- All fields. -/
def fieldsOf (s : ByteArray) : List ByteArray := (stp s s.size).1 ++ fieldOf s (stp s s.size).2 s.size

theorem fieldsOf_length (s : ByteArray) : (fieldsOf s).length ≤ s.size + 1 := by
  have h := stp_le s s.size
  have f := fieldOf_length s (stp s s.size).2 s.size
  unfold fieldsOf; simp; omega

def okB (x : Int) : Prop := 32 ≤ x ∧ x ≤ 126

def okBb (x : Int) : Bool := decide (32 ≤ x) && decide (x ≤ 126)

theorem okBb_iff (x : Int) : okBb x = true ↔ okB x := by unfold okBb okB; simp

/-- All bytes among the first k may stand in a line. -/
def okTo (s : ByteArray) : Nat → Bool
  | 0 => true
  | k + 1 => okTo s k && okBb (bt s k)

theorem okTo_all {s : ByteArray} : ∀ {k : Nat}, okTo s k = true → ∀ i, i < k → okB (bt s i)
  | 0, _, i, hi => by omega
  | k + 1, h, i, hi => by
    simp only [okTo, Bool.and_eq_true] at h
    by_cases e : i = k
    · subst e; exact (okBb_iff _).1 h.2
    · exact okTo_all h.1 i (by omega)

theorem okTo_bad {s : ByteArray} : ∀ {k : Nat}, okTo s k = false → ∃ m, m < k ∧ ¬ okB (bt s m) ∧ ∀ i, i < m → okB (bt s i)
  | 0, h => by cases h
  | k + 1, h => by
    by_cases e : okTo s k = true
    · refine ⟨k, by omega, fun hk => ?_, okTo_all e⟩
      simp only [okTo, e, Bool.true_and] at h
      rw [(okBb_iff _).2 hk] at h
      cases h
    · obtain ⟨m, hm, r⟩ := okTo_bad (s := s) (k := k) (by simpa using e)
      exact ⟨m, by omega, r⟩

theorem okTo_mk {s : ByteArray} : ∀ {k : Nat}, (∀ i, i < k → okB (bt s i)) → okTo s k = true
  | 0, _ => rfl
  | k + 1, h => by
    simp only [okTo, Bool.and_eq_true]
    exact ⟨okTo_mk fun i hi => h i (by omega), (okBb_iff _).2 (h k (by omega))⟩

/-- Whether the text is a line. -/
def splitOk (s : ByteArray) : Bool := decide (s.size ≤ 600) && okTo s s.size && decide ((fieldsOf s).length ≤ 24)

/-- What SplitFields gives. -/
def splitF (s : ByteArray) : List ByteArray := if splitOk s = true then fieldsOf s else []

theorem splitF_yes {s : ByteArray} (h : splitOk s = true) : splitF s = fieldsOf s := if_pos h

theorem splitF_no {s : ByteArray} (h : splitOk s = false) : splitF s = [] := by unfold splitF; rw [h]; rfl

theorem splitOk_yes {s : ByteArray} (h1 : s.size ≤ 600) (h2 : ∀ i, i < s.size → okB (bt s i)) (h3 : (fieldsOf s).length ≤ 24) : splitOk s = true := by
  simp [splitOk, h1, h3, okTo_mk h2]

theorem splitOk_long {s : ByteArray} (h1 : 600 < s.size) : splitOk s = false := by
  simp [splitOk]; intro h; omega

theorem splitOk_bad {s : ByteArray} {m : Nat} (h1 : m < s.size) (h2 : ¬ okB (bt s m)) : splitOk s = false := by
  cases h : okTo s s.size
  · simp [splitOk, h]
  · exact absurd (okTo_all h m h1) h2

theorem splitOk_many {s : ByteArray} (h3 : 24 < (fieldsOf s).length) : splitOk s = false := by
  simp [splitOk]; intro _ _; omega

theorem splitF_length (s : ByteArray) : (splitF s).length ≤ 24 := by
  cases h : splitOk s
  · rw [splitF_no h]; simp
  · rw [splitF_yes h]; simp [splitOk] at h; omega

end Go.Proofs.YtfhgbgcdkiiflaaDoor
