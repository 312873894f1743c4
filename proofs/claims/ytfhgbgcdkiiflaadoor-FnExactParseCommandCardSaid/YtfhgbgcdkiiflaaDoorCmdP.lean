/-
  Commands as text, and back.
-/
import Derived.Test.YtfhgbgcdkiiflaaDoorCmdM
import Derived.Test.YtfhgbgcdkiiflaaDoorSplitM
namespace Go.Proofs.YtfhgbgcdkiiflaaDoor

set_option linter.unusedVariables false

/-- The word of a kind. -/
def wordL : Nat → List UInt8
  | 1 => [97, 99, 116]
  | 2 => [114, 101, 97, 100]
  | 3 => [119, 114, 105, 116, 101]
  | 4 => [112, 114, 101]
  | 5 => [114, 101, 102]
  | 6 => [100, 111, 119, 110]
  | 7 => [117, 112]
  | 8 => [115, 108, 101, 101, 112]
  | 9 => [119, 97, 107, 101]
  | _ => []

/-- The figures of a number below 16. -/
def figL (x : Nat) : List UInt8 := if x < 10 then [UInt8.ofNat (48 + x)] else [49, UInt8.ofNat (38 + x)]

theorem fig_dec {x : Nat} (h : x < 16) : Lib.decDigits x = figL x := by
  unfold figL
  by_cases h1 : x < 10
  · rw [Lib.decDigits, dif_pos h1, if_pos h1]
  · rw [Lib.decDigits, dif_neg h1, if_neg h1, Lib.decDigits, dif_pos (by omega), show x / 10 = 1 by omega, show x % 10 = x - 10 by omega, show 48 + (x - 10) = 38 + x by omega]
    rfl

/-- A field: a space and the number. -/
def fldL (use : Bool) (x : Nat) : List UInt8 := if use then 32 :: figL x else []

/-- A command as text: its kind and fields as they stand. -/
def txtL (k b r c : Nat) : List UInt8 := wordL k ++ fldL (decide (k ≤ 5)) b ++ fldL (decide (k = 1)) r ++ fldL (decide (k = 2) || decide (k = 3)) c

abbrev Cm := Nat × Nat × Nat × Nat

def txtOf (q : Cm) : List UInt8 := txtL q.1 q.2.1 q.2.2.1 q.2.2.2

/-- All well-formed commands. -/
def allC : List Cm :=
  ((List.range 8).flatMap fun b => (List.range 16).map fun r => (1, b, r, 0)) ++ ((List.range 8).flatMap fun b => (List.range 8).flatMap fun c => [(2, b, 0, c), (3, b, 0, c)]) ++
  ((List.range 8).flatMap fun b => [(4, b, 0, 0), (5, b, 0, 0)]) ++ [(6, 0, 0, 0), (7, 0, 0, 0), (8, 0, 0, 0), (9, 0, 0, 0)]

theorem mem_allC {k b r c : Nat} (h : CmOk k b r c) : (k, b, r, c) ∈ allC := by
  obtain ⟨h1, h2, h3, h4, h5, h6, h7⟩ := h
  unfold allC
  simp only [List.mem_append, List.mem_flatMap, List.mem_map, List.mem_range, List.mem_cons, List.not_mem_nil, or_false, Prod.mk.injEq]
  have cls : k = 1 ∨ k = 2 ∨ k = 3 ∨ k = 4 ∨ k = 5 ∨ k = 6 ∨ k = 7 ∨ k = 8 ∨ k = 9 := by omega
  rcases cls with rfl | rfl | rfl | rfl | rfl | rfl | rfl | rfl | rfl
  · exact .inl (.inl (.inl ⟨b, by omega, r, by omega, rfl, rfl, rfl, by omega⟩))
  · exact .inl (.inl (.inr ⟨b, by omega, c, by omega, .inl ⟨rfl, rfl, by omega, rfl⟩⟩))
  · exact .inl (.inl (.inr ⟨b, by omega, c, by omega, .inr ⟨rfl, rfl, by omega, rfl⟩⟩))
  · exact .inl (.inr ⟨b, by omega, .inl ⟨rfl, rfl, by omega, by omega⟩⟩)
  · exact .inl (.inr ⟨b, by omega, .inr ⟨rfl, rfl, by omega, by omega⟩⟩)
  · exact .inr (.inl ⟨rfl, by omega, by omega, by omega⟩)
  · exact .inr (.inr (.inl ⟨rfl, by omega, by omega, by omega⟩))
  · exact .inr (.inr (.inr (.inl ⟨rfl, by omega, by omega, by omega⟩)))
  · exact .inr (.inr (.inr (.inr ⟨rfl, by omega, by omega, by omega⟩)))

theorem allC_ok : ∀ q ∈ allC, CmOk q.1 q.2.1 q.2.2.1 q.2.2.2 := by decide +kernel

/-- The command of a text. -/
def findC (l : List UInt8) : Option Cm := allC.find? fun q => txtOf q == l

theorem find_txt : ∀ q ∈ allC, findC (txtOf q) = some q := by decide +kernel

theorem findC_some {l : List UInt8} {q : Cm} (h : findC l = some q) : q ∈ allC ∧ txtOf q = l := by
  refine ⟨List.mem_of_find?_eq_some h, ?_⟩
  have := List.find?_some h
  simpa using this

theorem txt_ne : ∀ q ∈ allC, txtOf q ≠ [] := by decide +kernel

/-- The texts of a command's fields. -/
def partsOf (q : Cm) : List ByteArray :=
  ⟨(wordL q.1).toArray⟩ :: ((if q.1 ≤ 5 then [(⟨(figL q.2.1).toArray⟩ : ByteArray)] else []) ++ (if q.1 = 1 then [⟨(figL q.2.2.1).toArray⟩] else []) ++ (if q.1 = 2 ∨ q.1 = 3 then [⟨(figL q.2.2.2).toArray⟩] else []))

theorem split_txt : ∀ q ∈ allC, splitOk ⟨(txtOf q).toArray⟩ = true ∧ splitF ⟨(txtOf q).toArray⟩ = partsOf q := by decide +kernel

end Go.Proofs.YtfhgbgcdkiiflaaDoor
