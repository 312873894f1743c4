/-
  Texts of one proof, merged: LaidW.
-/
import Derived.Test.YtihhcnckoeaihaaDoorQE20
import Derived.Test.YtihhcnckoeaihaaDoorQE27
namespace Go.Proofs.YtihhcnckoeaihaaDoor
open Go.RowKit

set_option linter.unusedVariables false

/-- An array of texts that reads as listed holds these texts, cell for cell. -/
theorem cells_of_texts {H : Type} {enc : TypeId × Value → H} {P : Program} {w : World} {base : Nat} {sp : Nat → Bool} {held : Bool} {fuel : Nat} {t e : TypeId} {n : Nat} {cs : List Value} {ts : List (List UInt8)} {p : List MemPlace}
    (ht : P.underlying t = some (.array n e)) (he : P.underlying e = some .string) (hce : P.cellsOf e = 1) (hct : P.cellsOf t = n)
    (h : DataW.trod enc P w base sp held fuel t cs = some (.agg (ts.map fun x => .lit (.string x)), p)) : cs = ts.map fun x => Value.string ⟨x.toArray⟩ := by
  cases fuel with
  | zero => simp [DataW.trod] at h
  | succ fuel =>
    simp only [DataW.trod, ht, hce, hct, Nat.mul_one] at h
    split at h
    · rename_i hl
      obtain ⟨xs, hm, hx⟩ := Option.map_eq_some_iff.1 h
      have hxs : xs.map (·.1) = ts.map fun x => (DataW.lit (.string x) : DataW H) := by
        have := congrArg Prod.fst hx
        simpa using this
      have hxl : xs.length = n := by simpa using Lib.mapM_length hm
      have hzl : ts.length = n := by
        have := congrArg List.length hxs
        simp at this
        omega
      apply List.ext_getElem?
      intro i
      by_cases hi : i < n
      · obtain ⟨b, hb, hf⟩ := Lib.mapM_at hm i i (by simp [hi])
        obtain ⟨s, hc, rfl, _⟩ := DataW.trod_string he hf
        have h1 : cs[i]? = some (.string s) := by
          have := congrArg (·[0]?) hc
          simpa [List.getElem?_take, List.getElem?_drop] using this
        have h2 : (xs.map (·.1))[i]? = some (DataW.lit (.string s.data.toList) : DataW H) := by simp [hb]
        rw [hxs] at h2
        simp only [List.getElem?_map, Option.map_eq_some_iff, DataW.lit.injEq, Lit.string.injEq] at h2
        obtain ⟨x, hx', hxx⟩ := h2
        rw [h1]
        simp only [List.getElem?_map, hx', Option.map_some, hxx]
      · rw [List.getElem?_eq_none (by omega), List.getElem?_eq_none (by simp; omega)]
    · cases h

def wordsL : List (List UInt8) := (List.range 10).map wordL

theorem gWords : Tryd.prog.globalNamed "loop.example/g00977/impl.commandWords" = some 0 := by kernel_rfl

theorem gWordsType : (Tryd.prog.globals[0]?).map (·.type) = some 68 := by kernel_rfl

theorem cellsWords : Tryd.prog.cellsOf 68 = 10 := by kernel_rfl

theorem cellsWord : Tryd.prog.cellsOf 9 = 1 := by kernel_rfl

theorem words_of {W : World} (h : laidMetH Tryd.prog [("loop.example/g00977/impl.commandWords", Rows.laid_loop_example_g00977_impl_commandWords)] W) : WordsVar W := by
  rw [MakeChecks.laidMetH_plain _ _ _ (by kernel_rfl)] at h
  obtain ⟨ps, ⟨g', t', cs, fuel, p, q, hg', ht', hvar, hd, _, _⟩, _⟩ := h
  obtain rfl := Option.some.inj (gWords.symm.trans hg')
  obtain rfl := Option.some.inj (gWordsType.symm.trans ht')
  have hc := cells_of_texts (ts := wordsL) Tryd.underlying68 Tryd.underlying9 cellsWord cellsWords hd
  intro k hk
  have h2 := World.var?_cell gWords hvar k
  rw [h2]
  obtain ⟨l⟩ := cs
  have hc : l = _ := hc
  subst hc
  have cls : k = 0 ∨ k = 1 ∨ k = 2 ∨ k = 3 ∨ k = 4 ∨ k = 5 ∨ k = 6 ∨ k = 7 ∨ k = 8 ∨ k = 9 := by omega
  rcases cls with rfl | rfl | rfl | rfl | rfl | rfl | rfl | rfl | rfl | rfl <;> rfl

end Go.Proofs.YtihhcnckoeaihaaDoor
