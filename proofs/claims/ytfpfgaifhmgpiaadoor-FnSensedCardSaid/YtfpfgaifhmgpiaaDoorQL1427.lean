/-
  Texts of one proof, merged: CodA, ArrDc.
-/
import Derived.Test.YtfpfgaifhmgpiaaDoorQL1421
import Derived.Test.YtfpfgaifhmgpiaaDoorQL1426
import Derived.LaidLaws
import Derived.LaidSub
import Derived.Lay
import Derived.Lib.LaidTab
import Derived.MakeChecks
import Derived.SevenTiedAt
import Derived.Stop.LaidErr
import Derived.Test.YtfpfgaifhmgpiaaDoorCards
import Derived.Test.YtfpfgaifhmgpiaaDoorTie
namespace Go.Proofs.YtfpfgaifhmgpiaaDoor
open Go.RowKit

set_option linter.unusedVariables false

/-- An array of ints that reads as listed holds these ints, cell for cell. -/
theorem cells_of_ints {H : Type} {enc : TypeId × Value → H} {P : Program} {w : World} {base : Nat} {sp : Nat → Bool} {held : Bool} {fuel : Nat} {t e : TypeId} {n : Nat} {cs : List Value} {zs : List Int} {p : List MemPlace}
    (ht : P.underlying t = some (.array n e)) (he : P.underlying e = some (.int .i64)) (hce : P.cellsOf e = 1) (hct : P.cellsOf t = n)
    (h : DataW.trod enc P w base sp held fuel t cs = some (.agg (zs.map fun x => .lit (.int .i64 x)), p)) : cs = zs.map fun x => Value.int .i64 x := by
  cases fuel with
  | zero => simp [DataW.trod] at h
  | succ fuel =>
    simp only [DataW.trod, ht, hce, hct, Nat.mul_one] at h
    split at h
    · rename_i hl
      obtain ⟨xs, hm, hx⟩ := Option.map_eq_some_iff.1 h
      have hxs : xs.map (·.1) = zs.map fun x => (DataW.lit (.int .i64 x) : DataW H) := by
        have := congrArg Prod.fst hx
        simpa using this
      have hxl : xs.length = n := by simpa using Lib.mapM_length hm
      have hzl : zs.length = n := by
        have := congrArg List.length hxs
        simp at this
        omega
      apply List.ext_getElem?
      intro i
      by_cases hi : i < n
      · obtain ⟨b, hb, hf⟩ := Lib.mapM_at hm i i (by simp [hi])
        obtain ⟨s, hc, rfl, _⟩ := DataW.trod_int he hf
        have h1 : cs[i]? = some (.int .i64 s) := by
          have := congrArg (·[0]?) hc
          simpa [List.getElem?_take, List.getElem?_drop] using this
        have h2 : (xs.map (·.1))[i]? = some (DataW.lit (.int .i64 s) : DataW H) := by simp [hb]
        rw [hxs] at h2
        simp only [List.getElem?_map, Option.map_eq_some_iff, DataW.lit.injEq, Lit.int.injEq, true_and] at h2
        obtain ⟨x, hx', hxx⟩ := h2
        rw [h1]
        simp only [List.getElem?_map, hx', Option.map_some, hxx]
      · rw [List.getElem?_eq_none (by omega), List.getElem?_eq_none (by simp; omega)]
    · cases h

end Go.Proofs.YtfpfgaifhmgpiaaDoor

namespace Go.Proofs.YtfpfgaifhmgpiaaDoor
open Go.RowKit

set_option linter.unusedVariables false

theorem gDec : Tryd.prog.globalNamed "loop.example/g00977/impl.decayChanges" = some 0 := by kernel_rfl

theorem gDecType : (Tryd.prog.globals[0]?).map (·.type) = some 125 := by kernel_rfl

theorem cellsDec : Tryd.prog.cellsOf 125 = 2 := by kernel_rfl

theorem cellsDecI : Tryd.prog.cellsOf 3 = 1 := by kernel_rfl

theorem decay_of {W : World} (h : laidMetH Tryd.prog [("loop.example/g00977/impl.decayChanges", Rows.laid_loop_example_g00977_impl_decayChanges)] W) : DecAt W := by
  rw [MakeChecks.laidMetH_plain _ _ _ (by kernel_rfl)] at h
  obtain ⟨ps, ⟨g', t', cs, fuel, p, q, hg', ht', hvar, hd, _, _⟩, _⟩ := h
  obtain rfl := Option.some.inj (gDec.symm.trans hg')
  obtain rfl := Option.some.inj (gDecType.symm.trans ht')
  have hc := cells_of_ints (zs := [5, 10]) Tryd.underlying125 Tryd.underlying3 cellsDecI cellsDec hd
  obtain ⟨l⟩ := cs
  have hc : l = _ := hc
  subst hc
  have k := fun i => World.var?_cell gDec hvar i
  exact ⟨k 0, k 1⟩

end Go.Proofs.YtfpfgaifhmgpiaaDoor
