/-
  FnExactParseUint's walk.
-/
import Derived.Test.YtgeinpmmghpjcaaDoorNumW
namespace Go.Proofs.YtgeinpmmghpjcaaDoor
open Go.RowKit
set_option linter.unusedVariables false

theorem var_below {P : Program} {w w' : World} {n : String} {cs : Array Value} (h : w.var? P n = some cs) (hb : Below w.heap.size w w') : w'.var? P n = some cs := by
  cases hg : P.globalNamed n with
  | none => simp [World.var?, hg] at h
  | some g =>
    have hlt : g < w.heap.size := by
      rcases Nat.lt_or_ge g w.heap.size with h' | h'
      · exact h'
      · exfalso; simp [World.var?, hg, Array.getElem?_eq_none h'] at h
    unfold World.var? at h ⊢
    simp only [hg, Option.bind_some] at h ⊢
    rw [hb.block g hlt]
    exact h

set_option maxHeartbeats 1000000 in
theorem exNum_walk (s : ByteArray) (w : World) (hs : s.size ≤ maxLen) (ht : Tab10 w) (he : ErrS w) (hr : ErrR w) :
    Calls Tryd.prog 6 #[.string s] w fun e w' => e = .returned (.bool true) ∧ Below w.heap.size w w' := by
  have HS := Lib.hid hs
  unfold maxLen at hs
  have HT := Lib.hid (Lib.tabBelow_of_tabIs ht)
  have HE := Lib.hid he
  have HR := Lib.hid hr
  clear ht he hr
  by_cases h1 : (1048576 : Int) < (s.size : Int)
  · go_enter Tryd.func6, Tryd.ntmps6
    go_wp2_with fail
    go_ret
    exact ⟨rfl, Below.refl _ _⟩
  · by_cases hp : ∃ v, PU s v
    · obtain ⟨v, hp⟩ := hp
      have HP := Lib.hid hp
      clear hp
      go_enter Tryd.func6, Tryd.ntmps6
      go_wp2_with fail
      refine (specParse_yes s v HP.out _).mono ?_
      rintro e w1 ⟨rfl, hb1⟩
      have HB1 := Lib.hid hb1; clear hb1
      go_wp2_with fail
      refine (implParse_yes s v HP.out _ (HT.out.on HB1.out).here).mono ?_
      rintro e w2 ⟨rfl, hb2⟩
      have HB2 := Lib.hid hb2; clear hb2
      go_wp2_with fail
      go_ret
      exact ⟨rfl, HB1.out.trans (HB2.out.mono HB1.out.size)⟩
    · have HP : Hid (∀ v, ¬ PU s v) := fun v h => hp ⟨v, h⟩
      clear hp
      go_enter Tryd.func6, Tryd.ntmps6
      go_wp2_with fail
      refine (specParse_no s HS.out HP.out _).mono ?_
      rintro e w1 ⟨rfl, hb1⟩
      have HB1 := Lib.hid hb1; clear hb1
      have he1 : ErrS w1 := by obtain ⟨a, b, c⟩ := HE.out; exact ⟨a, b, var_below c HB1.out⟩
      have hr1 : ErrR w1 := by obtain ⟨a, b, c⟩ := HR.out; exact ⟨a, b, var_below c HB1.out⟩
      have HE1 := Lib.hid he1
      have HR1 := Lib.hid hr1
      clear he1 hr1
      go_wp2_with fail
      refine (implParse_no s (by omega) HP.out _ (HT.out.on HB1.out).here HE1.out HR1.out).mono ?_
      rintro e w2 ⟨rfl, hb2⟩
      have HB2 := Lib.hid hb2; clear hb2
      go_wp2_with fail
      go_ret
      exact ⟨rfl, HB1.out.trans (HB2.out.mono HB1.out.size)⟩

end Go.Proofs.YtgeinpmmghpjcaaDoor
