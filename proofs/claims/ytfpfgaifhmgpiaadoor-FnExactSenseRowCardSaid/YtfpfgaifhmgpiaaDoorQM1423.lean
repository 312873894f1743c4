/-
  Texts of one proof, merged: RdyT, RdyW.
-/
import Derived.Test.YtfpfgaifhmgpiaaDoorQM148
import Derived.Test.YtfpfgaifhmgpiaaDoorQM149
import Derived.Test.YtfpfgaifhmgpiaaDoorQM1410
import Derived.Test.YtfpfgaifhmgpiaaDoorQM1411
import Derived.Test.YtfpfgaifhmgpiaaDoorQM1413
import Derived.Test.YtfpfgaifhmgpiaaDoorQM1414
import Derived.Test.YtfpfgaifhmgpiaaDoorQM1417
import Derived.Test.YtfpfgaifhmgpiaaDoorQM1422
import Derived.Laws.AppendOwnNone
namespace Go.Proofs.YtfpfgaifhmgpiaaDoor
open Go.RowKit Go.PlainAid

set_option linter.unusedVariables false

/-- What a slot holds till operation k has come up. -/
def UnlV (k : Nat) (v : Value) (listed : Array Bool) (x : Nat → Value) : Prop := listed.getD k false = false → x k = v

theorem UnlV.keep {k i : Nat} {v u : Value} {listed : Array Bool} {x : Nat → Value} (h : UnlV k v listed x) (hi : i ≠ k) : UnlV k v (listed.setIfInBounds i true) (upd x i u) := fun h1 => by
  rw [upd_other _ _ (Ne.symm hi)]
  exact h (by rwa [getD_set_ne false hi] at h1)

theorem UnlV.gone {k : Nat} {v : Value} {listed : Array Bool} {x : Nat → Value} (h : k < listed.size) : UnlV k v (listed.setIfInBounds k true) x := fun h1 => by
  rw [get_set_same false h] at h1
  cases h1

end Go.Proofs.YtfpfgaifhmgpiaaDoor

namespace Go.Proofs.YtfpfgaifhmgpiaaDoor
open Go.RowKit Go.PlainAid

set_option linter.unusedVariables false

set_option maxHeartbeats 4000000 in
theorem implCloneI_is (a : Option Addr) (n c : Nat) (l : List Int) (hl : l.length = n) (h1 : n ≤ 3000000) (hnc : a = none → c = 0) (w : World) (hr : RowI w a l) :
    Calls Tryd.prog 54 #[.slice a n c] w (GivesI l w) := by
  obtain ⟨i0, hi, hz0, hz1, hz2⟩ := info_parts infoI
  have q0 : ∀ (w : World) (a : Option Addr) (n c n' c' : Nat), (Go.binOp .eql 29 (.slice a n c) (.slice none n' c')).run Tryd.prog w = .ok (.bool a.isNone) w := fun w a n c n' c' => Lib.run_eql_slice_nil w _ _ a n c n' c' Tryd.underlying29
  rcases a with _ | ad
  · have hl0 : l = [] := by rcases hr with h | ⟨_, _, h, _⟩; exact h; cases h
    subst hl0
    obtain rfl : n = 0 := hl.symm
    obtain rfl : c = 0 := hnc rfl
    clear hr hl hnc
    go_enter Tryd.func54, Tryd.ntmps54
    go_wp2
    go_ret
    exact givesI_nil (Below.refl _ _)
  · have HR := Lib.hid hr
    have HL := Lib.hid hl
    clear hr hl hnc
    go_enter Tryd.func54, Tryd.ntmps54
    have hb3 : Below w.heap.size w (w.alloc (.cells #[] 3)) := (Below.refl _ _).alloc (Nat.le_refl _) _
    have own3 : OwnI w.heap.size (.slice (some ⟨w.heap.size, 0, none⟩) 0 0) [] (w.alloc (.cells #[] 3)) := World.ownsRow_made (base := w.heap.size) (e := 3) (size := 1) w #[] 0 (Nat.le_refl _) (by decide) rfl
    have HR3 := Lib.hid (HR.out.below hb3)
    have hS3 : w.heap.size ≤ (w.alloc (.cells #[] 3)).heap.size := by simp
    go_wp2_with (at_builtin; refine append_int rfl _ _ rfl w.heap.size _ 0 [] rfl own3 rfl (some ad) n c l rfl HL.out (fun h => by cases h) HR3.out (by omega) hS3 ?_)
    intro v' w4 hown4 hgrow _
    (try rw [List.nil_append] at hown4)
    have HB4 : Hid (Below w.heap.size w w4) := hb3.grown hgrow hS3 (fun j hj => by have := Option.some.inj hj; have h2 : w.heap.size = j := this; omega)
    obtain ⟨aa, cc, hv⟩ := hown4.shape
    subst hv
    have HO4 := Lib.hid hown4
    clear hown4 hgrow own3 hb3
    go_wp2_with fail
    go_ret
    exact ⟨aa, cc, rfl, HO4.out, HB4.out⟩

end Go.Proofs.YtfpfgaifhmgpiaaDoor
