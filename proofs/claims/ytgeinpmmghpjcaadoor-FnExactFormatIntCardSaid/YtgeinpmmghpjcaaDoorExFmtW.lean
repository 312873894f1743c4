/-
  FnExactFormatInt's walk.
-/
import Derived.Test.YtgeinpmmghpjcaaDoorFmtW
namespace Go.Proofs.YtgeinpmmghpjcaaDoor
open Go.RowKit
set_option linter.unusedVariables false

theorem exFmt_walk (n : Int) (w : World) (hn : (Lit.int .i64 n).wf = true) (ht : Tab10 w) :
    Calls Tryd.prog 5 #[.int .i64 n] w fun e w' => e = .returned (.bool true) ∧ Below w.heap.size w w' := by
  obtain ⟨h0, h1⟩ := i64_bounds hn
  have HT := Lib.hid (Lib.tabBelow_of_tabIs ht)
  clear ht hn
  go_enter Tryd.func5, Tryd.ntmps5
  go_wp2_with fail
  refine (specFormat_any n h0 h1 _).mono ?_
  rintro e w1 ⟨rfl, hb1⟩
  have HB1 := Lib.hid hb1; clear hb1
  go_wp2_with fail
  refine (implFormat_any n h0 h1 _ (HT.out.on HB1.out).here).mono ?_
  rintro e w2 ⟨rfl, hb2⟩
  have HB2 := Lib.hid hb2; clear hb2
  go_wp2_with fail
  go_ret
  exact ⟨rfl, HB1.out.trans (HB2.out.mono HB1.out.size)⟩

end Go.Proofs.YtgeinpmmghpjcaaDoor
