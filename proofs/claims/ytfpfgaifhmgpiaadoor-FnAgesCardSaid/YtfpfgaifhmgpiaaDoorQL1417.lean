/-
  Texts of one proof, merged: CmdD.
-/
import Derived.Test.YtfpfgaifhmgpiaaDoorQL142
import Derived.Test.YtfpfgaifhmgpiaaDoorQL146
import Derived.Test.YtfpfgaifhmgpiaaDoorQL148
import Derived.Test.YtfpfgaifhmgpiaaDoorQL149
import Derived.Test.YtfpfgaifhmgpiaaDoorQL1410
import Derived.Test.YtfpfgaifhmgpiaaDoorQL1412
namespace Go.Proofs.YtfpfgaifhmgpiaaDoor
open Go.RowKit

set_option linter.unusedVariables false

/-- A drawn address. -/
def DrewAd (a b r d : Int) (c B : Nat) (w : World) (e : Ending) (w' : World) : Prop :=
  ∃ x y z : Int, e = .returned (.agg #[.int .i64 x, .int .i64 y, .int .i64 z]) ∧ AdOk a b r d x y z ∧ Cur c B w' ∧ Only c w w'

set_option maxHeartbeats 4000000 in
set_option maxRecDepth 100000 in
theorem l03Addr_any {c B : Nat} {w : World} (hc : Cur c B w) (a b r d : Int) (hg : GeoOk a b r d) :
    Calls Tryd.prog 72 #[.pointer (some ⟨c, 0, none⟩), .agg #[.int .i64 a, .int .i64 b, .int .i64 r, .int .i64 d]] w (DrewAd a b r d c B w) := by
  have hcl := hc.lt
  have hBc : B ≤ c := by obtain ⟨_, _, _, _, _, _, _, h, _⟩ := hc; exact h
  have hnr := bankN_range a b r d
  have hn1 : 1 ≤ bankN a b r d := by
    unfold bankN
    rw [if_pos hg]
    obtain ⟨⟨h1, h2⟩, ⟨h3, h4⟩, _⟩ := hg
    have : a = 1 ∨ a = 2 := by omega
    rcases this with rfl | rfl <;> omega
  obtain ⟨n, hn⟩ : ∃ n, bankN a b r d = n := ⟨_, rfl⟩
  have HN := Lib.hid hn
  rw [hn] at hnr hn1
  obtain ⟨_, _, ⟨hr0, hr1⟩, ⟨hd0, hd1⟩⟩ := hg
  obtain ⟨w1, hw1⟩ : ∃ u, (w.alloc (.cells #[.int .i64 a, .int .i64 b, .int .i64 r, .int .i64 d] 25)).alloc (.cells #[.int .i64 0, .int .i64 0, .int .i64 0] 45) = u := ⟨_, rfl⟩
  have g1 : w1.heap[w.heap.size]? = some (.cells #[.int .i64 a, .int .i64 b, .int .i64 r, .int .i64 d] 25) := by subst hw1; exact heap_alloc2_old _ _ _
  have z1 : w1.heap[w.heap.size + 1]? = some (.cells #[.int .i64 0, .int .i64 0, .int .i64 0] 45) := by subst hw1; exact heap_alloc2_new _ _ _
  have HC1 : Hid (Cur c B w1) := by subst hw1; exact (hc.alloc _).alloc _
  have HO1 : Hid (Only c w w1) := by subst hw1; exact ((Only.refl c w).alloc _).alloc _
  have hz1 := lt_of_block z1
  clear hc hn
  go_enter Tryd.func72, Tryd.ntmps72
  go_wp2_with fail
  clear hw1
  refine wp_region_float (A := ?A) [.h, .h, .t, .t, .h, .h, .h, .t, .h, .h, .h, .t, .t, .e] (by kernel_rfl) (by kernel_rfl) (fun u => u.heap[w.heap.size]? = some (.cells #[.int .i64 a, .int .i64 b, .int .i64 r, .int .i64 d] 25)) ?hC ?hH ?hT
  case hC => exact g1
  case hH =>
    intro u hu
    obtain ⟨c0, c1, c2, c3⟩ := cells4 hu
    have s0 := fun q : Same u => q.cell c0
    have s1 := fun q : Same u => q.cell c1
    have s2 := fun q : Same u => q.cell c2
    have s3 := fun q : Same u => q.cell c3
    simp only [headsOf]
    repeat (go_big_quiet_step (fail))
    refine wpQuiet_nil ?_
    exact rfl
  case hT =>
    simp only [chainT]
    have gd : w1.drew.heap[w.heap.size]? = some (.cells #[.int .i64 a, .int .i64 b, .int .i64 r, .int .i64 d] 25) := g1
    have zd : w1.drew.heap[w.heap.size + 1]? = some (.cells #[.int .i64 0, .int .i64 0, .int .i64 0] 45) := z1
    have HCd : Hid (Cur c B w1.drew) := HC1.out
    have HOd : Hid (Only c w w1.drew) := HO1.out.drewN 1
    clear g1 z1 HC1 HO1
    go_wp2_with fail
    refine (specBank_is _ _ _ _ _ HN.out _).mono ?_
    rintro e w2 ⟨rfl, hb2⟩
    have g2 := keep_block hb2 gd (lt_of_block gd)
    have z2 := keep_block hb2 zd (lt_of_block zd)
    have hcd := HCd.out.lt
    have HC2 : Hid (Cur c B w2) := HCd.out.keep (hb2.block c hcd) (hb2.mono (by omega))
    have HO2 : Hid (Only c w w2) := HOd.out.later hb2
    clear hb2 gd zd HCd HOd hcd
    go_wp2_with fail
    refine stepQ_normal ⟨g2, ?_⟩
    go_wp2_with fail
    refine (l01Below_any HC2.out n (by omega)).mono ?_
    rintro e w3 ⟨x, rfl, hx0, hx1, hc3, ho3⟩
    rw [topOf_pos (by omega)] at hx1
    have g3 := (ho3.block _ (lt_of_block g2) (by omega)).trans g2
    have z3 := (ho3.block _ (lt_of_block z2) (by omega)).trans z2
    have HC3 := Lib.hid hc3
    have HO3 := Lib.hid (HO2.out.trans ho3)
    clear hc3 ho3 g2 z2 HC2 HO2
    go_wp2_with fail
    refine stepQ_normal ⟨g3, ?_⟩
    go_wp2_with fail
    refine (l01Below_any HC3.out r (by omega)).mono ?_
    rintro e w4 ⟨y, rfl, hy0, hy1, hc4, ho4⟩
    rw [topOf_pos (by omega)] at hy1
    have g4 := (ho4.block _ (lt_of_block g3) (by omega)).trans g3
    have z4 := (ho4.block _ (lt_of_block z3) (by omega)).trans z3
    have HC4 := Lib.hid hc4
    have HO4 := Lib.hid (HO3.out.trans ho4)
    clear hc4 ho4 g3 z3 HC3 HO3
    go_wp2_with fail
    refine stepQ_normal ⟨g4, ?_⟩
    go_wp2_with fail
    refine (l01Below_any HC4.out d (by omega)).mono ?_
    rintro e w5 ⟨zc, rfl, hz0, hz1, hc5, ho5⟩
    rw [topOf_pos (by omega)] at hz1
    have g5 := (ho5.block _ (lt_of_block g4) (by omega)).trans g4
    have z5 := (ho5.block _ (lt_of_block z4) (by omega)).trans z4
    have HC5 := Lib.hid hc5
    have HO5 := Lib.hid (HO4.out.trans ho5)
    clear hc5 ho5 g4 z4 HC4 HO4
    go_wp2_with fail
    refine stepQ_normal ⟨g5, ?_⟩
    go_wp2_with fail
    refine stepQ_normal ⟨g5, ?_⟩
    obtain ⟨y0, y1, y2⟩ := cells3 z5
    have f0 := thawed z5 0
    have f1 := thawed z5 1
    have f2 := thawed z5 2
    obtain ⟨w6, hw6⟩ : ∃ u, ((w5.setCell ⟨w.heap.size + 1, 0, none⟩ (.int .i64 x)).setCell ⟨w.heap.size + 1, 1, none⟩ (.int .i64 y)).setCell ⟨w.heap.size + 1, 2, none⟩ (.int .i64 zc) = u := ⟨_, rfl⟩
    have z6 : w6.heap[w.heap.size + 1]? = some (.cells #[.int .i64 x, .int .i64 y, .int .i64 zc] 45) := by rw [← hw6]; exact set_cells (set_cells (set_cells z5 0 _) 1 _) 2 _
    have HC6 : Hid (Cur c B w6) := by
      show Cur c B w6
      rw [← hw6]
      have h0 := HC5.out
      repeat' (first | exact h0 | refine Cur.setNew ?_ (by simp; omega) (by simp; omega) _)
    have HO6 : Hid (Only c w w6) := by
      show Only c w w6
      rw [← hw6]
      have h0 := HO5.out
      repeat' (first | exact h0 | refine Only.setNew ?_ (by simp) _)
    clear z5 HC5 HO5 g5
    go_wp2_with fail
    refine stepQ_normal ⟨trivial, ?_⟩
    clear hw6 y0 y1 y2 f0 f1 f2
    obtain ⟨y0, y1, y2⟩ := cells3 z6
    go_wp2
    (try simp only [Exit.inBlock, Exit.then])
    refine bodyPost_ret (v := .agg #[.int .i64 x, .int .i64 y, .int .i64 zc]) ?_ rfl ⟨x, y, zc, rfl, ⟨⟨hx0, by rw [HN.out]; omega⟩, ⟨hy0, by omega⟩, ⟨hz0, by omega⟩⟩, HC6.out, HO6.out⟩
    simp [results, Tryd.results72, go_sem, y0, y1, y2]

end Go.Proofs.YtfpfgaifhmgpiaaDoor
