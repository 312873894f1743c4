/-
  The draw of a geometry and a command; one wrong bit.
-/
import Derived.Test.YtcjeobagjhjbmaaCmdD
import Derived.Laws.StructEq
namespace Go.Proofs.Ytcjeobagjhjbmaa
open Go.RowKit

set_option linter.unusedVariables false

/-- What a drawn geometry and command leave. -/
def DrewCommand (w : World) (e : Ending) (w' : World) : Prop :=
  ∃ a b r d k x y z : Int, e = .returned (.tuple #[.agg #[.int .i64 a, .int .i64 b, .int .i64 r, .int .i64 d], .agg #[.int .i64 k, .int .i64 x, .int .i64 y, .int .i64 z]]) ∧ GeoOk a b r d ∧ CmOk k x y z ∧ AdOk a b r d x y z ∧ Below w.heap.size w w'

set_option maxHeartbeats 4000000 in
set_option maxRecDepth 100000 in
theorem drawCommand_any {a : Option Addr} {len cap : Nat} {zs : List Int} {w : World} (hr : IsRow .u8 w a len cap zs) :
    Calls Try.prog 18 #[.slice a len cap] w (DrewCommand w) := by
  obtain ⟨w1, hw1⟩ : ∃ u, (w.alloc (.cells #[.int .i64 0, .int .i64 0, .int .i64 0, .int .i64 0] 31)).alloc (.cells #[.int .i64 0, .int .i64 0, .int .i64 0, .int .i64 0] 33) = u := ⟨_, rfl⟩
  have HR := Lib.hid ((hr.alloc (.cells #[.int .i64 0, .int .i64 0, .int .i64 0, .int .i64 0] 31)).alloc (.cells #[.int .i64 0, .int .i64 0, .int .i64 0, .int .i64 0] 33))
  rw [hw1] at HR
  have HB1 : Hid (Below w.heap.size w w1) := by subst hw1; exact ((Below.refl _ _).alloc (by simp) _).alloc (by simp) _
  have x1 : w1.heap[w.heap.size]? = some (.cells #[.int .i64 0, .int .i64 0, .int .i64 0, .int .i64 0] 31) := by subst hw1; exact heap_alloc2_old _ _ _
  have y1 : w1.heap[w.heap.size + 1]? = some (.cells #[.int .i64 0, .int .i64 0, .int .i64 0, .int .i64 0] 33) := by subst hw1; exact heap_alloc2_new _ _ _
  have hn1 := lt_of_block y1
  clear hr
  go_enter Try.func18, Try.ntmps18
  go_wp2_with fail
  refine (l01New_any HR.out).mono ?_
  rintro e w2 ⟨c, rfl, hBc, hc2, hb2⟩
  have x2 := keep_block hb2 x1 (lt_of_block x1)
  have y2 := keep_block hb2 y1 (lt_of_block y1)
  have HB2 : Hid (Below w.heap.size w w2) := HB1.out.trans (hb2.mono HB1.out.size)
  have HC2 := Lib.hid hc2
  have hcl := hc2.lt
  have hs2 := HB2.out.size
  have hs12 := hb2.size
  clear hb2 hc2 HR x1 y1 HB1 hw1
  go_wp2_with fail
  refine (l03Geo_any HC2.out).mono ?_
  rintro e w3 ⟨ga, gb, gr, gd, rfl, hgeo, hc3, ho3⟩
  have hg : GeoOk ga gb gr gd := ⟨hgeo.1, hgeo.2.1, ⟨by omega, by omega⟩, ⟨by omega, by omega⟩⟩
  have HG := Lib.hid hg
  have x3 := (ho3.block _ (lt_of_block x2) (by omega)).trans x2
  have y3 := (ho3.block _ (lt_of_block y2) (by omega)).trans y2
  have HB3 : Hid (Below w.heap.size w w3) := HB2.out.trans (ho3.below (by omega) hs2)
  have hs3 := ho3.size
  obtain ⟨w4, hw4⟩ : ∃ u, w3.alloc (.cells #[.int .i64 ga, .int .i64 gb, .int .i64 gr, .int .i64 gd] 31) = u := ⟨_, rfl⟩
  have hb4 : Below w3.heap.size w3 w4 := by rw [← hw4]; exact (Below.refl _ _).alloc (Nat.le_refl _) _
  have g4 : w4.heap[w3.heap.size]? = some (.cells #[.int .i64 ga, .int .i64 gb, .int .i64 gr, .int .i64 gd] 31) := by rw [← hw4]; exact heap_alloc_new _ _
  have x4 := keep_block hb4 x3 (lt_of_block x3)
  have y4 := keep_block hb4 y3 (lt_of_block y3)
  have HB4 : Hid (Below w.heap.size w w4) := HB3.out.trans (hb4.mono HB3.out.size)
  have HC4 : Hid (Cur c w1.heap.size w4) := by rw [← hw4]; exact hc3.alloc _
  obtain ⟨gB, hgB⟩ : ∃ u, w3.heap.size = u := ⟨_, rfl⟩
  rw [hgB] at g4 hs3
  clear hb4 hc3 ho3 x2 y2 x3 y3 HB2 HB3 hgeo hg
  go_wp2_with fail
  clear hw4
  (try simp only [hgB])
  clear hgB
  refine wp_region_float (A := ?A) [.h, .h, .h, .t, .t, .e] (by kernel_rfl) (by kernel_rfl) (fun u => u.heap[gB]? = some (.cells #[.int .i64 ga, .int .i64 gb, .int .i64 gr, .int .i64 gd] 31)) ?hC ?hH ?hT
  case hC => exact g4
  case hH =>
    intro u hu
    obtain ⟨c0, c1, c2, c3⟩ := cells4 hu
    have s0 := fun q : Same u => q.cell c0
    have s1 := fun q : Same u => q.cell c1
    have s2 := fun q : Same u => q.cell c2
    have s3 := fun q : Same u => q.cell c3
    simp only [headsOf]
    repeat (go_big_quiet_step (fail))
    refine wpQuiet_nil ?_
    exact rfl
  case hT =>
    simp only [chainT]
    have HCd : Hid (Cur c w1.heap.size w4.drew) := HC4.out
    have HBd : Hid (Below w.heap.size w w4.drew) := HB4.out.drew
    have xd : w4.drew.heap[w.heap.size]? = some (.cells #[.int .i64 0, .int .i64 0, .int .i64 0, .int .i64 0] 31) := x4
    have yd : w4.drew.heap[w.heap.size + 1]? = some (.cells #[.int .i64 0, .int .i64 0, .int .i64 0, .int .i64 0] 33) := y4
    have gd' : w4.drew.heap[gB]? = some (.cells #[.int .i64 ga, .int .i64 gb, .int .i64 gr, .int .i64 gd] 31) := g4
    clear x4 y4 g4 HB4 HC4
    go_wp2_with fail
    refine (l06Cmd_any HCd.out ga gb gr gd HG.out).mono ?_
    rintro e w5 ⟨k, x, y, z, rfl, hcm, had, hc5, ho5⟩
    have x5 := (ho5.block _ (lt_of_block xd) (by omega)).trans xd
    have y5 := (ho5.block _ (lt_of_block yd) (by omega)).trans yd
    have g5 := (ho5.block _ (lt_of_block gd') (by omega)).trans gd'
    have HB5 : Hid (Below w.heap.size w w5) := HBd.out.trans (ho5.below (by omega) HBd.out.size)
    clear hc5 ho5 xd yd gd' HBd HCd
    go_wp2_with fail
    refine stepQ_normal ⟨g5, ?_⟩
    obtain ⟨x0, x1, x2, x3⟩ := cells4 x5
    have f0 := thawed x5 0
    have f1 := thawed x5 1
    have f2 := thawed x5 2
    have f3 := thawed x5 3
    obtain ⟨w6, hw6⟩ : ∃ u, (((w5.setCell ⟨w.heap.size, 0, none⟩ (.int .i64 ga)).setCell ⟨w.heap.size, 1, none⟩ (.int .i64 gb)).setCell ⟨w.heap.size, 2, none⟩ (.int .i64 gr)).setCell ⟨w.heap.size, 3, none⟩ (.int .i64 gd) = u := ⟨_, rfl⟩
    have other : ∀ k, k ≠ w.heap.size → w6.heap[k]? = w5.heap[k]? := fun k hk => by
      rw [← hw6]
      exact (Below.heap_setCell _ _ _ _ hk).trans ((Below.heap_setCell _ _ _ _ hk).trans ((Below.heap_setCell _ _ _ _ hk).trans (Below.heap_setCell _ _ _ _ hk)))
    have x6 : w6.heap[w.heap.size]? = some (.cells #[.int .i64 ga, .int .i64 gb, .int .i64 gr, .int .i64 gd] 31) := by rw [← hw6]; exact set_cells (set_cells (set_cells (set_cells x5 0 _) 1 _) 2 _) 3 _
    have y6 := (other (w.heap.size + 1) (by omega)).trans y5
    have g6 := (other gB (by omega)).trans g5
    have HB6 : Hid (Below w.heap.size w w6) := by
      show Below _ _ _
      rw [← hw6]
      have h0 := HB5.out
      repeat' (first | exact h0 | refine Below.setCell ?_ (by simp) _)
    clear other x5 y5 g5 HB5
    go_wp2_with fail
    refine stepQ_normal ⟨g6, ?_⟩
    clear hw6 x0 x1 x2 x3 f0 f1 f2 f3
    obtain ⟨y0, y1, y2, y3⟩ := cells4 y6
    have f0 := thawed y6 0
    have f1 := thawed y6 1
    have f2 := thawed y6 2
    have f3 := thawed y6 3
    obtain ⟨w7, hw7⟩ : ∃ u, (((w6.setCell ⟨w.heap.size + 1, 0, none⟩ (.int .i64 k)).setCell ⟨w.heap.size + 1, 1, none⟩ (.int .i64 x)).setCell ⟨w.heap.size + 1, 2, none⟩ (.int .i64 y)).setCell ⟨w.heap.size + 1, 3, none⟩ (.int .i64 z) = u := ⟨_, rfl⟩
    have y7 : w7.heap[w.heap.size + 1]? = some (.cells #[.int .i64 k, .int .i64 x, .int .i64 y, .int .i64 z] 33) := by rw [← hw7]; exact set_cells (set_cells (set_cells (set_cells y6 0 _) 1 _) 2 _) 3 _
    have x7 : w7.heap[w.heap.size]? = some (.cells #[.int .i64 ga, .int .i64 gb, .int .i64 gr, .int .i64 gd] 31) := by
      rw [← hw7]
      have h0 := x6
      repeat' (first | exact h0 | refine (Below.heap_setCell _ _ _ _ (by simp)).trans ?_)
    have HB7 : Hid (Below w.heap.size w w7) := by
      show Below _ _ _
      rw [← hw7]
      have h0 := HB6.out
      repeat' (first | exact h0 | refine Below.setCell ?_ (by simp) _)
    clear x6 y6 g6 HB6
    go_wp2_with fail
    refine stepQ_normal ⟨trivial, ?_⟩
    clear hw7 y0 y1 y2 y3 f0 f1 f2 f3
    obtain ⟨x0, x1, x2, x3⟩ := cells4 x7
    obtain ⟨y0, y1, y2, y3⟩ := cells4 y7
    go_wp2
    (try simp only [Exit.inBlock, Exit.then])
    refine bodyPost_ret (v := .tuple #[.agg #[.int .i64 ga, .int .i64 gb, .int .i64 gr, .int .i64 gd], .agg #[.int .i64 k, .int .i64 x, .int .i64 y, .int .i64 z]]) ?_ rfl ⟨ga, gb, gr, gd, k, x, y, z, rfl, HG.out, hcm, had, HB7.out⟩
    simp [results, Try.results18, go_sem, x0, x1, x2, x3, y0, y1, y2, y3]


end Go.Proofs.Ytcjeobagjhjbmaa
