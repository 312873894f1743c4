/-
  The draws of a geometry that may not be valid, and of a geometry and a partition that may not be valid.
-/
import Derived.Test.YtljcdjhafhppbaaPartD
namespace Go.Proofs.Ytljcdjhafhppbaa
open Go.RowKit

set_option linter.unusedVariables false

def pkO : List Int := [-1, 3, 4]

def pkG0 : List Int := [0, 3, -1]

def pkG1 : List Int := [0, 5, 9223372036854775807]

def pkG2 : List Int := [1, 16, 17]

def pkG3 : List Int := [0, 8, 9]


/-- A drawn geometry, valid or not. -/
def DrewAnyG (c B : Nat) (w : World) (e : Ending) (w' : World) : Prop :=
  ∃ a b r d : Int, e = .returned (.agg #[.int .i64 a, .int .i64 b, .int .i64 r, .int .i64 d]) ∧ Cur c B w' ∧ Only c w w'

set_option maxHeartbeats 2000000 in
set_option maxRecDepth 100000 in
theorem l03Any_any {c B : Nat} {w : World} (hc : Cur c B w) :
    Calls Try.prog 51 #[.pointer (some ⟨c, 0, none⟩)] w (DrewAnyG c B w) := by
  have hcl := hc.lt
  have hBc : B ≤ c := by obtain ⟨_, _, _, _, _, _, _, h, _⟩ := hc; exact h
  obtain ⟨w1, hw1⟩ : ∃ u, w.alloc (.cells #[.int .i64 0, .int .i64 0, .int .i64 0, .int .i64 0] 25) = u := ⟨_, rfl⟩
  have z1 : w1.heap[w.heap.size]? = some (.cells #[.int .i64 0, .int .i64 0, .int .i64 0, .int .i64 0] 25) := by subst hw1; exact heap_alloc_new _ _
  have HC1 : Hid (Cur c B w1) := by subst hw1; exact hc.alloc _
  have HO1 : Hid (Only c w w1) := by subst hw1; exact (Only.refl c w).alloc _
  clear hc
  go_enter Try.func51, Try.ntmps51
  go_wp2_with fail
  refine (l03Geo_any HC1.out).mono ?_
  rintro e w2 ⟨a, b, r, d, rfl, _, hc2, ho2⟩
  have z2 := (ho2.block _ (lt_of_block z1) (by omega)).trans z1
  have hz2 := lt_of_block z2
  obtain ⟨w3, hw3⟩ : ∃ u, w2.alloc (.cells #[.int .i64 a, .int .i64 b, .int .i64 r, .int .i64 d] 25) = u := ⟨_, rfl⟩
  have g3 : w3.heap[w2.heap.size]? = some (.cells #[.int .i64 a, .int .i64 b, .int .i64 r, .int .i64 d] 25) := by subst hw3; exact heap_alloc_new _ _
  have z3 : w3.heap[w.heap.size]? = some (.cells #[.int .i64 0, .int .i64 0, .int .i64 0, .int .i64 0] 25) := by subst hw3; exact keep_block ((Below.refl w2.heap.size w2).alloc (Nat.le_refl _) _) z2 hz2
  have HC3 : Hid (Cur c B w3) := by subst hw3; exact hc2.alloc _
  have HO3 : Hid (Only c w w3) := by subst hw3; exact (HO1.out.trans ho2).alloc _
  obtain ⟨gb, hgb⟩ : ∃ u, w2.heap.size = u := ⟨_, rfl⟩
  rw [hgb] at g3
  have hgw : w.heap.size < gb := by omega
  clear hc2 ho2 z1 z2 hz2 HC1 HO1 hw1
  go_wp2_with fail
  clear hw3
  (try simp only [hgb])
  refine (l01Below_any HC3.out 16 (by omega)).mono ?_
  rintro e w4 ⟨q, rfl, hq0, hq1, hc4, ho4⟩
  have g4 := (ho4.block _ (lt_of_block g3) (by omega)).trans g3
  have z4 := (ho4.block _ (lt_of_block z3) (by omega)).trans z3
  have HC4 := Lib.hid hc4
  have HO4 := Lib.hid (HO3.out.trans ho4)
  have hcl4 := hc4.lt
  have hgl4 := lt_of_block g4
  clear hc4 ho4 g3 z3 HC3 HO3 hgb
  have cases : q = 0 ∨ q = 1 ∨ q = 2 ∨ q = 3 ∨ 4 ≤ q := by omega
  rcases cases with rfl | rfl | rfl | rfl | hq
  · go_wp2_with fail
    refine (l01PickInt_any (fun _ => True) (HC4.out.alloc _) w4.heap.size 3 pkG0 (ints_new _ _ _ _ rfl) (by omega) (by decide) (by decide) (fun _ _ => trivial)).mono ?_
    rintro e w5 ⟨y, rfl, _, hc5, ho5⟩
    have hsz : w4.heap.size < w5.heap.size := by have := ho5.size; simp at this; omega
    have g5 : w5.heap[gb]? = some (.cells #[.int .i64 a, .int .i64 b, .int .i64 r, .int .i64 d] 25) := (ho5.block _ (by simp; omega) (by omega)).trans ((Below.heap_alloc _ _ _ hgl4).trans g4)
    have z5 : w5.heap[w.heap.size]? = some (.cells #[.int .i64 0, .int .i64 0, .int .i64 0, .int .i64 0] 25) := (ho5.block _ (by simp; omega) (by omega)).trans ((Below.heap_alloc _ _ _ (by omega)).trans z4)
    have HC5 := Lib.hid hc5
    have HO5 := Lib.hid (HO4.out.trans (((Only.refl c w4).alloc _).trans ho5))
    clear hc5 ho5 g4 z4 HC4 HO4
    obtain ⟨w6, hw6⟩ : ∃ u, w5.setCell ⟨gb, 0, none⟩ (.int .i64 y) = u := ⟨_, rfl⟩
    have gx : w6.heap[gb]? = some (.cells #[.int .i64 y, .int .i64 b, .int .i64 r, .int .i64 d] 25) := by rw [← hw6]; exact set_cells g5 0 _
    have zx : w6.heap[w.heap.size]? = some (.cells #[.int .i64 0, .int .i64 0, .int .i64 0, .int .i64 0] 25) := by rw [← hw6]; exact (Below.heap_setCell _ _ _ _ (by simp; omega)).trans z5
    have HCx : Hid (Cur c B w6) := by show Cur c B w6; rw [← hw6]; exact HC5.out.setNew (by simp; omega) (by simp; omega) _
    have HOx : Hid (Only c w w6) := by show Only c w w6; rw [← hw6]; exact HO5.out.setNew (by simp; omega) _
    obtain ⟨b0, b1, b2, b3⟩ := cells4 g5
    have t0 := thawed g5 0
    have HCf := Lib.hid (show Cur c B w6 from HCx.out)
    have HOf := Lib.hid (show Only c w w6 from HOx.out)
    obtain ⟨y0, y1, y2, y3⟩ := cells4 gx
    obtain ⟨z0, z1, z2, z3⟩ := cells4 zx
    have f0 := thawed zx 0
    have f1 := thawed zx 1
    have f2 := thawed zx 2
    have f3 := thawed zx 3
    go_wp2
    (try simp only [Exit.inBlock, Exit.then])
    refine bodyPost_ret (v := .agg #[.int .i64 y, .int .i64 b, .int .i64 r, .int .i64 d]) ?_ rfl ⟨_, _, _, _, rfl, ?_, ?_⟩
    · simp [results, Try.results51, go_sem, z0, z1, z2, z3]
    · have h0 := HCf.out
      repeat' (first | exact h0 | refine Cur.setNew ?_ (by simp; omega) (by simp; omega) _)
    · have h0 := HOf.out
      repeat' (first | exact h0 | refine Only.setNew ?_ (by simp) _)
  · go_wp2_with fail
    refine (l01PickInt_any (fun _ => True) (HC4.out.alloc _) w4.heap.size 3 pkG1 (ints_new _ _ _ _ rfl) (by omega) (by decide) (by decide) (fun _ _ => trivial)).mono ?_
    rintro e w5 ⟨y, rfl, _, hc5, ho5⟩
    have hsz : w4.heap.size < w5.heap.size := by have := ho5.size; simp at this; omega
    have g5 : w5.heap[gb]? = some (.cells #[.int .i64 a, .int .i64 b, .int .i64 r, .int .i64 d] 25) := (ho5.block _ (by simp; omega) (by omega)).trans ((Below.heap_alloc _ _ _ hgl4).trans g4)
    have z5 : w5.heap[w.heap.size]? = some (.cells #[.int .i64 0, .int .i64 0, .int .i64 0, .int .i64 0] 25) := (ho5.block _ (by simp; omega) (by omega)).trans ((Below.heap_alloc _ _ _ (by omega)).trans z4)
    have HC5 := Lib.hid hc5
    have HO5 := Lib.hid (HO4.out.trans (((Only.refl c w4).alloc _).trans ho5))
    clear hc5 ho5 g4 z4 HC4 HO4
    obtain ⟨w6, hw6⟩ : ∃ u, w5.setCell ⟨gb, 1, none⟩ (.int .i64 y) = u := ⟨_, rfl⟩
    have gx : w6.heap[gb]? = some (.cells #[.int .i64 a, .int .i64 y, .int .i64 r, .int .i64 d] 25) := by rw [← hw6]; exact set_cells g5 1 _
    have zx : w6.heap[w.heap.size]? = some (.cells #[.int .i64 0, .int .i64 0, .int .i64 0, .int .i64 0] 25) := by rw [← hw6]; exact (Below.heap_setCell _ _ _ _ (by simp; omega)).trans z5
    have HCx : Hid (Cur c B w6) := by show Cur c B w6; rw [← hw6]; exact HC5.out.setNew (by simp; omega) (by simp; omega) _
    have HOx : Hid (Only c w w6) := by show Only c w w6; rw [← hw6]; exact HO5.out.setNew (by simp; omega) _
    obtain ⟨b0, b1, b2, b3⟩ := cells4 g5
    have t1 := thawed g5 1
    have HCf := Lib.hid (show Cur c B w6 from HCx.out)
    have HOf := Lib.hid (show Only c w w6 from HOx.out)
    obtain ⟨y0, y1, y2, y3⟩ := cells4 gx
    obtain ⟨z0, z1, z2, z3⟩ := cells4 zx
    have f0 := thawed zx 0
    have f1 := thawed zx 1
    have f2 := thawed zx 2
    have f3 := thawed zx 3
    go_wp2
    (try simp only [Exit.inBlock, Exit.then])
    refine bodyPost_ret (v := .agg #[.int .i64 a, .int .i64 y, .int .i64 r, .int .i64 d]) ?_ rfl ⟨_, _, _, _, rfl, ?_, ?_⟩
    · simp [results, Try.results51, go_sem, z0, z1, z2, z3]
    · have h0 := HCf.out
      repeat' (first | exact h0 | refine Cur.setNew ?_ (by simp; omega) (by simp; omega) _)
    · have h0 := HOf.out
      repeat' (first | exact h0 | refine Only.setNew ?_ (by simp) _)
  · go_wp2_with fail
    refine (l01PickInt_any (fun _ => True) (HC4.out.alloc _) w4.heap.size 3 pkG2 (ints_new _ _ _ _ rfl) (by omega) (by decide) (by decide) (fun _ _ => trivial)).mono ?_
    rintro e w5 ⟨y, rfl, _, hc5, ho5⟩
    have hsz : w4.heap.size < w5.heap.size := by have := ho5.size; simp at this; omega
    have g5 : w5.heap[gb]? = some (.cells #[.int .i64 a, .int .i64 b, .int .i64 r, .int .i64 d] 25) := (ho5.block _ (by simp; omega) (by omega)).trans ((Below.heap_alloc _ _ _ hgl4).trans g4)
    have z5 : w5.heap[w.heap.size]? = some (.cells #[.int .i64 0, .int .i64 0, .int .i64 0, .int .i64 0] 25) := (ho5.block _ (by simp; omega) (by omega)).trans ((Below.heap_alloc _ _ _ (by omega)).trans z4)
    have HC5 := Lib.hid hc5
    have HO5 := Lib.hid (HO4.out.trans (((Only.refl c w4).alloc _).trans ho5))
    clear hc5 ho5 g4 z4 HC4 HO4
    obtain ⟨w6, hw6⟩ : ∃ u, w5.setCell ⟨gb, 2, none⟩ (.int .i64 y) = u := ⟨_, rfl⟩
    have gx : w6.heap[gb]? = some (.cells #[.int .i64 a, .int .i64 b, .int .i64 y, .int .i64 d] 25) := by rw [← hw6]; exact set_cells g5 2 _
    have zx : w6.heap[w.heap.size]? = some (.cells #[.int .i64 0, .int .i64 0, .int .i64 0, .int .i64 0] 25) := by rw [← hw6]; exact (Below.heap_setCell _ _ _ _ (by simp; omega)).trans z5
    have HCx : Hid (Cur c B w6) := by show Cur c B w6; rw [← hw6]; exact HC5.out.setNew (by simp; omega) (by simp; omega) _
    have HOx : Hid (Only c w w6) := by show Only c w w6; rw [← hw6]; exact HO5.out.setNew (by simp; omega) _
    obtain ⟨b0, b1, b2, b3⟩ := cells4 g5
    have t2 := thawed g5 2
    have HCf := Lib.hid (show Cur c B w6 from HCx.out)
    have HOf := Lib.hid (show Only c w w6 from HOx.out)
    obtain ⟨y0, y1, y2, y3⟩ := cells4 gx
    obtain ⟨z0, z1, z2, z3⟩ := cells4 zx
    have f0 := thawed zx 0
    have f1 := thawed zx 1
    have f2 := thawed zx 2
    have f3 := thawed zx 3
    go_wp2
    (try simp only [Exit.inBlock, Exit.then])
    refine bodyPost_ret (v := .agg #[.int .i64 a, .int .i64 b, .int .i64 y, .int .i64 d]) ?_ rfl ⟨_, _, _, _, rfl, ?_, ?_⟩
    · simp [results, Try.results51, go_sem, z0, z1, z2, z3]
    · have h0 := HCf.out
      repeat' (first | exact h0 | refine Cur.setNew ?_ (by simp; omega) (by simp; omega) _)
    · have h0 := HOf.out
      repeat' (first | exact h0 | refine Only.setNew ?_ (by simp) _)
  · go_wp2_with fail
    refine (l01PickInt_any (fun _ => True) (HC4.out.alloc _) w4.heap.size 3 pkG3 (ints_new _ _ _ _ rfl) (by omega) (by decide) (by decide) (fun _ _ => trivial)).mono ?_
    rintro e w5 ⟨y, rfl, _, hc5, ho5⟩
    have hsz : w4.heap.size < w5.heap.size := by have := ho5.size; simp at this; omega
    have g5 : w5.heap[gb]? = some (.cells #[.int .i64 a, .int .i64 b, .int .i64 r, .int .i64 d] 25) := (ho5.block _ (by simp; omega) (by omega)).trans ((Below.heap_alloc _ _ _ hgl4).trans g4)
    have z5 : w5.heap[w.heap.size]? = some (.cells #[.int .i64 0, .int .i64 0, .int .i64 0, .int .i64 0] 25) := (ho5.block _ (by simp; omega) (by omega)).trans ((Below.heap_alloc _ _ _ (by omega)).trans z4)
    have HC5 := Lib.hid hc5
    have HO5 := Lib.hid (HO4.out.trans (((Only.refl c w4).alloc _).trans ho5))
    clear hc5 ho5 g4 z4 HC4 HO4
    obtain ⟨w6, hw6⟩ : ∃ u, w5.setCell ⟨gb, 3, none⟩ (.int .i64 y) = u := ⟨_, rfl⟩
    have gx : w6.heap[gb]? = some (.cells #[.int .i64 a, .int .i64 b, .int .i64 r, .int .i64 y] 25) := by rw [← hw6]; exact set_cells g5 3 _
    have zx : w6.heap[w.heap.size]? = some (.cells #[.int .i64 0, .int .i64 0, .int .i64 0, .int .i64 0] 25) := by rw [← hw6]; exact (Below.heap_setCell _ _ _ _ (by simp; omega)).trans z5
    have HCx : Hid (Cur c B w6) := by show Cur c B w6; rw [← hw6]; exact HC5.out.setNew (by simp; omega) (by simp; omega) _
    have HOx : Hid (Only c w w6) := by show Only c w w6; rw [← hw6]; exact HO5.out.setNew (by simp; omega) _
    obtain ⟨b0, b1, b2, b3⟩ := cells4 g5
    have t3 := thawed g5 3
    have HCf := Lib.hid (show Cur c B w6 from HCx.out)
    have HOf := Lib.hid (show Only c w w6 from HOx.out)
    obtain ⟨y0, y1, y2, y3⟩ := cells4 gx
    obtain ⟨z0, z1, z2, z3⟩ := cells4 zx
    have f0 := thawed zx 0
    have f1 := thawed zx 1
    have f2 := thawed zx 2
    have f3 := thawed zx 3
    go_wp2
    (try simp only [Exit.inBlock, Exit.then])
    refine bodyPost_ret (v := .agg #[.int .i64 a, .int .i64 b, .int .i64 r, .int .i64 y]) ?_ rfl ⟨_, _, _, _, rfl, ?_, ?_⟩
    · simp [results, Try.results51, go_sem, z0, z1, z2, z3]
    · have h0 := HCf.out
      repeat' (first | exact h0 | refine Cur.setNew ?_ (by simp; omega) (by simp; omega) _)
    · have h0 := HOf.out
      repeat' (first | exact h0 | refine Only.setNew ?_ (by simp) _)
  · have t0 : (q == 0) = false := by simp; omega
    have t1 : (q == 1) = false := by simp; omega
    have t2 : (q == 2) = false := by simp; omega
    have t3 : (q == 3) = false := by simp; omega
    have HCx := HC4
    have HOx := HO4
    have gx := g4
    have zx := z4
    have HCf := Lib.hid (show Cur c B w4 from HCx.out)
    have HOf := Lib.hid (show Only c w w4 from HOx.out)
    obtain ⟨y0, y1, y2, y3⟩ := cells4 gx
    obtain ⟨z0, z1, z2, z3⟩ := cells4 zx
    have f0 := thawed zx 0
    have f1 := thawed zx 1
    have f2 := thawed zx 2
    have f3 := thawed zx 3
    go_wp2
    (try simp only [Exit.inBlock, Exit.then])
    refine bodyPost_ret (v := .agg #[.int .i64 a, .int .i64 b, .int .i64 r, .int .i64 d]) ?_ rfl ⟨_, _, _, _, rfl, ?_, ?_⟩
    · simp [results, Try.results51, go_sem, z0, z1, z2, z3]
    · have h0 := HCf.out
      repeat' (first | exact h0 | refine Cur.setNew ?_ (by simp; omega) (by simp; omega) _)
    · have h0 := HOf.out
      repeat' (first | exact h0 | refine Only.setNew ?_ (by simp) _)


end Go.Proofs.Ytljcdjhafhppbaa
