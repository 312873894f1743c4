/-
  The draws of commands that may not be valid, and of ranks.
-/
import Derived.Test.YtigoniochamjgaaBnkU
import Derived.Test.YtigoniochamjgaaCmdD
namespace Go.Proofs.Ytigoniochamjgaa
open Go.RowKit

set_option linter.unusedVariables false

theorem Only.past {c : Nat} {w w1 w2 : World} (h : Only c w w1) (hb : Below w.heap.size w1 w2) : Only c w w2 :=
  h.trans' ⟨hb.os, hb.tape, hb.output, hb.size⟩ (fun k hk _ => hb.block k hk)


def pkC0 : List Int := [0, 10, -1, 4, 6]

def pkC1 : List Int := [-1, 7, 8]

def pkC2 : List Int := [-1, 15, 16]

def pkC3 : List Int := [-1, 7, 8]

/-- A drawn command, valid or not. -/
def DrewAnyC (c B : Nat) (w : World) (e : Ending) (w' : World) : Prop :=
  ∃ k x y z : Int, e = .returned (.agg #[.int .i64 k, .int .i64 x, .int .i64 y, .int .i64 z]) ∧ Cur c B w' ∧ Only c w w'

set_option maxHeartbeats 2000000 in
set_option maxRecDepth 100000 in
theorem l06Any_any {c B : Nat} {w : World} (hc : Cur c B w) (ga gb gr gd : Int) (hg : GeoOk ga gb gr gd) :
    Calls Try.prog 65 #[.pointer (some ⟨c, 0, none⟩), .agg #[.int .i64 ga, .int .i64 gb, .int .i64 gr, .int .i64 gd]] w (DrewAnyC c B w) := by
  have hcl := hc.lt
  have hBc : B ≤ c := by obtain ⟨_, _, _, _, _, _, _, h, _⟩ := hc; exact h
  obtain ⟨w1, hw1⟩ : ∃ u, (w.alloc (.cells #[.int .i64 ga, .int .i64 gb, .int .i64 gr, .int .i64 gd] 25)).alloc (.cells #[.int .i64 0, .int .i64 0, .int .i64 0, .int .i64 0] 30) = u := ⟨_, rfl⟩
  have z1 : w1.heap[w.heap.size + 1]? = some (.cells #[.int .i64 0, .int .i64 0, .int .i64 0, .int .i64 0] 30) := by subst hw1; exact heap_alloc2_new _ _ _
  have g1 : w1.heap[w.heap.size]? = some (.cells #[.int .i64 ga, .int .i64 gb, .int .i64 gr, .int .i64 gd] 25) := by subst hw1; exact heap_alloc2_old _ _ _
  have HC1 : Hid (Cur c B w1) := by subst hw1; exact (hc.alloc _).alloc _
  have HO1 : Hid (Only c w w1) := by subst hw1; exact ((Only.refl c w).alloc _).alloc _
  have HG := Lib.hid hg
  obtain ⟨v0, v1, v2, v3⟩ := cells4 g1
  clear hc hg
  go_enter Try.func65, Try.ntmps65
  go_wp2_with fail
  refine (l06Cmd_any HC1.out _ _ _ _ HG.out).mono ?_
  rintro e w2 ⟨k, x, y, z, rfl, _, _, hc2, ho2⟩
  have z2 := (ho2.block _ (lt_of_block z1) (by omega)).trans z1
  have hz2 := lt_of_block z2
  obtain ⟨w3, hw3⟩ : ∃ u, w2.alloc (.cells #[.int .i64 k, .int .i64 x, .int .i64 y, .int .i64 z] 30) = u := ⟨_, rfl⟩
  have g3 : w3.heap[w2.heap.size]? = some (.cells #[.int .i64 k, .int .i64 x, .int .i64 y, .int .i64 z] 30) := by subst hw3; exact heap_alloc_new _ _
  have z3 : w3.heap[w.heap.size + 1]? = some (.cells #[.int .i64 0, .int .i64 0, .int .i64 0, .int .i64 0] 30) := by subst hw3; exact keep_block ((Below.refl w2.heap.size w2).alloc (Nat.le_refl _) _) z2 hz2
  have HC3 : Hid (Cur c B w3) := by subst hw3; exact hc2.alloc _
  have HO3 : Hid (Only c w w3) := by subst hw3; exact (HO1.out.trans ho2).alloc _
  obtain ⟨gb', hgb⟩ : ∃ u, w2.heap.size = u := ⟨_, rfl⟩
  rw [hgb] at g3
  have hgw : w.heap.size + 1 < gb' := by omega
  clear hc2 ho2 z1 z2 hz2 HC1 HO1 hw1 v0 v1 v2 v3 g1
  go_wp2_with fail
  clear hw3
  (try simp only [hgb])
  refine (l01Below_any HC3.out 14 (by omega)).mono ?_
  rintro e w4 ⟨q, rfl, hq0, hq1, hc4, ho4⟩
  have g4 := (ho4.block _ (lt_of_block g3) (by omega)).trans g3
  have z4 := (ho4.block _ (lt_of_block z3) (by omega)).trans z3
  have HC4 := Lib.hid hc4
  have HO4 := Lib.hid (HO3.out.trans ho4)
  have hcl4 := hc4.lt
  have hgl4 := lt_of_block g4
  clear hc4 ho4 g3 z3 HC3 HO3 hgb
  have cases : q = 0 ∨ q = 1 ∨ q = 2 ∨ q = 3 ∨ 4 ≤ q := by omega
  rcases cases with rfl | rfl | rfl | rfl | hq
  · go_wp2_with fail
    refine (l01PickInt_any (fun _ => True) (HC4.out.alloc _) w4.heap.size 5 pkC0 (ints_new _ _ _ _ rfl) (by omega) (by decide) (by decide) (fun _ _ => trivial)).mono ?_
    rintro e w5 ⟨m, rfl, _, hc5, ho5⟩
    have hsz : w4.heap.size < w5.heap.size := by have := ho5.size; simp at this; omega
    have g5 : w5.heap[gb']? = some (.cells #[.int .i64 k, .int .i64 x, .int .i64 y, .int .i64 z] 30) := (ho5.block _ (by simp; omega) (by omega)).trans ((Below.heap_alloc _ _ _ hgl4).trans g4)
    have z5 : w5.heap[w.heap.size + 1]? = some (.cells #[.int .i64 0, .int .i64 0, .int .i64 0, .int .i64 0] 30) := (ho5.block _ (by simp; omega) (by omega)).trans ((Below.heap_alloc _ _ _ (by omega)).trans z4)
    have HC5 := Lib.hid hc5
    have HO5 := Lib.hid (HO4.out.trans (((Only.refl c w4).alloc _).trans ho5))
    clear hc5 ho5 g4 z4 HC4 HO4
    obtain ⟨w6, hw6⟩ : ∃ u, w5.setCell ⟨gb', 0, none⟩ (.int .i64 m) = u := ⟨_, rfl⟩
    have gx : w6.heap[gb']? = some (.cells #[.int .i64 m, .int .i64 x, .int .i64 y, .int .i64 z] 30) := by rw [← hw6]; exact set_cells g5 0 _
    have zx : w6.heap[w.heap.size + 1]? = some (.cells #[.int .i64 0, .int .i64 0, .int .i64 0, .int .i64 0] 30) := by rw [← hw6]; exact (Below.heap_setCell _ _ _ _ (by simp; omega)).trans z5
    have HCx : Hid (Cur c B w6) := by show Cur c B w6; rw [← hw6]; exact HC5.out.setNew (by simp; omega) (by simp; omega) _
    have HOx : Hid (Only c w w6) := by show Only c w w6; rw [← hw6]; exact HO5.out.setNew (by simp; omega) _
    obtain ⟨b0, b1, b2, b3⟩ := cells4 g5
    have t0 := thawed g5 0
    have HCf := Lib.hid (show Cur c B w6 from HCx.out)
    have HOf := Lib.hid (show Only c w w6 from HOx.out)
    obtain ⟨y0, y1, y2, y3⟩ := cells4 gx
    obtain ⟨z0, z1, z2, z3⟩ := cells4 zx
    have f0 := thawed zx 0
    have f1 := thawed zx 1
    have f2 := thawed zx 2
    have f3 := thawed zx 3
    go_wp2
    (try simp only [Exit.inBlock, Exit.then])
    refine bodyPost_ret (v := .agg #[.int .i64 m, .int .i64 x, .int .i64 y, .int .i64 z]) ?_ rfl ⟨_, _, _, _, rfl, ?_, ?_⟩
    · simp [results, Try.results65, go_sem, z0, z1, z2, z3]
    · have h0 := HCf.out
      repeat' (first | exact h0 | refine Cur.setNew ?_ (by simp; omega) (by simp; omega) _)
    · have h0 := HOf.out
      repeat' (first | exact h0 | refine Only.setNew ?_ (by simp) _)
  · go_wp2_with fail
    refine (l01PickInt_any (fun _ => True) (HC4.out.alloc _) w4.heap.size 3 pkC1 (ints_new _ _ _ _ rfl) (by omega) (by decide) (by decide) (fun _ _ => trivial)).mono ?_
    rintro e w5 ⟨m, rfl, _, hc5, ho5⟩
    have hsz : w4.heap.size < w5.heap.size := by have := ho5.size; simp at this; omega
    have g5 : w5.heap[gb']? = some (.cells #[.int .i64 k, .int .i64 x, .int .i64 y, .int .i64 z] 30) := (ho5.block _ (by simp; omega) (by omega)).trans ((Below.heap_alloc _ _ _ hgl4).trans g4)
    have z5 : w5.heap[w.heap.size + 1]? = some (.cells #[.int .i64 0, .int .i64 0, .int .i64 0, .int .i64 0] 30) := (ho5.block _ (by simp; omega) (by omega)).trans ((Below.heap_alloc _ _ _ (by omega)).trans z4)
    have HC5 := Lib.hid hc5
    have HO5 := Lib.hid (HO4.out.trans (((Only.refl c w4).alloc _).trans ho5))
    clear hc5 ho5 g4 z4 HC4 HO4
    obtain ⟨w6, hw6⟩ : ∃ u, w5.setCell ⟨gb', 1, none⟩ (.int .i64 m) = u := ⟨_, rfl⟩
    have gx : w6.heap[gb']? = some (.cells #[.int .i64 k, .int .i64 m, .int .i64 y, .int .i64 z] 30) := by rw [← hw6]; exact set_cells g5 1 _
    have zx : w6.heap[w.heap.size + 1]? = some (.cells #[.int .i64 0, .int .i64 0, .int .i64 0, .int .i64 0] 30) := by rw [← hw6]; exact (Below.heap_setCell _ _ _ _ (by simp; omega)).trans z5
    have HCx : Hid (Cur c B w6) := by show Cur c B w6; rw [← hw6]; exact HC5.out.setNew (by simp; omega) (by simp; omega) _
    have HOx : Hid (Only c w w6) := by show Only c w w6; rw [← hw6]; exact HO5.out.setNew (by simp; omega) _
    obtain ⟨b0, b1, b2, b3⟩ := cells4 g5
    have t1 := thawed g5 1
    have HCf := Lib.hid (show Cur c B w6 from HCx.out)
    have HOf := Lib.hid (show Only c w w6 from HOx.out)
    obtain ⟨y0, y1, y2, y3⟩ := cells4 gx
    obtain ⟨z0, z1, z2, z3⟩ := cells4 zx
    have f0 := thawed zx 0
    have f1 := thawed zx 1
    have f2 := thawed zx 2
    have f3 := thawed zx 3
    go_wp2
    (try simp only [Exit.inBlock, Exit.then])
    refine bodyPost_ret (v := .agg #[.int .i64 k, .int .i64 m, .int .i64 y, .int .i64 z]) ?_ rfl ⟨_, _, _, _, rfl, ?_, ?_⟩
    · simp [results, Try.results65, go_sem, z0, z1, z2, z3]
    · have h0 := HCf.out
      repeat' (first | exact h0 | refine Cur.setNew ?_ (by simp; omega) (by simp; omega) _)
    · have h0 := HOf.out
      repeat' (first | exact h0 | refine Only.setNew ?_ (by simp) _)
  · go_wp2_with fail
    refine (l01PickInt_any (fun _ => True) (HC4.out.alloc _) w4.heap.size 3 pkC2 (ints_new _ _ _ _ rfl) (by omega) (by decide) (by decide) (fun _ _ => trivial)).mono ?_
    rintro e w5 ⟨m, rfl, _, hc5, ho5⟩
    have hsz : w4.heap.size < w5.heap.size := by have := ho5.size; simp at this; omega
    have g5 : w5.heap[gb']? = some (.cells #[.int .i64 k, .int .i64 x, .int .i64 y, .int .i64 z] 30) := (ho5.block _ (by simp; omega) (by omega)).trans ((Below.heap_alloc _ _ _ hgl4).trans g4)
    have z5 : w5.heap[w.heap.size + 1]? = some (.cells #[.int .i64 0, .int .i64 0, .int .i64 0, .int .i64 0] 30) := (ho5.block _ (by simp; omega) (by omega)).trans ((Below.heap_alloc _ _ _ (by omega)).trans z4)
    have HC5 := Lib.hid hc5
    have HO5 := Lib.hid (HO4.out.trans (((Only.refl c w4).alloc _).trans ho5))
    clear hc5 ho5 g4 z4 HC4 HO4
    obtain ⟨w6, hw6⟩ : ∃ u, w5.setCell ⟨gb', 2, none⟩ (.int .i64 m) = u := ⟨_, rfl⟩
    have gx : w6.heap[gb']? = some (.cells #[.int .i64 k, .int .i64 x, .int .i64 m, .int .i64 z] 30) := by rw [← hw6]; exact set_cells g5 2 _
    have zx : w6.heap[w.heap.size + 1]? = some (.cells #[.int .i64 0, .int .i64 0, .int .i64 0, .int .i64 0] 30) := by rw [← hw6]; exact (Below.heap_setCell _ _ _ _ (by simp; omega)).trans z5
    have HCx : Hid (Cur c B w6) := by show Cur c B w6; rw [← hw6]; exact HC5.out.setNew (by simp; omega) (by simp; omega) _
    have HOx : Hid (Only c w w6) := by show Only c w w6; rw [← hw6]; exact HO5.out.setNew (by simp; omega) _
    obtain ⟨b0, b1, b2, b3⟩ := cells4 g5
    have t2 := thawed g5 2
    have HCf := Lib.hid (show Cur c B w6 from HCx.out)
    have HOf := Lib.hid (show Only c w w6 from HOx.out)
    obtain ⟨y0, y1, y2, y3⟩ := cells4 gx
    obtain ⟨z0, z1, z2, z3⟩ := cells4 zx
    have f0 := thawed zx 0
    have f1 := thawed zx 1
    have f2 := thawed zx 2
    have f3 := thawed zx 3
    go_wp2
    (try simp only [Exit.inBlock, Exit.then])
    refine bodyPost_ret (v := .agg #[.int .i64 k, .int .i64 x, .int .i64 m, .int .i64 z]) ?_ rfl ⟨_, _, _, _, rfl, ?_, ?_⟩
    · simp [results, Try.results65, go_sem, z0, z1, z2, z3]
    · have h0 := HCf.out
      repeat' (first | exact h0 | refine Cur.setNew ?_ (by simp; omega) (by simp; omega) _)
    · have h0 := HOf.out
      repeat' (first | exact h0 | refine Only.setNew ?_ (by simp) _)
  · go_wp2_with fail
    refine (l01PickInt_any (fun _ => True) (HC4.out.alloc _) w4.heap.size 3 pkC3 (ints_new _ _ _ _ rfl) (by omega) (by decide) (by decide) (fun _ _ => trivial)).mono ?_
    rintro e w5 ⟨m, rfl, _, hc5, ho5⟩
    have hsz : w4.heap.size < w5.heap.size := by have := ho5.size; simp at this; omega
    have g5 : w5.heap[gb']? = some (.cells #[.int .i64 k, .int .i64 x, .int .i64 y, .int .i64 z] 30) := (ho5.block _ (by simp; omega) (by omega)).trans ((Below.heap_alloc _ _ _ hgl4).trans g4)
    have z5 : w5.heap[w.heap.size + 1]? = some (.cells #[.int .i64 0, .int .i64 0, .int .i64 0, .int .i64 0] 30) := (ho5.block _ (by simp; omega) (by omega)).trans ((Below.heap_alloc _ _ _ (by omega)).trans z4)
    have HC5 := Lib.hid hc5
    have HO5 := Lib.hid (HO4.out.trans (((Only.refl c w4).alloc _).trans ho5))
    clear hc5 ho5 g4 z4 HC4 HO4
    obtain ⟨w6, hw6⟩ : ∃ u, w5.setCell ⟨gb', 3, none⟩ (.int .i64 m) = u := ⟨_, rfl⟩
    have gx : w6.heap[gb']? = some (.cells #[.int .i64 k, .int .i64 x, .int .i64 y, .int .i64 m] 30) := by rw [← hw6]; exact set_cells g5 3 _
    have zx : w6.heap[w.heap.size + 1]? = some (.cells #[.int .i64 0, .int .i64 0, .int .i64 0, .int .i64 0] 30) := by rw [← hw6]; exact (Below.heap_setCell _ _ _ _ (by simp; omega)).trans z5
    have HCx : Hid (Cur c B w6) := by show Cur c B w6; rw [← hw6]; exact HC5.out.setNew (by simp; omega) (by simp; omega) _
    have HOx : Hid (Only c w w6) := by show Only c w w6; rw [← hw6]; exact HO5.out.setNew (by simp; omega) _
    obtain ⟨b0, b1, b2, b3⟩ := cells4 g5
    have t3 := thawed g5 3
    have HCf := Lib.hid (show Cur c B w6 from HCx.out)
    have HOf := Lib.hid (show Only c w w6 from HOx.out)
    obtain ⟨y0, y1, y2, y3⟩ := cells4 gx
    obtain ⟨z0, z1, z2, z3⟩ := cells4 zx
    have f0 := thawed zx 0
    have f1 := thawed zx 1
    have f2 := thawed zx 2
    have f3 := thawed zx 3
    go_wp2
    (try simp only [Exit.inBlock, Exit.then])
    refine bodyPost_ret (v := .agg #[.int .i64 k, .int .i64 x, .int .i64 y, .int .i64 m]) ?_ rfl ⟨_, _, _, _, rfl, ?_, ?_⟩
    · simp [results, Try.results65, go_sem, z0, z1, z2, z3]
    · have h0 := HCf.out
      repeat' (first | exact h0 | refine Cur.setNew ?_ (by simp; omega) (by simp; omega) _)
    · have h0 := HOf.out
      repeat' (first | exact h0 | refine Only.setNew ?_ (by simp) _)
  · have t0 : (q == 0) = false := by simp; omega
    have t1 : (q == 1) = false := by simp; omega
    have t2 : (q == 2) = false := by simp; omega
    have t3 : (q == 3) = false := by simp; omega
    have HCx := HC4
    have HOx := HO4
    have gx := g4
    have zx := z4
    have HCf := Lib.hid (show Cur c B w4 from HCx.out)
    have HOf := Lib.hid (show Only c w w4 from HOx.out)
    obtain ⟨y0, y1, y2, y3⟩ := cells4 gx
    obtain ⟨z0, z1, z2, z3⟩ := cells4 zx
    have f0 := thawed zx 0
    have f1 := thawed zx 1
    have f2 := thawed zx 2
    have f3 := thawed zx 3
    go_wp2
    (try simp only [Exit.inBlock, Exit.then])
    refine bodyPost_ret (v := .agg #[.int .i64 k, .int .i64 x, .int .i64 y, .int .i64 z]) ?_ rfl ⟨_, _, _, _, rfl, ?_, ?_⟩
    · simp [results, Try.results65, go_sem, z0, z1, z2, z3]
    · have h0 := HCf.out
      repeat' (first | exact h0 | refine Cur.setNew ?_ (by simp; omega) (by simp; omega) _)
    · have h0 := HOf.out
      repeat' (first | exact h0 | refine Only.setNew ?_ (by simp) _)



/-- A geometry, or a small valid one. -/
theorem specFit_is (a b r d : Int) (w : World) :
    Calls Try.prog 66 #[.agg #[.int .i64 a, .int .i64 b, .int .i64 r, .int .i64 d]] w fun e w' => ∃ a' b' r' d' : Int, e = .returned (.agg #[.int .i64 a', .int .i64 b', .int .i64 r', .int .i64 d']) ∧ GeoOk a' b' r' d' ∧ Below w.heap.size w w' := by
  obtain ⟨w1, hw1⟩ : ∃ u, (w.alloc (.cells #[.int .i64 a, .int .i64 b, .int .i64 r, .int .i64 d] 25)).alloc (.cells #[.int .i64 0, .int .i64 0, .int .i64 0, .int .i64 0] 25) = u := ⟨_, rfl⟩
  have hb1 : Below w.heap.size w w1 := by subst hw1; exact ((Below.refl _ _).alloc (Nat.le_refl _) _).alloc (by simp) _
  have g1 : w1.heap[w.heap.size]? = some (.cells #[.int .i64 a, .int .i64 b, .int .i64 r, .int .i64 d] 25) := by subst hw1; exact heap_alloc2_old _ _ _
  have z1 : w1.heap[w.heap.size + 1]? = some (.cells #[.int .i64 0, .int .i64 0, .int .i64 0, .int .i64 0] 25) := by subst hw1; exact heap_alloc2_new _ _ _
  have HB1 := Lib.hid hb1
  obtain ⟨v0, v1, v2, v3⟩ := cells4 g1
  clear hb1
  by_cases hg : GeoOk a b r d
  · have HG := Lib.hid hg
    have K := Lib.hid (decide_eq_true hg)
    clear hg
    go_enter Try.func66, Try.ntmps66
    go_wp2_with fail
    refine (specGeoOk_is _ _ _ _ _ K.out _).mono ?_
    rintro e w2 ⟨rfl, hb2⟩
    have g2 := keep_block hb2 g1 (lt_of_block g1)
    have z2 := keep_block hb2 z1 (lt_of_block z1)
    have HB2 : Hid (Below w.heap.size w w2) := HB1.out.trans (hb2.mono HB1.out.size)
    clear hb2 v0 v1 v2 v3
    obtain ⟨v0, v1, v2, v3⟩ := cells4 g2
    obtain ⟨y0, y1, y2, y3⟩ := cells4 z2
    have f0 := thawed z2 0
    have f1 := thawed z2 1
    have f2 := thawed z2 2
    have f3 := thawed z2 3
    go_wp2
    (try simp only [Exit.inBlock, Exit.then])
    refine bodyPost_ret (v := .agg #[.int .i64 a, .int .i64 b, .int .i64 r, .int .i64 d]) ?_ rfl ⟨_, _, _, _, rfl, HG.out, ?_⟩
    · simp [results, Try.results66, go_sem, y0, y1, y2, y3]
    · repeat' (first | exact HB2.out | refine Below.drew ?_ | refine Below.setCell ?_ (by simp <;> omega) _)
  · have K := Lib.hid (decide_eq_false hg)
    clear hg
    go_enter Try.func66, Try.ntmps66
    go_wp2_with fail
    refine (specGeoOk_is _ _ _ _ _ K.out _).mono ?_
    rintro e w2 ⟨rfl, hb2⟩
    have z2 := keep_block hb2 z1 (lt_of_block z1)
    have HB2 : Hid (Below w.heap.size w w2) := HB1.out.trans (hb2.mono HB1.out.size)
    clear hb2 v0 v1 v2 v3
    obtain ⟨y0, y1, y2, y3⟩ := cells4 z2
    have f0 := thawed z2 0
    have f1 := thawed z2 1
    have f2 := thawed z2 2
    have f3 := thawed z2 3
    go_wp2
    (try simp only [Exit.inBlock, Exit.then])
    refine bodyPost_ret (v := .agg #[.int .i64 1, .int .i64 2, .int .i64 2, .int .i64 1]) ?_ rfl ⟨_, _, _, _, rfl, ⟨by omega, by omega, by omega, by omega⟩, ?_⟩
    · simp [results, Try.results66, go_sem, y0, y1, y2, y3]
    · repeat' (first | exact HB2.out | refine Below.drew ?_ | refine Below.setCell ?_ (by simp <;> omega) _)



/-- A drawn rank of n banks with a row of its own. -/
def DrewRank (n c B : Nat) (w : World) (e : Ending) (w' : World) : Prop :=
  ∃ (aa : Option Addr) (cc : Nat) (l : List Bk) (pw : Int), e = .returned (.agg #[.slice aa n cc, .int .i64 pw]) ∧ l.length = n ∧ OwnK w.heap.size (.slice aa n cc) l w' ∧ Cur c B w' ∧ Only c w w'

set_option maxHeartbeats 8000000 in
set_option maxRecDepth 100000 in
theorem l08Rank_any {c B : Nat} {w : World} (hc : Cur c B w) (ga gb gr gd : Int) (n : Nat) (hn : bankN ga gb gr gd = (n : Int)) (hg : GeoOk ga gb gr gd) :
    Calls Try.prog 79 #[.pointer (some ⟨c, 0, none⟩), .agg #[.int .i64 ga, .int .i64 gb, .int .i64 gr, .int .i64 gd]] w (DrewRank n c B w) := by
  have hcl := hc.lt
  have hBc : B ≤ c := by obtain ⟨_, _, _, _, _, _, _, h, _⟩ := hc; exact h
  have hn8 : n ≤ 8 := by have := bankN_range ga gb gr gd; omega
  obtain ⟨w1, hw1⟩ : ∃ u, (w.alloc (.cells #[.int .i64 ga, .int .i64 gb, .int .i64 gr, .int .i64 gd] 25)).alloc (.cells #[.slice none 0 0, .int .i64 0] 28) = u := ⟨_, rfl⟩
  have g1 : w1.heap[w.heap.size]? = some (.cells #[.int .i64 ga, .int .i64 gb, .int .i64 gr, .int .i64 gd] 25) := by subst hw1; exact heap_alloc2_old _ _ _
  have z1 : w1.heap[w.heap.size + 1]? = some (.cells #[.slice none 0 0, .int .i64 0] 28) := by subst hw1; exact heap_alloc2_new _ _ _
  have HC1 : Hid (Cur c B w1) := by subst hw1; exact (hc.alloc _).alloc _
  have HO1 : Hid (Only c w w1) := by subst hw1; exact ((Only.refl c w).alloc _).alloc _
  have HS1 : Hid (w.heap.size + 1 < w1.heap.size) := lt_of_block z1
  have HG := Lib.hid hg
  have HN := Lib.hid hn
  obtain ⟨v0, v1, v2, v3⟩ := cells4 g1
  clear hc hg hn
  go_enter Try.func79, Try.ntmps79
  go_wp2_with fail
  refine (specRankNew_is _ _ _ _ n HN.out _).mono ?_
  rintro e w2 ⟨aa, cc, rfl, own2, hb2⟩
  have g2 := keep_block hb2 g1 (lt_of_block g1)
  have z2 := keep_block hb2 z1 (lt_of_block z1)
  have hs2 := hb2.size
  have HC2 : Hid (Cur c B w2) := HC1.out.keep (hb2.block _ HC1.out.lt) (hb2.mono (by have := HS1.out; omega))
  have HO2 : Hid (Only c w w2) := HO1.out.past (hb2.mono (by have := HS1.out; omega))
  have hb3 : Below w2.heap.size w2 (w2.alloc (.cells #[.slice aa n cc, .int .i64 0] 28)) := (Below.refl _ _).alloc (Nat.le_refl _) _
  have g3 := keep_block hb3 g2 (lt_of_block g2)
  have z3 := keep_block hb3 z2 (lt_of_block z2)
  have t3 := heap_alloc_new w2 (.cells #[.slice aa n cc, .int .i64 0] 28)
  have HC3 : Hid (Cur c B (w2.alloc (.cells #[.slice aa n cc, .int .i64 0] 28))) := HC2.out.alloc _
  have HO3 : Hid (Only c w (w2.alloc (.cells #[.slice aa n cc, .int .i64 0] 28))) := HO2.out.alloc _
  have O3 := Lib.hid (own2.below hb3)
  have HNE : Hid (∀ x, aa = some x → w1.heap.size ≤ x.block ∧ x.block < w2.heap.size) := own2.lo
  clear v0 v1 v2 v3 hb3 own2 hb2 hw1 g1 z1 HC1 HO1 g2 z2 HC2 HO2
  go_wp2_with fail
  obtain ⟨P, hP⟩ : ∃ p, w2.heap.size = p := ⟨_, rfl⟩
  generalize (w2.alloc (.cells #[.slice aa n cc, .int .i64 0] 28)) = w3 at g3 z3 t3 HC3 HO3 O3 ⊢
  rw [hP] at t3 HNE hs2
  (try simp only [hP])
  have HPW : Hid (w.heap.size + 1 < P) := by have := HS1.out; show _ < _; omega
  go_loopw [6] (fun i wr => ∃ k : Nat, ∃ (l : List Bk) (pw : Int), k ≤ 12 ∧ i = .int .i64 k ∧ Hid (l.length = n) ∧ wr.heap[P]? = some (.cells #[.slice aa n cc, .int .i64 pw] 28) ∧ wr.heap[w.heap.size]? = some (.cells #[.int .i64 ga, .int .i64 gb, .int .i64 gr, .int .i64 gd] 25) ∧ wr.heap[w.heap.size + 1]? = some (.cells #[.slice none 0 0, .int .i64 0] 28) ∧ OwnK w1.heap.size (.slice aa n cc) l wr ∧ Cur c B wr ∧ Only c w wr) (fun i _ => 12 - (intOf i).toNat)
  case atStart => exact ⟨0, List.replicate n bk0, 0, by omega, rfl, List.length_replicate, t3, g3, z3, O3.out, HC3.out, HO3.out⟩
  case round =>
    obtain ⟨k, l, pw, hk, rfl, HL, tr, gr', zr, hown, hcr, hor⟩ := hrel
    have HOW := Lib.hid hown
    have HOR := Lib.hid hor
    clear hown hor t3 g3 z3 HC3 HO3 O3
    go_wp2_with fail
    refine (l01Below_any hcr 12 (by omega)).mono ?_
    rintro e w4 ⟨x, rfl, hx0, hx1, hc4, ho4⟩
    rw [topOf_pos (by omega)] at hx1
    have hPW := HPW.out
    have t4 := (ho4.block _ (lt_of_block tr) (by omega)).trans tr
    have g4 := (ho4.block _ (lt_of_block gr') (by omega)).trans gr'
    have z4 := (ho4.block _ (lt_of_block zr) (by omega)).trans zr
    have HC4 := Lib.hid hc4
    have HO4 := Lib.hid (HOR.out.trans ho4)
    have OW4 := Lib.hid (HOW.out.only ho4 (by have := HS1.out; omega))
    clear hcr ho4 hc4 tr gr' zr HOR HOW hPW
    by_cases hlt : (k : Int) < x
    · obtain ⟨v0, v1, v2, v3⟩ := cells4 g4
      go_wp2_with fail
      refine (l06Cmd_any HC4.out _ _ _ _ HG.out).mono ?_
      rintro e w5 ⟨ck, cx, cy, cz, rfl, hcm, had, hc5, ho5⟩
      have hPW := HPW.out
      have t5 := (ho5.block _ (lt_of_block t4) (by omega)).trans t4
      have g5 := (ho5.block _ (lt_of_block g4) (by omega)).trans g4
      have z5 := (ho5.block _ (lt_of_block z4) (by omega)).trans z4
      have OW5 := OW4.out.only ho5 (by have := HS1.out; omega)
      have hO5 := HO4.out.trans ho5
      have hb6 : Below w5.heap.size w5 (w5.alloc (.cells #[.int .i64 ck, .int .i64 cx, .int .i64 cy, .int .i64 cz] 30)) := (Below.refl _ _).alloc (Nat.le_refl _) _
      have t6 := keep_block hb6 t5 (lt_of_block t5)
      have g6 := keep_block hb6 g5 (lt_of_block g5)
      have z6 := keep_block hb6 z5 (lt_of_block z5)
      have q6 := heap_alloc_new w5 (.cells #[.int .i64 ck, .int .i64 cx, .int .i64 cy, .int .i64 cz] 30)
      have HC6 : Hid (Cur c B (w5.alloc (.cells #[.int .i64 ck, .int .i64 cx, .int .i64 cy, .int .i64 cz] 30))) := hc5.alloc _
      have HO6 : Hid (Only c w (w5.alloc (.cells #[.int .i64 ck, .int .i64 cx, .int .i64 cy, .int .i64 cz] 30))) := hO5.alloc _
      have OW6 := Lib.hid (OW5.below hb6)
      have hxx : ck ≤ 5 → 0 ≤ cx ∧ cx < (n : Int) := fun _ => by have h1 := had.1; rw [HN.out] at h1; omega
      have HXX := Lib.hid hxx
      have HKK := Lib.hid hcm.1
      clear hc5 ho5 t4 g4 z4 HC4 HO4 OW4 v0 v1 v2 v3 t5 g5 z5 OW5 hO5 hb6 hPW hxx hcm had
      obtain ⟨d0, d1⟩ := cells2 t6
      go_wp2_with fail
      clear d0 d1
      obtain ⟨Q, hQ⟩ : ∃ p, w5.heap.size = p := ⟨_, rfl⟩
      generalize (w5.alloc (.cells #[.int .i64 ck, .int .i64 cx, .int .i64 cy, .int .i64 cz] 30)) = w6 at t6 g6 z6 q6 HC6 HO6 OW6 ⊢
      rw [hQ] at q6
      (try simp only [hQ])
      obtain ⟨v, hv⟩ : ∃ v, mayR l pw ck cx = v := ⟨_, rfl⟩
      refine (specMay_is _ _ _ _ _ _ _ _ _ _ hv HKK.out HXX.out HL.out (by omega) _ OW6.out.row).mono ?_
      rintro e w7 ⟨rfl, hb7⟩
      have t7 := keep_block hb7 t6 (lt_of_block t6)
      have g7 := keep_block hb7 g6 (lt_of_block g6)
      have z7 := keep_block hb7 z6 (lt_of_block z6)
      have q7 := keep_block hb7 q6 (lt_of_block q6)
      have HC7 : Hid (Cur c B w7) := HC6.out.keep (hb7.block _ HC6.out.lt) (hb7.mono (by have := HC6.out.lt; omega))
      have HO7 : Hid (Only c w w7) := HO6.out.past (hb7.mono HO6.out.size)
      have OW7 := Lib.hid (OW6.out.below hb7)
      clear hv hb7 t6 g6 z6 q6 HC6 HO6 OW6 hQ
      cases v
      · go_wp2_with fail
        go_roundw
        case rel => exact ⟨k + 1, l, pw, by omega, by go_num, HL, t7, g7, z7, OW7.out, HC7.out, HO7.out⟩
        case measure => simp [intOf]; omega
      · have HD := Lib.hid (specDo_is (B := w1.heap.size) (P := P) (y := cy) (z := cz) HKK.out HXX.out HL.out (by omega) t7 OW7.out (fun x hx => by have := (HNE.out x hx).2; omega) hs2)
        obtain ⟨e0, e1, e2, e3⟩ := cells4 q7
        clear t7 OW7 q7
        go_wp2_with fail
        refine HD.out.mono ?_
        rintro e w8 ⟨rfl, t8, own8, hb8⟩
        have hS1 := HS1.out
        have g8 := keep_block hb8 g7 (by omega)
        have z8 := keep_block hb8 z7 (by omega)
        have HC8 : Hid (Cur c B w8) := HC7.out.keep (hb8.block _ (by omega)) (hb8.mono (by omega))
        have HO8 : Hid (Only c w w8) := HO7.out.past (hb8.mono (by omega))
        have OW8 := Lib.hid own8
        have HL8 : Hid ((doL l ck cx cy).length = n) := by show _ = _; rw [doL_length]; exact HL.out
        clear hb8 own8 g7 z7 HC7 HO7 HD e0 e1 e2 e3 hS1
        go_wp2_with fail
        go_roundw
        case rel => exact ⟨k + 1, doL l ck cx cy, doP pw ck, by omega, by go_num, HL8, t8, g8, z8, OW8.out, HC8.out, HO8.out⟩
        case measure => simp [intOf]; omega
    · obtain ⟨d0, d1⟩ := cells2 t4
      obtain ⟨y0, y1⟩ := cells2 z4
      have f0 := thawed z4 0
      have f1 := thawed z4 1
      have hS1 := HS1.out
      have F1 : Hid (OwnK w.heap.size (.slice aa n cc) l ((w4.setCell ⟨w.heap.size + 1, 0, none⟩ (.slice aa n cc)).setCell ⟨w.heap.size + 1, 1, none⟩ (.int .i64 pw))) :=
        OwnK.mono (B := w1.heap.size) ((OW4.out.setCell (fun x hx => by have := (HNE.out x hx).1; simp; omega) _).setCell (fun x hx => by have := (HNE.out x hx).1; simp; omega) _) (by omega)
      have F2 : Hid (Cur c B ((w4.setCell ⟨w.heap.size + 1, 0, none⟩ (.slice aa n cc)).setCell ⟨w.heap.size + 1, 1, none⟩ (.int .i64 pw))) := (HC4.out.setNew (by simp; omega) (by simp; omega) _).setNew (by simp; omega) (by simp; omega) _
      have F3 : Hid (Only c w ((w4.setCell ⟨w.heap.size + 1, 0, none⟩ (.slice aa n cc)).setCell ⟨w.heap.size + 1, 1, none⟩ (.int .i64 pw))) := (HO4.out.setNew (by simp) _).setNew (by simp) _
      have hlt2 : ¬ (k : Int) < x := hlt
      clear hS1
      go_wp2_with fail
      (try simp only [Exit.inBlock, Exit.then])
      refine bodyPost_ret (v := .agg #[.slice aa n cc, .int .i64 pw]) ?_ rfl ⟨_, _, l, _, rfl, HL.out, F1.out, F2.out, F3.out⟩
      simp [results, Try.results79, go_sem, y0, y1]


end Go.Proofs.Ytigoniochamjgaa
