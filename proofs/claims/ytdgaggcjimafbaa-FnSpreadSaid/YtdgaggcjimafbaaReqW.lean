/-
  The draws of mappings, slots and requests.
-/
import Derived.Test.YtdgaggcjimafbaaWordW
import Derived.Test.YtdgaggcjimafbaaDrawGeoW
import Derived.Test.YtdgaggcjimafbaaFloat
import Derived.Deep.AppendLies
namespace Go.Proofs.Ytdgaggcjimafbaa
open Go.RowKit

set_option linter.unusedVariables false

theorem resCell1 {fn : Func} {p : Tmp} {ty : TypeId} (h : fn.results = #[.cell p ty]) (tmps : Array Value) (P : Program) (w : World) :
    (results fn tmps).run P w = ((asAddr (tmps.getD p undef)).run P w).andThen fun a w₁ => (loadVar ty a).run P w₁ := by
  simp only [results, h]
  simp [Sem.run_bind, Result.andThen]

theorem set_cells {w : World} {c : Nat} {vs : Array Value} {t : TypeId} (h : w.heap[c]? = some (.cells vs t (0, 0))) (k : Nat) (u : Value) : (w.setCell ⟨c, k, none⟩ u).heap[c]? = some (.cells (vs.setIfInBounds k u) t (0, 0)) := by
  have hlt := lt_of_block h
  have h' : w.heap[c] = .cells vs t (0, 0) := by simpa [Array.getElem?_eq_getElem hlt] using h
  show (w.heap.modify c _)[c]? = _
  rw [Array.getElem?_eq_getElem (by simpa using hlt), Array.getElem_modify_self, h']
  rfl

theorem cells6 {w : World} {c : Nat} {v0 v1 v2 v3 v4 v5 : Value} {t : TypeId} {fr : Nat × Nat} (h : w.heap[c]? = some (.cells #[v0, v1, v2, v3, v4, v5] t fr)) :
    w.cell? ⟨c, 0, none⟩ = some v0 ∧ w.cell? ⟨c, 1, none⟩ = some v1 ∧ w.cell? ⟨c, 2, none⟩ = some v2 ∧ w.cell? ⟨c, 3, none⟩ = some v3 ∧ w.cell? ⟨c, 4, none⟩ = some v4 ∧ w.cell? ⟨c, 5, none⟩ = some v5 := by
  simp [World.cell?, h]


/-- A drawn mapping: valid. -/
def DrewMap (c B : Nat) (w : World) (e : Ending) (w' : World) : Prop :=
  ∃ (o : Int) (h : Bool), e = .returned (.agg #[.int .i64 o, .bool h]) ∧ (0 ≤ o ∧ o ≤ 2) ∧ Cur c B w' ∧ Only c w w'

set_option maxHeartbeats 1000000 in
theorem l04Map_any {c B : Nat} {w : World} (hc : Cur c B w) :
    Calls Try.prog 34 #[.pointer (some ⟨c, 0, none⟩)] w (DrewMap c B w) := by
  have hlt := hc.lt
  have hBc : B ≤ c := by obtain ⟨_, _, _, _, _, _, _, h, _⟩ := hc; exact h
  have hcz := hc.alloc (.cells #[.int .i64 0, .bool false] 27)
  have HC := Lib.hid hcz
  clear hc hcz
  go_enter Try.func34, Try.ntmps34
  go_wp2_with fail
  refine (l01Below_any HC.out 3 (by omega)).mono ?_
  rintro e w1 ⟨x1, rfl, hx10, hx11, hc1, ho1⟩
  rw [topOf_pos (by omega)] at hx11
  go_wp2_with fail
  refine (l01Once_any hc1 2 (by omega)).mono ?_
  rintro e w2 ⟨x2, rfl, hc2, ho2⟩
  have HO := Lib.hid (ho1.trans ho2)
  have hz : w2.heap[w.heap.size]? = some (.cells #[.int .i64 0, .bool false] 27) := (HO.out.block _ (by simp) (by omega)).trans (heap_alloc_new _ _)
  obtain ⟨y0, y1⟩ := cells2 hz
  have f0 := thawed hz 0
  have f1 := thawed hz 1
  have HC2 := Lib.hid hc2
  clear hc1 hc2 ho1 ho2 hz
  go_wp2
  (try simp only [Exit.inBlock, Exit.then])
  refine bodyPost_ret (v := .agg #[.int .i64 x1, .bool x2]) ?_ rfl ⟨_, _, rfl, ⟨by omega, by omega⟩, ?_, ?_⟩
  · simp [results, Try.results34, go_sem, y0, y1]
  · have h0 := HC2.out
    repeat' (first | refine Cur.setNew ?_ (by simp; omega) (by simp; omega) _ | exact h0)
  · have h0 : Only c w w2 := ((Only.refl c w).alloc _).trans HO.out
    repeat' (first | refine Only.setNew ?_ (by simp) _ | exact h0)


/-- A request, as its numbers. -/
structure Rq where
  id : Int
  tn : Int
  ln : Int
  wr : Bool
  dt : Int
  tm : Int

def Rq.vs (q : Rq) : List Value := [.int .i64 q.id, .int .i64 q.tn, .int .i64 q.ln, .bool q.wr, .int .i64 q.dt, .int .i64 q.tm]

/-- What a drawn request is, for lines up to L. -/
def RqOk (L : Int) (q : Rq) : Prop := (1 ≤ q.id ∧ q.id ≤ 60) ∧ (0 ≤ q.tn ∧ q.tn ≤ 2) ∧ (0 ≤ q.ln ∧ q.ln ≤ topOf L) ∧ (q.wr = false → q.dt = 0) ∧ (0 ≤ q.dt ∧ q.dt ≤ 4294967295) ∧ (0 ≤ q.tm ∧ q.tm ≤ 49)


def DrewReq (L : Int) (c B : Nat) (w : World) (e : Ending) (w' : World) : Prop :=
  ∃ q : Rq, e = .returned (.agg #[.int .i64 q.id, .int .i64 q.tn, .int .i64 q.ln, .bool q.wr, .int .i64 q.dt, .int .i64 q.tm]) ∧ RqOk L q ∧ Cur c B w' ∧ Only c w w'

set_option maxHeartbeats 4000000 in
set_option maxRecDepth 100000 in
theorem l19Req_any {c B : Nat} {w : World} (hc : Cur c B w) (L : Int) (hL : L ≤ 1000000) :
    Calls Try.prog 47 #[.pointer (some ⟨c, 0, none⟩), .int .i64 L] w (DrewReq L c B w) := by
  have hlt := hc.lt
  have hBc : B ≤ c := by obtain ⟨_, _, _, _, _, _, _, h, _⟩ := hc; exact h
  have hcz := hc.alloc (.cells #[.int .i64 0, .int .i64 0, .int .i64 0, .bool false, .int .i64 0, .int .i64 0] 81)
  have HC := Lib.hid hcz
  clear hc hcz
  go_enter Try.func47, Try.ntmps47
  go_wp2_with fail
  refine (l01Below_any HC.out 60 (by omega)).mono ?_
  rintro e w1 ⟨x1, rfl, hx10, hx11, hc1, ho1⟩
  rw [topOf_pos (by omega)] at hx11
  have e1 : IntKind.i64.wrap (1 + x1) = 1 + x1 := IntWalk.i64_in _ ⟨by omega, by omega⟩
  go_wp2_with fail
  refine (l01Below_any hc1 3 (by omega)).mono ?_
  rintro e w2 ⟨x2, rfl, hx20, hx21, hc2, ho2⟩
  rw [topOf_pos (by omega)] at hx21
  go_wp2_with fail
  refine (l01Below_any hc2 L (by omega)).mono ?_
  rintro e w3 ⟨x3, rfl, hx30, hx31, hc3, ho3⟩
  go_wp2_with fail
  refine (l01Below_any hc3 50 (by omega)).mono ?_
  rintro e w4 ⟨x4, rfl, hx40, hx41, hc4, ho4⟩
  rw [topOf_pos (by omega)] at hx41
  have HO4 : Hid (Only c (w.alloc (.cells #[.int .i64 0, .int .i64 0, .int .i64 0, .bool false, .int .i64 0, .int .i64 0] 81)) w4) := ((ho1.trans ho2).trans ho3).trans ho4
  have HC4 := Lib.hid hc4
  have HX3 := Lib.hid hx31
  have z4 : w4.heap[w.heap.size]? = some (.cells #[.int .i64 0, .int .i64 0, .int .i64 0, .bool false, .int .i64 0, .int .i64 0] 81) := (HO4.out.block _ (by simp) (by omega)).trans (heap_alloc_new _ _)
  have hs4 : w.heap.size + 1 ≤ w4.heap.size := by have := HO4.out.size; simpa using this
  clear hc1 hc2 hc3 hc4 ho1 ho2 ho3 ho4 hx31
  obtain ⟨w5, hw5⟩ : ∃ u, w4.alloc (.cells #[.int .i64 (1 + x1), .int .i64 x2, .int .i64 x3, .bool false, .int .i64 0, .int .i64 x4] 81) = u := ⟨_, rfl⟩
  have HC5 : Hid (Cur c B w5) := by subst hw5; exact HC4.out.alloc _
  have HO5 : Hid (Only c w w5) := by subst hw5; exact ((((Only.refl c w).alloc _).trans HO4.out).trans ((Only.refl c w4).alloc _))
  have z5 : w5.heap[w.heap.size]? = some (.cells #[.int .i64 0, .int .i64 0, .int .i64 0, .bool false, .int .i64 0, .int .i64 0] 81) := by subst hw5; exact keep_block ((Below.refl w4.heap.size w4).alloc (Nat.le_refl _) _) z4 (lt_of_block z4)
  have r5 : w5.heap[w4.heap.size]? = some (.cells #[.int .i64 (1 + x1), .int .i64 x2, .int .i64 x3, .bool false, .int .i64 0, .int .i64 x4] 81) := by subst hw5; exact heap_alloc_new _ _
  have hcr : c < w4.heap.size := HC4.out.lt
  obtain ⟨rb, hrb⟩ : ∃ u, w4.heap.size = u := ⟨_, rfl⟩
  rw [hrb] at r5 hcr hs4
  clear z4 HO4 HC4
  go_wp2_with fail
  clear hw5
  refine (l01Once_any HC5.out 2 (by omega)).mono ?_
  rintro e w6 ⟨x5, rfl, hc6, ho6⟩
  have z6 := (ho6.block _ (lt_of_block z5) (by omega)).trans z5
  have r6 := (ho6.block _ (lt_of_block r5) (by omega)).trans r5
  have HC6 := Lib.hid hc6
  have HO6 := Lib.hid (HO5.out.trans ho6)
  have hne : rb ≠ w.heap.size := by omega
  clear hc6 ho6 z5 r5 HC5 HO5 hrb
  cases x5
  · obtain ⟨r0, r1, r2, r3, r4, r5⟩ := cells6 r6
    obtain ⟨z0, z1, z2, z3, z4, z5⟩ := cells6 z6
    have f0 := thawed z6 0
    have f1 := thawed z6 1
    have f2 := thawed z6 2
    have f3 := thawed z6 3
    have f4 := thawed z6 4
    have f5 := thawed z6 5
    go_wp2
    (try simp only [Exit.inBlock, Exit.then])
    refine bodyPost_ret (v := .agg #[.int .i64 (1 + x1), .int .i64 x2, .int .i64 x3, .bool false, .int .i64 0, .int .i64 x4]) ?_ rfl ⟨⟨1 + x1, x2, x3, false, 0, x4⟩, rfl, ⟨⟨by show (1 : Int) ≤ 1 + x1; omega, by show 1 + x1 ≤ (60 : Int); omega⟩, ⟨hx20, by show x2 ≤ (2 : Int); omega⟩, ⟨hx30, HX3.out⟩, fun _ => rfl, ⟨by show (0 : Int) ≤ 0; decide, by show (0 : Int) ≤ 4294967295; decide⟩, ⟨hx40, by show x4 ≤ (49 : Int); omega⟩⟩, ?_, ?_⟩
    · rw [resCell1 rfl]
      go_simp
    · have h0 := HC6.out
      repeat' (first | refine Cur.setNew ?_ (by simp; omega) (by simp; omega) _ | exact h0)
    · have h0 := HO6.out
      repeat' (first | refine Only.setNew ?_ (by simp) _ | exact h0)
  · obtain ⟨w7, hw7⟩ : ∃ u, w6.setCell ⟨rb, 3, none⟩ (.bool true) = u := ⟨_, rfl⟩
    have r7 : w7.heap[rb]? = some (.cells #[.int .i64 (1 + x1), .int .i64 x2, .int .i64 x3, .bool true, .int .i64 0, .int .i64 x4] 81) := by rw [← hw7]; exact set_cells r6 3 _
    have z7 : w7.heap[w.heap.size]? = some (.cells #[.int .i64 0, .int .i64 0, .int .i64 0, .bool false, .int .i64 0, .int .i64 0] 81) := by rw [← hw7]; exact (Below.heap_setCell _ _ _ _ (by simp; omega)).trans z6
    have HC7 : Hid (Cur c B w7) := by show Cur c B w7; rw [← hw7]; exact HC6.out.setNew (by simp; omega) (by simp; omega) _
    have HO7 : Hid (Only c w w7) := by show Only c w w7; rw [← hw7]; exact HO6.out.setNew (by simp; omega) _
    obtain ⟨_, _, _, r3, _, _⟩ := cells6 r6
    have f3 := thawed r6 3
    clear z6 HC6 HO6
    go_wp2_with fail
    clear r3 f3 r6 hw7
    refine (l02WordR_any HC7.out).mono ?_
    rintro e w8 ⟨x6, rfl, hx6, hc8, ho8⟩
    obtain ⟨hx60, hx61⟩ := hx6
    have z8 := (ho8.block _ (lt_of_block z7) (by omega)).trans z7
    have r8 := (ho8.block _ (lt_of_block r7) (by omega)).trans r7
    have HC8 := Lib.hid hc8
    have HO8 := Lib.hid (HO7.out.trans ho8)
    clear hc8 ho8 z7 r7 HC7 HO7
    obtain ⟨w9, hw9⟩ : ∃ u, w8.setCell ⟨rb, 4, none⟩ (.int .i64 x6) = u := ⟨_, rfl⟩
    have r9 : w9.heap[rb]? = some (.cells #[.int .i64 (1 + x1), .int .i64 x2, .int .i64 x3, .bool true, .int .i64 x6, .int .i64 x4] 81) := by rw [← hw9]; exact set_cells r8 4 _
    have z9 : w9.heap[w.heap.size]? = some (.cells #[.int .i64 0, .int .i64 0, .int .i64 0, .bool false, .int .i64 0, .int .i64 0] 81) := by rw [← hw9]; exact (Below.heap_setCell _ _ _ _ (by simp; omega)).trans z8
    have HC9 : Hid (Cur c B w9) := by show Cur c B w9; rw [← hw9]; exact HC8.out.setNew (by simp; omega) (by simp; omega) _
    have HO9 : Hid (Only c w w9) := by show Only c w w9; rw [← hw9]; exact HO8.out.setNew (by simp; omega) _
    obtain ⟨_, _, _, _, q4, _⟩ := cells6 r8
    have f40 := thawed r8 4
    clear z8 r8 HC8 HO8
    obtain ⟨r0, r1, r2, r3, r4, r5⟩ := cells6 r9
    obtain ⟨z0, z1, z2, z3, z4, z5⟩ := cells6 z9
    have f0 := thawed z9 0
    have f1 := thawed z9 1
    have f2 := thawed z9 2
    have f3 := thawed z9 3
    have f4 := thawed z9 4
    have f5 := thawed z9 5
    go_wp2
    (try simp only [Exit.inBlock, Exit.then])
    refine bodyPost_ret (v := .agg #[.int .i64 (1 + x1), .int .i64 x2, .int .i64 x3, .bool true, .int .i64 x6, .int .i64 x4]) ?_ rfl ⟨⟨1 + x1, x2, x3, true, x6, x4⟩, rfl, ⟨⟨by show (1 : Int) ≤ 1 + x1; omega, by show 1 + x1 ≤ (60 : Int); omega⟩, ⟨hx20, by show x2 ≤ (2 : Int); omega⟩, ⟨hx30, HX3.out⟩, fun h => (by cases h), ⟨hx60, hx61⟩, ⟨hx40, by show x4 ≤ (49 : Int); omega⟩⟩, ?_, ?_⟩
    · rw [resCell1 rfl]
      go_simp
    · have h0 := HC9.out
      repeat' (first | refine Cur.setNew ?_ (by simp; omega) (by simp; omega) _ | exact h0)
    · have h0 := HO9.out
      repeat' (first | refine Only.setNew ?_ (by simp) _ | exact h0)


end Go.Proofs.Ytdgaggcjimafbaa
