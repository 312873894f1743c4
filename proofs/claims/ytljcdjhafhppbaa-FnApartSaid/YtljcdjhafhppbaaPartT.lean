/-
  The laws over drawn partitions.
-/
import Derived.Test.YtljcdjhafhppbaaPartA2
import Derived.Test.YtljcdjhafhppbaaPartL
namespace Go.Proofs.Ytljcdjhafhppbaa
open Go.RowKit

set_option linter.unusedVariables false

theorem RowI.set {w : World} {a : Option Addr} {l : List Int} (h : RowI w a l) {p : Addr} (hp : ∀ x, a = some x → x.block ≠ p.block) (u : Value) : RowI (w.setCell p u) a l := by
  rcases h with h | ⟨b, off, rfl, h⟩
  · exact .inl h
  · exact .inr ⟨b, off, rfl, fun i hi => by
      have e : (w.setCell p u).heap[b]? = w.heap[b]? := Below.heap_setCell _ _ _ _ (hp _ rfl)
      exact (World.cell?_of_block (a := ⟨b, off + i, none⟩) (w := w) e).trans (h i hi)⟩

/-- What a drawn geometry and partition leave. -/
def DrewPtn (w : World) (e : Ending) (w' : World) : Prop :=
  ∃ (a b r d : Int) (ad : Option Addr) (n cap : Nat) (l : List Int), e = .returned (.tuple #[.agg #[.int .i64 a, .int .i64 b, .int .i64 r, .int .i64 d], .agg #[.slice ad n cap]]) ∧ l.length = n ∧ n ≤ 8 ∧ (∀ x ∈ l, -1 ≤ x ∧ x ≤ 4) ∧ RowI w' ad l ∧ Below w.heap.size w w'

set_option maxHeartbeats 2000000 in
set_option maxRecDepth 100000 in
theorem drawPartition_any {a : Option Addr} {len cap : Nat} {zs : List Int} {w : World} (hr : IsRow .u8 w a len cap zs) :
    Calls Try.prog 11 #[.slice a len cap] w (DrewPtn w) := by
  obtain ⟨w1, hw1⟩ : ∃ u, (w.alloc (.cells #[.int .i64 0, .int .i64 0, .int .i64 0, .int .i64 0] 25)).alloc (.cells #[.slice none 0 0] 28) = u := ⟨_, rfl⟩
  have HR := Lib.hid ((hr.alloc (.cells #[.int .i64 0, .int .i64 0, .int .i64 0, .int .i64 0] 25)).alloc (.cells #[.slice none 0 0] 28))
  rw [hw1] at HR
  have HB1 : Hid (Below w.heap.size w w1) := by subst hw1; exact ((Below.refl _ _).alloc (by simp) _).alloc (by simp) _
  have hs1 : w1.heap.size = w.heap.size + 1 + 1 := by subst hw1; simp
  have x1 : w1.heap[w.heap.size]? = some (.cells #[.int .i64 0, .int .i64 0, .int .i64 0, .int .i64 0] 25) := by subst hw1; exact heap_alloc2_old _ _ _
  have y1 : w1.heap[w.heap.size + 1]? = some (.cells #[.slice none 0 0] 28) := by subst hw1; exact heap_alloc2_new _ _ _
  have hn1 : w.heap.size + 1 < w1.heap.size := by omega
  have HS1 := Lib.hid hs1
  clear hr hs1
  go_enter Try.func11, Try.ntmps11
  go_wp2_with fail
  refine (l01New_any HR.out).mono ?_
  rintro e w2 ⟨c, rfl, hBc, hc2, hb2⟩
  have x2 := keep_block hb2 x1 (lt_of_block x1)
  have y2 := keep_block hb2 y1 (lt_of_block y1)
  have HB2 : Hid (Below w.heap.size w w2) := HB1.out.trans (hb2.mono HB1.out.size)
  have HC2 := Lib.hid hc2
  have hcl := hc2.lt
  have hs2 := HB2.out.size
  have hs12 := hb2.size
  clear hb2 hc2 HR x1 y1 HB1 hw1
  go_wp2_with fail
  refine (l05Any_any HC2.out).mono ?_
  rintro e w3 ⟨ga, gb, gr, gd, ad, n, cp, l, rfl, hl, hn8, hla, hrow, hblk, _, ho3⟩
  have x3 := (ho3.block _ (lt_of_block x2) (by omega)).trans x2
  have y3 := (ho3.block _ (lt_of_block y2) (by omega)).trans y2
  have HB3 : Hid (Below w.heap.size w w3) := HB2.out.trans (ho3.below (by omega) hs2)
  have HRW := Lib.hid hrow
  have HBK : Hid (∀ x, ad = some x → w.heap.size + 1 < x.block) := fun x hx => by have := hblk x hx; omega
  clear hrow hblk ho3 x2 y2 HB2
  obtain ⟨x0, x1, x2, x4⟩ := cells4 x3
  have f0 := thawed x3 0
  have f1 := thawed x3 1
  have f2 := thawed x3 2
  have f3 := thawed x3 3
  have y0 := cell1 y3
  have fy := thawed y3 0
  obtain ⟨w4, hw4⟩ : ∃ u, (((w3.setCell ⟨w.heap.size, 0, none⟩ (.int .i64 ga)).setCell ⟨w.heap.size, 1, none⟩ (.int .i64 gb)).setCell ⟨w.heap.size, 2, none⟩ (.int .i64 gr)).setCell ⟨w.heap.size, 3, none⟩ (.int .i64 gd) = u := ⟨_, rfl⟩
  have xx4 : w4.heap[w.heap.size]? = some (.cells #[.int .i64 ga, .int .i64 gb, .int .i64 gr, .int .i64 gd] 25) := by rw [← hw4]; exact set_cells (set_cells (set_cells (set_cells x3 0 _) 1 _) 2 _) 3 _
  have other : ∀ k, k ≠ w.heap.size → w4.heap[k]? = w3.heap[k]? := fun k hk => by
    rw [← hw4]
    exact (Below.heap_setCell _ _ _ _ hk).trans ((Below.heap_setCell _ _ _ _ hk).trans ((Below.heap_setCell _ _ _ _ hk).trans (Below.heap_setCell _ _ _ _ hk)))
  have y4 := (other (w.heap.size + 1) (by omega)).trans y3
  have HB4 : Hid (Below w.heap.size w w4) := by
    show Below _ _ _
    rw [← hw4]
    have h0 := HB3.out
    repeat' (first | exact h0 | refine Below.setCell ?_ (by simp) _)
  have HRW4 : Hid (RowI w4 ad l) := by
    show RowI _ _ _
    rw [← hw4]
    have h0 := HRW.out
    repeat' (first | exact h0 | refine RowI.set ?_ (fun x hx => by have := HBK.out x hx; simp; omega) _)
  have yy0 := cell1 y4
  have fyy := thawed y4 0
  obtain ⟨w5, hw5⟩ : ∃ u, w4.setCell ⟨w.heap.size + 1, 0, none⟩ (.slice ad n cp) = u := ⟨_, rfl⟩
  have y5 : w5.heap[w.heap.size + 1]? = some (.cells #[.slice ad n cp] 28) := by rw [← hw5]; exact set_cells y4 0 _
  have x5 : w5.heap[w.heap.size]? = some (.cells #[.int .i64 ga, .int .i64 gb, .int .i64 gr, .int .i64 gd] 25) := by rw [← hw5]; exact (Below.heap_setCell _ _ _ _ (by simp)).trans xx4
  have HB5 : Hid (Below w.heap.size w w5) := by show Below _ _ _; rw [← hw5]; exact HB4.out.setCell (by simp) _
  have HRW5 : Hid (RowI w5 ad l) := by show RowI _ _ _; rw [← hw5]; exact HRW4.out.set (fun x hx => by have := HBK.out x hx; simp; omega) _
  clear other xx4 y4 x3 y3 HB3 HB4 HRW HRW4
  obtain ⟨q0, q1, q2, q3⟩ := cells4 x5
  have q4 := cell1 y5
  go_wp2
  (try simp only [Exit.inBlock, Exit.then])
  refine bodyPost_ret (v := .tuple #[.agg #[.int .i64 ga, .int .i64 gb, .int .i64 gr, .int .i64 gd], .agg #[.slice ad n cp]]) ?_ rfl ⟨ga, gb, gr, gd, ad, n, cp, l, rfl, hl, hn8, hla, HRW5.out, HB5.out⟩
  simp [results, Try.results11, go_sem, q0, q1, q2, q3, q4]

end Go.Proofs.Ytljcdjhafhppbaa
