/-
  The draws of a geometry, a rank and a command; the laws' own comparison of ranks.
-/
import Derived.Test.YtigoniochamjgaaBnkA
namespace Go.Proofs.Ytigoniochamjgaa
open Go.RowKit

set_option linter.unusedVariables false

theorem RowB.set {w : World} {a : Option Addr} {l : List Bk} (h : RowB w a l) {p : Addr} (hp : ∀ x, a = some x → x.block ≠ p.block) (u : Value) : RowB (w.setCell p u) a l := by
  rcases h with h | ⟨b, off, rfl, h⟩
  · exact .inl h
  · have e : (w.setCell p u).heap[b]? = w.heap[b]? := Below.heap_setCell _ _ _ _ (hp _ rfl)
    exact .inr ⟨b, off, rfl, fun i hi => ⟨(World.cell?_of_block (a := ⟨b, off + i * 2, none⟩) (w := w) e).trans (h i hi).1, (World.cell?_of_block (a := ⟨b, off + i * 2 + 1, none⟩) (w := w) e).trans (h i hi).2⟩⟩

theorem RowB.only {w w' : World} {c : Nat} {a : Option Addr} {l : List Bk} (h : RowB w a l) (ho : Only c w w') (hc : ∀ x, a = some x → x.block ≠ c) : RowB w' a l := by
  rcases h with h | ⟨b, off, rfl, h⟩
  · exact .inl h
  · exact .inr ⟨b, off, rfl, fun i hi => ⟨(World.cell?_of_block (a := ⟨b, off + i * 2, none⟩) (w := w) (ho.block b (World.block_lt_of_cell? _ _ (h i hi).1) (hc _ rfl))).trans (h i hi).1, (World.cell?_of_block (a := ⟨b, off + i * 2 + 1, none⟩) (w := w) (ho.block b (World.block_lt_of_cell? _ _ (h i hi).1) (hc _ rfl))).trans (h i hi).2⟩⟩

/-- What a drawn geometry, rank and command leave. -/
def DrewAllow (w : World) (e : Ending) (w' : World) : Prop :=
  ∃ (a b r d : Int) (ad : Option Addr) (n cp : Nat) (l : List Bk) (pw k x y z : Int), e = .returned (.tuple #[.agg #[.int .i64 a, .int .i64 b, .int .i64 r, .int .i64 d], .agg #[.slice ad n cp, .int .i64 pw], .agg #[.int .i64 k, .int .i64 x, .int .i64 y, .int .i64 z]]) ∧ l.length = n ∧ n ≤ 8 ∧ RowB w' ad l ∧ (∀ x, ad = some x → w.heap.size ≤ x.block) ∧ (ad = none → cp = 0) ∧ Below w.heap.size w w'

/-- Three results, each in a variable of its own, written by one and the same set of stores. -/
theorem three_stored {w w3 : World} {B : Nat} {a b r d : Int} {ad : Option Addr} {n cp : Nat} {l : List Bk} {pw k x y z : Int}
    (hb : Below w.heap.size w w3) (hrow : RowB w3 ad l) (hblk : ∀ q, ad = some q → w.heap.size + 2 < q.block) :
    Below w.heap.size w (((((((((((w3.setCell ⟨w.heap.size, 0, none⟩ (.int .i64 a)).setCell ⟨w.heap.size, 1, none⟩ (.int .i64 b)).setCell ⟨w.heap.size, 2, none⟩ (.int .i64 r)).setCell ⟨w.heap.size, 3, none⟩ (.int .i64 d)).setCell ⟨w.heap.size + 1, 0, none⟩ (.slice ad n cp)).setCell ⟨w.heap.size + 1, 1, none⟩ (.int .i64 pw)).setCell ⟨w.heap.size + 1 + 1, 0, none⟩ (.int .i64 k)).setCell ⟨w.heap.size + 1 + 1, 1, none⟩ (.int .i64 x)).setCell ⟨w.heap.size + 1 + 1, 2, none⟩ (.int .i64 y)).setCell ⟨w.heap.size + 1 + 1, 3, none⟩ (.int .i64 z))) ∧
    RowB (((((((((((w3.setCell ⟨w.heap.size, 0, none⟩ (.int .i64 a)).setCell ⟨w.heap.size, 1, none⟩ (.int .i64 b)).setCell ⟨w.heap.size, 2, none⟩ (.int .i64 r)).setCell ⟨w.heap.size, 3, none⟩ (.int .i64 d)).setCell ⟨w.heap.size + 1, 0, none⟩ (.slice ad n cp)).setCell ⟨w.heap.size + 1, 1, none⟩ (.int .i64 pw)).setCell ⟨w.heap.size + 1 + 1, 0, none⟩ (.int .i64 k)).setCell ⟨w.heap.size + 1 + 1, 1, none⟩ (.int .i64 x)).setCell ⟨w.heap.size + 1 + 1, 2, none⟩ (.int .i64 y)).setCell ⟨w.heap.size + 1 + 1, 3, none⟩ (.int .i64 z))) ad l := by
  constructor
  · have l0 : w.heap.size ≤ w.heap.size := Nat.le_refl _
    have l1 : w.heap.size ≤ w.heap.size + 1 := Nat.le_succ _
    have l2 : w.heap.size ≤ w.heap.size + 1 + 1 := Nat.le_add_right _ 2
    exact (((((((((hb.setCell l0 _).setCell l0 _).setCell l0 _).setCell l0 _).setCell l1 _).setCell l1 _).setCell l2 _).setCell l2 _).setCell l2 _).setCell l2 _
  · have l0 : ∀ q, ad = some q → q.block ≠ w.heap.size := fun q hq => by have := hblk q hq; omega
    have l1 : ∀ q, ad = some q → q.block ≠ w.heap.size + 1 := fun q hq => by have := hblk q hq; omega
    have l2 : ∀ q, ad = some q → q.block ≠ w.heap.size + 1 + 1 := fun q hq => by have := hblk q hq; omega
    exact (((((((((hrow.set (p := ⟨w.heap.size, 0, none⟩) l0 _).set (p := ⟨w.heap.size, 1, none⟩) l0 _).set (p := ⟨w.heap.size, 2, none⟩) l0 _).set (p := ⟨w.heap.size, 3, none⟩) l0 _).set (p := ⟨w.heap.size + 1, 0, none⟩) l1 _).set (p := ⟨w.heap.size + 1, 1, none⟩) l1 _).set (p := ⟨w.heap.size + 1 + 1, 0, none⟩) l2 _).set (p := ⟨w.heap.size + 1 + 1, 1, none⟩) l2 _).set (p := ⟨w.heap.size + 1 + 1, 2, none⟩) l2 _).set (p := ⟨w.heap.size + 1 + 1, 3, none⟩) l2 _


set_option maxHeartbeats 8000000 in
set_option maxRecDepth 100000 in
theorem drawAllowed_any {a0 : Option Addr} {len cap : Nat} {zs : List Int} {w : World} (hr : IsRow .u8 w a0 len cap zs) :
    Calls Try.prog 40 #[.slice a0 len cap] w (DrewAllow w) := by
  obtain ⟨w1, hw1⟩ : ∃ u, ((w.alloc (.cells #[.int .i64 0, .int .i64 0, .int .i64 0, .int .i64 0] 25)).alloc (.cells #[.slice none 0 0, .int .i64 0] 28)).alloc (.cells #[.int .i64 0, .int .i64 0, .int .i64 0, .int .i64 0] 30) = u := ⟨_, rfl⟩
  have HR : Hid (IsRow .u8 w1 a0 len cap zs) := by subst hw1; exact ((hr.alloc _).alloc _).alloc _
  have HB1 : Hid (Below w.heap.size w w1) := by subst hw1; exact (((Below.refl _ _).alloc (by simp) _).alloc (by simp) _).alloc (by simp; omega) _
  have x1 : w1.heap[w.heap.size]? = some (.cells #[.int .i64 0, .int .i64 0, .int .i64 0, .int .i64 0] 25) := by subst hw1; exact box3_0 _ _ _ _
  have y1 : w1.heap[w.heap.size + 1]? = some (.cells #[.slice none 0 0, .int .i64 0] 28) := by subst hw1; exact box3_1 _ _ _ _
  have z1 : w1.heap[w.heap.size + 1 + 1]? = some (.cells #[.int .i64 0, .int .i64 0, .int .i64 0, .int .i64 0] 30) := by subst hw1; exact box3_2 _ _ _ _
  have hn1 : w.heap.size + 1 + 1 < w1.heap.size := lt_of_block z1
  clear hr
  go_enter Try.func40, Try.ntmps40
  go_wp2_with fail
  refine (l01New_any HR.out).mono ?_
  rintro e w2 ⟨c, rfl, hBc, hc2, hb2⟩
  have x2 := keep_block hb2 x1 (lt_of_block x1)
  have y2 := keep_block hb2 y1 (lt_of_block y1)
  have z2 := keep_block hb2 z1 (lt_of_block z1)
  have HB2 : Hid (Below w.heap.size w w2) := HB1.out.trans (hb2.mono HB1.out.size)
  have HC2 := Lib.hid hc2
  have hcl := hc2.lt
  have hs2 := HB2.out.size
  have hs12 := hb2.size
  clear hb2 hc2 HR x1 y1 z1 HB1 hw1
  go_wp2_with fail
  refine (l08Any_any HC2.out).mono ?_
  rintro e w3 ⟨a, b, r, d, ad, n, cp, l, pw, rfl, hl, hn8, hrow, hblk, hnc, hc3, ho3⟩
  have x3 := (ho3.block _ (lt_of_block x2) (by omega)).trans x2
  have y3 := (ho3.block _ (lt_of_block y2) (by omega)).trans y2
  have z3 := (ho3.block _ (lt_of_block z2) (by omega)).trans z2
  have HB3 : Hid (Below w.heap.size w w3) := HB2.out.trans (ho3.below (by omega) hs2)
  have hs3 := ho3.size
  have HBK : Hid (∀ q, ad = some q → w2.heap.size ≤ q.block) := hblk
  have HNC := Lib.hid hnc
  have HL := Lib.hid hl
  clear hblk hnc hl ho3 x2 y2 z2 HB2 HC2
  have hb4 : Below w3.heap.size w3 ((w3.alloc (.cells #[.int .i64 a, .int .i64 b, .int .i64 r, .int .i64 d] 25)).alloc (.cells #[.slice ad n cp, .int .i64 pw] 28)) := ((Below.refl _ _).alloc (Nat.le_refl _) _).alloc (by simp) _
  have x4 := keep_block hb4 x3 (lt_of_block x3)
  have y4 := keep_block hb4 y3 (lt_of_block y3)
  have z4 := keep_block hb4 z3 (lt_of_block z3)
  have g4 : ((w3.alloc (.cells #[.int .i64 a, .int .i64 b, .int .i64 r, .int .i64 d] 25)).alloc (.cells #[.slice ad n cp, .int .i64 pw] 28)).heap[w3.heap.size]? = some (.cells #[.int .i64 a, .int .i64 b, .int .i64 r, .int .i64 d] 25) := heap_alloc2_old _ _ _
  have p4 : ((w3.alloc (.cells #[.int .i64 a, .int .i64 b, .int .i64 r, .int .i64 d] 25)).alloc (.cells #[.slice ad n cp, .int .i64 pw] 28)).heap[w3.heap.size + 1]? = some (.cells #[.slice ad n cp, .int .i64 pw] 28) := heap_alloc2_new _ _ _
  have HB4 : Hid (Below w.heap.size w ((w3.alloc (.cells #[.int .i64 a, .int .i64 b, .int .i64 r, .int .i64 d] 25)).alloc (.cells #[.slice ad n cp, .int .i64 pw] 28))) := HB3.out.trans (hb4.mono HB3.out.size)
  have HC4 : Hid (Cur c w1.heap.size ((w3.alloc (.cells #[.int .i64 a, .int .i64 b, .int .i64 r, .int .i64 d] 25)).alloc (.cells #[.slice ad n cp, .int .i64 pw] 28))) := (hc3.alloc _).alloc _
  have HRW4 := Lib.hid (hrow.below hb4)
  have hcl3 := hc3.lt
  clear hb4 hc3 hrow x3 y3 z3 HB3
  go_wp2_with fail
  obtain ⟨gk, hgk⟩ : ∃ u, w3.heap.size = u := ⟨_, rfl⟩
  generalize ((w3.alloc (.cells #[.int .i64 a, .int .i64 b, .int .i64 r, .int .i64 d] 25)).alloc (.cells #[.slice ad n cp, .int .i64 pw] 28)) = w4 at x4 y4 z4 g4 p4 HB4 HC4 HRW4 ⊢
  rw [hgk] at g4 p4 hs3 hcl3
  (try simp only [hgk])
  clear hgk
  refine wp_region_float (A := ?A) [.h, .h, .h, .h, .t, .t, .t, .t, .e] (by kernel_rfl) (by kernel_rfl) (fun u => u.heap[gk]? = some (.cells #[.int .i64 a, .int .i64 b, .int .i64 r, .int .i64 d] 25) ∧ u.heap[gk + 1]? = some (.cells #[.slice ad n cp, .int .i64 pw] 28)) ?hC ?hH ?hT
  case hC => exact ⟨g4, p4⟩
  case hH =>
    intro u hu
    obtain ⟨b0, b1, b2, b3⟩ := cells4 hu.1
    obtain ⟨b4, b5⟩ := cells2 hu.2
    have s0 := fun q : Same u => q.cell b0
    have s1 := fun q : Same u => q.cell b1
    have s2 := fun q : Same u => q.cell b2
    have s3 := fun q : Same u => q.cell b3
    have s4 := fun q : Same u => q.cell b4
    have s5 := fun q : Same u => q.cell b5
    simp only [headsOf]
    repeat (go_big_quiet_step (fail))
    refine wpQuiet_nil ?_
    exact rfl
  case hT =>
    simp only [chainT]
    have xd : w4.drew.heap[w.heap.size]? = some (.cells #[.int .i64 0, .int .i64 0, .int .i64 0, .int .i64 0] 25) := x4
    have yd : w4.drew.heap[w.heap.size + 1]? = some (.cells #[.slice none 0 0, .int .i64 0] 28) := y4
    have zd : w4.drew.heap[w.heap.size + 1 + 1]? = some (.cells #[.int .i64 0, .int .i64 0, .int .i64 0, .int .i64 0] 30) := z4
    have gd : w4.drew.heap[gk]? = some (.cells #[.int .i64 a, .int .i64 b, .int .i64 r, .int .i64 d] 25) := g4
    have pd : w4.drew.heap[gk + 1]? = some (.cells #[.slice ad n cp, .int .i64 pw] 28) := p4
    have HCd : Hid (Cur c w1.heap.size w4.drew) := HC4.out
    have HBd : Hid (Below w.heap.size w w4.drew) := Below.drew HB4.out
    have HRd : Hid (RowB w4.drew ad l) := HRW4.out
    clear x4 y4 z4 g4 p4 HC4 HB4 HRW4
    generalize w4.drew = wd at xd yd zd gd pd HCd HBd HRd ⊢
    go_wp2_with fail
    refine (specFit_is a b r d _).mono ?_
    rintro e w5 ⟨ga, gb, gr, gdd, rfl, hgo, hb5⟩
    have x5 := keep_block hb5 xd (lt_of_block xd)
    have y5 := keep_block hb5 yd (lt_of_block yd)
    have z5 := keep_block hb5 zd (lt_of_block zd)
    have g5 := keep_block hb5 gd (lt_of_block gd)
    have p5 := keep_block hb5 pd (lt_of_block pd)
    have HC5 : Hid (Cur c w1.heap.size w5) := HCd.out.keep (hb5.block _ HCd.out.lt) (hb5.mono (by have := HCd.out.lt; omega))
    have HB5 : Hid (Below w.heap.size w w5) := HBd.out.trans (hb5.mono HBd.out.size)
    have HR5 := Lib.hid (HRd.out.below hb5)
    have HGO := Lib.hid hgo
    clear hb5 xd yd zd gd pd HCd HBd HRd hgo
    go_wp2_with fail
    refine stepQ_normal ⟨⟨g5, p5⟩, ?_⟩
    go_wp2_with fail
    refine (l06Any_any HC5.out _ _ _ _ HGO.out).mono ?_
    rintro e w6 ⟨k, x, y, z, rfl, _, ho6⟩
    have x6 := (ho6.block _ (lt_of_block x5) (by omega)).trans x5
    have y6 := (ho6.block _ (lt_of_block y5) (by omega)).trans y5
    have z6 := (ho6.block _ (lt_of_block z5) (by omega)).trans z5
    have g6 := (ho6.block _ (lt_of_block g5) (by omega)).trans g5
    have p6 := (ho6.block _ (lt_of_block p5) (by omega)).trans p5
    have HB6 : Hid (Below w.heap.size w w6) := HB5.out.trans (ho6.below (by omega) HB5.out.size)
    have HR6 := Lib.hid (HR5.out.only ho6 (fun q hq => by have := HBK.out q hq; omega))
    clear ho6 x5 y5 z5 g5 p5 HC5 HB5 HR5 HGO
    go_wp2_with fail
    refine stepQ_normal ⟨⟨g6, p6⟩, ?_⟩
    have T := Lib.hid (three_stored (B := 0) (a := a) (b := b) (r := r) (d := d) (n := n) (cp := cp) (pw := pw) (k := k) (x := x) (y := y) (z := z) HB6.out HR6.out (fun q hq => by have := HBK.out q hq; omega))
    obtain ⟨v0, v1, v2, v3⟩ := cells4 x6
    have f0 := thawed x6 0
    have f1 := thawed x6 1
    have f2 := thawed x6 2
    have f3 := thawed x6 3
    have g7 := fun (h : gk ≠ w.heap.size) => (Below.heap_setCell (((w6.setCell ⟨w.heap.size, 0, none⟩ (.int .i64 a)).setCell ⟨w.heap.size, 1, none⟩ (.int .i64 b)).setCell ⟨w.heap.size, 2, none⟩ (.int .i64 r)) ⟨w.heap.size, 3, none⟩ (.int .i64 d) gk h).trans ((Below.heap_setCell _ _ _ _ h).trans ((Below.heap_setCell _ _ _ _ h).trans ((Below.heap_setCell _ _ _ _ h).trans g6)))
    have other : ∀ q, q ≠ w.heap.size → ((((w6.setCell ⟨w.heap.size, 0, none⟩ (.int .i64 a)).setCell ⟨w.heap.size, 1, none⟩ (.int .i64 b)).setCell ⟨w.heap.size, 2, none⟩ (.int .i64 r)).setCell ⟨w.heap.size, 3, none⟩ (.int .i64 d)).heap[q]? = w6.heap[q]? := fun q h => (Below.heap_setCell _ _ _ _ h).trans ((Below.heap_setCell _ _ _ _ h).trans ((Below.heap_setCell _ _ _ _ h).trans (Below.heap_setCell _ _ _ _ h)))
    obtain ⟨w7, hw7⟩ : ∃ u, (((w6.setCell ⟨w.heap.size, 0, none⟩ (.int .i64 a)).setCell ⟨w.heap.size, 1, none⟩ (.int .i64 b)).setCell ⟨w.heap.size, 2, none⟩ (.int .i64 r)).setCell ⟨w.heap.size, 3, none⟩ (.int .i64 d) = u := ⟨_, rfl⟩
    have x7 : w7.heap[w.heap.size]? = some (.cells #[.int .i64 a, .int .i64 b, .int .i64 r, .int .i64 d] 25) := by rw [← hw7]; exact set_cells (set_cells (set_cells (set_cells x6 0 _) 1 _) 2 _) 3 _
    rw [hw7] at other T
    have y7 := (other (w.heap.size + 1) (by omega)).trans y6
    have z7 := (other (w.heap.size + 1 + 1) (by omega)).trans z6
    have g7 := (other gk (by omega)).trans g6
    have p7 := (other (gk + 1) (by omega)).trans p6
    clear other x6 y6 z6 g6 p6 HB6 HR6
    go_wp2_with fail
    refine stepQ_normal ⟨⟨g7, p7⟩, ?_⟩
    clear hw7 v0 v1 v2 v3 f0 f1 f2 f3
    obtain ⟨v0, v1⟩ := cells2 y7
    have f0 := thawed y7 0
    have f1 := thawed y7 1
    have other : ∀ q, q ≠ w.heap.size + 1 → ((w7.setCell ⟨w.heap.size + 1, 0, none⟩ (.slice ad n cp)).setCell ⟨w.heap.size + 1, 1, none⟩ (.int .i64 pw)).heap[q]? = w7.heap[q]? := fun q h => (Below.heap_setCell _ _ _ _ h).trans (Below.heap_setCell _ _ _ _ h)
    obtain ⟨w8, hw8⟩ : ∃ u, (w7.setCell ⟨w.heap.size + 1, 0, none⟩ (.slice ad n cp)).setCell ⟨w.heap.size + 1, 1, none⟩ (.int .i64 pw) = u := ⟨_, rfl⟩
    have y8 : w8.heap[w.heap.size + 1]? = some (.cells #[.slice ad n cp, .int .i64 pw] 28) := by rw [← hw8]; exact set_cells (set_cells y7 0 _) 1 _
    rw [hw8] at other T
    have x8 := (other w.heap.size (by omega)).trans x7
    have z8 := (other (w.heap.size + 1 + 1) (by omega)).trans z7
    have g8 := (other gk (by omega)).trans g7
    have p8 := (other (gk + 1) (by omega)).trans p7
    clear other x7 y7 z7 g7 p7
    go_wp2_with fail
    refine stepQ_normal ⟨⟨g8, p8⟩, ?_⟩
    clear hw8 v0 v1 f0 f1 g8 p8
    obtain ⟨v0, v1, v2, v3⟩ := cells4 z8
    have f0 := thawed z8 0
    have f1 := thawed z8 1
    have f2 := thawed z8 2
    have f3 := thawed z8 3
    have other : ∀ q, q ≠ w.heap.size + 1 + 1 → ((((w8.setCell ⟨w.heap.size + 1 + 1, 0, none⟩ (.int .i64 k)).setCell ⟨w.heap.size + 1 + 1, 1, none⟩ (.int .i64 x)).setCell ⟨w.heap.size + 1 + 1, 2, none⟩ (.int .i64 y)).setCell ⟨w.heap.size + 1 + 1, 3, none⟩ (.int .i64 z)).heap[q]? = w8.heap[q]? := fun q h => (Below.heap_setCell _ _ _ _ h).trans ((Below.heap_setCell _ _ _ _ h).trans ((Below.heap_setCell _ _ _ _ h).trans (Below.heap_setCell _ _ _ _ h)))
    obtain ⟨w9, hw9⟩ : ∃ u, (((w8.setCell ⟨w.heap.size + 1 + 1, 0, none⟩ (.int .i64 k)).setCell ⟨w.heap.size + 1 + 1, 1, none⟩ (.int .i64 x)).setCell ⟨w.heap.size + 1 + 1, 2, none⟩ (.int .i64 y)).setCell ⟨w.heap.size + 1 + 1, 3, none⟩ (.int .i64 z) = u := ⟨_, rfl⟩
    have z9 : w9.heap[w.heap.size + 1 + 1]? = some (.cells #[.int .i64 k, .int .i64 x, .int .i64 y, .int .i64 z] 30) := by rw [← hw9]; exact set_cells (set_cells (set_cells (set_cells z8 0 _) 1 _) 2 _) 3 _
    rw [hw9] at other T
    have x9 := (other w.heap.size (by omega)).trans x8
    have y9 := (other (w.heap.size + 1) (by omega)).trans y8
    clear other x8 y8 z8
    go_wp2_with fail
    refine stepQ_normal ⟨trivial, ?_⟩
    clear hw9 v0 v1 v2 v3 f0 f1 f2 f3
    obtain ⟨v0, v1, v2, v3⟩ := cells4 x9
    obtain ⟨u0, u1⟩ := cells2 y9
    obtain ⟨t0, t1, t2, t3⟩ := cells4 z9
    go_wp2
    (try simp only [Exit.inBlock, Exit.then])
    refine bodyPost_ret (v := .tuple #[.agg #[.int .i64 a, .int .i64 b, .int .i64 r, .int .i64 d], .agg #[.slice ad n cp, .int .i64 pw], .agg #[.int .i64 k, .int .i64 x, .int .i64 y, .int .i64 z]]) ?_ rfl ⟨_, _, _, _, _, _, _, _, _, _, _, _, _, rfl, HL.out, hn8, ?_, (fun q hq => by have := HBK.out q hq; omega), HNC.out, ?_⟩
    · simp [results, Try.results40, go_sem, v0, v1, v2, v3, u0, u1, t0, t1, t2, t3]
    · exact T.out.2
    · exact T.out.1



set_option maxHeartbeats 4000000 in
set_option maxRecDepth 100000 in
theorem drawRankAfter_any {a0 : Option Addr} {len cap : Nat} {zs : List Int} {w : World} (hr : IsRow .u8 w a0 len cap zs) :
    Calls Try.prog 12 #[.slice a0 len cap] w (DrewAllow w) := by
  obtain ⟨w1, hw1⟩ : ∃ u, ((w.alloc (.cells #[.int .i64 0, .int .i64 0, .int .i64 0, .int .i64 0] 25)).alloc (.cells #[.slice none 0 0, .int .i64 0] 28)).alloc (.cells #[.int .i64 0, .int .i64 0, .int .i64 0, .int .i64 0] 30) = u := ⟨_, rfl⟩
  have HR : Hid (IsRow .u8 w1 a0 len cap zs) := by subst hw1; exact ((hr.alloc _).alloc _).alloc _
  have HB1 : Hid (Below w.heap.size w w1) := by subst hw1; exact (((Below.refl _ _).alloc (by simp) _).alloc (by simp) _).alloc (by simp; omega) _
  have x1 : w1.heap[w.heap.size]? = some (.cells #[.int .i64 0, .int .i64 0, .int .i64 0, .int .i64 0] 25) := by subst hw1; exact box3_0 _ _ _ _
  have y1 : w1.heap[w.heap.size + 1]? = some (.cells #[.slice none 0 0, .int .i64 0] 28) := by subst hw1; exact box3_1 _ _ _ _
  have z1 : w1.heap[w.heap.size + 1 + 1]? = some (.cells #[.int .i64 0, .int .i64 0, .int .i64 0, .int .i64 0] 30) := by subst hw1; exact box3_2 _ _ _ _
  have hn1 : w.heap.size + 1 + 1 < w1.heap.size := lt_of_block z1
  clear hr
  go_enter Try.func12, Try.ntmps12
  go_wp2_with fail
  refine (drawAllowed_any HR.out).mono ?_
  rintro e w3 ⟨a, b, r, d, ad, n, cp, l, pw, k, x, y, z, rfl, hl, hn8, hrow, hblk, hnc, hb3⟩
  have x3 := keep_block hb3 x1 (lt_of_block x1)
  have y3 := keep_block hb3 y1 (lt_of_block y1)
  have z3 := keep_block hb3 z1 (lt_of_block z1)
  have HB3 : Hid (Below w.heap.size w w3) := HB1.out.trans (hb3.mono HB1.out.size)
  have HBK : Hid (∀ q, ad = some q → w1.heap.size ≤ q.block) := hblk
  have HNC := Lib.hid hnc
  have HL := Lib.hid hl
  have T := Lib.hid (three_stored (B := 0) (a := a) (b := b) (r := r) (d := d) (n := n) (cp := cp) (pw := pw) (k := k) (x := x) (y := y) (z := z) HB3.out hrow (fun q hq => by have := HBK.out q hq; omega))
  clear hblk hnc hl hb3 x1 y1 z1 HB1 hw1 HR hrow
  obtain ⟨v0, v1, v2, v3⟩ := cells4 x3
  obtain ⟨u0, u1⟩ := cells2 y3
  obtain ⟨t0, t1, t2, t3⟩ := cells4 z3
  have f0 := thawed x3 0
  have f1 := thawed x3 1
  have f2 := thawed x3 2
  have f3 := thawed x3 3
  have f4 := thawed y3 0
  have f5 := thawed y3 1
  have f6 := thawed z3 0
  have f7 := thawed z3 1
  have f8 := thawed z3 2
  have f9 := thawed z3 3
  go_wp2_with fail
  (try simp only [Exit.inBlock, Exit.then])
  refine bodyPost_ret (v := .tuple #[.agg #[.int .i64 a, .int .i64 b, .int .i64 r, .int .i64 d], .agg #[.slice ad n cp, .int .i64 pw], .agg #[.int .i64 k, .int .i64 x, .int .i64 y, .int .i64 z]]) ?_ rfl ⟨_, _, _, _, _, _, _, _, _, _, _, _, _, rfl, HL.out, hn8, ?_, (fun q hq => by have := HBK.out q hq; omega), HNC.out, ?_⟩
  · simp [results, Try.results12, go_sem, v0, v1, v2, v3, u0, u1, t0, t1, t2, t3]
  · exact T.out.2
  · exact T.out.1



theorem eq_bank (o : Bool) (r : Int) (w : World) : (Go.binOp .neq 39 (.agg #[.bool o, .int .i64 r]) (.agg #[.bool o, .int .i64 r])).run Try.prog w = .ok (.bool false) w := by
  simp [go_sem]

set_option maxHeartbeats 2000000 in
theorem sameBanks_is {a b : Option Addr} {ca cb : Nat} {l : List Bk} {w : World} {n : Nat} (hn : l.length = n) (ha : RowB w a l) (hb : RowB w b l) (hl : (n : Int) ≤ 9223372036854775807) :
    Calls Try.prog 45 #[.slice a n ca, .slice b n cb] w (Gives (.bool true) w) := by
  have HN := Lib.hid hn
  have HA := Lib.hid ha
  have HB := Lib.hid hb
  clear hn ha hb
  go_enter Try.func45, Try.ntmps45
  go_wp2_with fail
  go_loopw [5] (fun i wr => ∃ k : Nat, k ≤ n ∧ i = .int .i64 k ∧ Below w.heap.size w wr) (fun i _ => n - (intOf i).toNat)
  case atStart => exact ⟨0, Nat.zero_le _, rfl, Below.refl _ _⟩
  case round =>
    obtain ⟨k, hk, rfl, hbr⟩ := hrel
    have HBR := Lib.hid hbr
    clear hbr
    by_cases hlt : k < n
    · obtain ⟨ba, oa, rfl, ha0, ha1⟩ := (HA.out.below HBR.out).at (k := k) (by rw [HN.out]; exact hlt)
      obtain ⟨bb, ob, rfl, hb0, hb1⟩ := (HB.out.below HBR.out).at (k := k) (by rw [HN.out]; exact hlt)
      generalize (l.getD k bk0).op = o at ha0 hb0
      generalize (l.getD k bk0).row = r at ha1 hb1
      have za0 := fun q : Later wr => q.cell ha0
      have za1 := fun q : Later wr => q.cell ha1
      have zb0 := fun q : Later wr => q.cell hb0
      have zb1 := fun q : Later wr => q.cell hb1
      have te := eq_bank o r
      clear ha0 ha1 hb0 hb1
      go_wp2_with fail
      refine wp_region_later (by kernel_rfl) (by kernel_rfl) ?_
      repeat (go_big_quiet_step (fail))
      refine wpQuiet_nil ?_
      rintro w2 ⟨zz, hz⟩
      have HB2 : Hid (Below w.heap.size w w2) := HBR.out.trans ((hz ▸ zz.ok : Below wr.heap.size wr w2).mono HBR.out.size)
      clear za0 za1 zb0 zb1 hz zz
      go_wp2
      go_roundw
      case rel => exact ⟨k + 1, by omega, by go_num, HB2.out⟩
      case measure => simp [intOf]; omega
    · go_wp2_with fail
      go_ret
      exact ⟨rfl, HBR.out⟩



theorem sameRank_is {a b : Option Addr} {ca cb : Nat} {l : List Bk} {w : World} {n : Nat} (pw : Int) (hn : l.length = n) (ha : RowB w a l) (hb : RowB w b l) (hl : (n : Int) ≤ 9223372036854775807) :
    Calls Try.prog 15 #[.agg #[.slice a n ca, .int .i64 pw], .agg #[.slice b n cb, .int .i64 pw]] w (Gives (.bool true) w) := by
  obtain ⟨w1, hw1⟩ : ∃ u, (w.alloc (.cells #[.slice a n ca, .int .i64 pw] 28)).alloc (.cells #[.slice b n cb, .int .i64 pw] 28) = u := ⟨_, rfl⟩
  have HB1 : Hid (Below w.heap.size w w1) := by subst hw1; exact ((Below.refl _ _).alloc (Nat.le_refl _) _).alloc (by simp) _
  have g1 : w1.heap[w.heap.size]? = some (.cells #[.slice a n ca, .int .i64 pw] 28) := by subst hw1; exact heap_alloc2_old _ _ _
  have p1 : w1.heap[w.heap.size + 1]? = some (.cells #[.slice b n cb, .int .i64 pw] 28) := by subst hw1; exact heap_alloc2_new _ _ _
  obtain ⟨c0, c1⟩ := cells2 g1
  obtain ⟨d0, d1⟩ := cells2 p1
  have HN := Lib.hid hn
  have HA := Lib.hid (ha.below HB1.out)
  have HC := Lib.hid (hb.below HB1.out)
  have t1 : (pw == pw) = true := by simp
  clear hn ha hb
  go_enter Try.func15, Try.ntmps15
  go_wp2_with fail
  refine (sameBanks_is HN.out HA.out HC.out hl).mono ?_
  rintro e w2 ⟨rfl, hb2⟩
  have HB2 : Hid (Below w.heap.size w w2) := HB1.out.trans (hb2.mono HB1.out.size)
  clear hb2
  go_wp2
  go_ret
  exact ⟨rfl, HB2.out⟩


end Go.Proofs.Ytigoniochamjgaa
