/-
  The draw of a batch: a geometry, a mapping, slots, a list of requests.
-/
import Derived.Test.YtdgaggcjimafbaaBatchW
namespace Go.Proofs.Ytdgaggcjimafbaa
open Go.RowKit

set_option linter.unusedVariables false

/-- A drawn batch. -/
def DrewBatch (w : World) (e : Ending) (w' : World) : Prop :=
  ∃ (a b r d o : Int) (h : Bool) (v : Value) (ls : List Int) (n : Int) (lv : Value) (rs : List Rq),
    e = .returned (.tuple #[.agg #[.int .i64 a, .int .i64 b, .int .i64 r, .int .i64 d], .agg #[.int .i64 o, .bool h], .agg #[v, .int .i64 n], lv]) ∧
    ((1 ≤ a ∧ a ≤ 2) ∧ (1 ≤ b ∧ b ≤ 4) ∧ (2 ≤ r ∧ r ≤ 8) ∧ (1 ≤ d ∧ d ≤ 4)) ∧ (0 ≤ o ∧ o ≤ 2) ∧
    OwnI w.heap.size v ls w' ∧ (1 ≤ ls.length ∧ ls.length ≤ 6) ∧ (∀ x ∈ ls, 0 ≤ x ∧ x ≤ 2) ∧ (20 ≤ n ∧ n ≤ 29) ∧
    OwnR w.heap.size lv rs w' ∧ rs.length ≤ 13 ∧ (∀ (k : Nat) (q : Rq), rs[k]? = some q → (1 + 3 * (k : Int) ≤ q.id ∧ q.id ≤ 3 + 3 * (k : Int)) ∧ (0 ≤ q.tn ∧ q.tn ≤ 2) ∧ (0 ≤ q.ln ∧ q.ln ≤ topOf (lineN a b r d)) ∧ (q.wr = false → q.dt = 0) ∧ (0 ≤ q.dt ∧ q.dt ≤ 4294967295) ∧ (0 ≤ q.tm ∧ q.tm ≤ 299)) ∧
    Below w.heap.size w w'

theorem ownR_set {B : Nat} {v : Value} {l : List Rq} {w : World} {p : Addr} (hp : p.block < B) (h : OwnR B v l w) (u : Value) : OwnR B v l (w.setCell p u) := by
  refine ⟨h.1, ?_⟩
  rcases h.2 with hv | ⟨b, cap, cur, hv, hB, hh, r⟩
  · exact .inl hv
  · exact .inr ⟨b, cap, cur, hv, hB, (Below.heap_setCell _ _ _ _ (by omega)).trans hh, r⟩

set_option maxHeartbeats 4000000 in
set_option maxRecDepth 100000 in
theorem drawBatch_any {a : Option Addr} {len cap : Nat} {zs : List Int} {w : World} (hr : IsRow .u8 w a len cap zs) :
    Calls Try.prog 10 #[.slice a len cap] w (DrewBatch w) := by
  obtain ⟨w1, hw1⟩ : ∃ u, ((w.alloc (.cells #[.int .i64 0, .int .i64 0, .int .i64 0, .int .i64 0] 25)).alloc (.cells #[.int .i64 0, .bool false] 27)).alloc (.cells #[.slice none 0 0, .int .i64 0] 30) = u := ⟨_, rfl⟩
  have HR := Lib.hid (((hr.alloc (.cells #[.int .i64 0, .int .i64 0, .int .i64 0, .int .i64 0] 25)).alloc (.cells #[.int .i64 0, .bool false] 27)).alloc (.cells #[.slice none 0 0, .int .i64 0] 30))
  rw [hw1] at HR
  have HB1 : Hid (Below w.heap.size w w1) := by subst hw1; exact (((Below.refl _ _).alloc (by simp) _).alloc (by simp) _).alloc (by simp; omega) _
  have hs1 : w1.heap.size = w.heap.size + 1 + 1 + 1 := by subst hw1; simp
  have x1 : w1.heap[w.heap.size]? = some (.cells #[.int .i64 0, .int .i64 0, .int .i64 0, .int .i64 0] 25) := by subst hw1; exact box3_0 _ _ _ _
  have y1 : w1.heap[w.heap.size + 1]? = some (.cells #[.int .i64 0, .bool false] 27) := by subst hw1; exact box3_1 _ _ _ _
  have z1 : w1.heap[w.heap.size + 1 + 1]? = some (.cells #[.slice none 0 0, .int .i64 0] 30) := by subst hw1; exact box3_2 _ _ _ _
  have hn1 : w.heap.size + 1 + 1 < w1.heap.size := by omega
  have HS1 := Lib.hid hs1
  clear hr hs1
  go_enter Try.func10, Try.ntmps10
  go_wp2_with fail
  refine (l01New_any HR.out).mono ?_
  rintro e w2 ⟨c, rfl, hBc, hc2, hb2⟩
  have x2 := keep_block hb2 x1 (lt_of_block x1)
  have y2 := keep_block hb2 y1 (lt_of_block y1)
  have z2 := keep_block hb2 z1 (lt_of_block z1)
  have HB2 : Hid (Below w.heap.size w w2) := HB1.out.trans (hb2.mono HB1.out.size)
  have HC2 := Lib.hid hc2
  have hcl := hc2.lt
  have hs2 := HB2.out.size
  clear hb2 hc2 HR x1 y1 z1 HB1 hw1
  go_wp2_with fail
  refine (l03Geo_any HC2.out).mono ?_
  rintro e w3 ⟨g1, g2, g3, g4, rfl, hgeo, hc3, ho3⟩
  have x3 := (ho3.block _ (lt_of_block x2) (by omega)).trans x2
  have y3 := (ho3.block _ (lt_of_block y2) (by omega)).trans y2
  have z3 := (ho3.block _ (lt_of_block z2) (by omega)).trans z2
  have HB3 : Hid (Below w.heap.size w w3) := HB2.out.trans (ho3.below (by omega) hs2)
  have HC3 := Lib.hid hc3
  have HG := Lib.hid hgeo
  have hcl3 := hc3.lt
  clear ho3 hc3 hgeo HC2 HB2 x2 y2 z2 hs2
  obtain ⟨w4, hw4⟩ : ∃ u, w3.alloc (.cells #[.int .i64 g1, .int .i64 g2, .int .i64 g3, .int .i64 g4] 25) = u := ⟨_, rfl⟩
  have hb4 : Below w3.heap.size w3 w4 := by subst hw4; exact (Below.refl _ _).alloc (Nat.le_refl _) _
  have g4' : w4.heap[w3.heap.size]? = some (.cells #[.int .i64 g1, .int .i64 g2, .int .i64 g3, .int .i64 g4] 25) := by subst hw4; exact heap_alloc_new _ _
  have HC4 : Hid (Cur c w1.heap.size w4) := by subst hw4; exact HC3.out.alloc _
  have x4 := keep_block hb4 x3 (lt_of_block x3)
  have y4 := keep_block hb4 y3 (lt_of_block y3)
  have z4 := keep_block hb4 z3 (lt_of_block z3)
  have HB4 : Hid (Below w.heap.size w w4) := HB3.out.trans (hb4.mono HB3.out.size)
  obtain ⟨gb, hgb⟩ : ∃ u, w3.heap.size = u := ⟨_, rfl⟩
  rw [hgb] at g4' hcl3
  have hgbn : w.heap.size + 1 + 1 < gb := by have := lt_of_block z3; omega
  clear hb4 HC3 HB3 x3 y3 z3
  go_wp2_with fail
  clear hw4 hgb
  refine (l23Slots_any HC4.out).mono ?_
  rintro e w5 ⟨v, ls, n0, rfl, own5, hll, hla, hn0, hc5, ho5⟩
  obtain ⟨aa, cc, rfl⟩ := own5.shape
  obtain ⟨ll, hlen⟩ : ∃ u, ls.length = u := ⟨_, rfl⟩
  rw [hlen] at hll own5
  have x5 := (ho5.block _ (lt_of_block x4) (by omega)).trans x4
  have y5 := (ho5.block _ (lt_of_block y4) (by omega)).trans y4
  have z5 := (ho5.block _ (lt_of_block z4) (by omega)).trans z4
  have g5 := (ho5.block _ (lt_of_block g4') (by omega)).trans g4'
  have hs4 := HB4.out.size
  have HB5 : Hid (Below w.heap.size w w5) := HB4.out.trans (ho5.below (by omega) hs4)
  have HC5 := Lib.hid hc5
  have hgl4 := lt_of_block g4'
  have HLA := Lib.hid hla
  have HLEN := Lib.hid hlen
  have HOWN5 := Lib.hid own5
  rw [hlen]
  clear ho5 hc5 HC4 HB4 x4 y4 z4 g4' hla hlen own5
  have hcl5 := HC5.out.lt
  obtain ⟨w6, hw6⟩ : ∃ u, w5.alloc (.cells #[.slice aa ll cc, .int .i64 n0] 30) = u := ⟨_, rfl⟩
  have hb6 : Below w5.heap.size w5 w6 := by subst hw6; exact (Below.refl _ _).alloc (Nat.le_refl _) _
  have s6 : w6.heap[w5.heap.size]? = some (.cells #[.slice aa ll cc, .int .i64 n0] 30) := by subst hw6; exact heap_alloc_new _ _
  have HC6 : Hid (Cur c w1.heap.size w6) := by subst hw6; exact HC5.out.alloc _
  have x6 := keep_block hb6 x5 (lt_of_block x5)
  have y6 := keep_block hb6 y5 (lt_of_block y5)
  have z6 := keep_block hb6 z5 (lt_of_block z5)
  have g6 := keep_block hb6 g5 (lt_of_block g5)
  have HB6 : Hid (Below w.heap.size w w6) := HB5.out.trans (hb6.mono HB5.out.size)
  have HOWN6 : Hid (OwnI w4.heap.size (.slice aa ll cc) ls w6) := HOWN5.out.below hb6
  have hgl5 := lt_of_block g5
  have hown5 : Hid (∀ j, Value.ownBlock (.slice aa ll cc) = some j → j < w5.heap.size) := fun j hj => (World.ownsRow.lt HOWN5.out j hj).2
  obtain ⟨sb, hsb⟩ : ∃ u, w5.heap.size = u := ⟨_, rfl⟩
  rw [hsb] at s6 hgl5 hcl5 hown5
  clear hb6 HC5 HB5 HOWN5 x5 y5 z5 g5
  go_wp2_with fail
  clear hw6 hsb
  refine (l01Below_any HC6.out 10 (by omega)).mono ?_
  rintro e w7 ⟨y, rfl, hy0, hy1, hc7, ho7⟩
  rw [topOf_pos (by omega)] at hy1
  have x7 := (ho7.block _ (lt_of_block x6) (by omega)).trans x6
  have y7 := (ho7.block _ (lt_of_block y6) (by omega)).trans y6
  have z7 := (ho7.block _ (lt_of_block z6) (by omega)).trans z6
  have g7 := (ho7.block _ (lt_of_block g6) (by omega)).trans g6
  have s7 := (ho7.block _ (lt_of_block s6) (by omega)).trans s6
  have hs6 := HB6.out.size
  have HB7 : Hid (Below w.heap.size w w7) := HB6.out.trans (ho7.below (by omega) hs6)
  have HC7 := Lib.hid hc7
  have HOWN7 : Hid (OwnI w4.heap.size (.slice aa ll cc) ls w7) := HOWN6.out.only ho7 (by omega)
  clear ho7 hc7 HC6 HB6 HOWN6 x6 y6 z6 g6 s6
  obtain ⟨n, hn⟩ : ∃ u, 20 + y = u := ⟨_, rfl⟩
  have e1 : IntKind.i64.wrap (20 + y) = n := by rw [hn]; exact IntWalk.i64_in _ ⟨by omega, by omega⟩
  have hnn : 20 ≤ n ∧ n ≤ 29 := by omega
  clear hn hy0 hy1
  obtain ⟨w8, hw8⟩ : ∃ u, w7.setCell ⟨sb, 1, none⟩ (.int .i64 n) = u := ⟨_, rfl⟩
  have s8 : w8.heap[sb]? = some (.cells #[.slice aa ll cc, .int .i64 n] 30) := by rw [← hw8]; exact set_cells s7 1 _
  have x8 : w8.heap[w.heap.size]? = some (.cells #[.int .i64 0, .int .i64 0, .int .i64 0, .int .i64 0] 25) := by rw [← hw8]; exact (Below.heap_setCell _ _ _ _ (by simp; omega)).trans x7
  have y8 : w8.heap[w.heap.size + 1]? = some (.cells #[.int .i64 0, .bool false] 27) := by rw [← hw8]; exact (Below.heap_setCell _ _ _ _ (by simp; omega)).trans y7
  have z8 : w8.heap[w.heap.size + 1 + 1]? = some (.cells #[.slice none 0 0, .int .i64 0] 30) := by rw [← hw8]; exact (Below.heap_setCell _ _ _ _ (by simp; omega)).trans z7
  have g8 : w8.heap[gb]? = some (.cells #[.int .i64 g1, .int .i64 g2, .int .i64 g3, .int .i64 g4] 25) := by rw [← hw8]; exact (Below.heap_setCell _ _ _ _ (by simp; omega)).trans g7
  have HC8 : Hid (Cur c w1.heap.size w8) := by show Cur _ _ _; rw [← hw8]; exact HC7.out.setNew (by simp; omega) (by simp; omega) _
  have HB8 : Hid (Below w.heap.size w w8) := by show Below _ _ _; rw [← hw8]; exact HB7.out.setCell (by simp; omega) _
  have HOWN8 : Hid (OwnI w4.heap.size (.slice aa ll cc) ls w8) := by
    show OwnI _ _ _ _
    rw [← hw8]
    refine World.ownsRow.kept HOWN7.out (row := some sb) ⟨rfl, rfl, rfl, by simp [World.setCell], fun j hj hne => Below.heap_setCell _ _ _ _ (by simp; exact fun e => hne (by rw [e]))⟩ (.inr fun h => ?_)
    have := hown5.out _ h
    omega
  have q7 := (cells2 s7).2
  have f7 := thawed s7 1
  clear HC7 HB7 HOWN7 x7 y7 z7 g7 s7
  go_wp2_with fail
  clear hw8 q7 f7
  refine wp_region_float (A := ?A) [.h, .h, .t, .h, .h, .h, .t, .t, .t, .t, .e, .e] (by kernel_rfl) (by kernel_rfl) (fun u => u.heap[gb]? = some (.cells #[.int .i64 g1, .int .i64 g2, .int .i64 g3, .int .i64 g4] 25) ∧ u.heap[sb]? = some (.cells #[.slice aa ll cc, .int .i64 n] 30)) ?hC ?hH ?hT
  case hC => exact ⟨g8, s8⟩
  case hH =>
    rintro u ⟨ug, us⟩
    obtain ⟨c0, c1, c2, c3⟩ := cells4 ug
    obtain ⟨d0, d1⟩ := cells2 us
    have z0 := fun q : Same u => q.cell c0
    have z1 := fun q : Same u => q.cell c1
    have z2 := fun q : Same u => q.cell c2
    have z3 := fun q : Same u => q.cell c3
    have z4 := fun q : Same u => q.cell d0
    have z5 := fun q : Same u => q.cell d1
    simp only [headsOf]
    repeat (go_big_quiet_step (fail))
    refine wpQuiet_nil ?_
    exact rfl
  case hT =>
    simp only [chainT]
    have HC9 : Hid (Cur c w1.heap.size w8.drew) := HC8.out
    have HB9 : Hid (Below w.heap.size w w8.drew) := HB8.out.drew
    have HOWN9 : Hid (OwnI w4.heap.size (.slice aa ll cc) ls w8.drew) := HOWN8.out
    have x9 : w8.drew.heap[w.heap.size]? = some (.cells #[.int .i64 0, .int .i64 0, .int .i64 0, .int .i64 0] 25) := x8
    have y9 : w8.drew.heap[w.heap.size + 1]? = some (.cells #[.int .i64 0, .bool false] 27) := y8
    have z9 : w8.drew.heap[w.heap.size + 1 + 1]? = some (.cells #[.slice none 0 0, .int .i64 0] 30) := z8
    have g9 : w8.drew.heap[gb]? = some (.cells #[.int .i64 g1, .int .i64 g2, .int .i64 g3, .int .i64 g4] 25) := g8
    have s9 : w8.drew.heap[sb]? = some (.cells #[.slice aa ll cc, .int .i64 n] 30) := s8
    clear HC8 HB8 HOWN8 x8 y8 z8 g8 s8
    go_wp2_with fail
    refine (l04Map_any HC9.out).mono ?_
    rintro e w10 ⟨o, h, rfl, ho, hc10, ho10⟩
    have x10 := (ho10.block _ (lt_of_block x9) (by omega)).trans x9
    have y10 := (ho10.block _ (lt_of_block y9) (by omega)).trans y9
    have z10 := (ho10.block _ (lt_of_block z9) (by omega)).trans z9
    have g10 := (ho10.block _ (lt_of_block g9) (by omega)).trans g9
    have s10 := (ho10.block _ (lt_of_block s9) (by omega)).trans s9
    have hs9 := HB9.out.size
    have HB10 : Hid (Below w.heap.size w w10) := HB9.out.trans (ho10.below (by omega) hs9)
    have HC10 := Lib.hid hc10
    have HOWN10 : Hid (OwnI w4.heap.size (.slice aa ll cc) ls w10) := HOWN9.out.only ho10 (by omega)
    clear ho10 hc10 HC9 HB9 HOWN9 x9 y9 z9 g9 s9
    go_wp2_with fail
    refine stepQ_normal ⟨⟨g10, s10⟩, ?_⟩
    obtain ⟨L, hL⟩ : ∃ u, lineN g1 g2 g3 g4 = u := ⟨_, rfl⟩
    have hLr := lineN_range g1 g2 g3 g4
    have HLN := Lib.hid hL
    rw [hL] at hLr
    clear hL
    go_wp2_with fail
    refine (specLine_is _ _ _ _ _ HLN.out _).mono ?_
    rintro e w11 ⟨rfl, hb11⟩
    have x11 := keep_block hb11 x10 (lt_of_block x10)
    have y11 := keep_block hb11 y10 (lt_of_block y10)
    have z11 := keep_block hb11 z10 (lt_of_block z10)
    have g11 := keep_block hb11 g10 (lt_of_block g10)
    have s11 := keep_block hb11 s10 (lt_of_block s10)
    have HB11 : Hid (Below w.heap.size w w11) := HB10.out.trans (hb11.mono HB10.out.size)
    have HC11 : Hid (Cur c w1.heap.size w11) := HC10.out.keep (hb11.block _ HC10.out.lt) (hb11.mono (by have := HC10.out.lt; omega))
    have HOWN11 : Hid (OwnI w4.heap.size (.slice aa ll cc) ls w11) := HOWN10.out.below hb11
    clear hb11 HC10 HB10 HOWN10 x10 y10 z10 g10 s10
    go_wp2_with fail
    refine stepQ_normal ⟨⟨g11, s11⟩, ?_⟩
    go_wp2_with fail
    refine (l23List_any HC11.out L (by omega)).mono ?_
    rintro e w12 ⟨lv, rs, rfl, own12, hrl, hra, hc12, ho12⟩
    have x12 := (ho12.block _ (lt_of_block x11) (by omega)).trans x11
    have y12 := (ho12.block _ (lt_of_block y11) (by omega)).trans y11
    have z12 := (ho12.block _ (lt_of_block z11) (by omega)).trans z11
    have g12 := (ho12.block _ (lt_of_block g11) (by omega)).trans g11
    have s12 := (ho12.block _ (lt_of_block s11) (by omega)).trans s11
    have hs11 := HB11.out.size
    have HB12 : Hid (Below w.heap.size w w12) := HB11.out.trans (ho12.below (by omega) hs11)
    have HOWN12 : Hid (OwnI w4.heap.size (.slice aa ll cc) ls w12) := HOWN11.out.only ho12 (by omega)
    have HRS : Hid (OwnR w11.heap.size lv rs w12) := own12
    have HRA := Lib.hid hra
    have hw11 := lt_of_block z11
    clear ho12 hc12 HC11 HB11 HOWN11 x11 y11 z11 g11 s11 own12 hra
    go_wp2_with fail
    refine stepQ_normal ⟨⟨g12, s12⟩, ?_⟩
    have hwx := lt_of_block x12
    have hwy := lt_of_block y12
    have hwz := lt_of_block z12
    obtain ⟨x0, x1, x2, x3⟩ := cells4 x12
    have fx0 := thawed x12 0
    have fx1 := thawed x12 1
    have fx2 := thawed x12 2
    have fx3 := thawed x12 3
    obtain ⟨w13, hw13⟩ : ∃ u, (((w12.setCell ⟨w.heap.size, 0, none⟩ (.int .i64 g1)).setCell ⟨w.heap.size, 1, none⟩ (.int .i64 g2)).setCell ⟨w.heap.size, 2, none⟩ (.int .i64 g3)).setCell ⟨w.heap.size, 3, none⟩ (.int .i64 g4) = u := ⟨_, rfl⟩
    have other13 : ∀ k, k ≠ w.heap.size → w13.heap[k]? = w12.heap[k]? := fun k hk => by
      rw [← hw13]
      exact (((Below.heap_setCell _ _ _ _ hk).trans (Below.heap_setCell _ _ _ _ hk)).trans (Below.heap_setCell _ _ _ _ hk)).trans (Below.heap_setCell _ _ _ _ hk)
    have x13 : w13.heap[w.heap.size]? = some (.cells #[.int .i64 g1, .int .i64 g2, .int .i64 g3, .int .i64 g4] 25) := by rw [← hw13]; exact set_cells (set_cells (set_cells (set_cells x12 0 _) 1 _) 2 _) 3 _
    have y13 := (other13 _ (by omega)).trans y12
    have z13 := (other13 _ (by omega)).trans z12
    have g13 := (other13 _ (by omega)).trans g12
    have s13 := (other13 _ (by omega)).trans s12
    have hz13 : w13.heap.size = w12.heap.size := by rw [← hw13]; simp [World.setCell]
    have HB13 : Hid (Below w.heap.size w w13) := by
      show Below _ _ _
      rw [← hw13]
      exact (((HB12.out.setCell (Nat.le_refl _) _).setCell (Nat.le_refl _) _).setCell (Nat.le_refl _) _).setCell (Nat.le_refl _) _
    have hn4 : w.heap.size + 1 + 1 < w4.heap.size := by omega
    have HOWN13 : Hid (OwnI w4.heap.size (.slice aa ll cc) ls w13) := by
      show OwnI _ _ _ _
      rw [← hw13]
      exact ownI_set (by simp; omega) (ownI_set (by simp; omega) (ownI_set (by simp; omega) (ownI_set (by simp; omega) HOWN12.out _) _) _) _
    have HRS13 : Hid (OwnR w11.heap.size lv rs w13) := by
      show OwnR _ _ _ _
      rw [← hw13]
      exact ownR_set (by simp; omega) (ownR_set (by simp; omega) (ownR_set (by simp; omega) (ownR_set (by simp; omega) HRS.out _) _) _) _
    clear other13 y12 z12 g12 s12 HB12 HOWN12 HRS x12
    go_wp2_with fail
    refine stepQ_normal ⟨⟨g13, s13⟩, ?_⟩
    clear hw13 x0 x1 x2 x3 fx0 fx1 fx2 fx3
    obtain ⟨y0, y1⟩ := cells2 y13
    have fy0 := thawed y13 0
    have fy1 := thawed y13 1
    obtain ⟨w14, hw14⟩ : ∃ u, (w13.setCell ⟨w.heap.size + 1, 0, none⟩ (.int .i64 o)).setCell ⟨w.heap.size + 1, 1, none⟩ (.bool h) = u := ⟨_, rfl⟩
    have other14 : ∀ k, k ≠ w.heap.size + 1 → w14.heap[k]? = w13.heap[k]? := fun k hk => by
      rw [← hw14]
      exact (Below.heap_setCell _ _ _ _ hk).trans (Below.heap_setCell _ _ _ _ hk)
    have y14 : w14.heap[w.heap.size + 1]? = some (.cells #[.int .i64 o, .bool h] 27) := by rw [← hw14]; exact set_cells (set_cells y13 0 _) 1 _
    have x14 := (other14 _ (by omega)).trans x13
    have z14 := (other14 _ (by omega)).trans z13
    have g14 := (other14 _ (by omega)).trans g13
    have s14 := (other14 _ (by omega)).trans s13
    have HB14 : Hid (Below w.heap.size w w14) := by
      show Below _ _ _
      rw [← hw14]
      exact (HB13.out.setCell (by simp) _).setCell (by simp) _
    have HOWN14 : Hid (OwnI w4.heap.size (.slice aa ll cc) ls w14) := by
      show OwnI _ _ _ _
      rw [← hw14]
      exact ownI_set (by simp; omega) (ownI_set (by simp; omega) HOWN13.out _) _
    have HRS14 : Hid (OwnR w11.heap.size lv rs w14) := by
      show OwnR _ _ _ _
      rw [← hw14]
      exact ownR_set (by simp; omega) (ownR_set (by simp; omega) HRS13.out _) _
    clear other14 x13 y13 z13 g13 s13 HB13 HOWN13 HRS13
    go_wp2_with fail
    refine stepQ_normal ⟨⟨g14, s14⟩, ?_⟩
    clear hw14 y0 y1 fy0 fy1
    obtain ⟨z0, z1⟩ := cells2 z14
    have fz0 := thawed z14 0
    have fz1 := thawed z14 1
    obtain ⟨w15, hw15⟩ : ∃ u, (w14.setCell ⟨w.heap.size + 1 + 1, 0, none⟩ (.slice aa ll cc)).setCell ⟨w.heap.size + 1 + 1, 1, none⟩ (.int .i64 n) = u := ⟨_, rfl⟩
    have other15 : ∀ k, k ≠ w.heap.size + 1 + 1 → w15.heap[k]? = w14.heap[k]? := fun k hk => by
      rw [← hw15]
      exact (Below.heap_setCell _ _ _ _ hk).trans (Below.heap_setCell _ _ _ _ hk)
    have z15 : w15.heap[w.heap.size + 1 + 1]? = some (.cells #[.slice aa ll cc, .int .i64 n] 30) := by rw [← hw15]; exact set_cells (set_cells z14 0 _) 1 _
    have x15 := (other15 _ (by omega)).trans x14
    have y15 := (other15 _ (by omega)).trans y14
    have HB15 : Hid (Below w.heap.size w w15) := by
      show Below _ _ _
      rw [← hw15]
      exact (HB14.out.setCell (by simp; omega) _).setCell (by simp; omega) _
    have HOWN15 : Hid (OwnI w4.heap.size (.slice aa ll cc) ls w15) := by
      show OwnI _ _ _ _
      rw [← hw15]
      exact ownI_set (by simp; omega) (ownI_set (by simp; omega) HOWN14.out _) _
    have HRS15 : Hid (OwnR w11.heap.size lv rs w15) := by
      show OwnR _ _ _ _
      rw [← hw15]
      exact ownR_set (by simp; omega) (ownR_set (by simp; omega) HRS14.out _) _
    clear other15 x14 y14 z14 g14 s14 HB14 HOWN14 HRS14
    go_wp2_with fail
    refine stepQ_normal ⟨trivial, ?_⟩
    clear hw15 z0 z1 fz0 fz1
    go_wp2_with fail
    refine stepQ_normal ⟨trivial, ?_⟩
    obtain ⟨x0, x1, x2, x3⟩ := cells4 x15
    obtain ⟨y0, y1⟩ := cells2 y15
    obtain ⟨z0, z1⟩ := cells2 z15
    go_wp2
    (try simp only [Exit.inBlock, Exit.then])
    refine bodyPost_ret (v := .tuple #[.agg #[.int .i64 g1, .int .i64 g2, .int .i64 g3, .int .i64 g4], .agg #[.int .i64 o, .bool h], .agg #[.slice aa ll cc, .int .i64 n], lv]) ?_ rfl ⟨g1, g2, g3, g4, o, h, _, ls, n, lv, rs, rfl, HG.out, ho, HOWN15.out.mono (by omega), by rw [HLEN.out]; exact hll, HLA.out, hnn, HRS15.out.mono (by omega), hrl, by rw [HLN.out]; exact HRA.out, HB15.out⟩
    simp [results, Try.results10, go_sem, x0, x1, x2, x3, y0, y1, z0, z1]

end Go.Proofs.Ytdgaggcjimafbaa
