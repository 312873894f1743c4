/-
  The draw of a geometry and a rank that may not be valid.
-/
import Derived.Test.YtigoniochamjgaaBnkD
import Derived.Test.YtigoniochamjgaaFlowS
namespace Go.Proofs.Ytigoniochamjgaa
open Go.RowKit

set_option linter.unusedVariables false


/-- A drawn geometry and rank, valid or not. -/
def DrewAnyR (c B : Nat) (w : World) (e : Ending) (w' : World) : Prop :=
  ∃ (a b r d : Int) (ad : Option Addr) (n cap : Nat) (l : List Bk) (pw : Int), e = .returned (.tuple #[.agg #[.int .i64 a, .int .i64 b, .int .i64 r, .int .i64 d], .agg #[.slice ad n cap, .int .i64 pw]]) ∧ l.length = n ∧ n ≤ 8 ∧ RowB w' ad l ∧ (∀ x, ad = some x → w.heap.size ≤ x.block) ∧ (ad = none → cap = 0) ∧ Cur c B w' ∧ Only c w w'

theorem bank_pos {a b r d : Int} (hg : GeoOk a b r d) : 1 ≤ bankN a b r d := by
  unfold bankN
  rw [if_pos hg]
  obtain ⟨⟨h1, h2⟩, ⟨h3, h4⟩, _⟩ := hg
  have : a = 1 ∨ a = 2 := by omega
  rcases this with rfl | rfl <;> omega

/-- An own row behind its first element. -/
theorem ownK_tailRow {B n c rb : Nat} {l : List Bk} {w : World} (h : OwnK B (.slice (some ⟨rb, 0, none⟩) n c) l w) : RowB w (some ⟨rb, 2, none⟩) l.tail := by
  refine .inr ⟨rb, 2, rfl, fun i hi => ?_⟩
  rw [List.length_tail] at hi
  obtain ⟨g, hg, h1, h2, _⟩ := h.at (k := i + 1) (by omega)
  cases hg
  rw [show 2 + i * 2 = (i + 1) * 2 by omega, List.getD_eq_getElem?_getD, List.getElem?_tail]
  rw [List.getD_eq_getElem?_getD] at h1 h2
  exact ⟨h1, h2⟩

/-- The world while an element is drawn and stored: the cursor, what turned, the blocks that stay, the row. -/
structure DK (c B rb base : Nat) (KB : List (Nat × Obj)) (w0 u : World) (n cc : Nat) : Prop where
  cur : Cur c B u
  only : Only c w0 u
  kept : ∀ p ∈ KB, u.heap[p.1]? = some p.2
  row : ∃ l : List Bk, l.length = n ∧ OwnK base (.slice (some ⟨rb, 0, none⟩) n cc) l u

theorem DK.draw {c B rb base : Nat} {KB : List (Nat × Obj)} {w0 u u' : World} {n cc : Nat} (h : DK c B rb base KB w0 u n cc) (hcb : c < base) (hK : ∀ p ∈ KB, p.1 ≠ c) (hc : Cur c B u') (ho : Only c u u') : DK c B rb base KB w0 u' n cc := by
  obtain ⟨l, h1, h3⟩ := h.row
  exact ⟨hc, h.only.trans ho, fun p hp => (ho.block _ (lt_of_block (h.kept p hp)) (hK p hp)).trans (h.kept p hp), l, h1, h3.only ho hcb⟩

theorem DK.alloc {c B rb base : Nat} {KB : List (Nat × Obj)} {w0 u : World} {n cc : Nat} (h : DK c B rb base KB w0 u n cc) (o : Obj) : DK c B rb base KB w0 (u.alloc o) n cc := by
  obtain ⟨l, h1, h3⟩ := h.row
  exact ⟨h.cur.alloc o, h.only.alloc o, fun p hp => (Below.heap_alloc _ _ _ (lt_of_block (h.kept p hp))).trans (h.kept p hp), l, h1, World.ownsRow.alloc h3 o⟩

theorem DK.store {c B rb base : Nat} {KB : List (Nat × Obj)} {w0 u : World} {n cc : Nat} (h : DK c B rb base KB w0 u n cc) (hBb : B ≤ rb) (hrc : rb ≠ c) (hr0 : w0.heap.size ≤ rb) (hK : ∀ p ∈ KB, p.1 ≠ rb) (J : Nat) (y : Int) :
    DK c B rb base KB w0 (u.setCell ⟨rb, J * 2 + 1, none⟩ (.int .i64 y)) n cc := by
  obtain ⟨l, h1, h3⟩ := h.row
  exact ⟨h.cur.setNew hBb hrc _, h.only.setNew hr0 _, fun p hp => (Below.heap_setCell _ _ _ _ (hK p hp)).trans (h.kept p hp), _, by rw [List.length_set]; exact h1, h3.stored1 h1 J y⟩

theorem DK.drew {c B rb base : Nat} {KB : List (Nat × Obj)} {w0 u : World} {n cc : Nat} (h : DK c B rb base KB w0 u n cc) : DK c B rb base KB w0 u.drew n cc :=
  ⟨h.cur, h.only.drew, h.kept, h.row⟩

def pkR0 : List Int := [-1, 3, 2, 1]

def pkR1 : List Int := [-1, 1, 16]

set_option maxHeartbeats 8000000 in
set_option maxRecDepth 100000 in
theorem l08Any_any {c B : Nat} {w : World} (hc : Cur c B w) :
    Calls Try.prog 64 #[.pointer (some ⟨c, 0, none⟩)] w (DrewAnyR c B w) := by
  have hcl := hc.lt
  have hBc : B ≤ c := by obtain ⟨_, _, _, _, _, _, _, h, _⟩ := hc; exact h
  obtain ⟨w1, hw1⟩ : ∃ u, (w.alloc (.cells #[.int .i64 0, .int .i64 0, .int .i64 0, .int .i64 0] 25)).alloc (.cells #[.slice none 0 0, .int .i64 0] 28) = u := ⟨_, rfl⟩
  have x1 : w1.heap[w.heap.size]? = some (.cells #[.int .i64 0, .int .i64 0, .int .i64 0, .int .i64 0] 25) := by subst hw1; exact heap_alloc2_old _ _ _
  have y1 : w1.heap[w.heap.size + 1]? = some (.cells #[.slice none 0 0, .int .i64 0] 28) := by subst hw1; exact heap_alloc2_new _ _ _
  have HC1 : Hid (Cur c B w1) := by subst hw1; exact (hc.alloc _).alloc _
  have HO1 : Hid (Only c w w1) := by subst hw1; exact ((Only.refl c w).alloc _).alloc _
  clear hc
  go_enter Try.func64, Try.ntmps64
  go_wp2_with fail
  refine (l03Geo_any HC1.out).mono ?_
  rintro e w2 ⟨a, b, r, d, rfl, hgeo, hc2, ho2⟩
  have hg : GeoOk a b r d := ⟨hgeo.1, hgeo.2.1, ⟨by omega, by omega⟩, ⟨by omega, by omega⟩⟩
  have HGE := Lib.hid hg
  obtain ⟨n, hn⟩ := Int.eq_ofNat_of_zero_le (bankN_range a b r d).1
  have hn1 : 1 ≤ n := by have := bank_pos hg; omega
  have hn8 : n ≤ 8 := by have := (bankN_range a b r d).2; omega
  have HBN : Hid (bankN a b r d = (n : Int)) := hn
  have x2 := (ho2.block _ (lt_of_block x1) (by omega)).trans x1
  have y2 := (ho2.block _ (lt_of_block y1) (by omega)).trans y1
  have hy2 := lt_of_block y2
  obtain ⟨w3, hw3⟩ : ∃ u, w2.alloc (.cells #[.int .i64 a, .int .i64 b, .int .i64 r, .int .i64 d] 25) = u := ⟨_, rfl⟩
  have hb3 : Below w2.heap.size w2 w3 := by rw [← hw3]; exact (Below.refl _ _).alloc (Nat.le_refl _) _
  have g3 : w3.heap[w2.heap.size]? = some (.cells #[.int .i64 a, .int .i64 b, .int .i64 r, .int .i64 d] 25) := by subst hw3; exact heap_alloc_new _ _
  have x3 := keep_block hb3 x2 (lt_of_block x2)
  have y3 := keep_block hb3 y2 (lt_of_block y2)
  have HC3 : Hid (Cur c B w3) := by subst hw3; exact hc2.alloc _
  have HO3 : Hid (Only c w w3) := by subst hw3; exact (HO1.out.trans ho2).alloc _
  have hs3 : w3.heap.size = w2.heap.size + 1 := by subst hw3; simp
  obtain ⟨gk, hgk⟩ : ∃ u, w2.heap.size = u := ⟨_, rfl⟩
  rw [hgk] at g3 hs3 hy2
  have hgw : w.heap.size + 1 < gk := hy2
  obtain ⟨cg0, cg1, cg2, cg3⟩ := cells4 g3
  clear hb3 hc2 ho2 x1 y1 x2 y2 HC1 HO1 hw1 hgeo hg hn hy2
  go_wp2_with fail
  clear hw3
  (try simp only [hgk])
  refine (l08Rank_any HC3.out a b r d n HBN.out HGE.out).mono ?_
  rintro e w4 ⟨aa, cc, l, pw, rfl, hl, own4, hc4, ho4⟩
  have x4 := (ho4.block _ (lt_of_block x3) (by omega)).trans x3
  have y4 := (ho4.block _ (lt_of_block y3) (by omega)).trans y3
  have g4 := (ho4.block _ (lt_of_block g3) (by omega)).trans g3
  obtain ⟨rb, rfl, _⟩ := own4.at (k := 0) (by omega)
  obtain ⟨hrb1, hrb2⟩ := own4.lo _ rfl
  have hncc : n ≤ cc := by
    rcases own4.2 with ⟨hv, _⟩ | ⟨g, cap, cur, hv, _, _, h1, _⟩
    · cases hv
    · cases hv; omega
  obtain ⟨w5, hw5⟩ : ∃ u, w4.alloc (.cells #[.slice (some ⟨rb, 0, none⟩) n cc, .int .i64 pw] 28) = u := ⟨_, rfl⟩
  have hb5 : Below w4.heap.size w4 w5 := by rw [← hw5]; exact (Below.refl _ _).alloc (Nat.le_refl _) _
  have p5 : w5.heap[w4.heap.size]? = some (.cells #[.slice (some ⟨rb, 0, none⟩) n cc, .int .i64 pw] 28) := by rw [← hw5]; exact heap_alloc_new _ _
  have x5 := keep_block hb5 x4 (lt_of_block x4)
  have y5 := keep_block hb5 y4 (lt_of_block y4)
  have g5 := keep_block hb5 g4 (lt_of_block g4)
  have HC5 : Hid (Cur c B w5) := by rw [← hw5]; exact hc4.alloc _
  have HO5 : Hid (Only c w w5) := by rw [← hw5]; exact (HO3.out.trans ho4).alloc _
  have HW5 := Lib.hid (own4.below hb5)
  have hs45 := ho4.size
  obtain ⟨pb, hpb⟩ : ∃ u, w4.heap.size = u := ⟨_, rfl⟩
  obtain ⟨bs, hbs⟩ : ∃ u, w3.heap.size = u := ⟨_, rfl⟩
  rw [hpb] at p5 hrb2 hs45
  rw [hbs] at HW5 hrb1 hs45 hs3
  simp only at hrb1 hrb2
  have HLN := Lib.hid hl
  clear hb5 own4 hc4 ho4 x3 y3 g3 x4 y4 g4 HC3 HO3 cg0 cg1 cg2 cg3 hl hgk
  go_wp2_with fail
  clear hw5
  (try simp only [hpb])
  refine (l01Below_any HC5.out 12 (by omega)).mono ?_
  rintro e w6 ⟨q, rfl, hq0, hq1, hc6, ho6⟩
  have xX := (ho6.block _ (lt_of_block x5) (by omega)).trans x5
  have yX := (ho6.block _ (lt_of_block y5) (by omega)).trans y5
  have gX := (ho6.block _ (lt_of_block g5) (by omega)).trans g5
  have pX := (ho6.block _ (lt_of_block p5) (by omega)).trans p5
  have HWX := Lib.hid (HW5.out.only ho6 (by omega))
  have HCX := Lib.hid hc6
  have HOX := Lib.hid (HO5.out.trans ho6)
  clear hc6 ho6 x5 y5 g5 p5 HC5 HO5 HW5 hpb hbs
  have cases : q = 0 ∨ q = 1 ∨ q = 2 ∨ q = 3 ∨ 4 ≤ q := by omega
  rcases cases with rfl | rfl | rfl | rfl | hq
  · have hcl6 := HCX.out.lt
    have hpl6 := lt_of_block pX
    go_wp2_with fail
    refine (l01PickInt_any (fun _ => True) (HCX.out.alloc _) w6.heap.size 4 pkR0 (ints_new _ _ _ _ rfl) (by omega) (by decide) (by decide) (fun _ _ => trivial)).mono ?_
    rintro e w7 ⟨m, rfl, _, hc7, ho7⟩
    have hs7 : w6.heap.size < w7.heap.size := by have := ho7.size; simp at this; omega
    have hb67 := fun k (hk : k < w6.heap.size) (hkc : k ≠ c) => (ho7.block k (by simp; omega) hkc).trans (Below.heap_alloc w6 _ k hk)
    have x7 := (hb67 _ (lt_of_block xX) (by omega)).trans xX
    have y7 := (hb67 _ (lt_of_block yX) (by omega)).trans yX
    have g7 := (hb67 _ (lt_of_block gX) (by omega)).trans gX
    have p7 := (hb67 _ (lt_of_block pX) (by omega)).trans pX
    have HW7 : Hid (OwnK bs (.slice (some ⟨rb, 0, none⟩) n cc) l w7) := OwnK.only (World.ownsRow.alloc HWX.out _) ho7 (by omega)
    have HC7 := Lib.hid hc7
    have HO7 : Hid (Only c w w7) := (HOX.out.alloc _).trans ho7
    clear hc7 ho7 hb67 xX yX gX pX HCX HOX HWX
    obtain ⟨cp, cq⟩ := cells2 p7
    have fp := thawed p7 1
    obtain ⟨wz, hwz⟩ : ∃ u, w7.setCell ⟨pb, 1, none⟩ (.int .i64 m) = u := ⟨_, rfl⟩
    have pX : wz.heap[pb]? = some (.cells #[.slice (some ⟨rb, 0, none⟩) n cc, .int .i64 m] 28) := by rw [← hwz]; exact set_cells p7 1 _
    have xX : wz.heap[w.heap.size]? = some (.cells #[.int .i64 0, .int .i64 0, .int .i64 0, .int .i64 0] 25) := by rw [← hwz]; exact (Below.heap_setCell _ _ _ _ (by simp; omega)).trans x7
    have yX : wz.heap[w.heap.size + 1]? = some (.cells #[.slice none 0 0, .int .i64 0] 28) := by rw [← hwz]; exact (Below.heap_setCell _ _ _ _ (by simp; omega)).trans y7
    have gX : wz.heap[gk]? = some (.cells #[.int .i64 a, .int .i64 b, .int .i64 r, .int .i64 d] 25) := by rw [← hwz]; exact (Below.heap_setCell _ _ _ _ (by simp; omega)).trans g7
    have HCX : Hid (Cur c B wz) := by show Cur c B wz; rw [← hwz]; exact HC7.out.setNew (by simp; omega) (by simp; omega) _
    have HOX : Hid (Only c w wz) := by show Only c w wz; rw [← hwz]; exact HO7.out.setNew (by simp; omega) _
    obtain ⟨lx, hlx⟩ : ∃ lx, lx = l := ⟨_, rfl⟩
    have HWX : Hid (OwnK bs (.slice (some ⟨rb, 0, none⟩) n cc) lx wz) := by
      show OwnK _ _ _ wz
      rw [← hwz, hlx]
      exact HW7.out.setCell (fun x hx => by cases hx; simp; omega) _
    have HTL : Hid (lx.length = n) := by show _ = _; rw [hlx]; exact HLN.out
    clear x7 y7 g7 p7 HC7 HO7 HW7 hlx
    go_wp2_with fail
    clear hwz cp cq fp
    refine wp_region_float (A := ?A1) [.h, .h, .t, .e] (by kernel_rfl) (by kernel_rfl) (fun u => u.heap[gk]? = some (.cells #[.int .i64 a, .int .i64 b, .int .i64 r, .int .i64 d] 25) ∧ u.heap[pb]? = some (.cells #[.slice (some ⟨rb, 0, none⟩) n cc, .int .i64 m] 28)) ?hC1 ?hH1 ?hT1
    case hC1 => exact ⟨gX, pX⟩
    case hH1 =>
      intro u hu
      obtain ⟨b0, b1, b2, b3⟩ := cells4 hu.1
      obtain ⟨b4, b5⟩ := cells2 hu.2
      have s0 := fun q : Same u => q.cell b0
      have s1 := fun q : Same u => q.cell b1
      have s2 := fun q : Same u => q.cell b2
      have s3 := fun q : Same u => q.cell b3
      have s4 := fun q : Same u => q.cell b4
      have s5 := fun q : Same u => q.cell b5
      simp only [headsOf]
      repeat (go_big_quiet_step (fail))
      refine wpQuiet_nil ?_
      exact rfl
    case hT1 =>
      simp only [chainT]
      have xd : wz.drew.heap[w.heap.size]? = some (.cells #[.int .i64 0, .int .i64 0, .int .i64 0, .int .i64 0] 25) := xX
      have yd : wz.drew.heap[w.heap.size + 1]? = some (.cells #[.slice none 0 0, .int .i64 0] 28) := yX
      have gd : wz.drew.heap[gk]? = some (.cells #[.int .i64 a, .int .i64 b, .int .i64 r, .int .i64 d] 25) := gX
      have pd : wz.drew.heap[pb]? = some (.cells #[.slice (some ⟨rb, 0, none⟩) n cc, .int .i64 m] 28) := pX
      have HCd : Hid (Cur c B wz.drew) := HCX.out
      have HOd : Hid (Only c w wz.drew) := HOX.out.drewN 1
      have HWd : Hid (OwnK bs (.slice (some ⟨rb, 0, none⟩) n cc) lx wz.drew) := HWX.out
      clear xX yX gX pX HCX HOX HWX
      generalize wz.drew = wd at xd yd gd pd HCd HOd HWd ⊢
      obtain ⟨x0, x1, x2, x3⟩ := cells4 xd
      have f0 := thawed xd 0
      have f1 := thawed xd 1
      have f2 := thawed xd 2
      have f3 := thawed xd 3
      obtain ⟨w8, hw8⟩ : ∃ u, (((wd.setCell ⟨w.heap.size, 0, none⟩ (.int .i64 a)).setCell ⟨w.heap.size, 1, none⟩ (.int .i64 b)).setCell ⟨w.heap.size, 2, none⟩ (.int .i64 r)).setCell ⟨w.heap.size, 3, none⟩ (.int .i64 d) = u := ⟨_, rfl⟩
      have x8 : w8.heap[w.heap.size]? = some (.cells #[.int .i64 a, .int .i64 b, .int .i64 r, .int .i64 d] 25) := by rw [← hw8]; exact set_cells (set_cells (set_cells (set_cells xd 0 _) 1 _) 2 _) 3 _
      have other8 : ∀ k, k ≠ w.heap.size → w8.heap[k]? = wd.heap[k]? := fun k hk => by
        rw [← hw8]
        exact (Below.heap_setCell _ _ _ _ hk).trans ((Below.heap_setCell _ _ _ _ hk).trans ((Below.heap_setCell _ _ _ _ hk).trans (Below.heap_setCell _ _ _ _ hk)))
      have y8 := (other8 (w.heap.size + 1) (by omega)).trans yd
      have g8 := (other8 gk (by omega)).trans gd
      have p8 := (other8 pb (by omega)).trans pd
      have HC8 : Hid (Cur c B w8) := by
        show Cur c B w8
        rw [← hw8]
        have h0 := HCd.out
        repeat' (first | exact h0 | refine Cur.setNew ?_ (by simp; omega) (by simp; omega) _)
      have HO8 : Hid (Only c w w8) := by
        show Only c w w8
        rw [← hw8]
        have h0 := HOd.out
        repeat' (first | exact h0 | refine Only.setNew ?_ (by simp) _)
      have HW8 : Hid (OwnK bs (.slice (some ⟨rb, 0, none⟩) n cc) lx w8) := by
        show OwnK _ _ _ w8
        rw [← hw8]
        have h0 := HWd.out
        repeat' (first | exact h0 | refine OwnK.setCell ?_ (fun x hx => by cases hx; simp; omega) _)
      clear other8 xd yd gd pd HCd HOd HWd
      go_wp2_with fail
      refine stepQ_normal ⟨⟨g8, p8⟩, ?_⟩
      clear hw8 x0 x1 x2 x3 f0 f1 f2 f3
      obtain ⟨y0, y1⟩ := cells2 y8
      have fy := thawed y8 0
      have fy1 := thawed y8 1
      obtain ⟨w9, hw9⟩ : ∃ u, (w8.setCell ⟨w.heap.size + 1, 0, none⟩ (.slice (some ⟨rb, 0, none⟩) n cc)).setCell ⟨w.heap.size + 1, 1, none⟩ (.int .i64 m) = u := ⟨_, rfl⟩
      have y9 : w9.heap[w.heap.size + 1]? = some (.cells #[.slice (some ⟨rb, 0, none⟩) n cc, .int .i64 m] 28) := by rw [← hw9]; exact set_cells (set_cells y8 0 _) 1 _
      have x9 : w9.heap[w.heap.size]? = some (.cells #[.int .i64 a, .int .i64 b, .int .i64 r, .int .i64 d] 25) := by rw [← hw9]; exact (Below.heap_setCell _ _ _ _ (by simp)).trans ((Below.heap_setCell _ _ _ _ (by simp)).trans x8)
      have HC9 : Hid (Cur c B w9) := by show Cur c B w9; rw [← hw9]; exact (HC8.out.setNew (by simp; omega) (by simp; omega) _).setNew (by simp; omega) (by simp; omega) _
      have HO9 : Hid (Only c w w9) := by show Only c w w9; rw [← hw9]; exact (HO8.out.setNew (by simp) _).setNew (by simp) _
      have HW9 : Hid (OwnK bs (.slice (some ⟨rb, 0, none⟩) n cc) lx w9) := by show OwnK _ _ _ w9; rw [← hw9]; exact (HW8.out.setCell (fun x hx => by cases hx; simp; omega) _).setCell (fun x hx => by cases hx; simp; omega) _
      clear x8 y8 g8 p8 HC8 HO8 HW8
      go_wp2_with fail
      refine stepQ_normal ⟨trivial, ?_⟩
      clear hw9 y0 y1 fy fy1
      obtain ⟨x0, x1, x2, x3⟩ := cells4 x9
      obtain ⟨y0, y1⟩ := cells2 y9
      go_wp2
      (try simp only [Exit.inBlock, Exit.then])
      refine bodyPost_ret (v := .tuple #[.agg #[.int .i64 a, .int .i64 b, .int .i64 r, .int .i64 d], .agg #[.slice (some ⟨rb, 0, none⟩) n cc, .int .i64 m]]) ?_ rfl ⟨_, _, _, _, _, _, _, _, _, rfl, HTL.out, hn8, HW9.out.row, (fun x hx => by cases hx; simp; omega), (fun h => by cases h), HC9.out, HO9.out⟩
      simp [results, Try.results64, go_sem, x0, x1, x2, x3, y0, y1]
  · have HKC : Hid (∀ p ∈ ([(w.heap.size, Obj.cells #[.int .i64 0, .int .i64 0, .int .i64 0, .int .i64 0] 25), (w.heap.size + 1, Obj.cells #[.slice none 0 0, .int .i64 0] 28), (gk, Obj.cells #[.int .i64 a, .int .i64 b, .int .i64 r, .int .i64 d] 25), (pb, Obj.cells #[.slice (some ⟨rb, 0, none⟩) n cc, .int .i64 pw] 28)] : List (Nat × Obj)), p.1 ≠ c) := by
      intro p hp
      simp only [List.mem_cons, List.not_mem_nil, or_false] at hp
      rcases hp with rfl | rfl | rfl | rfl <;> simp only <;> omega
    have HKR : Hid (∀ p ∈ ([(w.heap.size, Obj.cells #[.int .i64 0, .int .i64 0, .int .i64 0, .int .i64 0] 25), (w.heap.size + 1, Obj.cells #[.slice none 0 0, .int .i64 0] 28), (gk, Obj.cells #[.int .i64 a, .int .i64 b, .int .i64 r, .int .i64 d] 25), (pb, Obj.cells #[.slice (some ⟨rb, 0, none⟩) n cc, .int .i64 pw] 28)] : List (Nat × Obj)), p.1 ≠ rb) := by
      intro p hp
      simp only [List.mem_cons, List.not_mem_nil, or_false] at hp
      rcases hp with rfl | rfl | rfl | rfl <;> simp only <;> omega
    have HDC : DK c B rb bs [(w.heap.size, Obj.cells #[.int .i64 0, .int .i64 0, .int .i64 0, .int .i64 0] 25), (w.heap.size + 1, Obj.cells #[.slice none 0 0, .int .i64 0] 28), (gk, Obj.cells #[.int .i64 a, .int .i64 b, .int .i64 r, .int .i64 d] 25), (pb, Obj.cells #[.slice (some ⟨rb, 0, none⟩) n cc, .int .i64 pw] 28)] w w6 n cc := by
      refine ⟨HCX.out, HOX.out, fun p hp => ?_, l, HLN.out, HWX.out⟩
      simp only [List.mem_cons, List.not_mem_nil, or_false] at hp
      rcases hp with rfl | rfl | rfl | rfl
      · exact xX
      · exact yX
      · exact gX
      · exact pX
    obtain ⟨KB, hKB⟩ : ∃ KB : List (Nat × Obj), [(w.heap.size, Obj.cells #[.int .i64 0, .int .i64 0, .int .i64 0, .int .i64 0] 25), (w.heap.size + 1, Obj.cells #[.slice none 0 0, .int .i64 0] 28), (gk, Obj.cells #[.int .i64 a, .int .i64 b, .int .i64 r, .int .i64 d] 25), (pb, Obj.cells #[.slice (some ⟨rb, 0, none⟩) n cc, .int .i64 pw] 28)] = KB := ⟨_, rfl⟩
    rw [hKB] at HKC HKR HDC
    have HKB := Lib.hid hKB
    have kpb : Hid (∀ u, DK c B rb bs KB w u n cc → u.heap[pb]? = some (.cells #[.slice (some ⟨rb, 0, none⟩) n cc, .int .i64 pw] 28)) := fun u h => h.kept (pb, _) (by rw [← hKB]; exact .tail _ (.tail _ (.tail _ (.head _))))
    have HD := Lib.hid HDC
    clear HDC hKB xX yX gX pX HCX HOX HWX
    go_wp2_with fail
    refine wp_region_flowG (fun k => match k with | 0 => some (.pointer (some ⟨pb, 0, none⟩)) | 1 => some (.slice (some ⟨rb, 0, none⟩) n cc) | 2 => some (.pointer (some ⟨c, 0, none⟩)) | 3 => some (.pointer (some ⟨pb, 0, none⟩)) | 4 => some (.slice (some ⟨rb, 0, none⟩) n cc) | 5 => some (.int .i64 (n : Int)) | 7 => some (.pointer (some ⟨c, 0, none⟩)) | _ => none) (fun listed x u => DK c B rb bs KB w u n cc ∧ Fact 6 (fun v => ∃ J : Nat, J < n ∧ v = .int .i64 (J : Int)) listed x ∧ FactW 8 9 (fun v u => ∃ g, v = .slice (some ⟨g, 0, none⟩) 3 3 ∧ g ≠ c ∧ Ints u g pkR1) listed x u ∧ Fact 9 (fun v => ∃ y : Int, v = .int .i64 y) listed x ∧ Fact 10 (fun v => ∃ J : Nat, J < n ∧ v = .pointer (some ⟨rb, J * 2, none⟩)) listed x ∧ Fact 11 (fun v => ∃ J : Nat, J < n ∧ v = .pointer (some ⟨rb, J * 2 + 1, none⟩)) listed x) (fun _ => undef) (by kernel_rfl) (by kernel_rfl) ?hx0 ?hS0 ?hs ?he
    case hx0 => simp only [putsX, Act.put, List.setIfInBounds_toArray, List.set_cons_zero, List.set_cons_succ]
    case hS0 => exact ⟨HD.out.drew, Fact.zero _ _ _ _, FactW.zero _ _ _ _ _ _, Fact.zero _ _ _ _, Fact.zero _ _ _ _, Fact.zero _ _ _ _⟩
    case hs =>
      simp only [flowSteps]
      refine ⟨?s0, ?s1, ?s2, ?s3, ?s4, ?s5, ?s6, ?s7, ?s8, ?s9, ?s10, ?s11, ?s12, trivial⟩
      case s0 =>
        intro listed bb u hsz hn hwt hinv
        obtain ⟨x, rfl, hU, hD, h6, h8, h9, h10, h11⟩ := hinv
        simp only [putsX, Act.put, List.setIfInBounds_toArray, List.set_cons_zero, List.set_cons_succ]
        go_wp2_with fail
        refine stepQ_normal ⟨trivial, upd x 0 (.pointer (some ⟨pb, 0, none⟩)), ?_, hU.step (fun _ h => Option.some.inj h), hD, h6.keep (by decide) _, h8.keep (by decide) (by decide) _ id, h9.keep (by decide) _, h10.keep (by decide) _, h11.keep (by decide) _⟩
        simp only [upd]
        rfl
      case s1 =>
        intro listed bb u hsz hn hwt hinv
        obtain ⟨x, rfl, hU, hD, h6, h8, h9, h10, h11⟩ := hinv
        have f0 := Lib.hid (hU 0 _ rfl (hwt 0 (by kernel_rfl)))
        simp only [putsX, Act.put, List.setIfInBounds_toArray, List.set_cons_zero, List.set_cons_succ]
        rw [f0.out]
        obtain ⟨hD4, _⟩ := cells2 (kpb.out u hD)
        go_wp2_with fail
        refine stepQ_normal ⟨trivial, upd x 1 (.slice (some ⟨rb, 0, none⟩) n cc), ?_, hU.step (fun _ h => Option.some.inj h), hD, h6.keep (by decide) _, h8.keep (by decide) (by decide) _ id, h9.keep (by decide) _, h10.keep (by decide) _, h11.keep (by decide) _⟩
        simp only [upd]
        simp only [f0.out]
        (try rfl)
      case s2 =>
        intro listed bb u hsz hn hwt hinv
        obtain ⟨x, rfl, hU, hD, h6, h8, h9, h10, h11⟩ := hinv
        simp only [putsX, Act.put, List.setIfInBounds_toArray, List.set_cons_zero, List.set_cons_succ]
        go_wp2_with fail
        refine stepQ_normal ⟨trivial, upd x 2 (.pointer (some ⟨c, 0, none⟩)), ?_, hU.step (fun _ h => Option.some.inj h), hD, h6.keep (by decide) _, h8.keep (by decide) (by decide) _ id, h9.keep (by decide) _, h10.keep (by decide) _, h11.keep (by decide) _⟩
        simp only [upd]
        rfl
      case s3 =>
        intro listed bb u hsz hn hwt hinv
        obtain ⟨x, rfl, hU, hD, h6, h8, h9, h10, h11⟩ := hinv
        simp only [putsX, Act.put, List.setIfInBounds_toArray, List.set_cons_zero, List.set_cons_succ]
        go_wp2_with fail
        refine stepQ_normal ⟨trivial, upd x 3 (.pointer (some ⟨pb, 0, none⟩)), ?_, hU.step (fun _ h => Option.some.inj h), hD, h6.keep (by decide) _, h8.keep (by decide) (by decide) _ id, h9.keep (by decide) _, h10.keep (by decide) _, h11.keep (by decide) _⟩
        simp only [upd]
        rfl
      case s4 =>
        intro listed bb u hsz hn hwt hinv
        obtain ⟨x, rfl, hU, hD, h6, h8, h9, h10, h11⟩ := hinv
        have f3 := Lib.hid (hU 3 _ rfl (hwt 3 (by kernel_rfl)))
        simp only [putsX, Act.put, List.setIfInBounds_toArray, List.set_cons_zero, List.set_cons_succ]
        rw [f3.out]
        obtain ⟨hD4, _⟩ := cells2 (kpb.out u hD)
        go_wp2_with fail
        refine stepQ_normal ⟨trivial, upd x 4 (.slice (some ⟨rb, 0, none⟩) n cc), ?_, hU.step (fun _ h => Option.some.inj h), hD, h6.keep (by decide) _, h8.keep (by decide) (by decide) _ id, h9.keep (by decide) _, h10.keep (by decide) _, h11.keep (by decide) _⟩
        simp only [upd]
        simp only [f3.out]
        (try rfl)
      case s5 =>
        intro listed bb u hsz hn hwt hinv
        obtain ⟨x, rfl, hU, hD, h6, h8, h9, h10, h11⟩ := hinv
        have f4 := Lib.hid (hU 4 _ rfl (hwt 4 (by kernel_rfl)))
        simp only [putsX, Act.put, List.setIfInBounds_toArray, List.set_cons_zero, List.set_cons_succ]
        rw [f4.out]
        go_wp2_with fail
        refine stepQ_normal ⟨trivial, upd x 5 (.int .i64 (n : Int)), ?_, hU.step (fun _ h => Option.some.inj h), hD, h6.keep (by decide) _, h8.keep (by decide) (by decide) _ id, h9.keep (by decide) _, h10.keep (by decide) _, h11.keep (by decide) _⟩
        simp only [upd]
        simp only [f4.out]
        (try rfl)
      case s6 =>
        intro listed bb u hsz hn hwt hinv
        obtain ⟨x, rfl, hU, hD, h6, h8, h9, h10, h11⟩ := hinv
        have f2 := Lib.hid (hU 2 _ rfl (hwt 2 (by kernel_rfl)))
        have f5 := Lib.hid (hU 5 _ rfl (hwt 5 (by kernel_rfl)))
        simp only [putsX, Act.put, List.setIfInBounds_toArray, List.set_cons_zero, List.set_cons_succ]
        have hcall : Calls Try.prog 52 #[x 2, x 5] u (Drew c B 0 (topOf (n : Int)) u) := by rw [f2.out, f5.out]; exact l01Below_any hD.cur (n : Int) (by omega)
        go_wp2_with fail
        refine hcall.mono ?_
        rintro e u' ⟨j, rfl, hj0, hj1, hcu, hou⟩
        rw [topOf_pos (by omega)] at hj1
        obtain ⟨J, rfl⟩ := Int.eq_ofNat_of_zero_le hj0
        go_wp2_with fail
        refine stepQ_normal ⟨trivial, upd x 6 (.int .i64 (J : Int)), ?_, hU.step (fun _ h => by cases h), hD.draw (by omega) HKC.out hcu hou, Fact.new ⟨J, by omega, rfl⟩, h8.keep (by decide) (by decide) _ (fun ⟨g, h1, h2, h3⟩ => ⟨g, h1, h2, h3.only hou h2⟩), h9.keep (by decide) _, h10.keep (by decide) _, h11.keep (by decide) _⟩
        simp only [upd]
        rfl
      case s7 =>
        intro listed bb u hsz hn hwt hinv
        obtain ⟨x, rfl, hU, hD, h6, h8, h9, h10, h11⟩ := hinv
        simp only [putsX, Act.put, List.setIfInBounds_toArray, List.set_cons_zero, List.set_cons_succ]
        go_wp2_with fail
        refine stepQ_normal ⟨trivial, upd x 7 (.pointer (some ⟨c, 0, none⟩)), ?_, hU.step (fun _ h => Option.some.inj h), hD, h6.keep (by decide) _, h8.keep (by decide) (by decide) _ id, h9.keep (by decide) _, h10.keep (by decide) _, h11.keep (by decide) _⟩
        simp only [upd]
        rfl
      case s8 =>
        intro listed bb u hsz hn hwt hinv
        obtain ⟨x, rfl, hU, hD, h6, h8, h9, h10, h11⟩ := hinv
        simp only [putsX, Act.put, List.setIfInBounds_toArray, List.set_cons_zero, List.set_cons_succ]
        have huc := hD.cur.lt
        go_wp2_with fail
        refine stepQ_normal ⟨trivial, upd x 8 (.slice (some ⟨u.heap.size, 0, none⟩) 3 3), ?_, hU.step (fun _ h => by cases h), hD.alloc _, h6.keep (by decide) _, FactW.new ⟨_, rfl, by omega, ints_new _ _ _ _ rfl⟩, h9.keep (by decide) _, h10.keep (by decide) _, h11.keep (by decide) _⟩
        simp only [upd]
        rfl
      case s9 =>
        intro listed bb u hsz hn hwt hinv
        obtain ⟨x, rfl, hU, hD, h6, h8, h9, h10, h11⟩ := hinv
        have f7 := Lib.hid (hU 7 _ rfl (hwt 7 (by kernel_rfl)))
        simp only [putsX, Act.put, List.setIfInBounds_toArray, List.set_cons_zero, List.set_cons_succ]
        obtain ⟨g, fp, hgc, hints⟩ := h8 (hwt 8 (by kernel_rfl)) hn
        have hcall : Calls Try.prog 80 #[x 7, x 8] u (DrewP (fun _ => True) c B u) := by
          rw [f7.out, fp]
          exact l01PickInt_any (fun _ => True) hD.cur g 3 pkR1 hints hgc (by decide) (by decide) (fun _ _ => trivial)
        clear fp hints
        go_wp2_with fail
        refine hcall.mono ?_
        rintro e u' ⟨y, rfl, _, hcu, hou⟩
        go_wp2_with fail
        refine stepQ_normal ⟨trivial, upd x 9 (.int .i64 y), ?_, hU.step (fun _ h => by cases h), hD.draw (by omega) HKC.out hcu hou, h6.keep (by decide) _, FactW.call (by rw [hsz]; decide), Fact.new ⟨y, rfl⟩, h10.keep (by decide) _, h11.keep (by decide) _⟩
        simp only [upd]
        rfl
      case s10 =>
        intro listed bb u hsz hn hwt hinv
        obtain ⟨x, rfl, hU, hD, h6, h8, h9, h10, h11⟩ := hinv
        have f1 := Lib.hid (hU 1 _ rfl (hwt 1 (by kernel_rfl)))
        simp only [putsX, Act.put, List.setIfInBounds_toArray, List.set_cons_zero, List.set_cons_succ]
        rw [f1.out]
        obtain ⟨J, hJn, fj⟩ := h6 (hwt 6 (by kernel_rfl))
        have FJ := Lib.hid fj
        rw [FJ.out]
        clear fj
        go_wp2_with fail
        refine stepQ_normal ⟨trivial, upd x 10 (.pointer (some ⟨rb, J * 2, none⟩)), ?_, hU.step (fun _ h => by cases h), hD, h6.keep (by decide) _, h8.keep (by decide) (by decide) _ id, h9.keep (by decide) _, Fact.new ⟨J, hJn, rfl⟩, h11.keep (by decide) _⟩
        simp only [upd]
        simp only [f1.out, FJ.out]
        (try rfl)
      case s11 =>
        intro listed bb u hsz hn hwt hinv
        obtain ⟨x, rfl, hU, hD, h6, h8, h9, h10, h11⟩ := hinv
        simp only [putsX, Act.put, List.setIfInBounds_toArray, List.set_cons_zero, List.set_cons_succ]
        obtain ⟨J, hJn, fj⟩ := h10 (hwt 10 (by kernel_rfl))
        have FJ := Lib.hid fj
        rw [FJ.out]
        clear fj
        go_wp2_with fail
        refine stepQ_normal ⟨trivial, upd x 11 (.pointer (some ⟨rb, J * 2 + 1, none⟩)), ?_, hU.step (fun _ h => by cases h), hD, h6.keep (by decide) _, h8.keep (by decide) (by decide) _ id, h9.keep (by decide) _, h10.keep (by decide) _, Fact.new ⟨J, hJn, rfl⟩⟩
        simp only [upd]
        simp only [FJ.out]
        (try rfl)
      case s12 =>
        intro listed bb u hsz hn hwt hinv
        obtain ⟨x, rfl, hU, hD, h6, h8, h9, h10, h11⟩ := hinv
        simp only [putsX, Act.put, List.setIfInBounds_toArray, List.set_cons_zero, List.set_cons_succ]
        obtain ⟨J, hJn, fj⟩ := h11 (hwt 11 (by kernel_rfl))
        obtain ⟨y, fy⟩ := h9 (hwt 9 (by kernel_rfl))
        have FJ := Lib.hid fj
        have FY := Lib.hid fy
        rw [FJ.out, FY.out]
        clear fj fy
        obtain ⟨lu, hlu1, hlu3⟩ := hD.row
        obtain ⟨gq, hgq, _, hcq, hfz, _, _⟩ := hlu3.at (k := J) (by omega)
        obtain rfl : rb = gq := by simpa using hgq
        have hfq := hfz (J * 2 + 1)
        obtain ⟨old, hco⟩ : ∃ v, u.cell? ⟨rb, J * 2 + 1, none⟩ = some v := ⟨_, hcq⟩
        clear hcq hlu3 hgq hfz
        go_wp2_with fail
        refine stepQ_normal ⟨trivial, upd x 12 undef, ?_, hU.step (fun _ h => by cases h), hD.store (by omega) (by omega) (by omega) HKR.out J y, h6.keep (by decide) _, FactW.gone (hwt 9 (by kernel_rfl)), h9.keep (by decide) _, h10.keep (by decide) _, h11.keep (by decide) _⟩
        simp only [upd]
        simp only [FJ.out, FY.out]
        (try rfl)
    case he =>
      intro listed x u hall hU hS
      obtain ⟨hD, h6, h8, h9, h10, h11⟩ := hS
      simp only [putsX, Act.put, List.setIfInBounds_toArray, List.set_cons_zero, List.set_cons_succ]
      clear hall hU h6 h8 h9 h10 h11
      obtain ⟨lx, hlx, hWX⟩ := hD.row
      have HLX := Lib.hid hlx
      have HWX := Lib.hid hWX
      have HCX := Lib.hid hD.cur
      have HOX := Lib.hid hD.only
      have hk := hD.kept
      rw [← HKB.out] at hk
      have xX := hk (w.heap.size, _) (.head _)
      have yX := hk (w.heap.size + 1, _) (.tail _ (.head _))
      have gX := hk (gk, _) (.tail _ (.tail _ (.head _)))
      have pX := hk (pb, _) (.tail _ (.tail _ (.tail _ (.head _))))
      simp only at xX yX gX pX
      clear hk hD hlx hWX HKC HKR HKB kpb HD
      obtain ⟨w7, rfl⟩ : ∃ v, v = u := ⟨_, rfl⟩
      go_wp2_with fail
      refine wp_region_float (A := ?A2) [.h, .h, .t, .e] (by kernel_rfl) (by kernel_rfl) (fun u => u.heap[gk]? = some (.cells #[.int .i64 a, .int .i64 b, .int .i64 r, .int .i64 d] 25) ∧ u.heap[pb]? = some (.cells #[.slice (some ⟨rb, 0, none⟩) n cc, .int .i64 pw] 28)) ?hC2 ?hH2 ?hT2
      case hC2 => exact ⟨gX, pX⟩
      case hH2 =>
        intro u hu
        obtain ⟨b0, b1, b2, b3⟩ := cells4 hu.1
        obtain ⟨b4, b5⟩ := cells2 hu.2
        have s0 := fun q : Same u => q.cell b0
        have s1 := fun q : Same u => q.cell b1
        have s2 := fun q : Same u => q.cell b2
        have s3 := fun q : Same u => q.cell b3
        have s4 := fun q : Same u => q.cell b4
        have s5 := fun q : Same u => q.cell b5
        simp only [headsOf]
        repeat (go_big_quiet_step (fail))
        refine wpQuiet_nil ?_
        exact rfl
      case hT2 =>
        simp only [chainT]
        have xd : w7.drew.heap[w.heap.size]? = some (.cells #[.int .i64 0, .int .i64 0, .int .i64 0, .int .i64 0] 25) := xX
        have yd : w7.drew.heap[w.heap.size + 1]? = some (.cells #[.slice none 0 0, .int .i64 0] 28) := yX
        have gd : w7.drew.heap[gk]? = some (.cells #[.int .i64 a, .int .i64 b, .int .i64 r, .int .i64 d] 25) := gX
        have pd : w7.drew.heap[pb]? = some (.cells #[.slice (some ⟨rb, 0, none⟩) n cc, .int .i64 pw] 28) := pX
        have HCd : Hid (Cur c B w7.drew) := HCX.out
        have HOd : Hid (Only c w w7.drew) := HOX.out.drewN 1
        have HWd : Hid (OwnK bs (.slice (some ⟨rb, 0, none⟩) n cc) lx w7.drew) := HWX.out
        clear xX yX gX pX HCX HOX HWX
        generalize w7.drew = wd at xd yd gd pd HCd HOd HWd ⊢
        obtain ⟨x0, x1, x2, x3⟩ := cells4 xd
        have f0 := thawed xd 0
        have f1 := thawed xd 1
        have f2 := thawed xd 2
        have f3 := thawed xd 3
        obtain ⟨w8, hw8⟩ : ∃ u, (((wd.setCell ⟨w.heap.size, 0, none⟩ (.int .i64 a)).setCell ⟨w.heap.size, 1, none⟩ (.int .i64 b)).setCell ⟨w.heap.size, 2, none⟩ (.int .i64 r)).setCell ⟨w.heap.size, 3, none⟩ (.int .i64 d) = u := ⟨_, rfl⟩
        have x8 : w8.heap[w.heap.size]? = some (.cells #[.int .i64 a, .int .i64 b, .int .i64 r, .int .i64 d] 25) := by rw [← hw8]; exact set_cells (set_cells (set_cells (set_cells xd 0 _) 1 _) 2 _) 3 _
        have other8 : ∀ k, k ≠ w.heap.size → w8.heap[k]? = wd.heap[k]? := fun k hk => by
          rw [← hw8]
          exact (Below.heap_setCell _ _ _ _ hk).trans ((Below.heap_setCell _ _ _ _ hk).trans ((Below.heap_setCell _ _ _ _ hk).trans (Below.heap_setCell _ _ _ _ hk)))
        have y8 := (other8 (w.heap.size + 1) (by omega)).trans yd
        have g8 := (other8 gk (by omega)).trans gd
        have p8 := (other8 pb (by omega)).trans pd
        have HC8 : Hid (Cur c B w8) := by
          show Cur c B w8
          rw [← hw8]
          have h0 := HCd.out
          repeat' (first | exact h0 | refine Cur.setNew ?_ (by simp; omega) (by simp; omega) _)
        have HO8 : Hid (Only c w w8) := by
          show Only c w w8
          rw [← hw8]
          have h0 := HOd.out
          repeat' (first | exact h0 | refine Only.setNew ?_ (by simp) _)
        have HW8 : Hid (OwnK bs (.slice (some ⟨rb, 0, none⟩) n cc) lx w8) := by
          show OwnK _ _ _ w8
          rw [← hw8]
          have h0 := HWd.out
          repeat' (first | exact h0 | refine OwnK.setCell ?_ (fun x hx => by cases hx; simp; omega) _)
        clear other8 xd yd gd pd HCd HOd HWd
        go_wp2_with fail
        refine stepQ_normal ⟨⟨g8, p8⟩, ?_⟩
        clear hw8 x0 x1 x2 x3 f0 f1 f2 f3
        obtain ⟨y0, y1⟩ := cells2 y8
        have fy := thawed y8 0
        have fy1 := thawed y8 1
        obtain ⟨w9, hw9⟩ : ∃ u, (w8.setCell ⟨w.heap.size + 1, 0, none⟩ (.slice (some ⟨rb, 0, none⟩) n cc)).setCell ⟨w.heap.size + 1, 1, none⟩ (.int .i64 pw) = u := ⟨_, rfl⟩
        have y9 : w9.heap[w.heap.size + 1]? = some (.cells #[.slice (some ⟨rb, 0, none⟩) n cc, .int .i64 pw] 28) := by rw [← hw9]; exact set_cells (set_cells y8 0 _) 1 _
        have x9 : w9.heap[w.heap.size]? = some (.cells #[.int .i64 a, .int .i64 b, .int .i64 r, .int .i64 d] 25) := by rw [← hw9]; exact (Below.heap_setCell _ _ _ _ (by simp)).trans ((Below.heap_setCell _ _ _ _ (by simp)).trans x8)
        have HC9 : Hid (Cur c B w9) := by show Cur c B w9; rw [← hw9]; exact (HC8.out.setNew (by simp; omega) (by simp; omega) _).setNew (by simp; omega) (by simp; omega) _
        have HO9 : Hid (Only c w w9) := by show Only c w w9; rw [← hw9]; exact (HO8.out.setNew (by simp) _).setNew (by simp) _
        have HW9 : Hid (OwnK bs (.slice (some ⟨rb, 0, none⟩) n cc) lx w9) := by show OwnK _ _ _ w9; rw [← hw9]; exact (HW8.out.setCell (fun x hx => by cases hx; simp; omega) _).setCell (fun x hx => by cases hx; simp; omega) _
        clear x8 y8 g8 p8 HC8 HO8 HW8
        go_wp2_with fail
        refine stepQ_normal ⟨trivial, ?_⟩
        clear hw9 y0 y1 fy fy1
        obtain ⟨x0, x1, x2, x3⟩ := cells4 x9
        obtain ⟨y0, y1⟩ := cells2 y9
        go_wp2
        (try simp only [Exit.inBlock, Exit.then])
        refine bodyPost_ret (v := .tuple #[.agg #[.int .i64 a, .int .i64 b, .int .i64 r, .int .i64 d], .agg #[.slice (some ⟨rb, 0, none⟩) n cc, .int .i64 pw]]) ?_ rfl ⟨_, _, _, _, _, _, _, _, _, rfl, HLX.out, hn8, HW9.out.row, (fun x hx => by cases hx; simp; omega), (fun h => by cases h), HC9.out, HO9.out⟩
        simp [results, Try.results64, go_sem, x0, x1, x2, x3, y0, y1]
  · by_cases hcc : cc - 1 = 0
    · obtain ⟨cp, cq⟩ := cells2 pX
      have fp := thawed pX 0
      obtain ⟨w7, hw7⟩ : ∃ u, w6.setCell ⟨pb, 0, none⟩ (.slice (some ⟨rb, 0, none⟩) (n - 1) 0) = u := ⟨_, rfl⟩
      have p7 : w7.heap[pb]? = some (.cells #[.slice (some ⟨rb, 0, none⟩) (n - 1) 0, .int .i64 pw] 28) := by rw [← hw7]; exact set_cells pX 0 _
      have x7 : w7.heap[w.heap.size]? = some (.cells #[.int .i64 0, .int .i64 0, .int .i64 0, .int .i64 0] 25) := by rw [← hw7]; exact (Below.heap_setCell _ _ _ _ (by simp; omega)).trans xX
      have y7 : w7.heap[w.heap.size + 1]? = some (.cells #[.slice none 0 0, .int .i64 0] 28) := by rw [← hw7]; exact (Below.heap_setCell _ _ _ _ (by simp; omega)).trans yX
      have g7 : w7.heap[gk]? = some (.cells #[.int .i64 a, .int .i64 b, .int .i64 r, .int .i64 d] 25) := by rw [← hw7]; exact (Below.heap_setCell _ _ _ _ (by simp; omega)).trans gX
      have HC7 : Hid (Cur c B w7) := by show Cur c B w7; rw [← hw7]; exact HCX.out.setNew (by simp; omega) (by simp; omega) _
      have HO7 : Hid (Only c w w7) := by show Only c w w7; rw [← hw7]; exact HOX.out.setNew (by simp; omega) _
      have HW7 : Hid (OwnK bs (.slice (some ⟨rb, 0, none⟩) n cc) l w7) := by
        show OwnK _ _ _ w7
        rw [← hw7]
        exact HWX.out.setCell (fun x hx => by cases hx; simp; omega) _
      clear xX yX gX pX HCX HOX HWX
      go_wp2_with fail
      clear hw7 cp cq fp
      have xX := x7
      have yX := y7
      have gX := g7
      have pX := p7
      have HCX := HC7
      have HOX := HO7
      obtain ⟨lx, hlx⟩ : ∃ lx, lx = l := ⟨_, rfl⟩
      have HWX : Hid (OwnK bs (.slice (some ⟨rb, 0, none⟩) n cc) lx w7) := by show OwnK _ _ _ _; rw [hlx]; exact HW7.out
      have HTL : Hid (lx.tail.length = n - 1) := by show _ = _; rw [List.length_tail, hlx, HLN.out]
      clear x7 y7 g7 p7 HC7 HO7 HW7 hlx
      go_wp2_with fail
      refine wp_region_float (A := ?A3) [.h, .h, .t, .e] (by kernel_rfl) (by kernel_rfl) (fun u => u.heap[gk]? = some (.cells #[.int .i64 a, .int .i64 b, .int .i64 r, .int .i64 d] 25) ∧ u.heap[pb]? = some (.cells #[.slice (some ⟨rb, 0, none⟩) (n - 1) 0, .int .i64 pw] 28)) ?hC3 ?hH3 ?hT3
      case hC3 => exact ⟨gX, pX⟩
      case hH3 =>
        intro u hu
        obtain ⟨b0, b1, b2, b3⟩ := cells4 hu.1
        obtain ⟨b4, b5⟩ := cells2 hu.2
        have s0 := fun q : Same u => q.cell b0
        have s1 := fun q : Same u => q.cell b1
        have s2 := fun q : Same u => q.cell b2
        have s3 := fun q : Same u => q.cell b3
        have s4 := fun q : Same u => q.cell b4
        have s5 := fun q : Same u => q.cell b5
        simp only [headsOf]
        repeat (go_big_quiet_step (fail))
        refine wpQuiet_nil ?_
        exact rfl
      case hT3 =>
        simp only [chainT]
        have xd : w7.drew.heap[w.heap.size]? = some (.cells #[.int .i64 0, .int .i64 0, .int .i64 0, .int .i64 0] 25) := xX
        have yd : w7.drew.heap[w.heap.size + 1]? = some (.cells #[.slice none 0 0, .int .i64 0] 28) := yX
        have gd : w7.drew.heap[gk]? = some (.cells #[.int .i64 a, .int .i64 b, .int .i64 r, .int .i64 d] 25) := gX
        have pd : w7.drew.heap[pb]? = some (.cells #[.slice (some ⟨rb, 0, none⟩) (n - 1) 0, .int .i64 pw] 28) := pX
        have HCd : Hid (Cur c B w7.drew) := HCX.out
        have HOd : Hid (Only c w w7.drew) := HOX.out.drewN 1
        have HWd : Hid (OwnK bs (.slice (some ⟨rb, 0, none⟩) n cc) lx w7.drew) := HWX.out
        clear xX yX gX pX HCX HOX HWX
        generalize w7.drew = wd at xd yd gd pd HCd HOd HWd ⊢
        obtain ⟨x0, x1, x2, x3⟩ := cells4 xd
        have f0 := thawed xd 0
        have f1 := thawed xd 1
        have f2 := thawed xd 2
        have f3 := thawed xd 3
        obtain ⟨w8, hw8⟩ : ∃ u, (((wd.setCell ⟨w.heap.size, 0, none⟩ (.int .i64 a)).setCell ⟨w.heap.size, 1, none⟩ (.int .i64 b)).setCell ⟨w.heap.size, 2, none⟩ (.int .i64 r)).setCell ⟨w.heap.size, 3, none⟩ (.int .i64 d) = u := ⟨_, rfl⟩
        have x8 : w8.heap[w.heap.size]? = some (.cells #[.int .i64 a, .int .i64 b, .int .i64 r, .int .i64 d] 25) := by rw [← hw8]; exact set_cells (set_cells (set_cells (set_cells xd 0 _) 1 _) 2 _) 3 _
        have other8 : ∀ k, k ≠ w.heap.size → w8.heap[k]? = wd.heap[k]? := fun k hk => by
          rw [← hw8]
          exact (Below.heap_setCell _ _ _ _ hk).trans ((Below.heap_setCell _ _ _ _ hk).trans ((Below.heap_setCell _ _ _ _ hk).trans (Below.heap_setCell _ _ _ _ hk)))
        have y8 := (other8 (w.heap.size + 1) (by omega)).trans yd
        have g8 := (other8 gk (by omega)).trans gd
        have p8 := (other8 pb (by omega)).trans pd
        have HC8 : Hid (Cur c B w8) := by
          show Cur c B w8
          rw [← hw8]
          have h0 := HCd.out
          repeat' (first | exact h0 | refine Cur.setNew ?_ (by simp; omega) (by simp; omega) _)
        have HO8 : Hid (Only c w w8) := by
          show Only c w w8
          rw [← hw8]
          have h0 := HOd.out
          repeat' (first | exact h0 | refine Only.setNew ?_ (by simp) _)
        have HW8 : Hid (OwnK bs (.slice (some ⟨rb, 0, none⟩) n cc) lx w8) := by
          show OwnK _ _ _ w8
          rw [← hw8]
          have h0 := HWd.out
          repeat' (first | exact h0 | refine OwnK.setCell ?_ (fun x hx => by cases hx; simp; omega) _)
        clear other8 xd yd gd pd HCd HOd HWd
        go_wp2_with fail
        refine stepQ_normal ⟨⟨g8, p8⟩, ?_⟩
        clear hw8 x0 x1 x2 x3 f0 f1 f2 f3
        obtain ⟨y0, y1⟩ := cells2 y8
        have fy := thawed y8 0
        have fy1 := thawed y8 1
        obtain ⟨w9, hw9⟩ : ∃ u, (w8.setCell ⟨w.heap.size + 1, 0, none⟩ (.slice (some ⟨rb, 0, none⟩) (n - 1) 0)).setCell ⟨w.heap.size + 1, 1, none⟩ (.int .i64 pw) = u := ⟨_, rfl⟩
        have y9 : w9.heap[w.heap.size + 1]? = some (.cells #[.slice (some ⟨rb, 0, none⟩) (n - 1) 0, .int .i64 pw] 28) := by rw [← hw9]; exact set_cells (set_cells y8 0 _) 1 _
        have x9 : w9.heap[w.heap.size]? = some (.cells #[.int .i64 a, .int .i64 b, .int .i64 r, .int .i64 d] 25) := by rw [← hw9]; exact (Below.heap_setCell _ _ _ _ (by simp)).trans ((Below.heap_setCell _ _ _ _ (by simp)).trans x8)
        have HC9 : Hid (Cur c B w9) := by show Cur c B w9; rw [← hw9]; exact (HC8.out.setNew (by simp; omega) (by simp; omega) _).setNew (by simp; omega) (by simp; omega) _
        have HO9 : Hid (Only c w w9) := by show Only c w w9; rw [← hw9]; exact (HO8.out.setNew (by simp) _).setNew (by simp) _
        have HW9 : Hid (OwnK bs (.slice (some ⟨rb, 0, none⟩) n cc) lx w9) := by show OwnK _ _ _ w9; rw [← hw9]; exact (HW8.out.setCell (fun x hx => by cases hx; simp; omega) _).setCell (fun x hx => by cases hx; simp; omega) _
        clear x8 y8 g8 p8 HC8 HO8 HW8
        go_wp2_with fail
        refine stepQ_normal ⟨trivial, ?_⟩
        clear hw9 y0 y1 fy fy1
        obtain ⟨x0, x1, x2, x3⟩ := cells4 x9
        obtain ⟨y0, y1⟩ := cells2 y9
        go_wp2
        (try simp only [Exit.inBlock, Exit.then])
        refine bodyPost_ret (v := .tuple #[.agg #[.int .i64 a, .int .i64 b, .int .i64 r, .int .i64 d], .agg #[.slice (some ⟨rb, 0, none⟩) (n - 1) 0, .int .i64 pw]]) ?_ rfl ⟨_, _, _, _, _, _, _, _, _, rfl, HTL.out, by omega, .inl (List.length_eq_zero_iff.1 (by rw [HTL.out]; omega)), (fun x hx => by cases hx; simp; omega), (fun h => by cases h), HC9.out, HO9.out⟩
        simp [results, Try.results64, go_sem, x0, x1, x2, x3, y0, y1]
    · obtain ⟨cp, cq⟩ := cells2 pX
      have fp := thawed pX 0
      obtain ⟨w7, hw7⟩ : ∃ u, w6.setCell ⟨pb, 0, none⟩ (.slice (some ⟨rb, 2, none⟩) (n - 1) (cc - 1)) = u := ⟨_, rfl⟩
      have p7 : w7.heap[pb]? = some (.cells #[.slice (some ⟨rb, 2, none⟩) (n - 1) (cc - 1), .int .i64 pw] 28) := by rw [← hw7]; exact set_cells pX 0 _
      have x7 : w7.heap[w.heap.size]? = some (.cells #[.int .i64 0, .int .i64 0, .int .i64 0, .int .i64 0] 25) := by rw [← hw7]; exact (Below.heap_setCell _ _ _ _ (by simp; omega)).trans xX
      have y7 : w7.heap[w.heap.size + 1]? = some (.cells #[.slice none 0 0, .int .i64 0] 28) := by rw [← hw7]; exact (Below.heap_setCell _ _ _ _ (by simp; omega)).trans yX
      have g7 : w7.heap[gk]? = some (.cells #[.int .i64 a, .int .i64 b, .int .i64 r, .int .i64 d] 25) := by rw [← hw7]; exact (Below.heap_setCell _ _ _ _ (by simp; omega)).trans gX
      have HC7 : Hid (Cur c B w7) := by show Cur c B w7; rw [← hw7]; exact HCX.out.setNew (by simp; omega) (by simp; omega) _
      have HO7 : Hid (Only c w w7) := by show Only c w w7; rw [← hw7]; exact HOX.out.setNew (by simp; omega) _
      have HW7 : Hid (OwnK bs (.slice (some ⟨rb, 0, none⟩) n cc) l w7) := by
        show OwnK _ _ _ w7
        rw [← hw7]
        exact HWX.out.setCell (fun x hx => by cases hx; simp; omega) _
      clear xX yX gX pX HCX HOX HWX
      go_wp2_with fail
      clear hw7 cp cq fp
      have xX := x7
      have yX := y7
      have gX := g7
      have pX := p7
      have HCX := HC7
      have HOX := HO7
      obtain ⟨lx, hlx⟩ : ∃ lx, lx = l := ⟨_, rfl⟩
      have HWX : Hid (OwnK bs (.slice (some ⟨rb, 0, none⟩) n cc) lx w7) := by show OwnK _ _ _ _; rw [hlx]; exact HW7.out
      have HTL : Hid (lx.tail.length = n - 1) := by show _ = _; rw [List.length_tail, hlx, HLN.out]
      clear x7 y7 g7 p7 HC7 HO7 HW7 hlx
      go_wp2_with fail
      refine wp_region_float (A := ?A4) [.h, .h, .t, .e] (by kernel_rfl) (by kernel_rfl) (fun u => u.heap[gk]? = some (.cells #[.int .i64 a, .int .i64 b, .int .i64 r, .int .i64 d] 25) ∧ u.heap[pb]? = some (.cells #[.slice (some ⟨rb, 2, none⟩) (n - 1) (cc - 1), .int .i64 pw] 28)) ?hC4 ?hH4 ?hT4
      case hC4 => exact ⟨gX, pX⟩
      case hH4 =>
        intro u hu
        obtain ⟨b0, b1, b2, b3⟩ := cells4 hu.1
        obtain ⟨b4, b5⟩ := cells2 hu.2
        have s0 := fun q : Same u => q.cell b0
        have s1 := fun q : Same u => q.cell b1
        have s2 := fun q : Same u => q.cell b2
        have s3 := fun q : Same u => q.cell b3
        have s4 := fun q : Same u => q.cell b4
        have s5 := fun q : Same u => q.cell b5
        simp only [headsOf]
        repeat (go_big_quiet_step (fail))
        refine wpQuiet_nil ?_
        exact rfl
      case hT4 =>
        simp only [chainT]
        have xd : w7.drew.heap[w.heap.size]? = some (.cells #[.int .i64 0, .int .i64 0, .int .i64 0, .int .i64 0] 25) := xX
        have yd : w7.drew.heap[w.heap.size + 1]? = some (.cells #[.slice none 0 0, .int .i64 0] 28) := yX
        have gd : w7.drew.heap[gk]? = some (.cells #[.int .i64 a, .int .i64 b, .int .i64 r, .int .i64 d] 25) := gX
        have pd : w7.drew.heap[pb]? = some (.cells #[.slice (some ⟨rb, 2, none⟩) (n - 1) (cc - 1), .int .i64 pw] 28) := pX
        have HCd : Hid (Cur c B w7.drew) := HCX.out
        have HOd : Hid (Only c w w7.drew) := HOX.out.drewN 1
        have HWd : Hid (OwnK bs (.slice (some ⟨rb, 0, none⟩) n cc) lx w7.drew) := HWX.out
        clear xX yX gX pX HCX HOX HWX
        generalize w7.drew = wd at xd yd gd pd HCd HOd HWd ⊢
        obtain ⟨x0, x1, x2, x3⟩ := cells4 xd
        have f0 := thawed xd 0
        have f1 := thawed xd 1
        have f2 := thawed xd 2
        have f3 := thawed xd 3
        obtain ⟨w8, hw8⟩ : ∃ u, (((wd.setCell ⟨w.heap.size, 0, none⟩ (.int .i64 a)).setCell ⟨w.heap.size, 1, none⟩ (.int .i64 b)).setCell ⟨w.heap.size, 2, none⟩ (.int .i64 r)).setCell ⟨w.heap.size, 3, none⟩ (.int .i64 d) = u := ⟨_, rfl⟩
        have x8 : w8.heap[w.heap.size]? = some (.cells #[.int .i64 a, .int .i64 b, .int .i64 r, .int .i64 d] 25) := by rw [← hw8]; exact set_cells (set_cells (set_cells (set_cells xd 0 _) 1 _) 2 _) 3 _
        have other8 : ∀ k, k ≠ w.heap.size → w8.heap[k]? = wd.heap[k]? := fun k hk => by
          rw [← hw8]
          exact (Below.heap_setCell _ _ _ _ hk).trans ((Below.heap_setCell _ _ _ _ hk).trans ((Below.heap_setCell _ _ _ _ hk).trans (Below.heap_setCell _ _ _ _ hk)))
        have y8 := (other8 (w.heap.size + 1) (by omega)).trans yd
        have g8 := (other8 gk (by omega)).trans gd
        have p8 := (other8 pb (by omega)).trans pd
        have HC8 : Hid (Cur c B w8) := by
          show Cur c B w8
          rw [← hw8]
          have h0 := HCd.out
          repeat' (first | exact h0 | refine Cur.setNew ?_ (by simp; omega) (by simp; omega) _)
        have HO8 : Hid (Only c w w8) := by
          show Only c w w8
          rw [← hw8]
          have h0 := HOd.out
          repeat' (first | exact h0 | refine Only.setNew ?_ (by simp) _)
        have HW8 : Hid (OwnK bs (.slice (some ⟨rb, 0, none⟩) n cc) lx w8) := by
          show OwnK _ _ _ w8
          rw [← hw8]
          have h0 := HWd.out
          repeat' (first | exact h0 | refine OwnK.setCell ?_ (fun x hx => by cases hx; simp; omega) _)
        clear other8 xd yd gd pd HCd HOd HWd
        go_wp2_with fail
        refine stepQ_normal ⟨⟨g8, p8⟩, ?_⟩
        clear hw8 x0 x1 x2 x3 f0 f1 f2 f3
        obtain ⟨y0, y1⟩ := cells2 y8
        have fy := thawed y8 0
        have fy1 := thawed y8 1
        obtain ⟨w9, hw9⟩ : ∃ u, (w8.setCell ⟨w.heap.size + 1, 0, none⟩ (.slice (some ⟨rb, 2, none⟩) (n - 1) (cc - 1))).setCell ⟨w.heap.size + 1, 1, none⟩ (.int .i64 pw) = u := ⟨_, rfl⟩
        have y9 : w9.heap[w.heap.size + 1]? = some (.cells #[.slice (some ⟨rb, 2, none⟩) (n - 1) (cc - 1), .int .i64 pw] 28) := by rw [← hw9]; exact set_cells (set_cells y8 0 _) 1 _
        have x9 : w9.heap[w.heap.size]? = some (.cells #[.int .i64 a, .int .i64 b, .int .i64 r, .int .i64 d] 25) := by rw [← hw9]; exact (Below.heap_setCell _ _ _ _ (by simp)).trans ((Below.heap_setCell _ _ _ _ (by simp)).trans x8)
        have HC9 : Hid (Cur c B w9) := by show Cur c B w9; rw [← hw9]; exact (HC8.out.setNew (by simp; omega) (by simp; omega) _).setNew (by simp; omega) (by simp; omega) _
        have HO9 : Hid (Only c w w9) := by show Only c w w9; rw [← hw9]; exact (HO8.out.setNew (by simp) _).setNew (by simp) _
        have HW9 : Hid (OwnK bs (.slice (some ⟨rb, 0, none⟩) n cc) lx w9) := by show OwnK _ _ _ w9; rw [← hw9]; exact (HW8.out.setCell (fun x hx => by cases hx; simp; omega) _).setCell (fun x hx => by cases hx; simp; omega) _
        clear x8 y8 g8 p8 HC8 HO8 HW8
        go_wp2_with fail
        refine stepQ_normal ⟨trivial, ?_⟩
        clear hw9 y0 y1 fy fy1
        obtain ⟨x0, x1, x2, x3⟩ := cells4 x9
        obtain ⟨y0, y1⟩ := cells2 y9
        go_wp2
        (try simp only [Exit.inBlock, Exit.then])
        refine bodyPost_ret (v := .tuple #[.agg #[.int .i64 a, .int .i64 b, .int .i64 r, .int .i64 d], .agg #[.slice (some ⟨rb, 2, none⟩) (n - 1) (cc - 1), .int .i64 pw]]) ?_ rfl ⟨_, _, _, _, _, _, _, _, _, rfl, HTL.out, by omega, ownK_tailRow HW9.out, (fun x hx => by cases hx; simp; omega), (fun h => by cases h), HC9.out, HO9.out⟩
        simp [results, Try.results64, go_sem, x0, x1, x2, x3, y0, y1]
  · obtain ⟨b0, b1, b2, b3⟩ := cells4 gX
    have f2 := thawed gX 2
    obtain ⟨wz, hwz⟩ : ∃ u, w6.setCell ⟨gk, 2, none⟩ (.int .i64 1) = u := ⟨_, rfl⟩
    have g7 : wz.heap[gk]? = some (.cells #[.int .i64 a, .int .i64 b, .int .i64 1, .int .i64 d] 25) := by rw [← hwz]; exact set_cells gX 2 _
    have x7 : wz.heap[w.heap.size]? = some (.cells #[.int .i64 0, .int .i64 0, .int .i64 0, .int .i64 0] 25) := by rw [← hwz]; exact (Below.heap_setCell _ _ _ _ (by simp; omega)).trans xX
    have y7 : wz.heap[w.heap.size + 1]? = some (.cells #[.slice none 0 0, .int .i64 0] 28) := by rw [← hwz]; exact (Below.heap_setCell _ _ _ _ (by simp; omega)).trans yX
    have p7 : wz.heap[pb]? = some (.cells #[.slice (some ⟨rb, 0, none⟩) n cc, .int .i64 pw] 28) := by rw [← hwz]; exact (Below.heap_setCell _ _ _ _ (by simp; omega)).trans pX
    have HC7 : Hid (Cur c B wz) := by show Cur c B wz; rw [← hwz]; exact HCX.out.setNew (by simp; omega) (by simp; omega) _
    have HO7 : Hid (Only c w wz) := by show Only c w wz; rw [← hwz]; exact HOX.out.setNew (by simp; omega) _
    obtain ⟨lx, hlx⟩ : ∃ lx, lx = l := ⟨_, rfl⟩
    have HW7 : Hid (OwnK bs (.slice (some ⟨rb, 0, none⟩) n cc) lx wz) := by
      show OwnK _ _ _ wz
      rw [← hwz, hlx]
      exact HWX.out.setCell (fun x hx => by cases hx; simp; omega) _
    have HTL : Hid (lx.length = n) := by show _ = _; rw [hlx]; exact HLN.out
    clear xX yX gX pX HCX HOX HWX hlx
    have xX := x7
    have yX := y7
    have gX := g7
    have pX := p7
    have HCX := HC7
    have HOX := HO7
    have HWX := HW7
    clear x7 y7 g7 p7 HC7 HO7 HW7
    go_wp2_with fail
    clear hwz b0 b1 b2 b3 f2
    refine wp_region_float (A := ?A5) [.h, .h, .t, .e] (by kernel_rfl) (by kernel_rfl) (fun u => u.heap[gk]? = some (.cells #[.int .i64 a, .int .i64 b, .int .i64 1, .int .i64 d] 25) ∧ u.heap[pb]? = some (.cells #[.slice (some ⟨rb, 0, none⟩) n cc, .int .i64 pw] 28)) ?hC5 ?hH5 ?hT5
    case hC5 => exact ⟨gX, pX⟩
    case hH5 =>
      intro u hu
      obtain ⟨b0, b1, b2, b3⟩ := cells4 hu.1
      obtain ⟨b4, b5⟩ := cells2 hu.2
      have s0 := fun q : Same u => q.cell b0
      have s1 := fun q : Same u => q.cell b1
      have s2 := fun q : Same u => q.cell b2
      have s3 := fun q : Same u => q.cell b3
      have s4 := fun q : Same u => q.cell b4
      have s5 := fun q : Same u => q.cell b5
      simp only [headsOf]
      repeat (go_big_quiet_step (fail))
      refine wpQuiet_nil ?_
      exact rfl
    case hT5 =>
      simp only [chainT]
      have xd : wz.drew.heap[w.heap.size]? = some (.cells #[.int .i64 0, .int .i64 0, .int .i64 0, .int .i64 0] 25) := xX
      have yd : wz.drew.heap[w.heap.size + 1]? = some (.cells #[.slice none 0 0, .int .i64 0] 28) := yX
      have gd : wz.drew.heap[gk]? = some (.cells #[.int .i64 a, .int .i64 b, .int .i64 1, .int .i64 d] 25) := gX
      have pd : wz.drew.heap[pb]? = some (.cells #[.slice (some ⟨rb, 0, none⟩) n cc, .int .i64 pw] 28) := pX
      have HCd : Hid (Cur c B wz.drew) := HCX.out
      have HOd : Hid (Only c w wz.drew) := HOX.out.drewN 1
      have HWd : Hid (OwnK bs (.slice (some ⟨rb, 0, none⟩) n cc) lx wz.drew) := HWX.out
      clear xX yX gX pX HCX HOX HWX
      generalize wz.drew = wd at xd yd gd pd HCd HOd HWd ⊢
      obtain ⟨x0, x1, x2, x3⟩ := cells4 xd
      have f0 := thawed xd 0
      have f1 := thawed xd 1
      have f2 := thawed xd 2
      have f3 := thawed xd 3
      obtain ⟨w8, hw8⟩ : ∃ u, (((wd.setCell ⟨w.heap.size, 0, none⟩ (.int .i64 a)).setCell ⟨w.heap.size, 1, none⟩ (.int .i64 b)).setCell ⟨w.heap.size, 2, none⟩ (.int .i64 1)).setCell ⟨w.heap.size, 3, none⟩ (.int .i64 d) = u := ⟨_, rfl⟩
      have x8 : w8.heap[w.heap.size]? = some (.cells #[.int .i64 a, .int .i64 b, .int .i64 1, .int .i64 d] 25) := by rw [← hw8]; exact set_cells (set_cells (set_cells (set_cells xd 0 _) 1 _) 2 _) 3 _
      have other8 : ∀ k, k ≠ w.heap.size → w8.heap[k]? = wd.heap[k]? := fun k hk => by
        rw [← hw8]
        exact (Below.heap_setCell _ _ _ _ hk).trans ((Below.heap_setCell _ _ _ _ hk).trans ((Below.heap_setCell _ _ _ _ hk).trans (Below.heap_setCell _ _ _ _ hk)))
      have y8 := (other8 (w.heap.size + 1) (by omega)).trans yd
      have g8 := (other8 gk (by omega)).trans gd
      have p8 := (other8 pb (by omega)).trans pd
      have HC8 : Hid (Cur c B w8) := by
        show Cur c B w8
        rw [← hw8]
        have h0 := HCd.out
        repeat' (first | exact h0 | refine Cur.setNew ?_ (by simp; omega) (by simp; omega) _)
      have HO8 : Hid (Only c w w8) := by
        show Only c w w8
        rw [← hw8]
        have h0 := HOd.out
        repeat' (first | exact h0 | refine Only.setNew ?_ (by simp) _)
      have HW8 : Hid (OwnK bs (.slice (some ⟨rb, 0, none⟩) n cc) lx w8) := by
        show OwnK _ _ _ w8
        rw [← hw8]
        have h0 := HWd.out
        repeat' (first | exact h0 | refine OwnK.setCell ?_ (fun x hx => by cases hx; simp; omega) _)
      clear other8 xd yd gd pd HCd HOd HWd
      go_wp2_with fail
      refine stepQ_normal ⟨⟨g8, p8⟩, ?_⟩
      clear hw8 x0 x1 x2 x3 f0 f1 f2 f3
      obtain ⟨y0, y1⟩ := cells2 y8
      have fy := thawed y8 0
      have fy1 := thawed y8 1
      obtain ⟨w9, hw9⟩ : ∃ u, (w8.setCell ⟨w.heap.size + 1, 0, none⟩ (.slice (some ⟨rb, 0, none⟩) n cc)).setCell ⟨w.heap.size + 1, 1, none⟩ (.int .i64 pw) = u := ⟨_, rfl⟩
      have y9 : w9.heap[w.heap.size + 1]? = some (.cells #[.slice (some ⟨rb, 0, none⟩) n cc, .int .i64 pw] 28) := by rw [← hw9]; exact set_cells (set_cells y8 0 _) 1 _
      have x9 : w9.heap[w.heap.size]? = some (.cells #[.int .i64 a, .int .i64 b, .int .i64 1, .int .i64 d] 25) := by rw [← hw9]; exact (Below.heap_setCell _ _ _ _ (by simp)).trans ((Below.heap_setCell _ _ _ _ (by simp)).trans x8)
      have HC9 : Hid (Cur c B w9) := by show Cur c B w9; rw [← hw9]; exact (HC8.out.setNew (by simp; omega) (by simp; omega) _).setNew (by simp; omega) (by simp; omega) _
      have HO9 : Hid (Only c w w9) := by show Only c w w9; rw [← hw9]; exact (HO8.out.setNew (by simp) _).setNew (by simp) _
      have HW9 : Hid (OwnK bs (.slice (some ⟨rb, 0, none⟩) n cc) lx w9) := by show OwnK _ _ _ w9; rw [← hw9]; exact (HW8.out.setCell (fun x hx => by cases hx; simp; omega) _).setCell (fun x hx => by cases hx; simp; omega) _
      clear x8 y8 g8 p8 HC8 HO8 HW8
      go_wp2_with fail
      refine stepQ_normal ⟨trivial, ?_⟩
      clear hw9 y0 y1 fy fy1
      obtain ⟨x0, x1, x2, x3⟩ := cells4 x9
      obtain ⟨y0, y1⟩ := cells2 y9
      go_wp2
      (try simp only [Exit.inBlock, Exit.then])
      refine bodyPost_ret (v := .tuple #[.agg #[.int .i64 a, .int .i64 b, .int .i64 1, .int .i64 d], .agg #[.slice (some ⟨rb, 0, none⟩) n cc, .int .i64 pw]]) ?_ rfl ⟨_, _, _, _, _, _, _, _, _, rfl, HTL.out, hn8, HW9.out.row, (fun x hx => by cases hx; simp; omega), (fun h => by cases h), HC9.out, HO9.out⟩
      simp [results, Try.results64, go_sem, x0, x1, x2, x3, y0, y1]
  · have t0 : (q == 0) = false := by simp; omega
    have t1 : (q == 1) = false := by simp; omega
    have t2 : (q == 2) = false := by simp; omega
    have t3 : (q == 3) = false := by simp; omega
    obtain ⟨lx, hlx⟩ : ∃ lx, lx = l := ⟨_, rfl⟩
    have HTL : Hid (lx.length = n) := by show _ = _; rw [hlx]; exact HLN.out
    rw [← hlx] at HWX
    clear hlx
    go_wp2_with fail
    refine wp_region_float (A := ?A6) [.h, .h, .t, .e] (by kernel_rfl) (by kernel_rfl) (fun u => u.heap[gk]? = some (.cells #[.int .i64 a, .int .i64 b, .int .i64 r, .int .i64 d] 25) ∧ u.heap[pb]? = some (.cells #[.slice (some ⟨rb, 0, none⟩) n cc, .int .i64 pw] 28)) ?hC6 ?hH6 ?hT6
    case hC6 => exact ⟨gX, pX⟩
    case hH6 =>
      intro u hu
      obtain ⟨b0, b1, b2, b3⟩ := cells4 hu.1
      obtain ⟨b4, b5⟩ := cells2 hu.2
      have s0 := fun q : Same u => q.cell b0
      have s1 := fun q : Same u => q.cell b1
      have s2 := fun q : Same u => q.cell b2
      have s3 := fun q : Same u => q.cell b3
      have s4 := fun q : Same u => q.cell b4
      have s5 := fun q : Same u => q.cell b5
      simp only [headsOf]
      repeat (go_big_quiet_step (fail))
      refine wpQuiet_nil ?_
      exact rfl
    case hT6 =>
      simp only [chainT]
      have xd : w6.drew.heap[w.heap.size]? = some (.cells #[.int .i64 0, .int .i64 0, .int .i64 0, .int .i64 0] 25) := xX
      have yd : w6.drew.heap[w.heap.size + 1]? = some (.cells #[.slice none 0 0, .int .i64 0] 28) := yX
      have gd : w6.drew.heap[gk]? = some (.cells #[.int .i64 a, .int .i64 b, .int .i64 r, .int .i64 d] 25) := gX
      have pd : w6.drew.heap[pb]? = some (.cells #[.slice (some ⟨rb, 0, none⟩) n cc, .int .i64 pw] 28) := pX
      have HCd : Hid (Cur c B w6.drew) := HCX.out
      have HOd : Hid (Only c w w6.drew) := HOX.out.drewN 1
      have HWd : Hid (OwnK bs (.slice (some ⟨rb, 0, none⟩) n cc) lx w6.drew) := HWX.out
      clear xX yX gX pX HCX HOX HWX
      generalize w6.drew = wd at xd yd gd pd HCd HOd HWd ⊢
      obtain ⟨x0, x1, x2, x3⟩ := cells4 xd
      have f0 := thawed xd 0
      have f1 := thawed xd 1
      have f2 := thawed xd 2
      have f3 := thawed xd 3
      obtain ⟨w8, hw8⟩ : ∃ u, (((wd.setCell ⟨w.heap.size, 0, none⟩ (.int .i64 a)).setCell ⟨w.heap.size, 1, none⟩ (.int .i64 b)).setCell ⟨w.heap.size, 2, none⟩ (.int .i64 r)).setCell ⟨w.heap.size, 3, none⟩ (.int .i64 d) = u := ⟨_, rfl⟩
      have x8 : w8.heap[w.heap.size]? = some (.cells #[.int .i64 a, .int .i64 b, .int .i64 r, .int .i64 d] 25) := by rw [← hw8]; exact set_cells (set_cells (set_cells (set_cells xd 0 _) 1 _) 2 _) 3 _
      have other8 : ∀ k, k ≠ w.heap.size → w8.heap[k]? = wd.heap[k]? := fun k hk => by
        rw [← hw8]
        exact (Below.heap_setCell _ _ _ _ hk).trans ((Below.heap_setCell _ _ _ _ hk).trans ((Below.heap_setCell _ _ _ _ hk).trans (Below.heap_setCell _ _ _ _ hk)))
      have y8 := (other8 (w.heap.size + 1) (by omega)).trans yd
      have g8 := (other8 gk (by omega)).trans gd
      have p8 := (other8 pb (by omega)).trans pd
      have HC8 : Hid (Cur c B w8) := by
        show Cur c B w8
        rw [← hw8]
        have h0 := HCd.out
        repeat' (first | exact h0 | refine Cur.setNew ?_ (by simp; omega) (by simp; omega) _)
      have HO8 : Hid (Only c w w8) := by
        show Only c w w8
        rw [← hw8]
        have h0 := HOd.out
        repeat' (first | exact h0 | refine Only.setNew ?_ (by simp) _)
      have HW8 : Hid (OwnK bs (.slice (some ⟨rb, 0, none⟩) n cc) lx w8) := by
        show OwnK _ _ _ w8
        rw [← hw8]
        have h0 := HWd.out
        repeat' (first | exact h0 | refine OwnK.setCell ?_ (fun x hx => by cases hx; simp; omega) _)
      clear other8 xd yd gd pd HCd HOd HWd
      go_wp2_with fail
      refine stepQ_normal ⟨⟨g8, p8⟩, ?_⟩
      clear hw8 x0 x1 x2 x3 f0 f1 f2 f3
      obtain ⟨y0, y1⟩ := cells2 y8
      have fy := thawed y8 0
      have fy1 := thawed y8 1
      obtain ⟨w9, hw9⟩ : ∃ u, (w8.setCell ⟨w.heap.size + 1, 0, none⟩ (.slice (some ⟨rb, 0, none⟩) n cc)).setCell ⟨w.heap.size + 1, 1, none⟩ (.int .i64 pw) = u := ⟨_, rfl⟩
      have y9 : w9.heap[w.heap.size + 1]? = some (.cells #[.slice (some ⟨rb, 0, none⟩) n cc, .int .i64 pw] 28) := by rw [← hw9]; exact set_cells (set_cells y8 0 _) 1 _
      have x9 : w9.heap[w.heap.size]? = some (.cells #[.int .i64 a, .int .i64 b, .int .i64 r, .int .i64 d] 25) := by rw [← hw9]; exact (Below.heap_setCell _ _ _ _ (by simp)).trans ((Below.heap_setCell _ _ _ _ (by simp)).trans x8)
      have HC9 : Hid (Cur c B w9) := by show Cur c B w9; rw [← hw9]; exact (HC8.out.setNew (by simp; omega) (by simp; omega) _).setNew (by simp; omega) (by simp; omega) _
      have HO9 : Hid (Only c w w9) := by show Only c w w9; rw [← hw9]; exact (HO8.out.setNew (by simp) _).setNew (by simp) _
      have HW9 : Hid (OwnK bs (.slice (some ⟨rb, 0, none⟩) n cc) lx w9) := by show OwnK _ _ _ w9; rw [← hw9]; exact (HW8.out.setCell (fun x hx => by cases hx; simp; omega) _).setCell (fun x hx => by cases hx; simp; omega) _
      clear x8 y8 g8 p8 HC8 HO8 HW8
      go_wp2_with fail
      refine stepQ_normal ⟨trivial, ?_⟩
      clear hw9 y0 y1 fy fy1
      obtain ⟨x0, x1, x2, x3⟩ := cells4 x9
      obtain ⟨y0, y1⟩ := cells2 y9
      go_wp2
      (try simp only [Exit.inBlock, Exit.then])
      refine bodyPost_ret (v := .tuple #[.agg #[.int .i64 a, .int .i64 b, .int .i64 r, .int .i64 d], .agg #[.slice (some ⟨rb, 0, none⟩) n cc, .int .i64 pw]]) ?_ rfl ⟨_, _, _, _, _, _, _, _, _, rfl, HTL.out, hn8, HW9.out.row, (fun x hx => by cases hx; simp; omega), (fun h => by cases h), HC9.out, HO9.out⟩
      simp [results, Try.results64, go_sem, x0, x1, x2, x3, y0, y1]


end Go.Proofs.Ytigoniochamjgaa
