/-
  impl's functions of ranks: a copy, what a command does, the state behind it.
-/
import Derived.Test.YtigoniochamjgaaBnkQ
namespace Go.Proofs.Ytigoniochamjgaa
open Go.RowKit Go.PlainAid

set_option linter.unusedVariables false


/-- A call that answers a row of banks of its own. -/
def GivesB (n : Nat) (l : List Bk) (w : World) (e : Ending) (w' : World) : Prop :=
  ∃ a cap, e = .returned (.slice a n cap) ∧ OwnK w.heap.size (.slice a n cap) l w' ∧ Below w.heap.size w w'

theorem rowB_src {w : World} {ad : Addr} {l : List Bk} (h : RowB w (some ad) l) : ∀ j u, (l.flatMap Bk.vs)[j]? = some u → w.cell? (ad.add j) = some u := by
  rcases h with rfl | ⟨b, off, hb, h⟩
  · intro j u hu; simp at hu
  · cases hb
    exact RowB.flat h

set_option maxHeartbeats 4000000 in
theorem implClone_is (a : Option Addr) (n c : Nat) (l : List Bk) (hl : l.length = n) (h1 : n ≤ 4000000) (hnc : a = none → c = 0) (w : World) (hr : RowB w a l) :
    Calls Try.prog 67 #[.slice a n c] w (GivesB n l w) := by
  obtain ⟨i0, hi, hz0, hz1, hz2⟩ := info_parts infoK
  have q0 : ∀ (w : World) (a : Option Addr) (n c n' c' : Nat), (Go.binOp .eql 26 (.slice a n c) (.slice none n' c')).run Try.prog w = .ok (.bool a.isNone) w := fun w a n c n' c' => Lib.run_eql_slice_nil w _ _ a n c n' c' Try.underlying26
  rcases a with _ | ad
  · have hl0 : l = [] := by rcases hr with h | ⟨_, _, h, _⟩; exact h; cases h
    subst hl0
    obtain rfl : n = 0 := hl.symm
    obtain rfl : c = 0 := hnc rfl
    clear hr hl hnc
    go_enter Try.func67, Try.ntmps67
    go_wp2
    go_ret
    exact ⟨none, 0, rfl, World.ownsRow_nil _ _ _ _, Below.refl _ _⟩
  · have HR := Lib.hid hr
    have HL := Lib.hid hl
    clear hr hl hnc
    go_enter Try.func67, Try.ntmps67
    have own3 := World.ownsRow_made (base := w.heap.size) (e := 39) (size := 2) w #[] 0 (Nat.le_refl _) (by decide) rfl
    have hb3 : Below w.heap.size w (w.alloc (.cells #[] 39)) := (Below.refl _ _).alloc (Nat.le_refl _) _
    have HR3 := Lib.hid (HR.out.below hb3)
    have hS3 : w.heap.size ≤ (w.alloc (.cells #[] 39)).heap.size := by simp
    go_wp2_with (at_builtin; refine wpList_append_own _ rfl _ _ 26 rfl w.heap.size 39 i0 (.agg #[.bool false, .int .i64 0]) 2 16 Try.underlying26 hi hz0 hz1 hz2 rfl (by decide) _ 0 [] rfl own3 ad n c (l.flatMap Bk.vs) rfl (by rw [vs_length, HL.out]) (rowB_src HR3.out) (vs_oneCell l) (by unfold maxLen; omega) (by omega) hS3 ?_)
    intro v' w4 hown4 hgrow _
    have O4 : Hid (OwnK w.heap.size v' l w4) := by
      show World.ownsRow _ _ _ _ _ _ _
      rw [HL.out]
      simpa using hown4
    have hb4 : Below w.heap.size (w.alloc (.cells #[] 39)) w4 := (Below.refl _ _).grown hgrow hS3 (fun j hj => (World.ownsRow.lt own3 j hj).1)
    have HB4 : Hid (Below w.heap.size w w4) := hb3.trans hb4
    have hsh : Hid (∃ aa cc, v' = .slice aa n cc) := by
      obtain ⟨aa, cc, h⟩ := O4.out.shape
      rw [HL.out] at h
      exact ⟨aa, cc, h⟩
    clear hown4 hgrow hb4 own3 hb3
    obtain ⟨aa, cc, rfl⟩ := hsh.out
    clear hsh
    go_wp2
    go_ret
    exact ⟨aa, cc, rfl, O4.out, HB4.out⟩



set_option maxHeartbeats 4000000 in
theorem implCopied_is (a : Option Addr) (n c : Nat) (l : List Bk) (pw : Int) (hl : l.length = n) (h1 : n ≤ 4000000) (hnc : a = none → c = 0) (w : World) (hr : RowB w a l) :
    Calls Try.prog 41 #[.agg #[.slice a n c, .int .i64 pw]] w (GivesK n l pw w) := by
  obtain ⟨w1, hw1⟩ : ∃ u, (w.alloc (.cells #[.slice a n c, .int .i64 pw] 28)).alloc (.cells #[.slice none 0 0, .int .i64 0] 28) = u := ⟨_, rfl⟩
  have hb1 : Below w.heap.size w w1 := by subst hw1; exact ((Below.refl _ _).alloc (Nat.le_refl _) _).alloc (by simp) _
  have g1 : w1.heap[w.heap.size]? = some (.cells #[.slice a n c, .int .i64 pw] 28) := by subst hw1; exact heap_alloc2_old _ _ _
  have p1 : w1.heap[w.heap.size + 1]? = some (.cells #[.slice none 0 0, .int .i64 0] 28) := by subst hw1; exact heap_alloc2_new _ _ _
  have HS1 : Hid (w.heap.size + 1 < w1.heap.size) := lt_of_block p1
  have HB1 := Lib.hid hb1
  have HR := Lib.hid (hr.below hb1)
  have HL := Lib.hid hl
  have HNC := Lib.hid hnc
  clear hr hl hb1 hnc
  go_enter Try.func41, Try.ntmps41
  go_wp2_with fail
  refine wp_region_float (A := ?A) [.h, .h, .t, .h, .h, .t, .e] (by kernel_rfl) (by kernel_rfl) (fun u => u.cell? ⟨w.heap.size, 0, none⟩ = some (.slice a n c) ∧ u.cell? ⟨w.heap.size, 1, none⟩ = some (.int .i64 pw)) ?hC ?hH ?hT
  case hC => exact cells2 g1
  case hH =>
    intro u hu
    have z0 := fun q : Same u => q.cell hu.1
    have z1 := fun q : Same u => q.cell hu.2
    simp only [headsOf]
    repeat (go_big_quiet_step (fail))
    refine wpQuiet_nil ?_
    exact rfl
  case hT =>
    simp only [chainT]
    have HBd : Hid (Below w.heap.size w w1.drew) := Below.drew HB1.out
    have HRd : Hid (RowB w1.drew a l) := HR.out
    have HSd : Hid (w.heap.size + 1 < w1.drew.heap.size) := HS1.out
    have gd : w1.drew.heap[w.heap.size]? = some (.cells #[.slice a n c, .int .i64 pw] 28) := g1
    have pd : w1.drew.heap[w.heap.size + 1]? = some (.cells #[.slice none 0 0, .int .i64 0] 28) := p1
    clear HB1 HR HS1 g1 p1 hw1
    generalize w1.drew = w2 at HBd HRd HSd gd pd ⊢
    go_wp2_with fail
    refine (implClone_is _ _ _ _ HL.out h1 HNC.out _ HRd.out).mono ?_
    rintro e w4 ⟨aa, cc, rfl, own4, hb4⟩
    have g4 := keep_block hb4 gd (lt_of_block gd)
    have p4 := keep_block hb4 pd (lt_of_block pd)
    have HB4 : Hid (Below w.heap.size w w4) := HBd.out.trans (hb4.mono (by have := HSd.out; omega))
    have fin : Hid (OwnK w.heap.size (.slice aa n cc) l ((w4.setCell ⟨w.heap.size + 1, 0, none⟩ (.slice aa n cc)).setCell ⟨w.heap.size + 1, 1, none⟩ (.int .i64 pw)) ∧ Below w.heap.size w ((w4.setCell ⟨w.heap.size + 1, 0, none⟩ (.slice aa n cc)).setCell ⟨w.heap.size + 1, 1, none⟩ (.int .i64 pw))) := by
      have hlo := own4.lo
      have hs := HSd.out
      refine ⟨OwnK.mono (B := w2.heap.size) ?_ (by omega), (HB4.out.setCell (by simp) _).setCell (by simp) _⟩
      exact (own4.setCell (fun x hx => by have := hlo x hx; simp; omega) _).setCell (fun x hx => by have := hlo x hx; simp; omega) _
    clear own4 hb4
    go_wp2_with fail
    refine stepQ_normal ⟨cells2 g4, ?_⟩
    go_wp2_with fail
    refine stepQ_normal ⟨cells2 g4, ?_⟩
    obtain ⟨b0, b1⟩ := cells2 p4
    have f0 := thawed p4 0
    have f1 := thawed p4 1
    go_wp2_with fail
    refine stepQ_normal ⟨trivial, ?_⟩
    go_wp2_with fail
    (try simp only [Exit.inBlock, Exit.then])
    refine bodyPost_ret (v := .agg #[.slice aa n cc, .int .i64 pw]) ?_ rfl ⟨_, _, rfl, fin.out.1, fin.out.2⟩
    simp [results, Try.results41, go_sem, b0, b1]



theorem after_kind {k : Int} (h : 1 ≤ k ∧ k ≤ 9) : k = 1 ∨ k = 4 ∨ k = 6 ∨ k = 8 ∨ k = 7 ∨ k = 9 ∨ (k = 2 ∨ k = 3 ∨ k = 5) := by omega

set_option maxHeartbeats 8000000 in
theorem implDone_is (a : Option Addr) (n c : Nat) (l : List Bk) (pw k x y z : Int) (hk : 1 ≤ k ∧ k ≤ 9) (hx : k ≤ 5 → 0 ≤ x ∧ x < (n : Int)) (hl : l.length = n) (h1 : n ≤ 4000000) (hnc : a = none → c = 0) (w : World) (hr : RowB w a l) :
    Calls Try.prog 42 #[.agg #[.slice a n c, .int .i64 pw], .agg #[.int .i64 k, .int .i64 x, .int .i64 y, .int .i64 z]] w (GivesK n (doL l k x y) (doP pw k) w) := by
  obtain ⟨w1, hw1⟩ : ∃ u, ((w.alloc (.cells #[.slice a n c, .int .i64 pw] 28)).alloc (.cells #[.int .i64 k, .int .i64 x, .int .i64 y, .int .i64 z] 30)).alloc (.cells #[.slice none 0 0, .int .i64 0] 28) = u := ⟨_, rfl⟩
  have HB1 : Hid (Below w.heap.size w w1) := by subst hw1; exact (((Below.refl _ _).alloc (Nat.le_refl _) _).alloc (by simp) _).alloc (by simp; omega) _
  have p1 : w1.heap[w.heap.size]? = some (.cells #[.slice a n c, .int .i64 pw] 28) := by subst hw1; exact box3_0 _ _ _ _
  have q1 : w1.heap[w.heap.size + 1]? = some (.cells #[.int .i64 k, .int .i64 x, .int .i64 y, .int .i64 z] 30) := by subst hw1; exact box3_1 _ _ _ _
  have s1 : w1.heap[w.heap.size + 1 + 1]? = some (.cells #[.slice none 0 0, .int .i64 0] 28) := by subst hw1; exact box3_2 _ _ _ _
  have HS1 : Hid (w.heap.size + 1 + 1 < w1.heap.size) := lt_of_block s1
  have HR := Lib.hid (hr.below HB1.out)
  have HL := Lib.hid hl
  have HNC := Lib.hid hnc
  have HX := Lib.hid hx
  have HK := Lib.hid hk
  obtain ⟨d0, d1⟩ := cells2 p1
  clear hr hl hnc hx hk
  go_enter Try.func42, Try.ntmps42
  go_wp2_with fail
  refine (implCopied_is _ _ _ _ _ HL.out h1 HNC.out _ HR.out).mono ?_
  rintro e w2 ⟨aa, cc, rfl, own2, hb2⟩
  have q2 := keep_block hb2 q1 (lt_of_block q1)
  have s2 := keep_block hb2 s1 (lt_of_block s1)
  have HB2 : Hid (Below w.heap.size w w2) := HB1.out.trans (hb2.mono HB1.out.size)
  have HS2 : Hid (w1.heap.size ≤ w2.heap.size) := hb2.size
  clear d0 d1 hw1 p1 q1 s1 HB1 HR hb2
  obtain ⟨w3, hw3⟩ : ∃ u, w2.alloc (.cells #[.slice aa n cc, .int .i64 pw] 28) = u := ⟨_, rfl⟩
  have hb3 : Below w2.heap.size w2 w3 := by subst hw3; exact (Below.refl _ _).alloc (Nat.le_refl _) _
  have q3 := keep_block hb3 q2 (lt_of_block q2)
  have s3 := keep_block hb3 s2 (lt_of_block s2)
  have t3 : w3.heap[w2.heap.size]? = some (.cells #[.slice aa n cc, .int .i64 pw] 28) := by subst hw3; exact heap_alloc_new _ _
  have HB3 : Hid (Below w.heap.size w w3) := HB2.out.trans (hb3.mono HB2.out.size)
  have O3 := Lib.hid (own2.below hb3)
  have HNE : Hid (∀ x, aa = some x → x.block ≠ w2.heap.size) := fun x hx => by have := (own2.lo x hx).2; omega
  have HNS : Hid (∀ x, aa = some x → x.block ≠ w.heap.size + 1 + 1) := fun x hx => by have := (own2.lo x hx).1; have := HS1.out; omega
  have HPS : Hid (w2.heap.size ≠ w.heap.size + 1 + 1) := by have := HS1.out; have := HS2.out; show _ ≠ _; omega
  clear hb3 own2 q2 s2 HB2
  obtain ⟨e0, e1, e2, e3⟩ := cells4 q3
  obtain ⟨x0, x1⟩ := cells2 t3
  obtain ⟨y0, y1⟩ := cells2 s3
  have f0 := thawed s3 0
  have f1 := thawed s3 1
  have F1 := thawed t3 1
  have fin : Hid (∀ (l' : List Bk) (pw' : Int) (w5 : World), OwnK w1.heap.size (.slice aa n cc) l' w5 → Below w.heap.size w w5 →
      OwnK w.heap.size (.slice aa n cc) l' ((w5.setCell ⟨w.heap.size + 1 + 1, 0, none⟩ (.slice aa n cc)).setCell ⟨w.heap.size + 1 + 1, 1, none⟩ (.int .i64 pw')) ∧
      Below w.heap.size w ((w5.setCell ⟨w.heap.size + 1 + 1, 0, none⟩ (.slice aa n cc)).setCell ⟨w.heap.size + 1 + 1, 1, none⟩ (.int .i64 pw'))) := by
    intro l' pw' w5 ho hb
    refine ⟨OwnK.mono (B := w1.heap.size) ((ho.setCell HNS.out _).setCell HNS.out _) (by have := HS1.out; omega), (hb.setCell (by simp; omega) _).setCell (by simp; omega) _⟩
  rcases after_kind HK.out with rfl | rfl | rfl | rfl | rfl | rfl | h
  · obtain ⟨hx0, hx1⟩ := HX.out (by omega)
    obtain ⟨j, rfl⟩ := Int.eq_ofNat_of_zero_le hx0
    have hj : j < n := by omega
    obtain ⟨g, rfl, ho0, ho1, hf, hBg, hgl⟩ := O3.out.at (k := j) (by rw [HL.out]; exact hj)
    have HG : Hid (w2.heap.size ≠ g) := Ne.symm (HNE.out _ rfl)
    have HGS : Hid (w.heap.size + 1 + 1 ≠ g) := Ne.symm (HNS.out _ rfl)
    have hf0 := hf (j * 2)
    have hf1 := hf (j * 2 + 1)
    obtain ⟨old0, hco0⟩ : ∃ u, w3.cell? ⟨g, j * 2, none⟩ = some u := ⟨_, ho0⟩
    obtain ⟨old1, hco1⟩ : ∃ u, w3.cell? ⟨g, j * 2 + 1, none⟩ = some u := ⟨_, ho1⟩
    have ta : (w3.setCell ⟨g, j * 2, none⟩ (.bool true)).heap[w2.heap.size]? = _ := (Below.heap_setCell _ _ _ _ HG.out).trans t3
    have tb : ((w3.setCell ⟨g, j * 2, none⟩ (.bool true)).setCell ⟨g, j * 2 + 1, none⟩ (.int .i64 y)).heap[w2.heap.size]? = _ := (Below.heap_setCell _ _ _ _ HG.out).trans ta
    have sa : (w3.setCell ⟨g, j * 2, none⟩ (.bool true)).heap[w.heap.size + 1 + 1]? = _ := (Below.heap_setCell _ _ _ _ HGS.out).trans s3
    have sb : ((w3.setCell ⟨g, j * 2, none⟩ (.bool true)).setCell ⟨g, j * 2 + 1, none⟩ (.int .i64 y)).heap[w.heap.size + 1 + 1]? = _ := (Below.heap_setCell _ _ _ _ HGS.out).trans sa
    obtain ⟨ta0, ta1⟩ := cells2 ta
    obtain ⟨tb0, tb1⟩ := cells2 tb
    obtain ⟨sa0, sa1⟩ := cells2 sa
    obtain ⟨sb0, sb1⟩ := cells2 sb
    have G := Lib.hid (fin.out (l.set j ⟨true, y⟩) pw ((w3.setCell ⟨g, j * 2, none⟩ (.bool true)).setCell ⟨g, j * 2 + 1, none⟩ (.int .i64 y)) (O3.out.stored HL.out (by rw [HL.out]; exact hj) ⟨true, y⟩) ((HB3.out.setCell (by have := HS1.out; show _ ≤ g; omega) _).setCell (by have := HS1.out; show _ ≤ g; omega) _))
    clear ho0 ho1 hf ta tb sa sb q3 fin
    go_wp2_with fail
    (try simp only [Exit.inBlock, Exit.then])
    refine bodyPost_ret (v := .agg #[.slice (some ⟨g, 0, none⟩) n cc, .int .i64 pw]) ?_ rfl ⟨_, _, rfl, G.out.1, G.out.2⟩
    simp [results, Try.results42, go_sem, sb0, sb1]
  · obtain ⟨hx0, hx1⟩ := HX.out (by omega)
    obtain ⟨j, rfl⟩ := Int.eq_ofNat_of_zero_le hx0
    have hj : j < n := by omega
    obtain ⟨g, rfl, ho0, ho1, hf, hBg, hgl⟩ := O3.out.at (k := j) (by rw [HL.out]; exact hj)
    have HG : Hid (w2.heap.size ≠ g) := Ne.symm (HNE.out _ rfl)
    have HGS : Hid (w.heap.size + 1 + 1 ≠ g) := Ne.symm (HNS.out _ rfl)
    have hf0 := hf (j * 2)
    have hf1 := hf (j * 2 + 1)
    obtain ⟨old0, hco0⟩ : ∃ u, w3.cell? ⟨g, j * 2, none⟩ = some u := ⟨_, ho0⟩
    obtain ⟨old1, hco1⟩ : ∃ u, w3.cell? ⟨g, j * 2 + 1, none⟩ = some u := ⟨_, ho1⟩
    have ta : (w3.setCell ⟨g, j * 2, none⟩ (.bool false)).heap[w2.heap.size]? = _ := (Below.heap_setCell _ _ _ _ HG.out).trans t3
    have tb : ((w3.setCell ⟨g, j * 2, none⟩ (.bool false)).setCell ⟨g, j * 2 + 1, none⟩ (.int .i64 0)).heap[w2.heap.size]? = _ := (Below.heap_setCell _ _ _ _ HG.out).trans ta
    have sa : (w3.setCell ⟨g, j * 2, none⟩ (.bool false)).heap[w.heap.size + 1 + 1]? = _ := (Below.heap_setCell _ _ _ _ HGS.out).trans s3
    have sb : ((w3.setCell ⟨g, j * 2, none⟩ (.bool false)).setCell ⟨g, j * 2 + 1, none⟩ (.int .i64 0)).heap[w.heap.size + 1 + 1]? = _ := (Below.heap_setCell _ _ _ _ HGS.out).trans sa
    obtain ⟨ta0, ta1⟩ := cells2 ta
    obtain ⟨tb0, tb1⟩ := cells2 tb
    obtain ⟨sa0, sa1⟩ := cells2 sa
    obtain ⟨sb0, sb1⟩ := cells2 sb
    have G := Lib.hid (fin.out (l.set j bk0) pw ((w3.setCell ⟨g, j * 2, none⟩ (.bool false)).setCell ⟨g, j * 2 + 1, none⟩ (.int .i64 0)) (O3.out.stored HL.out (by rw [HL.out]; exact hj) bk0) ((HB3.out.setCell (by have := HS1.out; show _ ≤ g; omega) _).setCell (by have := HS1.out; show _ ≤ g; omega) _))
    clear ho0 ho1 hf ta tb sa sb q3 fin
    go_wp2_with fail
    (try simp only [Exit.inBlock, Exit.then])
    refine bodyPost_ret (v := .agg #[.slice (some ⟨g, 0, none⟩) n cc, .int .i64 pw]) ?_ rfl ⟨_, _, rfl, G.out.1, G.out.2⟩
    simp [results, Try.results42, go_sem, sb0, sb1]
  · have tb : (w3.setCell ⟨w2.heap.size, 1, none⟩ (.int .i64 1)).heap[w2.heap.size]? = _ := set_cells t3 1 _
    have sb : (w3.setCell ⟨w2.heap.size, 1, none⟩ (.int .i64 1)).heap[w.heap.size + 1 + 1]? = _ := (Below.heap_setCell _ _ _ _ (Ne.symm HPS.out)).trans s3
    obtain ⟨tb0, tb1⟩ := cells2 tb
    obtain ⟨sb0, sb1⟩ := cells2 sb
    have G := Lib.hid (fin.out l 1 (w3.setCell ⟨w2.heap.size, 1, none⟩ (.int .i64 1)) (O3.out.setCell HNE.out _) (HB3.out.setCell (by have := HS1.out; have := HS2.out; show _ ≤ w2.heap.size; omega) _))
    clear tb sb q3 fin
    go_wp2_with fail
    (try simp only [Exit.inBlock, Exit.then])
    refine bodyPost_ret (v := .agg #[.slice aa n cc, .int .i64 1]) ?_ rfl ⟨_, _, rfl, G.out.1, G.out.2⟩
    simp [results, Try.results42, go_sem, sb0, sb1]
  · have tb : (w3.setCell ⟨w2.heap.size, 1, none⟩ (.int .i64 2)).heap[w2.heap.size]? = _ := set_cells t3 1 _
    have sb : (w3.setCell ⟨w2.heap.size, 1, none⟩ (.int .i64 2)).heap[w.heap.size + 1 + 1]? = _ := (Below.heap_setCell _ _ _ _ (Ne.symm HPS.out)).trans s3
    obtain ⟨tb0, tb1⟩ := cells2 tb
    obtain ⟨sb0, sb1⟩ := cells2 sb
    have G := Lib.hid (fin.out l 2 (w3.setCell ⟨w2.heap.size, 1, none⟩ (.int .i64 2)) (O3.out.setCell HNE.out _) (HB3.out.setCell (by have := HS1.out; have := HS2.out; show _ ≤ w2.heap.size; omega) _))
    clear tb sb q3 fin
    go_wp2_with fail
    (try simp only [Exit.inBlock, Exit.then])
    refine bodyPost_ret (v := .agg #[.slice aa n cc, .int .i64 2]) ?_ rfl ⟨_, _, rfl, G.out.1, G.out.2⟩
    simp [results, Try.results42, go_sem, sb0, sb1]
  · have tb : (w3.setCell ⟨w2.heap.size, 1, none⟩ (.int .i64 0)).heap[w2.heap.size]? = _ := set_cells t3 1 _
    have sb : (w3.setCell ⟨w2.heap.size, 1, none⟩ (.int .i64 0)).heap[w.heap.size + 1 + 1]? = _ := (Below.heap_setCell _ _ _ _ (Ne.symm HPS.out)).trans s3
    obtain ⟨tb0, tb1⟩ := cells2 tb
    obtain ⟨sb0, sb1⟩ := cells2 sb
    have G := Lib.hid (fin.out l 0 (w3.setCell ⟨w2.heap.size, 1, none⟩ (.int .i64 0)) (O3.out.setCell HNE.out _) (HB3.out.setCell (by have := HS1.out; have := HS2.out; show _ ≤ w2.heap.size; omega) _))
    clear tb sb q3 fin
    go_wp2_with fail
    (try simp only [Exit.inBlock, Exit.then])
    refine bodyPost_ret (v := .agg #[.slice aa n cc, .int .i64 0]) ?_ rfl ⟨_, _, rfl, G.out.1, G.out.2⟩
    simp [results, Try.results42, go_sem, sb0, sb1]
  · have tb : (w3.setCell ⟨w2.heap.size, 1, none⟩ (.int .i64 0)).heap[w2.heap.size]? = _ := set_cells t3 1 _
    have sb : (w3.setCell ⟨w2.heap.size, 1, none⟩ (.int .i64 0)).heap[w.heap.size + 1 + 1]? = _ := (Below.heap_setCell _ _ _ _ (Ne.symm HPS.out)).trans s3
    obtain ⟨tb0, tb1⟩ := cells2 tb
    obtain ⟨sb0, sb1⟩ := cells2 sb
    have G := Lib.hid (fin.out l 0 (w3.setCell ⟨w2.heap.size, 1, none⟩ (.int .i64 0)) (O3.out.setCell HNE.out _) (HB3.out.setCell (by have := HS1.out; have := HS2.out; show _ ≤ w2.heap.size; omega) _))
    clear tb sb q3 fin
    go_wp2_with fail
    (try simp only [Exit.inBlock, Exit.then])
    refine bodyPost_ret (v := .agg #[.slice aa n cc, .int .i64 0]) ?_ rfl ⟨_, _, rfl, G.out.1, G.out.2⟩
    simp [results, Try.results42, go_sem, sb0, sb1]
  · have G := Lib.hid (fin.out l pw w3 O3.out HB3.out)
    clear q3 fin
    rcases h with rfl | rfl | rfl
    all_goals (
      go_wp2_with fail
      (try simp only [Exit.inBlock, Exit.then])
      refine bodyPost_ret (v := .agg #[.slice aa n cc, .int .i64 pw]) ?_ rfl ⟨_, _, rfl, G.out.1, G.out.2⟩
      simp [results, Try.results42, go_sem, y0, y1])



set_option maxHeartbeats 4000000 in
theorem implAfter_is : IRankAfter := by
  intro g0 B g2 g3 a n c l pw k x y z v l' pw' hv hl' hp' hl h1 hnc w hr
  obtain ⟨w1, hw1⟩ : ∃ u, (((w.alloc (.cells #[.int .i64 g0, .int .i64 B, .int .i64 g2, .int .i64 g3] 25)).alloc (.cells #[.slice a n c, .int .i64 pw] 28)).alloc (.cells #[.int .i64 k, .int .i64 x, .int .i64 y, .int .i64 z] 30)).alloc (.cells #[.slice none 0 0, .int .i64 0] 28) = u := ⟨_, rfl⟩
  have hb1 : Below w.heap.size w w1 := by subst hw1; exact ((((Below.refl _ _).alloc (Nat.le_refl _) _).alloc (by simp) _).alloc (by simp; omega) _).alloc (by simp; omega) _
  have g1 : w1.heap[w.heap.size]? = some (.cells #[.int .i64 g0, .int .i64 B, .int .i64 g2, .int .i64 g3] 25) := by subst hw1; exact four_0 _ _ _ _ _
  have p1 : w1.heap[w.heap.size + 1]? = some (.cells #[.slice a n c, .int .i64 pw] 28) := by subst hw1; exact four_1 _ _ _ _ _
  have q1 : w1.heap[w.heap.size + 1 + 1]? = some (.cells #[.int .i64 k, .int .i64 x, .int .i64 y, .int .i64 z] 30) := by subst hw1; exact four_2 _ _ _ _ _
  have s1 : w1.heap[w.heap.size + 1 + 1 + 1]? = some (.cells #[.slice none 0 0, .int .i64 0] 28) := by subst hw1; exact four_3 _ _ _ _ _
  have HS1 : Hid (w.heap.size + 1 + 1 + 1 < w1.heap.size) := lt_of_block s1
  obtain ⟨c0, c1, c2, c3⟩ := cells4 g1
  obtain ⟨d0, d1⟩ := cells2 p1
  obtain ⟨e0, e1, e2, e3⟩ := cells4 q1
  have HB1 := Lib.hid hb1
  have HR := Lib.hid (hr.below hb1)
  have HNC := Lib.hid hnc
  clear hr hb1 hnc
  have HV := Lib.hid hv
  have ARG : Hid (v = true → (1 ≤ k ∧ k ≤ 9) ∧ (k ≤ 5 → 0 ≤ x ∧ x < (n : Int)) ∧ l' = doL l k x y ∧ pw' = doP pw k) := fun h => by
    rw [h] at hv
    have hd := hv
    unfold allowR at hd
    rw [Bool.and_eq_true, decide_eq_true_eq] at hd
    exact ⟨hd.1.2.1.1, fun _ => bank_in (k := k) hl hd.1.1 hd.1.2.2, by rw [← hl']; exact if_pos hv, by rw [← hp']; exact if_pos hv⟩
  have ARG0 : Hid (v = false → l' = l ∧ pw' = pw) := fun h => by
    have hn : ¬ allowR g0 B g2 g3 l pw k x y z = true := by rw [hv, h]; simp
    exact ⟨by rw [← hl']; exact if_neg hn, by rw [← hp']; exact if_neg hn⟩
  clear hv hl' hp'
  go_enter Try.func13, Try.ntmps13
  go_wp2_with fail
  refine (implAllowed_is _ _ _ _ _ _ _ _ _ _ _ _ _ _ HV.out hl h1 HNC.out _ HR.out).mono ?_
  rintro e w2 ⟨rfl, hb2⟩
  have p2 := keep_block hb2 p1 (lt_of_block p1)
  have q2 := keep_block hb2 q1 (lt_of_block q1)
  have s2 := keep_block hb2 s1 (lt_of_block s1)
  have HB2 : Hid (Below w.heap.size w w2) := HB1.out.trans (hb2.mono HB1.out.size)
  have HR2 := Lib.hid (HR.out.below hb2)
  have HS2 : Hid (w1.heap.size ≤ w2.heap.size) := hb2.size
  clear c0 c1 c2 c3 d0 d1 e0 e1 e2 e3 hw1 g1 p1 q1 s1 HB1 HR hb2
  obtain ⟨d0, d1⟩ := cells2 p2
  obtain ⟨e0, e1, e2, e3⟩ := cells4 q2
  have fin : Hid (∀ (aa : Option Addr) (cc : Nat) (l' : List Bk) (pw' : Int) (w5 : World), OwnK w2.heap.size (.slice aa n cc) l' w5 → Below w2.heap.size w2 w5 →
      OwnK w.heap.size (.slice aa n cc) l' ((w5.setCell ⟨w.heap.size + 1 + 1 + 1, 0, none⟩ (.slice aa n cc)).setCell ⟨w.heap.size + 1 + 1 + 1, 1, none⟩ (.int .i64 pw')) ∧
      Below w.heap.size w ((w5.setCell ⟨w.heap.size + 1 + 1 + 1, 0, none⟩ (.slice aa n cc)).setCell ⟨w.heap.size + 1 + 1 + 1, 1, none⟩ (.int .i64 pw'))) := by
    intro aa cc l' pw' w5 ho hb
    have hs := HS1.out
    have hs2 := HS2.out
    have hlo := ho.lo
    refine ⟨OwnK.mono (B := w2.heap.size) ?_ (by omega), ((HB2.out.trans (hb.mono HB2.out.size)).setCell (by simp; omega) _).setCell (by simp; omega) _⟩
    exact (ho.setCell (fun x hx => by have := hlo x hx; simp; omega) _).setCell (fun x hx => by have := hlo x hx; simp; omega) _
  cases v
  · obtain ⟨rfl, rfl⟩ := ARG0.out rfl
    clear ARG0 ARG
    go_wp2_with fail
    refine (implCopied_is _ _ _ _ _ hl h1 HNC.out _ HR2.out).mono ?_
    rintro e w3 ⟨aa, cc, rfl, own3, hb3⟩
    have s3 := keep_block hb3 s2 (lt_of_block s2)
    obtain ⟨y0, y1⟩ := cells2 s3
    have f0 := thawed s3 0
    have f1 := thawed s3 1
    have G := Lib.hid (fin.out aa cc _ pw' w3 own3 hb3)
    clear own3 hb3 fin
    go_wp2_with fail
    (try simp only [Exit.inBlock, Exit.then])
    refine bodyPost_ret (v := .tuple #[.agg #[.slice aa n cc, .int .i64 pw'], .bool false]) ?_ rfl ⟨_, _, rfl, G.out.1, G.out.2⟩
    simp [results, Try.results13, go_sem, y0, y1]
  · obtain ⟨hkk, hxx, rfl, rfl⟩ := ARG.out rfl
    clear ARG0 ARG
    have HK := Lib.hid hkk
    have HX := Lib.hid hxx
    clear hkk hxx
    go_wp2_with fail
    refine (implDone_is _ _ _ _ _ _ _ _ _ HK.out HX.out hl h1 HNC.out _ HR2.out).mono ?_
    rintro e w3 ⟨aa, cc, rfl, own3, hb3⟩
    have s3 := keep_block hb3 s2 (lt_of_block s2)
    obtain ⟨y0, y1⟩ := cells2 s3
    have f0 := thawed s3 0
    have f1 := thawed s3 1
    have G := Lib.hid (fin.out aa cc _ (doP pw k) w3 own3 hb3)
    clear own3 hb3 fin
    go_wp2_with fail
    (try simp only [Exit.inBlock, Exit.then])
    refine bodyPost_ret (v := .tuple #[.agg #[.slice aa n cc, .int .i64 (doP pw k)], .bool true]) ?_ rfl ⟨_, _, rfl, G.out.1, G.out.2⟩
    simp [results, Try.results13, go_sem, y0, y1]


end Go.Proofs.Ytigoniochamjgaa
