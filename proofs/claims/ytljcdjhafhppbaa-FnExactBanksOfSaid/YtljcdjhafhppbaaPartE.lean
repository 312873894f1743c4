/-
  The walks of the exact statements over partitions, out of the contracts.
-/
import Derived.Test.YtljcdjhafhppbaaPartL
import Derived.Test.YtljcdjhafhppbaaPartX
import Derived.Test.YtljcdjhafhppbaaFlowS
namespace Go.Proofs.Ytljcdjhafhppbaa
open Go.RowKit

set_option linter.unusedVariables false

theorem below_alloc {w : World} (o : Obj) : Below w.heap.size w (w.alloc o) := (Below.refl _ _).alloc (Nat.le_refl _) _

set_option maxHeartbeats 4000000 in
set_option maxRecDepth 100000 in
theorem exPartitionOk_walk (a b r d : Int) (l : List Value) (w : World) (_ : (Lit.int .i64 a).wf = true) (_ : (Lit.int .i64 b).wf = true) (_ : (Lit.int .i64 r).wf = true) (_ : (Lit.int .i64 d).wf = true) (s : Sh.Fits w (.and (.row (.num .i64)) .fin) l) :
    Calls Try.prog 5 #[.agg #[.int .i64 a, .int .i64 b, .int .i64 r, .int .i64 d], .agg l.toArray] w fun e w' => e = .returned (.bool true) ∧ Below w.heap.size w w' := by
  obtain ⟨ad, n, cap, zs, rfl, hz, hr, hw, hn⟩ := part_in s
  obtain ⟨v, hv⟩ : ∃ v, decide (PtOk a b r d zs) = v := ⟨_, rfl⟩
  have HV := Lib.hid hv
  have HZ := Lib.hid hz
  have HW := Lib.hid hw
  obtain ⟨sv, hsv⟩ : ∃ v : Int, (if (1048576 : Int) - (n : Int) < 0 then -1 else 1048576 - (n : Int)) = v := ⟨_, rfl⟩
  have HSV := Lib.hid hsv
  obtain ⟨w1, hw1⟩ : ∃ u, (w.alloc (.cells #[.int .i64 a, .int .i64 b, .int .i64 r, .int .i64 d] 43)).alloc (.cells #[.slice ad n cap] 44) = u := ⟨_, rfl⟩
  have HB1 : Hid (Below w.heap.size w w1) := by subst hw1; exact ((Below.refl _ _).alloc (Nat.le_refl _) _).alloc (by simp) _
  have g1 : w1.heap[w.heap.size]? = some (.cells #[.int .i64 a, .int .i64 b, .int .i64 r, .int .i64 d] 43) := by subst hw1; exact heap_alloc2_old _ _ _
  have p1 : w1.heap[w.heap.size + 1]? = some (.cells #[.slice ad n cap] 44) := by subst hw1; exact heap_alloc2_new _ _ _
  have HR1 := Lib.hid (hr.below HB1.out)
  have cp := cell1 p1
  clear hz hr hw hv
  go_enter Try.func5, Try.ntmps5
  go_wp2_with fail
  refine (szPartition_is _ _ _ 1048576 sv hn (by omega) (by omega) HSV.out _).mono ?_
  rintro e w2 ⟨rfl, hb2⟩
  have g2 := keep_block hb2 g1 (lt_of_block g1)
  have p2 := keep_block hb2 p1 (lt_of_block p1)
  have HB2 : Hid (Below w.heap.size w w2) := HB1.out.trans (hb2.mono HB1.out.size)
  have HR2 := Lib.hid (HR1.out.below hb2)
  clear hb2 g1 p1 HB1 HR1 cp hw1
  by_cases hbig : (1048576 : Int) - n < 0
  · have hs : sv < 0 := by rw [← hsv, if_pos hbig]; omega
    clear hsv hbig
    go_wp2
    go_ret
    exact ⟨rfl, HB2.out⟩
  have hs : 0 ≤ sv := by rw [← hsv, if_neg hbig]; omega
  have hn2 : n ≤ 1048576 := by omega
  clear hsv hbig hn
  go_wp2_with fail
  refine wp_region_float (A := ?A1) [.h, .t, .h, .t, .t, .e] (by kernel_rfl) (by kernel_rfl) (fun u => u.heap[w.heap.size]? = some (.cells #[.int .i64 a, .int .i64 b, .int .i64 r, .int .i64 d] 43) ∧ u.heap[w.heap.size + 1]? = some (.cells #[.slice ad n cap] 44)) ?hC1 ?hH1 ?hT1
  case hC1 => exact ⟨g2, p2⟩
  case hH1 =>
    intro u hu
    obtain ⟨c0, c1, c2, c3⟩ := cells4 hu.1
    have c4 := cell1 hu.2
    have z0 := fun q : Same u => q.cell c0
    have z1 := fun q : Same u => q.cell c1
    have z2 := fun q : Same u => q.cell c2
    have z3 := fun q : Same u => q.cell c3
    have z4 := fun q : Same u => q.cell c4
    simp only [headsOf]
    repeat (go_big_quiet_step (fail))
    refine wpQuiet_nil ?_
    exact rfl
  case hT1 =>
    simp only [chainT]
    have HRd : Hid (RowI w2.drew ad zs) := HR2.out
    have HBd : Hid (Below w.heap.size w w2.drew) := HB2.out.drew
    have gd : w2.drew.heap[w.heap.size]? = some (.cells #[.int .i64 a, .int .i64 b, .int .i64 r, .int .i64 d] 43) := g2
    have pd : w2.drew.heap[w.heap.size + 1]? = some (.cells #[.slice ad n cap] 44) := p2
    clear g2 p2 HB2 HR2
    go_wp2_with fail
    refine (toGeometry_any _ _ _ _ _).mono ?_
    rintro e w3 ⟨rfl, hb3⟩
    have g3 := keep_block hb3 gd (lt_of_block gd)
    have p3 := keep_block hb3 pd (lt_of_block pd)
    have HB3 : Hid (Below w.heap.size w w3) := HBd.out.trans (hb3.mono HBd.out.size)
    have HR3 := Lib.hid (HRd.out.below hb3)
    clear hb3 gd pd HBd HRd
    go_wp2_with fail
    refine stepQ_normal ⟨⟨g3, p3⟩, ?_⟩
    go_wp2_with fail
    refine (toPartition_is _ _ _ _ HZ.out (by omega) _ HR3.out).mono ?_
    intro e w4 hgp
    obtain ⟨aa, cc, rfl, own4, hb4⟩ := givesP_len HZ.out hgp
    have g4 := keep_block hb4 g3 (lt_of_block g3)
    have p4 := keep_block hb4 p3 (lt_of_block p3)
    have HB4 : Hid (Below w.heap.size w w4) := HB3.out.trans (hb4.mono HB3.out.size)
    have HR4 := Lib.hid (HR3.out.below hb4)
    have HQ4 : Hid (RowI w4 aa zs) := own4.row
    clear hb4 g3 p3 HB3 HR3 own4 hgp
    go_wp2_with fail
    refine stepQ_normal ⟨⟨g4, p4⟩, ?_⟩
    go_wp2_with fail
    refine (specPtOk_is _ _ _ _ _ _ _ _ HZ.out (by omega) _ HV.out _ HQ4.out).mono ?_
    rintro e w5 ⟨rfl, hb5⟩
    have g5 := keep_block hb5 g4 (lt_of_block g4)
    have p5 := keep_block hb5 p4 (lt_of_block p4)
    have HB5 : Hid (Below w.heap.size w w5) := HB4.out.trans (hb5.mono HB4.out.size)
    have HR5 := Lib.hid (HR4.out.below hb5)
    clear hb5 g4 p4 HB4 HR4 HQ4
    go_wp2_with fail
    refine stepQ_normal ⟨⟨g5, p5⟩, ?_⟩
    go_wp2_with fail
    refine stepQ_normal ⟨trivial, ?_⟩
    have cp5 := cell1 p5
    go_wp2_with fail
    refine (toPartition_is _ _ _ _ HZ.out (by omega) _ HR5.out).mono ?_
    intro e w6 hgp
    obtain ⟨ab, cb, rfl, own6, hb6⟩ := givesP_len HZ.out hgp
    have g6 := keep_block hb6 g5 (lt_of_block g5)
    have p6 := keep_block hb6 p5 (lt_of_block p5)
    have HB6 : Hid (Below w.heap.size w w6) := HB5.out.trans (hb6.mono HB5.out.size)
    have HR6 := Lib.hid (HR5.out.below hb6)
    obtain ⟨w7, hw7⟩ : ∃ u, w6.alloc (.cells #[.slice ab n cb] 28) = u := ⟨_, rfl⟩
    have hb7 : Below w6.heap.size w6 w7 := by rw [← hw7]; exact below_alloc _
    have q7 : w7.heap[w6.heap.size]? = some (.cells #[.slice ab n cb] 28) := by rw [← hw7]; exact heap_alloc_new _ _
    have g7 := keep_block hb7 g6 (lt_of_block g6)
    have p7 := keep_block hb7 p6 (lt_of_block p6)
    have HB7 : Hid (Below w.heap.size w w7) := HB6.out.trans (hb7.mono HB6.out.size)
    have HR7 := Lib.hid (HR6.out.below hb7)
    have HO7 := Lib.hid (own6.below hb7)
    obtain ⟨pb, hpb⟩ : ∃ u, w6.heap.size = u := ⟨_, rfl⟩
    rw [hpb] at q7
    clear hb6 hb7 g5 p5 g6 p6 HB5 HB6 HR5 HR6 own6 hgp cp5
    obtain ⟨c0, c1, c2, c3⟩ := cells4 g7
    have c5 := cell1 q7
    have z0 := fun zz : Later w7 => zz.cell c0
    have z1 := fun zz : Later w7 => zz.cell c1
    have z2 := fun zz : Later w7 => zz.cell c2
    have z3 := fun zz : Later w7 => zz.cell c3
    have z5 := fun zz : Later w7 => zz.cell c5
    have hrow := Lib.hid (fun zz : Later w7 => HO7.out.row.below zz.ok)
    go_wp2_with fail
    clear hw7
    (try simp only [hpb])
    refine wp_region_later (by kernel_rfl) (by kernel_rfl) ?_
    repeat (go_big_quiet_step (first | (go_at_call 23; exact Gives.later _ (toGeometry_any _ _ _ _ _)) | (go_at_call 13; exact Gives.later _ (implPtOk_is _ _ _ _ _ _ _ _ HZ.out (by omega) _ HV.out _ (hrow.out _)))))
    refine wpQuiet_nil ?_
    rintro w8 ⟨zz, hzz⟩
    have hb8 : Below w7.heap.size w7 w8 := hzz ▸ zz.ok
    have p8 := keep_block hb8 p7 (lt_of_block p7)
    have q8 := keep_block hb8 q7 (lt_of_block q7)
    have HB8 : Hid (Below w.heap.size w w8) := HB7.out.trans (hb8.mono HB7.out.size)
    have HR8 := Lib.hid (HR7.out.below hb8)
    have HO8 := Lib.hid (HO7.out.below hb8)
    have tvv : (v != v) = false := by simp
    clear hzz zz hb8 g7 p7 q7 HB7 HR7 HO7 hrow z0 z1 z2 z3 z5 c0 c1 c2 c3 c5 hpb
    go_wp2_with fail
    refine wp_region_float (A := ?A9) [.h, .h, .t, .t, .e] (by kernel_rfl) (by kernel_rfl) (fun u => u.heap[w.heap.size + 1]? = some (.cells #[.slice ad n cap] 44) ∧ u.heap[pb]? = some (.cells #[.slice ab n cb] 28)) ?hC2 ?hH2 ?hT2
    case hC2 => exact ⟨p8, q8⟩
    case hH2 =>
      intro u hu
      have c4 := cell1 hu.1
      have c5 := cell1 hu.2
      have z4 := fun q : Same u => q.cell c4
      have z5 := fun q : Same u => q.cell c5
      simp only [headsOf]
      repeat (go_big_quiet_step (fail))
      refine wpQuiet_nil ?_
      exact rfl
    case hT2 =>
      simp only [chainT]
      have HRd : Hid (RowI w8.drew ad zs) := HR8.out
      have HBd : Hid (Below w.heap.size w w8.drew) := HB8.out.drew
      have HOd : Hid (OwnI w5.heap.size (.slice ab n cb) zs w8.drew) := HO8.out
      have pd : w8.drew.heap[w.heap.size + 1]? = some (.cells #[.slice ad n cap] 44) := p8
      have qd : w8.drew.heap[pb]? = some (.cells #[.slice ab n cb] 28) := q8
      clear p8 q8 HB8 HR8 HO8
      go_wp2_with fail
      refine (toPartition_is _ _ _ _ HZ.out (by omega) _ HRd.out).mono ?_
      intro e w9 hgp
      obtain ⟨ac, cc2, rfl, own9, hb9⟩ := givesP_len HZ.out hgp
      have p9 := keep_block hb9 pd (lt_of_block pd)
      have q9 := keep_block hb9 qd (lt_of_block qd)
      have HB9 : Hid (Below w.heap.size w w9) := HBd.out.trans (hb9.mono HBd.out.size)
      have HO9 := Lib.hid (HOd.out.below hb9)
      have HP9 := Lib.hid own9
      clear hb9 pd qd HBd HRd HOd own9 hgp
      go_wp2_with fail
      refine stepQ_normal ⟨⟨p9, q9⟩, ?_⟩
      go_wp2_with fail
      refine (eqPartition_is HZ.out HO9.out HP9.out (by omega)).mono ?_
      rintro e w10 ⟨rfl, hb10⟩
      have p10 := keep_block hb10 p9 (lt_of_block p9)
      have q10 := keep_block hb10 q9 (lt_of_block q9)
      have HB10 : Hid (Below w.heap.size w w10) := HB9.out.trans (hb10.mono HB9.out.size)
      clear hb10 p9 q9 HB9 HO9 HP9
      go_wp2_with fail
      refine stepQ_normal ⟨⟨p10, q10⟩, ?_⟩
      go_wp2_with fail
      refine stepQ_normal ⟨trivial, ?_⟩
      go_wp2_with fail
      go_ret
      exact ⟨rfl, HB10.out⟩

set_option maxHeartbeats 4000000 in
set_option maxRecDepth 100000 in
theorem exTenantLines_walk (a b r d : Int) (l : List Value) (t : Int) (w : World) (_ : (Lit.int .i64 a).wf = true) (_ : (Lit.int .i64 b).wf = true) (_ : (Lit.int .i64 r).wf = true) (_ : (Lit.int .i64 d).wf = true) (s : Sh.Fits w (.and (.row (.num .i64)) .fin) l) (htw : (Lit.int .i64 t).wf = true) :
    Calls Try.prog 7 #[.agg #[.int .i64 a, .int .i64 b, .int .i64 r, .int .i64 d], .agg l.toArray, .int .i64 t] w fun e w' => e = .returned (.bool true) ∧ Below w.heap.size w w' := by
  obtain ⟨ad, n, cap, zs, rfl, hz, hr, hw, hn⟩ := part_in s
  obtain ⟨v, hv⟩ : ∃ v, tlF a b r d zs t = v := ⟨_, rfl⟩
  have HV := Lib.hid hv
  have HZ := Lib.hid hz
  have HW := Lib.hid hw
  obtain ⟨sv, hsv⟩ : ∃ v : Int, (if (1048576 : Int) - (n : Int) < 0 then -1 else 1048576 - (n : Int)) = v := ⟨_, rfl⟩
  have HSV := Lib.hid hsv
  obtain ⟨w1, hw1⟩ : ∃ u, (w.alloc (.cells #[.int .i64 a, .int .i64 b, .int .i64 r, .int .i64 d] 43)).alloc (.cells #[.slice ad n cap] 44) = u := ⟨_, rfl⟩
  have HB1 : Hid (Below w.heap.size w w1) := by subst hw1; exact ((Below.refl _ _).alloc (Nat.le_refl _) _).alloc (by simp) _
  have g1 : w1.heap[w.heap.size]? = some (.cells #[.int .i64 a, .int .i64 b, .int .i64 r, .int .i64 d] 43) := by subst hw1; exact heap_alloc2_old _ _ _
  have p1 : w1.heap[w.heap.size + 1]? = some (.cells #[.slice ad n cap] 44) := by subst hw1; exact heap_alloc2_new _ _ _
  have HR1 := Lib.hid (hr.below HB1.out)
  have cp := cell1 p1
  clear hz hr hw hv
  go_enter Try.func7, Try.ntmps7
  go_wp2_with fail
  refine (szPartition_is _ _ _ 1048576 sv hn (by omega) (by omega) HSV.out _).mono ?_
  rintro e w2 ⟨rfl, hb2⟩
  have g2 := keep_block hb2 g1 (lt_of_block g1)
  have p2 := keep_block hb2 p1 (lt_of_block p1)
  have HB2 : Hid (Below w.heap.size w w2) := HB1.out.trans (hb2.mono HB1.out.size)
  have HR2 := Lib.hid (HR1.out.below hb2)
  clear hb2 g1 p1 HB1 HR1 cp hw1
  by_cases hbig : (1048576 : Int) - n < 0
  · have hs : sv < 0 := by rw [← hsv, if_pos hbig]; omega
    clear hsv hbig
    go_wp2
    go_ret
    exact ⟨rfl, HB2.out⟩
  have hs : 0 ≤ sv := by rw [← hsv, if_neg hbig]; omega
  have hn2 : n ≤ 1048576 := by omega
  clear hsv hbig hn
  go_wp2_with fail
  refine wp_region_float (A := ?A1) [.h, .t, .h, .t, .h, .t, .e] (by kernel_rfl) (by kernel_rfl) (fun u => u.heap[w.heap.size]? = some (.cells #[.int .i64 a, .int .i64 b, .int .i64 r, .int .i64 d] 43) ∧ u.heap[w.heap.size + 1]? = some (.cells #[.slice ad n cap] 44)) ?hC1 ?hH1 ?hT1
  case hC1 => exact ⟨g2, p2⟩
  case hH1 =>
    intro u hu
    obtain ⟨c0, c1, c2, c3⟩ := cells4 hu.1
    have c4 := cell1 hu.2
    have z0 := fun q : Same u => q.cell c0
    have z1 := fun q : Same u => q.cell c1
    have z2 := fun q : Same u => q.cell c2
    have z3 := fun q : Same u => q.cell c3
    have z4 := fun q : Same u => q.cell c4
    simp only [headsOf]
    repeat (go_big_quiet_step (fail))
    refine wpQuiet_nil ?_
    exact rfl
  case hT1 =>
    simp only [chainT]
    have HRd : Hid (RowI w2.drew ad zs) := HR2.out
    have HBd : Hid (Below w.heap.size w w2.drew) := HB2.out.drew
    have gd : w2.drew.heap[w.heap.size]? = some (.cells #[.int .i64 a, .int .i64 b, .int .i64 r, .int .i64 d] 43) := g2
    have pd : w2.drew.heap[w.heap.size + 1]? = some (.cells #[.slice ad n cap] 44) := p2
    clear g2 p2 HB2 HR2
    go_wp2_with fail
    refine (toGeometry_any _ _ _ _ _).mono ?_
    rintro e w3 ⟨rfl, hb3⟩
    have g3 := keep_block hb3 gd (lt_of_block gd)
    have p3 := keep_block hb3 pd (lt_of_block pd)
    have HB3 : Hid (Below w.heap.size w w3) := HBd.out.trans (hb3.mono HBd.out.size)
    have HR3 := Lib.hid (HRd.out.below hb3)
    clear hb3 gd pd HBd HRd
    go_wp2_with fail
    refine stepQ_normal ⟨⟨g3, p3⟩, ?_⟩
    go_wp2_with fail
    refine (toPartition_is _ _ _ _ HZ.out (by omega) _ HR3.out).mono ?_
    intro e w4 hgp
    obtain ⟨aa, cc, rfl, own4, hb4⟩ := givesP_len HZ.out hgp
    have g4 := keep_block hb4 g3 (lt_of_block g3)
    have p4 := keep_block hb4 p3 (lt_of_block p3)
    have HB4 : Hid (Below w.heap.size w w4) := HB3.out.trans (hb4.mono HB3.out.size)
    have HR4 := Lib.hid (HR3.out.below hb4)
    have HQ4 : Hid (RowI w4 aa zs) := own4.row
    clear hb4 g3 p3 HB3 HR3 own4 hgp
    go_wp2_with fail
    refine stepQ_normal ⟨⟨g4, p4⟩, ?_⟩
    go_wp2_with fail
    refine (specTenLines_is _ _ _ _ _ _ _ _ HZ.out (by omega) HW.out _ htw _ HV.out _ HQ4.out).mono ?_
    rintro e w5 ⟨rfl, hb5⟩
    have g5 := keep_block hb5 g4 (lt_of_block g4)
    have p5 := keep_block hb5 p4 (lt_of_block p4)
    have HB5 : Hid (Below w.heap.size w w5) := HB4.out.trans (hb5.mono HB4.out.size)
    have HR5 := Lib.hid (HR4.out.below hb5)
    clear hb5 g4 p4 HB4 HR4 HQ4
    go_wp2_with fail
    refine stepQ_normal ⟨⟨g5, p5⟩, ?_⟩
    go_wp2_with fail
    refine stepQ_normal ⟨trivial, ?_⟩
    have cp5 := cell1 p5
    go_wp2_with fail
    refine (toPartition_is _ _ _ _ HZ.out (by omega) _ HR5.out).mono ?_
    intro e w6 hgp
    obtain ⟨ab, cb, rfl, own6, hb6⟩ := givesP_len HZ.out hgp
    have g6 := keep_block hb6 g5 (lt_of_block g5)
    have p6 := keep_block hb6 p5 (lt_of_block p5)
    have HB6 : Hid (Below w.heap.size w w6) := HB5.out.trans (hb6.mono HB5.out.size)
    have HR6 := Lib.hid (HR5.out.below hb6)
    obtain ⟨w7, hw7⟩ : ∃ u, w6.alloc (.cells #[.slice ab n cb] 28) = u := ⟨_, rfl⟩
    have hb7 : Below w6.heap.size w6 w7 := by rw [← hw7]; exact below_alloc _
    have q7 : w7.heap[w6.heap.size]? = some (.cells #[.slice ab n cb] 28) := by rw [← hw7]; exact heap_alloc_new _ _
    have g7 := keep_block hb7 g6 (lt_of_block g6)
    have p7 := keep_block hb7 p6 (lt_of_block p6)
    have HB7 : Hid (Below w.heap.size w w7) := HB6.out.trans (hb7.mono HB6.out.size)
    have HR7 := Lib.hid (HR6.out.below hb7)
    have HO7 := Lib.hid (own6.below hb7)
    obtain ⟨pb, hpb⟩ : ∃ u, w6.heap.size = u := ⟨_, rfl⟩
    rw [hpb] at q7
    clear hb6 hb7 g5 p5 g6 p6 HB5 HB6 HR5 HR6 own6 hgp cp5
    obtain ⟨c0, c1, c2, c3⟩ := cells4 g7
    have c5 := cell1 q7
    have z0 := fun zz : Later w7 => zz.cell c0
    have z1 := fun zz : Later w7 => zz.cell c1
    have z2 := fun zz : Later w7 => zz.cell c2
    have z3 := fun zz : Later w7 => zz.cell c3
    have z5 := fun zz : Later w7 => zz.cell c5
    have hrow := Lib.hid (fun zz : Later w7 => HO7.out.row.below zz.ok)
    go_wp2_with fail
    clear hw7
    (try simp only [hpb])
    refine wp_region_later (by kernel_rfl) (by kernel_rfl) ?_
    repeat (go_big_quiet_step (first | (go_at_call 23; exact Gives.later _ (toGeometry_any _ _ _ _ _)) | (go_at_call 14; exact Gives.later _ (implTenLines_is _ _ _ _ _ _ _ _ HZ.out (by omega) HW.out _ htw _ HV.out _ (hrow.out _)))))
    refine wpQuiet_nil ?_
    rintro w8 ⟨zz, hzz⟩
    have hb8 : Below w7.heap.size w7 w8 := hzz ▸ zz.ok
    have p8 := keep_block hb8 p7 (lt_of_block p7)
    have q8 := keep_block hb8 q7 (lt_of_block q7)
    have HB8 : Hid (Below w.heap.size w w8) := HB7.out.trans (hb8.mono HB7.out.size)
    have HR8 := Lib.hid (HR7.out.below hb8)
    have HO8 := Lib.hid (HO7.out.below hb8)
    have tvv : (v != v) = false := by simp
    clear hzz zz hb8 g7 p7 q7 HB7 HR7 HO7 hrow z0 z1 z2 z3 z5 c0 c1 c2 c3 c5 hpb
    go_wp2_with fail
    refine wp_region_float (A := ?A9) [.h, .h, .t, .t, .e] (by kernel_rfl) (by kernel_rfl) (fun u => u.heap[w.heap.size + 1]? = some (.cells #[.slice ad n cap] 44) ∧ u.heap[pb]? = some (.cells #[.slice ab n cb] 28)) ?hC2 ?hH2 ?hT2
    case hC2 => exact ⟨p8, q8⟩
    case hH2 =>
      intro u hu
      have c4 := cell1 hu.1
      have c5 := cell1 hu.2
      have z4 := fun q : Same u => q.cell c4
      have z5 := fun q : Same u => q.cell c5
      simp only [headsOf]
      repeat (go_big_quiet_step (fail))
      refine wpQuiet_nil ?_
      exact rfl
    case hT2 =>
      simp only [chainT]
      have HRd : Hid (RowI w8.drew ad zs) := HR8.out
      have HBd : Hid (Below w.heap.size w w8.drew) := HB8.out.drew
      have HOd : Hid (OwnI w5.heap.size (.slice ab n cb) zs w8.drew) := HO8.out
      have pd : w8.drew.heap[w.heap.size + 1]? = some (.cells #[.slice ad n cap] 44) := p8
      have qd : w8.drew.heap[pb]? = some (.cells #[.slice ab n cb] 28) := q8
      clear p8 q8 HB8 HR8 HO8
      go_wp2_with fail
      refine (toPartition_is _ _ _ _ HZ.out (by omega) _ HRd.out).mono ?_
      intro e w9 hgp
      obtain ⟨ac, cc2, rfl, own9, hb9⟩ := givesP_len HZ.out hgp
      have p9 := keep_block hb9 pd (lt_of_block pd)
      have q9 := keep_block hb9 qd (lt_of_block qd)
      have HB9 : Hid (Below w.heap.size w w9) := HBd.out.trans (hb9.mono HBd.out.size)
      have HO9 := Lib.hid (HOd.out.below hb9)
      have HP9 := Lib.hid own9
      clear hb9 pd qd HBd HRd HOd own9 hgp
      go_wp2_with fail
      refine stepQ_normal ⟨⟨p9, q9⟩, ?_⟩
      go_wp2_with fail
      refine (eqPartition_is HZ.out HO9.out HP9.out (by omega)).mono ?_
      rintro e w10 ⟨rfl, hb10⟩
      have p10 := keep_block hb10 p9 (lt_of_block p9)
      have q10 := keep_block hb10 q9 (lt_of_block q9)
      have HB10 : Hid (Below w.heap.size w w10) := HB9.out.trans (hb10.mono HB9.out.size)
      clear hb10 p9 q9 HB9 HO9 HP9
      go_wp2_with fail
      refine stepQ_normal ⟨⟨p10, q10⟩, ?_⟩
      go_wp2_with fail
      refine stepQ_normal ⟨trivial, ?_⟩
      go_wp2_with fail
      go_ret
      exact ⟨rfl, HB10.out⟩

set_option maxHeartbeats 4000000 in
set_option maxRecDepth 100000 in
theorem exTenantAddr_walk (a b r d : Int) (l : List Value) (t ln : Int) (w : World) (_ : (Lit.int .i64 a).wf = true) (_ : (Lit.int .i64 b).wf = true) (_ : (Lit.int .i64 r).wf = true) (_ : (Lit.int .i64 d).wf = true) (s : Sh.Fits w (.and (.row (.num .i64)) .fin) l) (htw : (Lit.int .i64 t).wf = true) (hlw : (Lit.int .i64 ln).wf = true) :
    Calls Try.prog 8 #[.agg #[.int .i64 a, .int .i64 b, .int .i64 r, .int .i64 d], .agg l.toArray, .int .i64 t, .int .i64 ln] w fun e w' => e = .returned (.bool true) ∧ Below w.heap.size w w' := by
  obtain ⟨ad, n, cap, zs, rfl, hz, hr, hw, hn⟩ := part_in s
  obtain ⟨X, Y, Z, tb, hv⟩ : ∃ X Y Z tb, taF a b r d zs t ln = adV X Y Z tb := by
    unfold taF
    split
    · exact ⟨_, _, _, _, rfl⟩
    · exact ⟨_, _, _, _, rfl⟩
  have HV := Lib.hid hv
  have HZ := Lib.hid hz
  have HW := Lib.hid hw
  obtain ⟨sv, hsv⟩ : ∃ v : Int, (if (1048576 : Int) - (n : Int) < 0 then -1 else 1048576 - (n : Int)) = v := ⟨_, rfl⟩
  have HSV := Lib.hid hsv
  obtain ⟨w1, hw1⟩ : ∃ u, (w.alloc (.cells #[.int .i64 a, .int .i64 b, .int .i64 r, .int .i64 d] 43)).alloc (.cells #[.slice ad n cap] 44) = u := ⟨_, rfl⟩
  have HB1 : Hid (Below w.heap.size w w1) := by subst hw1; exact ((Below.refl _ _).alloc (Nat.le_refl _) _).alloc (by simp) _
  have g1 : w1.heap[w.heap.size]? = some (.cells #[.int .i64 a, .int .i64 b, .int .i64 r, .int .i64 d] 43) := by subst hw1; exact heap_alloc2_old _ _ _
  have p1 : w1.heap[w.heap.size + 1]? = some (.cells #[.slice ad n cap] 44) := by subst hw1; exact heap_alloc2_new _ _ _
  have HR1 := Lib.hid (hr.below HB1.out)
  have cp := cell1 p1
  clear hz hr hw hv
  go_enter Try.func8, Try.ntmps8
  go_wp2_with fail
  refine (szPartition_is _ _ _ 1048576 sv hn (by omega) (by omega) HSV.out _).mono ?_
  rintro e w2 ⟨rfl, hb2⟩
  have g2 := keep_block hb2 g1 (lt_of_block g1)
  have p2 := keep_block hb2 p1 (lt_of_block p1)
  have HB2 : Hid (Below w.heap.size w w2) := HB1.out.trans (hb2.mono HB1.out.size)
  have HR2 := Lib.hid (HR1.out.below hb2)
  clear hb2 g1 p1 HB1 HR1 cp hw1
  by_cases hbig : (1048576 : Int) - n < 0
  · have hs : sv < 0 := by rw [← hsv, if_pos hbig]; omega
    clear hsv hbig
    go_wp2
    go_ret
    exact ⟨rfl, HB2.out⟩
  have hs : 0 ≤ sv := by rw [← hsv, if_neg hbig]; omega
  have hn2 : n ≤ 1048576 := by omega
  clear hsv hbig hn
  go_wp2_with fail
  have SPEC : Hid (∀ (aa : Option Addr) (cc : Nat) (u : World), RowI u aa zs → Calls Try.prog 31 #[.agg #[.int .i64 a, .int .i64 b, .int .i64 r, .int .i64 d], .agg #[.slice aa n cc], .int .i64 t, .int .i64 ln] u (Gives (.tuple #[.agg #[.int .i64 X, .int .i64 Y, .int .i64 Z], .bool tb]) u)) := by
    intro aa cc u hr
    have k := specTenAddr_is a b r d aa n cc zs HZ.out (by omega) HW.out t htw ln hlw u hr
    rw [HV.out] at k
    exact k
  have IMPL : Hid (∀ (aa : Option Addr) (cc : Nat) (u : World), RowI u aa zs → Calls Try.prog 18 #[.agg #[.int .i64 a, .int .i64 b, .int .i64 r, .int .i64 d], .agg #[.slice aa n cc], .int .i64 t, .int .i64 ln] u (Gives (.tuple #[.agg #[.int .i64 X, .int .i64 Y, .int .i64 Z], .bool tb]) u)) := by
    intro aa cc u hr
    have k := implTenAddr_is a b r d aa n cc zs HZ.out (by omega) HW.out t htw ln hlw u hr
    rw [HV.out] at k
    exact k
  clear HV
  refine wp_region_flowV (fun k => match k with | 0 => some (.agg #[.int .i64 a, .int .i64 b, .int .i64 r, .int .i64 d]) | 1 => some (.agg #[.int .i64 a, .int .i64 b, .int .i64 r, .int .i64 d]) | 2 => some (.agg #[.slice ad n cap]) | 4 => some (.int .i64 t) | 5 => some (.int .i64 ln) | 6 => some (.tuple #[.agg #[.int .i64 X, .int .i64 Y, .int .i64 Z], .bool tb]) | 7 => some (.tuple #[.agg #[.int .i64 X, .int .i64 Y, .int .i64 Z], .bool tb]) | 8 => some (.agg #[.int .i64 X, .int .i64 Y, .int .i64 Z]) | 9 => some (.bool tb) | 12 => some (.bool tb) | _ => none) (fun listed x u => Held 3 6 n zs listed x u ∧ MadeV 10 11 w2.heap.size #[.int .i64 0, .int .i64 0, .int .i64 0] #[.int .i64 X, .int .i64 Y, .int .i64 Z] 36 listed x u) (fun _ => undef) (by kernel_rfl) (by kernel_rfl) ?hx0 ?hS0 ?hs ?he
  case hx0 => simp only [putsX, Act.put, List.setIfInBounds_toArray, List.set_cons_zero, List.set_cons_succ]
  case hS0 => exact ⟨Held.zero _ _ _ _ _ _ _, MadeV.zero _ _ _ _ _ _ _ _ _⟩
  case hs =>
    simp only [flowSteps]
    refine ⟨?s0, ?s1, ?s2, ?s3, ?s4, ?s5, ?s6, ?s7, ?s8, ?s9, ?s10, ?s11, ?s12, trivial⟩
    case s0 =>
      intro listed bb u hsz hn hwt hinv
      obtain ⟨x, rfl, hC, hU, ⟨hH, hM⟩⟩ := hinv
      simp only [putsX, Act.put, List.setIfInBounds_toArray, List.set_cons_zero, List.set_cons_succ]
      obtain ⟨c0, c1, c2, c3⟩ := cells4 (keep_block hC g2 (lt_of_block g2))
      go_wp2_with fail
      refine stepQ_normal ⟨trivial, upd x 0 (.agg #[.int .i64 a, .int .i64 b, .int .i64 r, .int .i64 d]), ?_, hC, hU.step (fun _ h => Option.some.inj h), ⟨hH.keep (by decide) (by decide) _ (Below.refl _ _), hM.keep (by decide) (by decide) _ (Below.refl _ _)⟩⟩
      simp only [upd]
      rfl
    case s1 =>
      intro listed bb u hsz hn hwt hinv
      obtain ⟨x, rfl, hC, hU, ⟨hH, hM⟩⟩ := hinv
      have f0 := Lib.hid (hU 0 _ rfl (hwt 0 (by kernel_rfl)))
      simp only [putsX, Act.put, List.setIfInBounds_toArray, List.set_cons_zero, List.set_cons_succ]
      have hcall : Calls Try.prog 23 #[x 0] u (Gives (.agg #[.int .i64 a, .int .i64 b, .int .i64 r, .int .i64 d]) u) := by rw [f0.out]; exact toGeometry_any _ _ _ _ _
      go_wp2_with fail
      refine hcall.mono ?_
      rintro e u' ⟨rfl, hb⟩
      go_wp2_with fail
      refine stepQ_normal ⟨trivial, upd x 1 (.agg #[.int .i64 a, .int .i64 b, .int .i64 r, .int .i64 d]), ?_, hC.trans (hb.mono hC.size), hU.step (fun _ h => Option.some.inj h), ⟨hH.keep (by decide) (by decide) _ hb, hM.keep (by decide) (by decide) _ hb⟩⟩
      simp only [upd]
      rfl
    case s2 =>
      intro listed bb u hsz hn hwt hinv
      obtain ⟨x, rfl, hC, hU, ⟨hH, hM⟩⟩ := hinv
      simp only [putsX, Act.put, List.setIfInBounds_toArray, List.set_cons_zero, List.set_cons_succ]
      have c4 := cell1 (keep_block hC p2 (lt_of_block p2))
      go_wp2_with fail
      refine stepQ_normal ⟨trivial, upd x 2 (.agg #[.slice ad n cap]), ?_, hC, hU.step (fun _ h => Option.some.inj h), ⟨hH.keep (by decide) (by decide) _ (Below.refl _ _), hM.keep (by decide) (by decide) _ (Below.refl _ _)⟩⟩
      simp only [upd]
      rfl
    case s3 =>
      intro listed bb u hsz hn hwt hinv
      obtain ⟨x, rfl, hC, hU, ⟨hH, hM⟩⟩ := hinv
      have f2 := Lib.hid (hU 2 _ rfl (hwt 2 (by kernel_rfl)))
      simp only [putsX, Act.put, List.setIfInBounds_toArray, List.set_cons_zero, List.set_cons_succ]
      have hcall : Calls Try.prog 24 #[x 2] u (GivesP zs u) := by rw [f2.out]; exact toPartition_is _ _ _ _ HZ.out (by omega) _ (HR2.out.below hC)
      go_wp2_with fail
      refine hcall.mono ?_
      intro e u' hgp
      obtain ⟨aa, cc, rfl, own, hb⟩ := givesP_len HZ.out hgp
      go_wp2_with fail
      refine stepQ_normal ⟨trivial, upd x 3 (.agg #[.slice aa n cc]), ?_, hC.trans (hb.mono hC.size), hU.step (fun _ h => by cases h), ⟨Held.new own.row, hM.keep (by decide) (by decide) _ hb⟩⟩
      simp only [upd]
      rfl
    case s4 =>
      intro listed bb u hsz hn hwt hinv
      obtain ⟨x, rfl, hC, hU, ⟨hH, hM⟩⟩ := hinv
      simp only [putsX, Act.put, List.setIfInBounds_toArray, List.set_cons_zero, List.set_cons_succ]
      go_wp2_with fail
      refine stepQ_normal ⟨trivial, upd x 4 (.int .i64 t), ?_, hC, hU.step (fun _ h => Option.some.inj h), ⟨hH.keep (by decide) (by decide) _ (Below.refl _ _), hM.keep (by decide) (by decide) _ (Below.refl _ _)⟩⟩
      simp only [upd]
      rfl
    case s5 =>
      intro listed bb u hsz hn hwt hinv
      obtain ⟨x, rfl, hC, hU, ⟨hH, hM⟩⟩ := hinv
      simp only [putsX, Act.put, List.setIfInBounds_toArray, List.set_cons_zero, List.set_cons_succ]
      go_wp2_with fail
      refine stepQ_normal ⟨trivial, upd x 5 (.int .i64 ln), ?_, hC, hU.step (fun _ h => Option.some.inj h), ⟨hH.keep (by decide) (by decide) _ (Below.refl _ _), hM.keep (by decide) (by decide) _ (Below.refl _ _)⟩⟩
      simp only [upd]
      rfl
    case s6 =>
      intro listed bb u hsz hn hwt hinv
      obtain ⟨x, rfl, hC, hU, ⟨hH, hM⟩⟩ := hinv
      have f1 := Lib.hid (hU 1 _ rfl (hwt 1 (by kernel_rfl)))
      have f4 := Lib.hid (hU 4 _ rfl (hwt 4 (by kernel_rfl)))
      have f5 := Lib.hid (hU 5 _ rfl (hwt 5 (by kernel_rfl)))
      simp only [putsX, Act.put, List.setIfInBounds_toArray, List.set_cons_zero, List.set_cons_succ]
      obtain ⟨aa, cc, fp, hrow⟩ := hH (hwt 3 (by kernel_rfl)) hn
      have hcall : Calls Try.prog 31 #[x 1, x 3, x 4, x 5] u (Gives (.tuple #[.agg #[.int .i64 X, .int .i64 Y, .int .i64 Z], .bool tb]) u) := by rw [fp, f1.out, f4.out, f5.out]; exact SPEC.out aa cc u hrow
      clear fp
      go_wp2_with fail
      refine hcall.mono ?_
      rintro e u' ⟨rfl, hb⟩
      go_wp2_with fail
      refine stepQ_normal ⟨trivial, upd x 6 (.tuple #[.agg #[.int .i64 X, .int .i64 Y, .int .i64 Z], .bool tb]), ?_, hC.trans (hb.mono hC.size), hU.step (fun _ h => Option.some.inj h), ⟨Held.call (by rw [hsz]; decide), hM.keep (by decide) (by decide) _ hb⟩⟩
      simp only [upd]
      rfl
    case s7 =>
      intro listed bb u hsz hn hwt hinv
      obtain ⟨x, rfl, hC, hU, ⟨hH, hM⟩⟩ := hinv
      have f6 := Lib.hid (hU 6 _ rfl (hwt 6 (by kernel_rfl)))
      simp only [putsX, Act.put, List.setIfInBounds_toArray, List.set_cons_zero, List.set_cons_succ]
      go_wp2_with fail
      refine stepQ_normal ⟨trivial, upd x 7 (x 6), ?_, hC, hU.step (fun u h => by rw [f6.out]; exact Option.some.inj h), ⟨hH.keep (by decide) (by decide) _ (Below.refl _ _), hM.keep (by decide) (by decide) _ (Below.refl _ _)⟩⟩
      simp only [upd]
      rfl
    case s8 =>
      intro listed bb u hsz hn hwt hinv
      obtain ⟨x, rfl, hC, hU, ⟨hH, hM⟩⟩ := hinv
      have f7 := Lib.hid (hU 7 _ rfl (hwt 7 (by kernel_rfl)))
      simp only [putsX, Act.put, List.setIfInBounds_toArray, List.set_cons_zero, List.set_cons_succ]
      rw [f7.out]
      go_wp2_with fail
      refine stepQ_normal ⟨trivial, upd x 8 (.agg #[.int .i64 X, .int .i64 Y, .int .i64 Z]), ?_, hC, hU.step (fun _ h => Option.some.inj h), ⟨hH.keep (by decide) (by decide) _ (Below.refl _ _), hM.keep (by decide) (by decide) _ (Below.refl _ _)⟩⟩
      simp only [upd]
      simp only [f7.out]
      (try rfl)
    case s9 =>
      intro listed bb u hsz hn hwt hinv
      obtain ⟨x, rfl, hC, hU, ⟨hH, hM⟩⟩ := hinv
      have f7 := Lib.hid (hU 7 _ rfl (hwt 7 (by kernel_rfl)))
      simp only [putsX, Act.put, List.setIfInBounds_toArray, List.set_cons_zero, List.set_cons_succ]
      rw [f7.out]
      go_wp2_with fail
      refine stepQ_normal ⟨trivial, upd x 9 (.bool tb), ?_, hC, hU.step (fun _ h => Option.some.inj h), ⟨hH.keep (by decide) (by decide) _ (Below.refl _ _), hM.keep (by decide) (by decide) _ (Below.refl _ _)⟩⟩
      simp only [upd]
      simp only [f7.out]
      (try rfl)
    case s10 =>
      intro listed bb u hsz hn hwt hinv
      obtain ⟨x, rfl, hC, hU, ⟨hH, hM⟩⟩ := hinv
      simp only [putsX, Act.put, List.setIfInBounds_toArray, List.set_cons_zero, List.set_cons_succ]
      go_wp2_with fail
      refine stepQ_normal ⟨trivial, upd x 10 (.pointer (some ⟨u.heap.size, 0, none⟩)), ?_, hC.alloc hC.size _, hU.step (fun _ h => by cases h), ⟨hH.keep (by decide) (by decide) _ (below_alloc _), hM.new (by decide) hn hC.size⟩⟩
      simp only [upd]
      rfl
    case s11 =>
      intro listed bb u hsz hn hwt hinv
      obtain ⟨x, rfl, hC, hU, ⟨hH, hM⟩⟩ := hinv
      have f8 := Lib.hid (hU 8 _ rfl (hwt 8 (by kernel_rfl)))
      simp only [putsX, Act.put, List.setIfInBounds_toArray, List.set_cons_zero, List.set_cons_succ]
      rw [f8.out]
      obtain ⟨g, fg, hg, hh⟩ := hM.there (hwt 10 (by kernel_rfl)) hn
      have FG := Lib.hid fg
      rw [fg]
      obtain ⟨y0, y1, y2⟩ := cells3 hh
      have t0 := thawed hh 0
      have t1 := thawed hh 1
      have t2 := thawed hh 2
      have hfin := set_cells (set_cells (set_cells hh 0 (.int .i64 X)) 1 (.int .i64 Y)) 2 (.int .i64 Z)
      clear hh fg
      go_wp2_with fail
      refine stepQ_normal ⟨trivial, upd x 11 undef, ?_, ((hC.setCell (by exact hg) _).setCell (by exact hg) _).setCell (by exact hg) _, hU.step (fun _ h => by cases h), ⟨Held.gone (hwt 6 (by kernel_rfl)), MadeV.fill (by decide) (hwt 10 (by kernel_rfl)) (by rw [hsz]; decide) FG.out hg hfin⟩⟩
      simp only [upd]
      simp only [f8.out, FG.out]
      (try rfl)
    case s12 =>
      intro listed bb u hsz hn hwt hinv
      obtain ⟨x, rfl, hC, hU, ⟨hH, hM⟩⟩ := hinv
      have f9 := Lib.hid (hU 9 _ rfl (hwt 9 (by kernel_rfl)))
      simp only [putsX, Act.put, List.setIfInBounds_toArray, List.set_cons_zero, List.set_cons_succ]
      go_wp2_with fail
      refine stepQ_normal ⟨trivial, upd x 12 (x 9), ?_, hC, hU.step (fun u h => by rw [f9.out]; exact Option.some.inj h), ⟨hH.keep (by decide) (by decide) _ (Below.refl _ _), hM.keep (by decide) (by decide) _ (Below.refl _ _)⟩⟩
      simp only [upd]
      rfl
  case he =>
    intro listed x u hall hC hU ⟨hH, hM⟩
    have e0 := hU 0 _ rfl (hall 0 (by decide))
    have e1 := hU 1 _ rfl (hall 1 (by decide))
    have e2 := hU 2 _ rfl (hall 2 (by decide))
    have e4 := hU 4 _ rfl (hall 4 (by decide))
    have e5 := hU 5 _ rfl (hall 5 (by decide))
    have e6 := hU 6 _ rfl (hall 6 (by decide))
    have e7 := hU 7 _ rfl (hall 7 (by decide))
    have e8 := hU 8 _ rfl (hall 8 (by decide))
    have e9 := hU 9 _ rfl (hall 9 (by decide))
    have e12 := hU 12 _ rfl (hall 12 (by decide))
    obtain ⟨rg, fg, hg, r5⟩ := hM.full (hall 10 (by decide)) (hall 11 (by decide))
    clear hg hM
    simp only [putsX, Act.put, List.setIfInBounds_toArray, List.set_cons_zero, List.set_cons_succ, e0, e1, e2, e4, e5, e6, e7, e8, e9, e12, fg]
    clear hall hU hH e0 e1 e2 e4 e5 e6 e7 e8 e9 e12 fg
    have g5 := keep_block hC g2 (lt_of_block g2)
    have p5 := keep_block hC p2 (lt_of_block p2)
    have HB5 : Hid (Below w.heap.size w u) := HB2.out.trans (hC.mono HB2.out.size)
    have HR5 := Lib.hid (HR2.out.below hC)
    obtain ⟨w5, rfl⟩ : ∃ v, v = u := ⟨_, rfl⟩
    clear hC g2 p2 HB2 HR2 SPEC
    have cp5 := cell1 p5
    go_wp2_with fail
    refine (toPartition_is _ _ _ _ HZ.out (by omega) _ HR5.out).mono ?_
    intro e w6 hgp
    obtain ⟨ab, cb, rfl, own6, hb6⟩ := givesP_len HZ.out hgp
    have g6 := keep_block hb6 g5 (lt_of_block g5)
    have p6 := keep_block hb6 p5 (lt_of_block p5)
    have HB6 : Hid (Below w.heap.size w w6) := HB5.out.trans (hb6.mono HB5.out.size)
    have HR6 := Lib.hid (HR5.out.below hb6)
    obtain ⟨w7, hw7⟩ : ∃ u, w6.alloc (.cells #[.slice ab n cb] 28) = u := ⟨_, rfl⟩
    have hb7 : Below w6.heap.size w6 w7 := by rw [← hw7]; exact below_alloc _
    have q7 : w7.heap[w6.heap.size]? = some (.cells #[.slice ab n cb] 28) := by rw [← hw7]; exact heap_alloc_new _ _
    have g7 := keep_block hb7 g6 (lt_of_block g6)
    have r6 := keep_block hb6 r5 (lt_of_block r5)
    have r7 := keep_block hb7 r6 (lt_of_block r6)
    have p7 := keep_block hb7 p6 (lt_of_block p6)
    have HB7 : Hid (Below w.heap.size w w7) := HB6.out.trans (hb7.mono HB6.out.size)
    have HR7 := Lib.hid (HR6.out.below hb7)
    have HO7 := Lib.hid (own6.below hb7)
    obtain ⟨pb, hpb⟩ : ∃ u, w6.heap.size = u := ⟨_, rfl⟩
    rw [hpb] at q7
    clear hb6 hb7 g5 p5 g6 p6 r5 r6 HB5 HB6 HR5 HR6 own6 hgp cp5
    obtain ⟨c0, c1, c2, c3⟩ := cells4 g7
    have c5 := cell1 q7
    go_wp2_with fail
    clear hw7
    (try simp only [hpb])
    refine wp_region_made (A := ?A2) (cells := ?cells2) 9 (by kernel_rfl) (by kernel_rfl) rfl rfl ?walk2 ?hx2 (by decide) ?size2 ?alloc2 (zero := #[.int .i64 0, .int .i64 0, .int .i64 0]) ?info2 ?ho2 ?hone2 ?rest2
    case walk2 =>
      intro F hF hN
      have z0 := fun zz : LaterF w7 F => zz.cell c0
      have z1 := fun zz : LaterF w7 F => zz.cell c1
      have z2 := fun zz : LaterF w7 F => zz.cell c2
      have z3 := fun zz : LaterF w7 F => zz.cell c3
      have z5 := fun zz : LaterF w7 F => zz.cell c5
      have hrow := Lib.hid (fun zz : LaterF w7 F => HO7.out.row.below zz.ok)
      simp only [List.take_succ_cons, List.take_zero]
      repeat (go_big_quiet_step (first | (go_at_call 23; exact Gives.laterF hF _ (toGeometry_any _ _ _ _ _)) | (go_at_call 18; exact Gives.laterF hF _ (IMPL.out _ _ _ (hrow.out _)))))
      refine wpQuiet_nil ?_
      exact rfl
    case hx2 => rfl
    case size2 => simp
    case ho2 => rfl
    case hone2 => simp [Value.oneCell']
    case info2 => kernel_rfl
    case alloc2 =>
      intro a w K hK
      go_simp
      exact hK
    case rest2 =>
      intro ig w7b hb8 hg8 i8
      simp only [List.drop_succ_cons, List.drop_zero, Act.put, List.setIfInBounds_toArray, List.set_cons_zero, List.set_cons_succ]
      have p7b := keep_block hb8 p7 (lt_of_block p7)
      have q7b := keep_block hb8 q7 (lt_of_block q7)
      have r7b := keep_block hb8 r7 (lt_of_block r7)
      have HB7b : Hid (Below w.heap.size w w7b) := HB7.out.trans (hb8.mono HB7.out.size)
      have HR7b := Lib.hid (HR7.out.below hb8)
      have HO7b := Lib.hid (HO7.out.below hb8)
      clear hb8 hg8 g7 p7 q7 r7 HB7 HR7 HO7 c0 c1 c2 c3 c5 hpb
      obtain ⟨a0, a1, a2⟩ := cells3 i8
      obtain ⟨b0, b1, b2⟩ := cells3 r7b
      go_wp2_with fail
      refine (eqAddr_same X Y Z _).mono ?_
      rintro e w8 ⟨rfl, hb8⟩
      have p8 := keep_block hb8 p7b (lt_of_block p7b)
      have q8 := keep_block hb8 q7b (lt_of_block q7b)
      have HB8 : Hid (Below w.heap.size w w8) := HB7b.out.trans (hb8.mono HB7b.out.size)
      have HR8 := Lib.hid (HR7b.out.below hb8)
      have HO8 := Lib.hid (HO7b.out.below hb8)
      have tvv : (tb != tb) = false := by simp
      clear hb8 p7b q7b r7b i8 HB7b HR7b HO7b a0 a1 a2 b0 b1 b2
      go_wp2_with fail
      refine wp_region_float (A := ?A9) [.h, .h, .t, .t, .e] (by kernel_rfl) (by kernel_rfl) (fun u => u.heap[w.heap.size + 1]? = some (.cells #[.slice ad n cap] 44) ∧ u.heap[pb]? = some (.cells #[.slice ab n cb] 28)) ?hC2 ?hH2 ?hT2
      case hC2 => exact ⟨p8, q8⟩
      case hH2 =>
        intro u hu
        have c4 := cell1 hu.1
        have c5 := cell1 hu.2
        have z4 := fun q : Same u => q.cell c4
        have z5 := fun q : Same u => q.cell c5
        simp only [headsOf]
        repeat (go_big_quiet_step (fail))
        refine wpQuiet_nil ?_
        exact rfl
      case hT2 =>
        simp only [chainT]
        have HRd : Hid (RowI w8.drew ad zs) := HR8.out
        have HBd : Hid (Below w.heap.size w w8.drew) := HB8.out.drew
        have HOd : Hid (OwnI w5.heap.size (.slice ab n cb) zs w8.drew) := HO8.out
        have pd : w8.drew.heap[w.heap.size + 1]? = some (.cells #[.slice ad n cap] 44) := p8
        have qd : w8.drew.heap[pb]? = some (.cells #[.slice ab n cb] 28) := q8
        clear p8 q8 HB8 HR8 HO8
        go_wp2_with fail
        refine (toPartition_is _ _ _ _ HZ.out (by omega) _ HRd.out).mono ?_
        intro e w9 hgp
        obtain ⟨ac, cc2, rfl, own9, hb9⟩ := givesP_len HZ.out hgp
        have p9 := keep_block hb9 pd (lt_of_block pd)
        have q9 := keep_block hb9 qd (lt_of_block qd)
        have HB9 : Hid (Below w.heap.size w w9) := HBd.out.trans (hb9.mono HBd.out.size)
        have HO9 := Lib.hid (HOd.out.below hb9)
        have HP9 := Lib.hid own9
        clear hb9 pd qd HBd HRd HOd own9 hgp
        go_wp2_with fail
        refine stepQ_normal ⟨⟨p9, q9⟩, ?_⟩
        go_wp2_with fail
        refine (eqPartition_is HZ.out HO9.out HP9.out (by omega)).mono ?_
        rintro e w10 ⟨rfl, hb10⟩
        have p10 := keep_block hb10 p9 (lt_of_block p9)
        have q10 := keep_block hb10 q9 (lt_of_block q9)
        have HB10 : Hid (Below w.heap.size w w10) := HB9.out.trans (hb10.mono HB9.out.size)
        clear hb10 p9 q9 HB9 HO9 HP9
        go_wp2_with fail
        refine stepQ_normal ⟨⟨p10, q10⟩, ?_⟩
        go_wp2_with fail
        refine stepQ_normal ⟨trivial, ?_⟩
        go_wp2_with fail
        go_ret
        exact ⟨rfl, HB10.out⟩

set_option maxHeartbeats 4000000 in
set_option maxRecDepth 100000 in
theorem exTenantLine_walk (a b r d : Int) (l : List Value) (x0 y0 z0 : Int) (w : World) (_ : (Lit.int .i64 a).wf = true) (_ : (Lit.int .i64 b).wf = true) (_ : (Lit.int .i64 r).wf = true) (_ : (Lit.int .i64 d).wf = true) (s : Sh.Fits w (.and (.row (.num .i64)) .fin) l) (_ : (Lit.int .i64 x0).wf = true) (_ : (Lit.int .i64 y0).wf = true) (_ : (Lit.int .i64 z0).wf = true) :
    Calls Try.prog 9 #[.agg #[.int .i64 a, .int .i64 b, .int .i64 r, .int .i64 d], .agg l.toArray, .agg #[.int .i64 x0, .int .i64 y0, .int .i64 z0]] w fun e w' => e = .returned (.bool true) ∧ Below w.heap.size w w' := by
  obtain ⟨ad, n, cap, zs, rfl, hz, hr, hw, hn⟩ := part_in s
  obtain ⟨X, Y, tb, hv⟩ : ∃ X Y tb, tnF a b r d zs x0 y0 z0 = .tuple #[.int .i64 X, .int .i64 Y, .bool tb] := by
    unfold tnF
    split
    · exact ⟨_, _, _, rfl⟩
    · exact ⟨_, _, _, rfl⟩
  have HV := Lib.hid hv
  have HZ := Lib.hid hz
  have HW := Lib.hid hw
  obtain ⟨sv, hsv⟩ : ∃ v : Int, (if (1048576 : Int) - (n : Int) < 0 then -1 else 1048576 - (n : Int)) = v := ⟨_, rfl⟩
  have HSV := Lib.hid hsv
  obtain ⟨w1, hw1⟩ : ∃ u, ((w.alloc (.cells #[.int .i64 a, .int .i64 b, .int .i64 r, .int .i64 d] 43)).alloc (.cells #[.slice ad n cap] 44)).alloc (.cells #[.int .i64 x0, .int .i64 y0, .int .i64 z0] 57) = u := ⟨_, rfl⟩
  have HB1 : Hid (Below w.heap.size w w1) := by subst hw1; exact (((Below.refl _ _).alloc (Nat.le_refl _) _).alloc (by simp) _).alloc (by simp; omega) _
  have g1 : w1.heap[w.heap.size]? = some (.cells #[.int .i64 a, .int .i64 b, .int .i64 r, .int .i64 d] 43) := by subst hw1; exact box3_0 _ _ _ _
  have p1 : w1.heap[w.heap.size + 1]? = some (.cells #[.slice ad n cap] 44) := by subst hw1; exact box3_1 _ _ _ _
  have d1 : w1.heap[w.heap.size + 1 + 1]? = some (.cells #[.int .i64 x0, .int .i64 y0, .int .i64 z0] 57) := by subst hw1; exact box3_2 _ _ _ _
  have HR1 := Lib.hid (hr.below HB1.out)
  have cp := cell1 p1
  clear hz hr hw hv
  go_enter Try.func9, Try.ntmps9
  go_wp2_with fail
  refine (szPartition_is _ _ _ 1048576 sv hn (by omega) (by omega) HSV.out _).mono ?_
  rintro e w2 ⟨rfl, hb2⟩
  have g2 := keep_block hb2 g1 (lt_of_block g1)
  have p2 := keep_block hb2 p1 (lt_of_block p1)
  have d2 := keep_block hb2 d1 (lt_of_block d1)
  have HB2 : Hid (Below w.heap.size w w2) := HB1.out.trans (hb2.mono HB1.out.size)
  have HR2 := Lib.hid (HR1.out.below hb2)
  clear hb2 g1 p1 d1 HB1 HR1 cp hw1
  by_cases hbig : (1048576 : Int) - n < 0
  · have hs : sv < 0 := by rw [← hsv, if_pos hbig]; omega
    clear hsv hbig
    go_wp2
    go_ret
    exact ⟨rfl, HB2.out⟩
  have hs : 0 ≤ sv := by rw [← hsv, if_neg hbig]; omega
  have hn2 : n ≤ 1048576 := by omega
  clear hsv hbig hn
  go_wp2_with fail
  have SPEC : Hid (∀ (aa : Option Addr) (cc : Nat) (u : World), RowI u aa zs → Calls Try.prog 33 #[.agg #[.int .i64 a, .int .i64 b, .int .i64 r, .int .i64 d], .agg #[.slice aa n cc], .agg #[.int .i64 x0, .int .i64 y0, .int .i64 z0]] u (Gives (.tuple #[.int .i64 X, .int .i64 Y, .bool tb]) u)) := by
    intro aa cc u hr
    have k := specTenLine_is a b r d aa n cc zs HZ.out (by omega) HW.out x0 y0 z0 u hr
    rw [HV.out] at k
    exact k
  have IMPL : Hid (∀ (aa : Option Addr) (cc : Nat) (u : World), RowI u aa zs → Calls Try.prog 19 #[.agg #[.int .i64 a, .int .i64 b, .int .i64 r, .int .i64 d], .agg #[.slice aa n cc], .agg #[.int .i64 x0, .int .i64 y0, .int .i64 z0]] u (Gives (.tuple #[.int .i64 X, .int .i64 Y, .bool tb]) u)) := by
    intro aa cc u hr
    have k := implTenLine_is a b r d aa n cc zs HZ.out (by omega) HW.out x0 y0 z0 u hr
    rw [HV.out] at k
    exact k
  clear HV
  refine wp_region_flowV (fun k => match k with | 0 => some (.agg #[.int .i64 a, .int .i64 b, .int .i64 r, .int .i64 d]) | 1 => some (.agg #[.int .i64 a, .int .i64 b, .int .i64 r, .int .i64 d]) | 2 => some (.agg #[.slice ad n cap]) | 4 => some (.agg #[.int .i64 x0, .int .i64 y0, .int .i64 z0]) | 5 => some (.agg #[.int .i64 x0, .int .i64 y0, .int .i64 z0]) | 6 => some (.tuple #[.int .i64 X, .int .i64 Y, .bool tb]) | 7 => some (.tuple #[.int .i64 X, .int .i64 Y, .bool tb]) | 8 => some (.int .i64 X) | 9 => some (.int .i64 Y) | 10 => some (.bool tb) | 11 => some (.int .i64 X) | 12 => some (.int .i64 Y) | 13 => some (.bool tb) | _ => none) (fun listed x u => Held 3 6 n zs listed x u) (fun _ => undef) (by kernel_rfl) (by kernel_rfl) ?hx0 ?hS0 ?hs ?he
  case hx0 => simp only [putsX, Act.put, List.setIfInBounds_toArray, List.set_cons_zero, List.set_cons_succ]
  case hS0 => exact Held.zero _ _ _ _ _ _ _
  case hs =>
    simp only [flowSteps]
    refine ⟨?s0, ?s1, ?s2, ?s3, ?s4, ?s5, ?s6, ?s7, ?s8, ?s9, ?s10, ?s11, ?s12, ?s13, trivial⟩
    case s0 =>
      intro listed bb u hsz hn hwt hinv
      obtain ⟨x, rfl, hC, hU, hH⟩ := hinv
      simp only [putsX, Act.put, List.setIfInBounds_toArray, List.set_cons_zero, List.set_cons_succ]
      obtain ⟨c0, c1, c2, c3⟩ := cells4 (keep_block hC g2 (lt_of_block g2))
      go_wp2_with fail
      refine stepQ_normal ⟨trivial, upd x 0 (.agg #[.int .i64 a, .int .i64 b, .int .i64 r, .int .i64 d]), ?_, hC, hU.step (fun _ h => Option.some.inj h), hH.keep (by decide) (by decide) _ (Below.refl _ _)⟩
      simp only [upd]
      rfl
    case s1 =>
      intro listed bb u hsz hn hwt hinv
      obtain ⟨x, rfl, hC, hU, hH⟩ := hinv
      have f0 := Lib.hid (hU 0 _ rfl (hwt 0 (by kernel_rfl)))
      simp only [putsX, Act.put, List.setIfInBounds_toArray, List.set_cons_zero, List.set_cons_succ]
      have hcall : Calls Try.prog 23 #[x 0] u (Gives (.agg #[.int .i64 a, .int .i64 b, .int .i64 r, .int .i64 d]) u) := by rw [f0.out]; exact toGeometry_any _ _ _ _ _
      go_wp2_with fail
      refine hcall.mono ?_
      rintro e u' ⟨rfl, hb⟩
      go_wp2_with fail
      refine stepQ_normal ⟨trivial, upd x 1 (.agg #[.int .i64 a, .int .i64 b, .int .i64 r, .int .i64 d]), ?_, hC.trans (hb.mono hC.size), hU.step (fun _ h => Option.some.inj h), hH.keep (by decide) (by decide) _ hb⟩
      simp only [upd]
      rfl
    case s2 =>
      intro listed bb u hsz hn hwt hinv
      obtain ⟨x, rfl, hC, hU, hH⟩ := hinv
      simp only [putsX, Act.put, List.setIfInBounds_toArray, List.set_cons_zero, List.set_cons_succ]
      have c4 := cell1 (keep_block hC p2 (lt_of_block p2))
      go_wp2_with fail
      refine stepQ_normal ⟨trivial, upd x 2 (.agg #[.slice ad n cap]), ?_, hC, hU.step (fun _ h => Option.some.inj h), hH.keep (by decide) (by decide) _ (Below.refl _ _)⟩
      simp only [upd]
      rfl
    case s3 =>
      intro listed bb u hsz hn hwt hinv
      obtain ⟨x, rfl, hC, hU, hH⟩ := hinv
      have f2 := Lib.hid (hU 2 _ rfl (hwt 2 (by kernel_rfl)))
      simp only [putsX, Act.put, List.setIfInBounds_toArray, List.set_cons_zero, List.set_cons_succ]
      have hcall : Calls Try.prog 24 #[x 2] u (GivesP zs u) := by rw [f2.out]; exact toPartition_is _ _ _ _ HZ.out (by omega) _ (HR2.out.below hC)
      go_wp2_with fail
      refine hcall.mono ?_
      intro e u' hgp
      obtain ⟨aa, cc, rfl, own, hb⟩ := givesP_len HZ.out hgp
      go_wp2_with fail
      refine stepQ_normal ⟨trivial, upd x 3 (.agg #[.slice aa n cc]), ?_, hC.trans (hb.mono hC.size), hU.step (fun _ h => by cases h), Held.new own.row⟩
      simp only [upd]
      rfl
    case s4 =>
      intro listed bb u hsz hn hwt hinv
      obtain ⟨x, rfl, hC, hU, hH⟩ := hinv
      simp only [putsX, Act.put, List.setIfInBounds_toArray, List.set_cons_zero, List.set_cons_succ]
      obtain ⟨c5, c6, c7⟩ := cells3 (keep_block hC d2 (lt_of_block d2))
      go_wp2_with fail
      refine stepQ_normal ⟨trivial, upd x 4 (.agg #[.int .i64 x0, .int .i64 y0, .int .i64 z0]), ?_, hC, hU.step (fun _ h => Option.some.inj h), hH.keep (by decide) (by decide) _ (Below.refl _ _)⟩
      simp only [upd]
      rfl
    case s5 =>
      intro listed bb u hsz hn hwt hinv
      obtain ⟨x, rfl, hC, hU, hH⟩ := hinv
      have f4 := Lib.hid (hU 4 _ rfl (hwt 4 (by kernel_rfl)))
      simp only [putsX, Act.put, List.setIfInBounds_toArray, List.set_cons_zero, List.set_cons_succ]
      have hcall : Calls Try.prog 34 #[x 4] u (Gives (.agg #[.int .i64 x0, .int .i64 y0, .int .i64 z0]) u) := by rw [f4.out]; exact toAddr_any _ _ _ _
      go_wp2_with fail
      refine hcall.mono ?_
      rintro e u' ⟨rfl, hb⟩
      go_wp2_with fail
      refine stepQ_normal ⟨trivial, upd x 5 (.agg #[.int .i64 x0, .int .i64 y0, .int .i64 z0]), ?_, hC.trans (hb.mono hC.size), hU.step (fun _ h => Option.some.inj h), hH.keep (by decide) (by decide) _ hb⟩
      simp only [upd]
      rfl
    case s6 =>
      intro listed bb u hsz hn hwt hinv
      obtain ⟨x, rfl, hC, hU, hH⟩ := hinv
      have f1 := Lib.hid (hU 1 _ rfl (hwt 1 (by kernel_rfl)))
      have f5 := Lib.hid (hU 5 _ rfl (hwt 5 (by kernel_rfl)))
      simp only [putsX, Act.put, List.setIfInBounds_toArray, List.set_cons_zero, List.set_cons_succ]
      obtain ⟨aa, cc, fp, hrow⟩ := hH (hwt 3 (by kernel_rfl)) hn
      have hcall : Calls Try.prog 33 #[x 1, x 3, x 5] u (Gives (.tuple #[.int .i64 X, .int .i64 Y, .bool tb]) u) := by rw [fp, f1.out, f5.out]; exact SPEC.out aa cc u hrow
      clear fp
      go_wp2_with fail
      refine hcall.mono ?_
      rintro e u' ⟨rfl, hb⟩
      go_wp2_with fail
      refine stepQ_normal ⟨trivial, upd x 6 (.tuple #[.int .i64 X, .int .i64 Y, .bool tb]), ?_, hC.trans (hb.mono hC.size), hU.step (fun _ h => Option.some.inj h), Held.call (by rw [hsz]; decide)⟩
      simp only [upd]
      rfl
    case s7 =>
      intro listed bb u hsz hn hwt hinv
      obtain ⟨x, rfl, hC, hU, hH⟩ := hinv
      have f6 := Lib.hid (hU 6 _ rfl (hwt 6 (by kernel_rfl)))
      simp only [putsX, Act.put, List.setIfInBounds_toArray, List.set_cons_zero, List.set_cons_succ]
      go_wp2_with fail
      refine stepQ_normal ⟨trivial, upd x 7 (x 6), ?_, hC, hU.step (fun u h => by rw [f6.out]; exact Option.some.inj h), hH.keep (by decide) (by decide) _ (Below.refl _ _)⟩
      simp only [upd]
      rfl
    case s8 =>
      intro listed bb u hsz hn hwt hinv
      obtain ⟨x, rfl, hC, hU, hH⟩ := hinv
      have f7 := Lib.hid (hU 7 _ rfl (hwt 7 (by kernel_rfl)))
      simp only [putsX, Act.put, List.setIfInBounds_toArray, List.set_cons_zero, List.set_cons_succ]
      rw [f7.out]
      go_wp2_with fail
      refine stepQ_normal ⟨trivial, upd x 8 (.int .i64 X), ?_, hC, hU.step (fun _ h => Option.some.inj h), hH.keep (by decide) (by decide) _ (Below.refl _ _)⟩
      simp only [upd]
      simp only [f7.out]
      (try rfl)
    case s9 =>
      intro listed bb u hsz hn hwt hinv
      obtain ⟨x, rfl, hC, hU, hH⟩ := hinv
      have f7 := Lib.hid (hU 7 _ rfl (hwt 7 (by kernel_rfl)))
      simp only [putsX, Act.put, List.setIfInBounds_toArray, List.set_cons_zero, List.set_cons_succ]
      rw [f7.out]
      go_wp2_with fail
      refine stepQ_normal ⟨trivial, upd x 9 (.int .i64 Y), ?_, hC, hU.step (fun _ h => Option.some.inj h), hH.keep (by decide) (by decide) _ (Below.refl _ _)⟩
      simp only [upd]
      simp only [f7.out]
      (try rfl)
    case s10 =>
      intro listed bb u hsz hn hwt hinv
      obtain ⟨x, rfl, hC, hU, hH⟩ := hinv
      have f7 := Lib.hid (hU 7 _ rfl (hwt 7 (by kernel_rfl)))
      simp only [putsX, Act.put, List.setIfInBounds_toArray, List.set_cons_zero, List.set_cons_succ]
      rw [f7.out]
      go_wp2_with fail
      refine stepQ_normal ⟨trivial, upd x 10 (.bool tb), ?_, hC, hU.step (fun _ h => Option.some.inj h), hH.keep (by decide) (by decide) _ (Below.refl _ _)⟩
      simp only [upd]
      simp only [f7.out]
      (try rfl)
    case s11 =>
      intro listed bb u hsz hn hwt hinv
      obtain ⟨x, rfl, hC, hU, hH⟩ := hinv
      have f8 := Lib.hid (hU 8 _ rfl (hwt 8 (by kernel_rfl)))
      simp only [putsX, Act.put, List.setIfInBounds_toArray, List.set_cons_zero, List.set_cons_succ]
      go_wp2_with fail
      refine stepQ_normal ⟨trivial, upd x 11 (x 8), ?_, hC, hU.step (fun u h => by rw [f8.out]; exact Option.some.inj h), hH.keep (by decide) (by decide) _ (Below.refl _ _)⟩
      simp only [upd]
      rfl
    case s12 =>
      intro listed bb u hsz hn hwt hinv
      obtain ⟨x, rfl, hC, hU, hH⟩ := hinv
      have f9 := Lib.hid (hU 9 _ rfl (hwt 9 (by kernel_rfl)))
      simp only [putsX, Act.put, List.setIfInBounds_toArray, List.set_cons_zero, List.set_cons_succ]
      go_wp2_with fail
      refine stepQ_normal ⟨trivial, upd x 12 (x 9), ?_, hC, hU.step (fun u h => by rw [f9.out]; exact Option.some.inj h), hH.keep (by decide) (by decide) _ (Below.refl _ _)⟩
      simp only [upd]
      rfl
    case s13 =>
      intro listed bb u hsz hn hwt hinv
      obtain ⟨x, rfl, hC, hU, hH⟩ := hinv
      have f10 := Lib.hid (hU 10 _ rfl (hwt 10 (by kernel_rfl)))
      simp only [putsX, Act.put, List.setIfInBounds_toArray, List.set_cons_zero, List.set_cons_succ]
      go_wp2_with fail
      refine stepQ_normal ⟨trivial, upd x 13 (x 10), ?_, hC, hU.step (fun u h => by rw [f10.out]; exact Option.some.inj h), hH.keep (by decide) (by decide) _ (Below.refl _ _)⟩
      simp only [upd]
      rfl
  case he =>
    intro listed x u hall hC hU hH
    have e0 := hU 0 _ rfl (hall 0 (by decide))
    have e1 := hU 1 _ rfl (hall 1 (by decide))
    have e2 := hU 2 _ rfl (hall 2 (by decide))
    have e4 := hU 4 _ rfl (hall 4 (by decide))
    have e5 := hU 5 _ rfl (hall 5 (by decide))
    have e6 := hU 6 _ rfl (hall 6 (by decide))
    have e7 := hU 7 _ rfl (hall 7 (by decide))
    have e8 := hU 8 _ rfl (hall 8 (by decide))
    have e9 := hU 9 _ rfl (hall 9 (by decide))
    have e10 := hU 10 _ rfl (hall 10 (by decide))
    have e11 := hU 11 _ rfl (hall 11 (by decide))
    have e12 := hU 12 _ rfl (hall 12 (by decide))
    have e13 := hU 13 _ rfl (hall 13 (by decide))
    simp only [putsX, Act.put, List.setIfInBounds_toArray, List.set_cons_zero, List.set_cons_succ, e0, e1, e2, e4, e5, e6, e7, e8, e9, e10, e11, e12, e13]
    clear hall hU hH e0 e1 e2 e4 e5 e6 e7 e8 e9 e10 e11 e12 e13
    have g5 := keep_block hC g2 (lt_of_block g2)
    have p5 := keep_block hC p2 (lt_of_block p2)
    have d5 := keep_block hC d2 (lt_of_block d2)
    have HB5 : Hid (Below w.heap.size w u) := HB2.out.trans (hC.mono HB2.out.size)
    have HR5 := Lib.hid (HR2.out.below hC)
    obtain ⟨w5, rfl⟩ : ∃ v, v = u := ⟨_, rfl⟩
    clear hC g2 p2 d2 HB2 HR2 SPEC
    have cp5 := cell1 p5
    go_wp2_with fail
    refine (toPartition_is _ _ _ _ HZ.out (by omega) _ HR5.out).mono ?_
    intro e w6 hgp
    obtain ⟨ab, cb, rfl, own6, hb6⟩ := givesP_len HZ.out hgp
    have g6 := keep_block hb6 g5 (lt_of_block g5)
    have p6 := keep_block hb6 p5 (lt_of_block p5)
    have HB6 : Hid (Below w.heap.size w w6) := HB5.out.trans (hb6.mono HB5.out.size)
    have HR6 := Lib.hid (HR5.out.below hb6)
    obtain ⟨w7, hw7⟩ : ∃ u, w6.alloc (.cells #[.slice ab n cb] 28) = u := ⟨_, rfl⟩
    have hb7 : Below w6.heap.size w6 w7 := by rw [← hw7]; exact below_alloc _
    have q7 : w7.heap[w6.heap.size]? = some (.cells #[.slice ab n cb] 28) := by rw [← hw7]; exact heap_alloc_new _ _
    have g7 := keep_block hb7 g6 (lt_of_block g6)
    have d6 := keep_block hb6 d5 (lt_of_block d5)
    have d7 := keep_block hb7 d6 (lt_of_block d6)
    have p7 := keep_block hb7 p6 (lt_of_block p6)
    have HB7 : Hid (Below w.heap.size w w7) := HB6.out.trans (hb7.mono HB6.out.size)
    have HR7 := Lib.hid (HR6.out.below hb7)
    have HO7 := Lib.hid (own6.below hb7)
    obtain ⟨pb, hpb⟩ : ∃ u, w6.heap.size = u := ⟨_, rfl⟩
    rw [hpb] at q7
    clear hb6 hb7 g5 p5 g6 p6 d5 d6 HB5 HB6 HR5 HR6 own6 hgp cp5
    obtain ⟨c0, c1, c2, c3⟩ := cells4 g7
    have c5 := cell1 q7
    go_wp2_with fail
    clear hw7
    (try simp only [hpb])
    obtain ⟨c6, c7, c8⟩ := cells3 d7
    have z0 := fun zz : Later w7 => zz.cell c0
    have z1 := fun zz : Later w7 => zz.cell c1
    have z2 := fun zz : Later w7 => zz.cell c2
    have z3 := fun zz : Later w7 => zz.cell c3
    have z5 := fun zz : Later w7 => zz.cell c5
    have z6 := fun zz : Later w7 => zz.cell c6
    have z7 := fun zz : Later w7 => zz.cell c7
    have z8 := fun zz : Later w7 => zz.cell c8
    have hrow := Lib.hid (fun zz : Later w7 => HO7.out.row.below zz.ok)
    refine wp_region_later (by kernel_rfl) (by kernel_rfl) ?_
    repeat (go_big_quiet_step (first | (go_at_call 23; exact Gives.later _ (toGeometry_any _ _ _ _ _)) | (go_at_call 34; exact Gives.later _ (toAddr_any _ _ _ _)) | (go_at_call 19; exact Gives.later _ (IMPL.out _ _ _ (hrow.out _)))))
    refine wpQuiet_nil ?_
    rintro w8 ⟨zz, hzz⟩
    have hb8 : Below w7.heap.size w7 w8 := hzz ▸ zz.ok
    have p8 := keep_block hb8 p7 (lt_of_block p7)
    have q8 := keep_block hb8 q7 (lt_of_block q7)
    have HB8 : Hid (Below w.heap.size w w8) := HB7.out.trans (hb8.mono HB7.out.size)
    have HR8 := Lib.hid (HR7.out.below hb8)
    have HO8 := Lib.hid (HO7.out.below hb8)
    have tXX : (X != X) = false := by simp
    have tYY : (Y != Y) = false := by simp
    have tbb : (tb != tb) = false := by simp
    clear hzz zz hb8 g7 p7 q7 d7 HB7 HR7 HO7 hrow z0 z1 z2 z3 z5 z6 z7 z8 c0 c1 c2 c3 c5 c6 c7 c8 hpb
    go_wp2_with fail
    refine wp_region_float (A := ?A9) [.h, .h, .t, .t, .e] (by kernel_rfl) (by kernel_rfl) (fun u => u.heap[w.heap.size + 1]? = some (.cells #[.slice ad n cap] 44) ∧ u.heap[pb]? = some (.cells #[.slice ab n cb] 28)) ?hC2 ?hH2 ?hT2
    case hC2 => exact ⟨p8, q8⟩
    case hH2 =>
      intro u hu
      have c4 := cell1 hu.1
      have c5 := cell1 hu.2
      have z4 := fun q : Same u => q.cell c4
      have z5 := fun q : Same u => q.cell c5
      simp only [headsOf]
      repeat (go_big_quiet_step (fail))
      refine wpQuiet_nil ?_
      exact rfl
    case hT2 =>
      simp only [chainT]
      have HRd : Hid (RowI w8.drew ad zs) := HR8.out
      have HBd : Hid (Below w.heap.size w w8.drew) := HB8.out.drew
      have HOd : Hid (OwnI w5.heap.size (.slice ab n cb) zs w8.drew) := HO8.out
      have pd : w8.drew.heap[w.heap.size + 1]? = some (.cells #[.slice ad n cap] 44) := p8
      have qd : w8.drew.heap[pb]? = some (.cells #[.slice ab n cb] 28) := q8
      clear p8 q8 HB8 HR8 HO8
      go_wp2_with fail
      refine (toPartition_is _ _ _ _ HZ.out (by omega) _ HRd.out).mono ?_
      intro e w9 hgp
      obtain ⟨ac, cc2, rfl, own9, hb9⟩ := givesP_len HZ.out hgp
      have p9 := keep_block hb9 pd (lt_of_block pd)
      have q9 := keep_block hb9 qd (lt_of_block qd)
      have HB9 : Hid (Below w.heap.size w w9) := HBd.out.trans (hb9.mono HBd.out.size)
      have HO9 := Lib.hid (HOd.out.below hb9)
      have HP9 := Lib.hid own9
      clear hb9 pd qd HBd HRd HOd own9 hgp
      go_wp2_with fail
      refine stepQ_normal ⟨⟨p9, q9⟩, ?_⟩
      go_wp2_with fail
      refine (eqPartition_is HZ.out HO9.out HP9.out (by omega)).mono ?_
      rintro e w10 ⟨rfl, hb10⟩
      have p10 := keep_block hb10 p9 (lt_of_block p9)
      have q10 := keep_block hb10 q9 (lt_of_block q9)
      have HB10 : Hid (Below w.heap.size w w10) := HB9.out.trans (hb10.mono HB9.out.size)
      clear hb10 p9 q9 HB9 HO9 HP9
      go_wp2_with fail
      refine stepQ_normal ⟨⟨p10, q10⟩, ?_⟩
      go_wp2_with fail
      refine stepQ_normal ⟨trivial, ?_⟩
      go_wp2_with fail
      go_ret
      exact ⟨rfl, HB10.out⟩

end Go.Proofs.Ytljcdjhafhppbaa
