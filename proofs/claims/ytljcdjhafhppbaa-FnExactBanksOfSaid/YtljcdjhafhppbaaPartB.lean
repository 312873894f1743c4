/-
  The walk of the exact statement over the banks of a tenant, out of the two contracts.
-/
import Derived.Test.YtljcdjhafhppbaaPartE
namespace Go.Proofs.Ytljcdjhafhppbaa
open Go.RowKit

set_option linter.unusedVariables false


set_option maxHeartbeats 4000000 in
set_option maxRecDepth 100000 in
theorem exBanksOf_walk (l : List Value) (t : Int) (w : World) (s : Sh.Fits w (.and (.row (.num .i64)) .fin) l) (htw : (Lit.int .i64 t).wf = true) :
    Calls Try.prog 6 #[.agg l.toArray, .int .i64 t] w fun e w' => e = .returned (.bool true) ∧ Below w.heap.size w w' := by
  obtain ⟨ad, n, cap, zs, rfl, hz, hr, hw, hn⟩ := part_in s
  have hkn : (bkL zs t).length ≤ n := by rw [← hz]; exact bkL_le zs t
  obtain ⟨L, hL⟩ : ∃ L, bkL zs t = L := ⟨_, rfl⟩
  obtain ⟨K, hK⟩ : ∃ K, L.length = K := ⟨_, rfl⟩
  rw [hL, hK] at hkn
  have HK := Lib.hid hK
  have HLL := Lib.hid hL
  have HZ := Lib.hid hz
  have HW := Lib.hid hw
  have HR := Lib.hid hr
  obtain ⟨sv, hsv⟩ : ∃ v : Int, (if (1048576 : Int) - (n : Int) < 0 then -1 else 1048576 - (n : Int)) = v := ⟨_, rfl⟩
  have HSV := Lib.hid hsv
  obtain ⟨w1, hw1⟩ : ∃ u, w.alloc (.cells #[.slice ad n cap] 44) = u := ⟨_, rfl⟩
  have HB1 : Hid (Below w.heap.size w w1) := by subst hw1; exact below_alloc _
  have p1 : w1.heap[w.heap.size]? = some (.cells #[.slice ad n cap] 44) := by subst hw1; exact heap_alloc_new _ _
  have cp := cell1 p1
  clear hz hr hw hL hK
  go_enter Try.func6, Try.ntmps6
  go_wp2_with fail
  refine (szPartition_is _ _ _ 1048576 sv hn (by omega) (by omega) HSV.out _).mono ?_
  rintro e w2 ⟨rfl, hb2⟩
  have p2 := keep_block hb2 p1 (lt_of_block p1)
  have HB2 : Hid (Below w.heap.size w w2) := HB1.out.trans (hb2.mono HB1.out.size)
  clear hb2 p1 HB1 cp hw1
  by_cases hbig : (1048576 : Int) - n < 0
  · have hs : sv < 0 := by rw [← hsv, if_pos hbig]; omega
    clear hsv hbig
    go_wp2
    go_ret
    exact ⟨rfl, HB2.out⟩
  have hs : 0 ≤ sv := by rw [← hsv, if_neg hbig]; omega
  have hn2 : n ≤ 1048576 := by omega
  clear hsv hbig hn
  have SPEC : Hid (∀ (a : Option Addr) (c : Nat) (u : World), RowI u a zs → Calls Try.prog 26 #[.agg #[.slice a n c], .int .i64 t] u (GivesI L u)) := by
    intro a c u hr
    have k := specBanksOf_is a n c zs HZ.out (by omega) t u hr
    rwa [HLL.out] at k
  have IMPL : Hid (∀ (a : Option Addr) (c : Nat) (u : World), RowI u a zs → Calls Try.prog 15 #[.agg #[.slice a n c], .int .i64 t] u (GivesI L u)) := by
    intro a c u hr
    have k := implBanksOf_is a n c zs HZ.out (by omega) HW.out t htw u hr
    rwa [HLL.out] at k
  clear HLL
  have cp2 := cell1 p2
  go_wp2_with fail
  refine (toPartition_is _ _ _ _ HZ.out (by omega) _ (HR.out.below HB2.out)).mono ?_
  intro e w3 hgp
  obtain ⟨aa, cc, rfl, own3, hb3⟩ := givesP_len HZ.out hgp
  have p3 := keep_block hb3 p2 (lt_of_block p2)
  have HB3 : Hid (Below w.heap.size w w3) := HB2.out.trans (hb3.mono HB2.out.size)
  have HQ3 : Hid (RowI w3 aa zs) := own3.row
  clear hb3 p2 HB2 own3 hgp cp2
  go_wp2_with fail
  refine (SPEC.out _ _ _ HQ3.out).mono ?_
  intro e w4 hgi
  obtain ⟨a1, c1, rfl, own1, hb4⟩ := givesI_len HK.out hgi
  have p4 := keep_block hb4 p3 (lt_of_block p3)
  have HB4 : Hid (Below w.heap.size w w4) := HB3.out.trans (hb4.mono HB3.out.size)
  have O1 := Lib.hid own1
  have LO1 : Hid (∀ x, a1 = some x → x.block < w4.heap.size) := fun x hx => (own1.lo x hx).2
  have hs4 := lt_of_block p4
  clear hb4 p3 HB3 HQ3 own1 hgi
  have cp4 := cell1 p4
  go_wp2_with fail
  refine (toPartition_is _ _ _ _ HZ.out (by omega) _ (HR.out.below HB4.out)).mono ?_
  intro e w5 hgp
  obtain ⟨ab, cb, rfl, own5, hb5⟩ := givesP_len HZ.out hgp
  have p5 := keep_block hb5 p4 (lt_of_block p4)
  have HB5 : Hid (Below w.heap.size w w5) := HB4.out.trans (hb5.mono HB4.out.size)
  have B45 : Hid (Below w4.heap.size w4 w5) := hb5
  obtain ⟨gp, hgp1, hgp2, hgp3⟩ : ∃ gp : Nat, (∀ x, ab = some x → x.block = gp) ∧ w4.heap.size ≤ gp ∧ gp < w5.heap.size + 1 := by
    cases ab with
    | none => exact ⟨w4.heap.size, fun x hx => (by cases hx), Nat.le_refl _, by have := hb5.size; omega⟩
    | some x => exact ⟨x.block, fun y hy => by cases hy; rfl, (World.ownsRow.lt own5 x.block rfl).1, by have := (World.ownsRow.lt own5 x.block rfl).2; omega⟩
  have HGP := Lib.hid hgp1
  obtain ⟨w6, hw6⟩ : ∃ u, w5.alloc (.cells #[.slice ab n cb] 28) = u := ⟨_, rfl⟩
  have hb6 : Below w5.heap.size w5 w6 := by rw [← hw6]; exact below_alloc _
  have q6 : w6.heap[w5.heap.size]? = some (.cells #[.slice ab n cb] 28) := by rw [← hw6]; exact heap_alloc_new _ _
  have hs6 : w6.heap.size = w5.heap.size + 1 := by rw [← hw6]; simp
  have p6 := keep_block hb6 p5 (lt_of_block p5)
  have HB6 : Hid (Below w.heap.size w w6) := HB5.out.trans (hb6.mono HB5.out.size)
  have B46 : Hid (Below w4.heap.size w4 w6) := B45.out.trans (hb6.mono B45.out.size)
  have OP6 := Lib.hid (own5.below hb6)
  obtain ⟨pb, hpb⟩ : ∃ u, w5.heap.size = u := ⟨_, rfl⟩
  have hpb4 : w4.heap.size ≤ pb := by rw [← hpb]; exact B45.out.size
  have hgp6 : gp < w6.heap.size := by rw [hs6]; exact hgp3
  rw [hpb] at q6
  clear hb5 hb6 p4 p5 HB4 HB5 B45 own5 hgp cp4 hgp1 hgp3 hs6
  have cq6 := cell1 q6
  go_wp2_with fail
  clear hw6
  (try simp only [hpb])
  refine (IMPL.out _ _ _ OP6.out.row).mono ?_
  intro e w7 hgi
  obtain ⟨a2, c2, rfl, own2, hb7⟩ := givesI_len HK.out hgi
  have p7 := keep_block hb7 p6 (lt_of_block p6)
  have q7 := keep_block hb7 q6 (lt_of_block q6)
  have HB7 : Hid (Below w.heap.size w w7) := HB6.out.trans (hb7.mono HB6.out.size)
  have B47 : Hid (Below w4.heap.size w4 w7) := B46.out.trans (hb7.mono B46.out.size)
  have OP7 := Lib.hid (OP6.out.below hb7)
  have O2 := Lib.hid own2
  obtain ⟨gg, hgg, hge, hgl⟩ : ∃ gg : Nat, (∀ x, a2 = some x → x.block = gg) ∧ w6.heap.size ≤ gg ∧ w4.heap.size ≤ gg := by
    have h46 := B46.out.size
    cases a2 with
    | none => exact ⟨w6.heap.size, fun x hx => (by cases hx), Nat.le_refl _, h46⟩
    | some x => exact ⟨x.block, fun y hy => by cases hy; rfl, (World.ownsRow.lt own2 x.block rfl).1, Nat.le_trans h46 (World.ownsRow.lt own2 x.block rfl).1⟩
  have HGG := Lib.hid hgg
  have hs67 : w6.heap.size ≤ w7.heap.size := hb7.size
  clear hb7 p6 q6 HB6 B46 OP6 own2 hgi cq6 hpb hgg
  have O17 := Lib.hid (O1.out.below B47.out)
  go_wp2_with fail
  refine (eqIntS_any HK.out O2.out O17.out (by omega)).mono ?_
  rintro e w8 ⟨rfl, hb8⟩
  have p8 := keep_block hb8 p7 (lt_of_block p7)
  have q8 := keep_block hb8 q7 (lt_of_block q7)
  have HB8 : Hid (Below w.heap.size w w8) := HB7.out.trans (hb8.mono HB7.out.size)
  have B48 : Hid (Below w4.heap.size w4 w8) := B47.out.trans (hb8.mono B47.out.size)
  have OP8 := Lib.hid (OP7.out.below hb8)
  have O28 := Lib.hid (O2.out.below hb8)
  have hs68 := Nat.le_trans hs67 hb8.size
  clear hb8 p7 q7 HB7 B47 OP7 O2 O17 hs67
  go_wp2_with fail
  refine wp_region_float (A := ?A9) [.h, .h, .t, .t, .e] (by kernel_rfl) (by kernel_rfl) (fun u => u.heap[w.heap.size]? = some (.cells #[.slice ad n cap] 44) ∧ u.heap[pb]? = some (.cells #[.slice ab n cb] 28)) ?hC2 ?hH2 ?hT2
  case hC2 => exact ⟨p8, q8⟩
  case hH2 =>
    intro u hu
    have c4 := cell1 hu.1
    have c5 := cell1 hu.2
    have z4 := fun q : Same u => q.cell c4
    have z5 := fun q : Same u => q.cell c5
    simp only [headsOf]
    repeat (go_big_quiet_step (fail))
    refine wpQuiet_nil ?_
    exact rfl
  case hT2 =>
    simp only [chainT]
    have HBd : Hid (Below w.heap.size w w8.drew) := HB8.out.drew
    have B4d : Hid (Below w4.heap.size w4 w8.drew) := B48.out.drew
    have OPd : Hid (OwnI w4.heap.size (.slice ab n cb) zs w8.drew) := OP8.out
    have O2d : Hid (OwnI w6.heap.size (.slice a2 K c2) L w8.drew) := O28.out
    have hs6d : w6.heap.size ≤ w8.drew.heap.size := hs68
    have pd : w8.drew.heap[w.heap.size]? = some (.cells #[.slice ad n cap] 44) := p8
    have qd : w8.drew.heap[pb]? = some (.cells #[.slice ab n cb] 28) := q8
    clear p8 q8 HB8 B48 OP8 O28 hs68
    go_wp2_with fail
    refine (toPartition_is _ _ _ _ HZ.out (by omega) _ (HR.out.below HBd.out)).mono ?_
    intro e w9 hgp
    obtain ⟨ac, cc2, rfl, own9, hb9⟩ := givesP_len HZ.out hgp
    have p9 := keep_block hb9 pd (lt_of_block pd)
    have q9 := keep_block hb9 qd (lt_of_block qd)
    have HB9 : Hid (Below w.heap.size w w9) := HBd.out.trans (hb9.mono HBd.out.size)
    have B49 : Hid (Below w4.heap.size w4 w9) := B4d.out.trans (hb9.mono B4d.out.size)
    have OP9 := Lib.hid (OPd.out.below hb9)
    have O29 := Lib.hid (O2d.out.below hb9)
    have OX9 := Lib.hid own9
    have hs69 := Nat.le_trans hs6d hb9.size
    clear hb9 pd qd HBd B4d OPd O2d own9 hgp hs6d
    go_wp2_with fail
    refine stepQ_normal ⟨⟨p9, q9⟩, ?_⟩
    go_wp2_with fail
    refine (eqPartition_is HZ.out OP9.out OX9.out (by omega)).mono ?_
    rintro e w10 ⟨rfl, hb10⟩
    have p10 := keep_block hb10 p9 (lt_of_block p9)
    have q10 := keep_block hb10 q9 (lt_of_block q9)
    have HB10 : Hid (Below w.heap.size w w10) := HB9.out.trans (hb10.mono HB9.out.size)
    have B410 : Hid (Below w4.heap.size w4 w10) := B49.out.trans (hb10.mono B49.out.size)
    have OP10 := Lib.hid (OP9.out.below hb10)
    have O210 := Lib.hid (O29.out.below hb10)
    have hs610 := Nat.le_trans hs69 hb10.size
    clear hb10 p9 q9 HB9 B49 OP9 O29 OX9 hs69
    go_wp2_with fail
    refine stepQ_normal ⟨⟨p10, q10⟩, ?_⟩
    go_wp2_with fail
    refine stepQ_normal ⟨trivial, ?_⟩
    have cq10 := cell1 q10
    go_wp2_with fail
    refine (markPartition_is HZ.out OP10.out 1 (by omega) gp HGP.out).mono ?_
    rintro e w11 ⟨rfl, _, ho11⟩
    have h410 := B410.out.size
    have bel11 : Below w4.heap.size w10 w11 := ho11.below hgp2 h410
    have p11 := keep_block bel11 p10 hs4
    have HB11 : Hid (Below w.heap.size w w11) := HB10.out.trans (bel11.mono (by have := HB10.out.size; omega))
    have B411 : Hid (Below w4.heap.size w4 w11) := B410.out.trans bel11
    have O211 : Hid (OwnI w6.heap.size (.slice a2 K c2) L w11) := O210.out.keep ho11 (fun x hx => by have := (O210.out.lo x hx).1; omega)
    have hs611 := Nat.le_trans hs610 ho11.size
    clear ho11 bel11 p10 q10 HB10 B410 OP10 O210 hs610 cq10 HGP
    obtain ⟨M0, hM0⟩ : ∃ M : Int, ((1 + n : Nat) : Int) = M := ⟨_, rfl⟩
    have hM00 : 0 ≤ M0 := by omega
    rw [hM0]
    clear hM0
    have O111 := Lib.hid (O1.out.below B411.out)
    go_wp2_with fail
    refine (eqIntS_any HK.out O211.out O111.out (by omega)).mono ?_
    rintro e w12 ⟨rfl, hb12⟩
    have p12 := keep_block hb12 p11 (lt_of_block p11)
    have HB12 : Hid (Below w.heap.size w w12) := HB11.out.trans (hb12.mono HB11.out.size)
    have B412 : Hid (Below w4.heap.size w4 w12) := B411.out.trans (hb12.mono B411.out.size)
    have O212 := Lib.hid (O211.out.below hb12)
    have hs612 := Nat.le_trans hs611 hb12.size
    clear hb12 p11 HB11 B411 O211 O111 hs611
    go_wp2_with fail
    refine (markIntS_any HK.out O212.out 1 (by omega) gg HGG.out).mono ?_
    rintro e w13 ⟨rfl, own13, ho13⟩
    have bel13 : Below w4.heap.size w12 w13 := ho13.below hgl B412.out.size
    have p13 := keep_block bel13 p12 hs4
    have HB13 : Hid (Below w.heap.size w w13) := HB12.out.trans (bel13.mono (by have := HB12.out.size; omega))
    have B413 : Hid (Below w4.heap.size w4 w13) := B412.out.trans bel13
    have O13 := Lib.hid own13
    clear own13 ho13 bel13 p12 HB12 B412 O212 HGG
    obtain ⟨M, hM⟩ : ∃ M : Int, ((1 + K : Nat) : Int) = M := ⟨_, rfl⟩
    have hM1 : 0 ≤ M := by omega
    rw [hM]
    have hh := fun (u : World) (k : OwnI w6.heap.size (.slice a2 K c2) (marksI 1 K) u) => heldIntS_any (w := u) 1 k (by omega)
    rw [hM] at hh
    have HH := Lib.hid hh
    have tMM : (M != M) = false := by simp
    clear hh hM
    go_wp2_with fail
    refine (HH.out _ O13.out).mono ?_
    rintro e w14 ⟨rfl, hb14⟩
    have p14 := keep_block hb14 p13 (lt_of_block p13)
    have HB14 : Hid (Below w.heap.size w w14) := HB13.out.trans (hb14.mono HB13.out.size)
    have B414 : Hid (Below w4.heap.size w4 w14) := B413.out.trans (hb14.mono B413.out.size)
    have O14 := Lib.hid (O13.out.below hb14)
    clear hb14 p13 HB13 B413 O13
    have cp14 := cell1 p14
    go_wp2_with fail
    refine (toPartition_is _ _ _ _ HZ.out (by omega) _ (HR.out.below HB14.out)).mono ?_
    intro e w15 hgp
    obtain ⟨ae, ce, rfl, own15, hb15⟩ := givesP_len HZ.out hgp
    have HB15 : Hid (Below w.heap.size w w15) := HB14.out.trans (hb15.mono HB14.out.size)
    have B415 : Hid (Below w4.heap.size w4 w15) := B414.out.trans (hb15.mono B414.out.size)
    have O15 := Lib.hid (O14.out.below hb15)
    have HQ15 : Hid (RowI w15 ae zs) := own15.row
    clear hb15 p14 HB14 B414 O14 own15 hgp cp14
    go_wp2_with fail
    refine (IMPL.out _ _ _ HQ15.out).mono ?_
    intro e w16 hgi
    obtain ⟨a3, c3, rfl, own3, hb16⟩ := givesI_len HK.out hgi
    have HB16 : Hid (Below w.heap.size w w16) := HB15.out.trans (hb16.mono HB15.out.size)
    have B416 : Hid (Below w4.heap.size w4 w16) := B415.out.trans (hb16.mono B415.out.size)
    have O16 := Lib.hid (O15.out.below hb16)
    have O3 := Lib.hid own3
    have O116 := Lib.hid (O1.out.below B416.out)
    clear hb16 HB15 B415 O15 HQ15 own3 hgi
    go_wp2_with fail
    refine (eqIntS_any HK.out O3.out O116.out (by omega)).mono ?_
    rintro e w17 ⟨rfl, hb17⟩
    have HB17 : Hid (Below w.heap.size w w17) := HB16.out.trans (hb17.mono HB16.out.size)
    have O17 := Lib.hid (O16.out.below hb17)
    clear hb17 HB16 B416 O16 O3 O116
    go_wp2_with fail
    refine (HH.out _ O17.out).mono ?_
    rintro e w18 ⟨rfl, hb18⟩
    have HB18 : Hid (Below w.heap.size w w18) := HB17.out.trans (hb18.mono HB17.out.size)
    clear hb18 O17 HB17
    go_wp2
    go_ret
    exact ⟨rfl, HB18.out⟩

end Go.Proofs.Ytljcdjhafhppbaa
