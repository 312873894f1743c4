/-
  The lines of a tenant: their number, the address of a line, the line of an address: of the model and of impl.
-/
import Derived.Test.YtljcdjhafhppbaaPartI
import Derived.Test.YtljcdjhafhppbaaFloat
namespace Go.Proofs.Ytljcdjhafhppbaa
open Go.RowKit

set_option linter.unusedVariables false

/-- A call that answers a row of K numbers of its own. -/
theorem givesI_len {l : List Int} {K : Nat} (hK : l.length = K) {w : World} {e : Ending} {w' : World} (h : GivesI l w e w') : ∃ a cap, e = .returned (.slice a K cap) ∧ OwnI w.heap.size (.slice a K cap) l w' ∧ Below w.heap.size w w' := by
  subst hK
  exact h

theorem below_drewN {B : Nat} {a w : World} (h : Below B a w) (n : Nat) : Below B a (w.drewN n) := ⟨h.os, h.tape, h.output, h.size, h.block⟩

theorem getD_wf {l : List Int} (h : ∀ x ∈ l, (Lit.int .i64 x).wf = true) (k : Nat) : (Lit.int .i64 (l.getD k 0)).wf = true := by
  by_cases hk : k < l.length
  · exact h _ (getD_mem hk)
  · rw [List.getD_eq_getElem?_getD, List.getElem?_eq_none (by omega)]
    decide

set_option maxHeartbeats 1000000 in
theorem specTenLines_is (a b r d : Int) (ad : Option Addr) (n cap : Nat) (l : List Int) (hn : l.length = n) (h1 : n ≤ 4000000) (hw : ∀ x ∈ l, (Lit.int .i64 x).wf = true) (t : Int) (htw : (Lit.int .i64 t).wf = true) (v : Int) (hv : tlF a b r d l t = v) (w : World) (hr : RowI w ad l) :
    Calls Try.prog 17 #[.agg #[.int .i64 a, .int .i64 b, .int .i64 r, .int .i64 d], .agg #[.slice ad n cap], .int .i64 t] w (Gives (.int .i64 v) w) := by
  obtain ⟨w1, hw1⟩ : ∃ u, (w.alloc (.cells #[.int .i64 a, .int .i64 b, .int .i64 r, .int .i64 d] 25)).alloc (.cells #[.slice ad n cap] 28) = u := ⟨_, rfl⟩
  have HB1 : Hid (Below w.heap.size w w1) := by subst hw1; exact ((Below.refl _ _).alloc (Nat.le_refl _) _).alloc (by simp) _
  have g1 : w1.heap[w.heap.size]? = some (.cells #[.int .i64 a, .int .i64 b, .int .i64 r, .int .i64 d] 25) := by subst hw1; exact heap_alloc2_old _ _ _
  have p1 : w1.heap[w.heap.size + 1]? = some (.cells #[.slice ad n cap] 28) := by subst hw1; exact heap_alloc2_new _ _ _
  have HR1 := Lib.hid (hr.below HB1.out)
  have HN := Lib.hid hn
  have HW := Lib.hid hw
  obtain ⟨xg0, xg1, xg2, xg3⟩ := cells4 g1
  have xp := cell1 p1
  clear hr hn hw
  by_cases kp : PtOk a b r d l
  case neg =>
    have KP := Lib.hid (decide_eq_false kp)
    have HE : Hid (v = 0) := by show _ = _; rw [← hv]; exact tlF_non kp t
    clear kp hv
    go_enter Try.func17, Try.ntmps17
    go_wp2_with fail
    refine (specPtOk_is _ _ _ _ _ _ _ _ HN.out h1 _ KP.out _ HR1.out).mono ?_
    rintro e w2 ⟨rfl, hb2⟩
    have HB2 : Hid (Below w.heap.size w w2) := HB1.out.trans (hb2.mono HB1.out.size)
    clear hb2
    go_wp2
    go_ret
    exact ⟨ret_i HE.out.symm, HB2.out⟩
  have KP := Lib.hid (decide_eq_true kp)
  obtain ⟨K, hK⟩ : ∃ K, (bkL l t).length = K := ⟨_, rfl⟩
  have HK := Lib.hid hK
  have HE : Hid (v = (K : Int) * r * d) := by show _ = _; rw [← hv, tlF_ok kp, hK]
  have k8 : K ≤ 8 := by have := kp.len; have := bkL_le l t; omega
  obtain ⟨⟨_, _, gr, gd⟩, _⟩ := kp
  obtain ⟨⟨q0, q1⟩, q2, q3⟩ := mul_range (k := (K : Int)) ⟨by omega, by omega⟩ gr gd
  have e1 : IntKind.i64.wrap ((K : Int) * r) = (K : Int) * r := IntWalk.i64_in _ ⟨by omega, by omega⟩
  have e2 : IntKind.i64.wrap ((K : Int) * r * d) = (K : Int) * r * d := IntWalk.i64_in _ ⟨by omega, by omega⟩
  clear hK hv q0 q1 q2 q3 gr gd
  go_enter Try.func17, Try.ntmps17
  go_wp2_with fail
  refine (specPtOk_is _ _ _ _ _ _ _ _ HN.out h1 _ KP.out _ HR1.out).mono ?_
  rintro e w2 ⟨rfl, hb2⟩
  have g2 := keep_block hb2 g1 (lt_of_block g1)
  have p2 := keep_block hb2 p1 (lt_of_block p1)
  have HB2 : Hid (Below w.heap.size w w2) := HB1.out.trans (hb2.mono HB1.out.size)
  have HR2 := Lib.hid (HR1.out.below hb2)
  clear hb2 hw1 g1 p1 HB1 HR1 xg0 xg1 xg2 xg3 xp
  go_wp2_with fail
  refine wp_region_float (A := ?A) [.h, .h, .t, .t, .h, .h, .t, .h, .h, .t, .e] (by kernel_rfl) (by kernel_rfl) (fun u => u.heap[w.heap.size]? = some (.cells #[.int .i64 a, .int .i64 b, .int .i64 r, .int .i64 d] 25) ∧ u.heap[w.heap.size + 1]? = some (.cells #[.slice ad n cap] 28)) ?hC ?hH ?hT
  case hC => exact ⟨g2, p2⟩
  case hH =>
    intro u hu
    obtain ⟨c0, c1, c2, c3⟩ := cells4 hu.1
    have c4 := cell1 hu.2
    have z0 := fun q : Same u => q.cell c0
    have z1 := fun q : Same u => q.cell c1
    have z2 := fun q : Same u => q.cell c2
    have z3 := fun q : Same u => q.cell c3
    have z4 := fun q : Same u => q.cell c4
    simp only [headsOf]
    repeat (go_big_quiet_step (fail))
    refine wpQuiet_nil ?_
    exact rfl
  case hT =>
    simp only [chainT]
    have HRd : Hid (RowI w2.drew ad l) := HR2.out
    have HBd : Hid (Below w.heap.size w w2.drew) := HB2.out.drew
    have gd : w2.drew.heap[w.heap.size]? = some (.cells #[.int .i64 a, .int .i64 b, .int .i64 r, .int .i64 d] 25) := g2
    have pd : w2.drew.heap[w.heap.size + 1]? = some (.cells #[.slice ad n cap] 28) := p2
    clear g2 p2 HB2 HR2
    go_wp2_with fail
    refine (specBanksOf_is _ _ _ _ HN.out h1 t _ HRd.out).mono ?_
    intro e w3 hgi
    obtain ⟨aa, cc, rfl, own, hb3⟩ := givesI_len HK.out hgi
    have g3 := keep_block hb3 gd (lt_of_block gd)
    have p3 := keep_block hb3 pd (lt_of_block pd)
    have HB3 : Hid (Below w.heap.size w w3) := HBd.out.trans (hb3.mono HBd.out.size)
    clear hb3 gd pd HBd HRd own hgi
    go_wp2_with fail
    refine stepQ_normal ⟨⟨g3, p3⟩, ?_⟩
    go_wp2_with fail
    refine stepQ_normal ⟨⟨g3, p3⟩, ?_⟩
    go_wp2_with fail
    refine stepQ_normal ⟨⟨g3, p3⟩, ?_⟩
    go_wp2_with fail
    refine stepQ_normal ⟨⟨g3, p3⟩, ?_⟩
    go_wp2_with fail
    refine stepQ_normal ⟨trivial, ?_⟩
    go_wp2_with fail
    go_ret
    exact ⟨ret_i HE.out.symm, HB3.out⟩

set_option maxHeartbeats 1000000 in
theorem implTenLines_is (a b r d : Int) (ad : Option Addr) (n cap : Nat) (l : List Int) (hn : l.length = n) (h1 : n ≤ 4000000) (hw : ∀ x ∈ l, (Lit.int .i64 x).wf = true) (t : Int) (htw : (Lit.int .i64 t).wf = true) (v : Int) (hv : tlF a b r d l t = v) (w : World) (hr : RowI w ad l) :
    Calls Try.prog 14 #[.agg #[.int .i64 a, .int .i64 b, .int .i64 r, .int .i64 d], .agg #[.slice ad n cap], .int .i64 t] w (Gives (.int .i64 v) w) := by
  obtain ⟨w1, hw1⟩ : ∃ u, (w.alloc (.cells #[.int .i64 a, .int .i64 b, .int .i64 r, .int .i64 d] 25)).alloc (.cells #[.slice ad n cap] 28) = u := ⟨_, rfl⟩
  have HB1 : Hid (Below w.heap.size w w1) := by subst hw1; exact ((Below.refl _ _).alloc (Nat.le_refl _) _).alloc (by simp) _
  have g1 : w1.heap[w.heap.size]? = some (.cells #[.int .i64 a, .int .i64 b, .int .i64 r, .int .i64 d] 25) := by subst hw1; exact heap_alloc2_old _ _ _
  have p1 : w1.heap[w.heap.size + 1]? = some (.cells #[.slice ad n cap] 28) := by subst hw1; exact heap_alloc2_new _ _ _
  have HR1 := Lib.hid (hr.below HB1.out)
  have HN := Lib.hid hn
  have HW := Lib.hid hw
  obtain ⟨xg0, xg1, xg2, xg3⟩ := cells4 g1
  have xp := cell1 p1
  clear hr hn hw
  by_cases kp : PtOk a b r d l
  case neg =>
    have KP := Lib.hid (decide_eq_false kp)
    have HE : Hid (v = 0) := by show _ = _; rw [← hv]; exact tlF_non kp t
    clear kp hv
    go_enter Try.func14, Try.ntmps14
    go_wp2_with fail
    refine (implPtOk_is _ _ _ _ _ _ _ _ HN.out h1 _ KP.out _ HR1.out).mono ?_
    rintro e w2 ⟨rfl, hb2⟩
    have HB2 : Hid (Below w.heap.size w w2) := HB1.out.trans (hb2.mono HB1.out.size)
    clear hb2
    go_wp2
    go_ret
    exact ⟨ret_i HE.out.symm, HB2.out⟩
  have KP := Lib.hid (decide_eq_true kp)
  obtain ⟨K, hK⟩ : ∃ K, (bkL l t).length = K := ⟨_, rfl⟩
  have HK := Lib.hid hK
  have HE : Hid (v = (K : Int) * r * d) := by show _ = _; rw [← hv, tlF_ok kp, hK]
  have k8 : K ≤ 8 := by have := kp.len; have := bkL_le l t; omega
  obtain ⟨⟨_, _, gr, gd⟩, _⟩ := kp
  obtain ⟨⟨q0, q1⟩, q2, q3⟩ := mul_range (k := (K : Int)) ⟨by omega, by omega⟩ gr gd
  have e1 : IntKind.i64.wrap ((K : Int) * r) = (K : Int) * r := IntWalk.i64_in _ ⟨by omega, by omega⟩
  have e2 : IntKind.i64.wrap ((K : Int) * r * d) = (K : Int) * r * d := IntWalk.i64_in _ ⟨by omega, by omega⟩
  clear hK hv q0 q1 q2 q3 gr gd
  go_enter Try.func14, Try.ntmps14
  go_wp2_with fail
  refine (implPtOk_is _ _ _ _ _ _ _ _ HN.out h1 _ KP.out _ HR1.out).mono ?_
  rintro e w2 ⟨rfl, hb2⟩
  have g2 := keep_block hb2 g1 (lt_of_block g1)
  have p2 := keep_block hb2 p1 (lt_of_block p1)
  have HB2 : Hid (Below w.heap.size w w2) := HB1.out.trans (hb2.mono HB1.out.size)
  have HR2 := Lib.hid (HR1.out.below hb2)
  clear hb2 hw1 g1 p1 HB1 HR1 xg0 xg1 xg2 xg3 xp
  go_wp2_with fail
  refine wp_region_float (A := ?A) [.h, .h, .t, .t, .h, .h, .t, .h, .h, .t, .e] (by kernel_rfl) (by kernel_rfl) (fun u => u.heap[w.heap.size]? = some (.cells #[.int .i64 a, .int .i64 b, .int .i64 r, .int .i64 d] 25) ∧ u.heap[w.heap.size + 1]? = some (.cells #[.slice ad n cap] 28)) ?hC ?hH ?hT
  case hC => exact ⟨g2, p2⟩
  case hH =>
    intro u hu
    obtain ⟨c0, c1, c2, c3⟩ := cells4 hu.1
    have c4 := cell1 hu.2
    have z0 := fun q : Same u => q.cell c0
    have z1 := fun q : Same u => q.cell c1
    have z2 := fun q : Same u => q.cell c2
    have z3 := fun q : Same u => q.cell c3
    have z4 := fun q : Same u => q.cell c4
    simp only [headsOf]
    repeat (go_big_quiet_step (fail))
    refine wpQuiet_nil ?_
    exact rfl
  case hT =>
    simp only [chainT]
    have HRd : Hid (RowI w2.drew ad l) := HR2.out
    have HBd : Hid (Below w.heap.size w w2.drew) := HB2.out.drew
    have gd : w2.drew.heap[w.heap.size]? = some (.cells #[.int .i64 a, .int .i64 b, .int .i64 r, .int .i64 d] 25) := g2
    have pd : w2.drew.heap[w.heap.size + 1]? = some (.cells #[.slice ad n cap] 28) := p2
    clear g2 p2 HB2 HR2
    go_wp2_with fail
    refine (implBanksOf_is _ _ _ _ HN.out h1 HW.out t htw _ HRd.out).mono ?_
    intro e w3 hgi
    obtain ⟨aa, cc, rfl, own, hb3⟩ := givesI_len HK.out hgi
    have g3 := keep_block hb3 gd (lt_of_block gd)
    have p3 := keep_block hb3 pd (lt_of_block pd)
    have HB3 : Hid (Below w.heap.size w w3) := HBd.out.trans (hb3.mono HBd.out.size)
    clear hb3 gd pd HBd HRd own hgi
    go_wp2_with fail
    refine stepQ_normal ⟨⟨g3, p3⟩, ?_⟩
    go_wp2_with fail
    refine stepQ_normal ⟨⟨g3, p3⟩, ?_⟩
    go_wp2_with fail
    refine stepQ_normal ⟨⟨g3, p3⟩, ?_⟩
    go_wp2_with fail
    refine stepQ_normal ⟨⟨g3, p3⟩, ?_⟩
    go_wp2_with fail
    refine stepQ_normal ⟨trivial, ?_⟩
    go_wp2_with fail
    go_ret
    exact ⟨ret_i HE.out.symm, HB3.out⟩

set_option maxHeartbeats 2000000 in
theorem specTenAddr_is (a b r d : Int) (ad : Option Addr) (n cap : Nat) (l : List Int) (hn : l.length = n) (h1 : n ≤ 4000000) (hw : ∀ x ∈ l, (Lit.int .i64 x).wf = true) (t : Int) (htw : (Lit.int .i64 t).wf = true) (ln : Int) (hlw : (Lit.int .i64 ln).wf = true) (w : World) (hr : RowI w ad l) :
    Calls Try.prog 31 #[.agg #[.int .i64 a, .int .i64 b, .int .i64 r, .int .i64 d], .agg #[.slice ad n cap], .int .i64 t, .int .i64 ln] w (Gives (taF a b r d l t ln) w) := by
  obtain ⟨w1, hw1⟩ : ∃ u, ((w.alloc (.cells #[.int .i64 a, .int .i64 b, .int .i64 r, .int .i64 d] 25)).alloc (.cells #[.slice ad n cap] 28)).alloc (.cells #[.int .i64 0, .int .i64 0, .int .i64 0] 36) = u := ⟨_, rfl⟩
  have HB1 : Hid (Below w.heap.size w w1) := by subst hw1; exact (((Below.refl _ _).alloc (Nat.le_refl _) _).alloc (by simp) _).alloc (by simp; omega) _
  have g1 : w1.heap[w.heap.size]? = some (.cells #[.int .i64 a, .int .i64 b, .int .i64 r, .int .i64 d] 25) := by subst hw1; exact box3_0 _ _ _ _
  have p1 : w1.heap[w.heap.size + 1]? = some (.cells #[.slice ad n cap] 28) := by subst hw1; exact box3_1 _ _ _ _
  have c1 : w1.heap[w.heap.size + 1 + 1]? = some (.cells #[.int .i64 0, .int .i64 0, .int .i64 0] 36) := by subst hw1; exact box3_2 _ _ _ _
  have HR1 := Lib.hid (hr.below HB1.out)
  have HN := Lib.hid hn
  have HW := Lib.hid hw
  obtain ⟨xg0, xg1, xg2, xg3⟩ := cells4 g1
  have xp := cell1 p1
  clear hr hn hw
  have hl := i64_bounds hlw
  have hmr := tlF_range a b r d l t
  obtain ⟨m, hm⟩ : ∃ m, tlF a b r d l t = m := ⟨_, rfl⟩
  have HM := Lib.hid hm
  rw [hm] at hmr
  have e1 : IntKind.i64.wrap (m - 1) = m - 1 := IntWalk.i64_in _ ⟨by omega, by omega⟩
  by_cases k : TlOk a b r d l t ln
  case neg =>
    have HE : Hid (taF a b r d l t ln = adV 0 0 0 false) := by show _ = _; exact if_neg k
    have K : Hid (decide (0 ≤ ln ∧ ln ≤ m - 1) = false) := by show _ = _; rw [← hm]; exact decide_eq_false k
    clear k hm
    go_enter Try.func31, Try.ntmps31
    go_wp2_with fail
    refine (specTenLines_is _ _ _ _ _ _ _ _ HN.out h1 HW.out t htw _ HM.out _ HR1.out).mono ?_
    rintro e w2 ⟨rfl, hb2⟩
    have c2 := keep_block hb2 c1 (lt_of_block c1)
    obtain ⟨y0, y1, y2⟩ := cells3 c2
    have f0 := thawed c2 0
    have f1 := thawed c2 1
    have f2 := thawed c2 2
    have HB2 : Hid (Below w.heap.size w w2) := HB1.out.trans (hb2.mono HB1.out.size)
    clear hb2 hw1 g1 p1 HB1 HR1 xg0 xg1 xg2 xg3 xp
    go_wp2_with fail
    refine (specIn_is _ _ _ _ K.out _).mono ?_
    rintro e w' ⟨rfl, rfl⟩
    go_wp2
    (try simp only [Exit.inBlock, Exit.then])
    refine bodyPost_ret (v := adV 0 0 0 false) ?_ rfl ⟨by rw [HE.out], ?_⟩
    · rw [results_cell_tmp rfl]
      go_simp
      rfl
    · have h1 := HB2.out.size
      repeat' (first | exact HB2.out | refine Below.drew ?_ | refine Below.setCell ?_ (by simp <;> omega) _)
  have kt := k
  have hp := k.part
  have hk1 := k.banks
  obtain ⟨K, hK⟩ : ∃ K, (bkL l t).length = K := ⟨_, rfl⟩
  have HK := Lib.hid hK
  obtain ⟨k0, k1⟩ := k
  rw [hm] at k1
  have KI := Lib.hid (decide_eq_true (show 0 ≤ ln ∧ ln ≤ m - 1 from ⟨k0, k1⟩))
  have t0 : decide (ln < 0) = false := decide_eq_false (by omega)
  have t1 : decide (m ≤ ln) = false := decide_eq_false (by omega)
  obtain ⟨J, hJ⟩ := Int.eq_ofNat_of_zero_le (Int.emod_nonneg ln (show (K : Int) ≠ 0 by omega))
  have hJK : J < K := by have := Int.emod_lt_of_pos ln (show (0 : Int) < K by omega); omega
  obtain ⟨q, hq⟩ : ∃ q, ln / (K : Int) = q := ⟨_, rfl⟩
  have q0 : 0 ≤ q := by rw [← hq]; exact Int.ediv_nonneg k0 (by omega)
  have q1 : q ≤ ln := by rw [← hq]; exact Int.ediv_le_self _ k0
  obtain ⟨⟨_, _, gr, gd⟩, _⟩ := hp
  obtain ⟨ro, hro⟩ : ∃ u, q / d = u := ⟨_, rfl⟩
  have r0 : 0 ≤ ro := by rw [← hro]; exact Int.ediv_nonneg q0 (by omega)
  have r1 : ro ≤ q := by rw [← hro]; exact Int.ediv_le_self _ q0
  obtain ⟨co, hco⟩ : ∃ u, q % d = u := ⟨_, rfl⟩
  obtain ⟨bn, hbn⟩ : ∃ u, (bkL l t).getD J 0 = u := ⟨_, rfl⟩
  have HBN := Lib.hid hbn
  have HE : Hid (taF a b r d l t ln = adV bn ro co true) := by
    show _ = _
    unfold taF
    rw [if_pos kt, hK, hJ, Int.toNat_natCast, hbn, hq, hro, hco]
  have s1 : ln.tdiv (K : Int) = q := by rw [Int.tdiv_eq_ediv_of_nonneg k0, hq]
  have s2 : IntKind.i64.wrap q = q := IntWalk.i64_in _ ⟨by omega, by omega⟩
  have s3 : q.tdiv d = ro := by rw [Int.tdiv_eq_ediv_of_nonneg q0, hro]
  have s4 : IntKind.i64.wrap ro = ro := IntWalk.i64_in _ ⟨by omega, by omega⟩
  have s5 : q.tmod d = co := by rw [Int.tmod_eq_emod_of_nonneg q0, hco]
  have s6 : ln.tmod (K : Int) = (J : Int) := by rw [Int.tmod_eq_emod_of_nonneg k0, hJ]
  have n1 : (d == 0) = false := by simp; omega
  have n2 : ((K : Int) == 0) = false := by simp; omega
  have n3 : ¬ d = 0 := by omega
  have n4 : ¬ K = 0 := by omega
  have n5 : ¬ (K : Int) = 0 := by omega
  clear hq hro hco hJ hbn hm kt k0 k1 hmr hK
  go_enter Try.func31, Try.ntmps31
  go_wp2_with fail
  refine (specTenLines_is _ _ _ _ _ _ _ _ HN.out h1 HW.out t htw _ HM.out _ HR1.out).mono ?_
  rintro e w2 ⟨rfl, hb2⟩
  have g2 := keep_block hb2 g1 (lt_of_block g1)
  have p2 := keep_block hb2 p1 (lt_of_block p1)
  have c2 := keep_block hb2 c1 (lt_of_block c1)
  have HB2 : Hid (Below w.heap.size w w2) := HB1.out.trans (hb2.mono HB1.out.size)
  have HR2 := Lib.hid (HR1.out.below hb2)
  have cp2 := cell1 p2
  clear hb2 hw1 g1 p1 c1 HB1 HR1 xg0 xg1 xg2 xg3 xp
  go_wp2_with fail
  refine (specIn_is _ _ _ _ KI.out _).mono ?_
  rintro e w' ⟨rfl, rfl⟩
  go_wp2_with fail
  refine (specBanksOf_is _ _ _ _ HN.out h1 t _ HR2.out).mono ?_
  intro e w3 hgi
  obtain ⟨aa, cc, rfl, own, hb3⟩ := givesI_len HK.out hgi
  have g3 := keep_block hb3 g2 (lt_of_block g2)
  have c3 := keep_block hb3 c2 (lt_of_block c2)
  have HB3 : Hid (Below w.heap.size w w3) := HB2.out.trans (hb3.mono HB2.out.size)
  obtain ⟨lg, rfl, hcell⟩ := own.get (k := J) (by rw [HK.out]; exact hJK)
  rw [HBN.out] at hcell
  clear hb3 g2 p2 c2 HB2 HR2 own hgi cp2
  obtain ⟨cg0, cg1, cg2, cg3⟩ := cells4 g3
  have z0 := fun zz : Later w3 => zz.cell cg0
  have z1 := fun zz : Later w3 => zz.cell cg1
  have z2 := fun zz : Later w3 => zz.cell cg2
  have z3 := fun zz : Later w3 => zz.cell cg3
  have z4 := fun zz : Later w3 => zz.cell hcell
  go_wp2_with fail
  refine wp_region_later_tail 18 (by kernel_rfl) (by kernel_rfl) ?_
  simp only [List.take_succ_cons, List.take_zero, List.drop_succ_cons, List.drop_zero]
  repeat (go_big_quiet_step (fail))
  refine wpQuiet_nil ?_
  rintro w4 ⟨q4, hq4⟩
  have hb4 : Below w3.heap.size w3 w4 := hq4 ▸ q4.ok
  have c4 := keep_block hb4 c3 (lt_of_block c3)
  have HB4 : Hid (Below w.heap.size w w4) := HB3.out.trans (hb4.mono HB3.out.size)
  have hs4 := HB4.out.size
  obtain ⟨y0, y1, y2⟩ := cells3 c4
  have f0 := thawed c4 0
  have f1 := thawed c4 1
  have f2 := thawed c4 2
  clear hb4 hq4 q4 g3 c3 HB3 z0 z1 z2 z3 z4 cg0 cg1 cg2 cg3 hcell
  go_wp2
  (try simp only [Exit.inBlock, Exit.then])
  refine bodyPost_ret (v := adV bn ro co true) ?_ rfl ⟨by rw [HE.out], ?_⟩
  · rw [results_cell_tmp rfl]
    go_simp
    rfl
  · repeat' (first | exact HB4.out | refine Below.drew ?_ | refine Below.setCell ?_ (by simp <;> omega) _)

set_option maxHeartbeats 2000000 in
theorem implTenAddr_is (a b r d : Int) (ad : Option Addr) (n cap : Nat) (l : List Int) (hn : l.length = n) (h1 : n ≤ 4000000) (hw : ∀ x ∈ l, (Lit.int .i64 x).wf = true) (t : Int) (htw : (Lit.int .i64 t).wf = true) (ln : Int) (hlw : (Lit.int .i64 ln).wf = true) (w : World) (hr : RowI w ad l) :
    Calls Try.prog 18 #[.agg #[.int .i64 a, .int .i64 b, .int .i64 r, .int .i64 d], .agg #[.slice ad n cap], .int .i64 t, .int .i64 ln] w (Gives (taF a b r d l t ln) w) := by
  obtain ⟨w1, hw1⟩ : ∃ u, ((w.alloc (.cells #[.int .i64 a, .int .i64 b, .int .i64 r, .int .i64 d] 25)).alloc (.cells #[.slice ad n cap] 28)).alloc (.cells #[.int .i64 0, .int .i64 0, .int .i64 0] 36) = u := ⟨_, rfl⟩
  have HB1 : Hid (Below w.heap.size w w1) := by subst hw1; exact (((Below.refl _ _).alloc (Nat.le_refl _) _).alloc (by simp) _).alloc (by simp; omega) _
  have g1 : w1.heap[w.heap.size]? = some (.cells #[.int .i64 a, .int .i64 b, .int .i64 r, .int .i64 d] 25) := by subst hw1; exact box3_0 _ _ _ _
  have p1 : w1.heap[w.heap.size + 1]? = some (.cells #[.slice ad n cap] 28) := by subst hw1; exact box3_1 _ _ _ _
  have c1 : w1.heap[w.heap.size + 1 + 1]? = some (.cells #[.int .i64 0, .int .i64 0, .int .i64 0] 36) := by subst hw1; exact box3_2 _ _ _ _
  have HR1 := Lib.hid (hr.below HB1.out)
  have HN := Lib.hid hn
  have HW := Lib.hid hw
  obtain ⟨xg0, xg1, xg2, xg3⟩ := cells4 g1
  have xp := cell1 p1
  clear hr hn hw
  have hl := i64_bounds hlw
  have hmr := tlF_range a b r d l t
  obtain ⟨m, hm⟩ : ∃ m, tlF a b r d l t = m := ⟨_, rfl⟩
  have HM := Lib.hid hm
  rw [hm] at hmr
  have e1 : IntKind.i64.wrap (m - 1) = m - 1 := IntWalk.i64_in _ ⟨by omega, by omega⟩
  by_cases k : TlOk a b r d l t ln
  case neg =>
    have HE : Hid (taF a b r d l t ln = adV 0 0 0 false) := by show _ = _; exact if_neg k
    by_cases h0 : ln < 0
    · obtain ⟨y0, y1, y2⟩ := cells3 c1
      have f0 := thawed c1 0
      have f1 := thawed c1 1
      have f2 := thawed c1 2
      have hs1 := HB1.out.size
      have HB2 := HB1
      go_enter Try.func18, Try.ntmps18
      go_wp2
      (try simp only [Exit.inBlock, Exit.then])
      refine bodyPost_ret (v := adV 0 0 0 false) ?_ rfl ⟨by rw [HE.out], ?_⟩
      · rw [results_cell_tmp rfl]
        go_simp
        rfl
      · repeat' (first | exact HB2.out | refine Below.drew ?_ | refine Below.setCell ?_ (by simp <;> omega) _)
    have t1 : decide (m ≤ ln) = true := decide_eq_true (by rw [← hm]; exact Int.not_lt.1 (fun h => k ⟨by omega, by omega⟩))
    have t0 := decide_eq_false h0
    clear k hm
    go_enter Try.func18, Try.ntmps18
    go_wp2_with fail
    refine (implTenLines_is _ _ _ _ _ _ _ _ HN.out h1 HW.out t htw _ HM.out _ HR1.out).mono ?_
    rintro e w2 ⟨rfl, hb2⟩
    have c2 := keep_block hb2 c1 (lt_of_block c1)
    obtain ⟨y0, y1, y2⟩ := cells3 c2
    have f0 := thawed c2 0
    have f1 := thawed c2 1
    have f2 := thawed c2 2
    have HB2 : Hid (Below w.heap.size w w2) := HB1.out.trans (hb2.mono HB1.out.size)
    clear hb2 hw1 g1 p1 HB1 HR1 xg0 xg1 xg2 xg3 xp
    go_wp2
    (try simp only [Exit.inBlock, Exit.then])
    refine bodyPost_ret (v := adV 0 0 0 false) ?_ rfl ⟨by rw [HE.out], ?_⟩
    · rw [results_cell_tmp rfl]
      go_simp
      rfl
    · have h1 := HB2.out.size
      repeat' (first | exact HB2.out | refine Below.drew ?_ | refine Below.setCell ?_ (by simp <;> omega) _)
  have kt := k
  have hp := k.part
  have hk1 := k.banks
  obtain ⟨K, hK⟩ : ∃ K, (bkL l t).length = K := ⟨_, rfl⟩
  have HK := Lib.hid hK
  obtain ⟨k0, k1⟩ := k
  rw [hm] at k1
  have KI := Lib.hid (decide_eq_true (show 0 ≤ ln ∧ ln ≤ m - 1 from ⟨k0, k1⟩))
  have t0 : decide (ln < 0) = false := decide_eq_false (by omega)
  have t1 : decide (m ≤ ln) = false := decide_eq_false (by omega)
  obtain ⟨J, hJ⟩ := Int.eq_ofNat_of_zero_le (Int.emod_nonneg ln (show (K : Int) ≠ 0 by omega))
  have hJK : J < K := by have := Int.emod_lt_of_pos ln (show (0 : Int) < K by omega); omega
  obtain ⟨q, hq⟩ : ∃ q, ln / (K : Int) = q := ⟨_, rfl⟩
  have q0 : 0 ≤ q := by rw [← hq]; exact Int.ediv_nonneg k0 (by omega)
  have q1 : q ≤ ln := by rw [← hq]; exact Int.ediv_le_self _ k0
  obtain ⟨⟨_, _, gr, gd⟩, _⟩ := hp
  obtain ⟨ro, hro⟩ : ∃ u, q / d = u := ⟨_, rfl⟩
  have r0 : 0 ≤ ro := by rw [← hro]; exact Int.ediv_nonneg q0 (by omega)
  have r1 : ro ≤ q := by rw [← hro]; exact Int.ediv_le_self _ q0
  obtain ⟨co, hco⟩ : ∃ u, q % d = u := ⟨_, rfl⟩
  obtain ⟨bn, hbn⟩ : ∃ u, (bkL l t).getD J 0 = u := ⟨_, rfl⟩
  have HBN := Lib.hid hbn
  have HE : Hid (taF a b r d l t ln = adV bn ro co true) := by
    show _ = _
    unfold taF
    rw [if_pos kt, hK, hJ, Int.toNat_natCast, hbn, hq, hro, hco]
  have s1 : ln.tdiv (K : Int) = q := by rw [Int.tdiv_eq_ediv_of_nonneg k0, hq]
  have s2 : IntKind.i64.wrap q = q := IntWalk.i64_in _ ⟨by omega, by omega⟩
  have s3 : q.tdiv d = ro := by rw [Int.tdiv_eq_ediv_of_nonneg q0, hro]
  have s4 : IntKind.i64.wrap ro = ro := IntWalk.i64_in _ ⟨by omega, by omega⟩
  have s5 : q.tmod d = co := by rw [Int.tmod_eq_emod_of_nonneg q0, hco]
  have s6 : ln.tmod (K : Int) = (J : Int) := by rw [Int.tmod_eq_emod_of_nonneg k0, hJ]
  have n1 : (d == 0) = false := by simp; omega
  have n2 : ((K : Int) == 0) = false := by simp; omega
  have n3 : ¬ d = 0 := by omega
  have n4 : ¬ K = 0 := by omega
  have n5 : ¬ (K : Int) = 0 := by omega
  clear hq hro hco hJ hbn hm kt k0 k1 hmr hK
  go_enter Try.func18, Try.ntmps18
  go_wp2_with fail
  refine (implTenLines_is _ _ _ _ _ _ _ _ HN.out h1 HW.out t htw _ HM.out _ HR1.out).mono ?_
  rintro e w2 ⟨rfl, hb2⟩
  have g2 := keep_block hb2 g1 (lt_of_block g1)
  have p2 := keep_block hb2 p1 (lt_of_block p1)
  have c2 := keep_block hb2 c1 (lt_of_block c1)
  have HB2 : Hid (Below w.heap.size w w2) := HB1.out.trans (hb2.mono HB1.out.size)
  have HR2 := Lib.hid (HR1.out.below hb2)
  have cp2 := cell1 p2
  clear hb2 hw1 g1 p1 c1 HB1 HR1 xg0 xg1 xg2 xg3 xp
  go_wp2_with fail
  refine (implBanksOf_is _ _ _ _ HN.out h1 HW.out t htw _ HR2.out).mono ?_
  intro e w3 hgi
  obtain ⟨aa, cc, rfl, own, hb3⟩ := givesI_len HK.out hgi
  have g3 := keep_block hb3 g2 (lt_of_block g2)
  have c3 := keep_block hb3 c2 (lt_of_block c2)
  have HB3 : Hid (Below w.heap.size w w3) := HB2.out.trans (hb3.mono HB2.out.size)
  obtain ⟨lg, rfl, hcell⟩ := own.get (k := J) (by rw [HK.out]; exact hJK)
  rw [HBN.out] at hcell
  clear hb3 g2 p2 c2 HB2 HR2 own hgi cp2
  obtain ⟨cg0, cg1, cg2, cg3⟩ := cells4 g3
  have z0 := fun zz : Later w3 => zz.cell cg0
  have z1 := fun zz : Later w3 => zz.cell cg1
  have z2 := fun zz : Later w3 => zz.cell cg2
  have z3 := fun zz : Later w3 => zz.cell cg3
  have z4 := fun zz : Later w3 => zz.cell hcell
  go_wp2_with fail
  refine wp_region_later_tail 15 (by kernel_rfl) (by kernel_rfl) ?_
  simp only [List.take_succ_cons, List.take_zero, List.drop_succ_cons, List.drop_zero]
  repeat (go_big_quiet_step (fail))
  refine wpQuiet_nil ?_
  rintro w4 ⟨q4, hq4⟩
  have hb4 : Below w3.heap.size w3 w4 := hq4 ▸ q4.ok
  have c4 := keep_block hb4 c3 (lt_of_block c3)
  have HB4 : Hid (Below w.heap.size w w4) := HB3.out.trans (hb4.mono HB3.out.size)
  have hs4 := HB4.out.size
  obtain ⟨y0, y1, y2⟩ := cells3 c4
  have f0 := thawed c4 0
  have f1 := thawed c4 1
  have f2 := thawed c4 2
  clear hb4 hq4 q4 g3 c3 HB3 z0 z1 z2 z3 z4 cg0 cg1 cg2 cg3 hcell
  go_wp2
  (try simp only [Exit.inBlock, Exit.then])
  refine bodyPost_ret (v := adV bn ro co true) ?_ rfl ⟨by rw [HE.out], ?_⟩
  · rw [results_cell_tmp rfl]
    go_simp
    rfl
  · repeat' (first | exact HB4.out | refine Below.drew ?_ | refine Below.setCell ?_ (by simp <;> omega) _)

set_option maxHeartbeats 1000000 in
theorem slicesIndex_is (lg K cc : Nat) (L : List Int) (hL : L.length = K) (h8 : K ≤ 4000000) (x : Int) (hx : x ∈ L) (w : World) (hc : ∀ j, j < K → w.cell? ⟨lg, j, none⟩ = some (.int .i64 (L.getD j 0))) :
    Calls Try.prog 45 #[.slice (some ⟨lg, 0, none⟩) K cc, .int .i64 x] w fun e w' => e = .returned (.int .i64 (ixI L x)) ∧ w = w' := by
  obtain ⟨hi1, hi2, hi3⟩ := ixI_spec hx
  obtain ⟨I, hI⟩ : ∃ I, ixI L x = I := ⟨_, rfl⟩
  rw [hI] at hi1 hi2 hi3 ⊢
  rw [hL] at hi1
  have H2 := Lib.hid hi2
  have H3 := Lib.hid hi3
  have HC := Lib.hid hc
  clear hi2 hi3 hc hL hx hI
  go_enter Try.func45, Try.ntmps45
  go_wp2_with fail
  go_loop [8] (fun i => ∃ k : Nat, k ≤ I ∧ i = .int .i64 k) (fun i => I - (intOf i).toNat)
  case atStart => exact ⟨0, Nat.zero_le _, rfl⟩
  case round =>
    obtain ⟨k, hk, rfl⟩ := hrel
    have hlt : k < K := by omega
    have hcell := HC.out k hlt
    by_cases hkI : k < I
    · have hne := H3.out k hkI
      obtain ⟨y, hy⟩ : ∃ y, L.getD k 0 = y := ⟨_, rfl⟩
      rw [hy] at hcell hne
      have txy : (x == y) = false := by simpa using fun e => hne e.symm
      clear hy hne
      go_wp2_with fail
      go_round
      case rel => exact ⟨k + 1, by omega, by go_num⟩
      case measure => simp [intOf]; omega
    · obtain rfl : k = I := by omega
      rw [H2.out] at hcell
      have txy : (x == x) = true := by simp
      go_wp2_with fail
      go_ret
      exact ⟨rfl, rfl⟩

set_option maxHeartbeats 2000000 in
theorem specTenLine_is (a b r d : Int) (ad : Option Addr) (n cap : Nat) (l : List Int) (hn : l.length = n) (h1 : n ≤ 4000000) (hw : ∀ x ∈ l, (Lit.int .i64 x).wf = true) (x y z : Int) (w : World) (hr : RowI w ad l) :
    Calls Try.prog 33 #[.agg #[.int .i64 a, .int .i64 b, .int .i64 r, .int .i64 d], .agg #[.slice ad n cap], .agg #[.int .i64 x, .int .i64 y, .int .i64 z]] w (Gives (tnF a b r d l x y z) w) := by
  obtain ⟨w1, hw1⟩ : ∃ u, ((w.alloc (.cells #[.int .i64 a, .int .i64 b, .int .i64 r, .int .i64 d] 25)).alloc (.cells #[.slice ad n cap] 28)).alloc (.cells #[.int .i64 x, .int .i64 y, .int .i64 z] 36) = u := ⟨_, rfl⟩
  have HB1 : Hid (Below w.heap.size w w1) := by subst hw1; exact (((Below.refl _ _).alloc (Nat.le_refl _) _).alloc (by simp) _).alloc (by simp; omega) _
  have g1 : w1.heap[w.heap.size]? = some (.cells #[.int .i64 a, .int .i64 b, .int .i64 r, .int .i64 d] 25) := by subst hw1; exact box3_0 _ _ _ _
  have p1 : w1.heap[w.heap.size + 1]? = some (.cells #[.slice ad n cap] 28) := by subst hw1; exact box3_1 _ _ _ _
  have c1 : w1.heap[w.heap.size + 1 + 1]? = some (.cells #[.int .i64 x, .int .i64 y, .int .i64 z] 36) := by subst hw1; exact box3_2 _ _ _ _
  have HR1 := Lib.hid (hr.below HB1.out)
  have HN := Lib.hid hn
  have HW := Lib.hid hw
  obtain ⟨xg0, xg1, xg2, xg3⟩ := cells4 g1
  have xp := cell1 p1
  clear hr hn hw
  by_cases kp : PtOk a b r d l
  case neg =>
    have KP := Lib.hid (decide_eq_false kp)
    have HE : Hid (tnF a b r d l x y z = .tuple #[.int .i64 0, .int .i64 0, .bool false]) := by show _ = _; exact if_neg (fun h => kp h.1)
    clear kp
    go_enter Try.func33, Try.ntmps33
    go_wp2_with fail
    refine (specPtOk_is _ _ _ _ _ _ _ _ HN.out h1 _ KP.out _ HR1.out).mono ?_
    rintro e w2 ⟨rfl, hb2⟩
    have g2 := keep_block hb2 g1 (lt_of_block g1)
    have p2 := keep_block hb2 p1 (lt_of_block p1)
    have c2 := keep_block hb2 c1 (lt_of_block c1)
    have HB2 : Hid (Below w.heap.size w w2) := HB1.out.trans (hb2.mono HB1.out.size)
    have HR2 := Lib.hid (HR1.out.below hb2)
    clear hb2 hw1 g1 p1 c1 HB1 HR1 xg0 xg1 xg2 xg3 xp
    go_wp2
    go_ret3
    exact ⟨by rw [HE.out]; rfl, HB2.out⟩
  have KP := Lib.hid (decide_eq_true kp)
  by_cases ka : AdOk a b r d x y z
  case neg =>
    have KA := Lib.hid (decide_eq_false ka)
    have HE : Hid (tnF a b r d l x y z = .tuple #[.int .i64 0, .int .i64 0, .bool false]) := by show _ = _; exact if_neg (fun h => ka h.2)
    clear kp ka
    go_enter Try.func33, Try.ntmps33
    go_wp2_with fail
    refine (specPtOk_is _ _ _ _ _ _ _ _ HN.out h1 _ KP.out _ HR1.out).mono ?_
    rintro e w2 ⟨rfl, hb2⟩
    have g2 := keep_block hb2 g1 (lt_of_block g1)
    have p2 := keep_block hb2 p1 (lt_of_block p1)
    have c2 := keep_block hb2 c1 (lt_of_block c1)
    have HB2 : Hid (Below w.heap.size w w2) := HB1.out.trans (hb2.mono HB1.out.size)
    have HR2 := Lib.hid (HR1.out.below hb2)
    clear hb2 hw1 g1 p1 c1 HB1 HR1 xg0 xg1 xg2 xg3 xp
    obtain ⟨cg0, cg1, cg2, cg3⟩ := cells4 g2
    obtain ⟨ca0, ca1, ca2⟩ := cells3 c2
    go_wp2_with fail
    refine (specAddrOk_is _ _ _ _ _ _ _ _ KA.out _).mono ?_
    rintro e w3 ⟨rfl, hb3⟩
    have g3 := keep_block hb3 g2 (lt_of_block g2)
    have p3 := keep_block hb3 p2 (lt_of_block p2)
    have c3 := keep_block hb3 c2 (lt_of_block c2)
    have HB3 : Hid (Below w.heap.size w w3) := HB2.out.trans (hb3.mono HB2.out.size)
    have HR3 := Lib.hid (HR2.out.below hb3)
    clear hb3 g2 p2 c2 HB2 HR2 cg0 cg1 cg2 cg3 ca0 ca1 ca2
    go_wp2
    go_ret3
    exact ⟨by rw [HE.out]; rfl, HB3.out⟩
  have KA := Lib.hid (decide_eq_true ka)
  have kpa := And.intro kp ka
  obtain ⟨⟨x0, x1⟩, ⟨y0, y1⟩, ⟨z0, z1⟩⟩ := ka
  obtain ⟨X, rfl⟩ := Int.eq_ofNat_of_zero_le x0
  have hXn : X < n := by have := kp.2.1; rw [HN.out] at this; omega
  obtain ⟨t, ht⟩ : ∃ t, l.getD X 0 = t := ⟨_, rfl⟩
  have HT := Lib.hid ht
  have htw : (Lit.int .i64 t).wf = true := by rw [← ht]; exact getD_wf HW.out X
  obtain ⟨K, hK⟩ : ∃ K, (bkL l t).length = K := ⟨_, rfl⟩
  have HK := Lib.hid hK
  have hmem : (X : Int) ∈ bkL l t := (bk_mem l t _ l.length).2 ⟨X, by rw [HN.out]; exact hXn, ht, rfl⟩
  have HMEM := Lib.hid hmem
  obtain ⟨hi1, hi2, hi3⟩ := ixI_spec hmem
  obtain ⟨I, hI⟩ : ∃ I, ixI (bkL l t) (X : Int) = I := ⟨_, rfl⟩
  have HI := Lib.hid hI
  rw [hI] at hi1 hi2 hi3
  rw [hK] at hi1
  have H2 := Lib.hid hi2
  have H3 := Lib.hid hi3
  have k8 : K ≤ 8 := by have := kp.len; have := bkL_le l t; omega
  have hK1 : 1 ≤ K := by omega
  have HE : Hid (tnF a b r d l (X : Int) y z = .tuple #[.int .i64 t, .int .i64 ((y * d + z) * (K : Int) + (I : Int)), .bool true]) := by
    show _ = _
    unfold tnF
    rw [if_pos kpa, Int.toNat_natCast, ht, hK, hI]
  obtain ⟨⟨_, _, gr, gd⟩, _⟩ := kp
  have m1 : 0 ≤ y * d := Int.mul_nonneg y0 (by omega)
  have m2 : y * d ≤ 15 * 8 := Int.mul_le_mul (by omega) gd.2 (by omega) (by omega)
  have m3 : 0 ≤ (y * d + z) * (K : Int) := Int.mul_nonneg (by omega) (by omega)
  have m4 : (y * d + z) * (K : Int) ≤ (15 * 8 + 7) * 8 := Int.mul_le_mul (by omega) (by omega) (by omega) (by omega)
  have e1 : IntKind.i64.wrap (y * d) = y * d := IntWalk.i64_in _ ⟨by omega, by omega⟩
  have e2 : IntKind.i64.wrap (y * d + z) = y * d + z := IntWalk.i64_in _ ⟨by omega, by omega⟩
  have e3 : IntKind.i64.wrap ((y * d + z) * (K : Int)) = (y * d + z) * (K : Int) := IntWalk.i64_in _ ⟨by omega, by omega⟩
  have e4 : IntKind.i64.wrap ((y * d + z) * (K : Int) + (I : Int)) = (y * d + z) * (K : Int) + (I : Int) := IntWalk.i64_in _ ⟨by omega, by omega⟩
  clear hi2 hi3 hmem hI hK ht kpa m1 m2 m3 m4 gr gd x0 x1 y0 y1 z0 z1
  go_enter Try.func33, Try.ntmps33
  go_wp2_with fail
  refine (specPtOk_is _ _ _ _ _ _ _ _ HN.out h1 _ KP.out _ HR1.out).mono ?_
  rintro e w2 ⟨rfl, hb2⟩
  have g2 := keep_block hb2 g1 (lt_of_block g1)
  have p2 := keep_block hb2 p1 (lt_of_block p1)
  have c2 := keep_block hb2 c1 (lt_of_block c1)
  have HB2 : Hid (Below w.heap.size w w2) := HB1.out.trans (hb2.mono HB1.out.size)
  have HR2 := Lib.hid (HR1.out.below hb2)
  clear hb2 hw1 g1 p1 c1 HB1 HR1 xg0 xg1 xg2 xg3 xp
  obtain ⟨cg0, cg1, cg2, cg3⟩ := cells4 g2
  obtain ⟨ca0, ca1, ca2⟩ := cells3 c2
  go_wp2_with fail
  refine (specAddrOk_is _ _ _ _ _ _ _ _ KA.out _).mono ?_
  rintro e w3 ⟨rfl, hb3⟩
  have g3 := keep_block hb3 g2 (lt_of_block g2)
  have p3 := keep_block hb3 p2 (lt_of_block p2)
  have c3 := keep_block hb3 c2 (lt_of_block c2)
  have HB3 : Hid (Below w.heap.size w w3) := HB2.out.trans (hb3.mono HB2.out.size)
  have HR3 := Lib.hid (HR2.out.below hb3)
  clear hb3 g2 p2 c2 HB2 HR2 cg0 cg1 cg2 cg3 ca0 ca1 ca2
  obtain ⟨cg0, cg1, cg2, cg3⟩ := cells4 g3
  have cp3 := cell1 p3
  obtain ⟨ca0, ca1, ca2⟩ := cells3 c3
  obtain ⟨pb, off, rfl, hcx⟩ := HR3.out.at (k := X) (by rw [HN.out]; exact hXn)
  rw [HT.out] at hcx
  go_wp2_with fail
  refine (specBanksOf_is _ _ _ _ HN.out h1 t _ HR3.out).mono ?_
  intro e w4 hgi
  obtain ⟨aa, cc, rfl, own, hb4⟩ := givesI_len HK.out hgi
  have g4 := keep_block hb4 g3 (lt_of_block g3)
  have c4 := keep_block hb4 c3 (lt_of_block c3)
  have HB4 : Hid (Below w.heap.size w w4) := HB3.out.trans (hb4.mono HB3.out.size)
  obtain ⟨lg, rfl, _⟩ := own.get (k := 0) (by rw [HK.out]; omega)
  have HC : Hid (∀ j, j < K → w4.cell? ⟨lg, j, none⟩ = some (.int .i64 ((bkL l t).getD j 0))) := by
    intro j hj
    obtain ⟨lg', h, hc⟩ := own.get (k := j) (by rw [HK.out]; exact hj)
    cases h
    exact hc
  clear hb4 g3 p3 c3 HB3 HR3 own hgi cg0 cg1 cg2 cg3 cp3 ca0 ca1 ca2 hcx
  obtain ⟨cg0, cg1, cg2, cg3⟩ := cells4 g4
  obtain ⟨ca0, ca1, ca2⟩ := cells3 c4
  go_wp2_with fail
  go_loopw [11] (fun i wr => ∃ j : Nat, j ≤ I ∧ i = .int .i64 j ∧ ∃ q, wr = w4.drewN q) (fun i _ => I - (intOf i).toNat)
  case atStart => exact ⟨0, Nat.zero_le _, rfl, 0, rfl⟩
  case round =>
    obtain ⟨j, hj, rfl, q, rfl⟩ := hrel
    have hjK : j < K := by omega
    have hcell := HC.out j hjK
    by_cases hjI : j < I
    · have hne := H3.out j hjI
      obtain ⟨u, hu⟩ : ∃ u, (bkL l t).getD j 0 = u := ⟨_, rfl⟩
      rw [hu] at hcell hne
      have txy : (u != (X : Int)) = true := by simpa using hne
      clear hu hne
      go_wp2_with fail
      go_quiet (fail)
      go_wp2_with fail
      go_roundw
      case rel => exact ⟨j + 1, by omega, by go_num, _, rfl⟩
      case measure => simp [intOf]; omega
    · obtain rfl : j = I := by omega
      rw [H2.out] at hcell
      have txy : ((X : Int) != (X : Int)) = false := by simp
      go_wp2_with fail
      go_quiet (fail)
      go_wp2_with fail
      go_quiet (fail)
      go_wp2
      go_ret3
      exact ⟨by rw [HE.out]; rfl, below_drewN (below_drewN (below_drewN HB4.out _) _) _⟩

set_option maxHeartbeats 2000000 in
theorem implTenLine_is (a b r d : Int) (ad : Option Addr) (n cap : Nat) (l : List Int) (hn : l.length = n) (h1 : n ≤ 4000000) (hw : ∀ x ∈ l, (Lit.int .i64 x).wf = true) (x y z : Int) (w : World) (hr : RowI w ad l) :
    Calls Try.prog 19 #[.agg #[.int .i64 a, .int .i64 b, .int .i64 r, .int .i64 d], .agg #[.slice ad n cap], .agg #[.int .i64 x, .int .i64 y, .int .i64 z]] w (Gives (tnF a b r d l x y z) w) := by
  obtain ⟨w1, hw1⟩ : ∃ u, ((w.alloc (.cells #[.int .i64 a, .int .i64 b, .int .i64 r, .int .i64 d] 25)).alloc (.cells #[.slice ad n cap] 28)).alloc (.cells #[.int .i64 x, .int .i64 y, .int .i64 z] 36) = u := ⟨_, rfl⟩
  have HB1 : Hid (Below w.heap.size w w1) := by subst hw1; exact (((Below.refl _ _).alloc (Nat.le_refl _) _).alloc (by simp) _).alloc (by simp; omega) _
  have g1 : w1.heap[w.heap.size]? = some (.cells #[.int .i64 a, .int .i64 b, .int .i64 r, .int .i64 d] 25) := by subst hw1; exact box3_0 _ _ _ _
  have p1 : w1.heap[w.heap.size + 1]? = some (.cells #[.slice ad n cap] 28) := by subst hw1; exact box3_1 _ _ _ _
  have c1 : w1.heap[w.heap.size + 1 + 1]? = some (.cells #[.int .i64 x, .int .i64 y, .int .i64 z] 36) := by subst hw1; exact box3_2 _ _ _ _
  have HR1 := Lib.hid (hr.below HB1.out)
  have HN := Lib.hid hn
  have HW := Lib.hid hw
  obtain ⟨xg0, xg1, xg2, xg3⟩ := cells4 g1
  have xp := cell1 p1
  clear hr hn hw
  by_cases kp : PtOk a b r d l
  case neg =>
    have KP := Lib.hid (decide_eq_false kp)
    have HE : Hid (tnF a b r d l x y z = .tuple #[.int .i64 0, .int .i64 0, .bool false]) := by show _ = _; exact if_neg (fun h => kp h.1)
    clear kp
    go_enter Try.func19, Try.ntmps19
    go_wp2_with fail
    refine (implPtOk_is _ _ _ _ _ _ _ _ HN.out h1 _ KP.out _ HR1.out).mono ?_
    rintro e w2 ⟨rfl, hb2⟩
    have g2 := keep_block hb2 g1 (lt_of_block g1)
    have p2 := keep_block hb2 p1 (lt_of_block p1)
    have c2 := keep_block hb2 c1 (lt_of_block c1)
    have HB2 : Hid (Below w.heap.size w w2) := HB1.out.trans (hb2.mono HB1.out.size)
    have HR2 := Lib.hid (HR1.out.below hb2)
    clear hb2 hw1 g1 p1 c1 HB1 HR1 xg0 xg1 xg2 xg3 xp
    go_wp2
    go_ret3
    exact ⟨by rw [HE.out]; rfl, HB2.out⟩
  have KP := Lib.hid (decide_eq_true kp)
  by_cases ka : AdOk a b r d x y z
  case neg =>
    have KA := Lib.hid (decide_eq_false ka)
    have HE : Hid (tnF a b r d l x y z = .tuple #[.int .i64 0, .int .i64 0, .bool false]) := by show _ = _; exact if_neg (fun h => ka h.2)
    clear kp ka
    go_enter Try.func19, Try.ntmps19
    go_wp2_with fail
    refine (implPtOk_is _ _ _ _ _ _ _ _ HN.out h1 _ KP.out _ HR1.out).mono ?_
    rintro e w2 ⟨rfl, hb2⟩
    have g2 := keep_block hb2 g1 (lt_of_block g1)
    have p2 := keep_block hb2 p1 (lt_of_block p1)
    have c2 := keep_block hb2 c1 (lt_of_block c1)
    have HB2 : Hid (Below w.heap.size w w2) := HB1.out.trans (hb2.mono HB1.out.size)
    have HR2 := Lib.hid (HR1.out.below hb2)
    clear hb2 hw1 g1 p1 c1 HB1 HR1 xg0 xg1 xg2 xg3 xp
    obtain ⟨cg0, cg1, cg2, cg3⟩ := cells4 g2
    obtain ⟨ca0, ca1, ca2⟩ := cells3 c2
    go_wp2_with fail
    refine (implAddrOk_is _ _ _ _ _ _ _ _ KA.out _).mono ?_
    rintro e w3 ⟨rfl, hb3⟩
    have g3 := keep_block hb3 g2 (lt_of_block g2)
    have p3 := keep_block hb3 p2 (lt_of_block p2)
    have c3 := keep_block hb3 c2 (lt_of_block c2)
    have HB3 : Hid (Below w.heap.size w w3) := HB2.out.trans (hb3.mono HB2.out.size)
    have HR3 := Lib.hid (HR2.out.below hb3)
    clear hb3 g2 p2 c2 HB2 HR2 cg0 cg1 cg2 cg3 ca0 ca1 ca2
    go_wp2
    go_ret3
    exact ⟨by rw [HE.out]; rfl, HB3.out⟩
  have KA := Lib.hid (decide_eq_true ka)
  have kpa := And.intro kp ka
  obtain ⟨⟨x0, x1⟩, ⟨y0, y1⟩, ⟨z0, z1⟩⟩ := ka
  obtain ⟨X, rfl⟩ := Int.eq_ofNat_of_zero_le x0
  have hXn : X < n := by have := kp.2.1; rw [HN.out] at this; omega
  obtain ⟨t, ht⟩ : ∃ t, l.getD X 0 = t := ⟨_, rfl⟩
  have HT := Lib.hid ht
  have htw : (Lit.int .i64 t).wf = true := by rw [← ht]; exact getD_wf HW.out X
  obtain ⟨K, hK⟩ : ∃ K, (bkL l t).length = K := ⟨_, rfl⟩
  have HK := Lib.hid hK
  have hmem : (X : Int) ∈ bkL l t := (bk_mem l t _ l.length).2 ⟨X, by rw [HN.out]; exact hXn, ht, rfl⟩
  have HMEM := Lib.hid hmem
  obtain ⟨hi1, hi2, hi3⟩ := ixI_spec hmem
  obtain ⟨I, hI⟩ : ∃ I, ixI (bkL l t) (X : Int) = I := ⟨_, rfl⟩
  have HI := Lib.hid hI
  rw [hI] at hi1 hi2 hi3
  rw [hK] at hi1
  have H2 := Lib.hid hi2
  have H3 := Lib.hid hi3
  have k8 : K ≤ 8 := by have := kp.len; have := bkL_le l t; omega
  have hK1 : 1 ≤ K := by omega
  have HE : Hid (tnF a b r d l (X : Int) y z = .tuple #[.int .i64 t, .int .i64 ((y * d + z) * (K : Int) + (I : Int)), .bool true]) := by
    show _ = _
    unfold tnF
    rw [if_pos kpa, Int.toNat_natCast, ht, hK, hI]
  obtain ⟨⟨_, _, gr, gd⟩, _⟩ := kp
  have m1 : 0 ≤ y * d := Int.mul_nonneg y0 (by omega)
  have m2 : y * d ≤ 15 * 8 := Int.mul_le_mul (by omega) gd.2 (by omega) (by omega)
  have m3 : 0 ≤ (y * d + z) * (K : Int) := Int.mul_nonneg (by omega) (by omega)
  have m4 : (y * d + z) * (K : Int) ≤ (15 * 8 + 7) * 8 := Int.mul_le_mul (by omega) (by omega) (by omega) (by omega)
  have e1 : IntKind.i64.wrap (y * d) = y * d := IntWalk.i64_in _ ⟨by omega, by omega⟩
  have e2 : IntKind.i64.wrap (y * d + z) = y * d + z := IntWalk.i64_in _ ⟨by omega, by omega⟩
  have e3 : IntKind.i64.wrap ((y * d + z) * (K : Int)) = (y * d + z) * (K : Int) := IntWalk.i64_in _ ⟨by omega, by omega⟩
  have e4 : IntKind.i64.wrap ((y * d + z) * (K : Int) + (I : Int)) = (y * d + z) * (K : Int) + (I : Int) := IntWalk.i64_in _ ⟨by omega, by omega⟩
  clear hi2 hi3 hmem hI hK ht kpa m1 m2 m3 m4 gr gd x0 x1 y0 y1 z0 z1
  go_enter Try.func19, Try.ntmps19
  go_wp2_with fail
  refine (implPtOk_is _ _ _ _ _ _ _ _ HN.out h1 _ KP.out _ HR1.out).mono ?_
  rintro e w2 ⟨rfl, hb2⟩
  have g2 := keep_block hb2 g1 (lt_of_block g1)
  have p2 := keep_block hb2 p1 (lt_of_block p1)
  have c2 := keep_block hb2 c1 (lt_of_block c1)
  have HB2 : Hid (Below w.heap.size w w2) := HB1.out.trans (hb2.mono HB1.out.size)
  have HR2 := Lib.hid (HR1.out.below hb2)
  clear hb2 hw1 g1 p1 c1 HB1 HR1 xg0 xg1 xg2 xg3 xp
  obtain ⟨cg0, cg1, cg2, cg3⟩ := cells4 g2
  obtain ⟨ca0, ca1, ca2⟩ := cells3 c2
  go_wp2_with fail
  refine (implAddrOk_is _ _ _ _ _ _ _ _ KA.out _).mono ?_
  rintro e w3 ⟨rfl, hb3⟩
  have g3 := keep_block hb3 g2 (lt_of_block g2)
  have p3 := keep_block hb3 p2 (lt_of_block p2)
  have c3 := keep_block hb3 c2 (lt_of_block c2)
  have HB3 : Hid (Below w.heap.size w w3) := HB2.out.trans (hb3.mono HB2.out.size)
  have HR3 := Lib.hid (HR2.out.below hb3)
  clear hb3 g2 p2 c2 HB2 HR2 cg0 cg1 cg2 cg3 ca0 ca1 ca2
  obtain ⟨cg0, cg1, cg2, cg3⟩ := cells4 g3
  have cp3 := cell1 p3
  obtain ⟨ca0, ca1, ca2⟩ := cells3 c3
  obtain ⟨pb, off, rfl, hcx⟩ := HR3.out.at (k := X) (by rw [HN.out]; exact hXn)
  rw [HT.out] at hcx
  go_wp2_with fail
  refine (implBanksOf_is _ _ _ _ HN.out h1 HW.out t htw _ HR3.out).mono ?_
  intro e w4 hgi
  obtain ⟨aa, cc, rfl, own, hb4⟩ := givesI_len HK.out hgi
  have g4 := keep_block hb4 g3 (lt_of_block g3)
  have c4 := keep_block hb4 c3 (lt_of_block c3)
  have HB4 : Hid (Below w.heap.size w w4) := HB3.out.trans (hb4.mono HB3.out.size)
  obtain ⟨lg, rfl, _⟩ := own.get (k := 0) (by rw [HK.out]; omega)
  have HC : Hid (∀ j, j < K → w4.cell? ⟨lg, j, none⟩ = some (.int .i64 ((bkL l t).getD j 0))) := by
    intro j hj
    obtain ⟨lg', h, hc⟩ := own.get (k := j) (by rw [HK.out]; exact hj)
    cases h
    exact hc
  clear hb4 g3 p3 c3 HB3 HR3 own hgi cg0 cg1 cg2 cg3 cp3 ca0 ca1 ca2 hcx
  obtain ⟨cg0, cg1, cg2, cg3⟩ := cells4 g4
  obtain ⟨ca0, ca1, ca2⟩ := cells3 c4
  go_wp2_with fail
  refine (slicesIndex_is _ _ _ _ HK.out (by omega) _ HMEM.out _ HC.out).mono ?_
  rintro e w5 ⟨rfl, rfl⟩
  rw [HI.out]
  go_wp2
  go_ret3
  exact ⟨by rw [HE.out]; rfl, HB4.out⟩

end Go.Proofs.Ytljcdjhafhppbaa
