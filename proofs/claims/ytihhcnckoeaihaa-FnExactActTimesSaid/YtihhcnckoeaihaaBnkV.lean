/-
  The model's functions of ranks: what is allowed, a copy, what a command does, the state behind it.
-/
import Derived.Test.YtihhcnckoeaihaaBnkW
import Derived.Test.YtihhcnckoeaihaaFloat
namespace Go.Proofs.Ytihhcnckoeaihaa
open Go.RowKit Go.PlainAid

set_option linter.unusedVariables false

theorem bank_in {g0 B g2 g3 : Int} {l : List Bk} {pw k x y z : Int} {n : Nat} (hl : l.length = n) (h : RkOk g0 B g2 g3 l pw) (ha : AdOk g0 B g2 g3 x y z) : 0 ≤ x ∧ x < (n : Int) := by
  have h1 := h.2.1
  have h2 := ha.1
  omega

set_option maxHeartbeats 4000000 in
theorem specAllowed_is (g0 B g2 g3 : Int) (a : Option Addr) (n c : Nat) (l : List Bk) (pw k x y z : Int) (v : Bool) (hv : allowR g0 B g2 g3 l pw k x y z = v) (hl : l.length = n) (h1 : n ≤ 4000000) (w : World) (hr : RowB w a l) :
    Calls Try.prog 62 #[.agg #[.int .i64 g0, .int .i64 B, .int .i64 g2, .int .i64 g3], .agg #[.slice a n c, .int .i64 pw], .agg #[.int .i64 k, .int .i64 x, .int .i64 y, .int .i64 z]] w (Gives (.bool v) w) := by
  obtain ⟨w1, hw1⟩ : ∃ u, ((w.alloc (.cells #[.int .i64 g0, .int .i64 B, .int .i64 g2, .int .i64 g3] 30)).alloc (.cells #[.slice a n c, .int .i64 pw] 40)).alloc (.cells #[.int .i64 k, .int .i64 x, .int .i64 y, .int .i64 z] 56) = u := ⟨_, rfl⟩
  have hb1 : Below w.heap.size w w1 := by subst hw1; exact (((Below.refl _ _).alloc (Nat.le_refl _) _).alloc (by simp) _).alloc (by simp; omega) _
  have g1 : w1.heap[w.heap.size]? = some (.cells #[.int .i64 g0, .int .i64 B, .int .i64 g2, .int .i64 g3] 30) := by subst hw1; exact box3_0 _ _ _ _
  have p1 : w1.heap[w.heap.size + 1]? = some (.cells #[.slice a n c, .int .i64 pw] 40) := by subst hw1; exact box3_1 _ _ _ _
  have q1 : w1.heap[w.heap.size + 1 + 1]? = some (.cells #[.int .i64 k, .int .i64 x, .int .i64 y, .int .i64 z] 56) := by subst hw1; exact box3_2 _ _ _ _
  obtain ⟨c0, c1, c2, c3⟩ := cells4 g1
  obtain ⟨d0, d1⟩ := cells2 p1
  obtain ⟨e0, e1, e2, e3⟩ := cells4 q1
  have HB1 := Lib.hid hb1
  have HR := Lib.hid (hr.below hb1)
  clear hr hb1
  by_cases hR : RkOk g0 B g2 g3 l pw
  case neg =>
    have HE : Hid (v = false) := by show _ = _; rw [← hv]; unfold allowR; rw [decide_eq_false (fun h => hR h.1)]; rfl
    have K := Lib.hid (decide_eq_false hR)
    clear hv hR
    go_enter Try.func62, Try.ntmps62
    go_wp2_with fail
    refine (specRankOk_is _ _ _ _ _ _ _ _ _ _ K.out hl h1 _ HR.out).mono ?_
    rintro e w2 ⟨rfl, hb2⟩
    have HB2 : Hid (Below w.heap.size w w2) := HB1.out.trans (hb2.mono HB1.out.size)
    clear hb2
    go_wp2
    go_ret
    exact ⟨ret_b HE.out.symm, HB2.out⟩
  have K := Lib.hid (decide_eq_true hR)
  by_cases hC : CmOk k x y z ∧ AdOk g0 B g2 g3 x y z
  case neg =>
    have HE : Hid (v = false) := by show _ = _; rw [← hv]; unfold allowR; rw [decide_eq_false (fun h => hC h.2)]; rfl
    have KC := Lib.hid (decide_eq_false hC)
    clear hv hR hC
    go_enter Try.func62, Try.ntmps62
    go_wp2_with fail
    refine (specRankOk_is _ _ _ _ _ _ _ _ _ _ K.out hl h1 _ HR.out).mono ?_
    rintro e w2 ⟨rfl, hb2⟩
    have g2' := keep_block hb2 g1 (lt_of_block g1)
    have q2 := keep_block hb2 q1 (lt_of_block q1)
    have HB2 : Hid (Below w.heap.size w w2) := HB1.out.trans (hb2.mono HB1.out.size)
    clear hb2 c0 c1 c2 c3 d0 d1 e0 e1 e2 e3
    obtain ⟨c0, c1, c2, c3⟩ := cells4 g2'
    obtain ⟨e0, e1, e2, e3⟩ := cells4 q2
    go_wp2_with fail
    refine (specCommandOk_is _ _ _ _ _ _ _ _ _ KC.out _).mono ?_
    rintro e w3 ⟨rfl, hb3⟩
    have HB3 : Hid (Below w.heap.size w w3) := HB2.out.trans (hb3.mono HB2.out.size)
    clear hb3
    go_wp2
    go_ret
    exact ⟨ret_b HE.out.symm, HB3.out⟩
  have KC := Lib.hid (decide_eq_true hC)
  have HE : Hid (mayR l pw k x = v) := by show _ = _; rw [← hv]; unfold allowR; rw [decide_eq_true ⟨hR, hC⟩]; rfl
  have hkk := hC.1.1
  have hxx : Hid (0 ≤ x ∧ x < (n : Int)) := bank_in (k := k) hl hR hC.2
  clear hv hR hC
  go_enter Try.func62, Try.ntmps62
  go_wp2_with fail
  refine (specRankOk_is _ _ _ _ _ _ _ _ _ _ K.out hl h1 _ HR.out).mono ?_
  rintro e w2 ⟨rfl, hb2⟩
  have g2' := keep_block hb2 g1 (lt_of_block g1)
  have p2 := keep_block hb2 p1 (lt_of_block p1)
  have q2 := keep_block hb2 q1 (lt_of_block q1)
  have HB2 : Hid (Below w.heap.size w w2) := HB1.out.trans (hb2.mono HB1.out.size)
  have HR2 := Lib.hid (HR.out.below hb2)
  clear hb2 c0 c1 c2 c3 d0 d1 e0 e1 e2 e3
  obtain ⟨c0, c1, c2, c3⟩ := cells4 g2'
  obtain ⟨e0, e1, e2, e3⟩ := cells4 q2
  go_wp2_with fail
  refine (specCommandOk_is _ _ _ _ _ _ _ _ _ KC.out _).mono ?_
  rintro e w3 ⟨rfl, hb3⟩
  have p3 := keep_block hb3 p2 (lt_of_block p2)
  have q3 := keep_block hb3 q2 (lt_of_block q2)
  have HB3 : Hid (Below w.heap.size w w3) := HB2.out.trans (hb3.mono HB2.out.size)
  have HR3 := Lib.hid (HR2.out.below hb3)
  clear hb3 c0 c1 c2 c3 e0 e1 e2 e3
  obtain ⟨d0, d1⟩ := cells2 p3
  obtain ⟨e0, e1, e2, e3⟩ := cells4 q3
  go_wp2_with fail
  refine (specMay_is _ _ _ _ _ _ _ _ _ _ HE.out hkk (fun _ => hxx.out) hl h1 _ HR3.out).mono ?_
  rintro e w4 ⟨rfl, hb4⟩
  have HB4 : Hid (Below w.heap.size w w4) := HB3.out.trans (hb4.mono HB3.out.size)
  clear hb4
  go_wp2
  go_ret
  exact ⟨rfl, HB4.out⟩

/-- What a copy appends: the cells of a row that is read. -/
theorem RowB.src {w : World} {ad : Addr} {l : List Bk} (h : RowB w (some ad) l) : ∀ j u, (l.flatMap Bk.vs)[j]? = some u → w.cell? (ad.add j) = some u := by
  rcases h with rfl | ⟨b, off, hb, h⟩
  · intro j u hu; simp at hu
  · cases hb
    exact RowB.flat h

set_option maxHeartbeats 4000000 in
theorem specCopy_is (a : Option Addr) (n c : Nat) (l : List Bk) (pw : Int) (hl : l.length = n) (h1 : n ≤ 4000000) (hnc : a = none → c = 0) (w : World) (hr : RowB w a l) :
    Calls Try.prog 61 #[.agg #[.slice a n c, .int .i64 pw]] w (GivesK n l pw w) := by
  obtain ⟨i0, hi, hz0, hz1, hz2⟩ := info_parts infoK
  obtain ⟨w1, hw1⟩ : ∃ u, (w.alloc (.cells #[.slice a n c, .int .i64 pw] 40)).alloc (.cells #[.slice none 0 0, .int .i64 0] 40) = u := ⟨_, rfl⟩
  have hb1 : Below w.heap.size w w1 := by subst hw1; exact ((Below.refl _ _).alloc (Nat.le_refl _) _).alloc (by simp) _
  have g1 : w1.heap[w.heap.size]? = some (.cells #[.slice a n c, .int .i64 pw] 40) := by subst hw1; exact heap_alloc2_old _ _ _
  have p1 : w1.heap[w.heap.size + 1]? = some (.cells #[.slice none 0 0, .int .i64 0] 40) := by subst hw1; exact heap_alloc2_new _ _ _
  have HS1 : Hid (w.heap.size + 1 < w1.heap.size) := lt_of_block p1
  have HB1 := Lib.hid hb1
  have HR := Lib.hid (hr.below hb1)
  have HL := Lib.hid hl
  have HNC := Lib.hid hnc
  clear hr hl hb1 hnc
  go_enter Try.func61, Try.ntmps61
  go_wp2_with fail
  refine wp_region_float (A := ?A) [.t, .h, .h, .t, .h, .h, .t, .e] (by kernel_rfl) (by kernel_rfl) (fun u => u.cell? ⟨w.heap.size, 0, none⟩ = some (.slice a n c) ∧ u.cell? ⟨w.heap.size, 1, none⟩ = some (.int .i64 pw)) ?hC ?hH ?hT
  case hC => exact cells2 g1
  case hH =>
    intro u hu
    have z0 := fun q : Same u => q.cell hu.1
    have z1 := fun q : Same u => q.cell hu.2
    simp only [headsOf]
    repeat (go_big_quiet_step (fail))
    refine wpQuiet_nil ?_
    exact rfl
  case hT =>
    simp only [chainT]
    have HBd : Hid (Below w.heap.size w w1.drew) := Below.drew HB1.out
    have HRd : Hid (RowB w1.drew a l) := HR.out
    have HSd : Hid (w.heap.size + 1 < w1.drew.heap.size) := HS1.out
    have gd : w1.drew.heap[w.heap.size]? = some (.cells #[.slice a n c, .int .i64 pw] 40) := g1
    have pd : w1.drew.heap[w.heap.size + 1]? = some (.cells #[.slice none 0 0, .int .i64 0] 40) := p1
    clear HB1 HR HS1 g1 p1 hw1
    generalize w1.drew = w2 at HBd HRd HSd gd pd ⊢
    have own3 := World.ownsRow_made (base := w2.heap.size) (e := 82) (size := 2) w2 #[] 0 (Nat.le_refl _) (by decide) rfl
    have hb3 : Below w2.heap.size w2 (w2.alloc (.cells #[] 82)) := (Below.refl _ _).alloc (Nat.le_refl _) _
    have g3 := keep_block hb3 gd (lt_of_block gd)
    have p3 := keep_block hb3 pd (lt_of_block pd)
    have HB3 : Hid (Below w.heap.size w (w2.alloc (.cells #[] 82))) := HBd.out.trans (hb3.mono HBd.out.size)
    have HR3 := Lib.hid (HRd.out.below hb3)
    go_wp2_with fail
    refine stepQ_normal ⟨cells2 g3, ?_⟩
    have hS3 : w2.heap.size ≤ (w2.alloc (.cells #[] 82)).heap.size := by simp
    have fin : Hid (∀ (aa : Option Addr) (cc : Nat) (w4 : World), OwnK w2.heap.size (.slice aa n cc) l w4 → Below w.heap.size w w4 → w4.heap[w.heap.size]? = some (.cells #[.slice a n c, .int .i64 pw] 40) → w4.heap[w.heap.size + 1]? = some (.cells #[.slice none 0 0, .int .i64 0] 40) → OwnK w.heap.size (.slice aa n cc) l ((w4.setCell ⟨w.heap.size + 1, 0, none⟩ (.slice aa n cc)).setCell ⟨w.heap.size + 1, 1, none⟩ (.int .i64 pw)) ∧ Below w.heap.size w ((w4.setCell ⟨w.heap.size + 1, 0, none⟩ (.slice aa n cc)).setCell ⟨w.heap.size + 1, 1, none⟩ (.int .i64 pw))) := by
      intro aa cc w4 ho hb _ _
      have hlo := ho.lo
      have hs := HSd.out
      refine ⟨OwnK.mono (B := w2.heap.size) ?_ (by omega), (hb.setCell (by simp) _).setCell (by simp) _⟩
      exact (ho.setCell (fun x hx => by have := hlo x hx; simp; omega) _).setCell (fun x hx => by have := hlo x hx; simp; omega) _
    rcases a with _ | ad
    · have hl0 : l = [] := by rcases HRd.out with h | ⟨_, _, h, _⟩; exact h; cases h
      have hc0 := HNC.out rfl
      have hn0 : n = 0 := by rw [← HL.out, hl0]; rfl
      subst hl0
      subst hc0
      subst hn0
      go_wp2_with (at_builtin; refine wpList_append_own_none rfl _ _ 38 rfl w2.heap.size 82 i0 2 Try.underlying38 hi _ 0 [] rfl own3 rfl ?_)
      refine stepQ_normal ⟨cells2 g3, ?_⟩
      go_wp2_with fail
      refine stepQ_normal ⟨cells2 g3, ?_⟩
      obtain ⟨b0, b1⟩ := cells2 p3
      have f0 := thawed p3 0
      have f1 := thawed p3 1
      have F := Lib.hid (fin.out (some ⟨w2.heap.size, 0, none⟩) 0 (w2.alloc (.cells #[] 82)) own3 HB3.out g3 p3)
      generalize (w2.alloc (.cells #[] 82)) = w4 at b0 b1 f0 f1 F p3 ⊢
      go_wp2_with fail
      refine stepQ_normal ⟨trivial, ?_⟩
      go_wp2_with fail
      (try simp only [Exit.inBlock, Exit.then])
      refine bodyPost_ret (v := .agg #[.slice (some ⟨w2.heap.size, 0, none⟩) 0 0, .int .i64 pw]) ?_ rfl ⟨_, _, rfl, F.out.1, F.out.2⟩
      simp [results, Try.results61, go_sem, b0, b1]
    · go_wp2_with (at_builtin; refine wpList_append_own _ rfl _ _ 38 rfl w2.heap.size 82 i0 (.agg #[.bool false, .int .i64 0]) 2 16 Try.underlying38 hi hz0 hz1 hz2 rfl (by decide) _ 0 [] rfl own3 ad n c (l.flatMap Bk.vs) rfl (by rw [vs_length, HL.out]) (RowB.src HR3.out) (vs_oneCell l) (by unfold maxLen; omega) (by omega) hS3 ?_)
      intro v' w4 hown4 hgrow _
      have O4 : Hid (OwnK w2.heap.size v' l w4) := by
        show World.ownsRow _ _ _ _ _ _ _
        rw [HL.out]
        exact hown4
      have hb4 : Below w2.heap.size (w2.alloc (.cells #[] 82)) w4 := (Below.refl _ _).grown hgrow hS3 (fun j hj => (World.ownsRow.lt own3 j hj).1)
      have g4 := keep_block hb4 g3 (lt_of_block gd)
      have p4 := keep_block hb4 p3 (lt_of_block pd)
      have HB4 : Hid (Below w.heap.size w w4) := HB3.out.trans (hb4.mono HBd.out.size)
      have hsh : Hid (∃ aa cc, v' = .slice aa n cc) := by
        obtain ⟨aa, cc, h⟩ := O4.out.shape
        rw [HL.out] at h
        exact ⟨aa, cc, h⟩
      clear hown4 hgrow hb4
      obtain ⟨aa, cc, rfl⟩ := hsh.out
      clear hsh
      refine stepQ_normal ⟨cells2 g4, ?_⟩
      go_wp2_with fail
      refine stepQ_normal ⟨cells2 g4, ?_⟩
      obtain ⟨b0, b1⟩ := cells2 p4
      have f0 := thawed p4 0
      have f1 := thawed p4 1
      have F := Lib.hid (fin.out aa cc w4 O4.out HB4.out g4 p4)
      go_wp2_with fail
      refine stepQ_normal ⟨trivial, ?_⟩
      go_wp2_with fail
      (try simp only [Exit.inBlock, Exit.then])
      refine bodyPost_ret (v := .agg #[.slice aa n cc, .int .i64 pw]) ?_ rfl ⟨_, _, rfl, F.out.1, F.out.2⟩
      simp [results, Try.results61, go_sem, b0, b1]

theorem do_kind {k : Int} (h : 1 ≤ k ∧ k ≤ 9) : k = 1 ∨ k = 4 ∨ k = 6 ∨ k = 8 ∨ k = 7 ∨ k = 9 ∨ (k = 2 ∨ k = 3 ∨ k = 5) := by omega

/-- What a command leaves that was done to the variable at P. -/
def Done (B P n c : Nat) (a : Option Addr) (l : List Bk) (pw : Int) (w : World) (e : Ending) (w' : World) : Prop :=
  e = .returned (.tuple #[]) ∧ w'.heap[P]? = some (.cells #[.slice a n c, .int .i64 pw] 40) ∧ OwnK B (.slice a n c) l w' ∧ Below B w w'

set_option maxHeartbeats 8000000 in
theorem specDo_is {B P n c : Nat} {a : Option Addr} {l : List Bk} {pw k x y z : Int} (hk : 1 ≤ k ∧ k ≤ 9) (hx : k ≤ 5 → 0 ≤ x ∧ x < (n : Int)) (hl : l.length = n) (h1 : n ≤ 4000000) {w : World}
    (hP : w.heap[P]? = some (.cells #[.slice a n c, .int .i64 pw] 40)) (hO : OwnK B (.slice a n c) l w) (hne : ∀ x, a = some x → x.block ≠ P) (hB : B ≤ P) :
    Calls Try.prog 30 #[.pointer (some ⟨P, 0, none⟩), .agg #[.int .i64 k, .int .i64 x, .int .i64 y, .int .i64 z]] w (Done B P n c a (doL l k x y) (doP pw k) w) := by
  obtain ⟨w1, hw1⟩ : ∃ u, w.alloc (.cells #[.int .i64 k, .int .i64 x, .int .i64 y, .int .i64 z] 56) = u := ⟨_, rfl⟩
  have hlt := lt_of_block hP
  have hb1 : Below w.heap.size w w1 := by subst hw1; exact (Below.refl _ _).alloc (Nat.le_refl _) _
  have q1 : w1.heap[w.heap.size]? = some (.cells #[.int .i64 k, .int .i64 x, .int .i64 y, .int .i64 z] 56) := by subst hw1; exact heap_alloc_new _ _
  have p1 := keep_block hb1 hP hlt
  obtain ⟨e0, e1, e2, e3⟩ := cells4 q1
  obtain ⟨d0, d1⟩ := cells2 p1
  have HO := Lib.hid (hO.below hb1)
  have HBB : Hid (Below B w w1) := hb1.mono (by omega)
  have HL := Lib.hid hl
  have HNE := Lib.hid hne
  clear hO hl hb1 hP hne
  have same : Hid (∀ (l' : List Bk) (pw' : Int), l' = l → pw' = pw → Done B P n c a l' pw' w (.returned (.tuple #[])) w1) := by
    rintro l' pw' rfl rfl
    exact ⟨rfl, p1, HO.out, HBB.out⟩
  have power : Hid (∀ (l' : List Bk) (pw' : Int), l' = l → Done B P n c a l' pw' w (.returned (.tuple #[])) (w1.setCell ⟨P, 1, none⟩ (.int .i64 pw'))) := by
    rintro l' pw' rfl
    exact ⟨rfl, set_cells p1 1 _, HO.out.setCell HNE.out _, HBB.out.setCell hB _⟩
  have f1 := thawed p1 1
  rcases do_kind hk with rfl | rfl | rfl | rfl | rfl | rfl | h
  · obtain ⟨hx0, hx1⟩ := hx (by omega)
    obtain ⟨j, rfl⟩ := Int.eq_ofNat_of_zero_le hx0
    have hj : j < n := by omega
    obtain ⟨g, rfl, ho0, ho1, hf, hBg, hgl⟩ := HO.out.at (k := j) (by rw [HL.out]; exact hj)
    have HG : Hid (g ≠ P) := HNE.out _ rfl
    have hf0 := hf (j * 2)
    have hf1 := hf (j * 2 + 1)
    obtain ⟨old0, hco0⟩ : ∃ u, w1.cell? ⟨g, j * 2, none⟩ = some u := ⟨_, ho0⟩
    obtain ⟨old1, hco1⟩ : ∃ u, w1.cell? ⟨g, j * 2 + 1, none⟩ = some u := ⟨_, ho1⟩
    have z0 := fun q : Later w1 => q.cell e0
    have z1 := fun q : Later w1 => q.cell e1
    have z2 := fun q : Later w1 => q.cell e2
    have y0 := fun q : Later w1 => q.cell d0
    clear ho0 ho1 hf hx same power f1
    go_enter Try.func30, Try.ntmps30
    go_wp2_with fail
    refine wp_region_later_tail 10 (by kernel_rfl) (by kernel_rfl) ?_
    simp only [List.take_succ_cons, List.take_zero, List.drop_succ_cons, List.drop_zero]
    repeat (go_big_quiet_step (fail))
    refine wpQuiet_nil ?_
    rintro w2 ⟨zz, hz⟩
    have hb2 : Below w1.heap.size w1 w2 := hz ▸ zz.ok
    have p2 := keep_block hb2 p1 (lt_of_block p1)
    have hc0 := keep_cell hb2 hco0 hgl
    have hc1 := keep_cell hb2 hco1 hgl
    have O2 := Lib.hid (HO.out.below hb2)
    have HB2 : Hid (Below B w w2) := HBB.out.trans (hb2.mono (by have := lt_of_block p1; omega))
    have ff := O2.out.at (k := j) (by rw [HL.out]; exact hj)
    obtain ⟨g', hg', _, _, hf, _, _⟩ := ff
    cases hg'
    have hf0' := hf (j * 2)
    have hf1' := hf (j * 2 + 1)
    clear z0 z1 z2 y0 hz zz hb2 hco0 hco1 hf0 hf1 hf e0 e1 e2 e3 d0 d1
    go_wp2_with fail
    (try simp only [Exit.inBlock, Exit.then])
    refine bodyPost_ret (v := .tuple #[]) (by simp [results, Try.results30]) rfl ?_
    refine ⟨rfl, ?_, ?_, (HB2.out.setCell hBg _).setCell hBg _⟩
    · exact (Below.heap_setCell _ _ _ _ (Ne.symm HG.out)).trans ((Below.heap_setCell _ _ _ _ (Ne.symm HG.out)).trans p2)
    · exact O2.out.stored HL.out (by rw [HL.out]; exact hj) ⟨true, y⟩
  · obtain ⟨hx0, hx1⟩ := hx (by omega)
    obtain ⟨j, rfl⟩ := Int.eq_ofNat_of_zero_le hx0
    have hj : j < n := by omega
    obtain ⟨g, rfl, ho0, ho1, hf, hBg, hgl⟩ := HO.out.at (k := j) (by rw [HL.out]; exact hj)
    have HG : Hid (g ≠ P) := HNE.out _ rfl
    obtain ⟨old0, hco0⟩ : ∃ u, w1.cell? ⟨g, j * 2, none⟩ = some u := ⟨_, ho0⟩
    obtain ⟨old1, hco1⟩ : ∃ u, w1.cell? ⟨g, j * 2 + 1, none⟩ = some u := ⟨_, ho1⟩
    have z0 := fun q : Later w1 => q.cell e0
    have z1 := fun q : Later w1 => q.cell e1
    have y0 := fun q : Later w1 => q.cell d0
    clear ho0 ho1 hf hx same power f1
    go_enter Try.func30, Try.ntmps30
    go_wp2_with fail
    refine wp_region_later_tail 8 (by kernel_rfl) (by kernel_rfl) ?_
    simp only [List.take_succ_cons, List.take_zero, List.drop_succ_cons, List.drop_zero]
    repeat (go_big_quiet_step (fail))
    refine wpQuiet_nil ?_
    rintro w2 ⟨zz, hz⟩
    have hb2 : Below w1.heap.size w1 w2 := hz ▸ zz.ok
    have p2 := keep_block hb2 p1 (lt_of_block p1)
    have hc0 := keep_cell hb2 hco0 hgl
    have hc1 := keep_cell hb2 hco1 hgl
    have O2 := Lib.hid (HO.out.below hb2)
    have HB2 : Hid (Below B w w2) := HBB.out.trans (hb2.mono (by have := lt_of_block p1; omega))
    have ff := O2.out.at (k := j) (by rw [HL.out]; exact hj)
    obtain ⟨g', hg', _, _, hf, _, _⟩ := ff
    cases hg'
    have hf0' := hf (j * 2)
    have hf1' := hf (j * 2 + 1)
    clear z0 z1 y0 hz zz hb2 hco0 hco1 hf e0 e1 e2 e3 d0 d1
    go_wp2_with fail
    (try simp only [Exit.inBlock, Exit.then])
    refine bodyPost_ret (v := .tuple #[]) (by simp [results, Try.results30]) rfl ?_
    refine ⟨rfl, ?_, ?_, (HB2.out.setCell hBg _).setCell hBg _⟩
    · exact (Below.heap_setCell _ _ _ _ (Ne.symm HG.out)).trans ((Below.heap_setCell _ _ _ _ (Ne.symm HG.out)).trans p2)
    · exact O2.out.stored HL.out (by rw [HL.out]; exact hj) bk0
  · clear hx
    go_enter Try.func30, Try.ntmps30
    go_wp2
    (try simp only [Exit.inBlock, Exit.then])
    refine bodyPost_ret (v := .tuple #[]) (by simp [results, Try.results30]) rfl ?_
    exact power.out _ _ rfl
  · clear hx
    go_enter Try.func30, Try.ntmps30
    go_wp2
    (try simp only [Exit.inBlock, Exit.then])
    refine bodyPost_ret (v := .tuple #[]) (by simp [results, Try.results30]) rfl ?_
    exact power.out _ _ rfl
  · clear hx
    go_enter Try.func30, Try.ntmps30
    go_wp2
    (try simp only [Exit.inBlock, Exit.then])
    refine bodyPost_ret (v := .tuple #[]) (by simp [results, Try.results30]) rfl ?_
    exact power.out _ _ rfl
  · clear hx
    go_enter Try.func30, Try.ntmps30
    go_wp2
    (try simp only [Exit.inBlock, Exit.then])
    refine bodyPost_ret (v := .tuple #[]) (by simp [results, Try.results30]) rfl ?_
    exact power.out _ _ rfl
  · clear hx hk
    rcases h with rfl | rfl | rfl
    all_goals (go_enter Try.func30, Try.ntmps30; go_wp2; (try simp only [Exit.inBlock, Exit.then]); refine bodyPost_ret (v := .tuple #[]) (by simp [results, Try.results30]) rfl ?_; exact same.out _ _ rfl rfl)

end Go.Proofs.Ytihhcnckoeaihaa
