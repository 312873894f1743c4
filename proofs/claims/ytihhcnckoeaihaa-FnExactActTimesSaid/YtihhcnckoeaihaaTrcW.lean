/-
  The model on traces: what a command leaves, an event too early, the first fault.
-/
import Derived.Test.YtihhcnckoeaihaaTrcR
import Derived.Test.YtihhcnckoeaihaaTrcX
import Derived.Test.YtihhcnckoeaihaaBnkU
import Derived.Test.YtihhcnckoeaihaaTimG
namespace Go.Proofs.Ytihhcnckoeaihaa
open Go.RowKit Go.PlainAid

set_option linter.unusedVariables false

/-- What a command leaves that was done to the variable at P; no other old block turns. -/
def DoneX (B P n c : Nat) (a : Option Addr) (l : List Bk) (pw : Int) (w : World) (e : Ending) (w' : World) : Prop :=
  e = .returned (.tuple #[]) ∧ w'.heap[P]? = some (.cells #[.slice a n c, .int .i64 pw] 40) ∧ OwnK B (.slice a n c) l w' ∧ Below B w w' ∧ ∀ i, i < w.heap.size → i ≠ P → (∀ x, a = some x → i ≠ x.block) → w'.heap[i]? = w.heap[i]?

set_option maxHeartbeats 8000000 in
theorem specDoX_is {B P n c : Nat} {a : Option Addr} {l : List Bk} {pw k x y z : Int} (hk : 1 ≤ k ∧ k ≤ 9) (hx : k ≤ 5 → 0 ≤ x ∧ x < (n : Int)) (hl : l.length = n) (h1 : n ≤ 4000000) {w : World}
    (hP : w.heap[P]? = some (.cells #[.slice a n c, .int .i64 pw] 40)) (hO : OwnK B (.slice a n c) l w) (hne : ∀ x, a = some x → x.block ≠ P) (hB : B ≤ P) :
    Calls Try.prog 30 #[.pointer (some ⟨P, 0, none⟩), .agg #[.int .i64 k, .int .i64 x, .int .i64 y, .int .i64 z]] w (DoneX B P n c a (doL l k x y) (doP pw k) w) := by
  obtain ⟨w1, hw1⟩ : ∃ u, w.alloc (.cells #[.int .i64 k, .int .i64 x, .int .i64 y, .int .i64 z] 56) = u := ⟨_, rfl⟩
  have hlt := lt_of_block hP
  have hb1 : Below w.heap.size w w1 := by subst hw1; exact (Below.refl _ _).alloc (Nat.le_refl _) _
  have q1 : w1.heap[w.heap.size]? = some (.cells #[.int .i64 k, .int .i64 x, .int .i64 y, .int .i64 z] 56) := by subst hw1; exact heap_alloc_new _ _
  have p1 := keep_block hb1 hP hlt
  obtain ⟨e0, e1, e2, e3⟩ := cells4 q1
  obtain ⟨d0, d1⟩ := cells2 p1
  have HO := Lib.hid (hO.below hb1)
  have HBB : Hid (Below B w w1) := hb1.mono (by omega)
  have HL := Lib.hid hl
  have HNE := Lib.hid hne
  have FR1 : Hid (∀ i, i < w.heap.size → w1.heap[i]? = w.heap[i]?) := hb1.block
  have HWS : Hid (w.heap.size ≤ w1.heap.size) := hb1.size
  clear hO hl hb1 hP hne
  have same : Hid (∀ (l' : List Bk) (pw' : Int), l' = l → pw' = pw → DoneX B P n c a l' pw' w (.returned (.tuple #[])) w1) := by
    rintro l' pw' rfl rfl
    exact ⟨rfl, p1, HO.out, HBB.out, fun i hi _ _ => FR1.out i hi⟩
  have power : Hid (∀ (l' : List Bk) (pw' : Int), l' = l → DoneX B P n c a l' pw' w (.returned (.tuple #[])) (w1.setCell ⟨P, 1, none⟩ (.int .i64 pw'))) := by
    rintro l' pw' rfl
    exact ⟨rfl, set_cells p1 1 _, HO.out.setCell HNE.out _, HBB.out.setCell hB _, fun i hi hne _ => (Below.heap_setCell w1 ⟨P, 1, none⟩ (.int .i64 pw') i hne).trans (FR1.out i hi)⟩
  have f1 := thawed p1 1
  rcases do_kind hk with rfl | rfl | rfl | rfl | rfl | rfl | h
  · obtain ⟨hx0, hx1⟩ := hx (by omega)
    obtain ⟨j, rfl⟩ := Int.eq_ofNat_of_zero_le hx0
    have hj : j < n := by omega
    obtain ⟨g, rfl, ho0, ho1, hf, hBg, hgl⟩ := HO.out.at (k := j) (by rw [HL.out]; exact hj)
    have HG : Hid (g ≠ P) := HNE.out _ rfl
    have hf0 := hf (j * 2)
    have hf1 := hf (j * 2 + 1)
    obtain ⟨old0, hco0⟩ : ∃ u, w1.cell? ⟨g, j * 2, none⟩ = some u := ⟨_, ho0⟩
    obtain ⟨old1, hco1⟩ : ∃ u, w1.cell? ⟨g, j * 2 + 1, none⟩ = some u := ⟨_, ho1⟩
    have z0 := fun q : Later w1 => q.cell e0
    have z1 := fun q : Later w1 => q.cell e1
    have z2 := fun q : Later w1 => q.cell e2
    have y0 := fun q : Later w1 => q.cell d0
    clear ho0 ho1 hf hx same power f1
    go_enter Try.func30, Try.ntmps30
    go_wp2_with fail
    refine wp_region_later_tail 10 (by kernel_rfl) (by kernel_rfl) ?_
    simp only [List.take_succ_cons, List.take_zero, List.drop_succ_cons, List.drop_zero]
    repeat (go_big_quiet_step (fail))
    refine wpQuiet_nil ?_
    rintro w2 ⟨zz, hz⟩
    have hb2 : Below w1.heap.size w1 w2 := hz ▸ zz.ok
    have p2 := keep_block hb2 p1 (lt_of_block p1)
    have FR2 : Hid (∀ i, i < w1.heap.size → w2.heap[i]? = w1.heap[i]?) := fun i hi => hb2.block i hi
    have hc0 := keep_cell hb2 hco0 hgl
    have hc1 := keep_cell hb2 hco1 hgl
    have O2 := Lib.hid (HO.out.below hb2)
    have HB2 : Hid (Below B w w2) := HBB.out.trans (hb2.mono (by have := lt_of_block p1; omega))
    have ff := O2.out.at (k := j) (by rw [HL.out]; exact hj)
    obtain ⟨g', hg', _, _, hf, _, _⟩ := ff
    cases hg'
    have hf0' := hf (j * 2)
    have hf1' := hf (j * 2 + 1)
    clear z0 z1 z2 y0 hz zz hb2 hco0 hco1 hf0 hf1 hf e0 e1 e2 e3 d0 d1
    go_wp2_with fail
    (try simp only [Exit.inBlock, Exit.then])
    refine bodyPost_ret (v := .tuple #[]) (by simp [results, Try.results30]) rfl ?_
    have FX : Hid (∀ i, i < w.heap.size → i ≠ g → ((w2.setCell ⟨g, j * 2, none⟩ (.bool true)).setCell ⟨g, j * 2 + 1, none⟩ (.int .i64 y)).heap[i]? = w.heap[i]?) := fun i hi e =>
      (Below.heap_setCell (w2.setCell ⟨g, j * 2, none⟩ (.bool true)) ⟨g, j * 2 + 1, none⟩ (.int .i64 y) i e).trans ((Below.heap_setCell w2 ⟨g, j * 2, none⟩ (.bool true) i e).trans ((FR2.out i (by have := HWS.out; omega)).trans (FR1.out i hi)))
    refine ⟨rfl, ?_, ?_, (HB2.out.setCell hBg _).setCell hBg _, fun i hi _ hne => FX.out i hi (hne _ rfl)⟩
    · exact (Below.heap_setCell _ _ _ _ (Ne.symm HG.out)).trans ((Below.heap_setCell _ _ _ _ (Ne.symm HG.out)).trans p2)
    · exact O2.out.stored HL.out (by rw [HL.out]; exact hj) ⟨true, y⟩
  · obtain ⟨hx0, hx1⟩ := hx (by omega)
    obtain ⟨j, rfl⟩ := Int.eq_ofNat_of_zero_le hx0
    have hj : j < n := by omega
    obtain ⟨g, rfl, ho0, ho1, hf, hBg, hgl⟩ := HO.out.at (k := j) (by rw [HL.out]; exact hj)
    have HG : Hid (g ≠ P) := HNE.out _ rfl
    obtain ⟨old0, hco0⟩ : ∃ u, w1.cell? ⟨g, j * 2, none⟩ = some u := ⟨_, ho0⟩
    obtain ⟨old1, hco1⟩ : ∃ u, w1.cell? ⟨g, j * 2 + 1, none⟩ = some u := ⟨_, ho1⟩
    have z0 := fun q : Later w1 => q.cell e0
    have z1 := fun q : Later w1 => q.cell e1
    have y0 := fun q : Later w1 => q.cell d0
    clear ho0 ho1 hf hx same power f1
    go_enter Try.func30, Try.ntmps30
    go_wp2_with fail
    refine wp_region_later_tail 8 (by kernel_rfl) (by kernel_rfl) ?_
    simp only [List.take_succ_cons, List.take_zero, List.drop_succ_cons, List.drop_zero]
    repeat (go_big_quiet_step (fail))
    refine wpQuiet_nil ?_
    rintro w2 ⟨zz, hz⟩
    have hb2 : Below w1.heap.size w1 w2 := hz ▸ zz.ok
    have p2 := keep_block hb2 p1 (lt_of_block p1)
    have FR2 : Hid (∀ i, i < w1.heap.size → w2.heap[i]? = w1.heap[i]?) := fun i hi => hb2.block i hi
    have hc0 := keep_cell hb2 hco0 hgl
    have hc1 := keep_cell hb2 hco1 hgl
    have O2 := Lib.hid (HO.out.below hb2)
    have HB2 : Hid (Below B w w2) := HBB.out.trans (hb2.mono (by have := lt_of_block p1; omega))
    have ff := O2.out.at (k := j) (by rw [HL.out]; exact hj)
    obtain ⟨g', hg', _, _, hf, _, _⟩ := ff
    cases hg'
    have hf0' := hf (j * 2)
    have hf1' := hf (j * 2 + 1)
    clear z0 z1 y0 hz zz hb2 hco0 hco1 hf e0 e1 e2 e3 d0 d1
    go_wp2_with fail
    (try simp only [Exit.inBlock, Exit.then])
    refine bodyPost_ret (v := .tuple #[]) (by simp [results, Try.results30]) rfl ?_
    have FX : Hid (∀ i, i < w.heap.size → i ≠ g → ((w2.setCell ⟨g, j * 2, none⟩ (.bool false)).setCell ⟨g, j * 2 + 1, none⟩ (.int .i64 0)).heap[i]? = w.heap[i]?) := fun i hi e =>
      (Below.heap_setCell (w2.setCell ⟨g, j * 2, none⟩ (.bool false)) ⟨g, j * 2 + 1, none⟩ (.int .i64 0) i e).trans ((Below.heap_setCell w2 ⟨g, j * 2, none⟩ (.bool false) i e).trans ((FR2.out i (by have := HWS.out; omega)).trans (FR1.out i hi)))
    refine ⟨rfl, ?_, ?_, (HB2.out.setCell hBg _).setCell hBg _, fun i hi _ hne => FX.out i hi (hne _ rfl)⟩
    · exact (Below.heap_setCell _ _ _ _ (Ne.symm HG.out)).trans ((Below.heap_setCell _ _ _ _ (Ne.symm HG.out)).trans p2)
    · exact O2.out.stored HL.out (by rw [HL.out]; exact hj) bk0
  · clear hx
    go_enter Try.func30, Try.ntmps30
    go_wp2
    (try simp only [Exit.inBlock, Exit.then])
    refine bodyPost_ret (v := .tuple #[]) (by simp [results, Try.results30]) rfl ?_
    exact power.out _ _ rfl
  · clear hx
    go_enter Try.func30, Try.ntmps30
    go_wp2
    (try simp only [Exit.inBlock, Exit.then])
    refine bodyPost_ret (v := .tuple #[]) (by simp [results, Try.results30]) rfl ?_
    exact power.out _ _ rfl
  · clear hx
    go_enter Try.func30, Try.ntmps30
    go_wp2
    (try simp only [Exit.inBlock, Exit.then])
    refine bodyPost_ret (v := .tuple #[]) (by simp [results, Try.results30]) rfl ?_
    exact power.out _ _ rfl
  · clear hx
    go_enter Try.func30, Try.ntmps30
    go_wp2
    (try simp only [Exit.inBlock, Exit.then])
    refine bodyPost_ret (v := .tuple #[]) (by simp [results, Try.results30]) rfl ?_
    exact power.out _ _ rfl
  · clear hx hk
    rcases h with rfl | rfl | rfl
    all_goals (go_enter Try.func30, Try.ntmps30; go_wp2; (try simp only [Exit.inBlock, Exit.then]); refine bodyPost_ret (v := .tuple #[]) (by simp [results, Try.results30]) rfl ?_; exact same.out _ _ rfl rfl)

theorem closeE_snoc (B : Int) (t : Tm) (P : List Ev) (d e : Ev) : closeE B t (P ++ [d]) e = (closeE B t P e || decide (e.t - d.t < gapR B t d.k d.x e.k e.x)) := by
  unfold closeE
  rw [List.any_append]
  simp

theorem closeE_mem {B : Int} {t : Tm} {P : List Ev} {i : Nat} {e : Ev} (hi : i < P.length) (h : decide (e.t - (P.getD i ev0).t < gapR B t (P.getD i ev0).k (P.getD i ev0).x e.k e.x) = true) : closeE B t P e = true := by
  unfold closeE
  rw [List.any_eq_true]
  refine ⟨P.getD i ev0, ?_, h⟩
  rw [List.getD_eq_getElem?_getD, List.getElem?_eq_getElem hi]
  exact List.getElem_mem _

set_option maxHeartbeats 4000000 in
theorem specClose_is (t : Tm) (g0 B g2 g3 : Int) (a : Option Addr) (n c : Nat) (P : List Ev) (e : Ev) (hB : 1 ≤ B ∧ B ≤ 4) (hP : ∀ i, i < n → EvIn (P.getD i ev0)) (he : EvIn e) (v : Bool) (hv : closeE B t P e = v) (hl : P.length = n) (h1 : n ≤ 3000000) (w : World) (hr : evK.Row w a P) :
    Calls Try.prog 31 #[.agg #[.int .i64 g0, .int .i64 B, .int .i64 g2, .int .i64 g3], .agg #[.int .i64 t.rcd, .int .i64 t.rp, .int .i64 t.ras, .int .i64 t.rrds, .int .i64 t.rrdl, .int .i64 t.faw, .int .i64 t.ccds, .int .i64 t.ccdl, .int .i64 t.rtp, .int .i64 t.wr, .int .i64 t.wtrs, .int .i64 t.wtrl, .int .i64 t.rtw, .int .i64 t.rfc, .int .i64 t.cke, .int .i64 t.xp, .int .i64 t.xs], .slice a n c, .agg #[.int .i64 e.t, .int .i64 e.k, .int .i64 e.x, .int .i64 e.y, .int .i64 e.z]] w (Gives (.bool v) w) := by
  obtain ⟨w1, hw1⟩ : ∃ u, ((w.alloc (.cells #[.int .i64 g0, .int .i64 B, .int .i64 g2, .int .i64 g3] 30)).alloc (.cells #[.int .i64 t.rcd, .int .i64 t.rp, .int .i64 t.ras, .int .i64 t.rrds, .int .i64 t.rrdl, .int .i64 t.faw, .int .i64 t.ccds, .int .i64 t.ccdl, .int .i64 t.rtp, .int .i64 t.wr, .int .i64 t.wtrs, .int .i64 t.wtrl, .int .i64 t.rtw, .int .i64 t.rfc, .int .i64 t.cke, .int .i64 t.xp, .int .i64 t.xs] 32)).alloc (.cells #[.int .i64 e.t, .int .i64 e.k, .int .i64 e.x, .int .i64 e.y, .int .i64 e.z] 58) = u := ⟨_, rfl⟩
  have HB1 : Hid (Below w.heap.size w w1) := by subst hw1; exact (((Below.refl _ _).alloc (Nat.le_refl _) _).alloc (by simp) _).alloc (by simp; omega) _
  have g1 : w1.heap[w.heap.size]? = some (.cells #[.int .i64 g0, .int .i64 B, .int .i64 g2, .int .i64 g3] 30) := by subst hw1; exact box3_0 _ _ _ _
  have p1 : w1.heap[w.heap.size + 1]? = some (.cells #[.int .i64 t.rcd, .int .i64 t.rp, .int .i64 t.ras, .int .i64 t.rrds, .int .i64 t.rrdl, .int .i64 t.faw, .int .i64 t.ccds, .int .i64 t.ccdl, .int .i64 t.rtp, .int .i64 t.wr, .int .i64 t.wtrs, .int .i64 t.wtrl, .int .i64 t.rtw, .int .i64 t.rfc, .int .i64 t.cke, .int .i64 t.xp, .int .i64 t.xs] 32) := by subst hw1; exact box3_1 _ _ _ _
  have q1 : w1.heap[w.heap.size + 1 + 1]? = some (.cells #[.int .i64 e.t, .int .i64 e.k, .int .i64 e.x, .int .i64 e.y, .int .i64 e.z] 58) := by subst hw1; exact box3_2 _ _ _ _
  have HR := Lib.hid (hr.below HB1.out)
  have HL := Lib.hid hl
  have HV := Lib.hid hv
  have HP := Lib.hid hP
  have HEI := Lib.hid he
  have HBB := Lib.hid hB
  clear hr hl hv hP he hB
  go_enter Try.func31, Try.ntmps31
  go_wp2_with fail
  go_loopw [9] (fun i wr => ∃ k : Nat, k ≤ n ∧ i = .int .i64 k ∧ closeE B t (P.take k) e = false ∧ Below w1.heap.size w1 wr) (fun i _ => n - (intOf i).toNat)
  case atStart => exact ⟨0, Nat.zero_le _, rfl, rfl, Below.refl _ _⟩
  case round =>
    obtain ⟨m, hm, rfl, hno, hbr⟩ := hrel
    have HNO := Lib.hid hno
    have HBR := Lib.hid hbr
    have HB2 : Hid (Below w.heap.size w wr) := HB1.out.trans (hbr.mono HB1.out.size)
    have g2' := keep_block hbr g1 (lt_of_block g1)
    have p2 := keep_block hbr p1 (lt_of_block p1)
    have q2 := keep_block hbr q1 (lt_of_block q1)
    clear hno hbr
    by_cases hlt : m < n
    · have HIN := Lib.hid (HP.out m hlt)
      have HT := Lib.hid (take_snoc (L := P) (i := m) (by rw [HL.out]; exact hlt))
      have HMEM := Lib.hid (closeE_mem (B := B) (t := t) (P := P) (i := m) (e := e) (by rw [HL.out]; exact hlt))
      obtain ⟨b, off, rfl, a0, a1, a2, a3, a4⟩ := ev_at (HR.out.below HBR.out) (i := m) (by rw [HL.out]; exact hlt)
      obtain ⟨d, hd⟩ : ∃ d, P.getD m ev0 = d := ⟨_, rfl⟩
      rw [hd] at a0 a1 a2 a3 a4 HIN HT HMEM
      clear hd
      obtain ⟨c0, c1, c2, c3⟩ := cells4 g2'
      obtain ⟨e0, e1, e2, e3, e4⟩ := cells5 q2
      have zg0 := fun q : Later wr => q.cell c0
      have zg1 := fun q : Later wr => q.cell c1
      have zg2 := fun q : Later wr => q.cell c2
      have zg3 := fun q : Later wr => q.cell c3
      have ze0 := fun q : Later wr => q.cell e0
      have ze1 := fun q : Later wr => q.cell e1
      have ze2 := fun q : Later wr => q.cell e2
      have ze3 := fun q : Later wr => q.cell e3
      have ze4 := fun q : Later wr => q.cell e4
      have za0 := fun q : Later wr => q.cell a0
      have za1 := fun q : Later wr => q.cell a1
      have za2 := fun q : Later wr => q.cell a2
      have za3 := fun q : Later wr => q.cell a3
      have za4 := fun q : Later wr => q.cell a4
      have w1' : IntKind.i64.wrap (e.t - d.t) = e.t - d.t := IntWalk.i64_in _ (by have := HIN.out.1; have := HEI.out.1; omega)
      obtain ⟨G, hG⟩ : ∃ G, gapR B t d.k d.x e.k e.x = G := ⟨_, rfl⟩
      have HG := Lib.hid hG
      obtain ⟨q, hq⟩ : ∃ q, decide (e.t - d.t < G) = q := ⟨_, rfl⟩
      have HQ := Lib.hid hq
      clear a0 a1 a2 a3 a4 c0 c1 c2 c3 e0 e1 e2 e3 e4 hG
      go_wp2_with fail
      refine wp_region_later (by kernel_rfl) (by kernel_rfl) ?_
      repeat (first | ((with_reducible refine ld_later ?_ ?_ p2 ?_); kernel_rfl; kernel_rfl; go_simp) | go_big_quiet_step ((go_at_call 49; exact Gives.later _ (specL07Gap_is t g0 B g2 g3 d.k d.x d.y d.z e.k e.x e.y e.z HBB.out HIN.out.2 HEI.out.2 G HG.out _))))
      refine wpQuiet_nil ?_
      intro zz
      have HB3 : Hid (Below w1.heap.size w1 zz.to) := HBR.out.trans (zz.ok.mono HBR.out.size)
      have HB4 : Hid (Below w.heap.size w zz.to) := HB1.out.trans (HB3.out.mono HB1.out.size)
      clear zg0 zg1 zg2 zg3 ze0 ze1 ze2 ze3 ze4 za0 za1 za2 za3 za4
      cases q
      · have HN2 : Hid (closeE B t (P.take (m + 1)) e = false) := by
          show _ = _
          rw [HT.out, closeE_snoc, HNO.out, HG.out, HQ.out]
          rfl
        go_wp2
        go_roundw
        case rel => exact ⟨m + 1, by omega, by go_num, HN2.out, HB3.out⟩
        case measure => simp [intOf]; omega
      · have HE : Hid (v = true) := by show _ = _; rw [← HV.out]; exact HMEM.out (by rw [HG.out]; exact HQ.out)
        go_wp2
        go_ret
        exact ⟨ret_b HE.out.symm, HB4.out⟩
    · obtain rfl : m = n := by omega
      have HE : Hid (v = false) := by
        show _ = _
        have := HNO.out
        rw [List.take_of_length_le (by rw [HL.out]; exact Nat.le_refl _)] at this
        rw [← HV.out]
        exact this
      go_wp2_with fail
      go_ret
      exact ⟨ret_b HE.out.symm, HB2.out⟩

end Go.Proofs.Ytihhcnckoeaihaa
