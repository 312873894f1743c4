/-
  impl's functions of ranks: new, open banks, a bank's row, valid states.
-/
import Derived.Test.YtigoniochamjgaaBnkI
import Derived.Test.YtigoniochamjgaaGeoI
namespace Go.Proofs.Ytigoniochamjgaa
open Go.RowKit Go.PlainAid

set_option linter.unusedVariables false


set_option maxHeartbeats 2000000 in
theorem implRankNew_is : IRankNew := by
  intro g0 B g2 g3 n hn w
  have hr := bankN_range g0 B g2 g3
  have hn8 : n ≤ 8 := by omega
  obtain ⟨i0, hi, hz0, hz1, hz2⟩ := info_parts infoK
  obtain ⟨w1, hw1⟩ : ∃ u, (w.alloc (.cells #[.int .i64 g0, .int .i64 B, .int .i64 g2, .int .i64 g3] 25)).alloc (.cells #[.slice none 0 0, .int .i64 0] 28) = u := ⟨_, rfl⟩
  have HB1 : Hid (Below w.heap.size w w1) := by subst hw1; exact ((Below.refl _ _).alloc (Nat.le_refl _) _).alloc (by simp) _
  have g1 : w1.heap[w.heap.size]? = some (.cells #[.int .i64 g0, .int .i64 B, .int .i64 g2, .int .i64 g3] 25) := by subst hw1; exact heap_alloc2_old _ _ _
  have p1 : w1.heap[w.heap.size + 1]? = some (.cells #[.slice none 0 0, .int .i64 0] 28) := by subst hw1; exact heap_alloc2_new _ _ _
  have HS1 : Hid (w.heap.size + 1 < w1.heap.size) := lt_of_block p1
  obtain ⟨c0, c1, c2, c3⟩ := cells4 g1
  have HN := Lib.hid hn
  by_cases hg : GeoOk g0 B g2 g3
  case neg =>
    have K := Lib.hid (decide_eq_false hg)
    have hn0 : n = 0 := by
      have : bankN g0 B g2 g3 = 0 := if_neg hg
      omega
    subst hn0
    clear hr hn hg
    go_enter Try.func21, Try.ntmps21
    go_wp2_with fail
    refine (implGeoOk_is _ _ _ _ _ K.out _).mono ?_
    rintro e w2 ⟨rfl, hb2⟩
    have p2 := keep_block hb2 p1 (lt_of_block p1)
    have HB2 : Hid (Below w.heap.size w w2) := HB1.out.trans (hb2.mono HB1.out.size)
    obtain ⟨x0, x1⟩ := cells2 p2
    have f0 := thawed p2 0
    have f1 := thawed p2 1
    clear hb2 c0 c1 c2 c3 hw1 g1 p1 HB1
    go_wp2_with fail
    (try simp only [Exit.inBlock, Exit.then])
    refine bodyPost_ret (v := .agg #[.slice none 0 0, .int .i64 0]) (by simp [results, Try.results21, go_sem, x0, x1]) rfl ⟨none, 0, rfl, ?_, ?_⟩
    · exact World.ownsRow_nil _ _ _ _
    · repeat' (first | exact HB2.out | refine Below.drew ?_ | refine Below.setCell ?_ (by simp <;> omega) _)
  have K := Lib.hid (decide_eq_true hg)
  clear hr hn hg
  go_enter Try.func21, Try.ntmps21
  go_wp2_with fail
  refine (implGeoOk_is _ _ _ _ _ K.out _).mono ?_
  rintro e w2' ⟨rfl, hb2'⟩
  have g2' := keep_block hb2' g1 (lt_of_block g1)
  have p2' := keep_block hb2' p1 (lt_of_block p1)
  have HB2' : Hid (Below w.heap.size w w2') := HB1.out.trans (hb2'.mono HB1.out.size)
  have HS2' : Hid (w1.heap.size ≤ w2'.heap.size) := hb2'.size
  clear hb2' c0 c1 c2 c3 hw1 g1 p1 HB1
  obtain ⟨c0, c1, c2, c3⟩ := cells4 g2'
  go_wp2_with fail
  refine (implBank_is _ _ _ _ _ HN.out _).mono ?_
  rintro e w2 ⟨rfl, hb2⟩
  have p2 := keep_block hb2 p2' (lt_of_block p2')
  have HB2 : Hid (Below w.heap.size w w2) := HB2'.out.trans (hb2.mono HB2'.out.size)
  have HS2 : Hid (w1.heap.size ≤ w2.heap.size) := Nat.le_trans HS2'.out hb2.size
  clear hb2 c0 c1 c2 c3 g2' p2' HB2'
  go_wp2_with (at_make; refine wpList_make_full _ rfl _ _ 26 rfl w1.heap.size 39 i0 (.agg #[.bool false, .int .i64 0]) 2 Try.underlying26 hi hz0 hz1 _ _ _ _ n rfl rfl rfl rfl (by rw [hz2]; omega) (by unfold maxLen; omega) HS2.out ?_)
  intro w3 hown hgr
  have hb3 : Below w2.heap.size w2 w3 := (Below.refl _ _).grown hgr (Nat.le_refl _) (fun k hk => by cases hk)
  have HO3 : Hid (OwnK w1.heap.size (.slice (some ⟨w2.heap.size, 0, none⟩) n n) (List.replicate n bk0) w3) := by
    show World.ownsRow _ _ _ _ _ _ _
    rw [made_bank] at hown
    rw [List.length_replicate]
    exact hown
  have p3 := keep_block hb3 p2 (lt_of_block p2)
  have HB3 : Hid (Below w.heap.size w w3) := HB2.out.trans (hb3.mono HB2.out.size)
  obtain ⟨x0, x1⟩ := cells2 p3
  have f0 := thawed p3 0
  have f1 := thawed p3 1
  clear hgr hown hb3 p2 HB2
  go_wp2_with fail
  (try simp only [Exit.inBlock, Exit.then])
  refine bodyPost_ret (v := .agg #[.slice (some ⟨w2.heap.size, 0, none⟩) n n, .int .i64 0]) (by simp [results, Try.results21, go_sem, x0, x1]) rfl ⟨_, _, rfl, ?_, ?_⟩
  · have hs := HS1.out
    refine OwnK.mono (B := w1.heap.size) ?_ (by omega)
    have hlo := HO3.out.lo
    repeat' (first | exact HO3.out | refine OwnK.setCell ?_ (fun x hx => by have := hlo x hx; simp; omega) _)
  · repeat' (first | exact HB3.out | refine Below.drew ?_ | refine Below.setCell ?_ (by simp <;> omega) _)



set_option maxHeartbeats 4000000 in
theorem implOpen_is : IOpenBanks := by
  intro a n c l pw hl h1 hnc w hr
  obtain ⟨i0, hi, hz0, hz1, hz2⟩ := info_parts infoI
  obtain ⟨w1, hw1⟩ : ∃ u, w.alloc (.cells #[.slice a n c, .int .i64 pw] 28) = u := ⟨_, rfl⟩
  have hb1 : Below w.heap.size w w1 := by subst hw1; exact (Below.refl _ _).alloc (Nat.le_refl _) _
  have p1 : w1.heap[w.heap.size]? = some (.cells #[.slice a n c, .int .i64 pw] 28) := by subst hw1; exact heap_alloc_new _ _
  have HS1 : Hid (w.heap.size < w1.heap.size) := lt_of_block p1
  have HB1 := Lib.hid hb1
  have HR := Lib.hid (hr.below hb1)
  have HL := Lib.hid hl
  obtain ⟨cp, cq⟩ := cells2 p1
  clear hr hl hb1 hnc
  go_enter Try.func23, Try.ntmps23
  go_wp2_with fail
  clear cp cq
  go_loopw [3, 9] (fun v i wr => ∃ k : Nat, k ≤ n ∧ i = .int .i64 k ∧ OwnI w1.heap.size v (openF 0 (l.take k)) wr ∧ Below w1.heap.size w1 wr) (fun _ i _ => n - (intOf i).toNat)
  case atStart => exact ⟨0, Nat.zero_le _, rfl, World.ownsRow_nil _ _ _ _, Below.refl _ _⟩
  case round =>
    obtain ⟨k, hk, rfl, hown, hbr⟩ := hrel
    have HO := Lib.hid hown
    have HBR := Lib.hid hbr
    have p2 := keep_block hbr p1 (lt_of_block p1)
    obtain ⟨cp, cq⟩ := cells2 p2
    clear hown hbr
    by_cases hlt : k < n
    · obtain ⟨bb, off, rfl, hs0, hs1⟩ := (HR.out.below HBR.out).at (k := k) (by rw [HL.out]; exact hlt)
      have HST := Lib.hid (openF_step (l := l) (k := k) (by rw [HL.out]; exact hlt))
      have hll : (openF 0 (l.take k)).length ≤ n := Nat.le_trans (openF_length _ _) (by rw [List.length_take, HL.out]; omega)
      generalize (l.getD k bk0).row = r at hs1
      have hbs := HBR.out.size
      obtain ⟨wn, hwn⟩ : ∃ u, wr.alloc (.cells #[.bool (l.getD k bk0).op, .int .i64 r] 39) = u := ⟨_, rfl⟩
      have HBN : Hid (Below w1.heap.size w1 wn) := by subst hwn; exact HBR.out.alloc hbs _
      have own7 : OwnI w1.heap.size u3 (openF 0 (l.take k)) wn := by subst hwn; exact World.ownsRow.alloc HO.out _
      have q1 : wn.heap[wr.heap.size]? = some (.cells #[.bool (l.getD k bk0).op, .int .i64 r] 39) := by subst hwn; exact heap_alloc_new _ _
      obtain ⟨x0, x1⟩ := cells2 q1
      cases ho : (l.getD k bk0).op
      · rw [ho] at hs0 HST x0 hwn
        clear ho q1
        have HST2 : Hid (openF 0 (l.take (k + 1)) = openF 0 (l.take k)) := by show _ = _; rw [HST.out]; rfl
        have O7 := Lib.hid own7
        clear own7 HO
        go_wp2_with fail
        go_roundw
        case rel => exact ⟨k + 1, by omega, by go_num, by rw [HST2.out]; exact O7.out, HBN.out⟩
        case measure => simp [intOf]; omega
      · rw [ho] at hs0 HST x0 hwn
        clear ho q1
        have HST2 : Hid (openF 0 (l.take (k + 1)) = openF 0 (l.take k) ++ [(k : Int)]) := by show _ = _; rw [HST.out]; rfl
        have hbn := HBN.out.size
        clear HO
        go_wp2_with (at_builtin; refine wpList_append_own _ rfl _ _ 42 rfl w1.heap.size 3 i0 (.int .i64 0) 1 8 Try.underlying42 hi hz0 hz1 hz2 rfl (by decide) _ _ _ rfl (World.ownsRow.alloc own7 _) ⟨wn.heap.size, 0, none⟩ 1 1 [.int .i64 (k : Int)] rfl rfl (cell_one_new _ _ _) (by intro u hu; simp at hu; subst hu; rfl) (by unfold maxLen; omega) (by omega) (by rw [World.size_alloc]; omega) ?_)
        intro v' w8 hown8 hgrow _
        have R : Hid (OwnI w1.heap.size v' (openF 0 (l.take (k + 1))) w8) := by
          have := ownI_more hown8
          rw [← HST2.out] at this
          exact this
        have hrow : ∀ j, Value.ownBlock u3 = some j → w1.heap.size ≤ j := fun j hj => (World.ownsRow.lt own7 j hj).1
        have hb8 : Below w1.heap.size wn w8 := ((Below.refl w1.heap.size wn).alloc (by omega) _).grown hgrow (by rw [World.size_alloc]; omega) hrow
        have HB8 : Hid (Below w1.heap.size w1 w8) := HBN.out.trans hb8
        clear hb8 hown8 hgrow own7 hrow HBR
        go_wp2_with fail
        go_roundw
        case rel => exact ⟨k + 1, by omega, by go_num, R.out, HB8.out⟩
        case measure => simp [intOf]; omega
    · obtain rfl : k = n := by omega
      have hO := HO.out
      rw [List.take_of_length_le (by rw [HL.out]; exact Nat.le_refl _)] at hO
      obtain ⟨aa, cc, hv⟩ := hO.shape
      have HO2 := Lib.hid hO
      have HV := Lib.hid hv
      clear hO hv
      go_wp2_with fail
      go_ret
      refine ⟨aa, cc, by first | rfl | (rw [HV.out]; rfl), ?_, HB1.out.trans (HBR.out.mono HB1.out.size)⟩
      have := HO2.out.mono (C := w.heap.size) HB1.out.size
      rw [HV.out] at this
      exact this



set_option maxHeartbeats 2000000 in
theorem implRowOf_is : IRowOf := by
  intro a n c l pw x v hv hl h1 hnc w hr
  obtain ⟨w1, hw1⟩ : ∃ u, w.alloc (.cells #[.slice a n c, .int .i64 pw] 28) = u := ⟨_, rfl⟩
  have hb1 : Below w.heap.size w w1 := by subst hw1; exact (Below.refl _ _).alloc (Nat.le_refl _) _
  have p1 : w1.heap[w.heap.size]? = some (.cells #[.slice a n c, .int .i64 pw] 28) := by subst hw1; exact heap_alloc_new _ _
  obtain ⟨cp, cq⟩ := cells2 p1
  have HB1 := Lib.hid hb1
  have HR := Lib.hid (hr.below hb1)
  clear hr hb1 hnc
  by_cases hx0 : x < 0
  case pos =>
    have HE : Hid (v = -1) := by show _ = _; rw [← hv]; exact if_neg (fun h => by omega)
    have t0 : decide (x < 0) = true := decide_eq_true hx0
    clear hv hx0
    go_enter Try.func17, Try.ntmps17
    go_wp2
    go_ret
    exact ⟨ret_i HE.out.symm, HB1.out⟩
  have t0 : decide (x < 0) = false := decide_eq_false hx0
  by_cases hx1 : (n : Int) ≤ x
  case pos =>
    have HE : Hid (v = -1) := by show _ = _; rw [← hv]; exact if_neg (fun h => by omega)
    have t1 : decide ((n : Int) ≤ x) = true := decide_eq_true hx1
    clear hv hx0 hx1
    go_enter Try.func17, Try.ntmps17
    go_wp2
    go_ret
    exact ⟨ret_i HE.out.symm, HB1.out⟩
  have t1 : decide ((n : Int) ≤ x) = false := decide_eq_false hx1
  obtain ⟨j, rfl⟩ := Int.eq_ofNat_of_zero_le (show 0 ≤ x by omega)
  have hj : j < n := by omega
  have t2 : decide (n ≤ j) = false := decide_eq_false (by omega)
  obtain ⟨bb, off, rfl, hs0, hs1⟩ := HR.out.at (k := j) (by omega)
  have hv' : (if (l.getD j bk0).op = true then (l.getD j bk0).row else -1) = v := by
    rw [← hv]
    unfold rowN
    rw [Int.toNat_natCast]
    by_cases ho : (l.getD j bk0).op = true
    · rw [if_pos ho, if_pos ⟨by omega, ho⟩]
    · rw [if_neg ho, if_neg (fun h => ho h.2)]
  generalize (l.getD j bk0).row = r at hs1 hv'
  clear hv hx0 hx1
  cases ho : (l.getD j bk0).op
  · rw [ho] at hs0 hv'
    have HE : Hid (v = -1) := hv'.symm
    clear hv' ho
    go_enter Try.func17, Try.ntmps17
    go_wp2
    go_ret
    exact ⟨ret_i HE.out.symm, HB1.out⟩
  · rw [ho] at hs0 hv'
    have HE : Hid (v = r) := hv'.symm
    clear hv' ho
    go_enter Try.func17, Try.ntmps17
    go_wp2
    go_ret
    exact ⟨ret_i HE.out.symm, HB1.out⟩



set_option maxHeartbeats 2000000 in
theorem implClosed_is (a : Option Addr) (n c : Nat) (l : List Bk) (pw : Int) (v : Bool) (hv : l.all (fun b => !b.op) = v) (hl : l.length = n) (h1 : n ≤ 4000000) (hnc : a = none → c = 0) (w : World) (hr : RowB w a l) :
    Calls Try.prog 73 #[.agg #[.slice a n c, .int .i64 pw]] w (Gives (.bool v) w) := by
  obtain ⟨w1, hw1⟩ : ∃ u, w.alloc (.cells #[.slice a n c, .int .i64 pw] 28) = u := ⟨_, rfl⟩
  have hb1 : Below w.heap.size w w1 := by subst hw1; exact (Below.refl _ _).alloc (Nat.le_refl _) _
  have p1 : w1.heap[w.heap.size]? = some (.cells #[.slice a n c, .int .i64 pw] 28) := by subst hw1; exact heap_alloc_new _ _
  obtain ⟨cp, cq⟩ := cells2 p1
  have HB1 := Lib.hid hb1
  have HR := Lib.hid (hr.below hb1)
  have HE : Hid (decide ((openF 0 l).length = 0) = v) := by show _ = _; rw [← hv, openF_none]
  clear hr hb1 hv
  go_enter Try.func73, Try.ntmps73
  go_wp2_with fail
  refine (implOpen_is _ _ _ _ _ hl h1 hnc _ HR.out).mono ?_
  rintro e w2 ⟨aa, cc, rfl, _, hb2⟩
  have HB2 : Hid (Below w.heap.size w w2) := HB1.out.trans (hb2.mono HB1.out.size)
  have hb : (((openF 0 l).length : Int) == 0) = decide ((openF 0 l).length = 0) := by
    by_cases e : (openF 0 l).length = 0
    · simp [e]
    · simp [e]
  rw [HE.out] at hb
  clear hb2
  go_wp2
  go_ret
  exact ⟨rfl, HB2.out⟩



set_option maxHeartbeats 2000000 in
theorem implPower_is (a : Option Addr) (n c : Nat) (l : List Bk) (pw : Int) (v : Bool) (hv : (if pw = 2 then l.all (fun b => !b.op) else decide (pw = 0 ∨ pw = 1)) = v) (hl : l.length = n) (h1 : n ≤ 4000000) (hnc : a = none → c = 0) (w : World) (hr : RowB w a l) :
    Calls Try.prog 49 #[.agg #[.slice a n c, .int .i64 pw]] w (Gives (.bool v) w) := by
  obtain ⟨w1, hw1⟩ : ∃ u, w.alloc (.cells #[.slice a n c, .int .i64 pw] 28) = u := ⟨_, rfl⟩
  have hb1 : Below w.heap.size w w1 := by subst hw1; exact (Below.refl _ _).alloc (Nat.le_refl _) _
  have p1 : w1.heap[w.heap.size]? = some (.cells #[.slice a n c, .int .i64 pw] 28) := by subst hw1; exact heap_alloc_new _ _
  obtain ⟨cp, cq⟩ := cells2 p1
  have HB1 := Lib.hid hb1
  have HR := Lib.hid (hr.below hb1)
  clear hr hb1
  by_cases hp2 : pw = 2
  · have t2 : (pw == 2) = true := by simp [hp2]
    rw [if_pos hp2] at hv
    have HV := Lib.hid hv
    clear hv hp2
    go_enter Try.func49, Try.ntmps49
    go_wp2_with fail
    refine (implClosed_is _ _ _ _ _ _ HV.out hl h1 hnc _ HR.out).mono ?_
    rintro e w2 ⟨rfl, hb2⟩
    have HB2 : Hid (Below w.heap.size w w2) := HB1.out.trans (hb2.mono HB1.out.size)
    clear hb2
    go_wp2
    go_ret
    exact ⟨rfl, HB2.out⟩
  · have t2 : (pw == 2) = false := by simp [hp2]
    rw [if_neg hp2] at hv
    by_cases hp0 : pw = 0
    · have t0 : (pw == 0) = true := by simp [hp0]
      have HE : Hid (v = true) := by show _ = _; rw [← hv]; exact decide_eq_true (.inl hp0)
      clear hv hp2 hp0
      go_enter Try.func49, Try.ntmps49
      go_wp2
      go_ret
      exact ⟨ret_b HE.out.symm, HB1.out⟩
    · have t0 : (pw == 0) = false := by simp [hp0]
      have HE : Hid ((pw == 1) = v) := by
        show _ = _
        rw [← hv]
        by_cases hp1 : pw = 1
        · simp [hp1]
        · simp [hp1, hp0]
      clear hv hp2 hp0
      go_enter Try.func49, Try.ntmps49
      go_wp2
      go_ret
      exact ⟨ret_b HE.out, HB1.out⟩



/-- A bank's state that fits a number of rows. -/
def FitB (rows : Int) (o : Bool) (r : Int) : Bool := if o = true then decide (0 ≤ r ∧ r < rows) else decide (r = 0)

set_option maxHeartbeats 2000000 in
theorem implFits_is (o : Bool) (r g0 B g2 g3 : Int) (v : Bool) (hv : FitB g2 o r = v) (w : World) :
    Calls Try.prog 48 #[.agg #[.bool o, .int .i64 r], .agg #[.int .i64 g0, .int .i64 B, .int .i64 g2, .int .i64 g3]] w (Gives (.bool v) w) := by
  obtain ⟨w1, hw1⟩ : ∃ u, (w.alloc (.cells #[.bool o, .int .i64 r] 39)).alloc (.cells #[.int .i64 g0, .int .i64 B, .int .i64 g2, .int .i64 g3] 25) = u := ⟨_, rfl⟩
  have HB1 : Hid (Below w.heap.size w w1) := by subst hw1; exact ((Below.refl _ _).alloc (Nat.le_refl _) _).alloc (by simp) _
  have p1 : w1.heap[w.heap.size]? = some (.cells #[.bool o, .int .i64 r] 39) := by subst hw1; exact heap_alloc2_old _ _ _
  have g1 : w1.heap[w.heap.size + 1]? = some (.cells #[.int .i64 g0, .int .i64 B, .int .i64 g2, .int .i64 g3] 25) := by subst hw1; exact heap_alloc2_new _ _ _
  obtain ⟨d0, d1⟩ := cells2 p1
  obtain ⟨c0, c1, c2, c3⟩ := cells4 g1
  cases o
  · have HE : Hid ((r == 0) = v) := by
      show _ = _
      rw [← hv]
      by_cases h : r = 0
      · simp [h, FitB]
      · simp [h, FitB]
    clear hv
    go_enter Try.func48, Try.ntmps48
    go_wp2
    go_ret
    exact ⟨ret_b HE.out, HB1.out⟩
  · by_cases h0 : 0 ≤ r
    · have t0 : decide (0 ≤ r) = true := decide_eq_true h0
      have HE : Hid (decide (r < g2) = v) := by
        show _ = _
        rw [← hv]
        by_cases h : r < g2
        · simp [h, FitB, h0]
        · simp [h, FitB]
      clear hv h0
      go_enter Try.func48, Try.ntmps48
      go_wp2
      go_ret
      exact ⟨ret_b HE.out, HB1.out⟩
    · have t0 : decide (0 ≤ r) = false := decide_eq_false h0
      have HE : Hid (v = false) := by
        show _ = _
        rw [← hv]
        simp [FitB, h0]
      clear hv h0
      go_enter Try.func48, Try.ntmps48
      go_wp2
      go_ret
      exact ⟨ret_b HE.out.symm, HB1.out⟩


end Go.Proofs.Ytigoniochamjgaa
