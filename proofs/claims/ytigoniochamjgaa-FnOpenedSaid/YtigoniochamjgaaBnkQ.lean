/-
  impl's functions of ranks: valid states, what is allowed, a copy, what a command does, the state behind it.
-/
import Derived.Test.YtigoniochamjgaaBnkP
import Derived.Test.YtigoniochamjgaaCmdK
namespace Go.Proofs.Ytigoniochamjgaa
open Go.RowKit Go.PlainAid

set_option linter.unusedVariables false


/-- Valid states, as they are found out here. -/
theorem rkOk_fits {g0 B g2 g3 : Int} {l : List Bk} {pw : Int} (hg : GeoOk g0 B g2 g3) (hn : (l.length : Int) = bankN g0 B g2 g3) :
    RkOk g0 B g2 g3 l pw ↔ (∀ j, j < l.length → FitB g2 (l.getD j bk0).op (l.getD j bk0).row = true) ∧ (if pw = 2 then l.all (fun b => !b.op) else decide (pw = 0 ∨ pw = 1)) = true := by
  have h2 := hg.2.2.1
  have hat : ∀ j (hj : j < l.length), l.getD j bk0 = l[j] := fun j hj => by rw [List.getD_eq_getElem?_getD, List.getElem?_eq_getElem hj]; rfl
  constructor
  · rintro ⟨_, _, hp, hb⟩
    refine ⟨fun j hj => ?_, ?_⟩
    · rw [hat j hj]
      obtain ⟨h1, h3, _⟩ := hb _ (List.getElem_mem hj)
      unfold FitB
      split
      · exact decide_eq_true (by omega)
      · rcases h3 with h3 | h3
        · contradiction
        · exact decide_eq_true h3
    · split
      · rename_i hp2
        rw [List.all_eq_true]
        intro b hbl
        rcases (hb b hbl).2.2 with h | h
        · simp [h]
        · exact absurd hp2 h
      · exact decide_eq_true (by omega)
  · rintro ⟨hf, hp⟩
    refine ⟨hg, hn, ?_, fun b hbl => ?_⟩
    · by_cases hp2 : pw = 2
      · omega
      · rw [if_neg hp2] at hp
        have := of_decide_eq_true hp
        omega
    · obtain ⟨j, hj, rfl⟩ := List.getElem_of_mem hbl
      have h := hf j hj
      rw [hat j hj] at h
      unfold FitB at h
      refine ⟨?_, ?_, ?_⟩
      · split at h
        · have := of_decide_eq_true h; omega
        · have := of_decide_eq_true h; omega
      · split at h
        · exact .inl (by assumption)
        · exact .inr (of_decide_eq_true h)
      · by_cases hp2 : pw = 2
        · rw [if_pos hp2, List.all_eq_true] at hp
          have := hp _ hbl
          exact .inl (by simpa using this)
        · exact .inr hp2

set_option maxHeartbeats 8000000 in
theorem implRankOk_is : IRankOk := by
  intro g0 B g2 g3 a n c l pw v hv hl h1 hnc w hr
  obtain ⟨w1, hw1⟩ : ∃ u, (w.alloc (.cells #[.int .i64 g0, .int .i64 B, .int .i64 g2, .int .i64 g3] 25)).alloc (.cells #[.slice a n c, .int .i64 pw] 28) = u := ⟨_, rfl⟩
  have hb1 : Below w.heap.size w w1 := by subst hw1; exact ((Below.refl _ _).alloc (Nat.le_refl _) _).alloc (by simp) _
  have g1 : w1.heap[w.heap.size]? = some (.cells #[.int .i64 g0, .int .i64 B, .int .i64 g2, .int .i64 g3] 25) := by subst hw1; exact heap_alloc2_old _ _ _
  have p1 : w1.heap[w.heap.size + 1]? = some (.cells #[.slice a n c, .int .i64 pw] 28) := by subst hw1; exact heap_alloc2_new _ _ _
  have HB1 := Lib.hid hb1
  have HR := Lib.hid (hr.below hb1)
  have HL := Lib.hid hl
  have HV := Lib.hid hv
  have HNC := Lib.hid hnc
  obtain ⟨c0, c1, c2, c3⟩ := cells4 g1
  obtain ⟨d0, d1⟩ := cells2 p1
  have z0 := fun q : Later w1 => q.cell c0
  have z1 := fun q : Later w1 => q.cell c1
  have z2 := fun q : Later w1 => q.cell c2
  have z3 := fun q : Later w1 => q.cell c3
  have y0 := fun q : Later w1 => q.cell d0
  have y1 := fun q : Later w1 => q.cell d1
  clear hr hv hb1 c0 c1 c2 c3 d0 d1 hnc
  obtain ⟨m, hm⟩ : ∃ m, bankN g0 B g2 g3 = m := ⟨_, rfl⟩
  have HM := Lib.hid hm
  by_cases hg : GeoOk g0 B g2 g3
  case neg =>
    have HE : Hid (v = false) := by show _ = _; rw [← HV.out]; exact decide_eq_false (fun h => hg h.1)
    have K := Lib.hid (decide_eq_false hg)
    clear hg hm
    go_enter Try.func16, Try.ntmps16
    go_wp2_with fail
    refine wp_region_later (by kernel_rfl) (by kernel_rfl) ?_
    repeat (go_big_quiet_step ((go_at_call 46; exact Gives.later _ (implGeoOk_is _ _ _ _ _ K.out _))))
    refine wpQuiet_nil ?_
    rintro w2 ⟨zz, hz⟩
    have HB2 : Hid (Below w.heap.size w w2) := HB1.out.trans ((hz ▸ zz.ok : Below w1.heap.size w1 w2).mono HB1.out.size)
    go_wp2
    go_ret
    exact ⟨ret_b HE.out.symm, HB2.out⟩
  have K := Lib.hid (decide_eq_true hg)
  have HG := Lib.hid hg
  by_cases hnm : (n : Int) = m
  case neg =>
    have HE : Hid (v = false) := by show _ = _; rw [← HV.out]; exact decide_eq_false (fun h => hnm (by rw [← HL.out, ← HM.out]; exact h.2.1))
    have t1 : ((n : Int) != m) = true := by simp [hnm]
    clear hg hm hnm
    go_enter Try.func16, Try.ntmps16
    go_wp2_with fail
    refine wp_region_later (by kernel_rfl) (by kernel_rfl) ?_
    repeat (go_big_quiet_step (first | (go_at_call 46; exact Gives.later _ (implGeoOk_is _ _ _ _ _ K.out _)) | (go_at_call 47; exact Gives.later _ (implBank_is _ _ _ _ _ HM.out _))))
    refine wpQuiet_nil ?_
    rintro w2 ⟨zz, hz⟩
    have HB2 : Hid (Below w.heap.size w w2) := HB1.out.trans ((hz ▸ zz.ok : Below w1.heap.size w1 w2).mono HB1.out.size)
    go_wp2
    go_ret
    exact ⟨ret_b HE.out.symm, HB2.out⟩
  have t1 : ((n : Int) != m) = false := by simp [hnm]
  have HNM := Lib.hid hnm
  have HIFF := Lib.hid (rkOk_fits (l := l) (pw := pw) hg (by rw [HL.out, HM.out]; exact hnm))
  clear hg hm hnm
  go_enter Try.func16, Try.ntmps16
  go_wp2_with fail
  refine wp_region_later (by kernel_rfl) (by kernel_rfl) ?_
  repeat (go_big_quiet_step (first | (go_at_call 46; exact Gives.later _ (implGeoOk_is _ _ _ _ _ K.out _)) | (go_at_call 47; exact Gives.later _ (implBank_is _ _ _ _ _ HM.out _))))
  refine wpQuiet_nil ?_
  rintro w2 ⟨zz, hz⟩
  have hb2 : Below w1.heap.size w1 w2 := hz ▸ zz.ok
  have g2' := keep_block hb2 g1 (lt_of_block g1)
  have p2 := keep_block hb2 p1 (lt_of_block p1)
  have HB2 : Hid (Below w.heap.size w w2) := HB1.out.trans (hb2.mono HB1.out.size)
  have HR2 := Lib.hid (HR.out.below hb2)
  obtain ⟨d0, d1⟩ := cells2 p2
  clear z0 z1 z2 z3 y0 y1 hz zz hb2 hw1 g1 p1 HB1 HR t1 K
  go_wp2_with fail
  clear d0 d1
  go_loopw [21] (fun i wr => ∃ k : Nat, k ≤ n ∧ i = .int .i64 k ∧ (∀ j, j < k → FitB g2 (l.getD j bk0).op (l.getD j bk0).row = true) ∧ Below w2.heap.size w2 wr) (fun i _ => n - (intOf i).toNat)
  case atStart => exact ⟨0, Nat.zero_le _, rfl, fun j hj => absurd hj (Nat.not_lt_zero _), Below.refl _ _⟩
  case round =>
    obtain ⟨k, hk, rfl, hall, hbr⟩ := hrel
    have HALL := Lib.hid hall
    have HBR := Lib.hid hbr
    have HBW : Hid (Below w.heap.size w wr) := HB2.out.trans (hbr.mono HB2.out.size)
    have g3' := keep_block hbr g2' (lt_of_block g2')
    have p3 := keep_block hbr p2 (lt_of_block p2)
    clear hall hbr
    by_cases hlt : k < n
    · obtain ⟨bb, off, rfl, hs0, hs1⟩ := (HR2.out.below HBR.out).at (k := k) (by rw [HL.out]; exact hlt)
      have NO : Hid (FitB g2 (l.getD k bk0).op (l.getD k bk0).row = false → v = false) := fun h => by
        rw [← HV.out]
        refine decide_eq_false (fun hh => ?_)
        have := (HIFF.out.1 hh).1 k (by rw [HL.out]; exact hlt)
        rw [h] at this
        cases this
      have YES : Hid (FitB g2 (l.getD k bk0).op (l.getD k bk0).row = true → ∀ j, j < k + 1 → FitB g2 (l.getD j bk0).op (l.getD j bk0).row = true) := fun h j hj => by
        by_cases e : j = k
        · rw [e]; exact h
        · exact HALL.out j (by omega)
      generalize (l.getD k bk0).op = o at hs0 NO YES
      generalize (l.getD k bk0).row = r at hs1 NO YES
      obtain ⟨wn, hwn⟩ : ∃ u, wr.alloc (.cells #[.bool o, .int .i64 r] 39) = u := ⟨_, rfl⟩
      have hbn : Below wr.heap.size wr wn := by subst hwn; exact (Below.refl _ _).alloc (Nat.le_refl _) _
      have q4 : wn.heap[wr.heap.size]? = some (.cells #[.bool o, .int .i64 r] 39) := by subst hwn; exact heap_alloc_new _ _
      have g4 := keep_block hbn g3' (lt_of_block g3')
      obtain ⟨x0, x1⟩ := cells2 q4
      obtain ⟨c0, c1, c2, c3⟩ := cells4 g4
      have HBN : Hid (Below w2.heap.size w2 wn) := HBR.out.trans (hbn.mono HBR.out.size)
      have HBV : Hid (Below w.heap.size w wn) := HBW.out.trans (hbn.mono HBW.out.size)
      clear hbn
      obtain ⟨u, hu⟩ : ∃ u, FitB g2 o r = u := ⟨_, rfl⟩
      have HU := Lib.hid hu
      rw [hu] at NO YES
      clear hu
      go_wp2_with fail
      refine (implFits_is _ _ _ _ _ _ _ HU.out _).mono ?_
      rintro e w5 ⟨rfl, hb5⟩
      have HB5 : Hid (Below w2.heap.size w2 w5) := HBN.out.trans (hb5.mono HBN.out.size)
      have HB6 : Hid (Below w.heap.size w w5) := HBV.out.trans (hb5.mono HBV.out.size)
      clear hb5 HU
      cases u
      · have HE := Lib.hid (NO.out rfl)
        go_wp2
        go_ret
        exact ⟨ret_b HE.out.symm, HB6.out⟩
      · have OK := Lib.hid (YES.out rfl)
        go_wp2_with fail
        go_roundw
        case rel => exact ⟨k + 1, by omega, by go_num, OK.out, HB5.out⟩
        case measure => simp [intOf]; omega
    · obtain rfl : k = n := by omega
      obtain ⟨u, hu⟩ : ∃ u, (if pw = 2 then l.all (fun b => !b.op) else decide (pw = 0 ∨ pw = 1)) = u := ⟨_, rfl⟩
      have HU := Lib.hid hu
      have HE : Hid (u = v) := by
        show _ = _
        rw [← HV.out, ← hu, Bool.eq_iff_iff, decide_eq_true_iff]
        exact ⟨fun h => HIFF.out.2 ⟨fun j hj => HALL.out j (by rw [← HL.out]; exact hj), h⟩, fun h => (HIFF.out.1 h).2⟩
      obtain ⟨d0, d1⟩ := cells2 p3
      have HR3 := Lib.hid (HR2.out.below HBR.out)
      clear hu
      go_wp2_with fail
      refine (implPower_is _ _ _ _ _ _ HU.out HL.out h1 HNC.out _ HR3.out).mono ?_
      rintro e w5 ⟨rfl, hb5⟩
      have HB6 : Hid (Below w.heap.size w w5) := HBW.out.trans (hb5.mono HBW.out.size)
      clear hb5
      go_wp2
      go_ret
      exact ⟨ret_b HE.out, HB6.out⟩



/-- What the banks allow, apart from the power. -/
def banksR (l : List Bk) (k x : Int) : Bool :=
  if k = 1 ∨ k = 5 then !(l.getD x.toNat bk0).op
  else if k = 2 ∨ k = 3 ∨ k = 4 then (l.getD x.toNat bk0).op
  else if k = 8 then l.all (fun b => !b.op)
  else decide (k = 6)

theorem banks_kind {k : Int} (h : 1 ≤ k ∧ k ≤ 9) (h7 : k ≠ 7) (h9 : k ≠ 9) : (k = 1 ∨ k = 2 ∨ k = 3 ∨ k = 4 ∨ k = 5) ∨ k = 6 ∨ k = 8 := by omega

set_option maxHeartbeats 8000000 in
theorem implBanksAllow_is (a : Option Addr) (n c : Nat) (l : List Bk) (pw k x y z : Int) (v : Bool) (hv : banksR l k x = v) (hk : 1 ≤ k ∧ k ≤ 9) (h7 : k ≠ 7) (h9 : k ≠ 9) (hx : k ≤ 5 → 0 ≤ x ∧ x < (n : Int)) (hl : l.length = n) (h1 : n ≤ 4000000) (hnc : a = none → c = 0) (w : World) (hr : RowB w a l) :
    Calls Try.prog 71 #[.agg #[.slice a n c, .int .i64 pw], .agg #[.int .i64 k, .int .i64 x, .int .i64 y, .int .i64 z]] w (Gives (.bool v) w) := by
  obtain ⟨w1, hw1⟩ : ∃ u, (w.alloc (.cells #[.slice a n c, .int .i64 pw] 28)).alloc (.cells #[.int .i64 k, .int .i64 x, .int .i64 y, .int .i64 z] 30) = u := ⟨_, rfl⟩
  have hb1 : Below w.heap.size w w1 := by subst hw1; exact ((Below.refl _ _).alloc (Nat.le_refl _) _).alloc (by simp) _
  have g1 : w1.heap[w.heap.size]? = some (.cells #[.slice a n c, .int .i64 pw] 28) := by subst hw1; exact heap_alloc2_old _ _ _
  have p1 : w1.heap[w.heap.size + 1]? = some (.cells #[.int .i64 k, .int .i64 x, .int .i64 y, .int .i64 z] 30) := by subst hw1; exact heap_alloc2_new _ _ _
  obtain ⟨d0, d1⟩ := cells2 g1
  obtain ⟨e0, e1, e2, e3⟩ := cells4 p1
  have HB1 := Lib.hid hb1
  have HR := Lib.hid (hr.below hb1)
  have HL := Lib.hid hl
  clear hr hb1 g1 p1
  rcases banks_kind hk h7 h9 with h5 | rfl | rfl
  · obtain ⟨hx0, hx1⟩ := hx (by omega)
    obtain ⟨j, rfl⟩ := Int.eq_ofNat_of_zero_le hx0
    have hj : j < n := by omega
    obtain ⟨bb, off, rfl, hs0, hs1⟩ := HR.out.at (k := j) (by omega)
    have hv' : (if k = 1 ∨ k = 5 then !(l.getD j bk0).op else (l.getD j bk0).op) = v := by
      rw [← hv]
      unfold banksR
      rw [Int.toNat_natCast]
      by_cases e1 : k = 1 ∨ k = 5
      · rw [if_pos e1, if_pos e1]
      · rw [if_neg e1, if_neg e1, if_pos (by omega)]
    generalize (l.getD j bk0).op = o at hs0 hv'
    clear hv hx hk h7 h9 hx0 hx1
    rcases h5 with rfl | rfl | rfl | rfl | rfl
    all_goals (cases o <;> (subst hv'; go_enter Try.func71, Try.ntmps71; go_wp2; go_ret; exact ⟨rfl, HB1.out⟩))
  · have HE : Hid (v = true) := by show _ = _; rw [← hv]; rfl
    clear hv hx hk h7 h9
    go_enter Try.func71, Try.ntmps71
    go_wp2
    go_ret
    exact ⟨ret_b HE.out.symm, HB1.out⟩
  · have HE : Hid (l.all (fun b => !b.op) = v) := by show _ = _; rw [← hv]; rfl
    clear hv hx hk h7 h9
    go_enter Try.func71, Try.ntmps71
    go_wp2_with fail
    refine (implClosed_is _ _ _ _ _ _ HE.out hl h1 hnc _ HR.out).mono ?_
    rintro e w2 ⟨rfl, hb2⟩
    have HB2 : Hid (Below w.heap.size w w2) := HB1.out.trans (hb2.mono HB1.out.size)
    clear hb2
    go_wp2
    go_ret
    exact ⟨rfl, HB2.out⟩



theorem mayR_banks {l : List Bk} {pw k x : Int} (hk : 1 ≤ k ∧ k ≤ 9) (h7 : k ≠ 7) (h9 : k ≠ 9) : mayR l pw k x = (decide (pw = 0) && banksR l k x) := by
  rcases banks_kind hk h7 h9 with (rfl | rfl | rfl | rfl | rfl) | rfl | rfl <;> simp [mayR, banksR]

set_option maxHeartbeats 8000000 in
theorem implAllows_is (a : Option Addr) (n c : Nat) (l : List Bk) (pw k x y z : Int) (v : Bool) (hv : mayR l pw k x = v) (hk : 1 ≤ k ∧ k ≤ 9) (hx : k ≤ 5 → 0 ≤ x ∧ x < (n : Int)) (hl : l.length = n) (h1 : n ≤ 4000000) (hnc : a = none → c = 0) (w : World) (hr : RowB w a l) :
    Calls Try.prog 44 #[.agg #[.slice a n c, .int .i64 pw], .agg #[.int .i64 k, .int .i64 x, .int .i64 y, .int .i64 z]] w (Gives (.bool v) w) := by
  obtain ⟨w1, hw1⟩ : ∃ u, (w.alloc (.cells #[.slice a n c, .int .i64 pw] 28)).alloc (.cells #[.int .i64 k, .int .i64 x, .int .i64 y, .int .i64 z] 30) = u := ⟨_, rfl⟩
  have hb1 : Below w.heap.size w w1 := by subst hw1; exact ((Below.refl _ _).alloc (Nat.le_refl _) _).alloc (by simp) _
  have g1 : w1.heap[w.heap.size]? = some (.cells #[.slice a n c, .int .i64 pw] 28) := by subst hw1; exact heap_alloc2_old _ _ _
  have p1 : w1.heap[w.heap.size + 1]? = some (.cells #[.int .i64 k, .int .i64 x, .int .i64 y, .int .i64 z] 30) := by subst hw1; exact heap_alloc2_new _ _ _
  obtain ⟨d0, d1⟩ := cells2 g1
  obtain ⟨e0, e1, e2, e3⟩ := cells4 p1
  have HB1 := Lib.hid hb1
  have HR := Lib.hid (hr.below hb1)
  clear hr hb1 g1 p1
  by_cases h7 : k = 7
  · subst h7
    have HE : Hid ((pw == 1) = v) := by show _ = _; rw [← hv]; simp [mayR]; rfl
    clear hv hk hx
    go_enter Try.func44, Try.ntmps44
    go_wp2
    go_ret
    exact ⟨ret_b HE.out, HB1.out⟩
  by_cases h9 : k = 9
  · subst h9
    have HE : Hid ((pw == 2) = v) := by show _ = _; rw [← hv]; simp [mayR]; rfl
    clear hv hk hx h7
    go_enter Try.func44, Try.ntmps44
    go_wp2
    go_ret
    exact ⟨ret_b HE.out, HB1.out⟩
  have t7 : (k == 7) = false := by simp [h7]
  have t9 : (k == 9) = false := by simp [h9]
  rw [mayR_banks hk h7 h9] at hv
  have HK := Lib.hid hk
  have HX := Lib.hid hx
  have H7 := Lib.hid h7
  have H9 := Lib.hid h9
  clear hk hx h7 h9
  by_cases hp : pw = 0
  · have tp : (pw == 0) = true := by simp [hp]
    have HE : Hid (banksR l k x = v) := by show _ = _; rw [← hv]; simp [hp]
    clear hv hp
    go_enter Try.func44, Try.ntmps44
    go_wp2_with fail
    refine (implBanksAllow_is _ _ _ _ _ _ _ _ _ _ HE.out HK.out H7.out H9.out HX.out hl h1 hnc _ HR.out).mono ?_
    rintro e w2 ⟨rfl, hb2⟩
    have HB2 : Hid (Below w.heap.size w w2) := HB1.out.trans (hb2.mono HB1.out.size)
    clear hb2
    go_wp2
    go_ret
    exact ⟨rfl, HB2.out⟩
  · have tp : (pw == 0) = false := by simp [hp]
    have HE : Hid (false = v) := by show _ = _; rw [← hv]; simp [hp]
    clear hv hp
    go_enter Try.func44, Try.ntmps44
    go_wp2
    go_ret
    exact ⟨ret_b HE.out, HB1.out⟩



set_option maxHeartbeats 4000000 in
theorem implAllowed_is : IAllowed := by
  intro g0 B g2 g3 a n c l pw k x y z v hv hl h1 hnc w hr
  obtain ⟨w1, hw1⟩ : ∃ u, ((w.alloc (.cells #[.int .i64 g0, .int .i64 B, .int .i64 g2, .int .i64 g3] 25)).alloc (.cells #[.slice a n c, .int .i64 pw] 28)).alloc (.cells #[.int .i64 k, .int .i64 x, .int .i64 y, .int .i64 z] 30) = u := ⟨_, rfl⟩
  have hb1 : Below w.heap.size w w1 := by subst hw1; exact (((Below.refl _ _).alloc (Nat.le_refl _) _).alloc (by simp) _).alloc (by simp; omega) _
  have g1 : w1.heap[w.heap.size]? = some (.cells #[.int .i64 g0, .int .i64 B, .int .i64 g2, .int .i64 g3] 25) := by subst hw1; exact box3_0 _ _ _ _
  have p1 : w1.heap[w.heap.size + 1]? = some (.cells #[.slice a n c, .int .i64 pw] 28) := by subst hw1; exact box3_1 _ _ _ _
  have q1 : w1.heap[w.heap.size + 1 + 1]? = some (.cells #[.int .i64 k, .int .i64 x, .int .i64 y, .int .i64 z] 30) := by subst hw1; exact box3_2 _ _ _ _
  obtain ⟨c0, c1, c2, c3⟩ := cells4 g1
  obtain ⟨d0, d1⟩ := cells2 p1
  obtain ⟨e0, e1, e2, e3⟩ := cells4 q1
  have HB1 := Lib.hid hb1
  have HR := Lib.hid (hr.below hb1)
  clear hr hb1
  by_cases hR : RkOk g0 B g2 g3 l pw
  case neg =>
    have HE : Hid (v = false) := by show _ = _; rw [← hv]; unfold allowR; rw [decide_eq_false (fun h => hR h.1)]; rfl
    have K := Lib.hid (decide_eq_false hR)
    clear hv hR
    go_enter Try.func14, Try.ntmps14
    go_wp2_with fail
    refine (implRankOk_is _ _ _ _ _ _ _ _ _ _ K.out hl h1 hnc _ HR.out).mono ?_
    rintro e w2 ⟨rfl, hb2⟩
    have HB2 : Hid (Below w.heap.size w w2) := HB1.out.trans (hb2.mono HB1.out.size)
    clear hb2
    go_wp2
    go_ret
    exact ⟨ret_b HE.out.symm, HB2.out⟩
  have K := Lib.hid (decide_eq_true hR)
  by_cases hC : CmOk k x y z ∧ AdOk g0 B g2 g3 x y z
  case neg =>
    have HE : Hid (v = false) := by show _ = _; rw [← hv]; unfold allowR; rw [decide_eq_false (fun h => hC h.2)]; rfl
    have KC := Lib.hid (decide_eq_false hC)
    clear hv hR hC
    go_enter Try.func14, Try.ntmps14
    go_wp2_with fail
    refine (implRankOk_is _ _ _ _ _ _ _ _ _ _ K.out hl h1 hnc _ HR.out).mono ?_
    rintro e w2 ⟨rfl, hb2⟩
    have g2' := keep_block hb2 g1 (lt_of_block g1)
    have q2 := keep_block hb2 q1 (lt_of_block q1)
    have HB2 : Hid (Below w.heap.size w w2) := HB1.out.trans (hb2.mono HB1.out.size)
    clear hb2 c0 c1 c2 c3 d0 d1 e0 e1 e2 e3
    obtain ⟨c0, c1, c2, c3⟩ := cells4 g2'
    obtain ⟨e0, e1, e2, e3⟩ := cells4 q2
    go_wp2_with fail
    refine (implCommandOk_is _ _ _ _ _ _ _ _ _ KC.out _).mono ?_
    rintro e w3 ⟨rfl, hb3⟩
    have HB3 : Hid (Below w.heap.size w w3) := HB2.out.trans (hb3.mono HB2.out.size)
    clear hb3
    go_wp2
    go_ret
    exact ⟨ret_b HE.out.symm, HB3.out⟩
  have KC := Lib.hid (decide_eq_true hC)
  have HE : Hid (mayR l pw k x = v) := by show _ = _; rw [← hv]; unfold allowR; rw [decide_eq_true ⟨hR, hC⟩]; rfl
  have hkk := hC.1.1
  have hxx : Hid (0 ≤ x ∧ x < (n : Int)) := bank_in (k := k) hl hR hC.2
  clear hv hR hC
  go_enter Try.func14, Try.ntmps14
  go_wp2_with fail
  refine (implRankOk_is _ _ _ _ _ _ _ _ _ _ K.out hl h1 hnc _ HR.out).mono ?_
  rintro e w2 ⟨rfl, hb2⟩
  have g2' := keep_block hb2 g1 (lt_of_block g1)
  have p2 := keep_block hb2 p1 (lt_of_block p1)
  have q2 := keep_block hb2 q1 (lt_of_block q1)
  have HB2 : Hid (Below w.heap.size w w2) := HB1.out.trans (hb2.mono HB1.out.size)
  have HR2 := Lib.hid (HR.out.below hb2)
  clear hb2 c0 c1 c2 c3 d0 d1 e0 e1 e2 e3
  obtain ⟨c0, c1, c2, c3⟩ := cells4 g2'
  obtain ⟨e0, e1, e2, e3⟩ := cells4 q2
  go_wp2_with fail
  refine (implCommandOk_is _ _ _ _ _ _ _ _ _ KC.out _).mono ?_
  rintro e w3 ⟨rfl, hb3⟩
  have p3 := keep_block hb3 p2 (lt_of_block p2)
  have q3 := keep_block hb3 q2 (lt_of_block q2)
  have HB3 : Hid (Below w.heap.size w w3) := HB2.out.trans (hb3.mono HB2.out.size)
  have HR3 := Lib.hid (HR2.out.below hb3)
  clear hb3 c0 c1 c2 c3 e0 e1 e2 e3
  obtain ⟨d0, d1⟩ := cells2 p3
  obtain ⟨e0, e1, e2, e3⟩ := cells4 q3
  go_wp2_with fail
  refine (implAllows_is _ _ _ _ _ _ _ _ _ _ HE.out hkk (fun _ => hxx.out) hl h1 hnc _ HR3.out).mono ?_
  rintro e w4 ⟨rfl, hb4⟩
  have HB4 : Hid (Below w.heap.size w w4) := HB3.out.trans (hb4.mono HB3.out.size)
  clear hb4
  go_wp2
  go_ret
  exact ⟨rfl, HB4.out⟩


end Go.Proofs.Ytigoniochamjgaa
