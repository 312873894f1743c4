/-
  The model's functions of ranks: new, open banks, a bank's row, valid states, what is allowed.
-/
import Derived.Test.YtihhcnckoeaihaaBnkX
import Derived.Test.YtihhcnckoeaihaaCmdW2
namespace Go.Proofs.Ytihhcnckoeaihaa
open Go.RowKit Go.PlainAid

set_option linter.unusedVariables false

set_option maxHeartbeats 2000000 in
theorem specRankNew_is (g0 B g2 g3 : Int) (n : Nat) (hn : bankN g0 B g2 g3 = (n : Int)) (w : World) :
    Calls Try.prog 26 #[.agg #[.int .i64 g0, .int .i64 B, .int .i64 g2, .int .i64 g3]] w (GivesK n (List.replicate n bk0) 0 w) := by
  have hr := bankN_range g0 B g2 g3
  have hn8 : n ≤ 8 := by omega
  obtain ⟨i0, hi, hz0, hz1, hz2⟩ := info_parts infoK
  obtain ⟨w1, hw1⟩ : ∃ u, (w.alloc (.cells #[.int .i64 g0, .int .i64 B, .int .i64 g2, .int .i64 g3] 30)).alloc (.cells #[.slice none 0 0, .int .i64 0] 40) = u := ⟨_, rfl⟩
  have HB1 : Hid (Below w.heap.size w w1) := by subst hw1; exact ((Below.refl _ _).alloc (Nat.le_refl _) _).alloc (by simp) _
  have g1 : w1.heap[w.heap.size]? = some (.cells #[.int .i64 g0, .int .i64 B, .int .i64 g2, .int .i64 g3] 30) := by subst hw1; exact heap_alloc2_old _ _ _
  have p1 : w1.heap[w.heap.size + 1]? = some (.cells #[.slice none 0 0, .int .i64 0] 40) := by subst hw1; exact heap_alloc2_new _ _ _
  have HS1 : Hid (w.heap.size + 1 < w1.heap.size) := lt_of_block p1
  obtain ⟨c0, c1, c2, c3⟩ := cells4 g1
  have HN := Lib.hid hn
  clear hr hn
  go_enter Try.func26, Try.ntmps26
  go_wp2_with fail
  refine (specBank_is _ _ _ _ _ HN.out _).mono ?_
  rintro e w2 ⟨rfl, hb2⟩
  have p2 := keep_block hb2 p1 (lt_of_block p1)
  have HB2 : Hid (Below w.heap.size w w2) := HB1.out.trans (hb2.mono HB1.out.size)
  have HS2 : Hid (w1.heap.size ≤ w2.heap.size) := hb2.size
  clear hb2 c0 c1 c2 c3 hw1 g1 p1 HB1
  go_wp2_with (at_make; refine wpList_make_full _ rfl _ _ 38 rfl w1.heap.size 82 i0 (.agg #[.bool false, .int .i64 0]) 2 Try.underlying38 hi hz0 hz1 _ _ _ _ n rfl rfl rfl rfl (by rw [hz2]; omega) (by unfold maxLen; omega) HS2.out ?_)
  intro w3 hown hgr
  have hb3 : Below w2.heap.size w2 w3 := (Below.refl _ _).grown hgr (Nat.le_refl _) (fun k hk => by cases hk)
  have HO3 : Hid (OwnK w1.heap.size (.slice (some ⟨w2.heap.size, 0, none⟩) n n) (List.replicate n bk0) w3) := by
    show World.ownsRow _ _ _ _ _ _ _
    rw [made_bank] at hown
    rw [List.length_replicate]
    exact hown
  have p3 := keep_block hb3 p2 (lt_of_block p2)
  have HB3 : Hid (Below w.heap.size w w3) := HB2.out.trans (hb3.mono HB2.out.size)
  obtain ⟨x0, x1⟩ := cells2 p3
  have f0 := thawed p3 0
  have f1 := thawed p3 1
  clear hgr hown hb3 p2 HB2
  go_wp2_with fail
  (try simp only [Exit.inBlock, Exit.then])
  refine bodyPost_ret (v := .agg #[.slice (some ⟨w2.heap.size, 0, none⟩) n n, .int .i64 0]) (by simp [results, Try.results26, go_sem, x0, x1]) rfl ⟨_, _, rfl, ?_, ?_⟩
  · have hs := HS1.out
    refine OwnK.mono (B := w1.heap.size) ?_ (by omega)
    have hlo := HO3.out.lo
    repeat' (first | exact HO3.out | refine OwnK.setCell ?_ (fun x hx => by have := hlo x hx; simp; omega) _)
  · repeat' (first | exact HB3.out | refine Below.drew ?_ | refine Below.setCell ?_ (by simp <;> omega) _)

set_option maxHeartbeats 4000000 in
theorem specOpen_is (a : Option Addr) (n c : Nat) (l : List Bk) (pw : Int) (hl : l.length = n) (h1 : n ≤ 4000000) (w : World) (hr : RowB w a l) :
    Calls Try.prog 48 #[.agg #[.slice a n c, .int .i64 pw]] w (GivesI (openF 0 l) w) := by
  obtain ⟨i0, hi, hz0, hz1, hz2⟩ := info_parts infoI
  obtain ⟨w1, hw1⟩ : ∃ u, w.alloc (.cells #[.slice a n c, .int .i64 pw] 40) = u := ⟨_, rfl⟩
  have hb1 : Below w.heap.size w w1 := by subst hw1; exact (Below.refl _ _).alloc (Nat.le_refl _) _
  have p1 : w1.heap[w.heap.size]? = some (.cells #[.slice a n c, .int .i64 pw] 40) := by subst hw1; exact heap_alloc_new _ _
  have HS1 : Hid (w.heap.size < w1.heap.size) := lt_of_block p1
  have HB1 := Lib.hid hb1
  have HR := Lib.hid (hr.below hb1)
  have HL := Lib.hid hl
  clear hr hl hb1
  go_enter Try.func48, Try.ntmps48
  go_wp2_with fail
  go_loopw [3, 4] (fun v i wr => ∃ k : Nat, k ≤ n ∧ i = .int .i64 k ∧ OwnI w1.heap.size v (openF 0 (l.take k)) wr ∧ Below w1.heap.size w1 wr) (fun _ i _ => n - (intOf i).toNat)
  case atStart => exact ⟨0, Nat.zero_le _, rfl, World.ownsRow_made w1 #[] 0 (Nat.le_refl _) (by decide) rfl, (Below.refl _ _).alloc (Nat.le_refl _) _⟩
  case round =>
    obtain ⟨k, hk, rfl, hown, hbr⟩ := hrel
    have HO := Lib.hid hown
    have HBR := Lib.hid hbr
    have p2 := keep_block hbr p1 (lt_of_block p1)
    obtain ⟨cp, cq⟩ := cells2 p2
    clear hown hbr
    by_cases hlt : k < n
    · obtain ⟨bb, off, rfl, hs0, hs1⟩ := (HR.out.below HBR.out).at (k := k) (by rw [HL.out]; exact hlt)
      have HST := Lib.hid (openF_step (l := l) (k := k) (by rw [HL.out]; exact hlt))
      have hll : (openF 0 (l.take k)).length ≤ n := Nat.le_trans (openF_length _ _) (by rw [List.length_take, HL.out]; omega)
      clear hs1
      cases ho : (l.getD k bk0).op
      · rw [ho] at hs0 HST
        clear ho
        have HST2 : Hid (openF 0 (l.take (k + 1)) = openF 0 (l.take k)) := by show _ = _; rw [HST.out]; rfl
        go_wp2_with fail
        go_roundw
        case rel => exact ⟨k + 1, by omega, by go_num, by rw [HST2.out]; exact HO.out, HBR.out⟩
        case measure => simp [intOf]; omega
      · rw [ho] at hs0 HST
        clear ho
        have HST2 : Hid (openF 0 (l.take (k + 1)) = openF 0 (l.take k) ++ [(k : Int)]) := by show _ = _; rw [HST.out]; rfl
        have own7 := HO.out
        have hbs := HBR.out.size
        clear HO
        go_wp2_with (at_builtin; refine wpList_append_own _ rfl _ _ 47 rfl w1.heap.size 3 i0 (.int .i64 0) 1 8 Try.underlying47 hi hz0 hz1 hz2 rfl (by decide) _ _ _ rfl (World.ownsRow.alloc own7 _) ⟨wr.heap.size, 0, none⟩ 1 1 [.int .i64 (k : Int)] rfl rfl (cell_one_new _ _ _) (by intro u hu; simp at hu; subst hu; rfl) (by unfold maxLen; omega) (by omega) (by rw [World.size_alloc]; omega) ?_)
        intro v' w8 hown8 hgrow _
        have R : Hid (OwnI w1.heap.size v' (openF 0 (l.take (k + 1))) w8) := by
          have := ownI_more hown8
          rw [← HST2.out] at this
          exact this
        have hrow : ∀ j, Value.ownBlock u3 = some j → w1.heap.size ≤ j := fun j hj => (World.ownsRow.lt own7 j hj).1
        have hb8 : Below w1.heap.size wr w8 := ((Below.refl w1.heap.size wr).alloc (by omega) _).grown hgrow (by rw [World.size_alloc]; omega) hrow
        have HB8 : Hid (Below w1.heap.size w1 w8) := HBR.out.trans hb8
        clear hb8 hown8 hgrow own7 hrow HBR
        go_wp2_with fail
        go_roundw
        case rel => exact ⟨k + 1, by omega, by go_num, R.out, HB8.out⟩
        case measure => simp [intOf]; omega
    · obtain rfl : k = n := by omega
      have hO := HO.out
      rw [List.take_of_length_le (by rw [HL.out]; exact Nat.le_refl _)] at hO
      obtain ⟨aa, cc, hv⟩ := hO.shape
      have HO2 := Lib.hid hO
      have HV := Lib.hid hv
      clear hO hv
      go_wp2_with fail
      go_ret
      refine ⟨aa, cc, by first | rfl | (rw [HV.out]; rfl), ?_, HB1.out.trans (HBR.out.mono HB1.out.size)⟩
      have := HO2.out.mono (C := w.heap.size) HB1.out.size
      rw [HV.out] at this
      exact this

theorem rkOk_no {g0 B g2 g3 : Int} {l : List Bk} {pw : Int} {k : Nat} (hk : k < l.length) (h : ¬ BkOk g2 pw (l.getD k bk0)) : ¬ RkOk g0 B g2 g3 l pw := fun hh => h (by
  have := hh.2.2.2 (l[k]) (List.getElem_mem _)
  rwa [List.getD_eq_getElem?_getD, List.getElem?_eq_getElem hk])

set_option maxHeartbeats 8000000 in
theorem specRankOk_is (g0 B g2 g3 : Int) (a : Option Addr) (n c : Nat) (l : List Bk) (pw : Int) (v : Bool) (hv : decide (RkOk g0 B g2 g3 l pw) = v) (hl : l.length = n) (h1 : n ≤ 4000000) (w : World) (hr : RowB w a l) :
    Calls Try.prog 75 #[.agg #[.int .i64 g0, .int .i64 B, .int .i64 g2, .int .i64 g3], .agg #[.slice a n c, .int .i64 pw]] w (Gives (.bool v) w) := by
  obtain ⟨w1, hw1⟩ : ∃ u, (w.alloc (.cells #[.int .i64 g0, .int .i64 B, .int .i64 g2, .int .i64 g3] 30)).alloc (.cells #[.slice a n c, .int .i64 pw] 40) = u := ⟨_, rfl⟩
  have hb1 : Below w.heap.size w w1 := by subst hw1; exact ((Below.refl _ _).alloc (Nat.le_refl _) _).alloc (by simp) _
  have g1 : w1.heap[w.heap.size]? = some (.cells #[.int .i64 g0, .int .i64 B, .int .i64 g2, .int .i64 g3] 30) := by subst hw1; exact heap_alloc2_old _ _ _
  have p1 : w1.heap[w.heap.size + 1]? = some (.cells #[.slice a n c, .int .i64 pw] 40) := by subst hw1; exact heap_alloc2_new _ _ _
  have HB1 := Lib.hid hb1
  have HR := Lib.hid (hr.below hb1)
  have HL := Lib.hid hl
  have HV := Lib.hid hv
  obtain ⟨c0, c1, c2, c3⟩ := cells4 g1
  obtain ⟨d0, d1⟩ := cells2 p1
  have z0 := fun q : Later w1 => q.cell c0
  have z1 := fun q : Later w1 => q.cell c1
  have z2 := fun q : Later w1 => q.cell c2
  have z3 := fun q : Later w1 => q.cell c3
  have y0 := fun q : Later w1 => q.cell d0
  have y1 := fun q : Later w1 => q.cell d1
  clear hr hv hb1 c0 c1 c2 c3 d0 d1
  obtain ⟨m, hm⟩ : ∃ m, bankN g0 B g2 g3 = m := ⟨_, rfl⟩
  have HM := Lib.hid hm
  by_cases hg : GeoOk g0 B g2 g3
  case neg =>
    have HE : Hid (v = false) := by show _ = _; rw [← HV.out]; exact decide_eq_false (fun h => hg h.1)
    have K := Lib.hid (decide_eq_false hg)
    clear hg hm
    go_enter Try.func75, Try.ntmps75
    go_wp2_with fail
    refine wp_region_later (by kernel_rfl) (by kernel_rfl) ?_
    repeat (go_big_quiet_step ((go_at_call 24; exact Gives.later _ (specGeoOk_is _ _ _ _ _ K.out _))))
    refine wpQuiet_nil ?_
    rintro w2 ⟨zz, hz⟩
    have HB2 : Hid (Below w.heap.size w w2) := HB1.out.trans ((hz ▸ zz.ok : Below w1.heap.size w1 w2).mono HB1.out.size)
    go_wp2
    go_ret
    exact ⟨ret_b HE.out.symm, HB2.out⟩
  have K := Lib.hid (decide_eq_true hg)
  have HG := Lib.hid hg
  by_cases hnm : (n : Int) = m
  case neg =>
    have HE : Hid (v = false) := by show _ = _; rw [← HV.out]; exact decide_eq_false (fun h => hnm (by rw [← HL.out, ← HM.out]; exact h.2.1))
    have t1 : ((n : Int) != m) = true := by simp [hnm]
    clear hg hm hnm
    go_enter Try.func75, Try.ntmps75
    go_wp2_with fail
    refine wp_region_later (by kernel_rfl) (by kernel_rfl) ?_
    repeat (go_big_quiet_step (first | (go_at_call 24; exact Gives.later _ (specGeoOk_is _ _ _ _ _ K.out _)) | (go_at_call 45; exact Gives.later _ (specBank_is _ _ _ _ _ HM.out _))))
    refine wpQuiet_nil ?_
    rintro w2 ⟨zz, hz⟩
    have HB2 : Hid (Below w.heap.size w w2) := HB1.out.trans ((hz ▸ zz.ok : Below w1.heap.size w1 w2).mono HB1.out.size)
    go_wp2
    go_ret
    exact ⟨ret_b HE.out.symm, HB2.out⟩
  have t1 : ((n : Int) != m) = false := by simp [hnm]
  have HNM := Lib.hid hnm
  by_cases hp : 0 ≤ pw ∧ pw ≤ 2
  case neg =>
    have HE : Hid (v = false) := by show _ = _; rw [← HV.out]; exact decide_eq_false (fun h => hp h.2.2.1)
    have KP := Lib.hid (decide_eq_false hp)
    clear hg hm hnm hp
    go_enter Try.func75, Try.ntmps75
    go_wp2_with fail
    refine wp_region_later (by kernel_rfl) (by kernel_rfl) ?_
    repeat (go_big_quiet_step (first | (go_at_call 24; exact Gives.later _ (specGeoOk_is _ _ _ _ _ K.out _)) | (go_at_call 45; exact Gives.later _ (specBank_is _ _ _ _ _ HM.out _)) | (go_at_call 28; exact Gives.later_same _ (specIn_is _ _ _ _ KP.out _))))
    refine wpQuiet_nil ?_
    rintro w2 ⟨zz, hz⟩
    have HB2 : Hid (Below w.heap.size w w2) := HB1.out.trans ((hz ▸ zz.ok : Below w1.heap.size w1 w2).mono HB1.out.size)
    go_wp2
    go_ret
    exact ⟨ret_b HE.out.symm, HB2.out⟩
  have KP := Lib.hid (decide_eq_true hp)
  have HP := Lib.hid hp
  have e1 : IntKind.i64.wrap (g2 - 1) = g2 - 1 := IntWalk.i64_in _ (by have := hg.2.2.1; omega)
  clear hg hm hnm hp
  go_enter Try.func75, Try.ntmps75
  go_wp2_with fail
  refine wp_region_later (by kernel_rfl) (by kernel_rfl) ?_
  repeat (go_big_quiet_step (first | (go_at_call 24; exact Gives.later _ (specGeoOk_is _ _ _ _ _ K.out _)) | (go_at_call 45; exact Gives.later _ (specBank_is _ _ _ _ _ HM.out _)) | (go_at_call 28; exact Gives.later_same _ (specIn_is _ _ _ _ KP.out _))))
  refine wpQuiet_nil ?_
  rintro w2 ⟨zz, hz⟩
  have hb2 : Below w1.heap.size w1 w2 := hz ▸ zz.ok
  have g2' := keep_block hb2 g1 (lt_of_block g1)
  have p2 := keep_block hb2 p1 (lt_of_block p1)
  have HB2 : Hid (Below w.heap.size w w2) := HB1.out.trans (hb2.mono HB1.out.size)
  have HR2 := Lib.hid (HR.out.below hb2)
  clear z0 z1 z2 z3 y0 y1 hz zz hb2 hw1 g1 p1 HB1 HR t1 K KP
  go_wp2_with fail
  go_loopw [5] (fun i wr => ∃ k : Nat, k ≤ n ∧ i = .int .i64 k ∧ (∀ j, j < k → BkOk g2 pw (l.getD j bk0)) ∧ Below w2.heap.size w2 wr) (fun i _ => n - (intOf i).toNat)
  case atStart => exact ⟨0, Nat.zero_le _, rfl, fun j hj => absurd hj (Nat.not_lt_zero _), Below.refl _ _⟩
  case round =>
    obtain ⟨k, hk, rfl, hall, hbr⟩ := hrel
    have HALL := Lib.hid hall
    have HBR := Lib.hid hbr
    have HBW : Hid (Below w.heap.size w wr) := HB2.out.trans (hbr.mono HB2.out.size)
    have g3' := keep_block hbr g2' (lt_of_block g2')
    have p3 := keep_block hbr p2 (lt_of_block p2)
    clear hall hbr
    by_cases hlt : k < n
    · obtain ⟨bb, off, rfl, hs0, hs1⟩ := (HR2.out.below HBR.out).at (k := k) (by rw [HL.out]; exact hlt)
      have NO := Lib.hid (rkOk_no (g0 := g0) (B := B) (g2 := g2) (g3 := g3) (l := l) (pw := pw) (k := k) (by rw [HL.out]; exact hlt))
      have YES : Hid (BkOk g2 pw (l.getD k bk0) → ∀ j, j < k + 1 → BkOk g2 pw (l.getD j bk0)) := fun h j hj => by
        by_cases e : j = k
        · rw [e]; exact h
        · exact HALL.out j (by omega)
      obtain ⟨b, hb⟩ : ∃ b, l.getD k bk0 = b := ⟨_, rfl⟩
      rw [hb] at hs0 hs1
      rw [hb] at NO YES
      clear hb
      obtain ⟨o, r⟩ := b
      obtain ⟨c0, c1, c2, c3⟩ := cells4 g3'
      obtain ⟨d0, d1⟩ := cells2 p3
      have hs0' : wr.cell? ⟨bb, off + k * 2, none⟩ = some (.bool o) := hs0
      have hs1' : wr.cell? ⟨bb, off + k * 2 + 1, none⟩ = some (.int .i64 r) := hs1
      have hd1 : (wr.alloc (.cells #[.bool o, .int .i64 r] 82)).cell? ⟨w.heap.size + 1, 1, none⟩ = some (.int .i64 pw) := (Below.cell ((Below.refl wr.heap.size wr).alloc (Nat.le_refl _) _) (lt_of_block p3)).trans d1
      have hd0 : (wr.alloc (.cells #[.bool o, .int .i64 r] 82)).cell? ⟨w.heap.size + 1, 0, none⟩ = some (.slice (some ⟨bb, off, none⟩) n c) := (Below.cell ((Below.refl wr.heap.size wr).alloc (Nat.le_refl _) _) (lt_of_block p3)).trans d0
      have hc2 : (wr.alloc (.cells #[.bool o, .int .i64 r] 82)).cell? ⟨w.heap.size, 2, none⟩ = some (.int .i64 g2) := (Below.cell ((Below.refl wr.heap.size wr).alloc (Nat.le_refl _) _) (lt_of_block g3')).trans c2
      have HBA : Hid (Below w.heap.size w (wr.alloc (.cells #[.bool o, .int .i64 r] 82))) := HBW.out.alloc HBW.out.size _
      have HBA2 : Hid (Below w2.heap.size w2 (wr.alloc (.cells #[.bool o, .int .i64 r] 82))) := HBR.out.alloc HBR.out.size _
      clear hs0 hs1
      by_cases hrow : 0 ≤ r ∧ r ≤ g2 - 1
      case neg =>
        have KR := Lib.hid (decide_eq_false hrow)
        have HE : Hid (v = false) := by show _ = _; rw [← HV.out]; exact decide_eq_false (NO.out (fun h => hrow h.1))
        clear hrow
        go_wp2_with fail
        refine (specIn_is _ _ _ _ KR.out _).mono ?_
        rintro e w' ⟨rfl, rfl⟩
        go_wp2
        go_ret
        exact ⟨ret_b HE.out.symm, HBA.out⟩
      have KR := Lib.hid (decide_eq_true hrow)
      have HROW := Lib.hid hrow
      clear hrow
      cases o
      · by_cases hr0 : r = 0
        · have t2 : (r != 0) = false := by simp [hr0]
          have OK := Lib.hid (YES.out ⟨HROW.out, .inr hr0, .inl rfl⟩)
          clear hr0
          go_wp2_with fail
          refine (specIn_is _ _ _ _ KR.out _).mono ?_
          rintro e w' ⟨rfl, rfl⟩
          go_wp2_with fail
          go_roundw
          case rel => exact ⟨k + 1, by omega, by go_num, OK.out, HBA2.out⟩
          case measure => simp [intOf]; omega
        · have t2 : (r != 0) = true := by simp [hr0]
          have HE : Hid (v = false) := by show _ = _; rw [← HV.out]; exact decide_eq_false (NO.out (fun h => by rcases h.2.1 with h | h; cases h; exact hr0 h))
          clear hr0
          go_wp2_with fail
          refine (specIn_is _ _ _ _ KR.out _).mono ?_
          rintro e w' ⟨rfl, rfl⟩
          go_wp2
          go_ret
          exact ⟨ret_b HE.out.symm, HBA.out⟩
      · by_cases hp2 : pw = 2
        · have t2 : (pw == 2) = true := by simp [hp2]
          have HE : Hid (v = false) := by show _ = _; rw [← HV.out]; exact decide_eq_false (NO.out (fun h => by rcases h.2.2 with h | h; cases h; exact h hp2))
          clear hp2
          go_wp2_with fail
          refine (specIn_is _ _ _ _ KR.out _).mono ?_
          rintro e w' ⟨rfl, rfl⟩
          go_wp2
          go_ret
          exact ⟨ret_b HE.out.symm, HBA.out⟩
        · have t2 : (pw == 2) = false := by simp [hp2]
          have OK := Lib.hid (YES.out ⟨HROW.out, .inl rfl, .inr hp2⟩)
          clear hp2
          go_wp2_with fail
          refine (specIn_is _ _ _ _ KR.out _).mono ?_
          rintro e w' ⟨rfl, rfl⟩
          go_wp2_with fail
          go_roundw
          case rel => exact ⟨k + 1, by omega, by go_num, OK.out, HBA2.out⟩
          case measure => simp [intOf]; omega
    · obtain rfl : k = n := by omega
      have HE : Hid (v = true) := by
        show _ = _
        rw [← HV.out]
        refine decide_eq_true ⟨HG.out, by rw [HL.out, HM.out]; exact HNM.out, HP.out, fun b hb => ?_⟩
        obtain ⟨j, hj, rfl⟩ := List.getElem_of_mem hb
        have := HALL.out j (by rw [← HL.out]; exact hj)
        rwa [List.getD_eq_getElem?_getD, List.getElem?_eq_getElem hj] at this
      obtain ⟨d0, d1⟩ := cells2 p3
      go_wp2_with fail
      go_ret
      exact ⟨ret_b HE.out.symm, HBW.out⟩

theorem may_kind {k : Int} (h : 1 ≤ k ∧ k ≤ 9) : k = 1 ∨ k = 2 ∨ k = 3 ∨ k = 4 ∨ k = 5 ∨ k = 6 ∨ k = 7 ∨ k = 8 ∨ k = 9 := by omega

set_option maxHeartbeats 8000000 in
theorem specMay_is (a : Option Addr) (n c : Nat) (l : List Bk) (pw k x y z : Int) (v : Bool) (hv : mayR l pw k x = v) (hk : 1 ≤ k ∧ k ≤ 9) (hx : k ≤ 5 → 0 ≤ x ∧ x < (n : Int)) (hl : l.length = n) (h1 : n ≤ 4000000) (w : World) (hr : RowB w a l) :
    Calls Try.prog 29 #[.agg #[.slice a n c, .int .i64 pw], .agg #[.int .i64 k, .int .i64 x, .int .i64 y, .int .i64 z]] w (Gives (.bool v) w) := by
  obtain ⟨w1, hw1⟩ : ∃ u, (w.alloc (.cells #[.slice a n c, .int .i64 pw] 40)).alloc (.cells #[.int .i64 k, .int .i64 x, .int .i64 y, .int .i64 z] 56) = u := ⟨_, rfl⟩
  have hb1 : Below w.heap.size w w1 := by subst hw1; exact ((Below.refl _ _).alloc (Nat.le_refl _) _).alloc (by simp) _
  have g1 : w1.heap[w.heap.size]? = some (.cells #[.slice a n c, .int .i64 pw] 40) := by subst hw1; exact heap_alloc2_old _ _ _
  have p1 : w1.heap[w.heap.size + 1]? = some (.cells #[.int .i64 k, .int .i64 x, .int .i64 y, .int .i64 z] 56) := by subst hw1; exact heap_alloc2_new _ _ _
  obtain ⟨d0, d1⟩ := cells2 g1
  obtain ⟨c0, c1, c2, c3⟩ := cells4 p1
  have HB1 := Lib.hid hb1
  have HR := Lib.hid (hr.below hb1)
  clear hr hb1
  have go : Hid (Calls Try.prog 29 #[.agg #[.slice a n c, .int .i64 pw], .agg #[.int .i64 k, .int .i64 x, .int .i64 y, .int .i64 z]] w (Gives (.bool v) w)) := by
    show Calls _ _ _ _ _
    by_cases h5 : k ≤ 5
    · obtain ⟨hx0, hx1⟩ := hx h5
      obtain ⟨j, rfl⟩ := Int.eq_ofNat_of_zero_le hx0
      have hj : j < n := by omega
      obtain ⟨bb, off, rfl, hs0, _⟩ := HR.out.at (k := j) (by omega)
      have hv' : (if k = 1 ∨ k = 5 then decide (pw = 0) && !(l.getD j bk0).op else decide (pw = 0) && (l.getD j bk0).op) = v := by
        rw [← hv]
        unfold mayR
        rw [Int.toNat_natCast]
        by_cases e1 : k = 1 ∨ k = 5
        · rw [if_pos e1, if_pos e1]
        · rw [if_neg e1, if_neg e1, if_pos (by omega)]
      generalize (l.getD j bk0).op = o at hs0 hv'
      clear hv hx
      have hk5 : k = 1 ∨ k = 2 ∨ k = 3 ∨ k = 4 ∨ k = 5 := by omega
      clear hk h5
      by_cases hp : pw = 0
      · have tp : (pw == 0) = true := by simp [hp]
        have hp' : decide (pw = 0) = true := decide_eq_true hp
        rw [hp'] at hv'
        clear hp' hp
        rcases hk5 with rfl | rfl | rfl | rfl | rfl
        all_goals (cases o <;> (subst hv'; go_enter Try.func29, Try.ntmps29; go_wp2; go_ret; exact ⟨rfl, HB1.out⟩))
      · have tp : (pw == 0) = false := by simp [hp]
        have hp' : decide (pw = 0) = false := decide_eq_false hp
        rw [hp'] at hv'
        clear hp' hp
        rcases hk5 with rfl | rfl | rfl | rfl | rfl
        all_goals (cases o <;> (subst hv'; go_enter Try.func29, Try.ntmps29; go_wp2; go_ret; exact ⟨rfl, HB1.out⟩))
    · clear hx
      have hk6 : k = 6 ∨ k = 7 ∨ k = 8 ∨ k = 9 := by omega
      clear hk h5
      rcases hk6 with rfl | rfl | rfl | rfl
      · have HE : Hid ((pw == 0) = v) := by show _ = _; rw [← hv]; simp [mayR]; rfl
        clear hv
        go_enter Try.func29, Try.ntmps29
        go_wp2
        go_ret
        exact ⟨ret_b HE.out, HB1.out⟩
      · have HE : Hid ((pw == 1) = v) := by show _ = _; rw [← hv]; simp [mayR]; rfl
        clear hv
        go_enter Try.func29, Try.ntmps29
        go_wp2
        go_ret
        exact ⟨ret_b HE.out, HB1.out⟩
      · by_cases hp : pw = 0
        · have tp : (pw == 0) = true := by simp [hp]
          have HE : Hid (decide ((openF 0 l).length = 0) = v) := by show _ = _; rw [← hv, openF_none]; simp [mayR, hp]
          clear hv hp
          go_enter Try.func29, Try.ntmps29
          go_wp2_with fail
          refine (specOpen_is _ _ _ _ _ hl h1 _ HR.out).mono ?_
          rintro e w2 ⟨aa, cc, rfl, _, hb2⟩
          have HB2 : Hid (Below w.heap.size w w2) := HB1.out.trans (hb2.mono HB1.out.size)
          have hb : (((openF 0 l).length : Int) == 0) = decide ((openF 0 l).length = 0) := by
            by_cases e : (openF 0 l).length = 0
            · simp [e]
            · simp [e]
          rw [HE.out] at hb
          clear hb2
          go_wp2
          go_ret
          exact ⟨rfl, HB2.out⟩
        · have tp : (pw == 0) = false := by simp [hp]
          have HE : Hid (false = v) := by show _ = _; rw [← hv]; simp [mayR, hp]
          clear hv hp
          go_enter Try.func29, Try.ntmps29
          go_wp2
          go_ret
          exact ⟨ret_b HE.out, HB1.out⟩
      · have HE : Hid ((pw == 2) = v) := by show _ = _; rw [← hv]; simp [mayR]; rfl
        clear hv
        go_enter Try.func29, Try.ntmps29
        go_wp2
        go_ret
        exact ⟨ret_b HE.out, HB1.out⟩
  exact go.out

end Go.Proofs.Ytihhcnckoeaihaa
