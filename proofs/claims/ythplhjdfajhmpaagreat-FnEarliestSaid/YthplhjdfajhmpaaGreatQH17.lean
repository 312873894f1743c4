/-
  Texts of one proof, merged: BnkW, BnkV, BnkU, BnkI, BnkP, BnkQ, BnkG, BnkF, BnkD, CmdT.
-/
import Derived.Test.YthplhjdfajhmpaaGreatQH6
import Derived.Test.YthplhjdfajhmpaaGreatQH7
import Derived.Test.YthplhjdfajhmpaaGreatQH9
import Derived.Test.YthplhjdfajhmpaaGreatQH10
import Derived.Test.YthplhjdfajhmpaaGreatQH13
import Derived.Test.YthplhjdfajhmpaaGreatQH14
import Derived.Test.YthplhjdfajhmpaaGreatQH15
import Derived.Test.YthplhjdfajhmpaaGreatQH16
import Derived.Laws.StructEq
namespace Go.Proofs.YthplhjdfajhmpaaGreat
open Go.RowKit Go.PlainAid

set_option linter.unusedVariables false

set_option maxHeartbeats 2000000 in
theorem specRankNew_is (g0 B g2 g3 : Int) (n : Nat) (hn : bankN g0 B g2 g3 = (n : Int)) (w : World) :
    Calls Tryz.prog 46 #[.agg #[.int .i64 g0, .int .i64 B, .int .i64 g2, .int .i64 g3]] w (GivesK n (List.replicate n bk0) 0 w) := by
  have hr := bankN_range g0 B g2 g3
  have hn8 : n ≤ 8 := by omega
  obtain ⟨i0, hi, hz0, hz1, hz2⟩ := info_parts infoK
  obtain ⟨w1, hw1⟩ : ∃ u, (w.alloc (.cells #[.int .i64 g0, .int .i64 B, .int .i64 g2, .int .i64 g3] 25)).alloc (.cells #[.slice none 0 0, .int .i64 0] 37) = u := ⟨_, rfl⟩
  have HB1 : Hid (Below w.heap.size w w1) := by subst hw1; exact ((Below.refl _ _).alloc (Nat.le_refl _) _).alloc (by simp) _
  have g1 : w1.heap[w.heap.size]? = some (.cells #[.int .i64 g0, .int .i64 B, .int .i64 g2, .int .i64 g3] 25) := by subst hw1; exact heap_alloc2_old _ _ _
  have p1 : w1.heap[w.heap.size + 1]? = some (.cells #[.slice none 0 0, .int .i64 0] 37) := by subst hw1; exact heap_alloc2_new _ _ _
  have HS1 : Hid (w.heap.size + 1 < w1.heap.size) := lt_of_block p1
  obtain ⟨c0, c1, c2, c3⟩ := cells4 g1
  have HN := Lib.hid hn
  clear hr hn
  go_enter Tryz.func46, Tryz.ntmps46
  go_wp2_with fail
  refine (specBank_is _ _ _ _ _ HN.out _).mono ?_
  rintro e w2 ⟨rfl, hb2⟩
  have p2 := keep_block hb2 p1 (lt_of_block p1)
  have HB2 : Hid (Below w.heap.size w w2) := HB1.out.trans (hb2.mono HB1.out.size)
  have HS2 : Hid (w1.heap.size ≤ w2.heap.size) := hb2.size
  clear hb2 c0 c1 c2 c3 hw1 g1 p1 HB1
  go_wp2_with (at_make; refine wpList_make_full _ rfl _ _ 35 rfl w1.heap.size 78 i0 (.agg #[.bool false, .int .i64 0]) 2 Tryz.underlying35 hi hz0 hz1 _ _ _ _ n rfl rfl rfl rfl (by rw [hz2]; omega) (by unfold maxLen; omega) HS2.out ?_)
  intro w3 hown hgr
  have hb3 : Below w2.heap.size w2 w3 := (Below.refl _ _).grown hgr (Nat.le_refl _) (fun k hk => by cases hk)
  have HO3 : Hid (OwnK w1.heap.size (.slice (some ⟨w2.heap.size, 0, none⟩) n n) (List.replicate n bk0) w3) := by
    show World.ownsRow _ _ _ _ _ _ _
    rw [made_bank] at hown
    rw [List.length_replicate]
    exact hown
  have p3 := keep_block hb3 p2 (lt_of_block p2)
  have HB3 : Hid (Below w.heap.size w w3) := HB2.out.trans (hb3.mono HB2.out.size)
  obtain ⟨x0, x1⟩ := cells2 p3
  have f0 := thawed p3 0
  have f1 := thawed p3 1
  clear hgr hown hb3 p2 HB2
  go_wp2_with fail
  (try simp only [Exit.inBlock, Exit.then])
  refine bodyPost_ret (v := .agg #[.slice (some ⟨w2.heap.size, 0, none⟩) n n, .int .i64 0]) (by simp [results, Tryz.results46, go_sem, x0, x1]) rfl ⟨_, _, rfl, ?_, ?_⟩
  · have hs := HS1.out
    refine OwnK.mono (B := w1.heap.size) ?_ (by omega)
    have hlo := HO3.out.lo
    repeat' (first | exact HO3.out | refine OwnK.setCell ?_ (fun x hx => by have := hlo x hx; simp; omega) _)
  · repeat' (first | exact HB3.out | refine Below.drew ?_ | refine Below.setCell ?_ (by simp <;> omega) _)

set_option maxHeartbeats 4000000 in
theorem specOpen_is (a : Option Addr) (n c : Nat) (l : List Bk) (pw : Int) (hl : l.length = n) (h1 : n ≤ 4000000) (w : World) (hr : RowB w a l) :
    Calls Tryz.prog 78 #[.agg #[.slice a n c, .int .i64 pw]] w (GivesI (openF 0 l) w) := by
  obtain ⟨i0, hi, hz0, hz1, hz2⟩ := info_parts infoI
  obtain ⟨w1, hw1⟩ : ∃ u, w.alloc (.cells #[.slice a n c, .int .i64 pw] 37) = u := ⟨_, rfl⟩
  have hb1 : Below w.heap.size w w1 := by subst hw1; exact (Below.refl _ _).alloc (Nat.le_refl _) _
  have p1 : w1.heap[w.heap.size]? = some (.cells #[.slice a n c, .int .i64 pw] 37) := by subst hw1; exact heap_alloc_new _ _
  have HS1 : Hid (w.heap.size < w1.heap.size) := lt_of_block p1
  have HB1 := Lib.hid hb1
  have HR := Lib.hid (hr.below hb1)
  have HL := Lib.hid hl
  clear hr hl hb1
  go_enter Tryz.func78, Tryz.ntmps78
  go_wp2_with fail
  go_loopw [3, 4] (fun v i wr => ∃ k : Nat, k ≤ n ∧ i = .int .i64 k ∧ OwnI w1.heap.size v (openF 0 (l.take k)) wr ∧ Below w1.heap.size w1 wr) (fun _ i _ => n - (intOf i).toNat)
  case atStart => exact ⟨0, Nat.zero_le _, rfl, World.ownsRow_made w1 #[] 0 (Nat.le_refl _) (by decide) rfl, (Below.refl _ _).alloc (Nat.le_refl _) _⟩
  case round =>
    obtain ⟨k, hk, rfl, hown, hbr⟩ := hrel
    have HO := Lib.hid hown
    have HBR := Lib.hid hbr
    have p2 := keep_block hbr p1 (lt_of_block p1)
    obtain ⟨cp, cq⟩ := cells2 p2
    clear hown hbr
    by_cases hlt : k < n
    · obtain ⟨bb, off, rfl, hs0, hs1⟩ := (HR.out.below HBR.out).at (k := k) (by rw [HL.out]; exact hlt)
      have HST := Lib.hid (openF_step (l := l) (k := k) (by rw [HL.out]; exact hlt))
      have hll : (openF 0 (l.take k)).length ≤ n := Nat.le_trans (openF_length _ _) (by rw [List.length_take, HL.out]; omega)
      clear hs1
      cases ho : (l.getD k bk0).op
      · rw [ho] at hs0 HST
        clear ho
        have HST2 : Hid (openF 0 (l.take (k + 1)) = openF 0 (l.take k)) := by show _ = _; rw [HST.out]; rfl
        go_wp2_with fail
        go_roundw
        case rel => exact ⟨k + 1, by omega, by go_num, by rw [HST2.out]; exact HO.out, HBR.out⟩
        case measure => simp [intOf]; omega
      · rw [ho] at hs0 HST
        clear ho
        have HST2 : Hid (openF 0 (l.take (k + 1)) = openF 0 (l.take k) ++ [(k : Int)]) := by show _ = _; rw [HST.out]; rfl
        have own7 := HO.out
        have hbs := HBR.out.size
        clear HO
        go_wp2_with (at_builtin; refine wpList_append_own _ rfl _ _ 31 rfl w1.heap.size 3 i0 (.int .i64 0) 1 8 Tryz.underlying31 hi hz0 hz1 hz2 rfl (by decide) _ _ _ rfl (World.ownsRow.alloc own7 _) ⟨wr.heap.size, 0, none⟩ 1 1 [.int .i64 (k : Int)] rfl rfl (cell_one_new _ _ _) (by intro u hu; simp at hu; subst hu; rfl) (by unfold maxLen; omega) (by omega) (by rw [World.size_alloc]; omega) ?_)
        intro v' w8 hown8 hgrow _
        have R : Hid (OwnI w1.heap.size v' (openF 0 (l.take (k + 1))) w8) := by
          have := ownI_more hown8
          rw [← HST2.out] at this
          exact this
        have hrow : ∀ j, Value.ownBlock u3 = some j → w1.heap.size ≤ j := fun j hj => (World.ownsRow.lt own7 j hj).1
        have hb8 : Below w1.heap.size wr w8 := ((Below.refl w1.heap.size wr).alloc (by omega) _).grown hgrow (by rw [World.size_alloc]; omega) hrow
        have HB8 : Hid (Below w1.heap.size w1 w8) := HBR.out.trans hb8
        clear hb8 hown8 hgrow own7 hrow HBR
        go_wp2_with fail
        go_roundw
        case rel => exact ⟨k + 1, by omega, by go_num, R.out, HB8.out⟩
        case measure => simp [intOf]; omega
    · obtain rfl : k = n := by omega
      have hO := HO.out
      rw [List.take_of_length_le (by rw [HL.out]; exact Nat.le_refl _)] at hO
      obtain ⟨aa, cc, hv⟩ := hO.shape
      have HO2 := Lib.hid hO
      have HV := Lib.hid hv
      clear hO hv
      go_wp2_with fail
      go_ret
      refine ⟨aa, cc, by first | rfl | (rw [HV.out]; rfl), ?_, HB1.out.trans (HBR.out.mono HB1.out.size)⟩
      have := HO2.out.mono (C := w.heap.size) HB1.out.size
      rw [HV.out] at this
      exact this

theorem rkOk_no {g0 B g2 g3 : Int} {l : List Bk} {pw : Int} {k : Nat} (hk : k < l.length) (h : ¬ BkOk g2 pw (l.getD k bk0)) : ¬ RkOk g0 B g2 g3 l pw := fun hh => h (by
  have := hh.2.2.2 (l[k]) (List.getElem_mem _)
  rwa [List.getD_eq_getElem?_getD, List.getElem?_eq_getElem hk])

set_option maxHeartbeats 8000000 in
theorem specRankOk_is (g0 B g2 g3 : Int) (a : Option Addr) (n c : Nat) (l : List Bk) (pw : Int) (v : Bool) (hv : decide (RkOk g0 B g2 g3 l pw) = v) (hl : l.length = n) (h1 : n ≤ 4000000) (w : World) (hr : RowB w a l) :
    Calls Tryz.prog 12 #[.agg #[.int .i64 g0, .int .i64 B, .int .i64 g2, .int .i64 g3], .agg #[.slice a n c, .int .i64 pw]] w (Gives (.bool v) w) := by
  obtain ⟨w1, hw1⟩ : ∃ u, (w.alloc (.cells #[.int .i64 g0, .int .i64 B, .int .i64 g2, .int .i64 g3] 25)).alloc (.cells #[.slice a n c, .int .i64 pw] 37) = u := ⟨_, rfl⟩
  have hb1 : Below w.heap.size w w1 := by subst hw1; exact ((Below.refl _ _).alloc (Nat.le_refl _) _).alloc (by simp) _
  have g1 : w1.heap[w.heap.size]? = some (.cells #[.int .i64 g0, .int .i64 B, .int .i64 g2, .int .i64 g3] 25) := by subst hw1; exact heap_alloc2_old _ _ _
  have p1 : w1.heap[w.heap.size + 1]? = some (.cells #[.slice a n c, .int .i64 pw] 37) := by subst hw1; exact heap_alloc2_new _ _ _
  have HB1 := Lib.hid hb1
  have HR := Lib.hid (hr.below hb1)
  have HL := Lib.hid hl
  have HV := Lib.hid hv
  obtain ⟨c0, c1, c2, c3⟩ := cells4 g1
  obtain ⟨d0, d1⟩ := cells2 p1
  have z0 := fun q : Later w1 => q.cell c0
  have z1 := fun q : Later w1 => q.cell c1
  have z2 := fun q : Later w1 => q.cell c2
  have z3 := fun q : Later w1 => q.cell c3
  have y0 := fun q : Later w1 => q.cell d0
  have y1 := fun q : Later w1 => q.cell d1
  clear hr hv hb1 c0 c1 c2 c3 d0 d1
  obtain ⟨m, hm⟩ : ∃ m, bankN g0 B g2 g3 = m := ⟨_, rfl⟩
  have HM := Lib.hid hm
  by_cases hg : GeoOk g0 B g2 g3
  case neg =>
    have HE : Hid (v = false) := by show _ = _; rw [← HV.out]; exact decide_eq_false (fun h => hg h.1)
    have K := Lib.hid (decide_eq_false hg)
    clear hg hm
    go_enter Tryz.func12, Tryz.ntmps12
    go_wp2_with fail
    refine wp_region_later (by kernel_rfl) (by kernel_rfl) ?_
    repeat (go_big_quiet_step ((go_at_call 36; exact Gives.later _ (specGeoOk_is _ _ _ _ _ K.out _))))
    refine wpQuiet_nil ?_
    rintro w2 ⟨zz, hz⟩
    have HB2 : Hid (Below w.heap.size w w2) := HB1.out.trans ((hz ▸ zz.ok : Below w1.heap.size w1 w2).mono HB1.out.size)
    go_wp2
    go_ret
    exact ⟨ret_b HE.out.symm, HB2.out⟩
  have K := Lib.hid (decide_eq_true hg)
  have HG := Lib.hid hg
  by_cases hnm : (n : Int) = m
  case neg =>
    have HE : Hid (v = false) := by show _ = _; rw [← HV.out]; exact decide_eq_false (fun h => hnm (by rw [← HL.out, ← HM.out]; exact h.2.1))
    have t1 : ((n : Int) != m) = true := by simp [hnm]
    clear hg hm hnm
    go_enter Tryz.func12, Tryz.ntmps12
    go_wp2_with fail
    refine wp_region_later (by kernel_rfl) (by kernel_rfl) ?_
    repeat (go_big_quiet_step (first | (go_at_call 36; exact Gives.later _ (specGeoOk_is _ _ _ _ _ K.out _)) | (go_at_call 37; exact Gives.later _ (specBank_is _ _ _ _ _ HM.out _))))
    refine wpQuiet_nil ?_
    rintro w2 ⟨zz, hz⟩
    have HB2 : Hid (Below w.heap.size w w2) := HB1.out.trans ((hz ▸ zz.ok : Below w1.heap.size w1 w2).mono HB1.out.size)
    go_wp2
    go_ret
    exact ⟨ret_b HE.out.symm, HB2.out⟩
  have t1 : ((n : Int) != m) = false := by simp [hnm]
  have HNM := Lib.hid hnm
  by_cases hp : 0 ≤ pw ∧ pw ≤ 2
  case neg =>
    have HE : Hid (v = false) := by show _ = _; rw [← HV.out]; exact decide_eq_false (fun h => hp h.2.2.1)
    have KP := Lib.hid (decide_eq_false hp)
    clear hg hm hnm hp
    go_enter Tryz.func12, Tryz.ntmps12
    go_wp2_with fail
    refine wp_region_later (by kernel_rfl) (by kernel_rfl) ?_
    repeat (go_big_quiet_step (first | (go_at_call 36; exact Gives.later _ (specGeoOk_is _ _ _ _ _ K.out _)) | (go_at_call 37; exact Gives.later _ (specBank_is _ _ _ _ _ HM.out _)) | (go_at_call 38; exact Gives.later_same _ (specIn_is _ _ _ _ KP.out _))))
    refine wpQuiet_nil ?_
    rintro w2 ⟨zz, hz⟩
    have HB2 : Hid (Below w.heap.size w w2) := HB1.out.trans ((hz ▸ zz.ok : Below w1.heap.size w1 w2).mono HB1.out.size)
    go_wp2
    go_ret
    exact ⟨ret_b HE.out.symm, HB2.out⟩
  have KP := Lib.hid (decide_eq_true hp)
  have HP := Lib.hid hp
  have e1 : IntKind.i64.wrap (g2 - 1) = g2 - 1 := IntWalk.i64_in _ (by have := hg.2.2.1; omega)
  clear hg hm hnm hp
  go_enter Tryz.func12, Tryz.ntmps12
  go_wp2_with fail
  refine wp_region_later (by kernel_rfl) (by kernel_rfl) ?_
  repeat (go_big_quiet_step (first | (go_at_call 36; exact Gives.later _ (specGeoOk_is _ _ _ _ _ K.out _)) | (go_at_call 37; exact Gives.later _ (specBank_is _ _ _ _ _ HM.out _)) | (go_at_call 38; exact Gives.later_same _ (specIn_is _ _ _ _ KP.out _))))
  refine wpQuiet_nil ?_
  rintro w2 ⟨zz, hz⟩
  have hb2 : Below w1.heap.size w1 w2 := hz ▸ zz.ok
  have g2' := keep_block hb2 g1 (lt_of_block g1)
  have p2 := keep_block hb2 p1 (lt_of_block p1)
  have HB2 : Hid (Below w.heap.size w w2) := HB1.out.trans (hb2.mono HB1.out.size)
  have HR2 := Lib.hid (HR.out.below hb2)
  clear z0 z1 z2 z3 y0 y1 hz zz hb2 hw1 g1 p1 HB1 HR t1 K KP
  go_wp2_with fail
  go_loopw [5] (fun i wr => ∃ k : Nat, k ≤ n ∧ i = .int .i64 k ∧ (∀ j, j < k → BkOk g2 pw (l.getD j bk0)) ∧ Below w2.heap.size w2 wr) (fun i _ => n - (intOf i).toNat)
  case atStart => exact ⟨0, Nat.zero_le _, rfl, fun j hj => absurd hj (Nat.not_lt_zero _), Below.refl _ _⟩
  case round =>
    obtain ⟨k, hk, rfl, hall, hbr⟩ := hrel
    have HALL := Lib.hid hall
    have HBR := Lib.hid hbr
    have HBW : Hid (Below w.heap.size w wr) := HB2.out.trans (hbr.mono HB2.out.size)
    have g3' := keep_block hbr g2' (lt_of_block g2')
    have p3 := keep_block hbr p2 (lt_of_block p2)
    clear hall hbr
    by_cases hlt : k < n
    · obtain ⟨bb, off, rfl, hs0, hs1⟩ := (HR2.out.below HBR.out).at (k := k) (by rw [HL.out]; exact hlt)
      have NO := Lib.hid (rkOk_no (g0 := g0) (B := B) (g2 := g2) (g3 := g3) (l := l) (pw := pw) (k := k) (by rw [HL.out]; exact hlt))
      have YES : Hid (BkOk g2 pw (l.getD k bk0) → ∀ j, j < k + 1 → BkOk g2 pw (l.getD j bk0)) := fun h j hj => by
        by_cases e : j = k
        · rw [e]; exact h
        · exact HALL.out j (by omega)
      obtain ⟨b, hb⟩ : ∃ b, l.getD k bk0 = b := ⟨_, rfl⟩
      rw [hb] at hs0 hs1
      rw [hb] at NO YES
      clear hb
      obtain ⟨o, r⟩ := b
      obtain ⟨c0, c1, c2, c3⟩ := cells4 g3'
      obtain ⟨d0, d1⟩ := cells2 p3
      have hs0' : wr.cell? ⟨bb, off + k * 2, none⟩ = some (.bool o) := hs0
      have hs1' : wr.cell? ⟨bb, off + k * 2 + 1, none⟩ = some (.int .i64 r) := hs1
      have hd1 : (wr.alloc (.cells #[.bool o, .int .i64 r] 78)).cell? ⟨w.heap.size + 1, 1, none⟩ = some (.int .i64 pw) := (Below.cell ((Below.refl wr.heap.size wr).alloc (Nat.le_refl _) _) (lt_of_block p3)).trans d1
      have hd0 : (wr.alloc (.cells #[.bool o, .int .i64 r] 78)).cell? ⟨w.heap.size + 1, 0, none⟩ = some (.slice (some ⟨bb, off, none⟩) n c) := (Below.cell ((Below.refl wr.heap.size wr).alloc (Nat.le_refl _) _) (lt_of_block p3)).trans d0
      have hc2 : (wr.alloc (.cells #[.bool o, .int .i64 r] 78)).cell? ⟨w.heap.size, 2, none⟩ = some (.int .i64 g2) := (Below.cell ((Below.refl wr.heap.size wr).alloc (Nat.le_refl _) _) (lt_of_block g3')).trans c2
      have HBA : Hid (Below w.heap.size w (wr.alloc (.cells #[.bool o, .int .i64 r] 78))) := HBW.out.alloc HBW.out.size _
      have HBA2 : Hid (Below w2.heap.size w2 (wr.alloc (.cells #[.bool o, .int .i64 r] 78))) := HBR.out.alloc HBR.out.size _
      clear hs0 hs1
      by_cases hrow : 0 ≤ r ∧ r ≤ g2 - 1
      case neg =>
        have KR := Lib.hid (decide_eq_false hrow)
        have HE : Hid (v = false) := by show _ = _; rw [← HV.out]; exact decide_eq_false (NO.out (fun h => hrow h.1))
        clear hrow
        go_wp2_with fail
        refine (specIn_is _ _ _ _ KR.out _).mono ?_
        rintro e w' ⟨rfl, rfl⟩
        go_wp2
        go_ret
        exact ⟨ret_b HE.out.symm, HBA.out⟩
      have KR := Lib.hid (decide_eq_true hrow)
      have HROW := Lib.hid hrow
      clear hrow
      cases o
      · by_cases hr0 : r = 0
        · have t2 : (r != 0) = false := by simp [hr0]
          have OK := Lib.hid (YES.out ⟨HROW.out, .inr hr0, .inl rfl⟩)
          clear hr0
          go_wp2_with fail
          refine (specIn_is _ _ _ _ KR.out _).mono ?_
          rintro e w' ⟨rfl, rfl⟩
          go_wp2_with fail
          go_roundw
          case rel => exact ⟨k + 1, by omega, by go_num, OK.out, HBA2.out⟩
          case measure => simp [intOf]; omega
        · have t2 : (r != 0) = true := by simp [hr0]
          have HE : Hid (v = false) := by show _ = _; rw [← HV.out]; exact decide_eq_false (NO.out (fun h => by rcases h.2.1 with h | h; cases h; exact hr0 h))
          clear hr0
          go_wp2_with fail
          refine (specIn_is _ _ _ _ KR.out _).mono ?_
          rintro e w' ⟨rfl, rfl⟩
          go_wp2
          go_ret
          exact ⟨ret_b HE.out.symm, HBA.out⟩
      · by_cases hp2 : pw = 2
        · have t2 : (pw == 2) = true := by simp [hp2]
          have HE : Hid (v = false) := by show _ = _; rw [← HV.out]; exact decide_eq_false (NO.out (fun h => by rcases h.2.2 with h | h; cases h; exact h hp2))
          clear hp2
          go_wp2_with fail
          refine (specIn_is _ _ _ _ KR.out _).mono ?_
          rintro e w' ⟨rfl, rfl⟩
          go_wp2
          go_ret
          exact ⟨ret_b HE.out.symm, HBA.out⟩
        · have t2 : (pw == 2) = false := by simp [hp2]
          have OK := Lib.hid (YES.out ⟨HROW.out, .inl rfl, .inr hp2⟩)
          clear hp2
          go_wp2_with fail
          refine (specIn_is _ _ _ _ KR.out _).mono ?_
          rintro e w' ⟨rfl, rfl⟩
          go_wp2_with fail
          go_roundw
          case rel => exact ⟨k + 1, by omega, by go_num, OK.out, HBA2.out⟩
          case measure => simp [intOf]; omega
    · obtain rfl : k = n := by omega
      have HE : Hid (v = true) := by
        show _ = _
        rw [← HV.out]
        refine decide_eq_true ⟨HG.out, by rw [HL.out, HM.out]; exact HNM.out, HP.out, fun b hb => ?_⟩
        obtain ⟨j, hj, rfl⟩ := List.getElem_of_mem hb
        have := HALL.out j (by rw [← HL.out]; exact hj)
        rwa [List.getD_eq_getElem?_getD, List.getElem?_eq_getElem hj] at this
      obtain ⟨d0, d1⟩ := cells2 p3
      go_wp2_with fail
      go_ret
      exact ⟨ret_b HE.out.symm, HBW.out⟩

set_option maxHeartbeats 8000000 in
theorem specMay_is (a : Option Addr) (n c : Nat) (l : List Bk) (pw k x y z : Int) (v : Bool) (hv : mayR l pw k x = v) (hk : 1 ≤ k ∧ k ≤ 9) (hx : k ≤ 5 → 0 ≤ x ∧ x < (n : Int)) (hl : l.length = n) (h1 : n ≤ 4000000) (w : World) (hr : RowB w a l) :
    Calls Tryz.prog 49 #[.agg #[.slice a n c, .int .i64 pw], .agg #[.int .i64 k, .int .i64 x, .int .i64 y, .int .i64 z]] w (Gives (.bool v) w) := by
  obtain ⟨w1, hw1⟩ : ∃ u, (w.alloc (.cells #[.slice a n c, .int .i64 pw] 37)).alloc (.cells #[.int .i64 k, .int .i64 x, .int .i64 y, .int .i64 z] 41) = u := ⟨_, rfl⟩
  have hb1 : Below w.heap.size w w1 := by subst hw1; exact ((Below.refl _ _).alloc (Nat.le_refl _) _).alloc (by simp) _
  have g1 : w1.heap[w.heap.size]? = some (.cells #[.slice a n c, .int .i64 pw] 37) := by subst hw1; exact heap_alloc2_old _ _ _
  have p1 : w1.heap[w.heap.size + 1]? = some (.cells #[.int .i64 k, .int .i64 x, .int .i64 y, .int .i64 z] 41) := by subst hw1; exact heap_alloc2_new _ _ _
  obtain ⟨d0, d1⟩ := cells2 g1
  obtain ⟨c0, c1, c2, c3⟩ := cells4 p1
  have HB1 := Lib.hid hb1
  have HR := Lib.hid (hr.below hb1)
  clear hr hb1
  have go : Hid (Calls Tryz.prog 49 #[.agg #[.slice a n c, .int .i64 pw], .agg #[.int .i64 k, .int .i64 x, .int .i64 y, .int .i64 z]] w (Gives (.bool v) w)) := by
    show Calls _ _ _ _ _
    by_cases h5 : k ≤ 5
    · obtain ⟨hx0, hx1⟩ := hx h5
      obtain ⟨j, rfl⟩ := Int.eq_ofNat_of_zero_le hx0
      have hj : j < n := by omega
      obtain ⟨bb, off, rfl, hs0, _⟩ := HR.out.at (k := j) (by omega)
      have hv' : (if k = 1 ∨ k = 5 then decide (pw = 0) && !(l.getD j bk0).op else decide (pw = 0) && (l.getD j bk0).op) = v := by
        rw [← hv]
        unfold mayR
        rw [Int.toNat_natCast]
        by_cases e1 : k = 1 ∨ k = 5
        · rw [if_pos e1, if_pos e1]
        · rw [if_neg e1, if_neg e1, if_pos (by omega)]
      generalize (l.getD j bk0).op = o at hs0 hv'
      clear hv hx
      have hk5 : k = 1 ∨ k = 2 ∨ k = 3 ∨ k = 4 ∨ k = 5 := by omega
      clear hk h5
      by_cases hp : pw = 0
      · have tp : (pw == 0) = true := by simp [hp]
        have hp' : decide (pw = 0) = true := decide_eq_true hp
        rw [hp'] at hv'
        clear hp' hp
        rcases hk5 with rfl | rfl | rfl | rfl | rfl
        all_goals (cases o <;> (subst hv'; go_enter Tryz.func49, Tryz.ntmps49; go_wp2; go_ret; exact ⟨rfl, HB1.out⟩))
      · have tp : (pw == 0) = false := by simp [hp]
        have hp' : decide (pw = 0) = false := decide_eq_false hp
        rw [hp'] at hv'
        clear hp' hp
        rcases hk5 with rfl | rfl | rfl | rfl | rfl
        all_goals (cases o <;> (subst hv'; go_enter Tryz.func49, Tryz.ntmps49; go_wp2; go_ret; exact ⟨rfl, HB1.out⟩))
    · clear hx
      have hk6 : k = 6 ∨ k = 7 ∨ k = 8 ∨ k = 9 := by omega
      clear hk h5
      rcases hk6 with rfl | rfl | rfl | rfl
      · have HE : Hid ((pw == 0) = v) := by show _ = _; rw [← hv]; simp [mayR]; rfl
        clear hv
        go_enter Tryz.func49, Tryz.ntmps49
        go_wp2
        go_ret
        exact ⟨ret_b HE.out, HB1.out⟩
      · have HE : Hid ((pw == 1) = v) := by show _ = _; rw [← hv]; simp [mayR]; rfl
        clear hv
        go_enter Tryz.func49, Tryz.ntmps49
        go_wp2
        go_ret
        exact ⟨ret_b HE.out, HB1.out⟩
      · by_cases hp : pw = 0
        · have tp : (pw == 0) = true := by simp [hp]
          have HE : Hid (decide ((openF 0 l).length = 0) = v) := by show _ = _; rw [← hv, openF_none]; simp [mayR, hp]
          clear hv hp
          go_enter Tryz.func49, Tryz.ntmps49
          go_wp2_with fail
          refine (specOpen_is _ _ _ _ _ hl h1 _ HR.out).mono ?_
          rintro e w2 ⟨aa, cc, rfl, _, hb2⟩
          have HB2 : Hid (Below w.heap.size w w2) := HB1.out.trans (hb2.mono HB1.out.size)
          have hb : (((openF 0 l).length : Int) == 0) = decide ((openF 0 l).length = 0) := by
            by_cases e : (openF 0 l).length = 0
            · simp [e]
            · simp [e]
          rw [HE.out] at hb
          clear hb2
          go_wp2
          go_ret
          exact ⟨rfl, HB2.out⟩
        · have tp : (pw == 0) = false := by simp [hp]
          have HE : Hid (false = v) := by show _ = _; rw [← hv]; simp [mayR, hp]
          clear hv hp
          go_enter Tryz.func49, Tryz.ntmps49
          go_wp2
          go_ret
          exact ⟨ret_b HE.out, HB1.out⟩
      · have HE : Hid ((pw == 2) = v) := by show _ = _; rw [← hv]; simp [mayR]; rfl
        clear hv
        go_enter Tryz.func49, Tryz.ntmps49
        go_wp2
        go_ret
        exact ⟨ret_b HE.out, HB1.out⟩
  exact go.out

end Go.Proofs.YthplhjdfajhmpaaGreat

namespace Go.Proofs.YthplhjdfajhmpaaGreat
open Go.RowKit Go.PlainAid

set_option linter.unusedVariables false

theorem bank_in {g0 B g2 g3 : Int} {l : List Bk} {pw k x y z : Int} {n : Nat} (hl : l.length = n) (h : RkOk g0 B g2 g3 l pw) (ha : AdOk g0 B g2 g3 x y z) : 0 ≤ x ∧ x < (n : Int) := by
  have h1 := h.2.1
  have h2 := ha.1
  omega

set_option maxHeartbeats 4000000 in
theorem specAllowed_is (g0 B g2 g3 : Int) (a : Option Addr) (n c : Nat) (l : List Bk) (pw k x y z : Int) (v : Bool) (hv : allowR g0 B g2 g3 l pw k x y z = v) (hl : l.length = n) (h1 : n ≤ 4000000) (w : World) (hr : RowB w a l) :
    Calls Tryz.prog 16 #[.agg #[.int .i64 g0, .int .i64 B, .int .i64 g2, .int .i64 g3], .agg #[.slice a n c, .int .i64 pw], .agg #[.int .i64 k, .int .i64 x, .int .i64 y, .int .i64 z]] w (Gives (.bool v) w) := by
  obtain ⟨w1, hw1⟩ : ∃ u, ((w.alloc (.cells #[.int .i64 g0, .int .i64 B, .int .i64 g2, .int .i64 g3] 25)).alloc (.cells #[.slice a n c, .int .i64 pw] 37)).alloc (.cells #[.int .i64 k, .int .i64 x, .int .i64 y, .int .i64 z] 41) = u := ⟨_, rfl⟩
  have hb1 : Below w.heap.size w w1 := by subst hw1; exact (((Below.refl _ _).alloc (Nat.le_refl _) _).alloc (by simp) _).alloc (by simp; omega) _
  have g1 : w1.heap[w.heap.size]? = some (.cells #[.int .i64 g0, .int .i64 B, .int .i64 g2, .int .i64 g3] 25) := by subst hw1; exact box3_0 _ _ _ _
  have p1 : w1.heap[w.heap.size + 1]? = some (.cells #[.slice a n c, .int .i64 pw] 37) := by subst hw1; exact box3_1 _ _ _ _
  have q1 : w1.heap[w.heap.size + 1 + 1]? = some (.cells #[.int .i64 k, .int .i64 x, .int .i64 y, .int .i64 z] 41) := by subst hw1; exact box3_2 _ _ _ _
  obtain ⟨c0, c1, c2, c3⟩ := cells4 g1
  obtain ⟨d0, d1⟩ := cells2 p1
  obtain ⟨e0, e1, e2, e3⟩ := cells4 q1
  have HB1 := Lib.hid hb1
  have HR := Lib.hid (hr.below hb1)
  clear hr hb1
  by_cases hR : RkOk g0 B g2 g3 l pw
  case neg =>
    have HE : Hid (v = false) := by show _ = _; rw [← hv]; unfold allowR; rw [decide_eq_false (fun h => hR h.1)]; rfl
    have K := Lib.hid (decide_eq_false hR)
    clear hv hR
    go_enter Tryz.func16, Tryz.ntmps16
    go_wp2_with fail
    refine (specRankOk_is _ _ _ _ _ _ _ _ _ _ K.out hl h1 _ HR.out).mono ?_
    rintro e w2 ⟨rfl, hb2⟩
    have HB2 : Hid (Below w.heap.size w w2) := HB1.out.trans (hb2.mono HB1.out.size)
    clear hb2
    go_wp2
    go_ret
    exact ⟨ret_b HE.out.symm, HB2.out⟩
  have K := Lib.hid (decide_eq_true hR)
  by_cases hC : CmOk k x y z ∧ AdOk g0 B g2 g3 x y z
  case neg =>
    have HE : Hid (v = false) := by show _ = _; rw [← hv]; unfold allowR; rw [decide_eq_false (fun h => hC h.2)]; rfl
    have KC := Lib.hid (decide_eq_false hC)
    clear hv hR hC
    go_enter Tryz.func16, Tryz.ntmps16
    go_wp2_with fail
    refine (specRankOk_is _ _ _ _ _ _ _ _ _ _ K.out hl h1 _ HR.out).mono ?_
    rintro e w2 ⟨rfl, hb2⟩
    have g2' := keep_block hb2 g1 (lt_of_block g1)
    have q2 := keep_block hb2 q1 (lt_of_block q1)
    have HB2 : Hid (Below w.heap.size w w2) := HB1.out.trans (hb2.mono HB1.out.size)
    clear hb2 c0 c1 c2 c3 d0 d1 e0 e1 e2 e3
    obtain ⟨c0, c1, c2, c3⟩ := cells4 g2'
    obtain ⟨e0, e1, e2, e3⟩ := cells4 q2
    go_wp2_with fail
    refine (specCommandOk_is _ _ _ _ _ _ _ _ _ KC.out _).mono ?_
    rintro e w3 ⟨rfl, hb3⟩
    have HB3 : Hid (Below w.heap.size w w3) := HB2.out.trans (hb3.mono HB2.out.size)
    clear hb3
    go_wp2
    go_ret
    exact ⟨ret_b HE.out.symm, HB3.out⟩
  have KC := Lib.hid (decide_eq_true hC)
  have HE : Hid (mayR l pw k x = v) := by show _ = _; rw [← hv]; unfold allowR; rw [decide_eq_true ⟨hR, hC⟩]; rfl
  have hkk := hC.1.1
  have hxx : Hid (0 ≤ x ∧ x < (n : Int)) := bank_in (k := k) hl hR hC.2
  clear hv hR hC
  go_enter Tryz.func16, Tryz.ntmps16
  go_wp2_with fail
  refine (specRankOk_is _ _ _ _ _ _ _ _ _ _ K.out hl h1 _ HR.out).mono ?_
  rintro e w2 ⟨rfl, hb2⟩
  have g2' := keep_block hb2 g1 (lt_of_block g1)
  have p2 := keep_block hb2 p1 (lt_of_block p1)
  have q2 := keep_block hb2 q1 (lt_of_block q1)
  have HB2 : Hid (Below w.heap.size w w2) := HB1.out.trans (hb2.mono HB1.out.size)
  have HR2 := Lib.hid (HR.out.below hb2)
  clear hb2 c0 c1 c2 c3 d0 d1 e0 e1 e2 e3
  obtain ⟨c0, c1, c2, c3⟩ := cells4 g2'
  obtain ⟨e0, e1, e2, e3⟩ := cells4 q2
  go_wp2_with fail
  refine (specCommandOk_is _ _ _ _ _ _ _ _ _ KC.out _).mono ?_
  rintro e w3 ⟨rfl, hb3⟩
  have p3 := keep_block hb3 p2 (lt_of_block p2)
  have q3 := keep_block hb3 q2 (lt_of_block q2)
  have HB3 : Hid (Below w.heap.size w w3) := HB2.out.trans (hb3.mono HB2.out.size)
  have HR3 := Lib.hid (HR2.out.below hb3)
  clear hb3 c0 c1 c2 c3 e0 e1 e2 e3
  obtain ⟨d0, d1⟩ := cells2 p3
  obtain ⟨e0, e1, e2, e3⟩ := cells4 q3
  go_wp2_with fail
  refine (specMay_is _ _ _ _ _ _ _ _ _ _ HE.out hkk (fun _ => hxx.out) hl h1 _ HR3.out).mono ?_
  rintro e w4 ⟨rfl, hb4⟩
  have HB4 : Hid (Below w.heap.size w w4) := HB3.out.trans (hb4.mono HB3.out.size)
  clear hb4
  go_wp2
  go_ret
  exact ⟨rfl, HB4.out⟩

/-- What a copy appends: the cells of a row that is read. -/
theorem RowB.src {w : World} {ad : Addr} {l : List Bk} (h : RowB w (some ad) l) : ∀ j u, (l.flatMap Bk.vs)[j]? = some u → w.cell? (ad.add j) = some u := by
  rcases h with rfl | ⟨b, off, hb, h⟩
  · intro j u hu; simp at hu
  · cases hb
    exact RowB.flat h

set_option maxHeartbeats 4000000 in
theorem specCopy_is (a : Option Addr) (n c : Nat) (l : List Bk) (pw : Int) (hl : l.length = n) (h1 : n ≤ 4000000) (hnc : a = none → c = 0) (w : World) (hr : RowB w a l) :
    Calls Tryz.prog 74 #[.agg #[.slice a n c, .int .i64 pw]] w (GivesK n l pw w) := by
  obtain ⟨i0, hi, hz0, hz1, hz2⟩ := info_parts infoK
  obtain ⟨w1, hw1⟩ : ∃ u, (w.alloc (.cells #[.slice a n c, .int .i64 pw] 37)).alloc (.cells #[.slice none 0 0, .int .i64 0] 37) = u := ⟨_, rfl⟩
  have hb1 : Below w.heap.size w w1 := by subst hw1; exact ((Below.refl _ _).alloc (Nat.le_refl _) _).alloc (by simp) _
  have g1 : w1.heap[w.heap.size]? = some (.cells #[.slice a n c, .int .i64 pw] 37) := by subst hw1; exact heap_alloc2_old _ _ _
  have p1 : w1.heap[w.heap.size + 1]? = some (.cells #[.slice none 0 0, .int .i64 0] 37) := by subst hw1; exact heap_alloc2_new _ _ _
  have HS1 : Hid (w.heap.size + 1 < w1.heap.size) := lt_of_block p1
  have HB1 := Lib.hid hb1
  have HR := Lib.hid (hr.below hb1)
  have HL := Lib.hid hl
  have HNC := Lib.hid hnc
  clear hr hl hb1 hnc
  go_enter Tryz.func74, Tryz.ntmps74
  go_wp2_with fail
  refine wp_region_float (A := ?A) [.t, .h, .h, .t, .h, .h, .t, .e] (by kernel_rfl) (by kernel_rfl) (fun u => u.cell? ⟨w.heap.size, 0, none⟩ = some (.slice a n c) ∧ u.cell? ⟨w.heap.size, 1, none⟩ = some (.int .i64 pw)) ?hC ?hH ?hT
  case hC => exact cells2 g1
  case hH =>
    intro u hu
    have z0 := fun q : Same u => q.cell hu.1
    have z1 := fun q : Same u => q.cell hu.2
    simp only [headsOf]
    repeat (go_big_quiet_step (fail))
    refine wpQuiet_nil ?_
    exact rfl
  case hT =>
    simp only [chainT]
    have HBd : Hid (Below w.heap.size w w1.drew) := Below.drew HB1.out
    have HRd : Hid (RowB w1.drew a l) := HR.out
    have HSd : Hid (w.heap.size + 1 < w1.drew.heap.size) := HS1.out
    have gd : w1.drew.heap[w.heap.size]? = some (.cells #[.slice a n c, .int .i64 pw] 37) := g1
    have pd : w1.drew.heap[w.heap.size + 1]? = some (.cells #[.slice none 0 0, .int .i64 0] 37) := p1
    clear HB1 HR HS1 g1 p1 hw1
    generalize w1.drew = w2 at HBd HRd HSd gd pd ⊢
    have own3 := World.ownsRow_made (base := w2.heap.size) (e := 78) (size := 2) w2 #[] 0 (Nat.le_refl _) (by decide) rfl
    have hb3 : Below w2.heap.size w2 (w2.alloc (.cells #[] 78)) := (Below.refl _ _).alloc (Nat.le_refl _) _
    have g3 := keep_block hb3 gd (lt_of_block gd)
    have p3 := keep_block hb3 pd (lt_of_block pd)
    have HB3 : Hid (Below w.heap.size w (w2.alloc (.cells #[] 78))) := HBd.out.trans (hb3.mono HBd.out.size)
    have HR3 := Lib.hid (HRd.out.below hb3)
    go_wp2_with fail
    refine stepQ_normal ⟨cells2 g3, ?_⟩
    have hS3 : w2.heap.size ≤ (w2.alloc (.cells #[] 78)).heap.size := by simp
    have fin : Hid (∀ (aa : Option Addr) (cc : Nat) (w4 : World), OwnK w2.heap.size (.slice aa n cc) l w4 → Below w.heap.size w w4 → w4.heap[w.heap.size]? = some (.cells #[.slice a n c, .int .i64 pw] 37) → w4.heap[w.heap.size + 1]? = some (.cells #[.slice none 0 0, .int .i64 0] 37) → OwnK w.heap.size (.slice aa n cc) l ((w4.setCell ⟨w.heap.size + 1, 0, none⟩ (.slice aa n cc)).setCell ⟨w.heap.size + 1, 1, none⟩ (.int .i64 pw)) ∧ Below w.heap.size w ((w4.setCell ⟨w.heap.size + 1, 0, none⟩ (.slice aa n cc)).setCell ⟨w.heap.size + 1, 1, none⟩ (.int .i64 pw))) := by
      intro aa cc w4 ho hb _ _
      have hlo := ho.lo
      have hs := HSd.out
      refine ⟨OwnK.mono (B := w2.heap.size) ?_ (by omega), (hb.setCell (by simp) _).setCell (by simp) _⟩
      exact (ho.setCell (fun x hx => by have := hlo x hx; simp; omega) _).setCell (fun x hx => by have := hlo x hx; simp; omega) _
    rcases a with _ | ad
    · have hl0 : l = [] := by rcases HRd.out with h | ⟨_, _, h, _⟩; exact h; cases h
      have hc0 := HNC.out rfl
      have hn0 : n = 0 := by rw [← HL.out, hl0]; rfl
      subst hl0
      subst hc0
      subst hn0
      go_wp2_with (at_builtin; refine wpList_append_own_none rfl _ _ 35 rfl w2.heap.size 78 i0 2 Tryz.underlying35 hi _ 0 [] rfl own3 rfl ?_)
      refine stepQ_normal ⟨cells2 g3, ?_⟩
      go_wp2_with fail
      refine stepQ_normal ⟨cells2 g3, ?_⟩
      obtain ⟨b0, b1⟩ := cells2 p3
      have f0 := thawed p3 0
      have f1 := thawed p3 1
      have F := Lib.hid (fin.out (some ⟨w2.heap.size, 0, none⟩) 0 (w2.alloc (.cells #[] 78)) own3 HB3.out g3 p3)
      generalize (w2.alloc (.cells #[] 78)) = w4 at b0 b1 f0 f1 F p3 ⊢
      go_wp2_with fail
      refine stepQ_normal ⟨trivial, ?_⟩
      go_wp2_with fail
      (try simp only [Exit.inBlock, Exit.then])
      refine bodyPost_ret (v := .agg #[.slice (some ⟨w2.heap.size, 0, none⟩) 0 0, .int .i64 pw]) ?_ rfl ⟨_, _, rfl, F.out.1, F.out.2⟩
      simp [results, Tryz.results74, go_sem, b0, b1]
    · go_wp2_with (at_builtin; refine wpList_append_own _ rfl _ _ 35 rfl w2.heap.size 78 i0 (.agg #[.bool false, .int .i64 0]) 2 16 Tryz.underlying35 hi hz0 hz1 hz2 rfl (by decide) _ 0 [] rfl own3 ad n c (l.flatMap Bk.vs) rfl (by rw [vs_length, HL.out]) (RowB.src HR3.out) (vs_oneCell l) (by unfold maxLen; omega) (by omega) hS3 ?_)
      intro v' w4 hown4 hgrow _
      have O4 : Hid (OwnK w2.heap.size v' l w4) := by
        show World.ownsRow _ _ _ _ _ _ _
        rw [HL.out]
        exact hown4
      have hb4 : Below w2.heap.size (w2.alloc (.cells #[] 78)) w4 := (Below.refl _ _).grown hgrow hS3 (fun j hj => (World.ownsRow.lt own3 j hj).1)
      have g4 := keep_block hb4 g3 (lt_of_block gd)
      have p4 := keep_block hb4 p3 (lt_of_block pd)
      have HB4 : Hid (Below w.heap.size w w4) := HB3.out.trans (hb4.mono HBd.out.size)
      have hsh : Hid (∃ aa cc, v' = .slice aa n cc) := by
        obtain ⟨aa, cc, h⟩ := O4.out.shape
        rw [HL.out] at h
        exact ⟨aa, cc, h⟩
      clear hown4 hgrow hb4
      obtain ⟨aa, cc, rfl⟩ := hsh.out
      clear hsh
      refine stepQ_normal ⟨cells2 g4, ?_⟩
      go_wp2_with fail
      refine stepQ_normal ⟨cells2 g4, ?_⟩
      obtain ⟨b0, b1⟩ := cells2 p4
      have f0 := thawed p4 0
      have f1 := thawed p4 1
      have F := Lib.hid (fin.out aa cc w4 O4.out HB4.out g4 p4)
      go_wp2_with fail
      refine stepQ_normal ⟨trivial, ?_⟩
      go_wp2_with fail
      (try simp only [Exit.inBlock, Exit.then])
      refine bodyPost_ret (v := .agg #[.slice aa n cc, .int .i64 pw]) ?_ rfl ⟨_, _, rfl, F.out.1, F.out.2⟩
      simp [results, Tryz.results74, go_sem, b0, b1]

theorem do_kind {k : Int} (h : 1 ≤ k ∧ k ≤ 9) : k = 1 ∨ k = 4 ∨ k = 6 ∨ k = 8 ∨ k = 7 ∨ k = 9 ∨ (k = 2 ∨ k = 3 ∨ k = 5) := by omega

/-- What a command leaves that was done to the variable at P. -/
def Done (B P n c : Nat) (a : Option Addr) (l : List Bk) (pw : Int) (w : World) (e : Ending) (w' : World) : Prop :=
  e = .returned (.tuple #[]) ∧ w'.heap[P]? = some (.cells #[.slice a n c, .int .i64 pw] 37) ∧ OwnK B (.slice a n c) l w' ∧ Below B w w'

set_option maxHeartbeats 8000000 in
theorem specDo_is {B P n c : Nat} {a : Option Addr} {l : List Bk} {pw k x y z : Int} (hk : 1 ≤ k ∧ k ≤ 9) (hx : k ≤ 5 → 0 ≤ x ∧ x < (n : Int)) (hl : l.length = n) (h1 : n ≤ 4000000) {w : World}
    (hP : w.heap[P]? = some (.cells #[.slice a n c, .int .i64 pw] 37)) (hO : OwnK B (.slice a n c) l w) (hne : ∀ x, a = some x → x.block ≠ P) (hB : B ≤ P) :
    Calls Tryz.prog 75 #[.pointer (some ⟨P, 0, none⟩), .agg #[.int .i64 k, .int .i64 x, .int .i64 y, .int .i64 z]] w (Done B P n c a (doL l k x y) (doP pw k) w) := by
  obtain ⟨w1, hw1⟩ : ∃ u, w.alloc (.cells #[.int .i64 k, .int .i64 x, .int .i64 y, .int .i64 z] 41) = u := ⟨_, rfl⟩
  have hlt := lt_of_block hP
  have hb1 : Below w.heap.size w w1 := by subst hw1; exact (Below.refl _ _).alloc (Nat.le_refl _) _
  have q1 : w1.heap[w.heap.size]? = some (.cells #[.int .i64 k, .int .i64 x, .int .i64 y, .int .i64 z] 41) := by subst hw1; exact heap_alloc_new _ _
  have p1 := keep_block hb1 hP hlt
  obtain ⟨e0, e1, e2, e3⟩ := cells4 q1
  obtain ⟨d0, d1⟩ := cells2 p1
  have HO := Lib.hid (hO.below hb1)
  have HBB : Hid (Below B w w1) := hb1.mono (by omega)
  have HL := Lib.hid hl
  have HNE := Lib.hid hne
  clear hO hl hb1 hP hne
  have same : Hid (∀ (l' : List Bk) (pw' : Int), l' = l → pw' = pw → Done B P n c a l' pw' w (.returned (.tuple #[])) w1) := by
    rintro l' pw' rfl rfl
    exact ⟨rfl, p1, HO.out, HBB.out⟩
  have power : Hid (∀ (l' : List Bk) (pw' : Int), l' = l → Done B P n c a l' pw' w (.returned (.tuple #[])) (w1.setCell ⟨P, 1, none⟩ (.int .i64 pw'))) := by
    rintro l' pw' rfl
    exact ⟨rfl, set_cells p1 1 _, HO.out.setCell HNE.out _, HBB.out.setCell hB _⟩
  have f1 := thawed p1 1
  rcases do_kind hk with rfl | rfl | rfl | rfl | rfl | rfl | h
  · obtain ⟨hx0, hx1⟩ := hx (by omega)
    obtain ⟨j, rfl⟩ := Int.eq_ofNat_of_zero_le hx0
    have hj : j < n := by omega
    obtain ⟨g, rfl, ho0, ho1, hf, hBg, hgl⟩ := HO.out.at (k := j) (by rw [HL.out]; exact hj)
    have HG : Hid (g ≠ P) := HNE.out _ rfl
    have hf0 := hf (j * 2)
    have hf1 := hf (j * 2 + 1)
    obtain ⟨old0, hco0⟩ : ∃ u, w1.cell? ⟨g, j * 2, none⟩ = some u := ⟨_, ho0⟩
    obtain ⟨old1, hco1⟩ : ∃ u, w1.cell? ⟨g, j * 2 + 1, none⟩ = some u := ⟨_, ho1⟩
    have z0 := fun q : Later w1 => q.cell e0
    have z1 := fun q : Later w1 => q.cell e1
    have z2 := fun q : Later w1 => q.cell e2
    have y0 := fun q : Later w1 => q.cell d0
    clear ho0 ho1 hf hx same power f1
    go_enter Tryz.func75, Tryz.ntmps75
    go_wp2_with fail
    refine wp_region_later_tail 10 (by kernel_rfl) (by kernel_rfl) ?_
    simp only [List.take_succ_cons, List.take_zero, List.drop_succ_cons, List.drop_zero]
    repeat (go_big_quiet_step (fail))
    refine wpQuiet_nil ?_
    rintro w2 ⟨zz, hz⟩
    have hb2 : Below w1.heap.size w1 w2 := hz ▸ zz.ok
    have p2 := keep_block hb2 p1 (lt_of_block p1)
    have hc0 := keep_cell hb2 hco0 hgl
    have hc1 := keep_cell hb2 hco1 hgl
    have O2 := Lib.hid (HO.out.below hb2)
    have HB2 : Hid (Below B w w2) := HBB.out.trans (hb2.mono (by have := lt_of_block p1; omega))
    have ff := O2.out.at (k := j) (by rw [HL.out]; exact hj)
    obtain ⟨g', hg', _, _, hf, _, _⟩ := ff
    cases hg'
    have hf0' := hf (j * 2)
    have hf1' := hf (j * 2 + 1)
    clear z0 z1 z2 y0 hz zz hb2 hco0 hco1 hf0 hf1 hf e0 e1 e2 e3 d0 d1
    go_wp2_with fail
    (try simp only [Exit.inBlock, Exit.then])
    refine bodyPost_ret (v := .tuple #[]) (by simp [results, Tryz.results75]) rfl ?_
    refine ⟨rfl, ?_, ?_, (HB2.out.setCell hBg _).setCell hBg _⟩
    · exact (Below.heap_setCell _ _ _ _ (Ne.symm HG.out)).trans ((Below.heap_setCell _ _ _ _ (Ne.symm HG.out)).trans p2)
    · exact O2.out.stored HL.out (by rw [HL.out]; exact hj) ⟨true, y⟩
  · obtain ⟨hx0, hx1⟩ := hx (by omega)
    obtain ⟨j, rfl⟩ := Int.eq_ofNat_of_zero_le hx0
    have hj : j < n := by omega
    obtain ⟨g, rfl, ho0, ho1, hf, hBg, hgl⟩ := HO.out.at (k := j) (by rw [HL.out]; exact hj)
    have HG : Hid (g ≠ P) := HNE.out _ rfl
    obtain ⟨old0, hco0⟩ : ∃ u, w1.cell? ⟨g, j * 2, none⟩ = some u := ⟨_, ho0⟩
    obtain ⟨old1, hco1⟩ : ∃ u, w1.cell? ⟨g, j * 2 + 1, none⟩ = some u := ⟨_, ho1⟩
    have z0 := fun q : Later w1 => q.cell e0
    have z1 := fun q : Later w1 => q.cell e1
    have y0 := fun q : Later w1 => q.cell d0
    clear ho0 ho1 hf hx same power f1
    go_enter Tryz.func75, Tryz.ntmps75
    go_wp2_with fail
    refine wp_region_later_tail 8 (by kernel_rfl) (by kernel_rfl) ?_
    simp only [List.take_succ_cons, List.take_zero, List.drop_succ_cons, List.drop_zero]
    repeat (go_big_quiet_step (fail))
    refine wpQuiet_nil ?_
    rintro w2 ⟨zz, hz⟩
    have hb2 : Below w1.heap.size w1 w2 := hz ▸ zz.ok
    have p2 := keep_block hb2 p1 (lt_of_block p1)
    have hc0 := keep_cell hb2 hco0 hgl
    have hc1 := keep_cell hb2 hco1 hgl
    have O2 := Lib.hid (HO.out.below hb2)
    have HB2 : Hid (Below B w w2) := HBB.out.trans (hb2.mono (by have := lt_of_block p1; omega))
    have ff := O2.out.at (k := j) (by rw [HL.out]; exact hj)
    obtain ⟨g', hg', _, _, hf, _, _⟩ := ff
    cases hg'
    have hf0' := hf (j * 2)
    have hf1' := hf (j * 2 + 1)
    clear z0 z1 y0 hz zz hb2 hco0 hco1 hf e0 e1 e2 e3 d0 d1
    go_wp2_with fail
    (try simp only [Exit.inBlock, Exit.then])
    refine bodyPost_ret (v := .tuple #[]) (by simp [results, Tryz.results75]) rfl ?_
    refine ⟨rfl, ?_, ?_, (HB2.out.setCell hBg _).setCell hBg _⟩
    · exact (Below.heap_setCell _ _ _ _ (Ne.symm HG.out)).trans ((Below.heap_setCell _ _ _ _ (Ne.symm HG.out)).trans p2)
    · exact O2.out.stored HL.out (by rw [HL.out]; exact hj) bk0
  · clear hx
    go_enter Tryz.func75, Tryz.ntmps75
    go_wp2
    (try simp only [Exit.inBlock, Exit.then])
    refine bodyPost_ret (v := .tuple #[]) (by simp [results, Tryz.results75]) rfl ?_
    exact power.out _ _ rfl
  · clear hx
    go_enter Tryz.func75, Tryz.ntmps75
    go_wp2
    (try simp only [Exit.inBlock, Exit.then])
    refine bodyPost_ret (v := .tuple #[]) (by simp [results, Tryz.results75]) rfl ?_
    exact power.out _ _ rfl
  · clear hx
    go_enter Tryz.func75, Tryz.ntmps75
    go_wp2
    (try simp only [Exit.inBlock, Exit.then])
    refine bodyPost_ret (v := .tuple #[]) (by simp [results, Tryz.results75]) rfl ?_
    exact power.out _ _ rfl
  · clear hx
    go_enter Tryz.func75, Tryz.ntmps75
    go_wp2
    (try simp only [Exit.inBlock, Exit.then])
    refine bodyPost_ret (v := .tuple #[]) (by simp [results, Tryz.results75]) rfl ?_
    exact power.out _ _ rfl
  · clear hx hk
    rcases h with rfl | rfl | rfl
    all_goals (go_enter Tryz.func75, Tryz.ntmps75; go_wp2; (try simp only [Exit.inBlock, Exit.then]); refine bodyPost_ret (v := .tuple #[]) (by simp [results, Tryz.results75]) rfl ?_; exact same.out _ _ rfl rfl)

end Go.Proofs.YthplhjdfajhmpaaGreat

namespace Go.Proofs.YthplhjdfajhmpaaGreat
open Go.RowKit Go.PlainAid

set_option linter.unusedVariables false

theorem four_0 (w : World) (A B C D : Obj) : ((((w.alloc A).alloc B).alloc C).alloc D).heap[w.heap.size]? = some A := by
  rw [Below.heap_alloc _ _ _ (by simp <;> omega)]; exact box3_0 w A B C

theorem four_1 (w : World) (A B C D : Obj) : ((((w.alloc A).alloc B).alloc C).alloc D).heap[w.heap.size + 1]? = some B := by
  rw [Below.heap_alloc _ _ _ (by simp <;> omega)]; exact box3_1 w A B C

theorem four_2 (w : World) (A B C D : Obj) : ((((w.alloc A).alloc B).alloc C).alloc D).heap[w.heap.size + 1 + 1]? = some C := by
  rw [Below.heap_alloc _ _ _ (by simp)]; exact box3_2 w A B C

theorem four_3 (w : World) (A B C D : Obj) : ((((w.alloc A).alloc B).alloc C).alloc D).heap[w.heap.size + 1 + 1 + 1]? = some D := by
  have h := box3_2 (w.alloc A) B C D
  rwa [World.size_alloc] at h

/-- A call that answers a rank with a row of its own, and a bool. -/
def GivesA (n : Nat) (l : List Bk) (pw : Int) (v : Bool) (w : World) (e : Ending) (w' : World) : Prop :=
  ∃ a cap, e = .returned (.tuple #[.agg #[.slice a n cap, .int .i64 pw], .bool v]) ∧ OwnK w.heap.size (.slice a n cap) l w' ∧ Below w.heap.size w w'

set_option maxHeartbeats 4000000 in
theorem specAfter_is (g0 B g2 g3 : Int) (a : Option Addr) (n c : Nat) (l : List Bk) (pw k x y z : Int) (v : Bool) (l' : List Bk) (pw' : Int) (hv : allowR g0 B g2 g3 l pw k x y z = v) (hl' : afterL g0 B g2 g3 l pw k x y z = l') (hp' : afterP g0 B g2 g3 l pw k x y z = pw')
    (hl : l.length = n) (h1 : n ≤ 4000000) (hnc : a = none → c = 0) (w : World) (hr : RowB w a l) :
    Calls Tryz.prog 47 #[.agg #[.int .i64 g0, .int .i64 B, .int .i64 g2, .int .i64 g3], .agg #[.slice a n c, .int .i64 pw], .agg #[.int .i64 k, .int .i64 x, .int .i64 y, .int .i64 z]] w (GivesA n l' pw' v w) := by
  obtain ⟨w1, hw1⟩ : ∃ u, (((w.alloc (.cells #[.int .i64 g0, .int .i64 B, .int .i64 g2, .int .i64 g3] 25)).alloc (.cells #[.slice a n c, .int .i64 pw] 37)).alloc (.cells #[.int .i64 k, .int .i64 x, .int .i64 y, .int .i64 z] 41)).alloc (.cells #[.slice none 0 0, .int .i64 0] 37) = u := ⟨_, rfl⟩
  have hb1 : Below w.heap.size w w1 := by subst hw1; exact ((((Below.refl _ _).alloc (Nat.le_refl _) _).alloc (by simp) _).alloc (by simp; omega) _).alloc (by simp; omega) _
  have g1 : w1.heap[w.heap.size]? = some (.cells #[.int .i64 g0, .int .i64 B, .int .i64 g2, .int .i64 g3] 25) := by subst hw1; exact four_0 _ _ _ _ _
  have p1 : w1.heap[w.heap.size + 1]? = some (.cells #[.slice a n c, .int .i64 pw] 37) := by subst hw1; exact four_1 _ _ _ _ _
  have q1 : w1.heap[w.heap.size + 1 + 1]? = some (.cells #[.int .i64 k, .int .i64 x, .int .i64 y, .int .i64 z] 41) := by subst hw1; exact four_2 _ _ _ _ _
  have s1 : w1.heap[w.heap.size + 1 + 1 + 1]? = some (.cells #[.slice none 0 0, .int .i64 0] 37) := by subst hw1; exact four_3 _ _ _ _ _
  have HS1 : Hid (w.heap.size + 1 + 1 + 1 < w1.heap.size) := lt_of_block s1
  obtain ⟨d0, d1⟩ := cells2 p1
  have HB1 := Lib.hid hb1
  have HR := Lib.hid (hr.below hb1)
  clear hr hb1
  have HV := Lib.hid hv
  have ARG : Hid (v = true → (1 ≤ k ∧ k ≤ 9) ∧ (k ≤ 5 → 0 ≤ x ∧ x < (n : Int)) ∧ l' = doL l k x y ∧ pw' = doP pw k) := fun h => by
    rw [h] at hv
    have hd := hv
    unfold allowR at hd
    rw [Bool.and_eq_true, decide_eq_true_eq] at hd
    exact ⟨hd.1.2.1.1, fun _ => bank_in (k := k) hl hd.1.1 hd.1.2.2, by rw [← hl']; exact if_pos hv, by rw [← hp']; exact if_pos hv⟩
  have ARG0 : Hid (v = false → l' = l ∧ pw' = pw) := fun h => by
    have hn : ¬ allowR g0 B g2 g3 l pw k x y z = true := by rw [hv, h]; simp
    exact ⟨by rw [← hl']; exact if_neg hn, by rw [← hp']; exact if_neg hn⟩
  clear hv hl' hp'
  go_enter Tryz.func47, Tryz.ntmps47
  go_wp2_with fail
  refine (specCopy_is _ _ _ _ _ hl h1 hnc _ HR.out).mono ?_
  rintro e w2 ⟨aa, cc, rfl, own2, hb2⟩
  have g2' := keep_block hb2 g1 (lt_of_block g1)
  have p2 := keep_block hb2 p1 (lt_of_block p1)
  have q2 := keep_block hb2 q1 (lt_of_block q1)
  have s2 := keep_block hb2 s1 (lt_of_block s1)
  have HB2 : Hid (Below w.heap.size w w2) := HB1.out.trans (hb2.mono HB1.out.size)
  have HR2 := Lib.hid (HR.out.below hb2)
  have HS2 : Hid (w1.heap.size ≤ w2.heap.size) := hb2.size
  clear d0 d1 hw1 g1 p1 q1 s1 HB1 HR hb2
  have hb3 : Below w2.heap.size w2 (w2.alloc (.cells #[.slice aa n cc, .int .i64 pw] 37)) := (Below.refl _ _).alloc (Nat.le_refl _) _
  have g3' := keep_block hb3 g2' (lt_of_block g2')
  have p3 := keep_block hb3 p2 (lt_of_block p2)
  have q3 := keep_block hb3 q2 (lt_of_block q2)
  have s3 := keep_block hb3 s2 (lt_of_block s2)
  have t3 := heap_alloc_new w2 (.cells #[.slice aa n cc, .int .i64 pw] 37)
  have HB3 : Hid (Below w.heap.size w (w2.alloc (.cells #[.slice aa n cc, .int .i64 pw] 37))) := HB2.out.trans (hb3.mono HB2.out.size)
  have HR3 := Lib.hid (HR2.out.below hb3)
  have O3 := Lib.hid (own2.below hb3)
  have HNE : Hid (∀ x, aa = some x → x.block ≠ w2.heap.size) := fun x hx => by have := (own2.lo x hx).2; omega
  have HNS : Hid (∀ x, aa = some x → x.block ≠ w.heap.size + 1 + 1 + 1) := fun x hx => by have := (own2.lo x hx).1; have := HS1.out; omega
  obtain ⟨c0, c1, c2, c3⟩ := cells4 g3'
  obtain ⟨d0, d1⟩ := cells2 p3
  obtain ⟨e0, e1, e2, e3⟩ := cells4 q3
  clear hb3 own2 g2' p2 q2 s2
  go_wp2_with fail
  clear c0 c1 c2 c3 d0 d1 e0 e1 e2 e3
  generalize (w2.alloc (.cells #[.slice aa n cc, .int .i64 pw] 37)) = w3 at g3' p3 q3 s3 t3 HB3 HR3 O3 ⊢
  refine (specAllowed_is _ _ _ _ _ _ _ _ _ _ _ _ _ _ HV.out hl h1 _ HR3.out).mono ?_
  rintro e w4 ⟨rfl, hb4⟩
  have q4 := keep_block hb4 q3 (lt_of_block q3)
  have s4 := keep_block hb4 s3 (lt_of_block s3)
  have t4 := keep_block hb4 t3 (lt_of_block t3)
  have HB4 : Hid (Below w.heap.size w w4) := HB3.out.trans (hb4.mono HB3.out.size)
  have O4 := Lib.hid (O3.out.below hb4)
  clear hb4 g3' p3 q3 s3 t3 HR3 HB3 O3
  cases v
  · obtain ⟨rfl, rfl⟩ := ARG0.out rfl
    clear ARG0 ARG
    obtain ⟨x0, x1⟩ := cells2 t4
    obtain ⟨y0, y1⟩ := cells2 s4
    have f0 := thawed s4 0
    have f1 := thawed s4 1
    have F1 : Hid (OwnK w.heap.size (.slice aa n cc) l' ((w4.setCell ⟨w.heap.size + 1 + 1 + 1, 0, none⟩ (.slice aa n cc)).setCell ⟨w.heap.size + 1 + 1 + 1, 1, none⟩ (.int .i64 pw'))) :=
      OwnK.mono (B := w1.heap.size) ((O4.out.setCell HNS.out _).setCell HNS.out _) (by have := HS1.out; omega)
    have F2 : Hid (Below w.heap.size w ((w4.setCell ⟨w.heap.size + 1 + 1 + 1, 0, none⟩ (.slice aa n cc)).setCell ⟨w.heap.size + 1 + 1 + 1, 1, none⟩ (.int .i64 pw'))) := (HB4.out.setCell (by simp; omega) _).setCell (by simp; omega) _
    go_wp2_with fail
    (try simp only [Exit.inBlock, Exit.then])
    refine bodyPost_ret (v := .tuple #[.agg #[.slice aa n cc, .int .i64 pw'], .bool false]) ?_ rfl ⟨_, _, rfl, F1.out, F2.out⟩
    simp [results, Tryz.results47, go_sem, y0, y1]
  · obtain ⟨hkk, hxx, rfl, rfl⟩ := ARG.out rfl
    clear ARG0 ARG
    have HD := Lib.hid (specDo_is (B := w1.heap.size) (P := w2.heap.size) (y := y) (z := z) hkk hxx hl h1 t4 O4.out HNE.out HS2.out)
    obtain ⟨e0, e1, e2, e3⟩ := cells4 q4
    clear hkk hxx t4 O4
    go_wp2_with fail
    refine HD.out.mono ?_
    rintro e w5 ⟨rfl, t5, own5, hb5⟩
    have s5 := keep_block hb5 s4 HS1.out
    have HB5 : Hid (Below w.heap.size w w5) := HB4.out.trans (hb5.mono (by have := HS1.out; omega))
    obtain ⟨x0, x1⟩ := cells2 t5
    obtain ⟨y0, y1⟩ := cells2 s5
    have f0 := thawed s5 0
    have f1 := thawed s5 1
    have F1 : Hid (OwnK w.heap.size (.slice aa n cc) (doL l k x y) ((w5.setCell ⟨w.heap.size + 1 + 1 + 1, 0, none⟩ (.slice aa n cc)).setCell ⟨w.heap.size + 1 + 1 + 1, 1, none⟩ (.int .i64 (doP pw k)))) :=
      OwnK.mono (B := w1.heap.size) ((own5.setCell HNS.out _).setCell HNS.out _) (by have := HS1.out; omega)
    have F2 : Hid (Below w.heap.size w ((w5.setCell ⟨w.heap.size + 1 + 1 + 1, 0, none⟩ (.slice aa n cc)).setCell ⟨w.heap.size + 1 + 1 + 1, 1, none⟩ (.int .i64 (doP pw k)))) := (HB5.out.setCell (by simp; omega) _).setCell (by simp; omega) _
    clear hb5 own5 HD q4 s4 HB4 e0 e1 e2 e3
    go_wp2_with fail
    (try simp only [Exit.inBlock, Exit.then])
    refine bodyPost_ret (v := .tuple #[.agg #[.slice aa n cc, .int .i64 (doP pw k)], .bool true]) ?_ rfl ⟨_, _, rfl, F1.out, F2.out⟩
    simp [results, Tryz.results47, go_sem, y0, y1]

end Go.Proofs.YthplhjdfajhmpaaGreat

namespace Go.Proofs.YthplhjdfajhmpaaGreat

set_option linter.unusedVariables false

def IRankNew : Prop := ∀ (g0 B g2 g3 : Int) (n : Nat) (hn : bankN g0 B g2 g3 = (n : Int)) (w : World), Calls Tryz.prog 32 #[.agg #[.int .i64 g0, .int .i64 B, .int .i64 g2, .int .i64 g3]] w (GivesK n (List.replicate n bk0) 0 w)

def IRankOk : Prop := ∀ (g0 B g2 g3 : Int) (a : Option Addr) (n c : Nat) (l : List Bk) (pw : Int) (v : Bool) (hv : decide (RkOk g0 B g2 g3 l pw) = v) (hl : l.length = n) (h1 : n ≤ 4000000) (hnc : a = none → c = 0) (w : World) (hr : RowB w a l), Calls Tryz.prog 97 #[.agg #[.int .i64 g0, .int .i64 B, .int .i64 g2, .int .i64 g3], .agg #[.slice a n c, .int .i64 pw]] w (Gives (.bool v) w)

def IAllowed : Prop := ∀ (g0 B g2 g3 : Int) (a : Option Addr) (n c : Nat) (l : List Bk) (pw : Int) (k x y z : Int) (v : Bool) (hv : allowR g0 B g2 g3 l pw k x y z = v) (hl : l.length = n) (h1 : n ≤ 4000000) (hnc : a = none → c = 0) (w : World) (hr : RowB w a l), Calls Tryz.prog 69 #[.agg #[.int .i64 g0, .int .i64 B, .int .i64 g2, .int .i64 g3], .agg #[.slice a n c, .int .i64 pw], .agg #[.int .i64 k, .int .i64 x, .int .i64 y, .int .i64 z]] w (Gives (.bool v) w)

def IRankAfter : Prop := ∀ (g0 B g2 g3 : Int) (a : Option Addr) (n c : Nat) (l : List Bk) (pw : Int) (k x y z : Int) (v : Bool) (l' : List Bk) (pw' : Int) (hv : allowR g0 B g2 g3 l pw k x y z = v) (hl' : afterL g0 B g2 g3 l pw k x y z = l') (hp' : afterP g0 B g2 g3 l pw k x y z = pw') (hl : l.length = n) (h1 : n ≤ 4000000) (hnc : a = none → c = 0) (w : World) (hr : RowB w a l), Calls Tryz.prog 35 #[.agg #[.int .i64 g0, .int .i64 B, .int .i64 g2, .int .i64 g3], .agg #[.slice a n c, .int .i64 pw], .agg #[.int .i64 k, .int .i64 x, .int .i64 y, .int .i64 z]] w (GivesA n l' pw' v w)

def IOpenBanks : Prop := ∀ (a : Option Addr) (n c : Nat) (l : List Bk) (pw : Int)  (hl : l.length = n) (h1 : n ≤ 4000000) (hnc : a = none → c = 0) (w : World) (hr : RowB w a l), Calls Tryz.prog 142 #[.agg #[.slice a n c, .int .i64 pw]] w (GivesI (openF 0 l) w)

end Go.Proofs.YthplhjdfajhmpaaGreat

namespace Go.Proofs.YthplhjdfajhmpaaGreat
open Go.RowKit Go.PlainAid

set_option linter.unusedVariables false

set_option maxHeartbeats 2000000 in
theorem implRankNew_is : IRankNew := by
  intro g0 B g2 g3 n hn w
  have hr := bankN_range g0 B g2 g3
  have hn8 : n ≤ 8 := by omega
  obtain ⟨i0, hi, hz0, hz1, hz2⟩ := info_parts infoK
  obtain ⟨w1, hw1⟩ : ∃ u, (w.alloc (.cells #[.int .i64 g0, .int .i64 B, .int .i64 g2, .int .i64 g3] 25)).alloc (.cells #[.slice none 0 0, .int .i64 0] 37) = u := ⟨_, rfl⟩
  have HB1 : Hid (Below w.heap.size w w1) := by subst hw1; exact ((Below.refl _ _).alloc (Nat.le_refl _) _).alloc (by simp) _
  have g1 : w1.heap[w.heap.size]? = some (.cells #[.int .i64 g0, .int .i64 B, .int .i64 g2, .int .i64 g3] 25) := by subst hw1; exact heap_alloc2_old _ _ _
  have p1 : w1.heap[w.heap.size + 1]? = some (.cells #[.slice none 0 0, .int .i64 0] 37) := by subst hw1; exact heap_alloc2_new _ _ _
  have HS1 : Hid (w.heap.size + 1 < w1.heap.size) := lt_of_block p1
  obtain ⟨c0, c1, c2, c3⟩ := cells4 g1
  have HN := Lib.hid hn
  by_cases hg : GeoOk g0 B g2 g3
  case neg =>
    have K := Lib.hid (decide_eq_false hg)
    have hn0 : n = 0 := by
      have : bankN g0 B g2 g3 = 0 := if_neg hg
      omega
    subst hn0
    clear hr hn hg
    go_enter Tryz.func32, Tryz.ntmps32
    go_wp2_with fail
    refine (implGeoOk_is _ _ _ _ _ K.out _).mono ?_
    rintro e w2 ⟨rfl, hb2⟩
    have p2 := keep_block hb2 p1 (lt_of_block p1)
    have HB2 : Hid (Below w.heap.size w w2) := HB1.out.trans (hb2.mono HB1.out.size)
    obtain ⟨x0, x1⟩ := cells2 p2
    have f0 := thawed p2 0
    have f1 := thawed p2 1
    clear hb2 c0 c1 c2 c3 hw1 g1 p1 HB1
    go_wp2_with fail
    (try simp only [Exit.inBlock, Exit.then])
    refine bodyPost_ret (v := .agg #[.slice none 0 0, .int .i64 0]) (by simp [results, Tryz.results32, go_sem, x0, x1]) rfl ⟨none, 0, rfl, ?_, ?_⟩
    · exact World.ownsRow_nil _ _ _ _
    · repeat' (first | exact HB2.out | refine Below.drew ?_ | refine Below.setCell ?_ (by simp <;> omega) _)
  have K := Lib.hid (decide_eq_true hg)
  clear hr hn hg
  go_enter Tryz.func32, Tryz.ntmps32
  go_wp2_with fail
  refine (implGeoOk_is _ _ _ _ _ K.out _).mono ?_
  rintro e w2' ⟨rfl, hb2'⟩
  have g2' := keep_block hb2' g1 (lt_of_block g1)
  have p2' := keep_block hb2' p1 (lt_of_block p1)
  have HB2' : Hid (Below w.heap.size w w2') := HB1.out.trans (hb2'.mono HB1.out.size)
  have HS2' : Hid (w1.heap.size ≤ w2'.heap.size) := hb2'.size
  clear hb2' c0 c1 c2 c3 hw1 g1 p1 HB1
  obtain ⟨c0, c1, c2, c3⟩ := cells4 g2'
  go_wp2_with fail
  refine (implBank_is _ _ _ _ _ HN.out _).mono ?_
  rintro e w2 ⟨rfl, hb2⟩
  have p2 := keep_block hb2 p2' (lt_of_block p2')
  have HB2 : Hid (Below w.heap.size w w2) := HB2'.out.trans (hb2.mono HB2'.out.size)
  have HS2 : Hid (w1.heap.size ≤ w2.heap.size) := Nat.le_trans HS2'.out hb2.size
  clear hb2 c0 c1 c2 c3 g2' p2' HB2'
  go_wp2_with (at_make; refine wpList_make_full _ rfl _ _ 35 rfl w1.heap.size 78 i0 (.agg #[.bool false, .int .i64 0]) 2 Tryz.underlying35 hi hz0 hz1 _ _ _ _ n rfl rfl rfl rfl (by rw [hz2]; omega) (by unfold maxLen; omega) HS2.out ?_)
  intro w3 hown hgr
  have hb3 : Below w2.heap.size w2 w3 := (Below.refl _ _).grown hgr (Nat.le_refl _) (fun k hk => by cases hk)
  have HO3 : Hid (OwnK w1.heap.size (.slice (some ⟨w2.heap.size, 0, none⟩) n n) (List.replicate n bk0) w3) := by
    show World.ownsRow _ _ _ _ _ _ _
    rw [made_bank] at hown
    rw [List.length_replicate]
    exact hown
  have p3 := keep_block hb3 p2 (lt_of_block p2)
  have HB3 : Hid (Below w.heap.size w w3) := HB2.out.trans (hb3.mono HB2.out.size)
  obtain ⟨x0, x1⟩ := cells2 p3
  have f0 := thawed p3 0
  have f1 := thawed p3 1
  clear hgr hown hb3 p2 HB2
  go_wp2_with fail
  (try simp only [Exit.inBlock, Exit.then])
  refine bodyPost_ret (v := .agg #[.slice (some ⟨w2.heap.size, 0, none⟩) n n, .int .i64 0]) (by simp [results, Tryz.results32, go_sem, x0, x1]) rfl ⟨_, _, rfl, ?_, ?_⟩
  · have hs := HS1.out
    refine OwnK.mono (B := w1.heap.size) ?_ (by omega)
    have hlo := HO3.out.lo
    repeat' (first | exact HO3.out | refine OwnK.setCell ?_ (fun x hx => by have := hlo x hx; simp; omega) _)
  · repeat' (first | exact HB3.out | refine Below.drew ?_ | refine Below.setCell ?_ (by simp <;> omega) _)

set_option maxHeartbeats 4000000 in
theorem implOpen_is : IOpenBanks := by
  intro a n c l pw hl h1 hnc w hr
  obtain ⟨i0, hi, hz0, hz1, hz2⟩ := info_parts infoI
  obtain ⟨w1, hw1⟩ : ∃ u, w.alloc (.cells #[.slice a n c, .int .i64 pw] 37) = u := ⟨_, rfl⟩
  have hb1 : Below w.heap.size w w1 := by subst hw1; exact (Below.refl _ _).alloc (Nat.le_refl _) _
  have p1 : w1.heap[w.heap.size]? = some (.cells #[.slice a n c, .int .i64 pw] 37) := by subst hw1; exact heap_alloc_new _ _
  have HS1 : Hid (w.heap.size < w1.heap.size) := lt_of_block p1
  have HB1 := Lib.hid hb1
  have HR := Lib.hid (hr.below hb1)
  have HL := Lib.hid hl
  obtain ⟨cp, cq⟩ := cells2 p1
  clear hr hl hb1 hnc
  go_enter Tryz.func142, Tryz.ntmps142
  go_wp2_with fail
  clear cp cq
  go_loopw [3, 9] (fun v i wr => ∃ k : Nat, k ≤ n ∧ i = .int .i64 k ∧ OwnI w1.heap.size v (openF 0 (l.take k)) wr ∧ Below w1.heap.size w1 wr) (fun _ i _ => n - (intOf i).toNat)
  case atStart => exact ⟨0, Nat.zero_le _, rfl, World.ownsRow_nil _ _ _ _, Below.refl _ _⟩
  case round =>
    obtain ⟨k, hk, rfl, hown, hbr⟩ := hrel
    have HO := Lib.hid hown
    have HBR := Lib.hid hbr
    have p2 := keep_block hbr p1 (lt_of_block p1)
    obtain ⟨cp, cq⟩ := cells2 p2
    clear hown hbr
    by_cases hlt : k < n
    · obtain ⟨bb, off, rfl, hs0, hs1⟩ := (HR.out.below HBR.out).at (k := k) (by rw [HL.out]; exact hlt)
      have HST := Lib.hid (openF_step (l := l) (k := k) (by rw [HL.out]; exact hlt))
      have hll : (openF 0 (l.take k)).length ≤ n := Nat.le_trans (openF_length _ _) (by rw [List.length_take, HL.out]; omega)
      generalize (l.getD k bk0).row = r at hs1
      have hbs := HBR.out.size
      obtain ⟨wn, hwn⟩ : ∃ u, wr.alloc (.cells #[.bool (l.getD k bk0).op, .int .i64 r] 78) = u := ⟨_, rfl⟩
      have HBN : Hid (Below w1.heap.size w1 wn) := by subst hwn; exact HBR.out.alloc hbs _
      have own7 : OwnI w1.heap.size u3 (openF 0 (l.take k)) wn := by subst hwn; exact World.ownsRow.alloc HO.out _
      have q1 : wn.heap[wr.heap.size]? = some (.cells #[.bool (l.getD k bk0).op, .int .i64 r] 78) := by subst hwn; exact heap_alloc_new _ _
      obtain ⟨x0, x1⟩ := cells2 q1
      cases ho : (l.getD k bk0).op
      · rw [ho] at hs0 HST x0 hwn
        clear ho q1
        have HST2 : Hid (openF 0 (l.take (k + 1)) = openF 0 (l.take k)) := by show _ = _; rw [HST.out]; rfl
        have O7 := Lib.hid own7
        clear own7 HO
        go_wp2_with fail
        go_roundw
        case rel => exact ⟨k + 1, by omega, by go_num, by rw [HST2.out]; exact O7.out, HBN.out⟩
        case measure => simp [intOf]; omega
      · rw [ho] at hs0 HST x0 hwn
        clear ho q1
        have HST2 : Hid (openF 0 (l.take (k + 1)) = openF 0 (l.take k) ++ [(k : Int)]) := by show _ = _; rw [HST.out]; rfl
        have hbn := HBN.out.size
        clear HO
        go_wp2_with (at_builtin; refine wpList_append_own _ rfl _ _ 31 rfl w1.heap.size 3 i0 (.int .i64 0) 1 8 Tryz.underlying31 hi hz0 hz1 hz2 rfl (by decide) _ _ _ rfl (World.ownsRow.alloc own7 _) ⟨wn.heap.size, 0, none⟩ 1 1 [.int .i64 (k : Int)] rfl rfl (cell_one_new _ _ _) (by intro u hu; simp at hu; subst hu; rfl) (by unfold maxLen; omega) (by omega) (by rw [World.size_alloc]; omega) ?_)
        intro v' w8 hown8 hgrow _
        have R : Hid (OwnI w1.heap.size v' (openF 0 (l.take (k + 1))) w8) := by
          have := ownI_more hown8
          rw [← HST2.out] at this
          exact this
        have hrow : ∀ j, Value.ownBlock u3 = some j → w1.heap.size ≤ j := fun j hj => (World.ownsRow.lt own7 j hj).1
        have hb8 : Below w1.heap.size wn w8 := ((Below.refl w1.heap.size wn).alloc (by omega) _).grown hgrow (by rw [World.size_alloc]; omega) hrow
        have HB8 : Hid (Below w1.heap.size w1 w8) := HBN.out.trans hb8
        clear hb8 hown8 hgrow own7 hrow HBR
        go_wp2_with fail
        go_roundw
        case rel => exact ⟨k + 1, by omega, by go_num, R.out, HB8.out⟩
        case measure => simp [intOf]; omega
    · obtain rfl : k = n := by omega
      have hO := HO.out
      rw [List.take_of_length_le (by rw [HL.out]; exact Nat.le_refl _)] at hO
      obtain ⟨aa, cc, hv⟩ := hO.shape
      have HO2 := Lib.hid hO
      have HV := Lib.hid hv
      clear hO hv
      go_wp2_with fail
      go_ret
      refine ⟨aa, cc, by first | rfl | (rw [HV.out]; rfl), ?_, HB1.out.trans (HBR.out.mono HB1.out.size)⟩
      have := HO2.out.mono (C := w.heap.size) HB1.out.size
      rw [HV.out] at this
      exact this

set_option maxHeartbeats 2000000 in
theorem implClosed_is (a : Option Addr) (n c : Nat) (l : List Bk) (pw : Int) (v : Bool) (hv : l.all (fun b => !b.op) = v) (hl : l.length = n) (h1 : n ≤ 4000000) (hnc : a = none → c = 0) (w : World) (hr : RowB w a l) :
    Calls Tryz.prog 120 #[.agg #[.slice a n c, .int .i64 pw]] w (Gives (.bool v) w) := by
  obtain ⟨w1, hw1⟩ : ∃ u, w.alloc (.cells #[.slice a n c, .int .i64 pw] 37) = u := ⟨_, rfl⟩
  have hb1 : Below w.heap.size w w1 := by subst hw1; exact (Below.refl _ _).alloc (Nat.le_refl _) _
  have p1 : w1.heap[w.heap.size]? = some (.cells #[.slice a n c, .int .i64 pw] 37) := by subst hw1; exact heap_alloc_new _ _
  obtain ⟨cp, cq⟩ := cells2 p1
  have HB1 := Lib.hid hb1
  have HR := Lib.hid (hr.below hb1)
  have HE : Hid (decide ((openF 0 l).length = 0) = v) := by show _ = _; rw [← hv, openF_none]
  clear hr hb1 hv
  go_enter Tryz.func120, Tryz.ntmps120
  go_wp2_with fail
  refine (implOpen_is _ _ _ _ _ hl h1 hnc _ HR.out).mono ?_
  rintro e w2 ⟨aa, cc, rfl, _, hb2⟩
  have HB2 : Hid (Below w.heap.size w w2) := HB1.out.trans (hb2.mono HB1.out.size)
  have hb : (((openF 0 l).length : Int) == 0) = decide ((openF 0 l).length = 0) := by
    by_cases e : (openF 0 l).length = 0
    · simp [e]
    · simp [e]
  rw [HE.out] at hb
  clear hb2
  go_wp2
  go_ret
  exact ⟨rfl, HB2.out⟩

set_option maxHeartbeats 2000000 in
theorem implPower_is (a : Option Addr) (n c : Nat) (l : List Bk) (pw : Int) (v : Bool) (hv : (if pw = 2 then l.all (fun b => !b.op) else decide (pw = 0 ∨ pw = 1)) = v) (hl : l.length = n) (h1 : n ≤ 4000000) (hnc : a = none → c = 0) (w : World) (hr : RowB w a l) :
    Calls Tryz.prog 111 #[.agg #[.slice a n c, .int .i64 pw]] w (Gives (.bool v) w) := by
  obtain ⟨w1, hw1⟩ : ∃ u, w.alloc (.cells #[.slice a n c, .int .i64 pw] 37) = u := ⟨_, rfl⟩
  have hb1 : Below w.heap.size w w1 := by subst hw1; exact (Below.refl _ _).alloc (Nat.le_refl _) _
  have p1 : w1.heap[w.heap.size]? = some (.cells #[.slice a n c, .int .i64 pw] 37) := by subst hw1; exact heap_alloc_new _ _
  obtain ⟨cp, cq⟩ := cells2 p1
  have HB1 := Lib.hid hb1
  have HR := Lib.hid (hr.below hb1)
  clear hr hb1
  by_cases hp2 : pw = 2
  · have t2 : (pw == 2) = true := by simp [hp2]
    rw [if_pos hp2] at hv
    have HV := Lib.hid hv
    clear hv hp2
    go_enter Tryz.func111, Tryz.ntmps111
    go_wp2_with fail
    refine (implClosed_is _ _ _ _ _ _ HV.out hl h1 hnc _ HR.out).mono ?_
    rintro e w2 ⟨rfl, hb2⟩
    have HB2 : Hid (Below w.heap.size w w2) := HB1.out.trans (hb2.mono HB1.out.size)
    clear hb2
    go_wp2
    go_ret
    exact ⟨rfl, HB2.out⟩
  · have t2 : (pw == 2) = false := by simp [hp2]
    rw [if_neg hp2] at hv
    by_cases hp0 : pw = 0
    · have t0 : (pw == 0) = true := by simp [hp0]
      have HE : Hid (v = true) := by show _ = _; rw [← hv]; exact decide_eq_true (.inl hp0)
      clear hv hp2 hp0
      go_enter Tryz.func111, Tryz.ntmps111
      go_wp2
      go_ret
      exact ⟨ret_b HE.out.symm, HB1.out⟩
    · have t0 : (pw == 0) = false := by simp [hp0]
      have HE : Hid ((pw == 1) = v) := by
        show _ = _
        rw [← hv]
        by_cases hp1 : pw = 1
        · simp [hp1]
        · simp [hp1, hp0]
      clear hv hp2 hp0
      go_enter Tryz.func111, Tryz.ntmps111
      go_wp2
      go_ret
      exact ⟨ret_b HE.out, HB1.out⟩

/-- A bank's state that fits a number of rows. -/
def FitB (rows : Int) (o : Bool) (r : Int) : Bool := if o = true then decide (0 ≤ r ∧ r < rows) else decide (r = 0)

set_option maxHeartbeats 2000000 in
theorem implFits_is (o : Bool) (r g0 B g2 g3 : Int) (v : Bool) (hv : FitB g2 o r = v) (w : World) :
    Calls Tryz.prog 110 #[.agg #[.bool o, .int .i64 r], .agg #[.int .i64 g0, .int .i64 B, .int .i64 g2, .int .i64 g3]] w (Gives (.bool v) w) := by
  obtain ⟨w1, hw1⟩ : ∃ u, (w.alloc (.cells #[.bool o, .int .i64 r] 78)).alloc (.cells #[.int .i64 g0, .int .i64 B, .int .i64 g2, .int .i64 g3] 25) = u := ⟨_, rfl⟩
  have HB1 : Hid (Below w.heap.size w w1) := by subst hw1; exact ((Below.refl _ _).alloc (Nat.le_refl _) _).alloc (by simp) _
  have p1 : w1.heap[w.heap.size]? = some (.cells #[.bool o, .int .i64 r] 78) := by subst hw1; exact heap_alloc2_old _ _ _
  have g1 : w1.heap[w.heap.size + 1]? = some (.cells #[.int .i64 g0, .int .i64 B, .int .i64 g2, .int .i64 g3] 25) := by subst hw1; exact heap_alloc2_new _ _ _
  obtain ⟨d0, d1⟩ := cells2 p1
  obtain ⟨c0, c1, c2, c3⟩ := cells4 g1
  cases o
  · have HE : Hid ((r == 0) = v) := by
      show _ = _
      rw [← hv]
      by_cases h : r = 0
      · simp [h, FitB]
      · simp [h, FitB]
    clear hv
    go_enter Tryz.func110, Tryz.ntmps110
    go_wp2
    go_ret
    exact ⟨ret_b HE.out, HB1.out⟩
  · by_cases h0 : 0 ≤ r
    · have t0 : decide (0 ≤ r) = true := decide_eq_true h0
      have HE : Hid (decide (r < g2) = v) := by
        show _ = _
        rw [← hv]
        by_cases h : r < g2
        · simp [h, FitB, h0]
        · simp [h, FitB]
      clear hv h0
      go_enter Tryz.func110, Tryz.ntmps110
      go_wp2
      go_ret
      exact ⟨ret_b HE.out, HB1.out⟩
    · have t0 : decide (0 ≤ r) = false := decide_eq_false h0
      have HE : Hid (v = false) := by
        show _ = _
        rw [← hv]
        simp [FitB, h0]
      clear hv h0
      go_enter Tryz.func110, Tryz.ntmps110
      go_wp2
      go_ret
      exact ⟨ret_b HE.out.symm, HB1.out⟩

end Go.Proofs.YthplhjdfajhmpaaGreat

namespace Go.Proofs.YthplhjdfajhmpaaGreat
open Go.RowKit Go.PlainAid

set_option linter.unusedVariables false

/-- Valid states, as they are found out here. -/
theorem rkOk_fits {g0 B g2 g3 : Int} {l : List Bk} {pw : Int} (hg : GeoOk g0 B g2 g3) (hn : (l.length : Int) = bankN g0 B g2 g3) :
    RkOk g0 B g2 g3 l pw ↔ (∀ j, j < l.length → FitB g2 (l.getD j bk0).op (l.getD j bk0).row = true) ∧ (if pw = 2 then l.all (fun b => !b.op) else decide (pw = 0 ∨ pw = 1)) = true := by
  have h2 := hg.2.2.1
  have hat : ∀ j (hj : j < l.length), l.getD j bk0 = l[j] := fun j hj => by rw [List.getD_eq_getElem?_getD, List.getElem?_eq_getElem hj]; rfl
  constructor
  · rintro ⟨_, _, hp, hb⟩
    refine ⟨fun j hj => ?_, ?_⟩
    · rw [hat j hj]
      obtain ⟨h1, h3, _⟩ := hb _ (List.getElem_mem hj)
      unfold FitB
      split
      · exact decide_eq_true (by omega)
      · rcases h3 with h3 | h3
        · contradiction
        · exact decide_eq_true h3
    · split
      · rename_i hp2
        rw [List.all_eq_true]
        intro b hbl
        rcases (hb b hbl).2.2 with h | h
        · simp [h]
        · exact absurd hp2 h
      · exact decide_eq_true (by omega)
  · rintro ⟨hf, hp⟩
    refine ⟨hg, hn, ?_, fun b hbl => ?_⟩
    · by_cases hp2 : pw = 2
      · omega
      · rw [if_neg hp2] at hp
        have := of_decide_eq_true hp
        omega
    · obtain ⟨j, hj, rfl⟩ := List.getElem_of_mem hbl
      have h := hf j hj
      rw [hat j hj] at h
      unfold FitB at h
      refine ⟨?_, ?_, ?_⟩
      · split at h
        · have := of_decide_eq_true h; omega
        · have := of_decide_eq_true h; omega
      · split at h
        · exact .inl (by assumption)
        · exact .inr (of_decide_eq_true h)
      · by_cases hp2 : pw = 2
        · rw [if_pos hp2, List.all_eq_true] at hp
          have := hp _ hbl
          exact .inl (by simpa using this)
        · exact .inr hp2

set_option maxHeartbeats 8000000 in
theorem implRankOk_is : IRankOk := by
  intro g0 B g2 g3 a n c l pw v hv hl h1 hnc w hr
  obtain ⟨w1, hw1⟩ : ∃ u, (w.alloc (.cells #[.int .i64 g0, .int .i64 B, .int .i64 g2, .int .i64 g3] 25)).alloc (.cells #[.slice a n c, .int .i64 pw] 37) = u := ⟨_, rfl⟩
  have hb1 : Below w.heap.size w w1 := by subst hw1; exact ((Below.refl _ _).alloc (Nat.le_refl _) _).alloc (by simp) _
  have g1 : w1.heap[w.heap.size]? = some (.cells #[.int .i64 g0, .int .i64 B, .int .i64 g2, .int .i64 g3] 25) := by subst hw1; exact heap_alloc2_old _ _ _
  have p1 : w1.heap[w.heap.size + 1]? = some (.cells #[.slice a n c, .int .i64 pw] 37) := by subst hw1; exact heap_alloc2_new _ _ _
  have HB1 := Lib.hid hb1
  have HR := Lib.hid (hr.below hb1)
  have HL := Lib.hid hl
  have HV := Lib.hid hv
  have HNC := Lib.hid hnc
  obtain ⟨c0, c1, c2, c3⟩ := cells4 g1
  obtain ⟨d0, d1⟩ := cells2 p1
  have z0 := fun q : Later w1 => q.cell c0
  have z1 := fun q : Later w1 => q.cell c1
  have z2 := fun q : Later w1 => q.cell c2
  have z3 := fun q : Later w1 => q.cell c3
  have y0 := fun q : Later w1 => q.cell d0
  have y1 := fun q : Later w1 => q.cell d1
  clear hr hv hb1 c0 c1 c2 c3 d0 d1 hnc
  obtain ⟨m, hm⟩ : ∃ m, bankN g0 B g2 g3 = m := ⟨_, rfl⟩
  have HM := Lib.hid hm
  by_cases hg : GeoOk g0 B g2 g3
  case neg =>
    have HE : Hid (v = false) := by show _ = _; rw [← HV.out]; exact decide_eq_false (fun h => hg h.1)
    have K := Lib.hid (decide_eq_false hg)
    clear hg hm
    go_enter Tryz.func97, Tryz.ntmps97
    go_wp2_with fail
    refine wp_region_later (by kernel_rfl) (by kernel_rfl) ?_
    repeat (go_big_quiet_step ((go_at_call 30; exact Gives.later _ (implGeoOk_is _ _ _ _ _ K.out _))))
    refine wpQuiet_nil ?_
    rintro w2 ⟨zz, hz⟩
    have HB2 : Hid (Below w.heap.size w w2) := HB1.out.trans ((hz ▸ zz.ok : Below w1.heap.size w1 w2).mono HB1.out.size)
    go_wp2
    go_ret
    exact ⟨ret_b HE.out.symm, HB2.out⟩
  have K := Lib.hid (decide_eq_true hg)
  have HG := Lib.hid hg
  by_cases hnm : (n : Int) = m
  case neg =>
    have HE : Hid (v = false) := by show _ = _; rw [← HV.out]; exact decide_eq_false (fun h => hnm (by rw [← HL.out, ← HM.out]; exact h.2.1))
    have t1 : ((n : Int) != m) = true := by simp [hnm]
    clear hg hm hnm
    go_enter Tryz.func97, Tryz.ntmps97
    go_wp2_with fail
    refine wp_region_later (by kernel_rfl) (by kernel_rfl) ?_
    repeat (go_big_quiet_step (first | (go_at_call 30; exact Gives.later _ (implGeoOk_is _ _ _ _ _ K.out _)) | (go_at_call 67; exact Gives.later _ (implBank_is _ _ _ _ _ HM.out _))))
    refine wpQuiet_nil ?_
    rintro w2 ⟨zz, hz⟩
    have HB2 : Hid (Below w.heap.size w w2) := HB1.out.trans ((hz ▸ zz.ok : Below w1.heap.size w1 w2).mono HB1.out.size)
    go_wp2
    go_ret
    exact ⟨ret_b HE.out.symm, HB2.out⟩
  have t1 : ((n : Int) != m) = false := by simp [hnm]
  have HNM := Lib.hid hnm
  have HIFF := Lib.hid (rkOk_fits (l := l) (pw := pw) hg (by rw [HL.out, HM.out]; exact hnm))
  clear hg hm hnm
  go_enter Tryz.func97, Tryz.ntmps97
  go_wp2_with fail
  refine wp_region_later (by kernel_rfl) (by kernel_rfl) ?_
  repeat (go_big_quiet_step (first | (go_at_call 30; exact Gives.later _ (implGeoOk_is _ _ _ _ _ K.out _)) | (go_at_call 67; exact Gives.later _ (implBank_is _ _ _ _ _ HM.out _))))
  refine wpQuiet_nil ?_
  rintro w2 ⟨zz, hz⟩
  have hb2 : Below w1.heap.size w1 w2 := hz ▸ zz.ok
  have g2' := keep_block hb2 g1 (lt_of_block g1)
  have p2 := keep_block hb2 p1 (lt_of_block p1)
  have HB2 : Hid (Below w.heap.size w w2) := HB1.out.trans (hb2.mono HB1.out.size)
  have HR2 := Lib.hid (HR.out.below hb2)
  obtain ⟨d0, d1⟩ := cells2 p2
  clear z0 z1 z2 z3 y0 y1 hz zz hb2 hw1 g1 p1 HB1 HR t1 K
  go_wp2_with fail
  clear d0 d1
  go_loopw [21] (fun i wr => ∃ k : Nat, k ≤ n ∧ i = .int .i64 k ∧ (∀ j, j < k → FitB g2 (l.getD j bk0).op (l.getD j bk0).row = true) ∧ Below w2.heap.size w2 wr) (fun i _ => n - (intOf i).toNat)
  case atStart => exact ⟨0, Nat.zero_le _, rfl, fun j hj => absurd hj (Nat.not_lt_zero _), Below.refl _ _⟩
  case round =>
    obtain ⟨k, hk, rfl, hall, hbr⟩ := hrel
    have HALL := Lib.hid hall
    have HBR := Lib.hid hbr
    have HBW : Hid (Below w.heap.size w wr) := HB2.out.trans (hbr.mono HB2.out.size)
    have g3' := keep_block hbr g2' (lt_of_block g2')
    have p3 := keep_block hbr p2 (lt_of_block p2)
    clear hall hbr
    by_cases hlt : k < n
    · obtain ⟨bb, off, rfl, hs0, hs1⟩ := (HR2.out.below HBR.out).at (k := k) (by rw [HL.out]; exact hlt)
      have NO : Hid (FitB g2 (l.getD k bk0).op (l.getD k bk0).row = false → v = false) := fun h => by
        rw [← HV.out]
        refine decide_eq_false (fun hh => ?_)
        have := (HIFF.out.1 hh).1 k (by rw [HL.out]; exact hlt)
        rw [h] at this
        cases this
      have YES : Hid (FitB g2 (l.getD k bk0).op (l.getD k bk0).row = true → ∀ j, j < k + 1 → FitB g2 (l.getD j bk0).op (l.getD j bk0).row = true) := fun h j hj => by
        by_cases e : j = k
        · rw [e]; exact h
        · exact HALL.out j (by omega)
      generalize (l.getD k bk0).op = o at hs0 NO YES
      generalize (l.getD k bk0).row = r at hs1 NO YES
      obtain ⟨wn, hwn⟩ : ∃ u, wr.alloc (.cells #[.bool o, .int .i64 r] 78) = u := ⟨_, rfl⟩
      have hbn : Below wr.heap.size wr wn := by subst hwn; exact (Below.refl _ _).alloc (Nat.le_refl _) _
      have q4 : wn.heap[wr.heap.size]? = some (.cells #[.bool o, .int .i64 r] 78) := by subst hwn; exact heap_alloc_new _ _
      have g4 := keep_block hbn g3' (lt_of_block g3')
      obtain ⟨x0, x1⟩ := cells2 q4
      obtain ⟨c0, c1, c2, c3⟩ := cells4 g4
      have HBN : Hid (Below w2.heap.size w2 wn) := HBR.out.trans (hbn.mono HBR.out.size)
      have HBV : Hid (Below w.heap.size w wn) := HBW.out.trans (hbn.mono HBW.out.size)
      clear hbn
      obtain ⟨u, hu⟩ : ∃ u, FitB g2 o r = u := ⟨_, rfl⟩
      have HU := Lib.hid hu
      rw [hu] at NO YES
      clear hu
      go_wp2_with fail
      refine (implFits_is _ _ _ _ _ _ _ HU.out _).mono ?_
      rintro e w5 ⟨rfl, hb5⟩
      have HB5 : Hid (Below w2.heap.size w2 w5) := HBN.out.trans (hb5.mono HBN.out.size)
      have HB6 : Hid (Below w.heap.size w w5) := HBV.out.trans (hb5.mono HBV.out.size)
      clear hb5 HU
      cases u
      · have HE := Lib.hid (NO.out rfl)
        go_wp2
        go_ret
        exact ⟨ret_b HE.out.symm, HB6.out⟩
      · have OK := Lib.hid (YES.out rfl)
        go_wp2_with fail
        go_roundw
        case rel => exact ⟨k + 1, by omega, by go_num, OK.out, HB5.out⟩
        case measure => simp [intOf]; omega
    · obtain rfl : k = n := by omega
      obtain ⟨u, hu⟩ : ∃ u, (if pw = 2 then l.all (fun b => !b.op) else decide (pw = 0 ∨ pw = 1)) = u := ⟨_, rfl⟩
      have HU := Lib.hid hu
      have HE : Hid (u = v) := by
        show _ = _
        rw [← HV.out, ← hu, Bool.eq_iff_iff, decide_eq_true_iff]
        exact ⟨fun h => HIFF.out.2 ⟨fun j hj => HALL.out j (by rw [← HL.out]; exact hj), h⟩, fun h => (HIFF.out.1 h).2⟩
      obtain ⟨d0, d1⟩ := cells2 p3
      have HR3 := Lib.hid (HR2.out.below HBR.out)
      clear hu
      go_wp2_with fail
      refine (implPower_is _ _ _ _ _ _ HU.out HL.out h1 HNC.out _ HR3.out).mono ?_
      rintro e w5 ⟨rfl, hb5⟩
      have HB6 : Hid (Below w.heap.size w w5) := HBW.out.trans (hb5.mono HBW.out.size)
      clear hb5
      go_wp2
      go_ret
      exact ⟨ret_b HE.out, HB6.out⟩

/-- What the banks allow, apart from the power. -/
def banksR (l : List Bk) (k x : Int) : Bool :=
  if k = 1 ∨ k = 5 then !(l.getD x.toNat bk0).op
  else if k = 2 ∨ k = 3 ∨ k = 4 then (l.getD x.toNat bk0).op
  else if k = 8 then l.all (fun b => !b.op)
  else decide (k = 6)

theorem banks_kind {k : Int} (h : 1 ≤ k ∧ k ≤ 9) (h7 : k ≠ 7) (h9 : k ≠ 9) : (k = 1 ∨ k = 2 ∨ k = 3 ∨ k = 4 ∨ k = 5) ∨ k = 6 ∨ k = 8 := by omega

set_option maxHeartbeats 8000000 in
theorem implBanksAllow_is (a : Option Addr) (n c : Nat) (l : List Bk) (pw k x y z : Int) (v : Bool) (hv : banksR l k x = v) (hk : 1 ≤ k ∧ k ≤ 9) (h7 : k ≠ 7) (h9 : k ≠ 9) (hx : k ≤ 5 → 0 ≤ x ∧ x < (n : Int)) (hl : l.length = n) (h1 : n ≤ 4000000) (hnc : a = none → c = 0) (w : World) (hr : RowB w a l) :
    Calls Tryz.prog 112 #[.agg #[.slice a n c, .int .i64 pw], .agg #[.int .i64 k, .int .i64 x, .int .i64 y, .int .i64 z]] w (Gives (.bool v) w) := by
  obtain ⟨w1, hw1⟩ : ∃ u, (w.alloc (.cells #[.slice a n c, .int .i64 pw] 37)).alloc (.cells #[.int .i64 k, .int .i64 x, .int .i64 y, .int .i64 z] 41) = u := ⟨_, rfl⟩
  have hb1 : Below w.heap.size w w1 := by subst hw1; exact ((Below.refl _ _).alloc (Nat.le_refl _) _).alloc (by simp) _
  have g1 : w1.heap[w.heap.size]? = some (.cells #[.slice a n c, .int .i64 pw] 37) := by subst hw1; exact heap_alloc2_old _ _ _
  have p1 : w1.heap[w.heap.size + 1]? = some (.cells #[.int .i64 k, .int .i64 x, .int .i64 y, .int .i64 z] 41) := by subst hw1; exact heap_alloc2_new _ _ _
  obtain ⟨d0, d1⟩ := cells2 g1
  obtain ⟨e0, e1, e2, e3⟩ := cells4 p1
  have HB1 := Lib.hid hb1
  have HR := Lib.hid (hr.below hb1)
  have HL := Lib.hid hl
  clear hr hb1 g1 p1
  rcases banks_kind hk h7 h9 with h5 | rfl | rfl
  · obtain ⟨hx0, hx1⟩ := hx (by omega)
    obtain ⟨j, rfl⟩ := Int.eq_ofNat_of_zero_le hx0
    have hj : j < n := by omega
    obtain ⟨bb, off, rfl, hs0, hs1⟩ := HR.out.at (k := j) (by omega)
    have hv' : (if k = 1 ∨ k = 5 then !(l.getD j bk0).op else (l.getD j bk0).op) = v := by
      rw [← hv]
      unfold banksR
      rw [Int.toNat_natCast]
      by_cases e1 : k = 1 ∨ k = 5
      · rw [if_pos e1, if_pos e1]
      · rw [if_neg e1, if_neg e1, if_pos (by omega)]
    generalize (l.getD j bk0).op = o at hs0 hv'
    clear hv hx hk h7 h9 hx0 hx1
    rcases h5 with rfl | rfl | rfl | rfl | rfl
    all_goals (cases o <;> (subst hv'; go_enter Tryz.func112, Tryz.ntmps112; go_wp2; go_ret; exact ⟨rfl, HB1.out⟩))
  · have HE : Hid (v = true) := by show _ = _; rw [← hv]; rfl
    clear hv hx hk h7 h9
    go_enter Tryz.func112, Tryz.ntmps112
    go_wp2
    go_ret
    exact ⟨ret_b HE.out.symm, HB1.out⟩
  · have HE : Hid (l.all (fun b => !b.op) = v) := by show _ = _; rw [← hv]; rfl
    clear hv hx hk h7 h9
    go_enter Tryz.func112, Tryz.ntmps112
    go_wp2_with fail
    refine (implClosed_is _ _ _ _ _ _ HE.out hl h1 hnc _ HR.out).mono ?_
    rintro e w2 ⟨rfl, hb2⟩
    have HB2 : Hid (Below w.heap.size w w2) := HB1.out.trans (hb2.mono HB1.out.size)
    clear hb2
    go_wp2
    go_ret
    exact ⟨rfl, HB2.out⟩

theorem mayR_banks {l : List Bk} {pw k x : Int} (hk : 1 ≤ k ∧ k ≤ 9) (h7 : k ≠ 7) (h9 : k ≠ 9) : mayR l pw k x = (decide (pw = 0) && banksR l k x) := by
  rcases banks_kind hk h7 h9 with (rfl | rfl | rfl | rfl | rfl) | rfl | rfl <;> simp [mayR, banksR]

set_option maxHeartbeats 8000000 in
theorem implAllows_is (a : Option Addr) (n c : Nat) (l : List Bk) (pw k x y z : Int) (v : Bool) (hv : mayR l pw k x = v) (hk : 1 ≤ k ∧ k ≤ 9) (hx : k ≤ 5 → 0 ≤ x ∧ x < (n : Int)) (hl : l.length = n) (h1 : n ≤ 4000000) (hnc : a = none → c = 0) (w : World) (hr : RowB w a l) :
    Calls Tryz.prog 98 #[.agg #[.slice a n c, .int .i64 pw], .agg #[.int .i64 k, .int .i64 x, .int .i64 y, .int .i64 z]] w (Gives (.bool v) w) := by
  obtain ⟨w1, hw1⟩ : ∃ u, (w.alloc (.cells #[.slice a n c, .int .i64 pw] 37)).alloc (.cells #[.int .i64 k, .int .i64 x, .int .i64 y, .int .i64 z] 41) = u := ⟨_, rfl⟩
  have hb1 : Below w.heap.size w w1 := by subst hw1; exact ((Below.refl _ _).alloc (Nat.le_refl _) _).alloc (by simp) _
  have g1 : w1.heap[w.heap.size]? = some (.cells #[.slice a n c, .int .i64 pw] 37) := by subst hw1; exact heap_alloc2_old _ _ _
  have p1 : w1.heap[w.heap.size + 1]? = some (.cells #[.int .i64 k, .int .i64 x, .int .i64 y, .int .i64 z] 41) := by subst hw1; exact heap_alloc2_new _ _ _
  obtain ⟨d0, d1⟩ := cells2 g1
  obtain ⟨e0, e1, e2, e3⟩ := cells4 p1
  have HB1 := Lib.hid hb1
  have HR := Lib.hid (hr.below hb1)
  clear hr hb1 g1 p1
  by_cases h7 : k = 7
  · subst h7
    have HE : Hid ((pw == 1) = v) := by show _ = _; rw [← hv]; simp [mayR]; rfl
    clear hv hk hx
    go_enter Tryz.func98, Tryz.ntmps98
    go_wp2
    go_ret
    exact ⟨ret_b HE.out, HB1.out⟩
  by_cases h9 : k = 9
  · subst h9
    have HE : Hid ((pw == 2) = v) := by show _ = _; rw [← hv]; simp [mayR]; rfl
    clear hv hk hx h7
    go_enter Tryz.func98, Tryz.ntmps98
    go_wp2
    go_ret
    exact ⟨ret_b HE.out, HB1.out⟩
  have t7 : (k == 7) = false := by simp [h7]
  have t9 : (k == 9) = false := by simp [h9]
  rw [mayR_banks hk h7 h9] at hv
  have HK := Lib.hid hk
  have HX := Lib.hid hx
  have H7 := Lib.hid h7
  have H9 := Lib.hid h9
  clear hk hx h7 h9
  by_cases hp : pw = 0
  · have tp : (pw == 0) = true := by simp [hp]
    have HE : Hid (banksR l k x = v) := by show _ = _; rw [← hv]; simp [hp]
    clear hv hp
    go_enter Tryz.func98, Tryz.ntmps98
    go_wp2_with fail
    refine (implBanksAllow_is _ _ _ _ _ _ _ _ _ _ HE.out HK.out H7.out H9.out HX.out hl h1 hnc _ HR.out).mono ?_
    rintro e w2 ⟨rfl, hb2⟩
    have HB2 : Hid (Below w.heap.size w w2) := HB1.out.trans (hb2.mono HB1.out.size)
    clear hb2
    go_wp2
    go_ret
    exact ⟨rfl, HB2.out⟩
  · have tp : (pw == 0) = false := by simp [hp]
    have HE : Hid (false = v) := by show _ = _; rw [← hv]; simp [hp]
    clear hv hp
    go_enter Tryz.func98, Tryz.ntmps98
    go_wp2
    go_ret
    exact ⟨ret_b HE.out, HB1.out⟩

set_option maxHeartbeats 4000000 in
theorem implAllowed_is : IAllowed := by
  intro g0 B g2 g3 a n c l pw k x y z v hv hl h1 hnc w hr
  obtain ⟨w1, hw1⟩ : ∃ u, ((w.alloc (.cells #[.int .i64 g0, .int .i64 B, .int .i64 g2, .int .i64 g3] 25)).alloc (.cells #[.slice a n c, .int .i64 pw] 37)).alloc (.cells #[.int .i64 k, .int .i64 x, .int .i64 y, .int .i64 z] 41) = u := ⟨_, rfl⟩
  have hb1 : Below w.heap.size w w1 := by subst hw1; exact (((Below.refl _ _).alloc (Nat.le_refl _) _).alloc (by simp) _).alloc (by simp; omega) _
  have g1 : w1.heap[w.heap.size]? = some (.cells #[.int .i64 g0, .int .i64 B, .int .i64 g2, .int .i64 g3] 25) := by subst hw1; exact box3_0 _ _ _ _
  have p1 : w1.heap[w.heap.size + 1]? = some (.cells #[.slice a n c, .int .i64 pw] 37) := by subst hw1; exact box3_1 _ _ _ _
  have q1 : w1.heap[w.heap.size + 1 + 1]? = some (.cells #[.int .i64 k, .int .i64 x, .int .i64 y, .int .i64 z] 41) := by subst hw1; exact box3_2 _ _ _ _
  obtain ⟨c0, c1, c2, c3⟩ := cells4 g1
  obtain ⟨d0, d1⟩ := cells2 p1
  obtain ⟨e0, e1, e2, e3⟩ := cells4 q1
  have HB1 := Lib.hid hb1
  have HR := Lib.hid (hr.below hb1)
  clear hr hb1
  by_cases hR : RkOk g0 B g2 g3 l pw
  case neg =>
    have HE : Hid (v = false) := by show _ = _; rw [← hv]; unfold allowR; rw [decide_eq_false (fun h => hR h.1)]; rfl
    have K := Lib.hid (decide_eq_false hR)
    clear hv hR
    go_enter Tryz.func69, Tryz.ntmps69
    go_wp2_with fail
    refine (implRankOk_is _ _ _ _ _ _ _ _ _ _ K.out hl h1 hnc _ HR.out).mono ?_
    rintro e w2 ⟨rfl, hb2⟩
    have HB2 : Hid (Below w.heap.size w w2) := HB1.out.trans (hb2.mono HB1.out.size)
    clear hb2
    go_wp2
    go_ret
    exact ⟨ret_b HE.out.symm, HB2.out⟩
  have K := Lib.hid (decide_eq_true hR)
  by_cases hC : CmOk k x y z ∧ AdOk g0 B g2 g3 x y z
  case neg =>
    have HE : Hid (v = false) := by show _ = _; rw [← hv]; unfold allowR; rw [decide_eq_false (fun h => hC h.2)]; rfl
    have KC := Lib.hid (decide_eq_false hC)
    clear hv hR hC
    go_enter Tryz.func69, Tryz.ntmps69
    go_wp2_with fail
    refine (implRankOk_is _ _ _ _ _ _ _ _ _ _ K.out hl h1 hnc _ HR.out).mono ?_
    rintro e w2 ⟨rfl, hb2⟩
    have g2' := keep_block hb2 g1 (lt_of_block g1)
    have q2 := keep_block hb2 q1 (lt_of_block q1)
    have HB2 : Hid (Below w.heap.size w w2) := HB1.out.trans (hb2.mono HB1.out.size)
    clear hb2 c0 c1 c2 c3 d0 d1 e0 e1 e2 e3
    obtain ⟨c0, c1, c2, c3⟩ := cells4 g2'
    obtain ⟨e0, e1, e2, e3⟩ := cells4 q2
    go_wp2_with fail
    refine (implCommandOk_is _ _ _ _ _ _ _ _ _ KC.out _).mono ?_
    rintro e w3 ⟨rfl, hb3⟩
    have HB3 : Hid (Below w.heap.size w w3) := HB2.out.trans (hb3.mono HB2.out.size)
    clear hb3
    go_wp2
    go_ret
    exact ⟨ret_b HE.out.symm, HB3.out⟩
  have KC := Lib.hid (decide_eq_true hC)
  have HE : Hid (mayR l pw k x = v) := by show _ = _; rw [← hv]; unfold allowR; rw [decide_eq_true ⟨hR, hC⟩]; rfl
  have hkk := hC.1.1
  have hxx : Hid (0 ≤ x ∧ x < (n : Int)) := bank_in (k := k) hl hR hC.2
  clear hv hR hC
  go_enter Tryz.func69, Tryz.ntmps69
  go_wp2_with fail
  refine (implRankOk_is _ _ _ _ _ _ _ _ _ _ K.out hl h1 hnc _ HR.out).mono ?_
  rintro e w2 ⟨rfl, hb2⟩
  have g2' := keep_block hb2 g1 (lt_of_block g1)
  have p2 := keep_block hb2 p1 (lt_of_block p1)
  have q2 := keep_block hb2 q1 (lt_of_block q1)
  have HB2 : Hid (Below w.heap.size w w2) := HB1.out.trans (hb2.mono HB1.out.size)
  have HR2 := Lib.hid (HR.out.below hb2)
  clear hb2 c0 c1 c2 c3 d0 d1 e0 e1 e2 e3
  obtain ⟨c0, c1, c2, c3⟩ := cells4 g2'
  obtain ⟨e0, e1, e2, e3⟩ := cells4 q2
  go_wp2_with fail
  refine (implCommandOk_is _ _ _ _ _ _ _ _ _ KC.out _).mono ?_
  rintro e w3 ⟨rfl, hb3⟩
  have p3 := keep_block hb3 p2 (lt_of_block p2)
  have q3 := keep_block hb3 q2 (lt_of_block q2)
  have HB3 : Hid (Below w.heap.size w w3) := HB2.out.trans (hb3.mono HB2.out.size)
  have HR3 := Lib.hid (HR2.out.below hb3)
  clear hb3 c0 c1 c2 c3 e0 e1 e2 e3
  obtain ⟨d0, d1⟩ := cells2 p3
  obtain ⟨e0, e1, e2, e3⟩ := cells4 q3
  go_wp2_with fail
  refine (implAllows_is _ _ _ _ _ _ _ _ _ _ HE.out hkk (fun _ => hxx.out) hl h1 hnc _ HR3.out).mono ?_
  rintro e w4 ⟨rfl, hb4⟩
  have HB4 : Hid (Below w.heap.size w w4) := HB3.out.trans (hb4.mono HB3.out.size)
  clear hb4
  go_wp2
  go_ret
  exact ⟨rfl, HB4.out⟩

end Go.Proofs.YthplhjdfajhmpaaGreat

namespace Go.Proofs.YthplhjdfajhmpaaGreat
open Go.RowKit Go.PlainAid

set_option linter.unusedVariables false

/-- A call that answers a row of banks of its own. -/
def GivesB (n : Nat) (l : List Bk) (w : World) (e : Ending) (w' : World) : Prop :=
  ∃ a cap, e = .returned (.slice a n cap) ∧ OwnK w.heap.size (.slice a n cap) l w' ∧ Below w.heap.size w w'

theorem rowB_src {w : World} {ad : Addr} {l : List Bk} (h : RowB w (some ad) l) : ∀ j u, (l.flatMap Bk.vs)[j]? = some u → w.cell? (ad.add j) = some u := by
  rcases h with rfl | ⟨b, off, hb, h⟩
  · intro j u hu; simp at hu
  · cases hb
    exact RowB.flat h

set_option maxHeartbeats 4000000 in
theorem implClone_is (a : Option Addr) (n c : Nat) (l : List Bk) (hl : l.length = n) (h1 : n ≤ 4000000) (hnc : a = none → c = 0) (w : World) (hr : RowB w a l) :
    Calls Tryz.prog 99 #[.slice a n c] w (GivesB n l w) := by
  obtain ⟨i0, hi, hz0, hz1, hz2⟩ := info_parts infoK
  have q0 : ∀ (w : World) (a : Option Addr) (n c n' c' : Nat), (Go.binOp .eql 35 (.slice a n c) (.slice none n' c')).run Tryz.prog w = .ok (.bool a.isNone) w := fun w a n c n' c' => Lib.run_eql_slice_nil w _ _ a n c n' c' Tryz.underlying35
  rcases a with _ | ad
  · have hl0 : l = [] := by rcases hr with h | ⟨_, _, h, _⟩; exact h; cases h
    subst hl0
    obtain rfl : n = 0 := hl.symm
    obtain rfl : c = 0 := hnc rfl
    clear hr hl hnc
    go_enter Tryz.func99, Tryz.ntmps99
    go_wp2
    go_ret
    exact ⟨none, 0, rfl, World.ownsRow_nil _ _ _ _, Below.refl _ _⟩
  · have HR := Lib.hid hr
    have HL := Lib.hid hl
    clear hr hl hnc
    go_enter Tryz.func99, Tryz.ntmps99
    have own3 := World.ownsRow_made (base := w.heap.size) (e := 78) (size := 2) w #[] 0 (Nat.le_refl _) (by decide) rfl
    have hb3 : Below w.heap.size w (w.alloc (.cells #[] 78)) := (Below.refl _ _).alloc (Nat.le_refl _) _
    have HR3 := Lib.hid (HR.out.below hb3)
    have hS3 : w.heap.size ≤ (w.alloc (.cells #[] 78)).heap.size := by simp
    go_wp2_with (at_builtin; refine wpList_append_own _ rfl _ _ 35 rfl w.heap.size 78 i0 (.agg #[.bool false, .int .i64 0]) 2 16 Tryz.underlying35 hi hz0 hz1 hz2 rfl (by decide) _ 0 [] rfl own3 ad n c (l.flatMap Bk.vs) rfl (by rw [vs_length, HL.out]) (rowB_src HR3.out) (vs_oneCell l) (by unfold maxLen; omega) (by omega) hS3 ?_)
    intro v' w4 hown4 hgrow _
    have O4 : Hid (OwnK w.heap.size v' l w4) := by
      show World.ownsRow _ _ _ _ _ _ _
      rw [HL.out]
      simpa using hown4
    have hb4 : Below w.heap.size (w.alloc (.cells #[] 78)) w4 := (Below.refl _ _).grown hgrow hS3 (fun j hj => (World.ownsRow.lt own3 j hj).1)
    have HB4 : Hid (Below w.heap.size w w4) := hb3.trans hb4
    have hsh : Hid (∃ aa cc, v' = .slice aa n cc) := by
      obtain ⟨aa, cc, h⟩ := O4.out.shape
      rw [HL.out] at h
      exact ⟨aa, cc, h⟩
    clear hown4 hgrow hb4 own3 hb3
    obtain ⟨aa, cc, rfl⟩ := hsh.out
    clear hsh
    go_wp2
    go_ret
    exact ⟨aa, cc, rfl, O4.out, HB4.out⟩

set_option maxHeartbeats 4000000 in
theorem implCopied_is (a : Option Addr) (n c : Nat) (l : List Bk) (pw : Int) (hl : l.length = n) (h1 : n ≤ 4000000) (hnc : a = none → c = 0) (w : World) (hr : RowB w a l) :
    Calls Tryz.prog 70 #[.agg #[.slice a n c, .int .i64 pw]] w (GivesK n l pw w) := by
  obtain ⟨w1, hw1⟩ : ∃ u, (w.alloc (.cells #[.slice a n c, .int .i64 pw] 37)).alloc (.cells #[.slice none 0 0, .int .i64 0] 37) = u := ⟨_, rfl⟩
  have hb1 : Below w.heap.size w w1 := by subst hw1; exact ((Below.refl _ _).alloc (Nat.le_refl _) _).alloc (by simp) _
  have g1 : w1.heap[w.heap.size]? = some (.cells #[.slice a n c, .int .i64 pw] 37) := by subst hw1; exact heap_alloc2_old _ _ _
  have p1 : w1.heap[w.heap.size + 1]? = some (.cells #[.slice none 0 0, .int .i64 0] 37) := by subst hw1; exact heap_alloc2_new _ _ _
  have HS1 : Hid (w.heap.size + 1 < w1.heap.size) := lt_of_block p1
  have HB1 := Lib.hid hb1
  have HR := Lib.hid (hr.below hb1)
  have HL := Lib.hid hl
  have HNC := Lib.hid hnc
  clear hr hl hb1 hnc
  go_enter Tryz.func70, Tryz.ntmps70
  go_wp2_with fail
  refine wp_region_float (A := ?A) [.h, .h, .t, .h, .h, .t, .e] (by kernel_rfl) (by kernel_rfl) (fun u => u.cell? ⟨w.heap.size, 0, none⟩ = some (.slice a n c) ∧ u.cell? ⟨w.heap.size, 1, none⟩ = some (.int .i64 pw)) ?hC ?hH ?hT
  case hC => exact cells2 g1
  case hH =>
    intro u hu
    have z0 := fun q : Same u => q.cell hu.1
    have z1 := fun q : Same u => q.cell hu.2
    simp only [headsOf]
    repeat (go_big_quiet_step (fail))
    refine wpQuiet_nil ?_
    exact rfl
  case hT =>
    simp only [chainT]
    have HBd : Hid (Below w.heap.size w w1.drew) := Below.drew HB1.out
    have HRd : Hid (RowB w1.drew a l) := HR.out
    have HSd : Hid (w.heap.size + 1 < w1.drew.heap.size) := HS1.out
    have gd : w1.drew.heap[w.heap.size]? = some (.cells #[.slice a n c, .int .i64 pw] 37) := g1
    have pd : w1.drew.heap[w.heap.size + 1]? = some (.cells #[.slice none 0 0, .int .i64 0] 37) := p1
    clear HB1 HR HS1 g1 p1 hw1
    generalize w1.drew = w2 at HBd HRd HSd gd pd ⊢
    go_wp2_with fail
    refine (implClone_is _ _ _ _ HL.out h1 HNC.out _ HRd.out).mono ?_
    rintro e w4 ⟨aa, cc, rfl, own4, hb4⟩
    have g4 := keep_block hb4 gd (lt_of_block gd)
    have p4 := keep_block hb4 pd (lt_of_block pd)
    have HB4 : Hid (Below w.heap.size w w4) := HBd.out.trans (hb4.mono (by have := HSd.out; omega))
    have fin : Hid (OwnK w.heap.size (.slice aa n cc) l ((w4.setCell ⟨w.heap.size + 1, 0, none⟩ (.slice aa n cc)).setCell ⟨w.heap.size + 1, 1, none⟩ (.int .i64 pw)) ∧ Below w.heap.size w ((w4.setCell ⟨w.heap.size + 1, 0, none⟩ (.slice aa n cc)).setCell ⟨w.heap.size + 1, 1, none⟩ (.int .i64 pw))) := by
      have hlo := own4.lo
      have hs := HSd.out
      refine ⟨OwnK.mono (B := w2.heap.size) ?_ (by omega), (HB4.out.setCell (by simp) _).setCell (by simp) _⟩
      exact (own4.setCell (fun x hx => by have := hlo x hx; simp; omega) _).setCell (fun x hx => by have := hlo x hx; simp; omega) _
    clear own4 hb4
    go_wp2_with fail
    refine stepQ_normal ⟨cells2 g4, ?_⟩
    go_wp2_with fail
    refine stepQ_normal ⟨cells2 g4, ?_⟩
    obtain ⟨b0, b1⟩ := cells2 p4
    have f0 := thawed p4 0
    have f1 := thawed p4 1
    go_wp2_with fail
    refine stepQ_normal ⟨trivial, ?_⟩
    go_wp2_with fail
    (try simp only [Exit.inBlock, Exit.then])
    refine bodyPost_ret (v := .agg #[.slice aa n cc, .int .i64 pw]) ?_ rfl ⟨_, _, rfl, fin.out.1, fin.out.2⟩
    simp [results, Tryz.results70, go_sem, b0, b1]

theorem after_kind {k : Int} (h : 1 ≤ k ∧ k ≤ 9) : k = 1 ∨ k = 4 ∨ k = 6 ∨ k = 8 ∨ k = 7 ∨ k = 9 ∨ (k = 2 ∨ k = 3 ∨ k = 5) := by omega

set_option maxHeartbeats 8000000 in
theorem implDone_is (a : Option Addr) (n c : Nat) (l : List Bk) (pw k x y z : Int) (hk : 1 ≤ k ∧ k ≤ 9) (hx : k ≤ 5 → 0 ≤ x ∧ x < (n : Int)) (hl : l.length = n) (h1 : n ≤ 4000000) (hnc : a = none → c = 0) (w : World) (hr : RowB w a l) :
    Calls Tryz.prog 34 #[.agg #[.slice a n c, .int .i64 pw], .agg #[.int .i64 k, .int .i64 x, .int .i64 y, .int .i64 z]] w (GivesK n (doL l k x y) (doP pw k) w) := by
  obtain ⟨w1, hw1⟩ : ∃ u, ((w.alloc (.cells #[.slice a n c, .int .i64 pw] 37)).alloc (.cells #[.int .i64 k, .int .i64 x, .int .i64 y, .int .i64 z] 41)).alloc (.cells #[.slice none 0 0, .int .i64 0] 37) = u := ⟨_, rfl⟩
  have HB1 : Hid (Below w.heap.size w w1) := by subst hw1; exact (((Below.refl _ _).alloc (Nat.le_refl _) _).alloc (by simp) _).alloc (by simp; omega) _
  have p1 : w1.heap[w.heap.size]? = some (.cells #[.slice a n c, .int .i64 pw] 37) := by subst hw1; exact box3_0 _ _ _ _
  have q1 : w1.heap[w.heap.size + 1]? = some (.cells #[.int .i64 k, .int .i64 x, .int .i64 y, .int .i64 z] 41) := by subst hw1; exact box3_1 _ _ _ _
  have s1 : w1.heap[w.heap.size + 1 + 1]? = some (.cells #[.slice none 0 0, .int .i64 0] 37) := by subst hw1; exact box3_2 _ _ _ _
  have HS1 : Hid (w.heap.size + 1 + 1 < w1.heap.size) := lt_of_block s1
  have HR := Lib.hid (hr.below HB1.out)
  have HL := Lib.hid hl
  have HNC := Lib.hid hnc
  have HX := Lib.hid hx
  have HK := Lib.hid hk
  obtain ⟨d0, d1⟩ := cells2 p1
  clear hr hl hnc hx hk
  go_enter Tryz.func34, Tryz.ntmps34
  go_wp2_with fail
  refine (implCopied_is _ _ _ _ _ HL.out h1 HNC.out _ HR.out).mono ?_
  rintro e w2 ⟨aa, cc, rfl, own2, hb2⟩
  have q2 := keep_block hb2 q1 (lt_of_block q1)
  have s2 := keep_block hb2 s1 (lt_of_block s1)
  have HB2 : Hid (Below w.heap.size w w2) := HB1.out.trans (hb2.mono HB1.out.size)
  have HS2 : Hid (w1.heap.size ≤ w2.heap.size) := hb2.size
  clear d0 d1 hw1 p1 q1 s1 HB1 HR hb2
  obtain ⟨w3, hw3⟩ : ∃ u, w2.alloc (.cells #[.slice aa n cc, .int .i64 pw] 37) = u := ⟨_, rfl⟩
  have hb3 : Below w2.heap.size w2 w3 := by subst hw3; exact (Below.refl _ _).alloc (Nat.le_refl _) _
  have q3 := keep_block hb3 q2 (lt_of_block q2)
  have s3 := keep_block hb3 s2 (lt_of_block s2)
  have t3 : w3.heap[w2.heap.size]? = some (.cells #[.slice aa n cc, .int .i64 pw] 37) := by subst hw3; exact heap_alloc_new _ _
  have HB3 : Hid (Below w.heap.size w w3) := HB2.out.trans (hb3.mono HB2.out.size)
  have O3 := Lib.hid (own2.below hb3)
  have HNE : Hid (∀ x, aa = some x → x.block ≠ w2.heap.size) := fun x hx => by have := (own2.lo x hx).2; omega
  have HNS : Hid (∀ x, aa = some x → x.block ≠ w.heap.size + 1 + 1) := fun x hx => by have := (own2.lo x hx).1; have := HS1.out; omega
  have HPS : Hid (w2.heap.size ≠ w.heap.size + 1 + 1) := by have := HS1.out; have := HS2.out; show _ ≠ _; omega
  clear hb3 own2 q2 s2 HB2
  obtain ⟨e0, e1, e2, e3⟩ := cells4 q3
  obtain ⟨x0, x1⟩ := cells2 t3
  obtain ⟨y0, y1⟩ := cells2 s3
  have f0 := thawed s3 0
  have f1 := thawed s3 1
  have F1 := thawed t3 1
  have fin : Hid (∀ (l' : List Bk) (pw' : Int) (w5 : World), OwnK w1.heap.size (.slice aa n cc) l' w5 → Below w.heap.size w w5 →
      OwnK w.heap.size (.slice aa n cc) l' ((w5.setCell ⟨w.heap.size + 1 + 1, 0, none⟩ (.slice aa n cc)).setCell ⟨w.heap.size + 1 + 1, 1, none⟩ (.int .i64 pw')) ∧
      Below w.heap.size w ((w5.setCell ⟨w.heap.size + 1 + 1, 0, none⟩ (.slice aa n cc)).setCell ⟨w.heap.size + 1 + 1, 1, none⟩ (.int .i64 pw'))) := by
    intro l' pw' w5 ho hb
    refine ⟨OwnK.mono (B := w1.heap.size) ((ho.setCell HNS.out _).setCell HNS.out _) (by have := HS1.out; omega), (hb.setCell (by simp; omega) _).setCell (by simp; omega) _⟩
  rcases after_kind HK.out with rfl | rfl | rfl | rfl | rfl | rfl | h
  · obtain ⟨hx0, hx1⟩ := HX.out (by omega)
    obtain ⟨j, rfl⟩ := Int.eq_ofNat_of_zero_le hx0
    have hj : j < n := by omega
    obtain ⟨g, rfl, ho0, ho1, hf, hBg, hgl⟩ := O3.out.at (k := j) (by rw [HL.out]; exact hj)
    have HG : Hid (w2.heap.size ≠ g) := Ne.symm (HNE.out _ rfl)
    have HGS : Hid (w.heap.size + 1 + 1 ≠ g) := Ne.symm (HNS.out _ rfl)
    have hf0 := hf (j * 2)
    have hf1 := hf (j * 2 + 1)
    obtain ⟨old0, hco0⟩ : ∃ u, w3.cell? ⟨g, j * 2, none⟩ = some u := ⟨_, ho0⟩
    obtain ⟨old1, hco1⟩ : ∃ u, w3.cell? ⟨g, j * 2 + 1, none⟩ = some u := ⟨_, ho1⟩
    have ta : (w3.setCell ⟨g, j * 2, none⟩ (.bool true)).heap[w2.heap.size]? = _ := (Below.heap_setCell _ _ _ _ HG.out).trans t3
    have tb : ((w3.setCell ⟨g, j * 2, none⟩ (.bool true)).setCell ⟨g, j * 2 + 1, none⟩ (.int .i64 y)).heap[w2.heap.size]? = _ := (Below.heap_setCell _ _ _ _ HG.out).trans ta
    have sa : (w3.setCell ⟨g, j * 2, none⟩ (.bool true)).heap[w.heap.size + 1 + 1]? = _ := (Below.heap_setCell _ _ _ _ HGS.out).trans s3
    have sb : ((w3.setCell ⟨g, j * 2, none⟩ (.bool true)).setCell ⟨g, j * 2 + 1, none⟩ (.int .i64 y)).heap[w.heap.size + 1 + 1]? = _ := (Below.heap_setCell _ _ _ _ HGS.out).trans sa
    obtain ⟨ta0, ta1⟩ := cells2 ta
    obtain ⟨tb0, tb1⟩ := cells2 tb
    obtain ⟨sa0, sa1⟩ := cells2 sa
    obtain ⟨sb0, sb1⟩ := cells2 sb
    have G := Lib.hid (fin.out (l.set j ⟨true, y⟩) pw ((w3.setCell ⟨g, j * 2, none⟩ (.bool true)).setCell ⟨g, j * 2 + 1, none⟩ (.int .i64 y)) (O3.out.stored HL.out (by rw [HL.out]; exact hj) ⟨true, y⟩) ((HB3.out.setCell (by have := HS1.out; show _ ≤ g; omega) _).setCell (by have := HS1.out; show _ ≤ g; omega) _))
    clear ho0 ho1 hf ta tb sa sb q3 fin
    go_wp2_with fail
    (try simp only [Exit.inBlock, Exit.then])
    refine bodyPost_ret (v := .agg #[.slice (some ⟨g, 0, none⟩) n cc, .int .i64 pw]) ?_ rfl ⟨_, _, rfl, G.out.1, G.out.2⟩
    simp [results, Tryz.results34, go_sem, sb0, sb1]
  · obtain ⟨hx0, hx1⟩ := HX.out (by omega)
    obtain ⟨j, rfl⟩ := Int.eq_ofNat_of_zero_le hx0
    have hj : j < n := by omega
    obtain ⟨g, rfl, ho0, ho1, hf, hBg, hgl⟩ := O3.out.at (k := j) (by rw [HL.out]; exact hj)
    have HG : Hid (w2.heap.size ≠ g) := Ne.symm (HNE.out _ rfl)
    have HGS : Hid (w.heap.size + 1 + 1 ≠ g) := Ne.symm (HNS.out _ rfl)
    have hf0 := hf (j * 2)
    have hf1 := hf (j * 2 + 1)
    obtain ⟨old0, hco0⟩ : ∃ u, w3.cell? ⟨g, j * 2, none⟩ = some u := ⟨_, ho0⟩
    obtain ⟨old1, hco1⟩ : ∃ u, w3.cell? ⟨g, j * 2 + 1, none⟩ = some u := ⟨_, ho1⟩
    have ta : (w3.setCell ⟨g, j * 2, none⟩ (.bool false)).heap[w2.heap.size]? = _ := (Below.heap_setCell _ _ _ _ HG.out).trans t3
    have tb : ((w3.setCell ⟨g, j * 2, none⟩ (.bool false)).setCell ⟨g, j * 2 + 1, none⟩ (.int .i64 0)).heap[w2.heap.size]? = _ := (Below.heap_setCell _ _ _ _ HG.out).trans ta
    have sa : (w3.setCell ⟨g, j * 2, none⟩ (.bool false)).heap[w.heap.size + 1 + 1]? = _ := (Below.heap_setCell _ _ _ _ HGS.out).trans s3
    have sb : ((w3.setCell ⟨g, j * 2, none⟩ (.bool false)).setCell ⟨g, j * 2 + 1, none⟩ (.int .i64 0)).heap[w.heap.size + 1 + 1]? = _ := (Below.heap_setCell _ _ _ _ HGS.out).trans sa
    obtain ⟨ta0, ta1⟩ := cells2 ta
    obtain ⟨tb0, tb1⟩ := cells2 tb
    obtain ⟨sa0, sa1⟩ := cells2 sa
    obtain ⟨sb0, sb1⟩ := cells2 sb
    have G := Lib.hid (fin.out (l.set j bk0) pw ((w3.setCell ⟨g, j * 2, none⟩ (.bool false)).setCell ⟨g, j * 2 + 1, none⟩ (.int .i64 0)) (O3.out.stored HL.out (by rw [HL.out]; exact hj) bk0) ((HB3.out.setCell (by have := HS1.out; show _ ≤ g; omega) _).setCell (by have := HS1.out; show _ ≤ g; omega) _))
    clear ho0 ho1 hf ta tb sa sb q3 fin
    go_wp2_with fail
    (try simp only [Exit.inBlock, Exit.then])
    refine bodyPost_ret (v := .agg #[.slice (some ⟨g, 0, none⟩) n cc, .int .i64 pw]) ?_ rfl ⟨_, _, rfl, G.out.1, G.out.2⟩
    simp [results, Tryz.results34, go_sem, sb0, sb1]
  · have tb : (w3.setCell ⟨w2.heap.size, 1, none⟩ (.int .i64 1)).heap[w2.heap.size]? = _ := set_cells t3 1 _
    have sb : (w3.setCell ⟨w2.heap.size, 1, none⟩ (.int .i64 1)).heap[w.heap.size + 1 + 1]? = _ := (Below.heap_setCell _ _ _ _ (Ne.symm HPS.out)).trans s3
    obtain ⟨tb0, tb1⟩ := cells2 tb
    obtain ⟨sb0, sb1⟩ := cells2 sb
    have G := Lib.hid (fin.out l 1 (w3.setCell ⟨w2.heap.size, 1, none⟩ (.int .i64 1)) (O3.out.setCell HNE.out _) (HB3.out.setCell (by have := HS1.out; have := HS2.out; show _ ≤ w2.heap.size; omega) _))
    clear tb sb q3 fin
    go_wp2_with fail
    (try simp only [Exit.inBlock, Exit.then])
    refine bodyPost_ret (v := .agg #[.slice aa n cc, .int .i64 1]) ?_ rfl ⟨_, _, rfl, G.out.1, G.out.2⟩
    simp [results, Tryz.results34, go_sem, sb0, sb1]
  · have tb : (w3.setCell ⟨w2.heap.size, 1, none⟩ (.int .i64 2)).heap[w2.heap.size]? = _ := set_cells t3 1 _
    have sb : (w3.setCell ⟨w2.heap.size, 1, none⟩ (.int .i64 2)).heap[w.heap.size + 1 + 1]? = _ := (Below.heap_setCell _ _ _ _ (Ne.symm HPS.out)).trans s3
    obtain ⟨tb0, tb1⟩ := cells2 tb
    obtain ⟨sb0, sb1⟩ := cells2 sb
    have G := Lib.hid (fin.out l 2 (w3.setCell ⟨w2.heap.size, 1, none⟩ (.int .i64 2)) (O3.out.setCell HNE.out _) (HB3.out.setCell (by have := HS1.out; have := HS2.out; show _ ≤ w2.heap.size; omega) _))
    clear tb sb q3 fin
    go_wp2_with fail
    (try simp only [Exit.inBlock, Exit.then])
    refine bodyPost_ret (v := .agg #[.slice aa n cc, .int .i64 2]) ?_ rfl ⟨_, _, rfl, G.out.1, G.out.2⟩
    simp [results, Tryz.results34, go_sem, sb0, sb1]
  · have tb : (w3.setCell ⟨w2.heap.size, 1, none⟩ (.int .i64 0)).heap[w2.heap.size]? = _ := set_cells t3 1 _
    have sb : (w3.setCell ⟨w2.heap.size, 1, none⟩ (.int .i64 0)).heap[w.heap.size + 1 + 1]? = _ := (Below.heap_setCell _ _ _ _ (Ne.symm HPS.out)).trans s3
    obtain ⟨tb0, tb1⟩ := cells2 tb
    obtain ⟨sb0, sb1⟩ := cells2 sb
    have G := Lib.hid (fin.out l 0 (w3.setCell ⟨w2.heap.size, 1, none⟩ (.int .i64 0)) (O3.out.setCell HNE.out _) (HB3.out.setCell (by have := HS1.out; have := HS2.out; show _ ≤ w2.heap.size; omega) _))
    clear tb sb q3 fin
    go_wp2_with fail
    (try simp only [Exit.inBlock, Exit.then])
    refine bodyPost_ret (v := .agg #[.slice aa n cc, .int .i64 0]) ?_ rfl ⟨_, _, rfl, G.out.1, G.out.2⟩
    simp [results, Tryz.results34, go_sem, sb0, sb1]
  · have tb : (w3.setCell ⟨w2.heap.size, 1, none⟩ (.int .i64 0)).heap[w2.heap.size]? = _ := set_cells t3 1 _
    have sb : (w3.setCell ⟨w2.heap.size, 1, none⟩ (.int .i64 0)).heap[w.heap.size + 1 + 1]? = _ := (Below.heap_setCell _ _ _ _ (Ne.symm HPS.out)).trans s3
    obtain ⟨tb0, tb1⟩ := cells2 tb
    obtain ⟨sb0, sb1⟩ := cells2 sb
    have G := Lib.hid (fin.out l 0 (w3.setCell ⟨w2.heap.size, 1, none⟩ (.int .i64 0)) (O3.out.setCell HNE.out _) (HB3.out.setCell (by have := HS1.out; have := HS2.out; show _ ≤ w2.heap.size; omega) _))
    clear tb sb q3 fin
    go_wp2_with fail
    (try simp only [Exit.inBlock, Exit.then])
    refine bodyPost_ret (v := .agg #[.slice aa n cc, .int .i64 0]) ?_ rfl ⟨_, _, rfl, G.out.1, G.out.2⟩
    simp [results, Tryz.results34, go_sem, sb0, sb1]
  · have G := Lib.hid (fin.out l pw w3 O3.out HB3.out)
    clear q3 fin
    rcases h with rfl | rfl | rfl
    all_goals (
      go_wp2_with fail
      (try simp only [Exit.inBlock, Exit.then])
      refine bodyPost_ret (v := .agg #[.slice aa n cc, .int .i64 pw]) ?_ rfl ⟨_, _, rfl, G.out.1, G.out.2⟩
      simp [results, Tryz.results34, go_sem, y0, y1])

set_option maxHeartbeats 4000000 in
theorem implAfter_is : IRankAfter := by
  intro g0 B g2 g3 a n c l pw k x y z v l' pw' hv hl' hp' hl h1 hnc w hr
  obtain ⟨w1, hw1⟩ : ∃ u, (((w.alloc (.cells #[.int .i64 g0, .int .i64 B, .int .i64 g2, .int .i64 g3] 25)).alloc (.cells #[.slice a n c, .int .i64 pw] 37)).alloc (.cells #[.int .i64 k, .int .i64 x, .int .i64 y, .int .i64 z] 41)).alloc (.cells #[.slice none 0 0, .int .i64 0] 37) = u := ⟨_, rfl⟩
  have hb1 : Below w.heap.size w w1 := by subst hw1; exact ((((Below.refl _ _).alloc (Nat.le_refl _) _).alloc (by simp) _).alloc (by simp; omega) _).alloc (by simp; omega) _
  have g1 : w1.heap[w.heap.size]? = some (.cells #[.int .i64 g0, .int .i64 B, .int .i64 g2, .int .i64 g3] 25) := by subst hw1; exact four_0 _ _ _ _ _
  have p1 : w1.heap[w.heap.size + 1]? = some (.cells #[.slice a n c, .int .i64 pw] 37) := by subst hw1; exact four_1 _ _ _ _ _
  have q1 : w1.heap[w.heap.size + 1 + 1]? = some (.cells #[.int .i64 k, .int .i64 x, .int .i64 y, .int .i64 z] 41) := by subst hw1; exact four_2 _ _ _ _ _
  have s1 : w1.heap[w.heap.size + 1 + 1 + 1]? = some (.cells #[.slice none 0 0, .int .i64 0] 37) := by subst hw1; exact four_3 _ _ _ _ _
  have HS1 : Hid (w.heap.size + 1 + 1 + 1 < w1.heap.size) := lt_of_block s1
  obtain ⟨c0, c1, c2, c3⟩ := cells4 g1
  obtain ⟨d0, d1⟩ := cells2 p1
  obtain ⟨e0, e1, e2, e3⟩ := cells4 q1
  have HB1 := Lib.hid hb1
  have HR := Lib.hid (hr.below hb1)
  have HNC := Lib.hid hnc
  clear hr hb1 hnc
  have HV := Lib.hid hv
  have ARG : Hid (v = true → (1 ≤ k ∧ k ≤ 9) ∧ (k ≤ 5 → 0 ≤ x ∧ x < (n : Int)) ∧ l' = doL l k x y ∧ pw' = doP pw k) := fun h => by
    rw [h] at hv
    have hd := hv
    unfold allowR at hd
    rw [Bool.and_eq_true, decide_eq_true_eq] at hd
    exact ⟨hd.1.2.1.1, fun _ => bank_in (k := k) hl hd.1.1 hd.1.2.2, by rw [← hl']; exact if_pos hv, by rw [← hp']; exact if_pos hv⟩
  have ARG0 : Hid (v = false → l' = l ∧ pw' = pw) := fun h => by
    have hn : ¬ allowR g0 B g2 g3 l pw k x y z = true := by rw [hv, h]; simp
    exact ⟨by rw [← hl']; exact if_neg hn, by rw [← hp']; exact if_neg hn⟩
  clear hv hl' hp'
  go_enter Tryz.func35, Tryz.ntmps35
  go_wp2_with fail
  refine (implAllowed_is _ _ _ _ _ _ _ _ _ _ _ _ _ _ HV.out hl h1 HNC.out _ HR.out).mono ?_
  rintro e w2 ⟨rfl, hb2⟩
  have p2 := keep_block hb2 p1 (lt_of_block p1)
  have q2 := keep_block hb2 q1 (lt_of_block q1)
  have s2 := keep_block hb2 s1 (lt_of_block s1)
  have HB2 : Hid (Below w.heap.size w w2) := HB1.out.trans (hb2.mono HB1.out.size)
  have HR2 := Lib.hid (HR.out.below hb2)
  have HS2 : Hid (w1.heap.size ≤ w2.heap.size) := hb2.size
  clear c0 c1 c2 c3 d0 d1 e0 e1 e2 e3 hw1 g1 p1 q1 s1 HB1 HR hb2
  obtain ⟨d0, d1⟩ := cells2 p2
  obtain ⟨e0, e1, e2, e3⟩ := cells4 q2
  have fin : Hid (∀ (aa : Option Addr) (cc : Nat) (l' : List Bk) (pw' : Int) (w5 : World), OwnK w2.heap.size (.slice aa n cc) l' w5 → Below w2.heap.size w2 w5 →
      OwnK w.heap.size (.slice aa n cc) l' ((w5.setCell ⟨w.heap.size + 1 + 1 + 1, 0, none⟩ (.slice aa n cc)).setCell ⟨w.heap.size + 1 + 1 + 1, 1, none⟩ (.int .i64 pw')) ∧
      Below w.heap.size w ((w5.setCell ⟨w.heap.size + 1 + 1 + 1, 0, none⟩ (.slice aa n cc)).setCell ⟨w.heap.size + 1 + 1 + 1, 1, none⟩ (.int .i64 pw'))) := by
    intro aa cc l' pw' w5 ho hb
    have hs := HS1.out
    have hs2 := HS2.out
    have hlo := ho.lo
    refine ⟨OwnK.mono (B := w2.heap.size) ?_ (by omega), ((HB2.out.trans (hb.mono HB2.out.size)).setCell (by simp; omega) _).setCell (by simp; omega) _⟩
    exact (ho.setCell (fun x hx => by have := hlo x hx; simp; omega) _).setCell (fun x hx => by have := hlo x hx; simp; omega) _
  cases v
  · obtain ⟨rfl, rfl⟩ := ARG0.out rfl
    clear ARG0 ARG
    go_wp2_with fail
    refine (implCopied_is _ _ _ _ _ hl h1 HNC.out _ HR2.out).mono ?_
    rintro e w3 ⟨aa, cc, rfl, own3, hb3⟩
    have s3 := keep_block hb3 s2 (lt_of_block s2)
    obtain ⟨y0, y1⟩ := cells2 s3
    have f0 := thawed s3 0
    have f1 := thawed s3 1
    have G := Lib.hid (fin.out aa cc _ pw' w3 own3 hb3)
    clear own3 hb3 fin
    go_wp2_with fail
    (try simp only [Exit.inBlock, Exit.then])
    refine bodyPost_ret (v := .tuple #[.agg #[.slice aa n cc, .int .i64 pw'], .bool false]) ?_ rfl ⟨_, _, rfl, G.out.1, G.out.2⟩
    simp [results, Tryz.results35, go_sem, y0, y1]
  · obtain ⟨hkk, hxx, rfl, rfl⟩ := ARG.out rfl
    clear ARG0 ARG
    have HK := Lib.hid hkk
    have HX := Lib.hid hxx
    clear hkk hxx
    go_wp2_with fail
    refine (implDone_is _ _ _ _ _ _ _ _ _ HK.out HX.out hl h1 HNC.out _ HR2.out).mono ?_
    rintro e w3 ⟨aa, cc, rfl, own3, hb3⟩
    have s3 := keep_block hb3 s2 (lt_of_block s2)
    obtain ⟨y0, y1⟩ := cells2 s3
    have f0 := thawed s3 0
    have f1 := thawed s3 1
    have G := Lib.hid (fin.out aa cc _ (doP pw k) w3 own3 hb3)
    clear own3 hb3 fin
    go_wp2_with fail
    (try simp only [Exit.inBlock, Exit.then])
    refine bodyPost_ret (v := .tuple #[.agg #[.slice aa n cc, .int .i64 (doP pw k)], .bool true]) ?_ rfl ⟨_, _, rfl, G.out.1, G.out.2⟩
    simp [results, Tryz.results35, go_sem, y0, y1]

end Go.Proofs.YthplhjdfajhmpaaGreat

namespace Go.Proofs.YthplhjdfajhmpaaGreat
open Go.RowKit

set_option linter.unusedVariables false

theorem OwnK.apart {B n c g : Nat} {a : Option Addr} {l : List Bk} {u : World} {vs : Array Value} {fr : Nat × Nat} (h : OwnK B (.slice a n c) l u) (hh : u.heap[g]? = some (.cells vs 37 fr)) : ∀ x, a = some x → x.block ≠ g := by
  rintro x rfl e
  rcases h.2 with ⟨hv, _⟩ | ⟨b, cap, cur, hv, _, hb, _⟩
  · cases hv
  · cases hv
    subst e
    rw [hb] at hh
    injection hh with h1
    injection h1 with _ h2 _
    exact absurd h2 (by decide)

/-- From operation s on a variable is there; behind t it holds a rank with a row of its own. -/
def MadeR (s t base n : Nat) (l : List Bk) (pw : Int) (listed : Array Bool) (x : Nat → Value) (u : World) : Prop :=
  (listed.getD t false = true → listed.getD s false = true) ∧
  (listed.getD s false = true → ∃ g, x s = .pointer (some ⟨g, 0, none⟩) ∧ base ≤ g ∧
    (listed.getD t false = false → u.heap[g]? = some (.cells #[.slice none 0 0, .int .i64 0] 37)) ∧
    (listed.getD t false = true → ∃ aa cc, u.heap[g]? = some (.cells #[.slice aa n cc, .int .i64 pw] 37) ∧ OwnK base (.slice aa n cc) l u))

theorem MadeR.zero (s t base n : Nat) (l : List Bk) (pw : Int) (k : Nat) (x : Nat → Value) (u : World) : MadeR s t base n l pw (Array.replicate k false) x u :=
  ⟨fun h => (by rw [getD_replicate_false] at h; cases h), fun h => by rw [getD_replicate_false] at h; cases h⟩

theorem MadeR.keep {s t base n : Nat} {l : List Bk} {pw : Int} {listed : Array Bool} {x : Nat → Value} {u u' : World} (h : MadeR s t base n l pw listed x u) {i : Nat} (hs : i ≠ s) (ht : i ≠ t) (v : Value) (hb : Below u.heap.size u u') :
    MadeR s t base n l pw (listed.setIfInBounds i true) (upd x i v) u' := by
  refine ⟨fun h1 => ?_, fun h1 => ?_⟩
  · rw [getD_set_ne false ht] at h1
    exact getD_set_true (h.1 h1)
  · rw [getD_set_ne false hs] at h1
    rw [getD_set_ne false ht]
    obtain ⟨g, e, hg, hz, hf⟩ := h.2 h1
    refine ⟨g, by rw [upd_other _ _ (Ne.symm hs)]; exact e, hg, fun h0 => keep_block hb (hz h0) (lt_of_block (hz h0)), fun h0 => ?_⟩
    obtain ⟨aa, cc, hh, ho⟩ := hf h0
    exact ⟨aa, cc, keep_block hb hh (lt_of_block hh), ho.below hb⟩

theorem MadeR.new {s t base n : Nat} {l : List Bk} {pw : Int} {listed : Array Bool} {x : Nat → Value} {u : World} (h : MadeR s t base n l pw listed x u) (hst : s ≠ t) (hs : listed.getD s false = false) (hb : base ≤ u.heap.size) :
    MadeR s t base n l pw (listed.setIfInBounds s true) (upd x s (.pointer (some ⟨u.heap.size, 0, none⟩))) (u.alloc (.cells #[.slice none 0 0, .int .i64 0] 37)) := by
  have ht : listed.getD t false = false := by
    cases e : listed.getD t false with
    | false => rfl
    | true => have := h.1 e; rw [hs] at this; cases this
  refine ⟨fun h1 => ?_, fun h1 => ?_⟩
  · rw [getD_set_ne false hst, ht] at h1; cases h1
  · rw [getD_set_ne false hst, ht]
    exact ⟨_, upd_same _ _ _, hb, fun _ => heap_alloc_new _ _, fun h0 => by cases h0⟩

theorem MadeR.there {s t base n : Nat} {l : List Bk} {pw : Int} {listed : Array Bool} {x : Nat → Value} {u : World} (h : MadeR s t base n l pw listed x u) (hs : listed.getD s false = true) (ht : listed.getD t false = false) :
    ∃ g, x s = .pointer (some ⟨g, 0, none⟩) ∧ base ≤ g ∧ u.heap[g]? = some (.cells #[.slice none 0 0, .int .i64 0] 37) := by
  obtain ⟨g, e, hg, hz, _⟩ := h.2 hs
  exact ⟨g, e, hg, hz ht⟩

theorem MadeR.fill {s t base n : Nat} {l : List Bk} {pw : Int} {listed : Array Bool} {x : Nat → Value} {u' : World} {g cc : Nat} {aa : Option Addr} {v : Value} (hst : s ≠ t) (hs : listed.getD s false = true) (ht : t < listed.size) (hx : x s = .pointer (some ⟨g, 0, none⟩)) (hg : base ≤ g)
    (hh : u'.heap[g]? = some (.cells #[.slice aa n cc, .int .i64 pw] 37)) (ho : OwnK base (.slice aa n cc) l u') : MadeR s t base n l pw (listed.setIfInBounds t true) (upd x t v) u' := by
  refine ⟨fun _ => getD_set_true hs, fun _ => ⟨g, by rw [upd_other _ _ hst]; exact hx, hg, fun h0 => ?_, fun _ => ⟨aa, cc, hh, ho⟩⟩⟩
  rw [get_set_same false ht] at h0
  cases h0

theorem MadeR.full {s t base n : Nat} {l : List Bk} {pw : Int} {listed : Array Bool} {x : Nat → Value} {u : World} (h : MadeR s t base n l pw listed x u) (hs : listed.getD s false = true) (ht : listed.getD t false = true) :
    ∃ g aa cc, x s = .pointer (some ⟨g, 0, none⟩) ∧ base ≤ g ∧ u.heap[g]? = some (.cells #[.slice aa n cc, .int .i64 pw] 37) ∧ OwnK base (.slice aa n cc) l u := by
  obtain ⟨g, e, hg, _, hf⟩ := h.2 hs
  obtain ⟨aa, cc, hh, ho⟩ := hf ht
  exact ⟨g, aa, cc, e, hg, hh, ho⟩

end Go.Proofs.YthplhjdfajhmpaaGreat

namespace Go.Proofs.YthplhjdfajhmpaaGreat
open Go.RowKit

set_option linter.unusedVariables false

theorem Only.past {c : Nat} {w w1 w2 : World} (h : Only c w w1) (hb : Below w.heap.size w1 w2) : Only c w w2 :=
  h.trans' ⟨hb.os, hb.tape, hb.output, hb.size⟩ (fun k hk _ => hb.block k hk)

end Go.Proofs.YthplhjdfajhmpaaGreat

namespace Go.Proofs.YthplhjdfajhmpaaGreat
open Go.RowKit

set_option linter.unusedVariables false

/-- What a drawn geometry and command leave. -/
def DrewCommand (w : World) (e : Ending) (w' : World) : Prop :=
  ∃ a b r d k x y z : Int, e = .returned (.tuple #[.agg #[.int .i64 a, .int .i64 b, .int .i64 r, .int .i64 d], .agg #[.int .i64 k, .int .i64 x, .int .i64 y, .int .i64 z]]) ∧ GeoOk a b r d ∧ CmOk k x y z ∧ AdOk a b r d x y z ∧ Below w.heap.size w w'

set_option maxHeartbeats 4000000 in
set_option maxRecDepth 100000 in
theorem drawCommand_any {a : Option Addr} {len cap : Nat} {zs : List Int} {w : World} (hr : IsRow .u8 w a len cap zs) :
    Calls Tryz.prog 13 #[.slice a len cap] w (DrewCommand w) := by
  obtain ⟨w1, hw1⟩ : ∃ u, (w.alloc (.cells #[.int .i64 0, .int .i64 0, .int .i64 0, .int .i64 0] 25)).alloc (.cells #[.int .i64 0, .int .i64 0, .int .i64 0, .int .i64 0] 41) = u := ⟨_, rfl⟩
  have HR := Lib.hid ((hr.alloc (.cells #[.int .i64 0, .int .i64 0, .int .i64 0, .int .i64 0] 25)).alloc (.cells #[.int .i64 0, .int .i64 0, .int .i64 0, .int .i64 0] 41))
  rw [hw1] at HR
  have HB1 : Hid (Below w.heap.size w w1) := by subst hw1; exact ((Below.refl _ _).alloc (by simp) _).alloc (by simp) _
  have x1 : w1.heap[w.heap.size]? = some (.cells #[.int .i64 0, .int .i64 0, .int .i64 0, .int .i64 0] 25) := by subst hw1; exact heap_alloc2_old _ _ _
  have y1 : w1.heap[w.heap.size + 1]? = some (.cells #[.int .i64 0, .int .i64 0, .int .i64 0, .int .i64 0] 41) := by subst hw1; exact heap_alloc2_new _ _ _
  have hn1 := lt_of_block y1
  clear hr
  go_enter Tryz.func13, Tryz.ntmps13
  go_wp2_with fail
  refine (l01New_any HR.out).mono ?_
  rintro e w2 ⟨c, rfl, hBc, hc2, hb2⟩
  have x2 := keep_block hb2 x1 (lt_of_block x1)
  have y2 := keep_block hb2 y1 (lt_of_block y1)
  have HB2 : Hid (Below w.heap.size w w2) := HB1.out.trans (hb2.mono HB1.out.size)
  have HC2 := Lib.hid hc2
  have hcl := hc2.lt
  have hs2 := HB2.out.size
  have hs12 := hb2.size
  clear hb2 hc2 HR x1 y1 HB1 hw1
  go_wp2_with fail
  refine (l03Geo_any HC2.out).mono ?_
  rintro e w3 ⟨ga, gb, gr, gd, rfl, hgeo, hc3, ho3⟩
  have hg : GeoOk ga gb gr gd := ⟨hgeo.1, hgeo.2.1, ⟨by omega, by omega⟩, ⟨by omega, by omega⟩⟩
  have HG := Lib.hid hg
  have x3 := (ho3.block _ (lt_of_block x2) (by omega)).trans x2
  have y3 := (ho3.block _ (lt_of_block y2) (by omega)).trans y2
  have HB3 : Hid (Below w.heap.size w w3) := HB2.out.trans (ho3.below (by omega) hs2)
  have hs3 := ho3.size
  obtain ⟨w4, hw4⟩ : ∃ u, w3.alloc (.cells #[.int .i64 ga, .int .i64 gb, .int .i64 gr, .int .i64 gd] 25) = u := ⟨_, rfl⟩
  have hb4 : Below w3.heap.size w3 w4 := by rw [← hw4]; exact (Below.refl _ _).alloc (Nat.le_refl _) _
  have g4 : w4.heap[w3.heap.size]? = some (.cells #[.int .i64 ga, .int .i64 gb, .int .i64 gr, .int .i64 gd] 25) := by rw [← hw4]; exact heap_alloc_new _ _
  have x4 := keep_block hb4 x3 (lt_of_block x3)
  have y4 := keep_block hb4 y3 (lt_of_block y3)
  have HB4 : Hid (Below w.heap.size w w4) := HB3.out.trans (hb4.mono HB3.out.size)
  have HC4 : Hid (Cur c w1.heap.size w4) := by rw [← hw4]; exact hc3.alloc _
  obtain ⟨gB, hgB⟩ : ∃ u, w3.heap.size = u := ⟨_, rfl⟩
  rw [hgB] at g4 hs3
  clear hb4 hc3 ho3 x2 y2 x3 y3 HB2 HB3 hgeo hg
  go_wp2_with fail
  clear hw4
  (try simp only [hgB])
  clear hgB
  refine wp_region_float (A := ?A) [.h, .h, .h, .t, .t, .e] (by kernel_rfl) (by kernel_rfl) (fun u => u.heap[gB]? = some (.cells #[.int .i64 ga, .int .i64 gb, .int .i64 gr, .int .i64 gd] 25)) ?hC ?hH ?hT
  case hC => exact g4
  case hH =>
    intro u hu
    obtain ⟨c0, c1, c2, c3⟩ := cells4 hu
    have s0 := fun q : Same u => q.cell c0
    have s1 := fun q : Same u => q.cell c1
    have s2 := fun q : Same u => q.cell c2
    have s3 := fun q : Same u => q.cell c3
    simp only [headsOf]
    repeat (go_big_quiet_step (fail))
    refine wpQuiet_nil ?_
    exact rfl
  case hT =>
    simp only [chainT]
    have HCd : Hid (Cur c w1.heap.size w4.drew) := HC4.out
    have HBd : Hid (Below w.heap.size w w4.drew) := HB4.out.drew
    have xd : w4.drew.heap[w.heap.size]? = some (.cells #[.int .i64 0, .int .i64 0, .int .i64 0, .int .i64 0] 25) := x4
    have yd : w4.drew.heap[w.heap.size + 1]? = some (.cells #[.int .i64 0, .int .i64 0, .int .i64 0, .int .i64 0] 41) := y4
    have gd' : w4.drew.heap[gB]? = some (.cells #[.int .i64 ga, .int .i64 gb, .int .i64 gr, .int .i64 gd] 25) := g4
    clear x4 y4 g4 HB4 HC4
    go_wp2_with fail
    refine (l06Cmd_any HCd.out ga gb gr gd HG.out).mono ?_
    rintro e w5 ⟨k, x, y, z, rfl, hcm, had, hc5, ho5⟩
    have x5 := (ho5.block _ (lt_of_block xd) (by omega)).trans xd
    have y5 := (ho5.block _ (lt_of_block yd) (by omega)).trans yd
    have g5 := (ho5.block _ (lt_of_block gd') (by omega)).trans gd'
    have HB5 : Hid (Below w.heap.size w w5) := HBd.out.trans (ho5.below (by omega) HBd.out.size)
    clear hc5 ho5 xd yd gd' HBd HCd
    go_wp2_with fail
    refine stepQ_normal ⟨g5, ?_⟩
    obtain ⟨x0, x1, x2, x3⟩ := cells4 x5
    have f0 := thawed x5 0
    have f1 := thawed x5 1
    have f2 := thawed x5 2
    have f3 := thawed x5 3
    obtain ⟨w6, hw6⟩ : ∃ u, (((w5.setCell ⟨w.heap.size, 0, none⟩ (.int .i64 ga)).setCell ⟨w.heap.size, 1, none⟩ (.int .i64 gb)).setCell ⟨w.heap.size, 2, none⟩ (.int .i64 gr)).setCell ⟨w.heap.size, 3, none⟩ (.int .i64 gd) = u := ⟨_, rfl⟩
    have other : ∀ k, k ≠ w.heap.size → w6.heap[k]? = w5.heap[k]? := fun k hk => by
      rw [← hw6]
      exact (Below.heap_setCell _ _ _ _ hk).trans ((Below.heap_setCell _ _ _ _ hk).trans ((Below.heap_setCell _ _ _ _ hk).trans (Below.heap_setCell _ _ _ _ hk)))
    have x6 : w6.heap[w.heap.size]? = some (.cells #[.int .i64 ga, .int .i64 gb, .int .i64 gr, .int .i64 gd] 25) := by rw [← hw6]; exact set_cells (set_cells (set_cells (set_cells x5 0 _) 1 _) 2 _) 3 _
    have y6 := (other (w.heap.size + 1) (by omega)).trans y5
    have g6 := (other gB (by omega)).trans g5
    have HB6 : Hid (Below w.heap.size w w6) := by
      show Below _ _ _
      rw [← hw6]
      have h0 := HB5.out
      repeat' (first | exact h0 | refine Below.setCell ?_ (by simp) _)
    clear other x5 y5 g5 HB5
    go_wp2_with fail
    refine stepQ_normal ⟨g6, ?_⟩
    clear hw6 x0 x1 x2 x3 f0 f1 f2 f3
    obtain ⟨y0, y1, y2, y3⟩ := cells4 y6
    have f0 := thawed y6 0
    have f1 := thawed y6 1
    have f2 := thawed y6 2
    have f3 := thawed y6 3
    obtain ⟨w7, hw7⟩ : ∃ u, (((w6.setCell ⟨w.heap.size + 1, 0, none⟩ (.int .i64 k)).setCell ⟨w.heap.size + 1, 1, none⟩ (.int .i64 x)).setCell ⟨w.heap.size + 1, 2, none⟩ (.int .i64 y)).setCell ⟨w.heap.size + 1, 3, none⟩ (.int .i64 z) = u := ⟨_, rfl⟩
    have y7 : w7.heap[w.heap.size + 1]? = some (.cells #[.int .i64 k, .int .i64 x, .int .i64 y, .int .i64 z] 41) := by rw [← hw7]; exact set_cells (set_cells (set_cells (set_cells y6 0 _) 1 _) 2 _) 3 _
    have x7 : w7.heap[w.heap.size]? = some (.cells #[.int .i64 ga, .int .i64 gb, .int .i64 gr, .int .i64 gd] 25) := by
      rw [← hw7]
      have h0 := x6
      repeat' (first | exact h0 | refine (Below.heap_setCell _ _ _ _ (by simp)).trans ?_)
    have HB7 : Hid (Below w.heap.size w w7) := by
      show Below _ _ _
      rw [← hw7]
      have h0 := HB6.out
      repeat' (first | exact h0 | refine Below.setCell ?_ (by simp) _)
    clear x6 y6 g6 HB6
    go_wp2_with fail
    refine stepQ_normal ⟨trivial, ?_⟩
    clear hw7 y0 y1 y2 y3 f0 f1 f2 f3
    obtain ⟨x0, x1, x2, x3⟩ := cells4 x7
    obtain ⟨y0, y1, y2, y3⟩ := cells4 y7
    go_wp2
    (try simp only [Exit.inBlock, Exit.then])
    refine bodyPost_ret (v := .tuple #[.agg #[.int .i64 ga, .int .i64 gb, .int .i64 gr, .int .i64 gd], .agg #[.int .i64 k, .int .i64 x, .int .i64 y, .int .i64 z]]) ?_ rfl ⟨ga, gb, gr, gd, k, x, y, z, rfl, HG.out, hcm, had, HB7.out⟩
    simp [results, Tryz.results13, go_sem, x0, x1, x2, x3, y0, y1, y2, y3]

end Go.Proofs.YthplhjdfajhmpaaGreat
