/-
  Texts of one proof, merged: BnkW, BnkV, BnkU, BnkF, BnkD.
-/
import Derived.Test.YthplhjdfajhmpaaQR6
import Derived.Test.YthplhjdfajhmpaaQR7
import Derived.Test.YthplhjdfajhmpaaQR9
import Derived.Test.YthplhjdfajhmpaaQR10
import Derived.Test.YthplhjdfajhmpaaQR13
import Derived.Test.YthplhjdfajhmpaaQR14
import Derived.Test.YthplhjdfajhmpaaQR15
namespace Go.Proofs.Ythplhjdfajhmpaa
open Go.RowKit Go.PlainAid

set_option linter.unusedVariables false

set_option maxHeartbeats 2000000 in
theorem specRankNew_is (g0 B g2 g3 : Int) (n : Nat) (hn : bankN g0 B g2 g3 = (n : Int)) (w : World) :
    Calls Try.prog 49 #[.agg #[.int .i64 g0, .int .i64 B, .int .i64 g2, .int .i64 g3]] w (GivesK n (List.replicate n bk0) 0 w) := by
  have hr := bankN_range g0 B g2 g3
  have hn8 : n ≤ 8 := by omega
  obtain ⟨i0, hi, hz0, hz1, hz2⟩ := info_parts infoK
  obtain ⟨w1, hw1⟩ : ∃ u, (w.alloc (.cells #[.int .i64 g0, .int .i64 B, .int .i64 g2, .int .i64 g3] 25)).alloc (.cells #[.slice none 0 0, .int .i64 0] 83) = u := ⟨_, rfl⟩
  have HB1 : Hid (Below w.heap.size w w1) := by subst hw1; exact ((Below.refl _ _).alloc (Nat.le_refl _) _).alloc (by simp) _
  have g1 : w1.heap[w.heap.size]? = some (.cells #[.int .i64 g0, .int .i64 B, .int .i64 g2, .int .i64 g3] 25) := by subst hw1; exact heap_alloc2_old _ _ _
  have p1 : w1.heap[w.heap.size + 1]? = some (.cells #[.slice none 0 0, .int .i64 0] 83) := by subst hw1; exact heap_alloc2_new _ _ _
  have HS1 : Hid (w.heap.size + 1 < w1.heap.size) := lt_of_block p1
  obtain ⟨c0, c1, c2, c3⟩ := cells4 g1
  have HN := Lib.hid hn
  clear hr hn
  go_enter Try.func49, Try.ntmps49
  go_wp2_with fail
  refine (specBank_is _ _ _ _ _ HN.out _).mono ?_
  rintro e w2 ⟨rfl, hb2⟩
  have p2 := keep_block hb2 p1 (lt_of_block p1)
  have HB2 : Hid (Below w.heap.size w w2) := HB1.out.trans (hb2.mono HB1.out.size)
  have HS2 : Hid (w1.heap.size ≤ w2.heap.size) := hb2.size
  clear hb2 c0 c1 c2 c3 hw1 g1 p1 HB1
  go_wp2_with (at_make; refine wpList_make_full _ rfl _ _ 81 rfl w1.heap.size 121 i0 (.agg #[.bool false, .int .i64 0]) 2 Try.underlying81 hi hz0 hz1 _ _ _ _ n rfl rfl rfl rfl (by rw [hz2]; omega) (by unfold maxLen; omega) HS2.out ?_)
  intro w3 hown hgr
  have hb3 : Below w2.heap.size w2 w3 := (Below.refl _ _).grown hgr (Nat.le_refl _) (fun k hk => by cases hk)
  have HO3 : Hid (OwnK w1.heap.size (.slice (some ⟨w2.heap.size, 0, none⟩) n n) (List.replicate n bk0) w3) := by
    show World.ownsRow _ _ _ _ _ _ _
    rw [made_bank] at hown
    rw [List.length_replicate]
    exact hown
  have p3 := keep_block hb3 p2 (lt_of_block p2)
  have HB3 : Hid (Below w.heap.size w w3) := HB2.out.trans (hb3.mono HB2.out.size)
  obtain ⟨x0, x1⟩ := cells2 p3
  have f0 := thawed p3 0
  have f1 := thawed p3 1
  clear hgr hown hb3 p2 HB2
  go_wp2_with fail
  (try simp only [Exit.inBlock, Exit.then])
  refine bodyPost_ret (v := .agg #[.slice (some ⟨w2.heap.size, 0, none⟩) n n, .int .i64 0]) (by simp [results, Try.results49, go_sem, x0, x1]) rfl ⟨_, _, rfl, ?_, ?_⟩
  · have hs := HS1.out
    refine OwnK.mono (B := w1.heap.size) ?_ (by omega)
    have hlo := HO3.out.lo
    repeat' (first | exact HO3.out | refine OwnK.setCell ?_ (fun x hx => by have := hlo x hx; simp; omega) _)
  · repeat' (first | exact HB3.out | refine Below.drew ?_ | refine Below.setCell ?_ (by simp <;> omega) _)

set_option maxHeartbeats 4000000 in
theorem specOpen_is (a : Option Addr) (n c : Nat) (l : List Bk) (pw : Int) (hl : l.length = n) (h1 : n ≤ 4000000) (w : World) (hr : RowB w a l) :
    Calls Try.prog 88 #[.agg #[.slice a n c, .int .i64 pw]] w (GivesI (openF 0 l) w) := by
  obtain ⟨i0, hi, hz0, hz1, hz2⟩ := info_parts infoI
  obtain ⟨w1, hw1⟩ : ∃ u, w.alloc (.cells #[.slice a n c, .int .i64 pw] 83) = u := ⟨_, rfl⟩
  have hb1 : Below w.heap.size w w1 := by subst hw1; exact (Below.refl _ _).alloc (Nat.le_refl _) _
  have p1 : w1.heap[w.heap.size]? = some (.cells #[.slice a n c, .int .i64 pw] 83) := by subst hw1; exact heap_alloc_new _ _
  have HS1 : Hid (w.heap.size < w1.heap.size) := lt_of_block p1
  have HB1 := Lib.hid hb1
  have HR := Lib.hid (hr.below hb1)
  have HL := Lib.hid hl
  clear hr hl hb1
  go_enter Try.func88, Try.ntmps88
  go_wp2_with fail
  go_loopw [3, 4] (fun v i wr => ∃ k : Nat, k ≤ n ∧ i = .int .i64 k ∧ OwnI w1.heap.size v (openF 0 (l.take k)) wr ∧ Below w1.heap.size w1 wr) (fun _ i _ => n - (intOf i).toNat)
  case atStart => exact ⟨0, Nat.zero_le _, rfl, World.ownsRow_made w1 #[] 0 (Nat.le_refl _) (by decide) rfl, (Below.refl _ _).alloc (Nat.le_refl _) _⟩
  case round =>
    obtain ⟨k, hk, rfl, hown, hbr⟩ := hrel
    have HO := Lib.hid hown
    have HBR := Lib.hid hbr
    have p2 := keep_block hbr p1 (lt_of_block p1)
    obtain ⟨cp, cq⟩ := cells2 p2
    clear hown hbr
    by_cases hlt : k < n
    · obtain ⟨bb, off, rfl, hs0, hs1⟩ := (HR.out.below HBR.out).at (k := k) (by rw [HL.out]; exact hlt)
      have HST := Lib.hid (openF_step (l := l) (k := k) (by rw [HL.out]; exact hlt))
      have hll : (openF 0 (l.take k)).length ≤ n := Nat.le_trans (openF_length _ _) (by rw [List.length_take, HL.out]; omega)
      clear hs1
      cases ho : (l.getD k bk0).op
      · rw [ho] at hs0 HST
        clear ho
        have HST2 : Hid (openF 0 (l.take (k + 1)) = openF 0 (l.take k)) := by show _ = _; rw [HST.out]; rfl
        go_wp2_with fail
        go_roundw
        case rel => exact ⟨k + 1, by omega, by go_num, by rw [HST2.out]; exact HO.out, HBR.out⟩
        case measure => simp [intOf]; omega
      · rw [ho] at hs0 HST
        clear ho
        have HST2 : Hid (openF 0 (l.take (k + 1)) = openF 0 (l.take k) ++ [(k : Int)]) := by show _ = _; rw [HST.out]; rfl
        have own7 := HO.out
        have hbs := HBR.out.size
        clear HO
        go_wp2_with (at_builtin; refine wpList_append_own _ rfl _ _ 31 rfl w1.heap.size 3 i0 (.int .i64 0) 1 8 Try.underlying31 hi hz0 hz1 hz2 rfl (by decide) _ _ _ rfl (World.ownsRow.alloc own7 _) ⟨wr.heap.size, 0, none⟩ 1 1 [.int .i64 (k : Int)] rfl rfl (cell_one_new _ _ _) (by intro u hu; simp at hu; subst hu; rfl) (by unfold maxLen; omega) (by omega) (by rw [World.size_alloc]; omega) ?_)
        intro v' w8 hown8 hgrow _
        have R : Hid (OwnI w1.heap.size v' (openF 0 (l.take (k + 1))) w8) := by
          have := ownI_more hown8
          rw [← HST2.out] at this
          exact this
        have hrow : ∀ j, Value.ownBlock u3 = some j → w1.heap.size ≤ j := fun j hj => (World.ownsRow.lt own7 j hj).1
        have hb8 : Below w1.heap.size wr w8 := ((Below.refl w1.heap.size wr).alloc (by omega) _).grown hgrow (by rw [World.size_alloc]; omega) hrow
        have HB8 : Hid (Below w1.heap.size w1 w8) := HBR.out.trans hb8
        clear hb8 hown8 hgrow own7 hrow HBR
        go_wp2_with fail
        go_roundw
        case rel => exact ⟨k + 1, by omega, by go_num, R.out, HB8.out⟩
        case measure => simp [intOf]; omega
    · obtain rfl : k = n := by omega
      have hO := HO.out
      rw [List.take_of_length_le (by rw [HL.out]; exact Nat.le_refl _)] at hO
      obtain ⟨aa, cc, hv⟩ := hO.shape
      have HO2 := Lib.hid hO
      have HV := Lib.hid hv
      clear hO hv
      go_wp2_with fail
      go_ret
      refine ⟨aa, cc, by first | rfl | (rw [HV.out]; rfl), ?_, HB1.out.trans (HBR.out.mono HB1.out.size)⟩
      have := HO2.out.mono (C := w.heap.size) HB1.out.size
      rw [HV.out] at this
      exact this

theorem rkOk_no {g0 B g2 g3 : Int} {l : List Bk} {pw : Int} {k : Nat} (hk : k < l.length) (h : ¬ BkOk g2 pw (l.getD k bk0)) : ¬ RkOk g0 B g2 g3 l pw := fun hh => h (by
  have := hh.2.2.2 (l[k]) (List.getElem_mem _)
  rwa [List.getD_eq_getElem?_getD, List.getElem?_eq_getElem hk])

set_option maxHeartbeats 8000000 in
theorem specRankOk_is (g0 B g2 g3 : Int) (a : Option Addr) (n c : Nat) (l : List Bk) (pw : Int) (v : Bool) (hv : decide (RkOk g0 B g2 g3 l pw) = v) (hl : l.length = n) (h1 : n ≤ 4000000) (w : World) (hr : RowB w a l) :
    Calls Try.prog 137 #[.agg #[.int .i64 g0, .int .i64 B, .int .i64 g2, .int .i64 g3], .agg #[.slice a n c, .int .i64 pw]] w (Gives (.bool v) w) := by
  obtain ⟨w1, hw1⟩ : ∃ u, (w.alloc (.cells #[.int .i64 g0, .int .i64 B, .int .i64 g2, .int .i64 g3] 25)).alloc (.cells #[.slice a n c, .int .i64 pw] 83) = u := ⟨_, rfl⟩
  have hb1 : Below w.heap.size w w1 := by subst hw1; exact ((Below.refl _ _).alloc (Nat.le_refl _) _).alloc (by simp) _
  have g1 : w1.heap[w.heap.size]? = some (.cells #[.int .i64 g0, .int .i64 B, .int .i64 g2, .int .i64 g3] 25) := by subst hw1; exact heap_alloc2_old _ _ _
  have p1 : w1.heap[w.heap.size + 1]? = some (.cells #[.slice a n c, .int .i64 pw] 83) := by subst hw1; exact heap_alloc2_new _ _ _
  have HB1 := Lib.hid hb1
  have HR := Lib.hid (hr.below hb1)
  have HL := Lib.hid hl
  have HV := Lib.hid hv
  obtain ⟨c0, c1, c2, c3⟩ := cells4 g1
  obtain ⟨d0, d1⟩ := cells2 p1
  have z0 := fun q : Later w1 => q.cell c0
  have z1 := fun q : Later w1 => q.cell c1
  have z2 := fun q : Later w1 => q.cell c2
  have z3 := fun q : Later w1 => q.cell c3
  have y0 := fun q : Later w1 => q.cell d0
  have y1 := fun q : Later w1 => q.cell d1
  clear hr hv hb1 c0 c1 c2 c3 d0 d1
  obtain ⟨m, hm⟩ : ∃ m, bankN g0 B g2 g3 = m := ⟨_, rfl⟩
  have HM := Lib.hid hm
  by_cases hg : GeoOk g0 B g2 g3
  case neg =>
    have HE : Hid (v = false) := by show _ = _; rw [← HV.out]; exact decide_eq_false (fun h => hg h.1)
    have K := Lib.hid (decide_eq_false hg)
    clear hg hm
    go_enter Try.func137, Try.ntmps137
    go_wp2_with fail
    refine wp_region_later (by kernel_rfl) (by kernel_rfl) ?_
    repeat (go_big_quiet_step ((go_at_call 44; exact Gives.later _ (specGeoOk_is _ _ _ _ _ K.out _))))
    refine wpQuiet_nil ?_
    rintro w2 ⟨zz, hz⟩
    have HB2 : Hid (Below w.heap.size w w2) := HB1.out.trans ((hz ▸ zz.ok : Below w1.heap.size w1 w2).mono HB1.out.size)
    go_wp2
    go_ret
    exact ⟨ret_b HE.out.symm, HB2.out⟩
  have K := Lib.hid (decide_eq_true hg)
  have HG := Lib.hid hg
  by_cases hnm : (n : Int) = m
  case neg =>
    have HE : Hid (v = false) := by show _ = _; rw [← HV.out]; exact decide_eq_false (fun h => hnm (by rw [← HL.out, ← HM.out]; exact h.2.1))
    have t1 : ((n : Int) != m) = true := by simp [hnm]
    clear hg hm hnm
    go_enter Try.func137, Try.ntmps137
    go_wp2_with fail
    refine wp_region_later (by kernel_rfl) (by kernel_rfl) ?_
    repeat (go_big_quiet_step (first | (go_at_call 44; exact Gives.later _ (specGeoOk_is _ _ _ _ _ K.out _)) | (go_at_call 13; exact Gives.later _ (specBank_is _ _ _ _ _ HM.out _))))
    refine wpQuiet_nil ?_
    rintro w2 ⟨zz, hz⟩
    have HB2 : Hid (Below w.heap.size w w2) := HB1.out.trans ((hz ▸ zz.ok : Below w1.heap.size w1 w2).mono HB1.out.size)
    go_wp2
    go_ret
    exact ⟨ret_b HE.out.symm, HB2.out⟩
  have t1 : ((n : Int) != m) = false := by simp [hnm]
  have HNM := Lib.hid hnm
  by_cases hp : 0 ≤ pw ∧ pw ≤ 2
  case neg =>
    have HE : Hid (v = false) := by show _ = _; rw [← HV.out]; exact decide_eq_false (fun h => hp h.2.2.1)
    have KP := Lib.hid (decide_eq_false hp)
    clear hg hm hnm hp
    go_enter Try.func137, Try.ntmps137
    go_wp2_with fail
    refine wp_region_later (by kernel_rfl) (by kernel_rfl) ?_
    repeat (go_big_quiet_step (first | (go_at_call 44; exact Gives.later _ (specGeoOk_is _ _ _ _ _ K.out _)) | (go_at_call 13; exact Gives.later _ (specBank_is _ _ _ _ _ HM.out _)) | (go_at_call 51; exact Gives.later_same _ (specIn_is _ _ _ _ KP.out _))))
    refine wpQuiet_nil ?_
    rintro w2 ⟨zz, hz⟩
    have HB2 : Hid (Below w.heap.size w w2) := HB1.out.trans ((hz ▸ zz.ok : Below w1.heap.size w1 w2).mono HB1.out.size)
    go_wp2
    go_ret
    exact ⟨ret_b HE.out.symm, HB2.out⟩
  have KP := Lib.hid (decide_eq_true hp)
  have HP := Lib.hid hp
  have e1 : IntKind.i64.wrap (g2 - 1) = g2 - 1 := IntWalk.i64_in _ (by have := hg.2.2.1; omega)
  clear hg hm hnm hp
  go_enter Try.func137, Try.ntmps137
  go_wp2_with fail
  refine wp_region_later (by kernel_rfl) (by kernel_rfl) ?_
  repeat (go_big_quiet_step (first | (go_at_call 44; exact Gives.later _ (specGeoOk_is _ _ _ _ _ K.out _)) | (go_at_call 13; exact Gives.later _ (specBank_is _ _ _ _ _ HM.out _)) | (go_at_call 51; exact Gives.later_same _ (specIn_is _ _ _ _ KP.out _))))
  refine wpQuiet_nil ?_
  rintro w2 ⟨zz, hz⟩
  have hb2 : Below w1.heap.size w1 w2 := hz ▸ zz.ok
  have g2' := keep_block hb2 g1 (lt_of_block g1)
  have p2 := keep_block hb2 p1 (lt_of_block p1)
  have HB2 : Hid (Below w.heap.size w w2) := HB1.out.trans (hb2.mono HB1.out.size)
  have HR2 := Lib.hid (HR.out.below hb2)
  clear z0 z1 z2 z3 y0 y1 hz zz hb2 hw1 g1 p1 HB1 HR t1 K KP
  go_wp2_with fail
  go_loopw [5] (fun i wr => ∃ k : Nat, k ≤ n ∧ i = .int .i64 k ∧ (∀ j, j < k → BkOk g2 pw (l.getD j bk0)) ∧ Below w2.heap.size w2 wr) (fun i _ => n - (intOf i).toNat)
  case atStart => exact ⟨0, Nat.zero_le _, rfl, fun j hj => absurd hj (Nat.not_lt_zero _), Below.refl _ _⟩
  case round =>
    obtain ⟨k, hk, rfl, hall, hbr⟩ := hrel
    have HALL := Lib.hid hall
    have HBR := Lib.hid hbr
    have HBW : Hid (Below w.heap.size w wr) := HB2.out.trans (hbr.mono HB2.out.size)
    have g3' := keep_block hbr g2' (lt_of_block g2')
    have p3 := keep_block hbr p2 (lt_of_block p2)
    clear hall hbr
    by_cases hlt : k < n
    · obtain ⟨bb, off, rfl, hs0, hs1⟩ := (HR2.out.below HBR.out).at (k := k) (by rw [HL.out]; exact hlt)
      have NO := Lib.hid (rkOk_no (g0 := g0) (B := B) (g2 := g2) (g3 := g3) (l := l) (pw := pw) (k := k) (by rw [HL.out]; exact hlt))
      have YES : Hid (BkOk g2 pw (l.getD k bk0) → ∀ j, j < k + 1 → BkOk g2 pw (l.getD j bk0)) := fun h j hj => by
        by_cases e : j = k
        · rw [e]; exact h
        · exact HALL.out j (by omega)
      obtain ⟨b, hb⟩ : ∃ b, l.getD k bk0 = b := ⟨_, rfl⟩
      rw [hb] at hs0 hs1
      rw [hb] at NO YES
      clear hb
      obtain ⟨o, r⟩ := b
      obtain ⟨c0, c1, c2, c3⟩ := cells4 g3'
      obtain ⟨d0, d1⟩ := cells2 p3
      have hs0' : wr.cell? ⟨bb, off + k * 2, none⟩ = some (.bool o) := hs0
      have hs1' : wr.cell? ⟨bb, off + k * 2 + 1, none⟩ = some (.int .i64 r) := hs1
      have hd1 : (wr.alloc (.cells #[.bool o, .int .i64 r] 121)).cell? ⟨w.heap.size + 1, 1, none⟩ = some (.int .i64 pw) := (Below.cell ((Below.refl wr.heap.size wr).alloc (Nat.le_refl _) _) (lt_of_block p3)).trans d1
      have hd0 : (wr.alloc (.cells #[.bool o, .int .i64 r] 121)).cell? ⟨w.heap.size + 1, 0, none⟩ = some (.slice (some ⟨bb, off, none⟩) n c) := (Below.cell ((Below.refl wr.heap.size wr).alloc (Nat.le_refl _) _) (lt_of_block p3)).trans d0
      have hc2 : (wr.alloc (.cells #[.bool o, .int .i64 r] 121)).cell? ⟨w.heap.size, 2, none⟩ = some (.int .i64 g2) := (Below.cell ((Below.refl wr.heap.size wr).alloc (Nat.le_refl _) _) (lt_of_block g3')).trans c2
      have HBA : Hid (Below w.heap.size w (wr.alloc (.cells #[.bool o, .int .i64 r] 121))) := HBW.out.alloc HBW.out.size _
      have HBA2 : Hid (Below w2.heap.size w2 (wr.alloc (.cells #[.bool o, .int .i64 r] 121))) := HBR.out.alloc HBR.out.size _
      clear hs0 hs1
      by_cases hrow : 0 ≤ r ∧ r ≤ g2 - 1
      case neg =>
        have KR := Lib.hid (decide_eq_false hrow)
        have HE : Hid (v = false) := by show _ = _; rw [← HV.out]; exact decide_eq_false (NO.out (fun h => hrow h.1))
        clear hrow
        go_wp2_with fail
        refine (specIn_is _ _ _ _ KR.out _).mono ?_
        rintro e w' ⟨rfl, rfl⟩
        go_wp2
        go_ret
        exact ⟨ret_b HE.out.symm, HBA.out⟩
      have KR := Lib.hid (decide_eq_true hrow)
      have HROW := Lib.hid hrow
      clear hrow
      cases o
      · by_cases hr0 : r = 0
        · have t2 : (r != 0) = false := by simp [hr0]
          have OK := Lib.hid (YES.out ⟨HROW.out, .inr hr0, .inl rfl⟩)
          clear hr0
          go_wp2_with fail
          refine (specIn_is _ _ _ _ KR.out _).mono ?_
          rintro e w' ⟨rfl, rfl⟩
          go_wp2_with fail
          go_roundw
          case rel => exact ⟨k + 1, by omega, by go_num, OK.out, HBA2.out⟩
          case measure => simp [intOf]; omega
        · have t2 : (r != 0) = true := by simp [hr0]
          have HE : Hid (v = false) := by show _ = _; rw [← HV.out]; exact decide_eq_false (NO.out (fun h => by rcases h.2.1 with h | h; cases h; exact hr0 h))
          clear hr0
          go_wp2_with fail
          refine (specIn_is _ _ _ _ KR.out _).mono ?_
          rintro e w' ⟨rfl, rfl⟩
          go_wp2
          go_ret
          exact ⟨ret_b HE.out.symm, HBA.out⟩
      · by_cases hp2 : pw = 2
        · have t2 : (pw == 2) = true := by simp [hp2]
          have HE : Hid (v = false) := by show _ = _; rw [← HV.out]; exact decide_eq_false (NO.out (fun h => by rcases h.2.2 with h | h; cases h; exact h hp2))
          clear hp2
          go_wp2_with fail
          refine (specIn_is _ _ _ _ KR.out _).mono ?_
          rintro e w' ⟨rfl, rfl⟩
          go_wp2
          go_ret
          exact ⟨ret_b HE.out.symm, HBA.out⟩
        · have t2 : (pw == 2) = false := by simp [hp2]
          have OK := Lib.hid (YES.out ⟨HROW.out, .inl rfl, .inr hp2⟩)
          clear hp2
          go_wp2_with fail
          refine (specIn_is _ _ _ _ KR.out _).mono ?_
          rintro e w' ⟨rfl, rfl⟩
          go_wp2_with fail
          go_roundw
          case rel => exact ⟨k + 1, by omega, by go_num, OK.out, HBA2.out⟩
          case measure => simp [intOf]; omega
    · obtain rfl : k = n := by omega
      have HE : Hid (v = true) := by
        show _ = _
        rw [← HV.out]
        refine decide_eq_true ⟨HG.out, by rw [HL.out, HM.out]; exact HNM.out, HP.out, fun b hb => ?_⟩
        obtain ⟨j, hj, rfl⟩ := List.getElem_of_mem hb
        have := HALL.out j (by rw [← HL.out]; exact hj)
        rwa [List.getD_eq_getElem?_getD, List.getElem?_eq_getElem hj] at this
      obtain ⟨d0, d1⟩ := cells2 p3
      go_wp2_with fail
      go_ret
      exact ⟨ret_b HE.out.symm, HBW.out⟩

set_option maxHeartbeats 8000000 in
theorem specMay_is (a : Option Addr) (n c : Nat) (l : List Bk) (pw k x y z : Int) (v : Bool) (hv : mayR l pw k x = v) (hk : 1 ≤ k ∧ k ≤ 9) (hx : k ≤ 5 → 0 ≤ x ∧ x < (n : Int)) (hl : l.length = n) (h1 : n ≤ 4000000) (w : World) (hr : RowB w a l) :
    Calls Try.prog 52 #[.agg #[.slice a n c, .int .i64 pw], .agg #[.int .i64 k, .int .i64 x, .int .i64 y, .int .i64 z]] w (Gives (.bool v) w) := by
  obtain ⟨w1, hw1⟩ : ∃ u, (w.alloc (.cells #[.slice a n c, .int .i64 pw] 83)).alloc (.cells #[.int .i64 k, .int .i64 x, .int .i64 y, .int .i64 z] 39) = u := ⟨_, rfl⟩
  have hb1 : Below w.heap.size w w1 := by subst hw1; exact ((Below.refl _ _).alloc (Nat.le_refl _) _).alloc (by simp) _
  have g1 : w1.heap[w.heap.size]? = some (.cells #[.slice a n c, .int .i64 pw] 83) := by subst hw1; exact heap_alloc2_old _ _ _
  have p1 : w1.heap[w.heap.size + 1]? = some (.cells #[.int .i64 k, .int .i64 x, .int .i64 y, .int .i64 z] 39) := by subst hw1; exact heap_alloc2_new _ _ _
  obtain ⟨d0, d1⟩ := cells2 g1
  obtain ⟨c0, c1, c2, c3⟩ := cells4 p1
  have HB1 := Lib.hid hb1
  have HR := Lib.hid (hr.below hb1)
  clear hr hb1
  have go : Hid (Calls Try.prog 52 #[.agg #[.slice a n c, .int .i64 pw], .agg #[.int .i64 k, .int .i64 x, .int .i64 y, .int .i64 z]] w (Gives (.bool v) w)) := by
    show Calls _ _ _ _ _
    by_cases h5 : k ≤ 5
    · obtain ⟨hx0, hx1⟩ := hx h5
      obtain ⟨j, rfl⟩ := Int.eq_ofNat_of_zero_le hx0
      have hj : j < n := by omega
      obtain ⟨bb, off, rfl, hs0, _⟩ := HR.out.at (k := j) (by omega)
      have hv' : (if k = 1 ∨ k = 5 then decide (pw = 0) && !(l.getD j bk0).op else decide (pw = 0) && (l.getD j bk0).op) = v := by
        rw [← hv]
        unfold mayR
        rw [Int.toNat_natCast]
        by_cases e1 : k = 1 ∨ k = 5
        · rw [if_pos e1, if_pos e1]
        · rw [if_neg e1, if_neg e1, if_pos (by omega)]
      generalize (l.getD j bk0).op = o at hs0 hv'
      clear hv hx
      have hk5 : k = 1 ∨ k = 2 ∨ k = 3 ∨ k = 4 ∨ k = 5 := by omega
      clear hk h5
      by_cases hp : pw = 0
      · have tp : (pw == 0) = true := by simp [hp]
        have hp' : decide (pw = 0) = true := decide_eq_true hp
        rw [hp'] at hv'
        clear hp' hp
        rcases hk5 with rfl | rfl | rfl | rfl | rfl
        all_goals (cases o <;> (subst hv'; go_enter Try.func52, Try.ntmps52; go_wp2; go_ret; exact ⟨rfl, HB1.out⟩))
      · have tp : (pw == 0) = false := by simp [hp]
        have hp' : decide (pw = 0) = false := decide_eq_false hp
        rw [hp'] at hv'
        clear hp' hp
        rcases hk5 with rfl | rfl | rfl | rfl | rfl
        all_goals (cases o <;> (subst hv'; go_enter Try.func52, Try.ntmps52; go_wp2; go_ret; exact ⟨rfl, HB1.out⟩))
    · clear hx
      have hk6 : k = 6 ∨ k = 7 ∨ k = 8 ∨ k = 9 := by omega
      clear hk h5
      rcases hk6 with rfl | rfl | rfl | rfl
      · have HE : Hid ((pw == 0) = v) := by show _ = _; rw [← hv]; simp [mayR]; rfl
        clear hv
        go_enter Try.func52, Try.ntmps52
        go_wp2
        go_ret
        exact ⟨ret_b HE.out, HB1.out⟩
      · have HE : Hid ((pw == 1) = v) := by show _ = _; rw [← hv]; simp [mayR]; rfl
        clear hv
        go_enter Try.func52, Try.ntmps52
        go_wp2
        go_ret
        exact ⟨ret_b HE.out, HB1.out⟩
      · by_cases hp : pw = 0
        · have tp : (pw == 0) = true := by simp [hp]
          have HE : Hid (decide ((openF 0 l).length = 0) = v) := by show _ = _; rw [← hv, openF_none]; simp [mayR, hp]
          clear hv hp
          go_enter Try.func52, Try.ntmps52
          go_wp2_with fail
          refine (specOpen_is _ _ _ _ _ hl h1 _ HR.out).mono ?_
          rintro e w2 ⟨aa, cc, rfl, _, hb2⟩
          have HB2 : Hid (Below w.heap.size w w2) := HB1.out.trans (hb2.mono HB1.out.size)
          have hb : (((openF 0 l).length : Int) == 0) = decide ((openF 0 l).length = 0) := by
            by_cases e : (openF 0 l).length = 0
            · simp [e]
            · simp [e]
          rw [HE.out] at hb
          clear hb2
          go_wp2
          go_ret
          exact ⟨rfl, HB2.out⟩
        · have tp : (pw == 0) = false := by simp [hp]
          have HE : Hid (false = v) := by show _ = _; rw [← hv]; simp [mayR, hp]
          clear hv hp
          go_enter Try.func52, Try.ntmps52
          go_wp2
          go_ret
          exact ⟨ret_b HE.out, HB1.out⟩
      · have HE : Hid ((pw == 2) = v) := by show _ = _; rw [← hv]; simp [mayR]; rfl
        clear hv
        go_enter Try.func52, Try.ntmps52
        go_wp2
        go_ret
        exact ⟨ret_b HE.out, HB1.out⟩
  exact go.out

end Go.Proofs.Ythplhjdfajhmpaa

namespace Go.Proofs.Ythplhjdfajhmpaa
open Go.RowKit Go.PlainAid

set_option linter.unusedVariables false

theorem bank_in {g0 B g2 g3 : Int} {l : List Bk} {pw k x y z : Int} {n : Nat} (hl : l.length = n) (h : RkOk g0 B g2 g3 l pw) (ha : AdOk g0 B g2 g3 x y z) : 0 ≤ x ∧ x < (n : Int) := by
  have h1 := h.2.1
  have h2 := ha.1
  omega

set_option maxHeartbeats 4000000 in
theorem specAllowed_is (g0 B g2 g3 : Int) (a : Option Addr) (n c : Nat) (l : List Bk) (pw k x y z : Int) (v : Bool) (hv : allowR g0 B g2 g3 l pw k x y z = v) (hl : l.length = n) (h1 : n ≤ 4000000) (w : World) (hr : RowB w a l) :
    Calls Try.prog 125 #[.agg #[.int .i64 g0, .int .i64 B, .int .i64 g2, .int .i64 g3], .agg #[.slice a n c, .int .i64 pw], .agg #[.int .i64 k, .int .i64 x, .int .i64 y, .int .i64 z]] w (Gives (.bool v) w) := by
  obtain ⟨w1, hw1⟩ : ∃ u, ((w.alloc (.cells #[.int .i64 g0, .int .i64 B, .int .i64 g2, .int .i64 g3] 25)).alloc (.cells #[.slice a n c, .int .i64 pw] 83)).alloc (.cells #[.int .i64 k, .int .i64 x, .int .i64 y, .int .i64 z] 39) = u := ⟨_, rfl⟩
  have hb1 : Below w.heap.size w w1 := by subst hw1; exact (((Below.refl _ _).alloc (Nat.le_refl _) _).alloc (by simp) _).alloc (by simp; omega) _
  have g1 : w1.heap[w.heap.size]? = some (.cells #[.int .i64 g0, .int .i64 B, .int .i64 g2, .int .i64 g3] 25) := by subst hw1; exact box3_0 _ _ _ _
  have p1 : w1.heap[w.heap.size + 1]? = some (.cells #[.slice a n c, .int .i64 pw] 83) := by subst hw1; exact box3_1 _ _ _ _
  have q1 : w1.heap[w.heap.size + 1 + 1]? = some (.cells #[.int .i64 k, .int .i64 x, .int .i64 y, .int .i64 z] 39) := by subst hw1; exact box3_2 _ _ _ _
  obtain ⟨c0, c1, c2, c3⟩ := cells4 g1
  obtain ⟨d0, d1⟩ := cells2 p1
  obtain ⟨e0, e1, e2, e3⟩ := cells4 q1
  have HB1 := Lib.hid hb1
  have HR := Lib.hid (hr.below hb1)
  clear hr hb1
  by_cases hR : RkOk g0 B g2 g3 l pw
  case neg =>
    have HE : Hid (v = false) := by show _ = _; rw [← hv]; unfold allowR; rw [decide_eq_false (fun h => hR h.1)]; rfl
    have K := Lib.hid (decide_eq_false hR)
    clear hv hR
    go_enter Try.func125, Try.ntmps125
    go_wp2_with fail
    refine (specRankOk_is _ _ _ _ _ _ _ _ _ _ K.out hl h1 _ HR.out).mono ?_
    rintro e w2 ⟨rfl, hb2⟩
    have HB2 : Hid (Below w.heap.size w w2) := HB1.out.trans (hb2.mono HB1.out.size)
    clear hb2
    go_wp2
    go_ret
    exact ⟨ret_b HE.out.symm, HB2.out⟩
  have K := Lib.hid (decide_eq_true hR)
  by_cases hC : CmOk k x y z ∧ AdOk g0 B g2 g3 x y z
  case neg =>
    have HE : Hid (v = false) := by show _ = _; rw [← hv]; unfold allowR; rw [decide_eq_false (fun h => hC h.2)]; rfl
    have KC := Lib.hid (decide_eq_false hC)
    clear hv hR hC
    go_enter Try.func125, Try.ntmps125
    go_wp2_with fail
    refine (specRankOk_is _ _ _ _ _ _ _ _ _ _ K.out hl h1 _ HR.out).mono ?_
    rintro e w2 ⟨rfl, hb2⟩
    have g2' := keep_block hb2 g1 (lt_of_block g1)
    have q2 := keep_block hb2 q1 (lt_of_block q1)
    have HB2 : Hid (Below w.heap.size w w2) := HB1.out.trans (hb2.mono HB1.out.size)
    clear hb2 c0 c1 c2 c3 d0 d1 e0 e1 e2 e3
    obtain ⟨c0, c1, c2, c3⟩ := cells4 g2'
    obtain ⟨e0, e1, e2, e3⟩ := cells4 q2
    go_wp2_with fail
    refine (specCommandOk_is _ _ _ _ _ _ _ _ _ KC.out _).mono ?_
    rintro e w3 ⟨rfl, hb3⟩
    have HB3 : Hid (Below w.heap.size w w3) := HB2.out.trans (hb3.mono HB2.out.size)
    clear hb3
    go_wp2
    go_ret
    exact ⟨ret_b HE.out.symm, HB3.out⟩
  have KC := Lib.hid (decide_eq_true hC)
  have HE : Hid (mayR l pw k x = v) := by show _ = _; rw [← hv]; unfold allowR; rw [decide_eq_true ⟨hR, hC⟩]; rfl
  have hkk := hC.1.1
  have hxx : Hid (0 ≤ x ∧ x < (n : Int)) := bank_in (k := k) hl hR hC.2
  clear hv hR hC
  go_enter Try.func125, Try.ntmps125
  go_wp2_with fail
  refine (specRankOk_is _ _ _ _ _ _ _ _ _ _ K.out hl h1 _ HR.out).mono ?_
  rintro e w2 ⟨rfl, hb2⟩
  have g2' := keep_block hb2 g1 (lt_of_block g1)
  have p2 := keep_block hb2 p1 (lt_of_block p1)
  have q2 := keep_block hb2 q1 (lt_of_block q1)
  have HB2 : Hid (Below w.heap.size w w2) := HB1.out.trans (hb2.mono HB1.out.size)
  have HR2 := Lib.hid (HR.out.below hb2)
  clear hb2 c0 c1 c2 c3 d0 d1 e0 e1 e2 e3
  obtain ⟨c0, c1, c2, c3⟩ := cells4 g2'
  obtain ⟨e0, e1, e2, e3⟩ := cells4 q2
  go_wp2_with fail
  refine (specCommandOk_is _ _ _ _ _ _ _ _ _ KC.out _).mono ?_
  rintro e w3 ⟨rfl, hb3⟩
  have p3 := keep_block hb3 p2 (lt_of_block p2)
  have q3 := keep_block hb3 q2 (lt_of_block q2)
  have HB3 : Hid (Below w.heap.size w w3) := HB2.out.trans (hb3.mono HB2.out.size)
  have HR3 := Lib.hid (HR2.out.below hb3)
  clear hb3 c0 c1 c2 c3 e0 e1 e2 e3
  obtain ⟨d0, d1⟩ := cells2 p3
  obtain ⟨e0, e1, e2, e3⟩ := cells4 q3
  go_wp2_with fail
  refine (specMay_is _ _ _ _ _ _ _ _ _ _ HE.out hkk (fun _ => hxx.out) hl h1 _ HR3.out).mono ?_
  rintro e w4 ⟨rfl, hb4⟩
  have HB4 : Hid (Below w.heap.size w w4) := HB3.out.trans (hb4.mono HB3.out.size)
  clear hb4
  go_wp2
  go_ret
  exact ⟨rfl, HB4.out⟩

/-- What a copy appends: the cells of a row that is read. -/
theorem RowB.src {w : World} {ad : Addr} {l : List Bk} (h : RowB w (some ad) l) : ∀ j u, (l.flatMap Bk.vs)[j]? = some u → w.cell? (ad.add j) = some u := by
  rcases h with rfl | ⟨b, off, hb, h⟩
  · intro j u hu; simp at hu
  · cases hb
    exact RowB.flat h

set_option maxHeartbeats 4000000 in
theorem specCopy_is (a : Option Addr) (n c : Nat) (l : List Bk) (pw : Int) (hl : l.length = n) (h1 : n ≤ 4000000) (hnc : a = none → c = 0) (w : World) (hr : RowB w a l) :
    Calls Try.prog 160 #[.agg #[.slice a n c, .int .i64 pw]] w (GivesK n l pw w) := by
  obtain ⟨i0, hi, hz0, hz1, hz2⟩ := info_parts infoK
  obtain ⟨w1, hw1⟩ : ∃ u, (w.alloc (.cells #[.slice a n c, .int .i64 pw] 83)).alloc (.cells #[.slice none 0 0, .int .i64 0] 83) = u := ⟨_, rfl⟩
  have hb1 : Below w.heap.size w w1 := by subst hw1; exact ((Below.refl _ _).alloc (Nat.le_refl _) _).alloc (by simp) _
  have g1 : w1.heap[w.heap.size]? = some (.cells #[.slice a n c, .int .i64 pw] 83) := by subst hw1; exact heap_alloc2_old _ _ _
  have p1 : w1.heap[w.heap.size + 1]? = some (.cells #[.slice none 0 0, .int .i64 0] 83) := by subst hw1; exact heap_alloc2_new _ _ _
  have HS1 : Hid (w.heap.size + 1 < w1.heap.size) := lt_of_block p1
  have HB1 := Lib.hid hb1
  have HR := Lib.hid (hr.below hb1)
  have HL := Lib.hid hl
  have HNC := Lib.hid hnc
  clear hr hl hb1 hnc
  go_enter Try.func160, Try.ntmps160
  go_wp2_with fail
  refine wp_region_float (A := ?A) [.t, .h, .h, .t, .h, .h, .t, .e] (by kernel_rfl) (by kernel_rfl) (fun u => u.cell? ⟨w.heap.size, 0, none⟩ = some (.slice a n c) ∧ u.cell? ⟨w.heap.size, 1, none⟩ = some (.int .i64 pw)) ?hC ?hH ?hT
  case hC => exact cells2 g1
  case hH =>
    intro u hu
    have z0 := fun q : Same u => q.cell hu.1
    have z1 := fun q : Same u => q.cell hu.2
    simp only [headsOf]
    repeat (go_big_quiet_step (fail))
    refine wpQuiet_nil ?_
    exact rfl
  case hT =>
    simp only [chainT]
    have HBd : Hid (Below w.heap.size w w1.drew) := Below.drew HB1.out
    have HRd : Hid (RowB w1.drew a l) := HR.out
    have HSd : Hid (w.heap.size + 1 < w1.drew.heap.size) := HS1.out
    have gd : w1.drew.heap[w.heap.size]? = some (.cells #[.slice a n c, .int .i64 pw] 83) := g1
    have pd : w1.drew.heap[w.heap.size + 1]? = some (.cells #[.slice none 0 0, .int .i64 0] 83) := p1
    clear HB1 HR HS1 g1 p1 hw1
    generalize w1.drew = w2 at HBd HRd HSd gd pd ⊢
    have own3 := World.ownsRow_made (base := w2.heap.size) (e := 121) (size := 2) w2 #[] 0 (Nat.le_refl _) (by decide) rfl
    have hb3 : Below w2.heap.size w2 (w2.alloc (.cells #[] 121)) := (Below.refl _ _).alloc (Nat.le_refl _) _
    have g3 := keep_block hb3 gd (lt_of_block gd)
    have p3 := keep_block hb3 pd (lt_of_block pd)
    have HB3 : Hid (Below w.heap.size w (w2.alloc (.cells #[] 121))) := HBd.out.trans (hb3.mono HBd.out.size)
    have HR3 := Lib.hid (HRd.out.below hb3)
    go_wp2_with fail
    refine stepQ_normal ⟨cells2 g3, ?_⟩
    have hS3 : w2.heap.size ≤ (w2.alloc (.cells #[] 121)).heap.size := by simp
    have fin : Hid (∀ (aa : Option Addr) (cc : Nat) (w4 : World), OwnK w2.heap.size (.slice aa n cc) l w4 → Below w.heap.size w w4 → w4.heap[w.heap.size]? = some (.cells #[.slice a n c, .int .i64 pw] 83) → w4.heap[w.heap.size + 1]? = some (.cells #[.slice none 0 0, .int .i64 0] 83) → OwnK w.heap.size (.slice aa n cc) l ((w4.setCell ⟨w.heap.size + 1, 0, none⟩ (.slice aa n cc)).setCell ⟨w.heap.size + 1, 1, none⟩ (.int .i64 pw)) ∧ Below w.heap.size w ((w4.setCell ⟨w.heap.size + 1, 0, none⟩ (.slice aa n cc)).setCell ⟨w.heap.size + 1, 1, none⟩ (.int .i64 pw))) := by
      intro aa cc w4 ho hb _ _
      have hlo := ho.lo
      have hs := HSd.out
      refine ⟨OwnK.mono (B := w2.heap.size) ?_ (by omega), (hb.setCell (by simp) _).setCell (by simp) _⟩
      exact (ho.setCell (fun x hx => by have := hlo x hx; simp; omega) _).setCell (fun x hx => by have := hlo x hx; simp; omega) _
    rcases a with _ | ad
    · have hl0 : l = [] := by rcases HRd.out with h | ⟨_, _, h, _⟩; exact h; cases h
      have hc0 := HNC.out rfl
      have hn0 : n = 0 := by rw [← HL.out, hl0]; rfl
      subst hl0
      subst hc0
      subst hn0
      go_wp2_with (at_builtin; refine wpList_append_own_none rfl _ _ 81 rfl w2.heap.size 121 i0 2 Try.underlying81 hi _ 0 [] rfl own3 rfl ?_)
      refine stepQ_normal ⟨cells2 g3, ?_⟩
      go_wp2_with fail
      refine stepQ_normal ⟨cells2 g3, ?_⟩
      obtain ⟨b0, b1⟩ := cells2 p3
      have f0 := thawed p3 0
      have f1 := thawed p3 1
      have F := Lib.hid (fin.out (some ⟨w2.heap.size, 0, none⟩) 0 (w2.alloc (.cells #[] 121)) own3 HB3.out g3 p3)
      generalize (w2.alloc (.cells #[] 121)) = w4 at b0 b1 f0 f1 F p3 ⊢
      go_wp2_with fail
      refine stepQ_normal ⟨trivial, ?_⟩
      go_wp2_with fail
      (try simp only [Exit.inBlock, Exit.then])
      refine bodyPost_ret (v := .agg #[.slice (some ⟨w2.heap.size, 0, none⟩) 0 0, .int .i64 pw]) ?_ rfl ⟨_, _, rfl, F.out.1, F.out.2⟩
      simp [results, Try.results160, go_sem, b0, b1]
    · go_wp2_with (at_builtin; refine wpList_append_own _ rfl _ _ 81 rfl w2.heap.size 121 i0 (.agg #[.bool false, .int .i64 0]) 2 16 Try.underlying81 hi hz0 hz1 hz2 rfl (by decide) _ 0 [] rfl own3 ad n c (l.flatMap Bk.vs) rfl (by rw [vs_length, HL.out]) (RowB.src HR3.out) (vs_oneCell l) (by unfold maxLen; omega) (by omega) hS3 ?_)
      intro v' w4 hown4 hgrow _
      have O4 : Hid (OwnK w2.heap.size v' l w4) := by
        show World.ownsRow _ _ _ _ _ _ _
        rw [HL.out]
        exact hown4
      have hb4 : Below w2.heap.size (w2.alloc (.cells #[] 121)) w4 := (Below.refl _ _).grown hgrow hS3 (fun j hj => (World.ownsRow.lt own3 j hj).1)
      have g4 := keep_block hb4 g3 (lt_of_block gd)
      have p4 := keep_block hb4 p3 (lt_of_block pd)
      have HB4 : Hid (Below w.heap.size w w4) := HB3.out.trans (hb4.mono HBd.out.size)
      have hsh : Hid (∃ aa cc, v' = .slice aa n cc) := by
        obtain ⟨aa, cc, h⟩ := O4.out.shape
        rw [HL.out] at h
        exact ⟨aa, cc, h⟩
      clear hown4 hgrow hb4
      obtain ⟨aa, cc, rfl⟩ := hsh.out
      clear hsh
      refine stepQ_normal ⟨cells2 g4, ?_⟩
      go_wp2_with fail
      refine stepQ_normal ⟨cells2 g4, ?_⟩
      obtain ⟨b0, b1⟩ := cells2 p4
      have f0 := thawed p4 0
      have f1 := thawed p4 1
      have F := Lib.hid (fin.out aa cc w4 O4.out HB4.out g4 p4)
      go_wp2_with fail
      refine stepQ_normal ⟨trivial, ?_⟩
      go_wp2_with fail
      (try simp only [Exit.inBlock, Exit.then])
      refine bodyPost_ret (v := .agg #[.slice aa n cc, .int .i64 pw]) ?_ rfl ⟨_, _, rfl, F.out.1, F.out.2⟩
      simp [results, Try.results160, go_sem, b0, b1]

theorem do_kind {k : Int} (h : 1 ≤ k ∧ k ≤ 9) : k = 1 ∨ k = 4 ∨ k = 6 ∨ k = 8 ∨ k = 7 ∨ k = 9 ∨ (k = 2 ∨ k = 3 ∨ k = 5) := by omega

/-- What a command leaves that was done to the variable at P. -/
def Done (B P n c : Nat) (a : Option Addr) (l : List Bk) (pw : Int) (w : World) (e : Ending) (w' : World) : Prop :=
  e = .returned (.tuple #[]) ∧ w'.heap[P]? = some (.cells #[.slice a n c, .int .i64 pw] 83) ∧ OwnK B (.slice a n c) l w' ∧ Below B w w'

set_option maxHeartbeats 8000000 in
theorem specDo_is {B P n c : Nat} {a : Option Addr} {l : List Bk} {pw k x y z : Int} (hk : 1 ≤ k ∧ k ≤ 9) (hx : k ≤ 5 → 0 ≤ x ∧ x < (n : Int)) (hl : l.length = n) (h1 : n ≤ 4000000) {w : World}
    (hP : w.heap[P]? = some (.cells #[.slice a n c, .int .i64 pw] 83)) (hO : OwnK B (.slice a n c) l w) (hne : ∀ x, a = some x → x.block ≠ P) (hB : B ≤ P) :
    Calls Try.prog 53 #[.pointer (some ⟨P, 0, none⟩), .agg #[.int .i64 k, .int .i64 x, .int .i64 y, .int .i64 z]] w (Done B P n c a (doL l k x y) (doP pw k) w) := by
  obtain ⟨w1, hw1⟩ : ∃ u, w.alloc (.cells #[.int .i64 k, .int .i64 x, .int .i64 y, .int .i64 z] 39) = u := ⟨_, rfl⟩
  have hlt := lt_of_block hP
  have hb1 : Below w.heap.size w w1 := by subst hw1; exact (Below.refl _ _).alloc (Nat.le_refl _) _
  have q1 : w1.heap[w.heap.size]? = some (.cells #[.int .i64 k, .int .i64 x, .int .i64 y, .int .i64 z] 39) := by subst hw1; exact heap_alloc_new _ _
  have p1 := keep_block hb1 hP hlt
  obtain ⟨e0, e1, e2, e3⟩ := cells4 q1
  obtain ⟨d0, d1⟩ := cells2 p1
  have HO := Lib.hid (hO.below hb1)
  have HBB : Hid (Below B w w1) := hb1.mono (by omega)
  have HL := Lib.hid hl
  have HNE := Lib.hid hne
  clear hO hl hb1 hP hne
  have same : Hid (∀ (l' : List Bk) (pw' : Int), l' = l → pw' = pw → Done B P n c a l' pw' w (.returned (.tuple #[])) w1) := by
    rintro l' pw' rfl rfl
    exact ⟨rfl, p1, HO.out, HBB.out⟩
  have power : Hid (∀ (l' : List Bk) (pw' : Int), l' = l → Done B P n c a l' pw' w (.returned (.tuple #[])) (w1.setCell ⟨P, 1, none⟩ (.int .i64 pw'))) := by
    rintro l' pw' rfl
    exact ⟨rfl, set_cells p1 1 _, HO.out.setCell HNE.out _, HBB.out.setCell hB _⟩
  have f1 := thawed p1 1
  rcases do_kind hk with rfl | rfl | rfl | rfl | rfl | rfl | h
  · obtain ⟨hx0, hx1⟩ := hx (by omega)
    obtain ⟨j, rfl⟩ := Int.eq_ofNat_of_zero_le hx0
    have hj : j < n := by omega
    obtain ⟨g, rfl, ho0, ho1, hf, hBg, hgl⟩ := HO.out.at (k := j) (by rw [HL.out]; exact hj)
    have HG : Hid (g ≠ P) := HNE.out _ rfl
    have hf0 := hf (j * 2)
    have hf1 := hf (j * 2 + 1)
    obtain ⟨old0, hco0⟩ : ∃ u, w1.cell? ⟨g, j * 2, none⟩ = some u := ⟨_, ho0⟩
    obtain ⟨old1, hco1⟩ : ∃ u, w1.cell? ⟨g, j * 2 + 1, none⟩ = some u := ⟨_, ho1⟩
    have z0 := fun q : Later w1 => q.cell e0
    have z1 := fun q : Later w1 => q.cell e1
    have z2 := fun q : Later w1 => q.cell e2
    have y0 := fun q : Later w1 => q.cell d0
    clear ho0 ho1 hf hx same power f1
    go_enter Try.func53, Try.ntmps53
    go_wp2_with fail
    refine wp_region_later_tail 10 (by kernel_rfl) (by kernel_rfl) ?_
    simp only [List.take_succ_cons, List.take_zero, List.drop_succ_cons, List.drop_zero]
    repeat (go_big_quiet_step (fail))
    refine wpQuiet_nil ?_
    rintro w2 ⟨zz, hz⟩
    have hb2 : Below w1.heap.size w1 w2 := hz ▸ zz.ok
    have p2 := keep_block hb2 p1 (lt_of_block p1)
    have hc0 := keep_cell hb2 hco0 hgl
    have hc1 := keep_cell hb2 hco1 hgl
    have O2 := Lib.hid (HO.out.below hb2)
    have HB2 : Hid (Below B w w2) := HBB.out.trans (hb2.mono (by have := lt_of_block p1; omega))
    have ff := O2.out.at (k := j) (by rw [HL.out]; exact hj)
    obtain ⟨g', hg', _, _, hf, _, _⟩ := ff
    cases hg'
    have hf0' := hf (j * 2)
    have hf1' := hf (j * 2 + 1)
    clear z0 z1 z2 y0 hz zz hb2 hco0 hco1 hf0 hf1 hf e0 e1 e2 e3 d0 d1
    go_wp2_with fail
    (try simp only [Exit.inBlock, Exit.then])
    refine bodyPost_ret (v := .tuple #[]) (by simp [results, Try.results53]) rfl ?_
    refine ⟨rfl, ?_, ?_, (HB2.out.setCell hBg _).setCell hBg _⟩
    · exact (Below.heap_setCell _ _ _ _ (Ne.symm HG.out)).trans ((Below.heap_setCell _ _ _ _ (Ne.symm HG.out)).trans p2)
    · exact O2.out.stored HL.out (by rw [HL.out]; exact hj) ⟨true, y⟩
  · obtain ⟨hx0, hx1⟩ := hx (by omega)
    obtain ⟨j, rfl⟩ := Int.eq_ofNat_of_zero_le hx0
    have hj : j < n := by omega
    obtain ⟨g, rfl, ho0, ho1, hf, hBg, hgl⟩ := HO.out.at (k := j) (by rw [HL.out]; exact hj)
    have HG : Hid (g ≠ P) := HNE.out _ rfl
    obtain ⟨old0, hco0⟩ : ∃ u, w1.cell? ⟨g, j * 2, none⟩ = some u := ⟨_, ho0⟩
    obtain ⟨old1, hco1⟩ : ∃ u, w1.cell? ⟨g, j * 2 + 1, none⟩ = some u := ⟨_, ho1⟩
    have z0 := fun q : Later w1 => q.cell e0
    have z1 := fun q : Later w1 => q.cell e1
    have y0 := fun q : Later w1 => q.cell d0
    clear ho0 ho1 hf hx same power f1
    go_enter Try.func53, Try.ntmps53
    go_wp2_with fail
    refine wp_region_later_tail 8 (by kernel_rfl) (by kernel_rfl) ?_
    simp only [List.take_succ_cons, List.take_zero, List.drop_succ_cons, List.drop_zero]
    repeat (go_big_quiet_step (fail))
    refine wpQuiet_nil ?_
    rintro w2 ⟨zz, hz⟩
    have hb2 : Below w1.heap.size w1 w2 := hz ▸ zz.ok
    have p2 := keep_block hb2 p1 (lt_of_block p1)
    have hc0 := keep_cell hb2 hco0 hgl
    have hc1 := keep_cell hb2 hco1 hgl
    have O2 := Lib.hid (HO.out.below hb2)
    have HB2 : Hid (Below B w w2) := HBB.out.trans (hb2.mono (by have := lt_of_block p1; omega))
    have ff := O2.out.at (k := j) (by rw [HL.out]; exact hj)
    obtain ⟨g', hg', _, _, hf, _, _⟩ := ff
    cases hg'
    have hf0' := hf (j * 2)
    have hf1' := hf (j * 2 + 1)
    clear z0 z1 y0 hz zz hb2 hco0 hco1 hf e0 e1 e2 e3 d0 d1
    go_wp2_with fail
    (try simp only [Exit.inBlock, Exit.then])
    refine bodyPost_ret (v := .tuple #[]) (by simp [results, Try.results53]) rfl ?_
    refine ⟨rfl, ?_, ?_, (HB2.out.setCell hBg _).setCell hBg _⟩
    · exact (Below.heap_setCell _ _ _ _ (Ne.symm HG.out)).trans ((Below.heap_setCell _ _ _ _ (Ne.symm HG.out)).trans p2)
    · exact O2.out.stored HL.out (by rw [HL.out]; exact hj) bk0
  · clear hx
    go_enter Try.func53, Try.ntmps53
    go_wp2
    (try simp only [Exit.inBlock, Exit.then])
    refine bodyPost_ret (v := .tuple #[]) (by simp [results, Try.results53]) rfl ?_
    exact power.out _ _ rfl
  · clear hx
    go_enter Try.func53, Try.ntmps53
    go_wp2
    (try simp only [Exit.inBlock, Exit.then])
    refine bodyPost_ret (v := .tuple #[]) (by simp [results, Try.results53]) rfl ?_
    exact power.out _ _ rfl
  · clear hx
    go_enter Try.func53, Try.ntmps53
    go_wp2
    (try simp only [Exit.inBlock, Exit.then])
    refine bodyPost_ret (v := .tuple #[]) (by simp [results, Try.results53]) rfl ?_
    exact power.out _ _ rfl
  · clear hx
    go_enter Try.func53, Try.ntmps53
    go_wp2
    (try simp only [Exit.inBlock, Exit.then])
    refine bodyPost_ret (v := .tuple #[]) (by simp [results, Try.results53]) rfl ?_
    exact power.out _ _ rfl
  · clear hx hk
    rcases h with rfl | rfl | rfl
    all_goals (go_enter Try.func53, Try.ntmps53; go_wp2; (try simp only [Exit.inBlock, Exit.then]); refine bodyPost_ret (v := .tuple #[]) (by simp [results, Try.results53]) rfl ?_; exact same.out _ _ rfl rfl)

end Go.Proofs.Ythplhjdfajhmpaa

namespace Go.Proofs.Ythplhjdfajhmpaa
open Go.RowKit Go.PlainAid

set_option linter.unusedVariables false

theorem four_0 (w : World) (A B C D : Obj) : ((((w.alloc A).alloc B).alloc C).alloc D).heap[w.heap.size]? = some A := by
  rw [Below.heap_alloc _ _ _ (by simp <;> omega)]; exact box3_0 w A B C

theorem four_1 (w : World) (A B C D : Obj) : ((((w.alloc A).alloc B).alloc C).alloc D).heap[w.heap.size + 1]? = some B := by
  rw [Below.heap_alloc _ _ _ (by simp <;> omega)]; exact box3_1 w A B C

theorem four_2 (w : World) (A B C D : Obj) : ((((w.alloc A).alloc B).alloc C).alloc D).heap[w.heap.size + 1 + 1]? = some C := by
  rw [Below.heap_alloc _ _ _ (by simp)]; exact box3_2 w A B C

theorem four_3 (w : World) (A B C D : Obj) : ((((w.alloc A).alloc B).alloc C).alloc D).heap[w.heap.size + 1 + 1 + 1]? = some D := by
  have h := box3_2 (w.alloc A) B C D
  rwa [World.size_alloc] at h

/-- A call that answers a rank with a row of its own, and a bool. -/
def GivesA (n : Nat) (l : List Bk) (pw : Int) (v : Bool) (w : World) (e : Ending) (w' : World) : Prop :=
  ∃ a cap, e = .returned (.tuple #[.agg #[.slice a n cap, .int .i64 pw], .bool v]) ∧ OwnK w.heap.size (.slice a n cap) l w' ∧ Below w.heap.size w w'

set_option maxHeartbeats 4000000 in
theorem specAfter_is (g0 B g2 g3 : Int) (a : Option Addr) (n c : Nat) (l : List Bk) (pw k x y z : Int) (v : Bool) (l' : List Bk) (pw' : Int) (hv : allowR g0 B g2 g3 l pw k x y z = v) (hl' : afterL g0 B g2 g3 l pw k x y z = l') (hp' : afterP g0 B g2 g3 l pw k x y z = pw')
    (hl : l.length = n) (h1 : n ≤ 4000000) (hnc : a = none → c = 0) (w : World) (hr : RowB w a l) :
    Calls Try.prog 136 #[.agg #[.int .i64 g0, .int .i64 B, .int .i64 g2, .int .i64 g3], .agg #[.slice a n c, .int .i64 pw], .agg #[.int .i64 k, .int .i64 x, .int .i64 y, .int .i64 z]] w (GivesA n l' pw' v w) := by
  obtain ⟨w1, hw1⟩ : ∃ u, (((w.alloc (.cells #[.int .i64 g0, .int .i64 B, .int .i64 g2, .int .i64 g3] 25)).alloc (.cells #[.slice a n c, .int .i64 pw] 83)).alloc (.cells #[.int .i64 k, .int .i64 x, .int .i64 y, .int .i64 z] 39)).alloc (.cells #[.slice none 0 0, .int .i64 0] 83) = u := ⟨_, rfl⟩
  have hb1 : Below w.heap.size w w1 := by subst hw1; exact ((((Below.refl _ _).alloc (Nat.le_refl _) _).alloc (by simp) _).alloc (by simp; omega) _).alloc (by simp; omega) _
  have g1 : w1.heap[w.heap.size]? = some (.cells #[.int .i64 g0, .int .i64 B, .int .i64 g2, .int .i64 g3] 25) := by subst hw1; exact four_0 _ _ _ _ _
  have p1 : w1.heap[w.heap.size + 1]? = some (.cells #[.slice a n c, .int .i64 pw] 83) := by subst hw1; exact four_1 _ _ _ _ _
  have q1 : w1.heap[w.heap.size + 1 + 1]? = some (.cells #[.int .i64 k, .int .i64 x, .int .i64 y, .int .i64 z] 39) := by subst hw1; exact four_2 _ _ _ _ _
  have s1 : w1.heap[w.heap.size + 1 + 1 + 1]? = some (.cells #[.slice none 0 0, .int .i64 0] 83) := by subst hw1; exact four_3 _ _ _ _ _
  have HS1 : Hid (w.heap.size + 1 + 1 + 1 < w1.heap.size) := lt_of_block s1
  obtain ⟨d0, d1⟩ := cells2 p1
  have HB1 := Lib.hid hb1
  have HR := Lib.hid (hr.below hb1)
  clear hr hb1
  have HV := Lib.hid hv
  have ARG : Hid (v = true → (1 ≤ k ∧ k ≤ 9) ∧ (k ≤ 5 → 0 ≤ x ∧ x < (n : Int)) ∧ l' = doL l k x y ∧ pw' = doP pw k) := fun h => by
    rw [h] at hv
    have hd := hv
    unfold allowR at hd
    rw [Bool.and_eq_true, decide_eq_true_eq] at hd
    exact ⟨hd.1.2.1.1, fun _ => bank_in (k := k) hl hd.1.1 hd.1.2.2, by rw [← hl']; exact if_pos hv, by rw [← hp']; exact if_pos hv⟩
  have ARG0 : Hid (v = false → l' = l ∧ pw' = pw) := fun h => by
    have hn : ¬ allowR g0 B g2 g3 l pw k x y z = true := by rw [hv, h]; simp
    exact ⟨by rw [← hl']; exact if_neg hn, by rw [← hp']; exact if_neg hn⟩
  clear hv hl' hp'
  go_enter Try.func136, Try.ntmps136
  go_wp2_with fail
  refine (specCopy_is _ _ _ _ _ hl h1 hnc _ HR.out).mono ?_
  rintro e w2 ⟨aa, cc, rfl, own2, hb2⟩
  have g2' := keep_block hb2 g1 (lt_of_block g1)
  have p2 := keep_block hb2 p1 (lt_of_block p1)
  have q2 := keep_block hb2 q1 (lt_of_block q1)
  have s2 := keep_block hb2 s1 (lt_of_block s1)
  have HB2 : Hid (Below w.heap.size w w2) := HB1.out.trans (hb2.mono HB1.out.size)
  have HR2 := Lib.hid (HR.out.below hb2)
  have HS2 : Hid (w1.heap.size ≤ w2.heap.size) := hb2.size
  clear d0 d1 hw1 g1 p1 q1 s1 HB1 HR hb2
  have hb3 : Below w2.heap.size w2 (w2.alloc (.cells #[.slice aa n cc, .int .i64 pw] 83)) := (Below.refl _ _).alloc (Nat.le_refl _) _
  have g3' := keep_block hb3 g2' (lt_of_block g2')
  have p3 := keep_block hb3 p2 (lt_of_block p2)
  have q3 := keep_block hb3 q2 (lt_of_block q2)
  have s3 := keep_block hb3 s2 (lt_of_block s2)
  have t3 := heap_alloc_new w2 (.cells #[.slice aa n cc, .int .i64 pw] 83)
  have HB3 : Hid (Below w.heap.size w (w2.alloc (.cells #[.slice aa n cc, .int .i64 pw] 83))) := HB2.out.trans (hb3.mono HB2.out.size)
  have HR3 := Lib.hid (HR2.out.below hb3)
  have O3 := Lib.hid (own2.below hb3)
  have HNE : Hid (∀ x, aa = some x → x.block ≠ w2.heap.size) := fun x hx => by have := (own2.lo x hx).2; omega
  have HNS : Hid (∀ x, aa = some x → x.block ≠ w.heap.size + 1 + 1 + 1) := fun x hx => by have := (own2.lo x hx).1; have := HS1.out; omega
  obtain ⟨c0, c1, c2, c3⟩ := cells4 g3'
  obtain ⟨d0, d1⟩ := cells2 p3
  obtain ⟨e0, e1, e2, e3⟩ := cells4 q3
  clear hb3 own2 g2' p2 q2 s2
  go_wp2_with fail
  clear c0 c1 c2 c3 d0 d1 e0 e1 e2 e3
  generalize (w2.alloc (.cells #[.slice aa n cc, .int .i64 pw] 83)) = w3 at g3' p3 q3 s3 t3 HB3 HR3 O3 ⊢
  refine (specAllowed_is _ _ _ _ _ _ _ _ _ _ _ _ _ _ HV.out hl h1 _ HR3.out).mono ?_
  rintro e w4 ⟨rfl, hb4⟩
  have q4 := keep_block hb4 q3 (lt_of_block q3)
  have s4 := keep_block hb4 s3 (lt_of_block s3)
  have t4 := keep_block hb4 t3 (lt_of_block t3)
  have HB4 : Hid (Below w.heap.size w w4) := HB3.out.trans (hb4.mono HB3.out.size)
  have O4 := Lib.hid (O3.out.below hb4)
  clear hb4 g3' p3 q3 s3 t3 HR3 HB3 O3
  cases v
  · obtain ⟨rfl, rfl⟩ := ARG0.out rfl
    clear ARG0 ARG
    obtain ⟨x0, x1⟩ := cells2 t4
    obtain ⟨y0, y1⟩ := cells2 s4
    have f0 := thawed s4 0
    have f1 := thawed s4 1
    have F1 : Hid (OwnK w.heap.size (.slice aa n cc) l' ((w4.setCell ⟨w.heap.size + 1 + 1 + 1, 0, none⟩ (.slice aa n cc)).setCell ⟨w.heap.size + 1 + 1 + 1, 1, none⟩ (.int .i64 pw'))) :=
      OwnK.mono (B := w1.heap.size) ((O4.out.setCell HNS.out _).setCell HNS.out _) (by have := HS1.out; omega)
    have F2 : Hid (Below w.heap.size w ((w4.setCell ⟨w.heap.size + 1 + 1 + 1, 0, none⟩ (.slice aa n cc)).setCell ⟨w.heap.size + 1 + 1 + 1, 1, none⟩ (.int .i64 pw'))) := (HB4.out.setCell (by simp; omega) _).setCell (by simp; omega) _
    go_wp2_with fail
    (try simp only [Exit.inBlock, Exit.then])
    refine bodyPost_ret (v := .tuple #[.agg #[.slice aa n cc, .int .i64 pw'], .bool false]) ?_ rfl ⟨_, _, rfl, F1.out, F2.out⟩
    simp [results, Try.results136, go_sem, y0, y1]
  · obtain ⟨hkk, hxx, rfl, rfl⟩ := ARG.out rfl
    clear ARG0 ARG
    have HD := Lib.hid (specDo_is (B := w1.heap.size) (P := w2.heap.size) (y := y) (z := z) hkk hxx hl h1 t4 O4.out HNE.out HS2.out)
    obtain ⟨e0, e1, e2, e3⟩ := cells4 q4
    clear hkk hxx t4 O4
    go_wp2_with fail
    refine HD.out.mono ?_
    rintro e w5 ⟨rfl, t5, own5, hb5⟩
    have s5 := keep_block hb5 s4 HS1.out
    have HB5 : Hid (Below w.heap.size w w5) := HB4.out.trans (hb5.mono (by have := HS1.out; omega))
    obtain ⟨x0, x1⟩ := cells2 t5
    obtain ⟨y0, y1⟩ := cells2 s5
    have f0 := thawed s5 0
    have f1 := thawed s5 1
    have F1 : Hid (OwnK w.heap.size (.slice aa n cc) (doL l k x y) ((w5.setCell ⟨w.heap.size + 1 + 1 + 1, 0, none⟩ (.slice aa n cc)).setCell ⟨w.heap.size + 1 + 1 + 1, 1, none⟩ (.int .i64 (doP pw k)))) :=
      OwnK.mono (B := w1.heap.size) ((own5.setCell HNS.out _).setCell HNS.out _) (by have := HS1.out; omega)
    have F2 : Hid (Below w.heap.size w ((w5.setCell ⟨w.heap.size + 1 + 1 + 1, 0, none⟩ (.slice aa n cc)).setCell ⟨w.heap.size + 1 + 1 + 1, 1, none⟩ (.int .i64 (doP pw k)))) := (HB5.out.setCell (by simp; omega) _).setCell (by simp; omega) _
    clear hb5 own5 HD q4 s4 HB4 e0 e1 e2 e3
    go_wp2_with fail
    (try simp only [Exit.inBlock, Exit.then])
    refine bodyPost_ret (v := .tuple #[.agg #[.slice aa n cc, .int .i64 (doP pw k)], .bool true]) ?_ rfl ⟨_, _, rfl, F1.out, F2.out⟩
    simp [results, Try.results136, go_sem, y0, y1]

end Go.Proofs.Ythplhjdfajhmpaa

namespace Go.Proofs.Ythplhjdfajhmpaa
open Go.RowKit

set_option linter.unusedVariables false

theorem OwnK.apart {B n c g : Nat} {a : Option Addr} {l : List Bk} {u : World} {vs : Array Value} {fr : Nat × Nat} (h : OwnK B (.slice a n c) l u) (hh : u.heap[g]? = some (.cells vs 83 fr)) : ∀ x, a = some x → x.block ≠ g := by
  rintro x rfl e
  rcases h.2 with ⟨hv, _⟩ | ⟨b, cap, cur, hv, _, hb, _⟩
  · cases hv
  · cases hv
    subst e
    rw [hb] at hh
    injection hh with h1
    injection h1 with _ h2 _
    exact absurd h2 (by decide)

/-- From operation s on a variable is there; behind t it holds a rank with a row of its own. -/
def MadeR (s t base n : Nat) (l : List Bk) (pw : Int) (listed : Array Bool) (x : Nat → Value) (u : World) : Prop :=
  (listed.getD t false = true → listed.getD s false = true) ∧
  (listed.getD s false = true → ∃ g, x s = .pointer (some ⟨g, 0, none⟩) ∧ base ≤ g ∧
    (listed.getD t false = false → u.heap[g]? = some (.cells #[.slice none 0 0, .int .i64 0] 83)) ∧
    (listed.getD t false = true → ∃ aa cc, u.heap[g]? = some (.cells #[.slice aa n cc, .int .i64 pw] 83) ∧ OwnK base (.slice aa n cc) l u))

theorem MadeR.zero (s t base n : Nat) (l : List Bk) (pw : Int) (k : Nat) (x : Nat → Value) (u : World) : MadeR s t base n l pw (Array.replicate k false) x u :=
  ⟨fun h => (by rw [getD_replicate_false] at h; cases h), fun h => by rw [getD_replicate_false] at h; cases h⟩

theorem MadeR.keep {s t base n : Nat} {l : List Bk} {pw : Int} {listed : Array Bool} {x : Nat → Value} {u u' : World} (h : MadeR s t base n l pw listed x u) {i : Nat} (hs : i ≠ s) (ht : i ≠ t) (v : Value) (hb : Below u.heap.size u u') :
    MadeR s t base n l pw (listed.setIfInBounds i true) (upd x i v) u' := by
  refine ⟨fun h1 => ?_, fun h1 => ?_⟩
  · rw [getD_set_ne false ht] at h1
    exact getD_set_true (h.1 h1)
  · rw [getD_set_ne false hs] at h1
    rw [getD_set_ne false ht]
    obtain ⟨g, e, hg, hz, hf⟩ := h.2 h1
    refine ⟨g, by rw [upd_other _ _ (Ne.symm hs)]; exact e, hg, fun h0 => keep_block hb (hz h0) (lt_of_block (hz h0)), fun h0 => ?_⟩
    obtain ⟨aa, cc, hh, ho⟩ := hf h0
    exact ⟨aa, cc, keep_block hb hh (lt_of_block hh), ho.below hb⟩

theorem MadeR.new {s t base n : Nat} {l : List Bk} {pw : Int} {listed : Array Bool} {x : Nat → Value} {u : World} (h : MadeR s t base n l pw listed x u) (hst : s ≠ t) (hs : listed.getD s false = false) (hb : base ≤ u.heap.size) :
    MadeR s t base n l pw (listed.setIfInBounds s true) (upd x s (.pointer (some ⟨u.heap.size, 0, none⟩))) (u.alloc (.cells #[.slice none 0 0, .int .i64 0] 83)) := by
  have ht : listed.getD t false = false := by
    cases e : listed.getD t false with
    | false => rfl
    | true => have := h.1 e; rw [hs] at this; cases this
  refine ⟨fun h1 => ?_, fun h1 => ?_⟩
  · rw [getD_set_ne false hst, ht] at h1; cases h1
  · rw [getD_set_ne false hst, ht]
    exact ⟨_, upd_same _ _ _, hb, fun _ => heap_alloc_new _ _, fun h0 => by cases h0⟩

theorem MadeR.there {s t base n : Nat} {l : List Bk} {pw : Int} {listed : Array Bool} {x : Nat → Value} {u : World} (h : MadeR s t base n l pw listed x u) (hs : listed.getD s false = true) (ht : listed.getD t false = false) :
    ∃ g, x s = .pointer (some ⟨g, 0, none⟩) ∧ base ≤ g ∧ u.heap[g]? = some (.cells #[.slice none 0 0, .int .i64 0] 83) := by
  obtain ⟨g, e, hg, hz, _⟩ := h.2 hs
  exact ⟨g, e, hg, hz ht⟩

theorem MadeR.fill {s t base n : Nat} {l : List Bk} {pw : Int} {listed : Array Bool} {x : Nat → Value} {u' : World} {g cc : Nat} {aa : Option Addr} {v : Value} (hst : s ≠ t) (hs : listed.getD s false = true) (ht : t < listed.size) (hx : x s = .pointer (some ⟨g, 0, none⟩)) (hg : base ≤ g)
    (hh : u'.heap[g]? = some (.cells #[.slice aa n cc, .int .i64 pw] 83)) (ho : OwnK base (.slice aa n cc) l u') : MadeR s t base n l pw (listed.setIfInBounds t true) (upd x t v) u' := by
  refine ⟨fun _ => getD_set_true hs, fun _ => ⟨g, by rw [upd_other _ _ hst]; exact hx, hg, fun h0 => ?_, fun _ => ⟨aa, cc, hh, ho⟩⟩⟩
  rw [get_set_same false ht] at h0
  cases h0

theorem MadeR.full {s t base n : Nat} {l : List Bk} {pw : Int} {listed : Array Bool} {x : Nat → Value} {u : World} (h : MadeR s t base n l pw listed x u) (hs : listed.getD s false = true) (ht : listed.getD t false = true) :
    ∃ g aa cc, x s = .pointer (some ⟨g, 0, none⟩) ∧ base ≤ g ∧ u.heap[g]? = some (.cells #[.slice aa n cc, .int .i64 pw] 83) ∧ OwnK base (.slice aa n cc) l u := by
  obtain ⟨g, e, hg, _, hf⟩ := h.2 hs
  obtain ⟨aa, cc, hh, ho⟩ := hf ht
  exact ⟨g, aa, cc, e, hg, hh, ho⟩

end Go.Proofs.Ythplhjdfajhmpaa

namespace Go.Proofs.Ythplhjdfajhmpaa
open Go.RowKit

set_option linter.unusedVariables false

theorem Only.past {c : Nat} {w w1 w2 : World} (h : Only c w w1) (hb : Below w.heap.size w1 w2) : Only c w w2 :=
  h.trans' ⟨hb.os, hb.tape, hb.output, hb.size⟩ (fun k hk _ => hb.block k hk)

end Go.Proofs.Ythplhjdfajhmpaa
