/-
  The model's partitions: valid, and the banks of a tenant.
-/
import Derived.Test.YtljcdjhafhppbaaPartM
import Derived.Test.YtljcdjhafhppbaaGivesI
import Derived.Test.YtljcdjhafhppbaaTail
namespace Go.Proofs.Ytljcdjhafhppbaa
open Go.RowKit

set_option linter.unusedVariables false

set_option maxHeartbeats 1000000 in
theorem specPtOk_is (a b r d : Int) (ad : Option Addr) (n cap : Nat) (l : List Int) (hn : l.length = n) (h1 : n ≤ 4000000) (v : Bool) (hv : decide (PtOk a b r d l) = v) (w : World) (hr : RowI w ad l) :
    Calls Try.prog 12 #[.agg #[.int .i64 a, .int .i64 b, .int .i64 r, .int .i64 d], .agg #[.slice ad n cap]] w (Gives (.bool v) w) := by
  have HV := Lib.hid hv
  have HN := Lib.hid hn
  obtain ⟨w1, hw1⟩ : ∃ u, (w.alloc (.cells #[.int .i64 a, .int .i64 b, .int .i64 r, .int .i64 d] 25)).alloc (.cells #[.slice ad n cap] 28) = u := ⟨_, rfl⟩
  have HB1 : Hid (Below w.heap.size w w1) := by subst hw1; exact ((Below.refl _ _).alloc (Nat.le_refl _) _).alloc (by simp) _
  have g1 : w1.heap[w.heap.size]? = some (.cells #[.int .i64 a, .int .i64 b, .int .i64 r, .int .i64 d] 25) := by subst hw1; exact heap_alloc2_old _ _ _
  have p1 : w1.heap[w.heap.size + 1]? = some (.cells #[.slice ad n cap] 28) := by subst hw1; exact heap_alloc2_new _ _ _
  have HR1 := Lib.hid (hr.below HB1.out)
  have cp1 := cell1 p1
  clear hv hn hr
  obtain ⟨N, hN⟩ : ∃ N, bankN a b r d = N := ⟨_, rfl⟩
  have HBN := Lib.hid hN
  clear hN
  go_enter Try.func12, Try.ntmps12
  go_wp2_with fail
  clear hw1
  go_loop [5] (fun i => ∃ k : Nat, k ≤ n ∧ i = .int .i64 k ∧ ∀ j, j < k → 0 ≤ l.getD j 0 ∧ l.getD j 0 ≤ 3) (fun i => n - (intOf i).toNat)
  case atStart => exact ⟨0, Nat.zero_le _, rfl, fun j hj => absurd hj (Nat.not_lt_zero _)⟩
  case round =>
    obtain ⟨k, hk, rfl, hall⟩ := hrel
    have HALL := Lib.hid hall
    clear hall
    by_cases hlt : k < n
    · obtain ⟨pb, off, rfl, hc⟩ := HR1.out.at (k := k) (by rw [HN.out]; exact hlt)
      obtain ⟨x, hx⟩ : ∃ x, l.getD k 0 = x := ⟨_, rfl⟩
      rw [hx] at hc
      have HX := Lib.hid hx
      clear hx
      by_cases hb : 0 ≤ x ∧ x ≤ 3
      · have KX := Lib.hid (decide_eq_true hb)
        have HA2 : Hid (∀ j, j < k + 1 → 0 ≤ l.getD j 0 ∧ l.getD j 0 ≤ 3) := by
          intro j hj
          by_cases e : j = k
          · subst e; rw [HX.out]; exact hb
          · exact HALL.out j (by omega)
        clear hb
        go_wp2_with fail
        refine (specIn_is x 0 3 _ KX.out _).mono ?_
        rintro e w2 ⟨rfl, rfl⟩
        go_wp2_with fail
        go_round
        case rel => exact ⟨k + 1, by omega, by go_num, HA2.out⟩
        case measure => simp [intOf]; omega
      · have KX := Lib.hid (decide_eq_false hb)
        have HF : Hid (v = false) := by
          show _ = _
          rw [← HV.out]
          refine decide_eq_false fun h => hb ?_
          rw [← HX.out]
          exact h.own (by rw [HN.out]; exact hlt)
        clear hb
        go_wp2_with fail
        refine (specIn_is x 0 3 _ KX.out _).mono ?_
        rintro e w2 ⟨rfl, rfl⟩
        go_wp2_with fail
        go_ret
        exact ⟨ret_b HF.out.symm, HB1.out⟩
    · obtain rfl : k = n := by omega
      have HL3 : Hid (∀ x ∈ l, 0 ≤ x ∧ x ≤ 3) := by
        intro x hx
        obtain ⟨i, hi, rfl⟩ := List.getElem_of_mem hx
        have := HALL.out i (by rw [← HN.out]; exact hi)
        rwa [List.getD_eq_getElem?_getD, List.getElem?_eq_getElem hi] at this
      obtain ⟨cg0, cg1, cg2, cg3⟩ := cells4 g1
      have z0 := fun zz : Later w1 => zz.cell cg0
      have z1 := fun zz : Later w1 => zz.cell cg1
      have z2 := fun zz : Later w1 => zz.cell cg2
      have z3 := fun zz : Later w1 => zz.cell cg3
      have z4 := fun zz : Later w1 => zz.cell cp1
      clear cg0 cg1 cg2 cg3
      by_cases kg : GeoOk a b r d
      · have KG := Lib.hid (decide_eq_true kg)
        obtain ⟨q, hq⟩ : ∃ q, ((k : Int) == N) = q := ⟨_, rfl⟩
        have HE : Hid (v = q) := by
          show _ = _
          rw [← HV.out, ← hq, Bool.eq_iff_iff]
          simp only [decide_eq_true_eq, beq_iff_eq]
          rw [← HBN.out, ← HN.out]
          exact ⟨fun h => h.2.1, fun h => ⟨kg, h, HL3.out⟩⟩
        clear kg
        go_wp2_with fail
        refine wp_region_later (by kernel_rfl) (by kernel_rfl) ?_
        repeat (go_big_quiet_step (first | (go_at_call 38; exact Gives.later _ (specGeoOk_is _ _ _ _ _ KG.out _)) | (go_at_call 39; exact Gives.later _ (specBank_is _ _ _ _ _ HBN.out _))))
        refine wpQuiet_nil ?_
        rintro w2 ⟨zz, rfl⟩
        go_wp2
        go_ret
        exact ⟨ret_b HE.out.symm, HB1.out.trans (zz.ok.mono HB1.out.size)⟩
      · have KG := Lib.hid (decide_eq_false kg)
        have HE : Hid (v = false) := by
          show _ = _
          rw [← HV.out]
          exact decide_eq_false fun h => kg h.1
        clear kg
        go_wp2_with fail
        refine wp_region_later (by kernel_rfl) (by kernel_rfl) ?_
        repeat (go_big_quiet_step (first | (go_at_call 38; exact Gives.later _ (specGeoOk_is _ _ _ _ _ KG.out _))))
        refine wpQuiet_nil ?_
        rintro w2 ⟨zz, rfl⟩
        go_wp2
        go_ret
        exact ⟨ret_b HE.out.symm, HB1.out.trans (zz.ok.mono HB1.out.size)⟩

set_option maxHeartbeats 2000000 in
set_option maxRecDepth 100000 in
theorem specBanksOf_is (ad : Option Addr) (n cap : Nat) (l : List Int) (hn : l.length = n) (h1 : n ≤ 4000000) (t : Int) (w : World) (hr : RowI w ad l) :
    Calls Try.prog 26 #[.agg #[.slice ad n cap], .int .i64 t] w (GivesI (bkL l t) w) := by
  have HL : Hid (bk l t n = bkL l t) := by show _ = _; rw [← hn]; rfl
  have HN := Lib.hid hn
  obtain ⟨i0, hi, hz0, hz1, hz2⟩ := info_parts infoI
  obtain ⟨w0, hw0⟩ : ∃ u, w.alloc (.cells #[.slice ad n cap] 28) = u := ⟨_, rfl⟩
  have HB0 : Hid (Below w.heap.size w w0) := by subst hw0; exact (Below.refl _ _).alloc (Nat.le_refl _) _
  have p0 : w0.heap[w.heap.size]? = some (.cells #[.slice ad n cap] 28) := by subst hw0; exact heap_alloc_new _ _
  have HS0 : Hid (w.heap.size ≤ w0.heap.size) := HB0.out.size
  obtain ⟨w1, hw1⟩ : ∃ u, w0.alloc (.cells #[] 3) = u := ⟨_, rfl⟩
  have hb1 : Below w0.heap.size w0 w1 := by subst hw1; exact (Below.refl _ _).alloc (Nat.le_refl _) _
  have O1 : Hid (OwnI w0.heap.size (.slice (some ⟨w0.heap.size, 0, none⟩) 0 0) [] w1) := by
    show World.ownsRow _ _ _ _ _ _ _
    rw [← hw1]
    exact World.ownsRow_made w0 #[] 0 (Nat.le_refl _) (by decide) rfl
  have p1 := keep_block hb1 p0 (lt_of_block p0)
  have HB1 : Hid (Below w.heap.size w w1) := HB0.out.trans (hb1.mono HB0.out.size)
  have hs1 : w0.heap.size ≤ w1.heap.size := hb1.size
  have hpl := lt_of_block p0
  have HR := Lib.hid hr
  clear hb1 p0 HB0 hn hr
  go_enter Try.func26, Try.ntmps26
  go_wp2_with fail
  clear hw0 hw1
  go_loopw [5, 6] (fun v i wr => ∃ k : Nat, k ≤ n ∧ i = .int .i64 k ∧ OwnI w0.heap.size v (bk l t k) wr ∧ w0.heap.size ≤ wr.heap.size ∧ wr.heap[w.heap.size]? = some (.cells #[.slice ad n cap] 28) ∧ Below w.heap.size w wr) (fun _ i _ => n - (intOf i).toNat)
  case atStart => exact ⟨0, Nat.zero_le _, rfl, O1.out, hs1, p1, HB1.out⟩
  case round =>
    obtain ⟨k, hk, rfl, hown, hsr, hp, hbel⟩ := hrel
    have HBR := Lib.hid hbel
    have HO := Lib.hid hown
    have cp := cell1 hp
    clear hbel hown p1 HB1 O1
    by_cases hlt : k < n
    · obtain ⟨pb, off, rfl, hc⟩ := (HR.out.below HBR.out).at (k := k) (by rw [HN.out]; exact hlt)
      obtain ⟨x, hx⟩ : ∃ x, l.getD k 0 = x := ⟨_, rfl⟩
      rw [hx] at hc
      have HX := Lib.hid hx
      clear hx
      by_cases hxt : x = t
      · have hR : bk l t (k + 1) = bk l t k ++ [(k : Int)] := bk_hit (HX.out.trans hxt)
        have HR2 := Lib.hid hR
        have hll := bk_le l t k
        have own7 := HO.out
        have hbs := HBR.out.size
        subst hxt
        have txx : (x == x) = true := by simp
        clear hR HO
        go_wp2_with (at_builtin; refine wpList_append_own _ rfl _ _ 26 rfl w0.heap.size 3 i0 (.int .i64 0) 1 8 Try.underlying26 hi hz0 hz1 hz2 rfl (by decide) _ _ _ rfl (World.ownsRow.alloc own7 _) ⟨wr.heap.size, 0, none⟩ 1 1 [.int .i64 (k : Int)] rfl rfl (cell_one_new _ _ _) (by intro u hu; simp at hu; subst hu; rfl) (by unfold maxLen; omega) (by omega) (by rw [World.size_alloc]; omega) ?_)
        intro v' w8 hown8 hgrow _
        have R : Hid (OwnI w0.heap.size v' (bk l x (k + 1)) w8) := by
          have := ownI_more hown8
          rw [← HR2.out] at this
          exact this
        have hrow : ∀ j, Value.ownBlock u5 = some j → w0.heap.size ≤ j := fun j hj => (World.ownsRow.lt own7 j hj).1
        have hb8 : Below w0.heap.size wr w8 := ((Below.refl w0.heap.size wr).alloc (by omega) _).grown hgrow (by rw [World.size_alloc]; omega) hrow
        have p8 := keep_block hb8 hp hpl
        have HB8 : Hid (Below w.heap.size w w8) := HBR.out.trans (hb8.mono HS0.out)
        have hs8 := Nat.le_trans hsr hb8.size
        clear hb8 hown8 hgrow own7 hrow hp HBR cp hc
        go_wp2_with fail
        go_roundw
        case rel => exact ⟨k + 1, by omega, by go_num, R.out, hs8, p8, HB8.out⟩
        case measure => simp [intOf]; omega
      · have hR : bk l t (k + 1) = bk l t k := bk_miss (fun e => hxt (HX.out.symm.trans e))
        have HR2 := Lib.hid hR
        have txt : (x == t) = false := by simpa using hxt
        clear hR hxt
        go_wp2_with fail
        go_roundw
        case rel => exact ⟨k + 1, by omega, by go_num, by rw [HR2.out]; exact HO.out, hsr, hp, HBR.out⟩
        case measure => simp [intOf]; omega
    · obtain rfl : k = n := by omega
      go_wp2_with fail
      go_ret
      have hO := HO.out
      rw [HL.out] at hO
      obtain ⟨aa, cc, rfl⟩ := hO.shape
      exact ⟨_, _, rfl, hO.mono HS0.out, HBR.out⟩

end Go.Proofs.Ytljcdjhafhppbaa
