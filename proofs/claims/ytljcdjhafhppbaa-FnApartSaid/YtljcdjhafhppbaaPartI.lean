/-
  impl's partitions: valid, and the banks of a tenant, collected in a map from tenants to lists.
-/
import Derived.Test.YtljcdjhafhppbaaPartW
import Derived.Test.YtljcdjhafhppbaaGeoI
import Derived.Maps.OwnRows
import Derived.Maps.Views
namespace Go.Proofs.Ytljcdjhafhppbaa
open Go.RowKit Go.Maps Go.ChangeShapes

set_option linter.unusedVariables false

set_option maxHeartbeats 1000000 in
theorem implPtOk_is (a b r d : Int) (ad : Option Addr) (n cap : Nat) (l : List Int) (hn : l.length = n) (h1 : n ≤ 4000000) (v : Bool) (hv : decide (PtOk a b r d l) = v) (w : World) (hr : RowI w ad l) :
    Calls Try.prog 13 #[.agg #[.int .i64 a, .int .i64 b, .int .i64 r, .int .i64 d], .agg #[.slice ad n cap]] w (Gives (.bool v) w) := by
  have HV := Lib.hid hv
  have HN := Lib.hid hn
  obtain ⟨w1, hw1⟩ : ∃ u, (w.alloc (.cells #[.int .i64 a, .int .i64 b, .int .i64 r, .int .i64 d] 25)).alloc (.cells #[.slice ad n cap] 28) = u := ⟨_, rfl⟩
  have HB1 : Hid (Below w.heap.size w w1) := by subst hw1; exact ((Below.refl _ _).alloc (Nat.le_refl _) _).alloc (by simp) _
  have g1 : w1.heap[w.heap.size]? = some (.cells #[.int .i64 a, .int .i64 b, .int .i64 r, .int .i64 d] 25) := by subst hw1; exact heap_alloc2_old _ _ _
  have p1 : w1.heap[w.heap.size + 1]? = some (.cells #[.slice ad n cap] 28) := by subst hw1; exact heap_alloc2_new _ _ _
  have HR1 := Lib.hid (hr.below HB1.out)
  obtain ⟨cg0, cg1, cg2, cg3⟩ := cells4 g1
  have cp1 := cell1 p1
  have z0 := fun zz : Later w1 => zz.cell cg0
  have z1 := fun zz : Later w1 => zz.cell cg1
  have z2 := fun zz : Later w1 => zz.cell cg2
  have z3 := fun zz : Later w1 => zz.cell cg3
  have z4 := fun zz : Later w1 => zz.cell cp1
  clear hv hn hr cg0 cg1 cg2 cg3 cp1
  obtain ⟨N, hN⟩ : ∃ N, bankN a b r d = N := ⟨_, rfl⟩
  have HBN := Lib.hid hN
  clear hN
  by_cases kg : GeoOk a b r d
  case neg =>
    have KG := Lib.hid (decide_eq_false kg)
    have HE : Hid (v = false) := by
      show _ = _
      rw [← HV.out]
      exact decide_eq_false fun h => kg h.1
    clear kg
    go_enter Try.func13, Try.ntmps13
    go_wp2_with fail
    refine wp_region_later (by kernel_rfl) (by kernel_rfl) ?_
    repeat (go_big_quiet_step (first | (go_at_call 40; exact Gives.later _ (implGeoOk_is _ _ _ _ _ KG.out _))))
    refine wpQuiet_nil ?_
    rintro w2 ⟨zz, rfl⟩
    go_wp2
    go_ret
    exact ⟨ret_b HE.out.symm, HB1.out.trans (zz.ok.mono HB1.out.size)⟩
  have KG := Lib.hid (decide_eq_true kg)
  by_cases hl : (n : Int) = N
  case neg =>
    have HE : Hid (v = false) := by
      show _ = _
      rw [← HV.out]
      exact decide_eq_false fun h => hl (by rw [← HN.out, ← HBN.out]; exact h.2.1)
    have tn : ((n : Int) != N) = true := by simpa using hl
    clear kg hl
    go_enter Try.func13, Try.ntmps13
    go_wp2_with fail
    refine wp_region_later (by kernel_rfl) (by kernel_rfl) ?_
    repeat (go_big_quiet_step (first | (go_at_call 40; exact Gives.later _ (implGeoOk_is _ _ _ _ _ KG.out _)) | (go_at_call 41; exact Gives.later _ (implBank_is _ _ _ _ _ HBN.out _))))
    refine wpQuiet_nil ?_
    rintro w2 ⟨zz, rfl⟩
    go_wp2
    go_ret
    exact ⟨ret_b HE.out.symm, HB1.out.trans (zz.ok.mono HB1.out.size)⟩
  have tn : ((n : Int) != N) = false := by simpa using hl
  have KL : Hid ((l.length : Int) = bankN a b r d) := by show _ = _; rw [HN.out, HBN.out]; exact hl
  have KGP := Lib.hid kg
  clear kg hl
  go_enter Try.func13, Try.ntmps13
  go_wp2_with fail
  refine wp_region_later (by kernel_rfl) (by kernel_rfl) ?_
  repeat (go_big_quiet_step (first | (go_at_call 40; exact Gives.later _ (implGeoOk_is _ _ _ _ _ KG.out _)) | (go_at_call 41; exact Gives.later _ (implBank_is _ _ _ _ _ HBN.out _))))
  refine wpQuiet_nil ?_
  rintro w2 ⟨zz, hz⟩
  have hb2 : Below w1.heap.size w1 w2 := hz ▸ zz.ok
  have cp2 := cell1 (keep_block hb2 p1 (lt_of_block p1))
  have HR2 := Lib.hid (HR1.out.below hb2)
  have HB2 : Hid (Below w.heap.size w w2) := HB1.out.trans (hb2.mono HB1.out.size)
  clear hz zz hb2 z0 z1 z2 z3 z4 g1 p1 HR1 HB1 hw1
  go_wp2_with fail
  go_loop [21] (fun i => ∃ k : Nat, k ≤ n ∧ i = .int .i64 k ∧ ∀ j, j < k → 0 ≤ l.getD j 0 ∧ l.getD j 0 ≤ 3) (fun i => n - (intOf i).toNat)
  case atStart => exact ⟨0, Nat.zero_le _, rfl, fun j hj => absurd hj (Nat.not_lt_zero _)⟩
  case round =>
    obtain ⟨k, hk, rfl, hall⟩ := hrel
    have HALL := Lib.hid hall
    clear hall
    by_cases hlt : k < n
    · obtain ⟨pb, off, rfl, hc⟩ := HR2.out.at (k := k) (by rw [HN.out]; exact hlt)
      obtain ⟨x, hx⟩ : ∃ x, l.getD k 0 = x := ⟨_, rfl⟩
      rw [hx] at hc
      have HX := Lib.hid hx
      clear hx
      by_cases hb : 0 ≤ x ∧ x ≤ 3
      · have HA2 : Hid (∀ j, j < k + 1 → 0 ≤ l.getD j 0 ∧ l.getD j 0 ≤ 3) := by
          intro j hj
          by_cases e : j = k
          · subst e; rw [HX.out]; exact hb
          · exact HALL.out j (by omega)
        obtain ⟨hb0, hb1⟩ := hb
        go_wp2_with fail
        go_round
        case rel => exact ⟨k + 1, by omega, by go_num, HA2.out⟩
        case measure => simp [intOf]; omega
      · have HF : Hid (v = false) := by
          show _ = _
          rw [← HV.out]
          refine decide_eq_false fun h => hb ?_
          rw [← HX.out]
          exact h.own (by rw [HN.out]; exact hlt)
        by_cases hb0 : x < 0
        · clear hb
          go_wp2_with fail
          go_ret
          exact ⟨ret_b HF.out.symm, HB2.out⟩
        · have hb4 : 4 ≤ x := by omega
          clear hb
          go_wp2_with fail
          go_ret
          exact ⟨ret_b HF.out.symm, HB2.out⟩
    · obtain rfl : k = n := by omega
      have HE : Hid (v = true) := by
        show _ = _
        rw [← HV.out]
        refine decide_eq_true ⟨KGP.out, KL.out, fun x hx => ?_⟩
        obtain ⟨i, hi, rfl⟩ := List.getElem_of_mem hx
        have := HALL.out i (by rw [← HN.out]; exact hi)
        rwa [List.getD_eq_getElem?_getD, List.getElem?_eq_getElem hi] at this
      go_wp2_with fail
      go_ret
      exact ⟨ret_b HE.out.symm, HB2.out⟩

/-- The elements of a datum. -/
def itemsD : DataW Unit → List (DataW Unit)
  | .slice xs _ => xs
  | _ => []

theorem lits_inj {k : IntKind} {a b : List Int} (h : lits (H := Unit) k a = lits k b) : a = b :=
  (List.map_inj_right (fun x y hxy => by cases hxy; rfl)).1 h

theorem zeroRow (w : World) : (zeroValue 26).run Try.prog w = .ok (.slice none 0 0) w := by kernel_rfl

/-- The map holds of each tenant the places among the first k. -/
def GroupsD (l : List Int) (k : Nat) (D : DataW Unit) : Prop := IsMap D ∧ ∀ t : Int, (Lit.int .i64 t).wf = true → itemsD (D.atKey (.int .i64 t) .nil) = lits .i64 (bk l t k)

theorem items_row {w : World} {base : Nat} {e : TypeId} {v : Value} {zs : List Int} (h : w.ownsInts base e .i64 v zs) : itemsD (rowDatum .i64 v zs) = lits .i64 zs := by
  rcases h.datum (H := Unit) with ⟨h1, rfl⟩ | h1
  · rw [h1]; rfl
  · rw [h1]; rfl

theorem groups_zs {l : List Int} {k : Nat} {D : DataW Unit} {w : World} {base : Nat} {e : TypeId} {v : Value} {zs : List Int} {t : Int} (hD : GroupsD l k D) (ht : (Lit.int .i64 t).wf = true) (hat : D.atKey (.int .i64 t) .nil = rowDatum .i64 v zs)
    (h : w.ownsInts base e .i64 v zs) : zs = bk l t k := by
  have h1 := hD.2 t ht
  rw [hat, items_row h] at h1
  exact lits_inj h1

theorem groups_step {l : List Int} {k : Nat} {D : DataW Unit} {w : World} {base : Nat} {e : TypeId} {v : Value} {zs : List Int} (hD : GroupsD l k D) (hw : (Lit.int .i64 (l.getD k 0)).wf = true) (hz : zs = bk l (l.getD k 0) (k + 1))
    (h : w.ownsInts base e .i64 v zs) : GroupsD l (k + 1) (D.put (.int .i64 (l.getD k 0)) (rowDatum .i64 v zs)) := by
  refine ⟨hD.1.put _ _, fun t ht => ?_⟩
  by_cases e : l.getD k 0 = t
  · rw [← e, atKey_put_same hD.1 (show WideAt.IsKeyLit (.int .i64 (l.getD k 0)) from trivial), items_row h, hz]
  · rw [atKey_put_other (fun h => e (by cases h; rfl)), hD.2 t ht, bk_miss e]

set_option maxHeartbeats 2000000 in
set_option maxRecDepth 100000 in
theorem implByTenant_is (ad : Option Addr) (n cap : Nat) (l : List Int) (hn : l.length = n) (h1 : n ≤ 4000000) (hw : ∀ x ∈ l, (Lit.int .i64 x).wf = true) (w : World) (hr : RowI w ad l) :
    Calls Try.prog 42 #[.agg #[.slice ad n cap]] w fun e w' => ∃ mb D, e = .returned (.map (some mb)) ∧ w'.ownsGroups (H := Unit) Try.prog 3 (mb + 1) 3 .i64 mb n D ∧ GroupsD l n D ∧ w.heap.size ≤ mb ∧ Below w.heap.size w w' := by
  have HN := Lib.hid hn
  have HW := Lib.hid hw
  have hmm := @run_makeMap Try.prog
  obtain ⟨i0, hi, hz0, hz1, hz2⟩ := info_parts infoI
  obtain ⟨w0, hw0⟩ : ∃ u, w.alloc (.cells #[.slice ad n cap] 28) = u := ⟨_, rfl⟩
  have HB0 : Hid (Below w.heap.size w w0) := by subst hw0; exact (Below.refl _ _).alloc (Nat.le_refl _) _
  have p0 : w0.heap[w.heap.size]? = some (.cells #[.slice ad n cap] 28) := by subst hw0; exact heap_alloc_new _ _
  have HS0 : Hid (w.heap.size ≤ w0.heap.size) := HB0.out.size
  obtain ⟨w1, hw1⟩ : ∃ u, w0.alloc (.map #[] 0) = u := ⟨_, rfl⟩
  have hb1 : Below w0.heap.size w0 w1 := by subst hw1; exact (Below.refl _ _).alloc (Nat.le_refl _) _
  have G1 : Hid (w1.ownsGroups (H := Unit) Try.prog 3 (w0.heap.size + 1) 3 .i64 w0.heap.size 0 (.map [])) := by
    subst hw1
    exact World.ownsGroups_made _ _ _ _ _
  have p1 := keep_block hb1 p0 (lt_of_block p0)
  have cp1 := cell1 p1
  have hs1 : w0.heap.size + 1 ≤ w1.heap.size := by subst hw1; simp
  have HB1 : Hid (Below w.heap.size w w1) := HB0.out.trans (hb1.mono HB0.out.size)
  have HR := Lib.hid hr
  clear hb1 p0 p1 HB0 hn hr hw
  go_enter Try.func42, Try.ntmps42
  go_wp2_with fail
  clear hw0 hw1 cp1
  obtain ⟨mb, hmb⟩ : ∃ u, w0.heap.size = u := ⟨_, rfl⟩
  rw [hmb] at hs1
  simp only [hmb] at G1 ⊢
  have HS : Hid (w.heap.size ≤ mb) := by show _ ≤ _; rw [← hmb]; exact HS0.out
  clear hmb HS0
  go_loopw [10] (fun i wr => ∃ k : Nat, ∃ D : DataW Unit, k ≤ n ∧ i = .int .i64 k ∧ wr.ownsGroups (H := Unit) Try.prog 3 (mb + 1) 3 .i64 mb k D ∧ GroupsD l k D ∧ Below w.heap.size w wr ∧ mb + 1 ≤ wr.heap.size) (fun i _ => n - (intOf i).toNat)
  case atStart => exact ⟨0, _, Nat.zero_le _, rfl, G1.out, ⟨isMap_empty, fun t _ => rfl⟩, HB1.out, hs1⟩
  case round =>
    obtain ⟨k, D, hk, rfl, hown, hD, hbel, hws⟩ := hrel
    have HD := Lib.hid hD
    have HBR := Lib.hid hbel
    clear hD hbel G1 HB1
    by_cases hlt : k < n
    · obtain ⟨pb, off, rfl, hc⟩ := (HR.out.below HBR.out).at (k := k) (by rw [HN.out]; exact hlt)
      have hxw : (Lit.int .i64 (l.getD k 0)).wf = true := HW.out _ (getD_mem (by rw [HN.out]; exact hlt))
      obtain ⟨x, hx⟩ : ∃ x, l.getD k 0 = x := ⟨_, rfl⟩
      rw [hx] at hc hxw
      have HX := Lib.hid hx
      have hkey := keyOf_int_mk Try.underlying3 hxw
      have HXW := Lib.hid hxw
      clear hx hxw
      go_wp2_with (first
        | (at_lookup; refine wpList_lookup_groups _ rfl _ _ 65 rfl 3 26 3 .i64 (int_keyed Try.underlying3) Try.underlying65 (zeroRow _) (mb + 1) mb k _ rfl hown (by unfold maxLen; omega) _ _ rfl hkey ?_; intro v zs hat hoi hzl hback)
        | (at_builtin; refine wpList_append_own_at _ rfl _ _ 26 rfl (mb + 1) 3 i0 (.int .i64 0) 1 8 Try.underlying26 hi hz0 hz1 hz2 rfl (by decide) _ _ _ rfl (hoi.1.alloc _) ⟨wr.heap.size, 0, none⟩ 1 1 [.int .i64 k] rfl rfl (cell_one_new _ _ _) (ints_oneCell .i64 [(k : Int)]) (by unfold maxLen; omega) (by omega) (by simp; omega) ?_; intro v' w1 hown' hgrow hnil hloc)
        | (at_mapUpdate; refine wpList_mapUpdate_back _ rfl _ _ _ 65 rfl hback rfl rfl rfl ((World.grownBy_alloc _ _ _).trans hgrow) (hoi.appended hown' (WalkArith.wf_i64 (by omega))) (by simp; omega) (hloc.imp id (fun h => ⟨_, h, by simp⟩)) ?_; intro w2 hown2 hgrow2)
        | fail)
      have hall := (World.grownBy_alloc wr _ _).trans hgrow
      have hzs := groups_zs HD.out HXW.out hat hoi
      have hbt : bk l x (k + 1) = bk l x k ++ [(k : Int)] := bk_hit HX.out
      have hD2 := groups_step (v := v') HD.out (by rw [HX.out]; exact HXW.out) (by rw [HX.out, hbt, ← hzs]) (hoi.appended hown' (WalkArith.wf_i64 (by omega)))
      rw [HX.out] at hD2
      go_roundw
      case rel =>
        exact ⟨k + 1, _, by omega, by go_num, hown2, hD2, HBR.out.groups hoi hall hgrow2 HBR.out.size (by have := HS.out; omega) HS.out, Nat.le_trans hws (Nat.le_trans hall.size hgrow2.size)⟩
      case measure => simp [intOf]; omega
    · obtain rfl : k = n := by omega
      go_wp2_with fail
      go_ret
      exact ⟨mb, D, rfl, hown, HD.out, HS.out, HBR.out⟩

set_option maxHeartbeats 1000000 in
theorem implBanksOf_is (ad : Option Addr) (n cap : Nat) (l : List Int) (hn : l.length = n) (h1 : n ≤ 4000000) (hw : ∀ x ∈ l, (Lit.int .i64 x).wf = true) (t : Int) (htw : (Lit.int .i64 t).wf = true) (w : World) (hr : RowI w ad l) :
    Calls Try.prog 15 #[.agg #[.slice ad n cap], .int .i64 t] w (GivesI (bkL l t) w) := by
  have HL : Hid (bk l t n = bkL l t) := by show _ = _; rw [← hn]; rfl
  obtain ⟨w0, hw0⟩ : ∃ u, w.alloc (.cells #[.slice ad n cap] 28) = u := ⟨_, rfl⟩
  have HB0 : Hid (Below w.heap.size w w0) := by subst hw0; exact (Below.refl _ _).alloc (Nat.le_refl _) _
  have p0 : w0.heap[w.heap.size]? = some (.cells #[.slice ad n cap] 28) := by subst hw0; exact heap_alloc_new _ _
  have cp0 := cell1 p0
  have HR := Lib.hid (hr.below HB0.out)
  have HN := Lib.hid hn
  have HW := Lib.hid hw
  clear hr p0 hn hw
  go_enter Try.func15, Try.ntmps15
  go_wp2_with fail
  refine (implByTenant_is _ _ _ _ HN.out h1 HW.out _ HR.out).mono ?_
  rintro e w1 ⟨mb, D, rfl, hown, hD, hmb, hb1⟩
  have hkey := keyOf_int_mk Try.underlying3 htw
  have HB1 : Hid (Below w.heap.size w w1) := HB0.out.trans (hb1.mono HB0.out.size)
  have HS : Hid (w.heap.size ≤ mb + 1) := by have := HB0.out.size; show _ ≤ _; omega
  clear hb1 hw0 cp0 HR HB0
  go_wp2_with (at_lookup; refine wpList_lookup_groups _ rfl _ _ 65 rfl 3 26 3 .i64 (int_keyed Try.underlying3) Try.underlying65 (zeroRow _) (mb + 1) mb n _ rfl hown (by unfold maxLen; omega) _ _ rfl hkey ?_; intro v zs hat hoi hzl hback)
  have hzs := groups_zs hD htw hat hoi
  rw [HL.out] at hzs
  subst hzs
  have hO : OwnI (mb + 1) v (bkL l t) w1 := hoi.1
  go_ret
  obtain ⟨aa, cc, rfl⟩ := hO.shape
  exact ⟨_, _, rfl, hO.mono HS.out, HB1.out⟩

end Go.Proofs.Ytljcdjhafhppbaa
