/-
  Texts of one proof, merged: CodT.
-/
import Derived.Test.YtpddinflkkcodaaDoorQM1313
import Derived.Test.YtpddinflkkcodaaDoorQM1316
import Derived.Test.YtpddinflkkcodaaDoorQM1317
import Derived.Test.YtpddinflkkcodaaDoorQM1319
namespace Go.Proofs.YtpddinflkkcodaaDoor
open Go.RowKit Go.PlainAid

set_option linter.unusedVariables false

theorem ownJ_nil (B : Nat) (w : World) : OwnJ B (.slice none 0 0) [] w := ⟨none, 0, 0, rfl, rfl, .inl ⟨rfl, rfl, rfl⟩⟩

theorem givesJ_nil {w w' : World} {k : Nat} {v : List Int} (hv : v = []) (hk : v.length = k) (hb : Below w.heap.size w w') : GivesJ k v w (.returned (.slice none 0 0)) w' := by
  subst hv
  obtain rfl : k = 0 := hk.symm
  exact ⟨none, 0, rfl, Nat.le_refl _, ownJ_nil _ _, hb⟩

theorem GivesI.toJ {w w' : World} {e : Ending} {v : List Int} {k : Nat} (hk : v.length = k) (h : GivesI v w e w') : GivesJ k v w e w' := by
  obtain ⟨a, c, rfl, own, hb⟩ := h
  subst hk
  exact ⟨a, c, rfl, own.cap_le rfl, own.toJ rfl, hb⟩

theorem row_dropI {w : World} {g o : Nat} {l : List Int} (k : Nat) (h : RowI w (some ⟨g, o, none⟩) l) : RowI w (some ⟨g, o + k, none⟩) (l.drop k) := by
  rcases h with h | ⟨g', o', he, hc⟩
  · left; rw [h]; simp
  · cases he
    refine .inr ⟨g, o + k, rfl, fun i hi => ?_⟩
    rw [List.length_drop] at hi
    have := hc (k + i) (by omega)
    rw [Nat.add_assoc, this]
    simp [List.getD_eq_getElem?_getD]

/-- The first k sums. -/
def sySo (u : List Nat) (k : Nat) : List Int := (List.range 3).map fun j => if j < k then ((syn j u : Nat) : Int) else 0

theorem sySo_length (u : List Nat) (k : Nat) : (sySo u k).length = 3 := by simp [sySo]

theorem sySo_set (u : List Nat) {k : Nat} (hk : k < 3) : (sySo u k).set k ((syn k u : Nat) : Int) = sySo u (k + 1) := by
  match k, hk with
  | 0, _ => rfl
  | 1, _ => rfl
  | 2, _ => rfl

theorem good_syns (l : List Int) : decide (syns l = [0, 0, 0]) = decide (goodW l) := by
  apply decide_eq_decide.mpr
  unfold syns goodW Zero3
  constructor
  · intro h
    split at h
    · rename_i hok
      simp only [List.cons.injEq, and_true] at h
      exact ⟨hok, by omega, by omega, by omega⟩
    · cases h
  · rintro ⟨hok, h0, h1, h2⟩
    rw [if_pos hok, h0, h1, h2]
    rfl

set_option maxHeartbeats 4000000 in
set_option maxRecDepth 100000 in
theorem implSyndromes_is : ISyndromes := by
  intro a n c l k hk v hv hk2 hn hl hc w h
  by_cases hok : SymOk l 11
  case neg =>
    have KA := Lib.hid (decide_eq_false hok)
    have HV0 : Hid (v = []) := by show _ = _; rw [← hv]; exact if_neg hok
    have HN := Lib.hid hn
    have HA := Lib.hid h
    have HK := Lib.hid hk2
    clear hok hv hn h hk2
    go_enter Tryd.func46, Tryd.ntmps46
    go_wp2_with fail
    refine (implSymbolsOk_is a n c l 11 false KA.out HN.out hl hc _ HA.out).mono ?_
    rintro e w2 ⟨rfl, hb2⟩
    have HB2 := Lib.hid hb2
    clear hb2
    go_wp2_with fail
    go_ret
    exact givesJ_nil HV0.out HK.out HB2.out
  have KA := Lib.hid (decide_eq_true hok)
  obtain rfl : n = 11 := by have := hok.2; omega
  obtain ⟨u, hu⟩ : ∃ u, nats l = u := ⟨_, rfl⟩
  have HVV : Hid (sySo u 3 = v) := by show _ = _; rw [← hv, ← hu]; unfold syns; rw [if_pos hok]; rfl
  obtain rfl : k = 3 := by rw [← hk2, ← hv]; unfold syns; rw [if_pos hok]; rfl
  obtain ⟨g, o, rfl, _⟩ := h.at (k := 0) (by rw [hn]; omega)
  have HLT : Hid (Lt16 u) := by show Lt16 u; rw [← hu]; exact nats_lt hok.1
  have HUL : Hid (u.length = 11) := by show _ = _; rw [← hu, nats_length]; exact hn
  have HU := Lib.hid hu
  have HN := Lib.hid hn
  have HA := Lib.hid h
  have HELS := Lib.hid hok.1
  obtain ⟨i0, hi, hz0, hz1, hz2⟩ := info_parts infoI
  clear hok hv hn h hu hk2
  go_enter Tryd.func46, Tryd.ntmps46
  go_wp2_with fail
  refine (implSymbolsOk_is (some ⟨g, o, none⟩) 11 c l 11 true KA.out HN.out hl hc _ HA.out).mono ?_
  rintro e w2 ⟨rfl, hb2⟩
  have HB2 := Lib.hid hb2
  have HS2 := Lib.hid hb2.size
  clear hb2
  go_wp2_with (at_make; refine wpList_make_full _ rfl _ _ 25 rfl w2.heap.size 3 i0 (.int .i64 0) 1 Tryd.underlying25 hi hz0 hz1 _ _ _ _ 3 rfl rfl rfl rfl (by rw [hz2]; omega) (by unfold maxLen; omega) (Nat.le_refl _) ?_)
  intro w1 hown hgr
  have hb1 : Below w.heap.size w w1 := HB2.out.grown hgr HS2.out (fun k hk => by cases hk)
  have HO1 : Hid (OwnI w2.heap.size (.slice (some ⟨w2.heap.size, 0, none⟩) 3 3) (sySo u 0) w1) := by
    show OwnI _ _ _ _
    unfold OwnI
    rw [made_one] at hown
    exact hown
  have HB1 := Lib.hid hb1
  clear hgr hown hb1
  have HSW := HS2.out
  clear HB2 HS2
  generalize w2.heap.size = gs at HO1 HSW ⊢
  have HGS := Lib.hid HSW
  clear HSW
  go_wp2_with fail
  go_loopw [11] (fun i wr => ∃ k : Nat, k ≤ 3 ∧ i = .int .i64 k ∧ OwnI gs (.slice (some ⟨gs, 0, none⟩) 3 3) (sySo u k) wr ∧ Below w.heap.size w wr) (fun i _ => 3 - (intOf i).toNat)
  case atStart => exact ⟨0, Nat.zero_le _, rfl, HO1.out, HB1.out⟩
  case round =>
    obtain ⟨k, hk, rfl, hown, hbr⟩ := hrel
    have HO := Lib.hid hown
    have HBR := Lib.hid hbr
    clear hown hbr
    by_cases hlt : k < 3
    · have HP : Hid (gfPow 2 (k : Int) = ((gp 2 k : Nat) : Int)) := gfPow_nat (a := 2) (by omega) (by omega)
      have HPL : Hid (gp 2 k < 16) := gp_lt (by omega) k
      have HY : Hid (hor (gp 2 k) u = syn k u) := hor_syn hlt HLT.out HUL.out
      have HSET : Hid ((sySo u k).set k ((syn k u : Nat) : Int) = sySo u (k + 1)) := sySo_set u hlt
      generalize gp 2 k = x at HP HPL HY
      generalize syn k u = y at HY HSET
      go_wp2_with fail
      refine (implGfPow_is 2 (k : Int) _ HP.out _).mono ?_
      rintro e w3 ⟨rfl, hb3⟩
      have HB3 : Hid (Below w.heap.size w w3) := HBR.out.trans (hb3.mono HBR.out.size)
      have HO3 := Lib.hid (HO.out.below hb3)
      have HA3 := Lib.hid (HA.out.below HB3.out)
      clear hb3 HO HBR
      go_wp2_with fail
      refine (implPoly_is g o c l u HU.out HELS.out HN.out x HPL.out y HY.out _ HA3.out).mono ?_
      rintro e w4 ⟨rfl, hb4⟩
      have HB4 : Hid (Below w.heap.size w w4) := HB3.out.trans (hb4.mono HB3.out.size)
      have HO4 := Lib.hid (HO3.out.below hb4)
      obtain ⟨g', hg', hc3, hf3, _, _⟩ := HO4.out.at (k := k) (by rw [sySo_length]; exact hlt)
      obtain rfl : gs = g' := by simpa using hg'
      obtain ⟨old, hco⟩ : ∃ u, w4.cell? ⟨gs, k, none⟩ = some u := ⟨_, hc3⟩
      have R2 : Hid (OwnI gs (.slice (some ⟨gs, 0, none⟩) 3 3) (sySo u (k + 1)) (w4.setCell ⟨gs, k, none⟩ (.int .i64 (y : Int)))) := by
        show OwnI _ _ _ _
        rw [← HSET.out]
        exact HO4.out.stored (sySo_length u k) k _
      have HB5 : Hid (Below w.heap.size w (w4.setCell ⟨gs, k, none⟩ (.int .i64 (y : Int)))) := HB4.out.setCell HGS.out _
      have hk3 : (k : Int) < 3 := by omega
      clear hb4 hc3 hg' HO3 HB3 HO4 HB4
      go_wp2_with fail
      go_roundw
      case rel => exact ⟨k + 1, by omega, by go_num, R2.out, HB5.out⟩
      case measure => simp [intOf]; omega
    · obtain rfl : k = 3 := by omega
      (try rw [show ((3 : Nat) : Int) = 3 from rfl])
      have HF := HVV.out
      subst HF
      go_wp2_with fail
      go_ret
      exact ⟨some ⟨gs, 0, none⟩, 3, rfl, Nat.le_refl _, (HO.out.toJ (sySo_length u 3)).mono HGS.out, HBR.out⟩

set_option maxHeartbeats 4000000 in
set_option maxRecDepth 100000 in
theorem implDataOf_is : IDataOf := by
  intro a n c l k hk v hv hk2 hn hl hc w h
  have HN := Lib.hid hn
  have HA := Lib.hid h
  have HK := Lib.hid hk2
  by_cases hok : SymOk l 11
  case neg =>
    have KA := Lib.hid (decide_eq_false hok)
    have HV0 : Hid (v = []) := by show _ = _; rw [← hv]; exact if_neg hok
    clear hok hv hn h hk2
    go_enter Tryd.func21, Tryd.ntmps21
    go_wp2_with fail
    refine (implSymbolsOk_is a n c l 11 false KA.out HN.out hl hc _ HA.out).mono ?_
    rintro e w2 ⟨rfl, hb2⟩
    have HB2 := Lib.hid hb2
    clear hb2
    go_wp2_with fail
    go_ret
    exact givesJ_nil HV0.out HK.out HB2.out
  have KA := Lib.hid (decide_eq_true hok)
  obtain rfl : n = 11 := by have := hok.2; omega
  obtain rfl : v = l.drop 3 := by rw [← hv]; exact if_pos hok
  have hdl : (l.drop 3).length = 8 := by rw [List.length_drop, hn]
  obtain rfl : k = 8 := by rw [← hk2, hdl]
  have HDL := Lib.hid hdl
  obtain ⟨g, o, rfl, _⟩ := h.at (k := 0) (by rw [hn]; omega)
  clear hok hv hn h hk2 hdl
  go_enter Tryd.func21, Tryd.ntmps21
  go_wp2_with fail
  refine (implSymbolsOk_is (some ⟨g, o, none⟩) 11 c l 11 true KA.out HN.out hl hc _ HA.out).mono ?_
  rintro e w2 ⟨rfl, hb2⟩
  have HB2 := Lib.hid hb2
  have HD := Lib.hid (row_dropI 3 (HA.out.below hb2))
  clear hb2
  go_wp2_with fail
  refine (implCloneI_is (some ⟨g, o + 3, none⟩) 8 (c - 3) (l.drop 3) HDL.out (by omega) (fun h => by cases h) _ HD.out).mono ?_
  rintro e w3 ⟨aa, cc, rfl, own3, hb3⟩
  have HO3 := Lib.hid own3
  have HB3 : Hid (Below w.heap.size w w3) := HB2.out.trans (hb3.mono HB2.out.size)
  have HS2 := Lib.hid HB2.out.size
  rw [HDL.out]
  clear own3 hb3
  go_wp2_with fail
  go_ret
  have HO := HO3.out
  rw [HDL.out] at HO
  exact ⟨aa, cc, rfl, HO.cap_le HDL.out, (HO.toJ HDL.out).mono HS2.out, HB3.out⟩

theorem implEqualG_is {a b : Option Addr} {n m c d : Nat} {xs ys : List Int} (hx : xs.length = n) (hy : ys.length = m) (hl : n ≤ 3000000) (hm : m ≤ 3000000) {w : World} (ha : RowI w a xs) (hb : RowI w b ys) (v : Bool) (hv : decide (xs = ys) = v) :
    Calls Tryd.prog 45 #[.slice a n c, .slice b m d] w (Gives (.bool v) w) :=
  (implEqualI_is hx hy hl hm ha hb v hv).mono fun _ _ h => ⟨h.1, by obtain ⟨q, e⟩ := h.2; rw [e]; exact below_drewN (Below.refl _ _) q⟩

set_option maxHeartbeats 4000000 in
set_option maxRecDepth 100000 in
theorem implWordOk_is : IWordOk := by
  intro a n c l v hv hn hl hc w h
  obtain ⟨sl, hsl⟩ : ∃ s, syns l = s := ⟨_, rfl⟩
  obtain ⟨k, hk⟩ : ∃ k, sl.length = k := ⟨_, rfl⟩
  have hk11 : k ≤ 11 := by rw [← hk, ← hsl]; exact syns_le l
  have HSL := Lib.hid hsl
  have HK := Lib.hid hk
  have HEQ : Hid (decide (sl = [0, 0, 0]) = v) := by show _ = _; rw [← hv, ← hsl]; exact good_syns l
  have HN := Lib.hid hn
  have HA := Lib.hid h
  obtain ⟨i0, hi, hz0, hz1, hz2⟩ := info_parts infoI
  clear hsl hk hv hn h
  go_enter Tryd.func33, Tryd.ntmps33
  go_wp2_with fail
  refine wp_region_flowV (fun k => match k with | 0 => some (.slice a n c) | 3 => some (.bool v) | 4 => some (.bool v) | _ => none) (fun listed x u => FactW 1 3 (fun q u => ∃ aa cc, q = .slice aa k cc ∧ OwnJ w.heap.size (.slice aa k cc) sl u) listed x u ∧ FactW 2 3 (fun q u => ∃ gz, q = .slice (some ⟨gz, 0, none⟩) 3 3 ∧ OwnJ w.heap.size (.slice (some ⟨gz, 0, none⟩) 3 3) [0, 0, 0] u) listed x u) (upd (fun _ => undef) 4 (.bool false)) (by kernel_rfl) (by kernel_rfl) ?hxA ?hSA ?hsA ?heA
  case hxA => simp only [putsX, Act.put, List.setIfInBounds_toArray, List.set_cons_zero, List.set_cons_succ, upd, Nat.reduceEqDiff, reduceIte]
  case hSA => exact ⟨FactW.zero _ _ _ _ _ _, FactW.zero _ _ _ _ _ _⟩
  case hsA =>
    simp only [flowSteps]
    refine ⟨?sA_0, ?sA_1, ?sA_2, ?sA_3, ?sA_4, trivial⟩
    case sA_0 =>
      intro listed bb u hsz hn hwt hinv
      obtain ⟨x, rfl, hC, hU, hS, hZ⟩ := hinv
      simp only [putsX, Act.put, List.setIfInBounds_toArray, List.set_cons_zero, List.set_cons_succ]
      go_wp2_with fail
      refine stepQ_normal ⟨trivial, upd x 0 (.slice a n c), ?_, hC, hU.step (fun _ h => Option.some.inj h), hS.keep (by decide) (by decide) _ id, hZ.keep (by decide) (by decide) _ id⟩
      simp only [upd]
      rfl
    case sA_1 =>
      intro listed bb u hsz hn hwt hinv
      obtain ⟨x, rfl, hC, hU, hS, hZ⟩ := hinv
      have f0 := Lib.hid (hU 0 _ rfl (hwt 0 (by kernel_rfl)))
      simp only [putsX, Act.put, List.setIfInBounds_toArray, List.set_cons_zero, List.set_cons_succ]
      have hcall : Calls Tryd.prog 46 #[x 0] u (GivesJ k sl u) := by rw [f0.out]; exact implSyndromes_is a n c l k hk11 sl HSL.out HK.out HN.out hl hc _ (HA.out.below hC)
      go_wp2_with fail
      refine hcall.mono ?_
      rintro e' u' ⟨aa, cc, rfl, _, own1, hb⟩
      go_wp2_with fail
      refine stepQ_normal ⟨trivial, upd x 1 (.slice aa k cc), ?_, hC.trans (hb.mono hC.size), hU.step (fun _ h => by cases h), FactW.new ⟨aa, cc, rfl, own1.mono hC.size⟩, hZ.keep (by decide) (by decide) _ (fun ⟨b1, b2, b3⟩ => ⟨b1, b2, b3.below (hb)⟩)⟩
      simp only [upd]
      rfl
    case sA_2 =>
      intro listed bb u hsz hn hwt hinv
      obtain ⟨x, rfl, hC, hU, hS, hZ⟩ := hinv
      simp only [putsX, Act.put, List.setIfInBounds_toArray, List.set_cons_zero, List.set_cons_succ]
      go_wp2_with (at_make; refine wpList_make_full _ rfl _ _ 25 rfl u.heap.size 3 i0 (.int .i64 0) 1 Tryd.underlying25 hi hz0 hz1 _ _ _ _ 3 rfl rfl rfl rfl (by rw [hz2]; omega) (by unfold maxLen; omega) (Nat.le_refl _) ?_)
      intro u' hown hgr
      have hb : Below u.heap.size u u' := (Below.refl _ _).grown hgr (Nat.le_refl _) (fun k hk => by cases hk)
      have hO : OwnI u.heap.size (.slice (some ⟨u.heap.size, 0, none⟩) 3 3) [0, 0, 0] u' := by
        unfold OwnI
        rw [made_one] at hown
        exact hown
      clear hown hgr
      go_wp2_with fail
      refine stepQ_normal ⟨trivial, upd x 2 (.slice (some ⟨u.heap.size, 0, none⟩) 3 3), ?_, hC.trans (hb.mono hC.size), hU.step (fun _ h => by cases h), hS.keep (by decide) (by decide) _ (fun ⟨b1, b2, b3, b4⟩ => ⟨b1, b2, b3, b4.below (hb)⟩), FactW.new ⟨u.heap.size, rfl, (hO.toJ rfl).mono hC.size⟩⟩
      simp only [upd]
      rfl
    case sA_3 =>
      intro listed bb u hsz hn hwt hinv
      obtain ⟨x, rfl, hC, hU, hS, hZ⟩ := hinv
      simp only [putsX, Act.put, List.setIfInBounds_toArray, List.set_cons_zero, List.set_cons_succ]
      obtain ⟨aa, cc, fp, o1⟩ := hS (hwt 1 (by kernel_rfl)) hn
      obtain ⟨gz, fz, o2⟩ := hZ (hwt 2 (by kernel_rfl)) hn
      have hcall : Calls Tryd.prog 45 #[x 1, x 2] u (Gives (.bool v) u) := by rw [fp, fz]; exact implEqualG_is (n := k) (m := 3) HK.out rfl (Nat.le_trans hk11 (by decide)) (by decide) o1.row o2.row v HEQ.out
      clear fp fz
      go_wp2_with fail
      refine hcall.mono ?_
      rintro e' u' ⟨rfl, hb⟩
      go_wp2_with fail
      refine stepQ_normal ⟨trivial, upd x 3 (.bool v), ?_, hC.trans (hb.mono hC.size), hU.step (fun _ h => Option.some.inj h), FactW.call (by rw [hsz]; decide), FactW.call (by rw [hsz]; decide)⟩
      simp only [upd]
      rfl
    case sA_4 =>
      intro listed bb u hsz hn hwt hinv
      obtain ⟨x, rfl, hC, hU, hS, hZ⟩ := hinv
      have f3 := Lib.hid (hU 3 _ rfl (hwt 3 (by kernel_rfl)))
      simp only [putsX, Act.put, List.setIfInBounds_toArray, List.set_cons_zero, List.set_cons_succ]
      rw [f3.out]
      go_wp2_with fail
      refine stepQ_normal ⟨trivial, upd x 4 (.bool v), ?_, hC, hU.step (fun _ h => Option.some.inj h), hS.keep (by decide) (by decide) _ id, hZ.keep (by decide) (by decide) _ id⟩
      simp only [upd]
      simp only [f3.out]
      (try rfl)
  case heA =>
    intro listed q w1 hall hC hU hS
    have f4 := hU 4 _ rfl (hall 4 (by decide))
    simp only [putsX, Act.put, List.setIfInBounds_toArray, List.set_cons_zero, List.set_cons_succ]
    rw [f4]
    clear hall hU hS f4
    generalize hq0 : q 0 = _q0, hq1 : q 1 = _q1, hq2 : q 2 = _q2, hq3 : q 3 = _q3
    go_wp2_with fail
    go_ret
    exact ⟨rfl, hC⟩

end Go.Proofs.YtpddinflkkcodaaDoor
