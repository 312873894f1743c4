/-
  Texts of one proof, merged: CodO, CodY, LinE, LinYZ.
-/
import Derived.Test.YtpddinflkkcodaaDoorQM139
import Derived.Test.YtpddinflkkcodaaDoorQM1316
import Derived.Test.YtpddinflkkcodaaDoorQM1321
import Derived.Laws.CopyOwn
import Derived.Lib.AppendZerosOnto
import Derived.Lib.SliceRun
namespace Go.Proofs.YtpddinflkkcodaaDoor
open Go.RowKit Go.PlainAid

set_option linter.unusedVariables false

set_option maxHeartbeats 4000000 in
set_option maxRecDepth 100000 in
theorem implGrow_is (w : World) : Calls Tryd.prog 42 #[.slice none 0 0, .int .i64 11] w fun e w' => ∃ G, e = .returned (.slice (some ⟨w.heap.size, 0, none⟩) 0 G) ∧ OwnI w.heap.size (.slice (some ⟨w.heap.size, 0, none⟩) 0 G) [] w' ∧ Below w.heap.size w w' := by
  obtain ⟨i0, hi, hz0, hz1, hz2⟩ := info_parts infoI
  have hold : (Builtin.firstCells i0.size 0 (.slice none 0 0)).run Tryd.prog w.drew = .ok (#[] : Array Value) w.drew := run_firstCells_none w.drew i0.size 0 0 0
  have hrz : ∀ ty, (Builtin.append_ #[25, 3] ty #[.slice none 0 0, .int .i64 11]).run Tryd.prog w =
      .ok (.slice (some ⟨w.heap.size, 0, none⟩) 11 (grownCap w 11 0 3)) (w.drew.alloc (.cells ((#[] : Array Value) ++ Builtin.zeroCells (Value.int .i64 0).cells 11 ++ Builtin.zeroCells (Value.int .i64 0).cells (grownCap w 11 0 3 - 11)) 3)) := fun ty =>
    Lib.run_append_grow_zeros w 25 3 ty 3 i0 (.int .i64 0) .i64 .i64 Tryd.underlying25 Tryd.underlying3 hi hz0 none 0 0 [] hold 11 (by omega) (by omega) (by omega) (by omega) (by rw [hz2]; omega) (growslice_fits (by omega) (by rw [hz2]; omega))
  have hGn : 11 ≤ grownCap w 11 0 3 := grownCap_ge w _ _ _
  have hGm : grownCap w 11 0 3 ≤ maxLen := grownCap_le_maxLen w 11 0 3 (by unfold maxLen; omega)
  generalize grownCap w 11 0 3 = G at hrz hGn hGm
  have hG63 : G ≤ 9223372036854775807 := by unfold maxLen at hGm; omega
  obtain ⟨cur, hcur⟩ : ∃ c, ((#[] : Array Value) ++ Builtin.zeroCells (Value.int .i64 0).cells 11 ++ Builtin.zeroCells (Value.int .i64 0).cells (G - 11)) = c := ⟨_, rfl⟩
  have hcs : cur.size = G * 1 := by rw [← hcur]; simp [Builtin.zeroCells, Value.cells]; omega
  rw [hcur] at hrz
  have HOWN : Hid (OwnI w.heap.size (.slice (some ⟨w.heap.size, 0, none⟩) 0 G) [] (w.drew.alloc (.cells cur 3))) :=
    ⟨rfl, .inr ⟨w.heap.size, G, cur, rfl, Nat.le_refl _, heap_alloc_new w.drew _, Nat.zero_le _, hGm, hcs, by simp⟩⟩
  have HB : Hid (Below w.heap.size w (w.drew.alloc (.cells cur 3))) := ((Below.refl _ _).drew).alloc (Nat.le_refl _) _
  clear hold hcur hcs
  go_enter Tryd.func42, Tryd.ntmps42
  go_wp2_with (at_builtin; refine Lib.wpList_append_run _ rfl _ _ _ _ rfl _ _ rfl rfl _ _ (hrz _) ?_)
  all_goals (go_ret; exact ⟨G, rfl, HOWN.out, HB.out⟩)

set_option maxHeartbeats 4000000 in
set_option maxRecDepth 100000 in
theorem implConcat_is (gv g1 o1 c1 g2 o2 c2 : Nat) (l1 l2 : List Int) (h1 : l1.length = 3) (h2 : l2.length = 8) (w : World) (hv : w.heap[gv]? = some (.cells #[.slice (some ⟨g1, o1, none⟩) 3 c1, .slice (some ⟨g2, o2, none⟩) 8 c2] 25)) (hr1 : RowI w (some ⟨g1, o1, none⟩) l1) (hr2 : RowI w (some ⟨g2, o2, none⟩) l2) :
    Calls Tryd.prog 28 #[.slice (some ⟨gv, 0, none⟩) 2 2] w (GivesI (l1 ++ l2) w) := by
  have H1 := Lib.hid h1
  have H2 := Lib.hid h2
  have HR1 := Lib.hid hr1
  have HR2 := Lib.hid hr2
  have HV := Lib.hid hv
  obtain ⟨x0, x1⟩ := cells2 hv
  clear h1 h2 hr1 hr2 hv
  go_enter Tryd.func28, Tryd.ntmps28
  go_wp2_with fail
  go_loopw [3, 11] (fun s i wr => ((s = .int .i64 0 ∧ i = .int .i64 0) ∨ (s = .int .i64 3 ∧ i = .int .i64 1) ∨ (s = .int .i64 11 ∧ i = .int .i64 2)) ∧ w = wr) (fun _ i _ => 3 - (intOf i).toNat)
  case atStart => exact ⟨.inl ⟨rfl, rfl⟩, rfl⟩
  case round =>
    obtain ⟨⟨rfl, rfl⟩ | ⟨rfl, rfl⟩ | ⟨rfl, rfl⟩, rfl⟩ := hrel
    · go_wp2_with fail
      go_roundw
      case rel => exact ⟨.inr (.inl ⟨rfl, rfl⟩), by trivial⟩
      case measure => decide
    · go_wp2_with fail
      go_roundw
      case rel => exact ⟨.inr (.inr ⟨rfl, rfl⟩), by trivial⟩
      case measure => decide
    · go_wp2_with fail
      refine (implGrow_is _).mono ?_
      rintro e w2 ⟨G, rfl, own2, hb2⟩
      have HO2 := Lib.hid own2
      have HB2 := Lib.hid hb2
      have HS2 : Hid (w.heap.size ≤ w2.heap.size) := hb2.size
      clear x0 x1 own2 hb2
      go_wp2_with fail
      go_loopw [6, 27] (fun v i wi => ((i = .int .i64 0 ∧ OwnI w.heap.size v [] wi) ∨ (i = .int .i64 1 ∧ OwnI w.heap.size v l1 wi) ∨ (i = .int .i64 2 ∧ OwnI w.heap.size v (l1 ++ l2) wi)) ∧ Below w.heap.size w wi) (fun _ i _ => 3 - (intOf i).toNat)
      case atStart => exact ⟨.inl ⟨rfl, HO2.out⟩, HB2.out⟩
      case round =>
        obtain ⟨⟨rfl, own⟩ | ⟨rfl, own⟩ | ⟨rfl, own⟩, hbr⟩ := hrel
        · have HBR := Lib.hid hbr
          have HRA := Lib.hid (HR1.out.below hbr)
          obtain ⟨x0, x1⟩ := cells2 (keep_block hbr HV.out (lt_of_block HV.out))
          have hsz := hbr.size
          clear hbr
          go_wp2_with (at_builtin; refine append_int rfl _ _ rfl w.heap.size _ 0 [] rfl own rfl (some ⟨g1, o1, none⟩) 3 c1 l1 rfl H1.out (fun h => by cases h) HRA.out (by omega) hsz ?_)
          intro v' w4 hown4 hgrow _
          (try rw [List.nil_append] at hown4)
          have HB4 : Hid (Below w.heap.size w w4) := HBR.out.grown hgrow HBR.out.size (fun j hj => (World.ownsRow.lt own j hj).1)
          clear own hgrow
          go_wp2_with fail
          go_roundw
          case rel => exact ⟨.inr (.inl ⟨rfl, hown4⟩), HB4.out⟩
          case measure => decide
        · have HBR := Lib.hid hbr
          have HRA := Lib.hid (HR2.out.below hbr)
          obtain ⟨x0, x1⟩ := cells2 (keep_block hbr HV.out (lt_of_block HV.out))
          have hsz := hbr.size
          clear hbr
          go_wp2_with (at_builtin; refine append_int rfl _ _ rfl w.heap.size _ 3 l1 rfl own H1.out (some ⟨g2, o2, none⟩) 8 c2 l2 rfl H2.out (fun h => by cases h) HRA.out (by omega) hsz ?_)
          intro v' w4 hown4 hgrow _
          have HB4 : Hid (Below w.heap.size w w4) := HBR.out.grown hgrow HBR.out.size (fun j hj => (World.ownsRow.lt own j hj).1)
          clear own hgrow
          go_wp2_with fail
          go_roundw
          case rel => exact ⟨.inr (.inr ⟨rfl, hown4⟩), HB4.out⟩
          case measure => decide
        · obtain ⟨aa, cc, rfl⟩ := own.shape
          have HO := Lib.hid own
          have HBR := Lib.hid hbr
          clear own hbr
          go_wp2_with fail
          go_ret
          exact ⟨aa, cc, rfl, HO.out, HBR.out⟩

end Go.Proofs.YtpddinflkkcodaaDoor

namespace Go.Proofs.YtpddinflkkcodaaDoor
open Go.RowKit Go.PlainAid

set_option linter.unusedVariables false

/-- The divisor's terms lie in the program's table. -/
def GenAt (w : World) : Prop := w.cell? ⟨0, 0, none⟩ = some (.int .i64 8) ∧ w.cell? ⟨0, 1, none⟩ = some (.int .i64 14) ∧ w.cell? ⟨0, 2, none⟩ = some (.int .i64 7)

theorem GenAt.below {w w' : World} (h : GenAt w) (hb : Below w.heap.size w w') : GenAt w' :=
  have k : ∀ {i : Nat} {v : Value}, w.cell? ⟨0, i, none⟩ = some v → w'.cell? ⟨0, i, none⟩ = some v := fun e => (hb.cell (World.block_lt_of_cell? _ _ e)).trans e
  ⟨k h.1, k h.2.1, k h.2.2⟩

theorem gen_ix0 (w : World) : (Instr.index 60 (.agg #[.int .i64 8, .int .i64 14, .int .i64 7]) (.int .i64 0)).run Tryd.prog w = .ok (.int .i64 8) w := by kernel_rfl

theorem gen_ix1 (w : World) : (Instr.index 60 (.agg #[.int .i64 8, .int .i64 14, .int .i64 7]) (.int .i64 1)).run Tryd.prog w = .ok (.int .i64 14) w := by kernel_rfl

theorem gen_ix2 (w : World) : (Instr.index 60 (.agg #[.int .i64 8, .int .i64 14, .int .i64 7]) (.int .i64 2)).run Tryd.prog w = .ok (.int .i64 7) w := by kernel_rfl

theorem gen_index (m : Nat) (hm : m < 3) (w : World) : (Instr.index 60 (.agg #[.int .i64 8, .int .i64 14, .int .i64 7]) (.int .i64 (m : Int))).run Tryd.prog w = .ok (.int .i64 (([8, 14, 7, 1].getD m 0 : Nat) : Int)) w :=
  match m, hm with
  | 0, _ => gen_ix0 w
  | 1, _ => gen_ix1 w
  | 2, _ => gen_ix2 w

theorem intsN_getD (r : List Nat) (k : Nat) : (ints r).getD k 0 = ((r.getD k 0 : Nat) : Int) := ints_getD r k

set_option maxHeartbeats 8000000 in
set_option maxRecDepth 100000 in
theorem implRemainder_is (a : Option Addr) (c : Nat) (d : List Nat) (hd : Lt16 d) (hdl : d.length = 8) (hc : 11 ≤ c) (w : World) (hG : GenAt w) (hr : RowI w a (ints (0 :: 0 :: 0 :: d))) :
    Calls Tryd.prog 29 #[.slice a 11 c] w fun e w' => ∃ g cc r, e = .returned (.slice (some ⟨g, 0, none⟩) 3 cc) ∧ DivC d 2 r ∧ RowI w' (some ⟨g, 0, none⟩) (ints (r.take 3)) ∧ w.heap.size ≤ g ∧ Below w.heap.size w w' := by
  have h0l : (ints (0 :: 0 :: 0 :: d)).length = 11 := by rw [ints_length]; simp [hdl]
  have HD0 : Hid (DivC d 10 (0 :: 0 :: 0 :: d)) := divC_start hd hdl
  have HR := Lib.hid hr
  have HL0 := Lib.hid h0l
  have HG := Lib.hid hG
  have HIX := Lib.hid gen_index
  obtain ⟨ga, oa, rfl, _⟩ := hr.at (k := 0) (by rw [h0l]; omega)
  clear hr h0l hG hd hdl
  go_enter Tryd.func29, Tryd.ntmps29
  go_wp2_with fail
  refine (implCloneI_is (some ⟨ga, oa, none⟩) 11 c (ints (0 :: 0 :: 0 :: d)) HL0.out (by decide) (fun h => by cases h) _ HR.out).mono ?_
  rintro e w2 ⟨aa, cc, rfl, own2, hb2⟩
  rw [HL0.out] at own2 ⊢
  obtain ⟨gR, rfl, _, _, _, _⟩ := own2.at (k := 0) (by rw [HL0.out]; decide)
  have HO2 := Lib.hid (own2.toJ HL0.out)
  have HGR : Hid (w.heap.size ≤ gR) := ((own2.toJ HL0.out).lo _ rfl).1
  have HC2 : Hid (11 ≤ cc) := own2.cap_le HL0.out
  have HB2 := Lib.hid hb2
  clear own2 hb2 HR
  go_wp2_with fail
  go_loopw [4] (fun i wr => ∃ (t : Nat) (r : List Nat), 2 ≤ t ∧ t ≤ 10 ∧ i = .int .i64 (t : Int) ∧ DivC d t r ∧ OwnJ w.heap.size (.slice (some ⟨gR, 0, none⟩) 11 cc) (ints r) wr ∧ Below w.heap.size w wr) (fun i _ => (intOf i).toNat)
  case atStart => exact ⟨10, _, by decide, by decide, rfl, HD0.out, HO2.out, HB2.out⟩
  case round =>
    obtain ⟨t, r, ht2, ht10, rfl, hdiv, hown, hbr⟩ := hrel
    have HDIV := Lib.hid hdiv
    have HO := Lib.hid hown
    have HBR := Lib.hid hbr
    have hrl : (ints r).length = 11 := by rw [ints_length]; exact hdiv.1
    have HRL := Lib.hid hrl
    clear hdiv hown hbr HO2 HB2
    by_cases hlt : 3 ≤ t
    case neg =>
      obtain rfl : t = 2 := by omega
      (try rw [show ((2 : Nat) : Int) = 2 from rfl])
      have hcc := HC2.out
      go_wp2_with fail
      go_ret
      refine ⟨gR, cc, r, rfl, HDIV.out, ?_, HGR.out, HBR.out⟩
      have := HO.out.row
      rcases this with h | ⟨g', o', he, hcl⟩
      · rw [h] at hrl; cases hrl
      · cases he
        refine .inr ⟨gR, 0, rfl, fun i hi => ?_⟩
        rw [ints_length, List.length_take] at hi
        rw [hcl i (by omega), intsN_getD, intsN_getD, List.getD_eq_getElem?_getD, List.getD_eq_getElem?_getD, List.getElem?_take_of_lt (by omega)]
    have ht3 : (3 : Int) ≤ (t : Int) := by omega
    have ht11 : (t : Int) < 11 := by omega
    obtain ⟨p, hp⟩ : ∃ p : Nat, t = p + 3 := ⟨t - 3, by omega⟩
    have e3 : IntKind.i64.wrap ((t : Int) - 3) = (p : Int) := by rw [IntWalk.i64_in _ (by omega)]; omega
    obtain ⟨t1, ht1⟩ : ∃ t1 : Nat, t = t1 + 1 := ⟨t - 1, by omega⟩
    have e1 : IntKind.i64.wrap ((t : Int) - 1) = (t1 : Int) := by rw [IntWalk.i64_in _ (by omega)]; omega
    have e1' : wrap64 ((t : Int) - 1) = (t1 : Int) := by rw [← IntWalk.i64_left]; exact e1
    obtain ⟨f, hf⟩ : ∃ f, r.getD t 0 = f := ⟨_, rfl⟩
    have HF : Hid (f < 16) := by show _ < _; rw [← hf]; exact getDn_lt HDIV.out.2.1 t
    have HNX : Hid (DivC d t1 (redP r f p 3)) := by
      have := divC_step HDIV.out hlt ht10
      rw [hf, show t - 3 = p by omega, show t - 1 = t1 by omega] at this
      exact this
    obtain ⟨ce, cf, cB, cS⟩ := ownJ_at0 HO.out (k := t) (by rw [HRL.out]; omega)
    rw [intsN_getD, hf] at ce
    have HR16 : Hid (Lt16 r) := HDIV.out.2.1
    have HP := Lib.hid hp
    have HT1 := Lib.hid ht1
    clear hf cf cB cS HDIV hp ht1
    go_wp2_with fail
    refine (implMultiplierBy_is f HF.out _).mono ?_
    rintro e w3 ⟨gb, rfl, hm, hb3⟩
    have HM3 := Lib.hid hm
    have HB3 : Hid (Below w.heap.size w w3) := HBR.out.trans (hb3.mono HBR.out.size)
    have HO3 := Lib.hid (HO.out.below hb3)
    obtain ⟨c0, c1, c2⟩ := HG.out.below HB3.out
    have HNE : Hid (gb ≠ gR) := by
      intro e
      have h10 := (ownJ_at0 HO3.out (k := 10) (by rw [HRL.out]; decide)).1
      rw [← e] at h10
      unfold MulAt at hm
      simp [World.cell?, hm] at h10
    clear ce hm hb3 HO HBR
    go_wp2_with fail
    go_loopw [21] (fun j wi => ∃ m : Nat, m ≤ 3 ∧ j = .int .i64 (m : Int) ∧ MulAt wi gb f ∧ OwnJ w.heap.size (.slice (some ⟨gR, 0, none⟩) 11 cc) (ints (redP r f p m)) wi ∧ Below w.heap.size w wi) (fun j _ => 4 - (intOf j).toNat)
    case atStart => exact ⟨0, by decide, rfl, HM3.out, HO3.out, HB3.out⟩
    case round =>
      obtain ⟨m, hm3, rfl, hmul, hown, hbr⟩ := hrel
      have HMU := Lib.hid hmul
      have HOI := Lib.hid hown
      have HBI := Lib.hid hbr
      clear hmul hown hbr HM3 HO3 HB3
      by_cases hltm : m < 3
      case neg =>
        obtain rfl : m = 3 := by omega
        (try rw [show ((3 : Nat) : Int) = 3 from rfl])
        go_wp2_with fail
        go_roundw
        case rel => exact ⟨t1, _, by have := HT1.out; omega, by have := HT1.out; omega, rfl, HNX.out, HOI.out, HBI.out⟩
        case measure => have := HT1.out; simp [intOf]; omega
      have hm3' : (m : Int) < 3 := by omega
      have hix := HIX.out m hltm
      obtain ⟨y, hy⟩ : ∃ y : Nat, y = p + m := ⟨_, rfl⟩
      have wy : IntKind.i64.wrap ((p : Int) + (m : Int)) = (y : Int) := by have := HP.out; rw [IntWalk.i64_in _ (by omega)]; omega
      have wm : IntKind.i64.wrap ((m : Int) + 1) = (m : Int) + 1 := IntWalk.i64_in _ (by omega)
      have hy11 : y < 11 := by have := HP.out; omega
      have hy11' : (y : Int) < 11 := by omega
      have hrl3 : (ints (redP r f p m)).length = 11 := by rw [ints_length, redP_length, ← ints_length]; exact HRL.out
      have hq16 : (redP r f p m).getD y 0 < 16 := getDn_lt (redP_lt HR16.out HF.out m) y
      have ht16 : [8, 14, 7, 1].getD m 0 < 16 := poly_lt m
      have HNXT : Hid ((ints (redP r f p m)).set y (((redP r f p m).getD y 0 ^^^ gm f ([8, 14, 7, 1].getD m 0) : Nat) : Int) = ints (redP r f p (m + 1))) := by
        show _ = _
        rw [← ints_set, gm_comm HF.out ht16, hy]
        rfl
      obtain ⟨ce, cf, cB, cS⟩ := ownJ_at0 HOI.out (k := y) (by rw [hrl3]; exact hy11)
      rw [intsN_getD] at ce
      generalize (redP r f p m).getD y 0 = qv at ce hq16 HNXT
      generalize [8, 14, 7, 1].getD m 0 = tv at hix ht16 HNXT
      have HADD : Hid (gfAdd (qv : Int) ((gm f tv : Nat) : Int) = ((qv ^^^ gm f tv : Nat) : Int)) := gfAdd_nat hq16 (gm_lt HF.out ht16)
      have HT := Lib.hid ht16
      have HRL3 := Lib.hid hrl3
      have HY11 := Lib.hid hy11
      have z0 := fun q : Later wr => q.cell ce
      clear hy hq16 ht16 hrl3 cB cS cf
      go_wp2_with fail
      refine wp_region_later_tail 11 (by kernel_rfl) (by kernel_rfl) ?_
      simp only [List.take_succ_cons, List.take_zero, List.drop_succ_cons, List.drop_zero]
      repeat (go_big_quiet_step (first | (go_at_call 51; exact Gives.later_same _ (implBy_is f tv HF.out HT.out gb _ (HMU.out.below (Later.ok _)))) | (go_at_call 44; exact Gives.later _ (implGfAdd_is _ _ _ HADD.out _))))
      refine wpQuiet_nil ?_
      rintro w4 ⟨zz, hz⟩
      have hb4 : Below wr.heap.size wr w4 := hz ▸ zz.ok
      have HO4 := Lib.hid (HOI.out.below hb4)
      have HM4 := Lib.hid (HMU.out.below hb4)
      have HB4 : Hid (Below w.heap.size w w4) := HBI.out.trans (hb4.mono HBI.out.size)
      obtain ⟨d1, d2, _, _⟩ := ownJ_at0 HO4.out (k := y) (by rw [HRL3.out]; exact HY11.out)
      obtain ⟨old, hco⟩ : ∃ u, w4.cell? ⟨gR, y, none⟩ = some u := ⟨_, d1⟩
      have R5 := ownJ_stored0 HO4.out HRL3.out HY11.out ((qv ^^^ gm f tv : Nat) : Int)
      rw [HNXT.out] at R5
      have HR5 := Lib.hid R5
      have HB5 : Hid (Below w.heap.size w (w4.setCell ⟨gR, y, none⟩ (.int .i64 ((qv ^^^ gm f tv : Nat) : Int)))) := HB4.out.setCell HGR.out _
      have HM5 : Hid (MulAt (w4.setCell ⟨gR, y, none⟩ (.int .i64 ((qv ^^^ gm f tv : Nat) : Int))) gb f) := (Below.heap_setCell _ _ _ _ HNE.out).trans HM4.out
      clear z0 hz zz hb4 ce d1 R5 HO4 HM4 HB4
      go_wp2_with fail
      go_roundw
      case rel => exact ⟨m + 1, by omega, by go_num, HM5.out, HR5.out, HB5.out⟩
      case measure => simp [intOf]; omega

set_option maxHeartbeats 8000000 in
set_option maxRecDepth 100000 in
theorem implEncodeSymbols_is : IEncodeSymbols GenAt := by
  intro a n c l k hk v hv hk2 hn hl hc w hG h
  have HN := Lib.hid hn
  have HA := Lib.hid h
  have HK := Lib.hid hk2
  have HG := Lib.hid hG
  by_cases hok : SymOk l 8
  case neg =>
    have KA := Lib.hid (decide_eq_false hok)
    have HV0 : Hid (v = []) := by show _ = _; rw [← hv]; exact if_neg hok
    clear hok hv hn h hk2 hG
    go_enter Tryd.func18, Tryd.ntmps18
    go_wp2_with fail
    refine (implSymbolsOk_is a n c l 8 false KA.out HN.out hl hc _ HA.out).mono ?_
    rintro e w2 ⟨rfl, hb2⟩
    have HB2 := Lib.hid hb2
    clear hb2
    go_wp2_with fail
    go_ret
    exact givesJ_nil HV0.out HK.out HB2.out
  have KA := Lib.hid (decide_eq_true hok)
  obtain rfl : n = 8 := by have := hok.2; omega
  obtain ⟨g, o, rfl, _⟩ := h.at (k := 0) (by rw [hn]; omega)
  obtain ⟨d, hd⟩ : ∃ d, nats l = d := ⟨_, rfl⟩
  have hint : ints d = l := by rw [← hd]; exact ints_nats hok.1
  have HDL : Hid (d.length = 8) := by show _ = _; rw [← hd, nats_length]; exact hn
  have HDT : Hid (Lt16 d) := by show Lt16 d; rw [← hd]; exact nats_lt hok.1
  have HV : Hid (v = ints (enc d)) := by show _ = _; rw [← hv, ← hd]; exact if_pos hok
  obtain rfl : k = 11 := by rw [← hk2, HV.out, ints_length, enc_length, HDL.out]
  have HW0 : Hid ([0, 0, 0] ++ l = ints (0 :: 0 :: 0 :: d)) := by show _ = _; rw [← hint]; rfl
  obtain ⟨i0, hi, hz0, hz1, hz2⟩ := info_parts infoI
  clear hok hv hn h hk2 hG hd hint HK
  go_enter Tryd.func18, Tryd.ntmps18
  go_wp2_with fail
  refine (implSymbolsOk_is (some ⟨g, o, none⟩) 8 c l 8 true KA.out HN.out hl hc _ HA.out).mono ?_
  rintro e w2 ⟨rfl, hb2⟩
  have HB2 := Lib.hid hb2
  have HS2 := Lib.hid hb2.size
  clear hb2
  go_wp2_with (at_make; refine wpList_make_full _ rfl _ _ 25 rfl w2.heap.size 3 i0 (.int .i64 0) 1 Tryd.underlying25 hi hz0 hz1 _ _ _ _ 3 rfl rfl rfl rfl (by rw [hz2]; omega) (by unfold maxLen; omega) (Nat.le_refl _) ?_)
  intro w3 hown hgr
  have hb3 : Below w2.heap.size w2 w3 := (Below.refl _ _).grown hgr (Nat.le_refl _) (fun k hk => by cases hk)
  have hO3 : OwnI w2.heap.size (.slice (some ⟨w2.heap.size, 0, none⟩) 3 3) [0, 0, 0] w3 := by
    unfold OwnI
    rw [made_one] at hown
    exact hown
  have HB3 : Hid (Below w.heap.size w w3) := HB2.out.trans (hb3.mono HB2.out.size)
  have HO3 := Lib.hid (hO3.toJ rfl)
  clear hgr hown hb3 hO3 HB2
  generalize w2.heap.size = gs at HO3 ⊢
  have hb4 : Below w3.heap.size w3 (w3.alloc (.cells #[.slice (some ⟨gs, 0, none⟩) 3 3, .slice (some ⟨g, o, none⟩) 8 c] 25)) := (Below.refl _ _).alloc (Nat.le_refl _) _
  have HV4 := Lib.hid (heap_alloc_new w3 (.cells #[.slice (some ⟨gs, 0, none⟩) 3 3, .slice (some ⟨g, o, none⟩) 8 c] 25))
  have HB4 : Hid (Below w.heap.size w (w3.alloc (.cells #[.slice (some ⟨gs, 0, none⟩) 3 3, .slice (some ⟨g, o, none⟩) 8 c] 25))) := HB3.out.trans (hb4.mono HB3.out.size)
  have HO4 := Lib.hid (HO3.out.below hb4)
  clear hb4 HO3
  go_wp2_with fail
  generalize w3.alloc (.cells #[.slice (some ⟨gs, 0, none⟩) 3 3, .slice (some ⟨g, o, none⟩) 8 c] 25) = w4 at HV4 HB4 HO4 ⊢
  generalize w3.heap.size = gv at HV4 ⊢
  refine (implConcat_is gv gs 0 3 g o c [0, 0, 0] l rfl HN.out _ HV4.out HO4.out.row (HA.out.below HB4.out)).mono ?_
  rintro e w5 ⟨a5, c5, rfl, own5, hb5⟩
  rw [HW0.out] at own5 ⊢
  have h11 : (ints (0 :: 0 :: 0 :: d)).length = 11 := by rw [ints_length]; simp [HDL.out]
  rw [h11] at own5 ⊢
  obtain ⟨g5, rfl, _, _, _, _⟩ := own5.at (k := 0) (by rw [h11]; decide)
  have HC5 : Hid (11 ≤ c5) := own5.cap_le h11
  have HO5 := Lib.hid (own5.toJ h11)
  have HG5 : Hid (w.heap.size ≤ g5) := Nat.le_trans HB4.out.size ((own5.toJ h11).lo _ rfl).1
  have HGL5 : Hid (g5 < w5.heap.size) := ((own5.toJ h11).lo _ rfl).2
  have HB5 : Hid (Below w.heap.size w w5) := HB4.out.trans (hb5.mono HB4.out.size)
  have HS4 : Hid (w.heap.size ≤ w4.heap.size) := HB4.out.size
  clear own5 hb5 HB4 HO4 HV4 HB3
  go_wp2_with fail
  refine (implRemainder_is (some ⟨g5, 0, none⟩) c5 d HDT.out HDL.out HC5.out _ (HG.out.below HB5.out) HO5.out.row).mono ?_
  rintro e w6 ⟨g6, c6, r, rfl, hdiv, hr6, _, hb6⟩
  have HB6 : Hid (Below w.heap.size w w6) := HB5.out.trans (hb6.mono HB5.out.size)
  have HO6 := Lib.hid ((HO5.out.below hb6).mono HS4.out)
  have HR6 := Lib.hid hr6
  have HRL : Hid ((ints (r.take 3)).length = 3) := by show _ = _; rw [ints_length, List.length_take, hdiv.1]; rfl
  have HFIN : Hid (ints (r.take 3) ++ (ints (0 :: 0 :: 0 :: d)).drop 3 = v) := by
    show _ = _
    rw [HV.out, ← divC_end HDT.out hdiv]
    unfold ints
    rw [List.map_append]
    rfl
  clear hb6 hr6 hdiv HB5 HO5
  go_wp2_with (refine copy_row rfl _ _ rfl w.heap.size g5 0 11 c5 _ rfl HO6.out ⟨g6, 0, none⟩ 3 c6 _ rfl HR6.out HRL.out (by decide) (by decide) ?_)
  intro w7 hown7 hb7
  rw [HFIN.out] at hown7
  have HO7 := Lib.hid hown7
  have HB7 : Hid (Below w.heap.size w w7) := HB6.out.trans hb7
  clear hown7 hb7 HB6 HO6
  go_wp2_with fail
  go_ret
  exact ⟨_, c5, rfl, HC5.out, HO7.out, HB7.out⟩

end Go.Proofs.YtpddinflkkcodaaDoor

namespace Go.Proofs.YtpddinflkkcodaaDoor
open Go.RowKit Go.PlainAid

set_option linter.unusedVariables false

theorem implEncodeLine_is : IEncodeLine GenAt := by
  intro x k hk v hv hk2 w hG
  have HG := Lib.hid hG
  obtain ⟨s, hs⟩ : ∃ s, symW x = s := ⟨_, rfl⟩
  have hl8 : s.length ≤ 8 := by rw [← hs]; exact symW_le x
  obtain ⟨m, hm⟩ : ∃ m, s.length = m := ⟨_, rfl⟩
  have hm8 : m ≤ 8 := by omega
  have HS := Lib.hid hs
  have HM := Lib.hid hm
  have HV : Hid (encI s = v) := by show _ = _; rw [← hs]; exact hv
  have HK := Lib.hid hk2
  clear hv hk2 hs hm hl8 hG
  go_enter Tryd.func8, Tryd.ntmps8
  go_wp2_with fail
  refine (implSymbolsOfWord_is x m hm8 s HS.out HM.out _).mono ?_
  rintro e w2 ⟨a2, c2, rfl, hc2, own2, hb2⟩
  have HR2 := Lib.hid own2.row
  have HC2 := Lib.hid hc2
  have HB2 := Lib.hid hb2
  clear own2 hb2 hc2
  go_wp2_with fail
  refine (implEncodeSymbols_is a2 m c2 s k hk v HV.out HK.out HM.out (by omega) HC2.out _ (HG.out.below HB2.out) HR2.out).mono ?_
  rintro e w3 ⟨a3, c3, rfl, hc3, own3, hb3⟩
  have HO3 := Lib.hid (own3.mono HB2.out.size)
  have HC3 := Lib.hid hc3
  have HB3 : Hid (Below w.heap.size w w3) := HB2.out.trans (hb3.mono HB2.out.size)
  clear own3 hc3 hb3
  go_wp2_with fail
  go_ret
  exact ⟨a3, c3, rfl, HC3.out, HO3.out, HB3.out⟩

end Go.Proofs.YtpddinflkkcodaaDoor

namespace Go.Proofs.YtpddinflkkcodaaDoor
open Go.RowKit

set_option linter.unusedVariables false

theorem exEncodeLine_walk (x : Int) (w : World) (_ : (Lit.int .i64 x).wf = true) (hg : GenAt w) :
    Calls Tryd.prog 4 #[.int .i64 x] w fun e w' => e = .returned (.bool true) ∧ Below w.heap.size w w' := exEncodeLine_of GenAt (Lib.hid implEncodeLine_is) x w (Lib.hid (fun w' hb => hg.below hb))

theorem fnLineWords_walk (a0 : Option Addr) (len cap : Nat) (zs : List Int) (w : World) (hr : IsRow .u8 w a0 len cap zs) (hg : GenAt w) :
    Calls Tryd.prog 3 #[.slice a0 len cap] w fun e w' => e = .returned (.bool true) ∧ Below w.heap.size w w' := fnLineWords_of GenAt (Lib.hid implEncodeLine_is) (Lib.hid implDecodeLine_is) (Lib.hid implFormatLine_is) a0 len cap zs w hr (Lib.hid (fun w' hb => hg.below hb))

end Go.Proofs.YtpddinflkkcodaaDoor
