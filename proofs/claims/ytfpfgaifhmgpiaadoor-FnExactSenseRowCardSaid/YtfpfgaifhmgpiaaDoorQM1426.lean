/-
  Texts of one proof, merged: CodO, CodY, LinE, ArrYN, ArrYZ.
-/
import Derived.Test.YtfpfgaifhmgpiaaDoorQM1410
import Derived.Test.YtfpfgaifhmgpiaaDoorQM1416
import Derived.Test.YtfpfgaifhmgpiaaDoorQM1417
import Derived.Test.YtfpfgaifhmgpiaaDoorQM1418
import Derived.Test.YtfpfgaifhmgpiaaDoorQM1419
import Derived.Test.YtfpfgaifhmgpiaaDoorQM1425
import Derived.Laws.CopyOwn
import Derived.Lib.AppendZerosOnto
import Derived.Lib.SliceRun
namespace Go.Proofs.YtfpfgaifhmgpiaaDoor
open Go.RowKit Go.PlainAid

set_option linter.unusedVariables false

set_option maxHeartbeats 4000000 in
set_option maxRecDepth 100000 in
theorem implGrow_is (w : World) : Calls Tryd.prog 113 #[.slice none 0 0, .int .i64 11] w fun e w' => ∃ G, e = .returned (.slice (some ⟨w.heap.size, 0, none⟩) 0 G) ∧ OwnI w.heap.size (.slice (some ⟨w.heap.size, 0, none⟩) 0 G) [] w' ∧ Below w.heap.size w w' := by
  obtain ⟨i0, hi, hz0, hz1, hz2⟩ := info_parts infoI
  have hold : (Builtin.firstCells i0.size 0 (.slice none 0 0)).run Tryd.prog w.drew = .ok (#[] : Array Value) w.drew := run_firstCells_none w.drew i0.size 0 0 0
  have hrz : ∀ ty, (Builtin.append_ #[29, 3] ty #[.slice none 0 0, .int .i64 11]).run Tryd.prog w =
      .ok (.slice (some ⟨w.heap.size, 0, none⟩) 11 (grownCap w 11 0 3)) (w.drew.alloc (.cells ((#[] : Array Value) ++ Builtin.zeroCells (Value.int .i64 0).cells 11 ++ Builtin.zeroCells (Value.int .i64 0).cells (grownCap w 11 0 3 - 11)) 3)) := fun ty =>
    Lib.run_append_grow_zeros w 29 3 ty 3 i0 (.int .i64 0) .i64 .i64 Tryd.underlying29 Tryd.underlying3 hi hz0 none 0 0 [] hold 11 (by omega) (by omega) (by omega) (by omega) (by rw [hz2]; omega) (growslice_fits (by omega) (by rw [hz2]; omega))
  have hGn : 11 ≤ grownCap w 11 0 3 := grownCap_ge w _ _ _
  have hGm : grownCap w 11 0 3 ≤ maxLen := grownCap_le_maxLen w 11 0 3 (by unfold maxLen; omega)
  generalize grownCap w 11 0 3 = G at hrz hGn hGm
  have hG63 : G ≤ 9223372036854775807 := by unfold maxLen at hGm; omega
  obtain ⟨cur, hcur⟩ : ∃ c, ((#[] : Array Value) ++ Builtin.zeroCells (Value.int .i64 0).cells 11 ++ Builtin.zeroCells (Value.int .i64 0).cells (G - 11)) = c := ⟨_, rfl⟩
  have hcs : cur.size = G * 1 := by rw [← hcur]; simp [Builtin.zeroCells, Value.cells]; omega
  rw [hcur] at hrz
  have HOWN : Hid (OwnI w.heap.size (.slice (some ⟨w.heap.size, 0, none⟩) 0 G) [] (w.drew.alloc (.cells cur 3))) :=
    ⟨rfl, .inr ⟨w.heap.size, G, cur, rfl, Nat.le_refl _, heap_alloc_new w.drew _, Nat.zero_le _, hGm, hcs, by simp⟩⟩
  have HB : Hid (Below w.heap.size w (w.drew.alloc (.cells cur 3))) := ((Below.refl _ _).drew).alloc (Nat.le_refl _) _
  clear hold hcur hcs
  go_enter Tryd.func113, Tryd.ntmps113
  go_wp2_with (at_builtin; refine Lib.wpList_append_run _ rfl _ _ _ _ rfl _ _ rfl rfl _ _ (hrz _) ?_)
  all_goals (go_ret; exact ⟨G, rfl, HOWN.out, HB.out⟩)

set_option maxHeartbeats 4000000 in
set_option maxRecDepth 100000 in
theorem implConcat_is (gv g1 o1 c1 g2 o2 c2 : Nat) (l1 l2 : List Int) (h1 : l1.length = 3) (h2 : l2.length = 8) (w : World) (hv : w.heap[gv]? = some (.cells #[.slice (some ⟨g1, o1, none⟩) 3 c1, .slice (some ⟨g2, o2, none⟩) 8 c2] 29)) (hr1 : RowI w (some ⟨g1, o1, none⟩) l1) (hr2 : RowI w (some ⟨g2, o2, none⟩) l2) :
    Calls Tryd.prog 107 #[.slice (some ⟨gv, 0, none⟩) 2 2] w (GivesI (l1 ++ l2) w) := by
  have H1 := Lib.hid h1
  have H2 := Lib.hid h2
  have HR1 := Lib.hid hr1
  have HR2 := Lib.hid hr2
  have HV := Lib.hid hv
  obtain ⟨x0, x1⟩ := cells2 hv
  clear h1 h2 hr1 hr2 hv
  go_enter Tryd.func107, Tryd.ntmps107
  go_wp2_with fail
  go_loopw [3, 11] (fun s i wr => ((s = .int .i64 0 ∧ i = .int .i64 0) ∨ (s = .int .i64 3 ∧ i = .int .i64 1) ∨ (s = .int .i64 11 ∧ i = .int .i64 2)) ∧ w = wr) (fun _ i _ => 3 - (intOf i).toNat)
  case atStart => exact ⟨.inl ⟨rfl, rfl⟩, rfl⟩
  case round =>
    obtain ⟨⟨rfl, rfl⟩ | ⟨rfl, rfl⟩ | ⟨rfl, rfl⟩, rfl⟩ := hrel
    · go_wp2_with fail
      go_roundw
      case rel => exact ⟨.inr (.inl ⟨rfl, rfl⟩), by trivial⟩
      case measure => decide
    · go_wp2_with fail
      go_roundw
      case rel => exact ⟨.inr (.inr ⟨rfl, rfl⟩), by trivial⟩
      case measure => decide
    · go_wp2_with fail
      refine (implGrow_is _).mono ?_
      rintro e w2 ⟨G, rfl, own2, hb2⟩
      have HO2 := Lib.hid own2
      have HB2 := Lib.hid hb2
      have HS2 : Hid (w.heap.size ≤ w2.heap.size) := hb2.size
      clear x0 x1 own2 hb2
      go_wp2_with fail
      go_loopw [6, 27] (fun v i wi => ((i = .int .i64 0 ∧ OwnI w.heap.size v [] wi) ∨ (i = .int .i64 1 ∧ OwnI w.heap.size v l1 wi) ∨ (i = .int .i64 2 ∧ OwnI w.heap.size v (l1 ++ l2) wi)) ∧ Below w.heap.size w wi) (fun _ i _ => 3 - (intOf i).toNat)
      case atStart => exact ⟨.inl ⟨rfl, HO2.out⟩, HB2.out⟩
      case round =>
        obtain ⟨⟨rfl, own⟩ | ⟨rfl, own⟩ | ⟨rfl, own⟩, hbr⟩ := hrel
        · have HBR := Lib.hid hbr
          have HRA := Lib.hid (HR1.out.below hbr)
          obtain ⟨x0, x1⟩ := cells2 (keep_block hbr HV.out (lt_of_block HV.out))
          have hsz := hbr.size
          clear hbr
          go_wp2_with (at_builtin; refine append_int rfl _ _ rfl w.heap.size _ 0 [] rfl own rfl (some ⟨g1, o1, none⟩) 3 c1 l1 rfl H1.out (fun h => by cases h) HRA.out (by omega) hsz ?_)
          intro v' w4 hown4 hgrow _
          (try rw [List.nil_append] at hown4)
          have HB4 : Hid (Below w.heap.size w w4) := HBR.out.grown hgrow HBR.out.size (fun j hj => (World.ownsRow.lt own j hj).1)
          clear own hgrow
          go_wp2_with fail
          go_roundw
          case rel => exact ⟨.inr (.inl ⟨rfl, hown4⟩), HB4.out⟩
          case measure => decide
        · have HBR := Lib.hid hbr
          have HRA := Lib.hid (HR2.out.below hbr)
          obtain ⟨x0, x1⟩ := cells2 (keep_block hbr HV.out (lt_of_block HV.out))
          have hsz := hbr.size
          clear hbr
          go_wp2_with (at_builtin; refine append_int rfl _ _ rfl w.heap.size _ 3 l1 rfl own H1.out (some ⟨g2, o2, none⟩) 8 c2 l2 rfl H2.out (fun h => by cases h) HRA.out (by omega) hsz ?_)
          intro v' w4 hown4 hgrow _
          have HB4 : Hid (Below w.heap.size w w4) := HBR.out.grown hgrow HBR.out.size (fun j hj => (World.ownsRow.lt own j hj).1)
          clear own hgrow
          go_wp2_with fail
          go_roundw
          case rel => exact ⟨.inr (.inr ⟨rfl, hown4⟩), HB4.out⟩
          case measure => decide
        · obtain ⟨aa, cc, rfl⟩ := own.shape
          have HO := Lib.hid own
          have HBR := Lib.hid hbr
          clear own hbr
          go_wp2_with fail
          go_ret
          exact ⟨aa, cc, rfl, HO.out, HBR.out⟩

end Go.Proofs.YtfpfgaifhmgpiaaDoor

namespace Go.Proofs.YtfpfgaifhmgpiaaDoor
open Go.RowKit Go.PlainAid

set_option linter.unusedVariables false

/-- The divisor's terms lie in the program's table. -/
def GenAt (w : World) : Prop := w.cell? ⟨1, 0, none⟩ = some (.int .i64 8) ∧ w.cell? ⟨1, 1, none⟩ = some (.int .i64 14) ∧ w.cell? ⟨1, 2, none⟩ = some (.int .i64 7)

theorem GenAt.below {w w' : World} (h : GenAt w) (hb : Below w.heap.size w w') : GenAt w' :=
  have k : ∀ {i : Nat} {v : Value}, w.cell? ⟨1, i, none⟩ = some v → w'.cell? ⟨1, i, none⟩ = some v := fun e => (hb.cell (World.block_lt_of_cell? _ _ e)).trans e
  ⟨k h.1, k h.2.1, k h.2.2⟩

theorem gen_ix0 (w : World) : (Instr.index 138 (.agg #[.int .i64 8, .int .i64 14, .int .i64 7]) (.int .i64 0)).run Tryd.prog w = .ok (.int .i64 8) w := by kernel_rfl

theorem gen_ix1 (w : World) : (Instr.index 138 (.agg #[.int .i64 8, .int .i64 14, .int .i64 7]) (.int .i64 1)).run Tryd.prog w = .ok (.int .i64 14) w := by kernel_rfl

theorem gen_ix2 (w : World) : (Instr.index 138 (.agg #[.int .i64 8, .int .i64 14, .int .i64 7]) (.int .i64 2)).run Tryd.prog w = .ok (.int .i64 7) w := by kernel_rfl

theorem gen_index (m : Nat) (hm : m < 3) (w : World) : (Instr.index 138 (.agg #[.int .i64 8, .int .i64 14, .int .i64 7]) (.int .i64 (m : Int))).run Tryd.prog w = .ok (.int .i64 (([8, 14, 7, 1].getD m 0 : Nat) : Int)) w :=
  match m, hm with
  | 0, _ => gen_ix0 w
  | 1, _ => gen_ix1 w
  | 2, _ => gen_ix2 w

theorem intsN_getD (r : List Nat) (k : Nat) : (ints r).getD k 0 = ((r.getD k 0 : Nat) : Int) := ints_getD r k

set_option maxHeartbeats 8000000 in
set_option maxRecDepth 100000 in
theorem implRemainder_is (a : Option Addr) (c : Nat) (d : List Nat) (hd : Lt16 d) (hdl : d.length = 8) (hc : 11 ≤ c) (w : World) (hG : GenAt w) (hr : RowI w a (ints (0 :: 0 :: 0 :: d))) :
    Calls Tryd.prog 108 #[.slice a 11 c] w fun e w' => ∃ g cc r, e = .returned (.slice (some ⟨g, 0, none⟩) 3 cc) ∧ DivC d 2 r ∧ RowI w' (some ⟨g, 0, none⟩) (ints (r.take 3)) ∧ w.heap.size ≤ g ∧ Below w.heap.size w w' := by
  have h0l : (ints (0 :: 0 :: 0 :: d)).length = 11 := by rw [ints_length]; simp [hdl]
  have HD0 : Hid (DivC d 10 (0 :: 0 :: 0 :: d)) := divC_start hd hdl
  have HR := Lib.hid hr
  have HL0 := Lib.hid h0l
  have HG := Lib.hid hG
  have HIX := Lib.hid gen_index
  obtain ⟨ga, oa, rfl, _⟩ := hr.at (k := 0) (by rw [h0l]; omega)
  clear hr h0l hG hd hdl
  go_enter Tryd.func108, Tryd.ntmps108
  go_wp2_with fail
  refine (implCloneI_is (some ⟨ga, oa, none⟩) 11 c (ints (0 :: 0 :: 0 :: d)) HL0.out (by decide) (fun h => by cases h) _ HR.out).mono ?_
  rintro e w2 ⟨aa, cc, rfl, own2, hb2⟩
  rw [HL0.out] at own2 ⊢
  obtain ⟨gR, rfl, _, _, _, _⟩ := own2.at (k := 0) (by rw [HL0.out]; decide)
  have HO2 := Lib.hid (own2.toJ HL0.out)
  have HGR : Hid (w.heap.size ≤ gR) := ((own2.toJ HL0.out).lo _ rfl).1
  have HC2 : Hid (11 ≤ cc) := own2.cap_le HL0.out
  have HB2 := Lib.hid hb2
  clear own2 hb2 HR
  go_wp2_with fail
  go_loopw [4] (fun i wr => ∃ (t : Nat) (r : List Nat), 2 ≤ t ∧ t ≤ 10 ∧ i = .int .i64 (t : Int) ∧ DivC d t r ∧ OwnJ w.heap.size (.slice (some ⟨gR, 0, none⟩) 11 cc) (ints r) wr ∧ Below w.heap.size w wr) (fun i _ => (intOf i).toNat)
  case atStart => exact ⟨10, _, by decide, by decide, rfl, HD0.out, HO2.out, HB2.out⟩
  case round =>
    obtain ⟨t, r, ht2, ht10, rfl, hdiv, hown, hbr⟩ := hrel
    have HDIV := Lib.hid hdiv
    have HO := Lib.hid hown
    have HBR := Lib.hid hbr
    have hrl : (ints r).length = 11 := by rw [ints_length]; exact hdiv.1
    have HRL := Lib.hid hrl
    clear hdiv hown hbr HO2 HB2
    by_cases hlt : 3 ≤ t
    case neg =>
      obtain rfl : t = 2 := by omega
      (try rw [show ((2 : Nat) : Int) = 2 from rfl])
      have hcc := HC2.out
      go_wp2_with fail
      go_ret
      refine ⟨gR, cc, r, rfl, HDIV.out, ?_, HGR.out, HBR.out⟩
      have := HO.out.row
      rcases this with h | ⟨g', o', he, hcl⟩
      · rw [h] at hrl; cases hrl
      · cases he
        refine .inr ⟨gR, 0, rfl, fun i hi => ?_⟩
        rw [ints_length, List.length_take] at hi
        rw [hcl i (by omega), intsN_getD, intsN_getD, List.getD_eq_getElem?_getD, List.getD_eq_getElem?_getD, List.getElem?_take_of_lt (by omega)]
    have ht3 : (3 : Int) ≤ (t : Int) := by omega
    have ht11 : (t : Int) < 11 := by omega
    obtain ⟨p, hp⟩ : ∃ p : Nat, t = p + 3 := ⟨t - 3, by omega⟩
    have e3 : IntKind.i64.wrap ((t : Int) - 3) = (p : Int) := by rw [IntWalk.i64_in _ (by omega)]; omega
    obtain ⟨t1, ht1⟩ : ∃ t1 : Nat, t = t1 + 1 := ⟨t - 1, by omega⟩
    have e1 : IntKind.i64.wrap ((t : Int) - 1) = (t1 : Int) := by rw [IntWalk.i64_in _ (by omega)]; omega
    have e1' : wrap64 ((t : Int) - 1) = (t1 : Int) := by rw [← IntWalk.i64_left]; exact e1
    obtain ⟨f, hf⟩ : ∃ f, r.getD t 0 = f := ⟨_, rfl⟩
    have HF : Hid (f < 16) := by show _ < _; rw [← hf]; exact getDn_lt HDIV.out.2.1 t
    have HNX : Hid (DivC d t1 (redP r f p 3)) := by
      have := divC_step HDIV.out hlt ht10
      rw [hf, show t - 3 = p by omega, show t - 1 = t1 by omega] at this
      exact this
    obtain ⟨ce, cf, cB, cS⟩ := ownJ_at0 HO.out (k := t) (by rw [HRL.out]; omega)
    rw [intsN_getD, hf] at ce
    have HR16 : Hid (Lt16 r) := HDIV.out.2.1
    have HP := Lib.hid hp
    have HT1 := Lib.hid ht1
    clear hf cf cB cS HDIV hp ht1
    go_wp2_with fail
    refine (implMultiplierBy_is f HF.out _).mono ?_
    rintro e w3 ⟨gb, rfl, hm, hb3⟩
    have HM3 := Lib.hid hm
    have HB3 : Hid (Below w.heap.size w w3) := HBR.out.trans (hb3.mono HBR.out.size)
    have HO3 := Lib.hid (HO.out.below hb3)
    obtain ⟨c0, c1, c2⟩ := HG.out.below HB3.out
    have HNE : Hid (gb ≠ gR) := by
      intro e
      have h10 := (ownJ_at0 HO3.out (k := 10) (by rw [HRL.out]; decide)).1
      rw [← e] at h10
      unfold MulAt at hm
      simp [World.cell?, hm] at h10
    clear ce hm hb3 HO HBR
    go_wp2_with fail
    go_loopw [21] (fun j wi => ∃ m : Nat, m ≤ 3 ∧ j = .int .i64 (m : Int) ∧ MulAt wi gb f ∧ OwnJ w.heap.size (.slice (some ⟨gR, 0, none⟩) 11 cc) (ints (redP r f p m)) wi ∧ Below w.heap.size w wi) (fun j _ => 4 - (intOf j).toNat)
    case atStart => exact ⟨0, by decide, rfl, HM3.out, HO3.out, HB3.out⟩
    case round =>
      obtain ⟨m, hm3, rfl, hmul, hown, hbr⟩ := hrel
      have HMU := Lib.hid hmul
      have HOI := Lib.hid hown
      have HBI := Lib.hid hbr
      clear hmul hown hbr HM3 HO3 HB3
      by_cases hltm : m < 3
      case neg =>
        obtain rfl : m = 3 := by omega
        (try rw [show ((3 : Nat) : Int) = 3 from rfl])
        go_wp2_with fail
        go_roundw
        case rel => exact ⟨t1, _, by have := HT1.out; omega, by have := HT1.out; omega, rfl, HNX.out, HOI.out, HBI.out⟩
        case measure => have := HT1.out; simp [intOf]; omega
      have hm3' : (m : Int) < 3 := by omega
      have hix := HIX.out m hltm
      obtain ⟨y, hy⟩ : ∃ y : Nat, y = p + m := ⟨_, rfl⟩
      have wy : IntKind.i64.wrap ((p : Int) + (m : Int)) = (y : Int) := by have := HP.out; rw [IntWalk.i64_in _ (by omega)]; omega
      have wm : IntKind.i64.wrap ((m : Int) + 1) = (m : Int) + 1 := IntWalk.i64_in _ (by omega)
      have hy11 : y < 11 := by have := HP.out; omega
      have hy11' : (y : Int) < 11 := by omega
      have hrl3 : (ints (redP r f p m)).length = 11 := by rw [ints_length, redP_length, ← ints_length]; exact HRL.out
      have hq16 : (redP r f p m).getD y 0 < 16 := getDn_lt (redP_lt HR16.out HF.out m) y
      have ht16 : [8, 14, 7, 1].getD m 0 < 16 := poly_lt m
      have HNXT : Hid ((ints (redP r f p m)).set y (((redP r f p m).getD y 0 ^^^ gm f ([8, 14, 7, 1].getD m 0) : Nat) : Int) = ints (redP r f p (m + 1))) := by
        show _ = _
        rw [← ints_set, gm_comm HF.out ht16, hy]
        rfl
      obtain ⟨ce, cf, cB, cS⟩ := ownJ_at0 HOI.out (k := y) (by rw [hrl3]; exact hy11)
      rw [intsN_getD] at ce
      generalize (redP r f p m).getD y 0 = qv at ce hq16 HNXT
      generalize [8, 14, 7, 1].getD m 0 = tv at hix ht16 HNXT
      have HADD : Hid (gfAdd (qv : Int) ((gm f tv : Nat) : Int) = ((qv ^^^ gm f tv : Nat) : Int)) := gfAdd_nat hq16 (gm_lt HF.out ht16)
      have HT := Lib.hid ht16
      have HRL3 := Lib.hid hrl3
      have HY11 := Lib.hid hy11
      have z0 := fun q : Later wr => q.cell ce
      clear hy hq16 ht16 hrl3 cB cS cf
      go_wp2_with fail
      refine wp_region_later_tail 11 (by kernel_rfl) (by kernel_rfl) ?_
      simp only [List.take_succ_cons, List.take_zero, List.drop_succ_cons, List.drop_zero]
      repeat (go_big_quiet_step (first | (go_at_call 116; exact Gives.later_same _ (implBy_is f tv HF.out HT.out gb _ (HMU.out.below (Later.ok _)))) | (go_at_call 111; exact Gives.later _ (implGfAdd_is _ _ _ HADD.out _))))
      refine wpQuiet_nil ?_
      rintro w4 ⟨zz, hz⟩
      have hb4 : Below wr.heap.size wr w4 := hz ▸ zz.ok
      have HO4 := Lib.hid (HOI.out.below hb4)
      have HM4 := Lib.hid (HMU.out.below hb4)
      have HB4 : Hid (Below w.heap.size w w4) := HBI.out.trans (hb4.mono HBI.out.size)
      obtain ⟨d1, d2, _, _⟩ := ownJ_at0 HO4.out (k := y) (by rw [HRL3.out]; exact HY11.out)
      obtain ⟨old, hco⟩ : ∃ u, w4.cell? ⟨gR, y, none⟩ = some u := ⟨_, d1⟩
      have R5 := ownJ_stored0 HO4.out HRL3.out HY11.out ((qv ^^^ gm f tv : Nat) : Int)
      rw [HNXT.out] at R5
      have HR5 := Lib.hid R5
      have HB5 : Hid (Below w.heap.size w (w4.setCell ⟨gR, y, none⟩ (.int .i64 ((qv ^^^ gm f tv : Nat) : Int)))) := HB4.out.setCell HGR.out _
      have HM5 : Hid (MulAt (w4.setCell ⟨gR, y, none⟩ (.int .i64 ((qv ^^^ gm f tv : Nat) : Int))) gb f) := (Below.heap_setCell _ _ _ _ HNE.out).trans HM4.out
      clear z0 hz zz hb4 ce d1 R5 HO4 HM4 HB4
      go_wp2_with fail
      go_roundw
      case rel => exact ⟨m + 1, by omega, by go_num, HM5.out, HR5.out, HB5.out⟩
      case measure => simp [intOf]; omega

set_option maxHeartbeats 8000000 in
set_option maxRecDepth 100000 in
theorem implEncodeSymbols_is : IEncodeSymbols GenAt := by
  intro a n c l k hk v hv hk2 hn hl hc w hG h
  have HN := Lib.hid hn
  have HA := Lib.hid h
  have HK := Lib.hid hk2
  have HG := Lib.hid hG
  by_cases hok : SymOk l 8
  case neg =>
    have KA := Lib.hid (decide_eq_false hok)
    have HV0 : Hid (v = []) := by show _ = _; rw [← hv]; exact if_neg hok
    clear hok hv hn h hk2 hG
    go_enter Tryd.func91, Tryd.ntmps91
    go_wp2_with fail
    refine (implSymbolsOk_is a n c l 8 false KA.out HN.out hl hc _ HA.out).mono ?_
    rintro e w2 ⟨rfl, hb2⟩
    have HB2 := Lib.hid hb2
    clear hb2
    go_wp2_with fail
    go_ret
    exact givesJ_nil HV0.out HK.out HB2.out
  have KA := Lib.hid (decide_eq_true hok)
  obtain rfl : n = 8 := by have := hok.2; omega
  obtain ⟨g, o, rfl, _⟩ := h.at (k := 0) (by rw [hn]; omega)
  obtain ⟨d, hd⟩ : ∃ d, nats l = d := ⟨_, rfl⟩
  have hint : ints d = l := by rw [← hd]; exact ints_nats hok.1
  have HDL : Hid (d.length = 8) := by show _ = _; rw [← hd, nats_length]; exact hn
  have HDT : Hid (Lt16 d) := by show Lt16 d; rw [← hd]; exact nats_lt hok.1
  have HV : Hid (v = ints (enc d)) := by show _ = _; rw [← hv, ← hd]; exact if_pos hok
  obtain rfl : k = 11 := by rw [← hk2, HV.out, ints_length, enc_length, HDL.out]
  have HW0 : Hid ([0, 0, 0] ++ l = ints (0 :: 0 :: 0 :: d)) := by show _ = _; rw [← hint]; rfl
  obtain ⟨i0, hi, hz0, hz1, hz2⟩ := info_parts infoI
  clear hok hv hn h hk2 hG hd hint HK
  go_enter Tryd.func91, Tryd.ntmps91
  go_wp2_with fail
  refine (implSymbolsOk_is (some ⟨g, o, none⟩) 8 c l 8 true KA.out HN.out hl hc _ HA.out).mono ?_
  rintro e w2 ⟨rfl, hb2⟩
  have HB2 := Lib.hid hb2
  have HS2 := Lib.hid hb2.size
  clear hb2
  go_wp2_with (at_make; refine wpList_make_full _ rfl _ _ 29 rfl w2.heap.size 3 i0 (.int .i64 0) 1 Tryd.underlying29 hi hz0 hz1 _ _ _ _ 3 rfl rfl rfl rfl (by rw [hz2]; omega) (by unfold maxLen; omega) (Nat.le_refl _) ?_)
  intro w3 hown hgr
  have hb3 : Below w2.heap.size w2 w3 := (Below.refl _ _).grown hgr (Nat.le_refl _) (fun k hk => by cases hk)
  have hO3 : OwnI w2.heap.size (.slice (some ⟨w2.heap.size, 0, none⟩) 3 3) [0, 0, 0] w3 := by
    unfold OwnI
    rw [made_one] at hown
    exact hown
  have HB3 : Hid (Below w.heap.size w w3) := HB2.out.trans (hb3.mono HB2.out.size)
  have HO3 := Lib.hid (hO3.toJ rfl)
  clear hgr hown hb3 hO3 HB2
  generalize w2.heap.size = gs at HO3 ⊢
  have hb4 : Below w3.heap.size w3 (w3.alloc (.cells #[.slice (some ⟨gs, 0, none⟩) 3 3, .slice (some ⟨g, o, none⟩) 8 c] 29)) := (Below.refl _ _).alloc (Nat.le_refl _) _
  have HV4 := Lib.hid (heap_alloc_new w3 (.cells #[.slice (some ⟨gs, 0, none⟩) 3 3, .slice (some ⟨g, o, none⟩) 8 c] 29))
  have HB4 : Hid (Below w.heap.size w (w3.alloc (.cells #[.slice (some ⟨gs, 0, none⟩) 3 3, .slice (some ⟨g, o, none⟩) 8 c] 29))) := HB3.out.trans (hb4.mono HB3.out.size)
  have HO4 := Lib.hid (HO3.out.below hb4)
  clear hb4 HO3
  go_wp2_with fail
  generalize w3.alloc (.cells #[.slice (some ⟨gs, 0, none⟩) 3 3, .slice (some ⟨g, o, none⟩) 8 c] 29) = w4 at HV4 HB4 HO4 ⊢
  generalize w3.heap.size = gv at HV4 ⊢
  refine (implConcat_is gv gs 0 3 g o c [0, 0, 0] l rfl HN.out _ HV4.out HO4.out.row (HA.out.below HB4.out)).mono ?_
  rintro e w5 ⟨a5, c5, rfl, own5, hb5⟩
  rw [HW0.out] at own5 ⊢
  have h11 : (ints (0 :: 0 :: 0 :: d)).length = 11 := by rw [ints_length]; simp [HDL.out]
  rw [h11] at own5 ⊢
  obtain ⟨g5, rfl, _, _, _, _⟩ := own5.at (k := 0) (by rw [h11]; decide)
  have HC5 : Hid (11 ≤ c5) := own5.cap_le h11
  have HO5 := Lib.hid (own5.toJ h11)
  have HG5 : Hid (w.heap.size ≤ g5) := Nat.le_trans HB4.out.size ((own5.toJ h11).lo _ rfl).1
  have HGL5 : Hid (g5 < w5.heap.size) := ((own5.toJ h11).lo _ rfl).2
  have HB5 : Hid (Below w.heap.size w w5) := HB4.out.trans (hb5.mono HB4.out.size)
  have HS4 : Hid (w.heap.size ≤ w4.heap.size) := HB4.out.size
  clear own5 hb5 HB4 HO4 HV4 HB3
  go_wp2_with fail
  refine (implRemainder_is (some ⟨g5, 0, none⟩) c5 d HDT.out HDL.out HC5.out _ (HG.out.below HB5.out) HO5.out.row).mono ?_
  rintro e w6 ⟨g6, c6, r, rfl, hdiv, hr6, _, hb6⟩
  have HB6 : Hid (Below w.heap.size w w6) := HB5.out.trans (hb6.mono HB5.out.size)
  have HO6 := Lib.hid ((HO5.out.below hb6).mono HS4.out)
  have HR6 := Lib.hid hr6
  have HRL : Hid ((ints (r.take 3)).length = 3) := by show _ = _; rw [ints_length, List.length_take, hdiv.1]; rfl
  have HFIN : Hid (ints (r.take 3) ++ (ints (0 :: 0 :: 0 :: d)).drop 3 = v) := by
    show _ = _
    rw [HV.out, ← divC_end HDT.out hdiv]
    unfold ints
    rw [List.map_append]
    rfl
  clear hb6 hr6 hdiv HB5 HO5
  go_wp2_with (refine copy_row rfl _ _ rfl w.heap.size g5 0 11 c5 _ rfl HO6.out ⟨g6, 0, none⟩ 3 c6 _ rfl HR6.out HRL.out (by decide) (by decide) ?_)
  intro w7 hown7 hb7
  rw [HFIN.out] at hown7
  have HO7 := Lib.hid hown7
  have HB7 : Hid (Below w.heap.size w w7) := HB6.out.trans hb7
  clear hown7 hb7 HB6 HO6
  go_wp2_with fail
  go_ret
  exact ⟨_, c5, rfl, HC5.out, HO7.out, HB7.out⟩

end Go.Proofs.YtfpfgaifhmgpiaaDoor

namespace Go.Proofs.YtfpfgaifhmgpiaaDoor
open Go.RowKit Go.PlainAid

set_option linter.unusedVariables false

theorem implEncodeLine_is : IEncodeLine GenAt := by
  intro x k hk v hv hk2 w hG
  have HG := Lib.hid hG
  obtain ⟨s, hs⟩ : ∃ s, symW x = s := ⟨_, rfl⟩
  have hl8 : s.length ≤ 8 := by rw [← hs]; exact symW_le x
  obtain ⟨m, hm⟩ : ∃ m, s.length = m := ⟨_, rfl⟩
  have hm8 : m ≤ 8 := by omega
  have HS := Lib.hid hs
  have HM := Lib.hid hm
  have HV : Hid (encI s = v) := by show _ = _; rw [← hs]; exact hv
  have HK := Lib.hid hk2
  clear hv hk2 hs hm hl8 hG
  go_enter Tryd.func53, Tryd.ntmps53
  go_wp2_with fail
  refine (implSymbolsOfWord_is x m hm8 s HS.out HM.out _).mono ?_
  rintro e w2 ⟨a2, c2, rfl, hc2, own2, hb2⟩
  have HR2 := Lib.hid own2.row
  have HC2 := Lib.hid hc2
  have HB2 := Lib.hid hb2
  clear own2 hb2 hc2
  go_wp2_with fail
  refine (implEncodeSymbols_is a2 m c2 s k hk v HV.out HK.out HM.out (by omega) HC2.out _ (HG.out.below HB2.out) HR2.out).mono ?_
  rintro e w3 ⟨a3, c3, rfl, hc3, own3, hb3⟩
  have HO3 := Lib.hid (own3.mono HB2.out.size)
  have HC3 := Lib.hid hc3
  have HB3 : Hid (Below w.heap.size w w3) := HB2.out.trans (hb3.mono HB2.out.size)
  clear own3 hc3 hb3
  go_wp2_with fail
  go_ret
  exact ⟨a3, c3, rfl, HC3.out, HO3.out, HB3.out⟩

end Go.Proofs.YtfpfgaifhmgpiaaDoor

namespace Go.Proofs.YtfpfgaifhmgpiaaDoor
open Go.RowKit Go.PlainAid

set_option linter.unusedVariables false

/-- Two rows that operations 5 and 8 made lie apart. -/
def Diff58 (listed : Array Bool) (x : Nat → Value) : Prop := listed.getD 5 false = true → listed.getD 8 false = true → ∀ g, (x 5).ownBlock = some g → (x 8).ownBlock ≠ some g

theorem Diff58.zero (n : Nat) (x : Nat → Value) : Diff58 (Array.replicate n false) x := fun h => by rw [getD_replicate_false] at h; cases h

theorem Diff58.keep {listed : Array Bool} {x : Nat → Value} (h : Diff58 listed x) {i : Nat} (h5 : i ≠ 5) (h8 : i ≠ 8) (v : Value) : Diff58 (listed.setIfInBounds i true) (upd x i v) := fun a b => by
  rw [getD_set_ne false h5] at a
  rw [getD_set_ne false h8] at b
  rw [upd_other _ _ (Ne.symm h5), upd_other _ _ (Ne.symm h8)]
  exact h a b

theorem Diff58.new5 {listed : Array Bool} {x : Nat → Value} {v : Value} (h : listed.getD 8 false = true → ∀ g, v.ownBlock = some g → (x 8).ownBlock ≠ some g) : Diff58 (listed.setIfInBounds 5 true) (upd x 5 v) := fun _ b => by
  rw [getD_set_ne false (by decide)] at b
  rw [upd_same, upd_other _ _ (by decide)]
  exact h b

theorem Diff58.new8 {listed : Array Bool} {x : Nat → Value} {v : Value} (h : listed.getD 5 false = true → ∀ g, v.ownBlock = some g → (x 5).ownBlock ≠ some g) : Diff58 (listed.setIfInBounds 8 true) (upd x 8 v) := fun a _ => by
  rw [getD_set_ne false (by decide)] at a
  rw [upd_same, upd_other _ _ (by decide)]
  exact fun g hg e => h a g e hg

/-- Three new rows in a struct. -/
def NewF (B L M : Nat) (q : Value) (u : World) : Prop := ∃ aa ca ab cb ac cc, q = .agg #[.slice aa L ca, .slice ab M cb, .slice ac M cc] ∧ u.ownsRow B 41 2 (.slice aa L ca) L (madeCells #[.slice none 0 0, .bool false] (L * 2)).toList ∧ u.ownsRow B 3 1 (.slice ab M cb) M (madeCells #[.int .i64 0] M).toList ∧ u.ownsRow B 3 1 (.slice ac M cc) M (madeCells #[.int .i64 0] M).toList ∧ ∀ g, (Value.slice ab M cb).ownBlock = some g → (Value.slice ac M cc).ownBlock ≠ some g

theorem NewF.below {B L M : Nat} {q : Value} {u u' : World} (h : NewF B L M q u) (hb : Below u.heap.size u u') : NewF B L M q u' := by
  obtain ⟨aa, ca, ab, cb, ac, cc, e, o2, o5, o8, hd⟩ := h
  exact ⟨aa, ca, ab, cb, ac, cc, e, ownsRow_below o2 hb, ownsRow_below o5 hb, ownsRow_below o8 hb, hd⟩

/-- A variable that holds them. -/
def NewG (B L M g : Nat) (u : World) : Prop := ∃ aa ca ab cb ac cc, u.heap[g]? = some (.cells #[.slice aa L ca, .slice ab M cb, .slice ac M cc] 31 (0, 0)) ∧ u.ownsRow B 41 2 (.slice aa L ca) L (madeCells #[.slice none 0 0, .bool false] (L * 2)).toList ∧ u.ownsRow B 3 1 (.slice ab M cb) M (madeCells #[.int .i64 0] M).toList ∧ u.ownsRow B 3 1 (.slice ac M cc) M (madeCells #[.int .i64 0] M).toList ∧ ∀ g, (Value.slice ab M cb).ownBlock = some g → (Value.slice ac M cc).ownBlock ≠ some g

theorem NewG.below {B L M g : Nat} {u u' : World} (h : NewG B L M g u) (hb : Below u.heap.size u u') : NewG B L M g u' := by
  obtain ⟨aa, ca, ab, cb, ac, cc, e, o2, o5, o8, hd⟩ := h
  exact ⟨aa, ca, ab, cb, ac, cc, keep_block hb e (lt_of_block e), ownsRow_below o2 hb, ownsRow_below o5 hb, ownsRow_below o8 hb, hd⟩

/-- Rows of different types lie apart. -/
theorem ownsRow_apart {w : World} {B C n m K J : Nat} {T T' : TypeId} {v u : Value} {xs ys : List Value} (h : w.ownsRow B T K v n xs) (k : w.ownsRow C T' J u m ys) (hT : T ≠ T') : ∀ g, v.ownBlock = some g → u.ownBlock ≠ some g := by
  intro g hg e
  rcases k.2 with ⟨hv, _⟩ | ⟨b, cap, cur, hv, hB, hh, r⟩
  · rw [hv] at e; cases e
  · rw [hv] at e
    have e2 : b = g := Option.some.inj e
    subst e2
    exact ownsRow_ne h hh (fun e => hT e.symm) hg

/-- A new row of cells, the first k of them with their symbols (blocks S, none older than N). -/
def MixZ (wr : World) (B N : Nat) (v : Value) (n k : Nat) (l : List Int) : Prop :=
  ∃ xs1 S, wr.ownsRow B 41 2 v n (xs1 ++ (List.replicate (n - k) [Value.slice none 0 0, .bool false]).flatten) ∧ cellK.owns wr S xs1 (List.replicate k (l, false)) ∧ S.Nodup ∧ (∀ b ∈ S, N ≤ b) ∧ ∀ g, v.ownBlock = some g → g ∉ S

theorem MixZ.start {wr : World} {B N n : Nat} {v : Value} {l : List Int} (h : wr.ownsRow B 41 2 v n (madeCells #[.slice none 0 0, .bool false] (n * 2)).toList) : MixZ wr B N v n 0 l := by
  have e := made_flat [.slice none 0 0, .bool false] 2 n rfl (by decide)
  refine ⟨[], [], ?_, ⟨rfl, rfl⟩, List.nodup_nil, (fun b hb => by cases hb), fun g _ hm => by cases hm⟩
  rw [List.nil_append, Nat.sub_zero, ← e]
  exact h

theorem MixZ.below {wr wq : World} {B N n k : Nat} {v : Value} {l : List Int} (h : MixZ wr B N v n k l) (hb : Below wr.heap.size wr wq) : MixZ wq B N v n k l := by
  obtain ⟨xs1, S, h1, h2, h3, h4, h5⟩ := h
  exact ⟨xs1, S, ownsRow_below h1 hb, cellK.owns_same h2 (fun b hm => hb.block b (cellK.owns_lt h2 b hm)), h3, h4, h5⟩

theorem MixZ.at {wr : World} {B N n k : Nat} {v : Value} {l : List Int} (h : MixZ wr B N v n k l) (hk : k < n) :
    ∃ g cap, v = .slice (some ⟨g, 0, none⟩) n cap ∧ B ≤ g ∧ g < wr.heap.size ∧ (∀ j, wr.frozen? ⟨g, j, none⟩ = false) ∧ wr.cell? ⟨g, k * 2, none⟩ = some (.slice none 0 0) := by
  obtain ⟨xs1, S, h1, h2, h3, h4, h5⟩ := h
  have hc := fun g hg => World.ownsRow.cells h1 (g := g) hg
  have l1 : xs1.length = k * 2 := by
    have := cellK.rds_len (cellK.owns_rds h2)
    rw [List.length_replicate] at this
    exact this
  obtain ⟨j, hj⟩ : ∃ j, n - k = j + 1 := ⟨n - k - 1, by omega⟩
  rw [hj] at hc
  rcases h1.2 with ⟨_, h0⟩ | ⟨g, cap, cur, hv, hB, hh, _⟩
  · omega
  · subst hv
    refine ⟨g, cap, rfl, hB, lt_of_block hh, fun j => by simp [World.frozen?, hh], ?_⟩
    have := hc g rfl (k * 2) (.slice none 0 0) (by rw [List.getElem?_append_right (by omega), l1, Nat.sub_self]; rfl)
    rw [Addr.add_lit, Nat.zero_add] at this
    exact this

theorem set_one {A C : List Value} {c0 c1 u0 : Value} {m : Nat} (hm : A.length = m) : (A ++ ([c0, c1] ++ C)).set m u0 = (A ++ [u0, c1]) ++ C := by
  subst hm
  rw [List.set_append_right _ _ (Nat.le_refl _), Nat.sub_self]
  simp

/-- One cell more gets its symbols. -/
theorem MixZ.step {w3 wr : World} {B N n k g cap m c : Nat} {a : Option Addr} {T : List Nat} {l : List Int} (h : MixZ w3 B N (.slice (some ⟨g, 0, none⟩) n cap) n k l) (hb : Below w3.heap.size w3 wr) (hk : k < n)
    (ho : intsK.own wr T [.slice a m c] l) (hT : ∀ b ∈ T, w3.heap.size ≤ b) (hN : N ≤ w3.heap.size) :
    MixZ (wr.setCell ⟨g, k * 2, none⟩ (.slice a m c)) B N (.slice (some ⟨g, 0, none⟩) n cap) n (k + 1) l := by
  obtain ⟨xs1, S, h1, h2, h3, h4, h5⟩ := h
  have hlt := cellK.owns_lt h2
  have hg3 : g < w3.heap.size := (World.ownsRow.lt h1 g rfl).2
  have hTS : ∀ b ∈ T, b ∉ S := fun b hb hb' => by have := hT b hb; have := hlt b hb'; omega
  have hg : g ∉ T := fun hm => by have := hT g hm; omega
  have h2 := cellK.owns_same h2 (fun b hm => hb.block b (hlt b hm))
  have h1 := ownsRow_below h1 hb
  have l1 : xs1.length = k * 2 := by
    have := cellK.rds_len (cellK.owns_rds h2)
    rw [List.length_replicate] at this
    exact this
  obtain ⟨j, hj⟩ : ∃ j, n - k = j + 1 := ⟨n - k - 1, by omega⟩
  have hj2 : n - (k + 1) = j := by omega
  rw [hj, List.replicate_succ, List.flatten_cons] at h1
  have hgS : g ∉ S := h5 g rfl
  have hne : ∀ b, b ≠ g → (wr.setCell ⟨g, k * 2, none⟩ (.slice a m c)).heap[b]? = wr.heap[b]? := fun b hb => Below.heap_setCell _ _ _ _ hb
  have o1 := (World.ownsRow.stored h1 (k * 2) (.slice a m c)).1
  rw [set_one l1] at o1
  refine ⟨xs1 ++ [.slice a m c, .bool false], S ++ T, by rw [hj2]; exact o1, ?_, ?_, fun b hb => ?_, fun g' hg' => ?_⟩
  · rw [List.replicate_succ']
    refine cellK.owns_same (cellK.owns_snoc (cell_of false ho) h2) (fun b hb => hne b (fun e => ?_))
    rcases List.mem_append.1 hb with h | h
    · exact hgS (e ▸ h)
    · exact hg (e ▸ h)
  · rw [List.nodup_append]
    exact ⟨h3, intsK.nodup ho, fun a ha b hb e => hTS b hb (e ▸ ha)⟩
  · rcases List.mem_append.1 hb with h | h
    · exact h4 b h
    · have := hT b h; omega
  · have e2 : g = g' := Option.some.inj hg'
    subst e2
    intro hm
    rcases List.mem_append.1 hm with h | h
    · exact hgS h
    · exact hg h

/-- What has been built is the call's own: its block and those behind it. -/
theorem Bld_own2 {α : Type} {k : Kn α} {T : TypeId} {B : Nat} {w : World} {S : List Nat} {v : Value} {l : List α} (h : k.Bld T B w S v l) : ∃ S', (k.row T).own w S' [v] l ∧ ∀ b ∈ S', v.ownBlock = some b ∨ b ∈ S := by
  obtain ⟨xs, h1, h2, h3, h4, h5⟩ := h
  have hx := k.rds_len (k.owns_rds h2)
  rcases h1.2 with ⟨rfl, h0⟩ | ⟨g, cap, cur, rfl, hB, hh, hn, hm, hcs, ht⟩
  · have hl : l = [] := List.length_eq_zero_iff.1 h0
    subst hl
    exact ⟨[], ⟨none, 0, 0, xs, S, rfl, rfl, ⟨Nat.le_refl _, Nat.zero_le _⟩, h2, List.nodup_nil, .inl ⟨rfl, fun _ => rfl, rfl⟩⟩, fun b hb => by cases hb⟩
  · refine ⟨g :: S, ⟨_, _, _, xs, S, rfl, rfl, ⟨hn, Nat.le_trans hn hm⟩, h2, List.nodup_cons.2 ⟨h5 g rfl, h3⟩, .inr ⟨g, 0, cur, rfl, hh, fun j hj => ?_, rfl⟩⟩, fun b hb => ?_⟩
    · have h6 : (cur.toList.take (l.length * k.K))[j]? = xs[j]? := by rw [ht]
      rw [List.getElem?_take_of_lt (by omega), Array.getElem?_toList] at h6
      rw [Nat.zero_add]
      exact h6
    · rcases List.mem_cons.1 hb with rfl | h
      · exact .inl rfl
      · exact .inr h

theorem MixZ.stop {wr : World} {B N n : Nat} {v : Value} {l : List Int} (h : MixZ wr B N v n n l) (hBN : B ≤ N) : ∃ S, cellsK.own wr S [v] (List.replicate n (l, false)) ∧ ∀ b ∈ S, v.ownBlock = some b ∨ N ≤ b := by
  obtain ⟨xs1, S, h1, h2, h3, h4, h5⟩ := h
  rw [Nat.sub_self, List.replicate_zero, List.flatten_nil, List.append_nil] at h1
  have hb : cellK.Bld 41 B wr S v (List.replicate n (l, false)) := ⟨xs1, by rw [List.length_replicate]; exact h1, h2, h3, fun b hb => by have := h4 b hb; omega, h5⟩
  obtain ⟨S', own', hS'⟩ := Bld_own2 hb
  exact ⟨S', own', fun b hb => (hS' b hb).imp id (h4 b)⟩

theorem cells_none (w : World) : cellsK.own w [] [.slice none 0 0] [] :=
  ⟨none, 0, 0, [], [], rfl, rfl, ⟨Nat.le_refl _, Nat.zero_le _⟩, ⟨rfl, rfl⟩, List.nodup_nil, .inl ⟨rfl, fun _ => rfl, rfl⟩⟩

theorem enc_blank : encI (symW 0) = List.replicate 11 0 := by decide +kernel

set_option maxHeartbeats 16000000 in
set_option maxRecDepth 100000 in
theorem implArrayNew_is : IArrayNew GenAt := by
  intro ga gb gr gd w hG
  have HG := Lib.hid hG
  obtain ⟨w1, hw1⟩ : ∃ u, (w.alloc (.cells #[.int .i64 ga, .int .i64 gb, .int .i64 gr, .int .i64 gd] 25)).alloc (.cells #[.slice none 0 0, .slice none 0 0, .slice none 0 0] 31) = u := ⟨_, rfl⟩
  have HB1 : Hid (Below w.heap.size w w1) := by subst hw1; exact ((Below.refl _ _).alloc (Nat.le_refl _) _).alloc (by simp) _
  have gg1 : w1.heap[w.heap.size]? = some (.cells #[.int .i64 ga, .int .i64 gb, .int .i64 gr, .int .i64 gd] 25) := by subst hw1; exact heap_alloc2_old _ _ _
  have r1 : w1.heap[w.heap.size + 1]? = some (.cells #[.slice none 0 0, .slice none 0 0, .slice none 0 0] 31) := by subst hw1; exact heap_alloc2_new _ _ _
  obtain ⟨x0, x1, x2, x3⟩ := cells4 gg1
  have HS1 : Hid (w.heap.size + 1 < w1.heap.size) := lt_of_block r1
  clear hG
  by_cases hg : GeoOk ga gb gr gd
  case neg =>
    have KG := Lib.hid (decide_eq_false hg)
    have hN : bankN ga gb gr gd = 0 := if_neg hg
    have HE : Hid (newA ga gb gr gd = ([], [], [])) := by
      have hL : lineN ga gb gr gd = 0 := by unfold lineN; rw [hN]; simp
      show newA _ _ _ _ = _
      unfold newA
      rw [hL, hN, Int.zero_mul]
      rfl
    clear hg hN
    go_enter Tryd.func23, Tryd.ntmps23
    go_wp2_with fail
    refine (implGeoOk_is ga gb gr gd false KG.out _).mono ?_
    rintro e w2 ⟨rfl, hb2⟩
    have HB2 : Hid (Below w.heap.size w w2) := HB1.out.trans (hb2.mono HB1.out.size)
    have r2 := keep_block hb2 r1 (lt_of_block r1)
    clear hb2 x0 x1 x2 x3 gg1 r1
    obtain ⟨y0, y1, y2⟩ := cells3 r2
    have f0 := thawed r2 0
    have f1 := thawed r2 1
    have f2 := thawed r2 2
    go_wp2_with fail
    (try simp only [Exit.inBlock, Exit.then])
    have o5 := set_cells (set_cells (set_cells r2 0 (.slice none 0 0)) 1 (.slice none 0 0)) 2 (.slice none 0 0)
    obtain ⟨t0, t1, t2⟩ := cells3 o5
    refine bodyPost_ret (v := .agg #[.slice none 0 0, .slice none 0 0, .slice none 0 0]) ?_ rfl ⟨[.slice none 0 0, .slice none 0 0, .slice none 0 0], [], rfl, ?_, (fun b hb => by cases hb), ?_⟩
    · simp [results, Tryd.results23, go_sem, t0, t1, t2]
    · rw [HE.out]
      exact arr_of (S0 := []) (S1 := []) (S2 := []) (cells_none _) (ints_none _) (ints_none _) (by simp)
    · exact ((HB2.out.setCell (by simp) _).setCell (by simp) _).setCell (by simp) _
  have KG := Lib.hid (decide_eq_true hg)
  have hrr := rowsN_range hg
  obtain ⟨L, hL⟩ : ∃ L : Nat, lineN ga gb gr gd = L := ⟨(lineN ga gb gr gd).toNat, by have := (lineN_range ga gb gr gd).1; omega⟩
  have hL2 : L ≤ 1024 := by have := (lineN_range ga gb gr gd).2; omega
  obtain ⟨M, hM⟩ : ∃ M : Nat, bankN ga gb gr gd * gr = M := ⟨(bankN ga gb gr gd * gr).toNat, by omega⟩
  have hM2 : M ≤ 128 := by omega
  have hMr : 0 ≤ (M : Int) ∧ (M : Int) ≤ 128 := by omega
  have HE : Hid (newA ga gb gr gd = (List.replicate L (List.replicate 11 0, false), List.replicate M 0, List.replicate M 0)) := by
    show newA _ _ _ _ = _
    unfold newA
    rw [hL, hM]
    rfl
  have HL := Lib.hid hL
  have HM := Lib.hid hM
  obtain ⟨i0, hi, hz0, hz1, hz2⟩ := info_parts infoCell
  obtain ⟨i1, hj, hj0, hj1, hj2⟩ := info_parts infoI
  clear hg hrr hL hM
  go_enter Tryd.func23, Tryd.ntmps23
  go_wp2_with fail
  refine (implGeoOk_is ga gb gr gd true KG.out _).mono ?_
  rintro e w2 ⟨rfl, hb2⟩
  have HB2 : Hid (Below w.heap.size w w2) := HB1.out.trans (hb2.mono HB1.out.size)
  have r2 := keep_block hb2 r1 (lt_of_block r1)
  have gg2 := keep_block hb2 gg1 (lt_of_block gg1)
  have HS2 : Hid (w.heap.size + 1 < w2.heap.size) := by show _ < _; have := HS1.out; have := hb2.size; omega
  clear hb2 x0 x1 x2 x3 gg1 r1 HB1 HS1
  go_wp2_with fail
  refine wp_region_flowV (fun k => match k with | 0 => some (.agg #[.int .i64 ga, .int .i64 gb, .int .i64 gr, .int .i64 gd]) | 1 => some (.int .i64 (L : Int)) | 3 => some (.agg #[.int .i64 ga, .int .i64 gb, .int .i64 gr, .int .i64 gd]) | 4 => some (.int .i64 (M : Int)) | 6 => some (.agg #[.int .i64 ga, .int .i64 gb, .int .i64 gr, .int .i64 gd]) | 7 => some (.int .i64 (M : Int)) | _ => none) (fun listed x u => FactW 2 9 (fun q u => u.ownsRow w2.heap.size 41 2 q L (madeCells #[.slice none 0 0, .bool false] (L * 2)).toList) listed x u ∧ FactW 5 9 (fun q u => u.ownsRow w2.heap.size 3 1 q M (madeCells #[.int .i64 0] M).toList) listed x u ∧ FactW 8 9 (fun q u => u.ownsRow w2.heap.size 3 1 q M (madeCells #[.int .i64 0] M).toList) listed x u ∧ FactW 9 11 (fun q u => NewF w2.heap.size L M q u) listed x u ∧ Diff58 listed x ∧ Aft 9 2 listed ∧ Aft 9 5 listed ∧ Aft 9 8 listed ∧ Aft 11 9 listed ∧ MadeG 10 11 w2.heap.size 31 #[.slice none 0 0, .slice none 0 0, .slice none 0 0] (fun g u => NewG w2.heap.size L M g u) listed x u) (fun _ => undef) (by kernel_rfl) (by kernel_rfl) ?hxR ?hSR ?hsR ?heR
  case hxR => simp only [putsX, Act.put, List.setIfInBounds_toArray, List.set_cons_zero, List.set_cons_succ]
  case hSR => exact ⟨FactW.zero _ _ _ _ _ _, FactW.zero _ _ _ _ _ _, FactW.zero _ _ _ _ _ _, FactW.zero _ _ _ _ _ _, Diff58.zero _ _, Aft.zero _ _ _, Aft.zero _ _ _, Aft.zero _ _ _, Aft.zero _ _ _, MadeG.zero _ _ _ _ _ _ _ _ _⟩
  case hsR =>
    simp only [flowSteps]
    refine ⟨?sR_0, ?sR_1, ?sR_2, ?sR_3, ?sR_4, ?sR_5, ?sR_6, ?sR_7, ?sR_8, ?sR_9, ?sR_10, ?sR_11, trivial⟩
    case sR_0 =>
      intro listed bb u hsz hn hwt hinv
      obtain ⟨x, rfl, hC, hU, h2, h5, h8, h9, h58, hA2, hA5, hA8, hAB, hM⟩ := hinv
      simp only [putsX, Act.put, List.setIfInBounds_toArray, List.set_cons_zero, List.set_cons_succ]
      obtain ⟨d0, d1, d2, d3⟩ := cells4 (keep_block hC gg2 (lt_of_block gg2))
      go_wp2_with fail
      refine stepQ_normal ⟨trivial, upd x 0 (.agg #[.int .i64 ga, .int .i64 gb, .int .i64 gr, .int .i64 gd]), ?_, hC, hU.step (fun _ h => Option.some.inj h), h2.keep (by decide) (by decide) _ id, h5.keep (by decide) (by decide) _ id, h8.keep (by decide) (by decide) _ id, h9.keep (by decide) (by decide) _ id, h58.keep (by decide) (by decide) _, hA2.keep (by decide), hA5.keep (by decide), hA8.keep (by decide), hAB.keep (by decide), hM.keep (by decide) (by decide) _ (fun g h => h.below (Below.refl _ _)) (Below.refl _ _)⟩
      simp only [upd]
      rfl
    case sR_1 =>
      intro listed bb u hsz hn hwt hinv
      obtain ⟨x, rfl, hC, hU, h2, h5, h8, h9, h58, hA2, hA5, hA8, hAB, hM⟩ := hinv
      have f0 := Lib.hid (hU 0 _ rfl (hwt 0 (by kernel_rfl)))
      simp only [putsX, Act.put, List.setIfInBounds_toArray, List.set_cons_zero, List.set_cons_succ]
      have hcall : Calls Tryd.prog 51 #[x 0] u (Gives (.int .i64 (L : Int)) u) := by rw [f0.out]; exact implLine_is ga gb gr gd (L : Int) HL.out u
      go_wp2_with fail
      refine hcall.mono ?_
      rintro e' u' ⟨rfl, hb⟩
      go_wp2_with fail
      refine stepQ_normal ⟨trivial, upd x 1 (.int .i64 (L : Int)), ?_, hC.trans (hb.mono hC.size), hU.step (fun _ h => Option.some.inj h), h2.keep (by decide) (by decide) _ (fun h => ownsRow_below h (hb)), h5.keep (by decide) (by decide) _ (fun h => ownsRow_below h (hb)), h8.keep (by decide) (by decide) _ (fun h => ownsRow_below h (hb)), h9.keep (by decide) (by decide) _ (fun h => h.below (hb)), h58.keep (by decide) (by decide) _, hA2.keep (by decide), hA5.keep (by decide), hA8.keep (by decide), hAB.keep (by decide), hM.keep (by decide) (by decide) _ (fun g h => h.below (hb)) (hb)⟩
      simp only [upd]
      rfl
    case sR_2 =>
      intro listed bb u hsz hn hwt hinv
      obtain ⟨x, rfl, hC, hU, h2, h5, h8, h9, h58, hA2, hA5, hA8, hAB, hM⟩ := hinv
      have f1 := Lib.hid (hU 1 _ rfl (hwt 1 (by kernel_rfl)))
      simp only [putsX, Act.put, List.setIfInBounds_toArray, List.set_cons_zero, List.set_cons_succ]
      rw [f1.out]
      go_wp2_with (at_make; refine wpList_make_full _ rfl _ _ 28 rfl w2.heap.size 41 i0 (.agg #[.slice none 0 0, .bool false]) 2 Tryd.underlying28 hi hz0 hz1 _ _ _ _ L rfl rfl rfl rfl (by rw [hz2]; omega) (by unfold maxLen; omega) hC.size ?_)
      intro u' hown hgr
      have hb : Below u.heap.size u u' := (Below.refl _ _).grown hgr (Nat.le_refl _) (fun k hk => by cases hk)
      clear hgr
      go_wp2_with fail
      refine stepQ_normal ⟨trivial, upd x 2 (.slice (some ⟨u.heap.size, 0, none⟩) L L), ?_, hC.trans (hb.mono hC.size), hU.step (fun _ h => by cases h), FactW.new hown, h5.keep (by decide) (by decide) _ (fun h => ownsRow_below h (hb)), h8.keep (by decide) (by decide) _ (fun h => ownsRow_below h (hb)), h9.keep (by decide) (by decide) _ (fun h => h.below (hb)), h58.keep (by decide) (by decide) _, hA2.keep (by decide), hA5.keep (by decide), hA8.keep (by decide), hAB.keep (by decide), hM.keep (by decide) (by decide) _ (fun g h => h.below (hb)) (hb)⟩
      simp only [upd]
      simp only [f1.out]
      (try rfl)
    case sR_3 =>
      intro listed bb u hsz hn hwt hinv
      obtain ⟨x, rfl, hC, hU, h2, h5, h8, h9, h58, hA2, hA5, hA8, hAB, hM⟩ := hinv
      simp only [putsX, Act.put, List.setIfInBounds_toArray, List.set_cons_zero, List.set_cons_succ]
      obtain ⟨d0, d1, d2, d3⟩ := cells4 (keep_block hC gg2 (lt_of_block gg2))
      go_wp2_with fail
      refine stepQ_normal ⟨trivial, upd x 3 (.agg #[.int .i64 ga, .int .i64 gb, .int .i64 gr, .int .i64 gd]), ?_, hC, hU.step (fun _ h => Option.some.inj h), h2.keep (by decide) (by decide) _ id, h5.keep (by decide) (by decide) _ id, h8.keep (by decide) (by decide) _ id, h9.keep (by decide) (by decide) _ id, h58.keep (by decide) (by decide) _, hA2.keep (by decide), hA5.keep (by decide), hA8.keep (by decide), hAB.keep (by decide), hM.keep (by decide) (by decide) _ (fun g h => h.below (Below.refl _ _)) (Below.refl _ _)⟩
      simp only [upd]
      rfl
    case sR_4 =>
      intro listed bb u hsz hn hwt hinv
      obtain ⟨x, rfl, hC, hU, h2, h5, h8, h9, h58, hA2, hA5, hA8, hAB, hM⟩ := hinv
      have f3 := Lib.hid (hU 3 _ rfl (hwt 3 (by kernel_rfl)))
      simp only [putsX, Act.put, List.setIfInBounds_toArray, List.set_cons_zero, List.set_cons_succ]
      have hcall : Calls Tryd.prog 52 #[x 3] u (Gives (.int .i64 (M : Int)) u) := by rw [f3.out]; exact implRowCount_is ga gb gr gd (M : Int) HM.out hMr u
      go_wp2_with fail
      refine hcall.mono ?_
      rintro e' u' ⟨rfl, hb⟩
      go_wp2_with fail
      refine stepQ_normal ⟨trivial, upd x 4 (.int .i64 (M : Int)), ?_, hC.trans (hb.mono hC.size), hU.step (fun _ h => Option.some.inj h), h2.keep (by decide) (by decide) _ (fun h => ownsRow_below h (hb)), h5.keep (by decide) (by decide) _ (fun h => ownsRow_below h (hb)), h8.keep (by decide) (by decide) _ (fun h => ownsRow_below h (hb)), h9.keep (by decide) (by decide) _ (fun h => h.below (hb)), h58.keep (by decide) (by decide) _, hA2.keep (by decide), hA5.keep (by decide), hA8.keep (by decide), hAB.keep (by decide), hM.keep (by decide) (by decide) _ (fun g h => h.below (hb)) (hb)⟩
      simp only [upd]
      rfl
    case sR_5 =>
      intro listed bb u hsz hn hwt hinv
      obtain ⟨x, rfl, hC, hU, h2, h5, h8, h9, h58, hA2, hA5, hA8, hAB, hM⟩ := hinv
      have f4 := Lib.hid (hU 4 _ rfl (hwt 4 (by kernel_rfl)))
      simp only [putsX, Act.put, List.setIfInBounds_toArray, List.set_cons_zero, List.set_cons_succ]
      rw [f4.out]
      go_wp2_with (at_make; refine wpList_make_full _ rfl _ _ 29 rfl w2.heap.size 3 i1 (.int .i64 0) 1 Tryd.underlying29 hj hj0 hj1 _ _ _ _ M rfl rfl rfl rfl (by rw [hj2]; omega) (by unfold maxLen; omega) hC.size ?_)
      intro u' hown hgr
      have hb : Below u.heap.size u u' := (Below.refl _ _).grown hgr (Nat.le_refl _) (fun k hk => by cases hk)
      have N9 : listed.getD 9 false = false := hA5.no hn
      have hdf : listed.getD 8 false = true → ∀ g, (Value.slice (some ⟨u.heap.size, 0, none⟩) M M).ownBlock = some g → (x 8).ownBlock ≠ some g := fun hl g hg e => by
        have h1 := (World.ownsRow.lt (h8 hl N9) g e).2
        have h2 : u.heap.size = g := Option.some.inj hg
        omega
      clear hgr
      go_wp2_with fail
      refine stepQ_normal ⟨trivial, upd x 5 (.slice (some ⟨u.heap.size, 0, none⟩) M M), ?_, hC.trans (hb.mono hC.size), hU.step (fun _ h => by cases h), h2.keep (by decide) (by decide) _ (fun h => ownsRow_below h (hb)), FactW.new hown, h8.keep (by decide) (by decide) _ (fun h => ownsRow_below h (hb)), h9.keep (by decide) (by decide) _ (fun h => h.below (hb)), Diff58.new5 hdf, hA2.keep (by decide), hA5.keep (by decide), hA8.keep (by decide), hAB.keep (by decide), hM.keep (by decide) (by decide) _ (fun g h => h.below (hb)) (hb)⟩
      simp only [upd]
      simp only [f4.out]
      (try rfl)
    case sR_6 =>
      intro listed bb u hsz hn hwt hinv
      obtain ⟨x, rfl, hC, hU, h2, h5, h8, h9, h58, hA2, hA5, hA8, hAB, hM⟩ := hinv
      simp only [putsX, Act.put, List.setIfInBounds_toArray, List.set_cons_zero, List.set_cons_succ]
      obtain ⟨d0, d1, d2, d3⟩ := cells4 (keep_block hC gg2 (lt_of_block gg2))
      go_wp2_with fail
      refine stepQ_normal ⟨trivial, upd x 6 (.agg #[.int .i64 ga, .int .i64 gb, .int .i64 gr, .int .i64 gd]), ?_, hC, hU.step (fun _ h => Option.some.inj h), h2.keep (by decide) (by decide) _ id, h5.keep (by decide) (by decide) _ id, h8.keep (by decide) (by decide) _ id, h9.keep (by decide) (by decide) _ id, h58.keep (by decide) (by decide) _, hA2.keep (by decide), hA5.keep (by decide), hA8.keep (by decide), hAB.keep (by decide), hM.keep (by decide) (by decide) _ (fun g h => h.below (Below.refl _ _)) (Below.refl _ _)⟩
      simp only [upd]
      rfl
    case sR_7 =>
      intro listed bb u hsz hn hwt hinv
      obtain ⟨x, rfl, hC, hU, h2, h5, h8, h9, h58, hA2, hA5, hA8, hAB, hM⟩ := hinv
      have f6 := Lib.hid (hU 6 _ rfl (hwt 6 (by kernel_rfl)))
      simp only [putsX, Act.put, List.setIfInBounds_toArray, List.set_cons_zero, List.set_cons_succ]
      have hcall : Calls Tryd.prog 52 #[x 6] u (Gives (.int .i64 (M : Int)) u) := by rw [f6.out]; exact implRowCount_is ga gb gr gd (M : Int) HM.out hMr u
      go_wp2_with fail
      refine hcall.mono ?_
      rintro e' u' ⟨rfl, hb⟩
      go_wp2_with fail
      refine stepQ_normal ⟨trivial, upd x 7 (.int .i64 (M : Int)), ?_, hC.trans (hb.mono hC.size), hU.step (fun _ h => Option.some.inj h), h2.keep (by decide) (by decide) _ (fun h => ownsRow_below h (hb)), h5.keep (by decide) (by decide) _ (fun h => ownsRow_below h (hb)), h8.keep (by decide) (by decide) _ (fun h => ownsRow_below h (hb)), h9.keep (by decide) (by decide) _ (fun h => h.below (hb)), h58.keep (by decide) (by decide) _, hA2.keep (by decide), hA5.keep (by decide), hA8.keep (by decide), hAB.keep (by decide), hM.keep (by decide) (by decide) _ (fun g h => h.below (hb)) (hb)⟩
      simp only [upd]
      rfl
    case sR_8 =>
      intro listed bb u hsz hn hwt hinv
      obtain ⟨x, rfl, hC, hU, h2, h5, h8, h9, h58, hA2, hA5, hA8, hAB, hM⟩ := hinv
      have f7 := Lib.hid (hU 7 _ rfl (hwt 7 (by kernel_rfl)))
      simp only [putsX, Act.put, List.setIfInBounds_toArray, List.set_cons_zero, List.set_cons_succ]
      rw [f7.out]
      go_wp2_with (at_make; refine wpList_make_full _ rfl _ _ 29 rfl w2.heap.size 3 i1 (.int .i64 0) 1 Tryd.underlying29 hj hj0 hj1 _ _ _ _ M rfl rfl rfl rfl (by rw [hj2]; omega) (by unfold maxLen; omega) hC.size ?_)
      intro u' hown hgr
      have hb : Below u.heap.size u u' := (Below.refl _ _).grown hgr (Nat.le_refl _) (fun k hk => by cases hk)
      have N9 : listed.getD 9 false = false := hA8.no hn
      have hdf : listed.getD 5 false = true → ∀ g, (Value.slice (some ⟨u.heap.size, 0, none⟩) M M).ownBlock = some g → (x 5).ownBlock ≠ some g := fun hl g hg e => by
        have h1 := (World.ownsRow.lt (h5 hl N9) g e).2
        have h2 : u.heap.size = g := Option.some.inj hg
        omega
      clear hgr
      go_wp2_with fail
      refine stepQ_normal ⟨trivial, upd x 8 (.slice (some ⟨u.heap.size, 0, none⟩) M M), ?_, hC.trans (hb.mono hC.size), hU.step (fun _ h => by cases h), h2.keep (by decide) (by decide) _ (fun h => ownsRow_below h (hb)), h5.keep (by decide) (by decide) _ (fun h => ownsRow_below h (hb)), FactW.new hown, h9.keep (by decide) (by decide) _ (fun h => h.below (hb)), Diff58.new8 hdf, hA2.keep (by decide), hA5.keep (by decide), hA8.keep (by decide), hAB.keep (by decide), hM.keep (by decide) (by decide) _ (fun g h => h.below (hb)) (hb)⟩
      simp only [upd]
      simp only [f7.out]
      (try rfl)
    case sR_9 =>
      intro listed bb u hsz hn hwt hinv
      obtain ⟨x, rfl, hC, hU, h2, h5, h8, h9, h58, hA2, hA5, hA8, hAB, hM⟩ := hinv
      simp only [putsX, Act.put, List.setIfInBounds_toArray, List.set_cons_zero, List.set_cons_succ]
      have L2 := hwt 2 (by kernel_rfl)
      have L5 := hwt 5 (by kernel_rfl)
      have L8 := hwt 8 (by kernel_rfl)
      have o2 := h2 L2 hn
      have o5 := h5 L5 hn
      have o8 := h8 L8 hn
      have hd := h58 L5 L8
      obtain ⟨aa, ca, e2⟩ := ownsRow_shape o2
      obtain ⟨ab, cb, e5⟩ := ownsRow_shape o5
      obtain ⟨ac, cc, e8⟩ := ownsRow_shape o8
      rw [e2] at o2
      rw [e5] at o5 hd
      rw [e8] at o8 hd
      have E2 := Lib.hid e2
      have E5 := Lib.hid e5
      have E8 := Lib.hid e8
      rw [E2.out, E5.out, E8.out]
      clear e2 e5 e8
      go_wp2_with fail
      refine stepQ_normal ⟨trivial, upd x 9 (.agg #[.slice aa L ca, .slice ab M cb, .slice ac M cc]), ?_, hC, hU.step (fun _ h => by cases h), FactW.call (by rw [hsz]; decide), FactW.call (by rw [hsz]; decide), FactW.call (by rw [hsz]; decide), FactW.new ⟨aa, ca, ab, cb, ac, cc, rfl, o2, o5, o8, hd⟩, h58.keep (by decide) (by decide) _, Aft.new L2, Aft.new L5, Aft.new L8, hAB.keep (by decide), hM.keep (by decide) (by decide) _ (fun g h => h.below (Below.refl _ _)) (Below.refl _ _)⟩
      simp only [upd]
      simp only [E2.out, E5.out, E8.out]
      (try rfl)
    case sR_10 =>
      intro listed bb u hsz hn hwt hinv
      obtain ⟨x, rfl, hC, hU, h2, h5, h8, h9, h58, hA2, hA5, hA8, hAB, hM⟩ := hinv
      simp only [putsX, Act.put, List.setIfInBounds_toArray, List.set_cons_zero, List.set_cons_succ]
      go_wp2_with fail
      refine stepQ_normal ⟨trivial, upd x 10 (.pointer (some ⟨u.heap.size, 0, none⟩)), ?_, hC.alloc hC.size _, hU.step (fun _ h => by cases h), h2.keep (by decide) (by decide) _ (fun h => ownsRow_below h (below_allocI _)), h5.keep (by decide) (by decide) _ (fun h => ownsRow_below h (below_allocI _)), h8.keep (by decide) (by decide) _ (fun h => ownsRow_below h (below_allocI _)), h9.keep (by decide) (by decide) _ (fun h => h.below (below_allocI _)), h58.keep (by decide) (by decide) _, hA2.keep (by decide), hA5.keep (by decide), hA8.keep (by decide), hAB.keep (by decide), hM.new (by decide) hn hC.size⟩
      simp only [upd]
      rfl
    case sR_11 =>
      intro listed bb u hsz hn hwt hinv
      obtain ⟨x, rfl, hC, hU, h2, h5, h8, h9, h58, hA2, hA5, hA8, hAB, hM⟩ := hinv
      simp only [putsX, Act.put, List.setIfInBounds_toArray, List.set_cons_zero, List.set_cons_succ]
      have L9 := hwt 9 (by kernel_rfl)
      have L10 := hwt 10 (by kernel_rfl)
      obtain ⟨aa, ca, ab, cb, ac, cc, fp, o2, o5, o8, hd⟩ := h9 L9 hn
      obtain ⟨g, fg, hg0, hgz⟩ := hM.there L10 hn
      have FP := Lib.hid fp
      have FG := Lib.hid fg
      rw [FP.out, FG.out]
      obtain ⟨y0, y1, y2⟩ := cells3 hgz
      have k0 := thawed hgz 0
      have k1 := thawed hgz 1
      have k2 := thawed hgz 2
      have n2 := ownsRow_ne o2 hgz (by decide)
      have n5 := ownsRow_ne o5 hgz (by decide)
      have n8 := ownsRow_ne o8 hgz (by decide)
      have hsame : ∀ b, b ≠ g → (((u.setCell ⟨g, 0, none⟩ (.slice aa L ca)).setCell ⟨g, 1, none⟩ (.slice ab M cb)).setCell ⟨g, 2, none⟩ (.slice ac M cc)).heap[b]? = u.heap[b]? := fun b hb => (Below.heap_setCell _ _ _ _ hb).trans ((Below.heap_setCell _ _ _ _ hb).trans (Below.heap_setCell _ _ _ _ hb))
      have HFIN : Hid (NewG w2.heap.size L M g (((u.setCell ⟨g, 0, none⟩ (.slice aa L ca)).setCell ⟨g, 1, none⟩ (.slice ab M cb)).setCell ⟨g, 2, none⟩ (.slice ac M cc))) := ⟨aa, ca, ab, cb, ac, cc, set_cells (set_cells (set_cells hgz 0 _) 1 _) 2 _, ownsRow_same o2 (fun b hb => hsame b (fun e => n2 (by rw [hb, e]))), ownsRow_same o5 (fun b hb => hsame b (fun e => n5 (by rw [hb, e]))), ownsRow_same o8 (fun b hb => hsame b (fun e => n8 (by rw [hb, e]))), hd⟩
      have HC9 : Hid (Below w2.heap.size w2 (((u.setCell ⟨g, 0, none⟩ (.slice aa L ca)).setCell ⟨g, 1, none⟩ (.slice ab M cb)).setCell ⟨g, 2, none⟩ (.slice ac M cc))) := ((hC.setCell hg0 _).setCell hg0 _).setCell hg0 _
      clear fp fg o2 o5 o8 hd hgz n2 n5 n8 hsame
      go_wp2_with fail
      refine stepQ_normal ⟨trivial, upd x 11 undef, ?_, HC9.out, hU.step (fun _ h => by cases h), FactW.gone L9, FactW.gone L9, FactW.gone L9, FactW.call (by rw [hsz]; decide), h58.keep (by decide) (by decide) _, hA2.keep (by decide), hA5.keep (by decide), hA8.keep (by decide), Aft.new L9, MadeG.fill (by decide) L10 (by rw [hsz]; decide) FG.out hg0 HFIN.out⟩
      simp only [upd]
      simp only [FP.out, FG.out]
      (try rfl)
  case heR =>
    intro listed q u hall hC hU hS
    obtain ⟨g, eg, hg0, _, hfin⟩ := hS.2.2.2.2.2.2.2.2.2.2 (hall 10 (by decide))
    obtain ⟨aa, ca, ab, cb, ac, cc, hgc, o2, o5, o8, hd⟩ := hfin (hall 11 (by decide))
    simp only [putsX, Act.put, List.setIfInBounds_toArray, List.set_cons_zero, List.set_cons_succ, Nat.zero_add, Nat.reduceAdd]
    have EG := Lib.hid eg
    rw [EG.out]
    clear hU hS hall eg hfin
    generalize q 0 = _q0, q 1 = _q1, q 2 = _q2, q 3 = _q3, q 4 = _q4, q 5 = _q5, q 6 = _q6, q 7 = _q7, q 8 = _q8, q 9 = _q9
    have HBU : Hid (Below w.heap.size w u) := HB2.out.trans (hC.mono HB2.out.size)
    have ru := keep_block hC r2 (lt_of_block r2)
    have HSU : Hid (w2.heap.size ≤ u.heap.size) := hC.size
    have O2 := Lib.hid o2
    have O5 := Lib.hid o5
    have O8 := Lib.hid o8
    have HD := Lib.hid hd
    have HG0 : Hid (w2.heap.size ≤ g) := hg0
    clear hC o2 o5 o8 hd hg0 r2 gg2 HB2
    go_wp2_with fail
    refine (implEncodeLine_is 0 11 (by omega) (List.replicate 11 0) enc_blank (by simp) _ (HG.out.below HBU.out)).mono ?_
    rintro e w5 ⟨ba, bc, rfl, hbc, ownJ, hb5⟩
    obtain ⟨Tb, hTb, hTs⟩ := ints_of_own ownJ hbc (by unfold maxLen; decide)
    have HTB := Lib.hid hTb
    have HTS : Hid (∀ b ∈ Tb, u.heap.size ≤ b) := fun b hb => by
      rcases hTs with ⟨h0, _⟩ | ⟨_, g', off, _, rfl, hB⟩
      · simp at h0
      · rw [List.mem_singleton.1 hb]; exact hB
    have HB5 : Hid (Below w.heap.size w w5) := HBU.out.trans (hb5.mono HBU.out.size)
    have g5 := keep_block hb5 hgc (lt_of_block hgc)
    have r5 := keep_block hb5 ru (lt_of_block ru)
    have HN5 : Hid (u.heap.size ≤ w5.heap.size) := hb5.size
    have P2 := ownsRow_below O2.out hb5
    have P5 := Lib.hid (ownsRow_below O5.out hb5)
    have P8 := Lib.hid (ownsRow_below O8.out hb5)
    have HMZ : Hid (MixZ w5 w2.heap.size w5.heap.size (.slice aa L ca) L 0 (List.replicate 11 0)) := MixZ.start P2
    have HP2 := Lib.hid P2
    have HOL : Hid (∀ b, (Value.slice aa L ca).ownBlock = some b → w2.heap.size ≤ b ∧ b < u.heap.size) := fun b hb => World.ownsRow.lt O2.out b hb
    have HNV : Hid (g ∉ (Value.slice aa L ca).ownBlock.toList) := fun hm => ownsRow_ne O2.out hgc (by decide) (Option.mem_toList.1 hm)
    have HNR : Hid (w.heap.size + 1 ∉ (Value.slice aa L ca).ownBlock.toList) := fun hm => by have := (HOL.out _ (Option.mem_toList.1 hm)).1; have := HS2.out; omega
    clear ownJ hbc hTb hTs hb5 hgc ru P2 O2 O5 O8 HBU
    obtain ⟨y0, y1, y2⟩ := cells3 g5
    go_wp2_with fail
    clear y0 y1 y2
    go_loopw [24] (fun i wr => ∃ k : Nat, k ≤ L ∧ i = .int .i64 k ∧ MixZ wr w2.heap.size w5.heap.size (.slice aa L ca) L k (List.replicate 11 0) ∧ OnlyS (Value.slice aa L ca).ownBlock.toList w5 wr) (fun i _ => L + 1 - (intOf i).toNat)
    case atStart => exact ⟨0, Nat.zero_le _, rfl, HMZ.out, OnlyS.refl _ _⟩
    case round =>
      obtain ⟨k, hk, rfl, hmix, hon⟩ := hrel
      have HMX := Lib.hid hmix
      have HON := Lib.hid hon
      have gr' := (hon.block g (lt_of_block g5) HNV.out).trans g5
      have rr := (hon.block _ (lt_of_block r5) HNR.out).trans r5
      have HBW : Hid (Below w.heap.size w wr) := HB5.out.trans (hon.below (fun b hb => by have := (HOL.out b (Option.mem_toList.1 hb)).1; have := HS2.out; omega) HB5.out.size)
      clear hmix hon HMZ
      by_cases hlt : k < L
      case neg =>
        obtain rfl : k = L := by omega
        have hI : decide ((k : Int) < (k : Int)) = false := decide_eq_false (by omega)
        obtain ⟨S0, own0, hS0⟩ := HMX.out.stop (Nat.le_trans HSU.out HN5.out)
        have hlt5 : ∀ {v : Value} {xs : List Value}, w5.ownsRow w2.heap.size 3 1 v M xs → wr.ownsRow w2.heap.size 3 1 v M xs := fun h => ownsRow_same h (fun b hb => HON.out.block b (World.ownsRow.lt h b hb).2 (fun hm => ownsRow_apart h HP2.out (by decide) b hb (Option.mem_toList.1 hm)))
        have p5 := hlt5 P5.out
        have p8 := hlt5 P8.out
        have hb1 := made_ints p5
        have hb2 := made_ints p8
        obtain ⟨S1, own1, hS1⟩ := Bld_own2 hb1
        obtain ⟨S2, own2, hS2⟩ := Bld_own2 hb2
        have q1 : ∀ b ∈ S1, (Value.slice ab M cb).ownBlock = some b := fun b hb => by rcases hS1 b hb with h | h; exact h; cases h
        have q2 : ∀ b ∈ S2, (Value.slice ac M cc).ownBlock = some b := fun b hb => by rcases hS2 b hb with h | h; exact h; cases h
        have l5 := fun b hb => World.ownsRow.lt P5.out b hb
        have l8 := fun b hb => World.ownsRow.lt P8.out b hb
        have hnd : (S0 ++ (S1 ++ S2)).Nodup := nodup_of (cellsK.nodup own0) (intsK.nodup own1) (intsK.nodup own2)
          (fun b hb hb' => by
            rcases hS0 b hb' with h | h
            · exact ownsRow_apart HP2.out P5.out (by decide) b h (q1 b hb)
            · have := (l5 b (q1 b hb)).2; omega)
          (fun b hb hb' => by
            rcases hS0 b hb' with h | h
            · exact ownsRow_apart HP2.out P8.out (by decide) b h (q2 b hb)
            · have := (l8 b (q2 b hb)).2; omega)
          (fun b hb hb' => HD.out b (q1 b hb') (q2 b hb))
        have HOA : Hid (arrK.own wr (S0 ++ (S1 ++ S2)) [.slice aa k ca, .slice ab M cb, .slice ac M cc] (List.replicate k (List.replicate 11 0, false), List.replicate M 0, List.replicate M 0)) := arr_of own0 own1 own2 hnd
        have HGE : Hid (∀ b ∈ S0 ++ (S1 ++ S2), w2.heap.size ≤ b) := fun b hb => by
          rcases List.mem_append.1 hb with h | h
          · rcases hS0 b h with h | h
            · exact (HOL.out b h).1
            · have := HN5.out; have := HSU.out; omega
          · rcases List.mem_append.1 h with h | h
            · exact (l5 b (q1 b h)).1
            · exact (l8 b (q2 b h)).1
        generalize S0 ++ (S1 ++ S2) = T at HOA HGE
        have HNT : Hid (∀ b ∈ T, b ≠ w.heap.size + 1) := fun b hb => by have := HGE.out b hb; have := HS2.out; omega
        obtain ⟨y0, y1, y2⟩ := cells3 gr'
        obtain ⟨t0, t1, t2⟩ := cells3 rr
        have f0 := thawed rr 0
        have f1 := thawed rr 1
        have f2 := thawed rr 2
        have o5 := set_cells (set_cells (set_cells rr 0 (.slice aa k ca)) 1 (.slice ab M cb)) 2 (.slice ac M cc)
        obtain ⟨z0, z1, z2⟩ := cells3 o5
        clear own0 own1 own2 hS0 hS1 hS2 q1 q2 l5 l8 hnd hb1 hb2 p5 p8 hlt5
        go_wp2_with fail
        (try simp only [Exit.inBlock, Exit.then])
        refine bodyPost_ret (v := .agg #[.slice aa k ca, .slice ab M cb, .slice ac M cc]) ?_ rfl ⟨_, T, rfl, ?_, fun b hb => ?_, ?_⟩
        · simp [results, Tryd.results23, go_sem, z0, z1, z2]
        · rw [HE.out]
          exact arrK.ownSet (arrK.ownSet (arrK.ownSet HOA.out (fun b hb => HNT.out b hb) _) (fun b hb => HNT.out b hb) _) (fun b hb => HNT.out b hb) _
        · have := HGE.out b hb; have := HS2.out; omega
        · exact ((HBW.out.setCell (by simp) _).setCell (by simp) _).setCell (by simp) _
      have hI : decide ((k : Int) < (L : Int)) = true := decide_eq_true (by omega)
      have wk : IntKind.i64.wrap ((k : Int) + 1) = (k : Int) + 1 := IntWalk.i64_in _ (by omega)
      have hkl : (k : Int) < (L : Int) := by omega
      obtain ⟨ga0, cap, hv, hgB, hglt, hfr, hc0⟩ := HMX.out.at hlt
      simp only [Value.slice.injEq] at hv
      obtain ⟨rfl, _, rfl⟩ := hv
      have HGM : Hid (ga0 ∈ (Value.slice (some ⟨ga0, 0, none⟩) L ca).ownBlock.toList) := Option.mem_toList.2 rfl
      have HGU := Lib.hid (HOL.out ga0 rfl)
      have HRB := Lib.hid (intsK.read (intsK.ownKeep HTB.out HON.out (fun b hb hm => by have := HTS.out b hb; have := (HOL.out b (Option.mem_toList.1 hm)).2; omega)))
      obtain ⟨y0, y1, y2⟩ := cells3 gr'
      clear hgB hglt hfr hc0 y1 y2
      go_wp2_with fail
      refine wp_region_float (A := ?A) [.h, .h, .h, .h, .t, .t, .t, .e] (by kernel_rfl) (by kernel_rfl) (fun t => t.cell? ⟨g, 0, none⟩ = some (.slice (some ⟨ga0, 0, none⟩) L ca)) ?hC ?hH ?hT
      case hC => exact y0
      case hH =>
        intro t ht
        have z0 := fun s : Same t => s.cell ht
        simp only [headsOf]
        repeat (go_big_quiet_step (fail))
        refine wpQuiet_nil ?_
        exact rfl
      case hT =>
        simp only [chainT]
        have hdr : Below wr.heap.size wr wr.drew := ⟨rfl, rfl, rfl, Nat.le_refl _, fun _ _ => rfl⟩
        have HMD := Lib.hid (HMX.out.below hdr)
        have HOD : Hid (OnlyS (Value.slice (some ⟨ga0, 0, none⟩) L ca).ownBlock.toList w5 wr.drew) := HON.out.trans (Below.onlyS hdr)
        have HRD := Lib.hid (intsK.below HRB.out hdr)
        have yd : wr.drew.cell? ⟨g, 0, none⟩ = some (.slice (some ⟨ga0, 0, none⟩) L ca) := y0
        clear y0 HMX HON HRB gr' rr HBW hdr
        generalize wr.drew = u0 at *
        go_wp2_with fail
        refine (implCloneN_is HRD.out (by simp)).mono ?_
        rintro e u1 ⟨ya, yc, T, rfl, own1, hT1, hb1⟩
        have y1 := (hb1.cell (World.block_lt_of_cell? _ _ yd)).trans yd
        have hst := HMD.out.step (a := ya) (m := 11) (c := yc) (T := T) hb1 hlt own1 hT1 HOD.out.size
        have HST := Lib.hid hst
        have HO1 : Hid (OnlyS (Value.slice (some ⟨ga0, 0, none⟩) L ca).ownBlock.toList w5 (u1.setCell ⟨ga0, k * 2, none⟩ (.slice ya 11 yc))) := (HOD.out.trans (Below.onlyS hb1)).setCell HGM.out _
        obtain ⟨_, _, hv1, _, _, hfr1, hc1⟩ := (HMD.out.below hb1).at hlt
        cases hv1
        have f0 := hfr1 (k * 2)
        clear own1 hT1 hb1 hst HMD HOD HRD yd hfr1
        go_wp2_with fail
        refine stepQ_normal ⟨y1, ?_⟩
        go_wp2_with fail
        refine stepQ_normal ⟨y1, ?_⟩
        go_wp2_with fail
        refine stepQ_normal ⟨y1, ?_⟩
        go_wp2_with fail
        refine stepQ_normal ⟨trivial, ?_⟩
        clear hc1 f0 y1
        go_wp2_with fail
        go_roundw
        case rel => exact ⟨k + 1, by omega, by go_num, HST.out, HO1.out⟩
        case measure => simp [intOf]; omega

end Go.Proofs.YtfpfgaifhmgpiaaDoor

namespace Go.Proofs.YtfpfgaifhmgpiaaDoor
open Go.RowKit

set_option linter.unusedVariables false

theorem exArrayNew_walk (ea eb ec ed : Int) (w : World) (_ : (Lit.int .i64 ea).wf = true) (_ : (Lit.int .i64 eb).wf = true) (_ : (Lit.int .i64 ec).wf = true) (_ : (Lit.int .i64 ed).wf = true) (hg : GenAt w) :
    Calls Tryd.prog 6 #[.agg #[.int .i64 ea, .int .i64 eb, .int .i64 ec, .int .i64 ed]] w fun e w' => e = .returned (.bool true) ∧ Below w.heap.size w w' := exArrayNew_of GenAt (Lib.hid implArrayNew_is) ea eb ec ed w (Lib.hid (fun w' hb => hg.below hb))

end Go.Proofs.YtfpfgaifhmgpiaaDoor
