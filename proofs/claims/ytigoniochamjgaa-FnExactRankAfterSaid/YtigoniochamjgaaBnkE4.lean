/-
  The walks of the exact statements over ranks, out of the contracts: RankAfter.
-/
import Derived.Test.YtigoniochamjgaaBnkF
namespace Go.Proofs.Ytigoniochamjgaa
open Go.RowKit

set_option linter.unusedVariables false

theorem below_alloc {w : World} (o : Obj) : Below w.heap.size w (w.alloc o) := (Below.refl _ _).alloc (Nat.le_refl _) _


set_option maxHeartbeats 16000000 in
set_option maxRecDepth 100000 in
theorem exRankAfter_of (IMPL : Hid IRankAfter) (ea eb ec ed : Int) (ll : List Value) (ck cx cy cz : Int) (w : World) (s : Sh.Fits w (.and (.row (.and .flag (.and (.num .i64) .fin))) (.and (.num .i64) .fin)) ll) :
    Calls Try.prog 8 #[.agg #[.int .i64 ea, .int .i64 eb, .int .i64 ec, .int .i64 ed], .agg ll.toArray, .agg #[.int .i64 ck, .int .i64 cx, .int .i64 cy, .int .i64 cz]] w fun e w' => e = .returned (.bool true) ∧ Below w.heap.size w w' := by
  obtain ⟨ad, n, cap, zs, pw, rfl, hz, hr, hn⟩ := rank_in s
  have HZ := Lib.hid hz
  obtain ⟨sv, hsv⟩ : ∃ v : Int, (if (1048576 : Int) - (n : Int) < 0 then -1 else 1048576 - (n : Int)) = v := ⟨_, rfl⟩
  have HSV := Lib.hid hsv
  obtain ⟨w1, hw1⟩ : ∃ u, (((w.alloc (.cells #[.int .i64 ea, .int .i64 eb, .int .i64 ec, .int .i64 ed] 48)).alloc (.cells #[.slice ad n cap, .int .i64 pw] 53)).alloc (.cells #[.int .i64 ck, .int .i64 cx, .int .i64 cy, .int .i64 cz] 57)) = u := ⟨_, rfl⟩
  have HB1 : Hid (Below w.heap.size w w1) := by subst hw1; exact (((Below.refl _ _).alloc (Nat.le_refl _) _).alloc (by simp) _).alloc (by simp; omega) _
  have g1 : w1.heap[w.heap.size]? = some (.cells #[.int .i64 ea, .int .i64 eb, .int .i64 ec, .int .i64 ed] 48) := by subst hw1; exact box3_0 _ _ _ _
  have r1 : w1.heap[w.heap.size + 1]? = some (.cells #[.slice ad n cap, .int .i64 pw] 53) := by subst hw1; exact box3_1 _ _ _ _
  have c1 : w1.heap[w.heap.size + 1 + 1]? = some (.cells #[.int .i64 ck, .int .i64 cx, .int .i64 cy, .int .i64 cz] 57) := by subst hw1; exact box3_2 _ _ _ _
  have HR0 := Lib.hid (fun (u : World) (hb : Below w.heap.size w u) => hr.below hb)
  obtain ⟨v, hv⟩ : ∃ v, allowR ea eb ec ed zs pw ck cx cy cz = v := ⟨_, rfl⟩
  have HV := Lib.hid hv
  obtain ⟨l', hl'⟩ : ∃ u, afterL ea eb ec ed zs pw ck cx cy cz = u := ⟨_, rfl⟩
  obtain ⟨pw', hp'⟩ : ∃ u, afterP ea eb ec ed zs pw ck cx cy cz = u := ⟨_, rfl⟩
  have HLP := Lib.hid hl'
  have HPP := Lib.hid hp'
  have HLL : Hid (l'.length = n) := by
    show _ = _
    rw [← hl', ← hz]
    unfold afterL
    split
    · exact doL_length _ _ _ _
    · rfl
  clear hv hl' hp'
  clear hz hr
  go_enter Try.func8, Try.ntmps8
  obtain ⟨vg0, vg1, vg2, vg3⟩ := cells4 g1
  obtain ⟨vr0, vr1⟩ := cells2 r1
  obtain ⟨vc0, vc1, vc2, vc3⟩ := cells4 c1
  go_wp2_with fail
  clear vg0 vg1 vg2 vg3 vr0 vr1 vc0 vc1 vc2 vc3
  refine (szRank_is _ _ _ _ 1048576 sv hn (by omega) (by omega) HSV.out _).mono ?_
  rintro e w2 ⟨rfl, hb2⟩
  have g2 := keep_block hb2 g1 (lt_of_block g1)
  have r2 := keep_block hb2 r1 (lt_of_block r1)
  have c2 := keep_block hb2 c1 (lt_of_block c1)
  have HB2 : Hid (Below w.heap.size w w2) := HB1.out.trans (hb2.mono HB1.out.size)
  clear g1 r1 c1 HB1
  clear hb2
  by_cases hbig : (1048576 : Int) - n < 0
  · have hs : sv < 0 := by rw [← hsv, if_pos hbig]; omega
    clear hsv hbig
    go_wp2
    go_ret
    exact ⟨rfl, HB2.out⟩
  have hs : 0 ≤ sv := by rw [← hsv, if_neg hbig]; omega
  have hn2 : n ≤ 1048576 := by omega
  clear hsv hbig hn
  have tvv : (v != v) = false := by simp
  go_wp2_with fail
  refine wp_region_flowV (fun k => match k with | 0 => some (.agg #[.int .i64 ea, .int .i64 eb, .int .i64 ec, .int .i64 ed]) | 1 => some (.agg #[.int .i64 ea, .int .i64 eb, .int .i64 ec, .int .i64 ed]) | 2 => some (.agg #[.slice ad n cap, .int .i64 pw]) | 4 => some (.agg #[.int .i64 ck, .int .i64 cx, .int .i64 cy, .int .i64 cz]) | 5 => some (.agg #[.int .i64 ck, .int .i64 cx, .int .i64 cy, .int .i64 cz]) | 9 => some (.bool v) | 12 => some (.bool v) | _ => none) (fun listed x u => FactW 3 6 (fun q u => ∃ aa cc, q = .agg #[.slice aa n cc, .int .i64 pw] ∧ OwnK (w2.heap.size) (.slice aa n cc) zs u) listed x u ∧ FactW 6 7 (fun q u => ∃ aa cc, q = .tuple #[.agg #[.slice aa n cc, .int .i64 pw'], .bool v] ∧ OwnK (w2.heap.size) (.slice aa n cc) l' u) listed x u ∧ FactW 7 8 (fun q u => ∃ aa cc, q = .tuple #[.agg #[.slice aa n cc, .int .i64 pw'], .bool v] ∧ OwnK (w2.heap.size) (.slice aa n cc) l' u) listed x u ∧ Fact 7 (fun q => ∃ (aa : Option Addr) (cc : Nat), q = .tuple #[.agg #[.slice aa n cc, .int .i64 pw'], .bool v]) listed x ∧ FactW 8 11 (fun q u => ∃ aa cc, q = .agg #[.slice aa n cc, .int .i64 pw'] ∧ OwnK (w2.heap.size) (.slice aa n cc) l' u) listed x u ∧ MadeR 10 11 (w2.heap.size) n l' pw' listed x u) (fun _ => undef) (by kernel_rfl) (by kernel_rfl) ?hx1 ?hS1 ?hs1 ?he1
  case hx1 => simp only [putsX, Act.put, List.setIfInBounds_toArray, List.set_cons_zero, List.set_cons_succ]
  case hS1 => exact ⟨FactW.zero _ _ _ _ _ _, FactW.zero _ _ _ _ _ _, FactW.zero _ _ _ _ _ _, Fact.zero _ _ _ _, FactW.zero _ _ _ _ _ _, MadeR.zero _ _ _ _ _ _ _ _ _⟩
  case hs1 =>
    simp only [flowSteps]
    refine ⟨?s1_0, ?s1_1, ?s1_2, ?s1_3, ?s1_4, ?s1_5, ?s1_6, ?s1_7, ?s1_8, ?s1_9, ?s1_10, ?s1_11, ?s1_12, trivial⟩
    case s1_0 =>
      intro listed bb u hsz hn hwt hinv
      obtain ⟨x, rfl, hC, hU, h3, h6, h7, p7, h8, hM⟩ := hinv
      simp only [putsX, Act.put, List.setIfInBounds_toArray, List.set_cons_zero, List.set_cons_succ]
      obtain ⟨a0, a1, a2, a3⟩ := cells4 (keep_block hC g2 (lt_of_block g2))
      go_wp2_with fail
      refine stepQ_normal ⟨trivial, upd x 0 (.agg #[.int .i64 ea, .int .i64 eb, .int .i64 ec, .int .i64 ed]), ?_, hC, hU.step (fun _ h => Option.some.inj h), h3.keep (by decide) (by decide) _ id, h6.keep (by decide) (by decide) _ id, h7.keep (by decide) (by decide) _ id, p7.keep (by decide) _, h8.keep (by decide) (by decide) _ id, hM.keep (by decide) (by decide) _ (Below.refl _ _)⟩
      simp only [upd]
      rfl
    case s1_1 =>
      intro listed bb u hsz hn hwt hinv
      obtain ⟨x, rfl, hC, hU, h3, h6, h7, p7, h8, hM⟩ := hinv
      have f0 := Lib.hid (hU 0 _ rfl (hwt 0 (by kernel_rfl)))
      simp only [putsX, Act.put, List.setIfInBounds_toArray, List.set_cons_zero, List.set_cons_succ]
      have hcall : Calls Try.prog 25 #[x 0] u (Gives (.agg #[.int .i64 ea, .int .i64 eb, .int .i64 ec, .int .i64 ed]) u) := by rw [f0.out]; exact toGeometry_any _ _ _ _ _
      go_wp2_with fail
      refine hcall.mono ?_
      rintro e u' ⟨rfl, hb⟩
      go_wp2_with fail
      refine stepQ_normal ⟨trivial, upd x 1 (.agg #[.int .i64 ea, .int .i64 eb, .int .i64 ec, .int .i64 ed]), ?_, hC.trans (hb.mono hC.size), hU.step (fun _ h => Option.some.inj h), h3.keep (by decide) (by decide) _ (fun ⟨a1, a2, a3, a4⟩ => ⟨a1, a2, a3, a4.below (hb)⟩), h6.keep (by decide) (by decide) _ (fun ⟨a1, a2, a3, a4⟩ => ⟨a1, a2, a3, a4.below (hb)⟩), h7.keep (by decide) (by decide) _ (fun ⟨a1, a2, a3, a4⟩ => ⟨a1, a2, a3, a4.below (hb)⟩), p7.keep (by decide) _, h8.keep (by decide) (by decide) _ (fun ⟨a1, a2, a3, a4⟩ => ⟨a1, a2, a3, a4.below (hb)⟩), hM.keep (by decide) (by decide) _ (hb)⟩
      simp only [upd]
      rfl
    case s1_2 =>
      intro listed bb u hsz hn hwt hinv
      obtain ⟨x, rfl, hC, hU, h3, h6, h7, p7, h8, hM⟩ := hinv
      simp only [putsX, Act.put, List.setIfInBounds_toArray, List.set_cons_zero, List.set_cons_succ]
      obtain ⟨a0, a1⟩ := cells2 (keep_block hC r2 (lt_of_block r2))
      go_wp2_with fail
      refine stepQ_normal ⟨trivial, upd x 2 (.agg #[.slice ad n cap, .int .i64 pw]), ?_, hC, hU.step (fun _ h => Option.some.inj h), h3.keep (by decide) (by decide) _ id, h6.keep (by decide) (by decide) _ id, h7.keep (by decide) (by decide) _ id, p7.keep (by decide) _, h8.keep (by decide) (by decide) _ id, hM.keep (by decide) (by decide) _ (Below.refl _ _)⟩
      simp only [upd]
      rfl
    case s1_3 =>
      intro listed bb u hsz hn hwt hinv
      obtain ⟨x, rfl, hC, hU, h3, h6, h7, p7, h8, hM⟩ := hinv
      have f2 := Lib.hid (hU 2 _ rfl (hwt 2 (by kernel_rfl)))
      simp only [putsX, Act.put, List.setIfInBounds_toArray, List.set_cons_zero, List.set_cons_succ]
      have hcall : Calls Try.prog 31 #[x 2] u (GivesK n zs pw u) := by rw [f2.out]; exact toRank_is _ _ _ _ _ HZ.out (by omega) _ (HR0.out _ (HB2.out.trans (hC.mono HB2.out.size)))
      go_wp2_with fail
      refine hcall.mono ?_
      rintro e u' ⟨aa, cc, rfl, own, hb⟩
      go_wp2_with fail
      refine stepQ_normal ⟨trivial, upd x 3 (.agg #[.slice aa n cc, .int .i64 pw]), ?_, hC.trans (hb.mono hC.size), hU.step (fun _ h => by cases h), FactW.new ⟨aa, cc, rfl, own.mono hC.size⟩, h6.keep (by decide) (by decide) _ (fun ⟨a1, a2, a3, a4⟩ => ⟨a1, a2, a3, a4.below (hb)⟩), h7.keep (by decide) (by decide) _ (fun ⟨a1, a2, a3, a4⟩ => ⟨a1, a2, a3, a4.below (hb)⟩), p7.keep (by decide) _, h8.keep (by decide) (by decide) _ (fun ⟨a1, a2, a3, a4⟩ => ⟨a1, a2, a3, a4.below (hb)⟩), hM.keep (by decide) (by decide) _ (hb)⟩
      simp only [upd]
      rfl
    case s1_4 =>
      intro listed bb u hsz hn hwt hinv
      obtain ⟨x, rfl, hC, hU, h3, h6, h7, p7, h8, hM⟩ := hinv
      simp only [putsX, Act.put, List.setIfInBounds_toArray, List.set_cons_zero, List.set_cons_succ]
      obtain ⟨a0, a1, a2, a3⟩ := cells4 (keep_block hC c2 (lt_of_block c2))
      go_wp2_with fail
      refine stepQ_normal ⟨trivial, upd x 4 (.agg #[.int .i64 ck, .int .i64 cx, .int .i64 cy, .int .i64 cz]), ?_, hC, hU.step (fun _ h => Option.some.inj h), h3.keep (by decide) (by decide) _ id, h6.keep (by decide) (by decide) _ id, h7.keep (by decide) (by decide) _ id, p7.keep (by decide) _, h8.keep (by decide) (by decide) _ id, hM.keep (by decide) (by decide) _ (Below.refl _ _)⟩
      simp only [upd]
      rfl
    case s1_5 =>
      intro listed bb u hsz hn hwt hinv
      obtain ⟨x, rfl, hC, hU, h3, h6, h7, p7, h8, hM⟩ := hinv
      have f4 := Lib.hid (hU 4 _ rfl (hwt 4 (by kernel_rfl)))
      simp only [putsX, Act.put, List.setIfInBounds_toArray, List.set_cons_zero, List.set_cons_succ]
      have hcall : Calls Try.prog 33 #[x 4] u (Gives (.agg #[.int .i64 ck, .int .i64 cx, .int .i64 cy, .int .i64 cz]) u) := by rw [f4.out]; exact toCommand_any _ _ _ _ _
      go_wp2_with fail
      refine hcall.mono ?_
      rintro e u' ⟨rfl, hb⟩
      go_wp2_with fail
      refine stepQ_normal ⟨trivial, upd x 5 (.agg #[.int .i64 ck, .int .i64 cx, .int .i64 cy, .int .i64 cz]), ?_, hC.trans (hb.mono hC.size), hU.step (fun _ h => Option.some.inj h), h3.keep (by decide) (by decide) _ (fun ⟨a1, a2, a3, a4⟩ => ⟨a1, a2, a3, a4.below (hb)⟩), h6.keep (by decide) (by decide) _ (fun ⟨a1, a2, a3, a4⟩ => ⟨a1, a2, a3, a4.below (hb)⟩), h7.keep (by decide) (by decide) _ (fun ⟨a1, a2, a3, a4⟩ => ⟨a1, a2, a3, a4.below (hb)⟩), p7.keep (by decide) _, h8.keep (by decide) (by decide) _ (fun ⟨a1, a2, a3, a4⟩ => ⟨a1, a2, a3, a4.below (hb)⟩), hM.keep (by decide) (by decide) _ (hb)⟩
      simp only [upd]
      rfl
    case s1_6 =>
      intro listed bb u hsz hn hwt hinv
      obtain ⟨x, rfl, hC, hU, h3, h6, h7, p7, h8, hM⟩ := hinv
      have f1 := Lib.hid (hU 1 _ rfl (hwt 1 (by kernel_rfl)))
      have f5 := Lib.hid (hU 5 _ rfl (hwt 5 (by kernel_rfl)))
      simp only [putsX, Act.put, List.setIfInBounds_toArray, List.set_cons_zero, List.set_cons_succ]
      obtain ⟨aa, cc, fp, hown⟩ := h3 (hwt 3 (by kernel_rfl)) hn
      have hcall : Calls Try.prog 34 #[x 1, x 3, x 5] u (GivesA n l' pw' v u) := by rw [fp, f1.out, f5.out]; exact specAfter_is _ _ _ _ _ _ _ _ _ _ _ _ _ _ _ _ HV.out HLP.out HPP.out HZ.out (by omega) hown.none _ hown.row
      clear fp
      go_wp2_with fail
      refine hcall.mono ?_
      rintro e u' ⟨ab, cb, rfl, own, hb⟩
      go_wp2_with fail
      refine stepQ_normal ⟨trivial, upd x 6 (.tuple #[.agg #[.slice ab n cb, .int .i64 pw'], .bool v]), ?_, hC.trans (hb.mono hC.size), hU.step (fun _ h => by cases h), FactW.call (by rw [hsz]; decide), FactW.new ⟨ab, cb, rfl, own.mono hC.size⟩, h7.keep (by decide) (by decide) _ (fun ⟨a1, a2, a3, a4⟩ => ⟨a1, a2, a3, a4.below (hb)⟩), p7.keep (by decide) _, h8.keep (by decide) (by decide) _ (fun ⟨a1, a2, a3, a4⟩ => ⟨a1, a2, a3, a4.below (hb)⟩), hM.keep (by decide) (by decide) _ (hb)⟩
      simp only [upd]
      rfl
    case s1_7 =>
      intro listed bb u hsz hn hwt hinv
      obtain ⟨x, rfl, hC, hU, h3, h6, h7, p7, h8, hM⟩ := hinv
      simp only [putsX, Act.put, List.setIfInBounds_toArray, List.set_cons_zero, List.set_cons_succ]
      obtain ⟨aa, cc, fp, hown⟩ := h6 (hwt 6 (by kernel_rfl)) hn
      go_wp2_with fail
      refine stepQ_normal ⟨trivial, upd x 7 (x 6), ?_, hC, hU.step (fun _ h => by cases h), h3.keep (by decide) (by decide) _ id, FactW.call (by rw [hsz]; decide), FactW.new ⟨aa, cc, fp, hown⟩, Fact.new ⟨aa, cc, fp⟩, h8.keep (by decide) (by decide) _ id, hM.keep (by decide) (by decide) _ (Below.refl _ _)⟩
      simp only [upd]
      rfl
    case s1_8 =>
      intro listed bb u hsz hn hwt hinv
      obtain ⟨x, rfl, hC, hU, h3, h6, h7, p7, h8, hM⟩ := hinv
      simp only [putsX, Act.put, List.setIfInBounds_toArray, List.set_cons_zero, List.set_cons_succ]
      obtain ⟨aa, cc, fp, hown⟩ := h7 (hwt 7 (by kernel_rfl)) hn
      have FP := Lib.hid fp
      rw [FP.out]
      clear fp
      go_wp2_with fail
      refine stepQ_normal ⟨trivial, upd x 8 (.agg #[.slice aa n cc, .int .i64 pw']), ?_, hC, hU.step (fun _ h => by cases h), h3.keep (by decide) (by decide) _ id, h6.keep (by decide) (by decide) _ id, FactW.call (by rw [hsz]; decide), p7.keep (by decide) _, FactW.new ⟨aa, cc, rfl, hown⟩, hM.keep (by decide) (by decide) _ (Below.refl _ _)⟩
      simp only [upd]
      simp only [FP.out]
      (try rfl)
    case s1_9 =>
      intro listed bb u hsz hn hwt hinv
      obtain ⟨x, rfl, hC, hU, h3, h6, h7, p7, h8, hM⟩ := hinv
      simp only [putsX, Act.put, List.setIfInBounds_toArray, List.set_cons_zero, List.set_cons_succ]
      obtain ⟨aa, cc, fp⟩ := p7 (hwt 7 (by kernel_rfl))
      have FP := Lib.hid fp
      rw [FP.out]
      clear fp
      go_wp2_with fail
      refine stepQ_normal ⟨trivial, upd x 9 (.bool v), ?_, hC, hU.step (fun _ h => Option.some.inj h), h3.keep (by decide) (by decide) _ id, h6.keep (by decide) (by decide) _ id, h7.keep (by decide) (by decide) _ id, p7.keep (by decide) _, h8.keep (by decide) (by decide) _ id, hM.keep (by decide) (by decide) _ (Below.refl _ _)⟩
      simp only [upd]
      simp only [FP.out]
      (try rfl)
    case s1_10 =>
      intro listed bb u hsz hn hwt hinv
      obtain ⟨x, rfl, hC, hU, h3, h6, h7, p7, h8, hM⟩ := hinv
      simp only [putsX, Act.put, List.setIfInBounds_toArray, List.set_cons_zero, List.set_cons_succ]
      go_wp2_with fail
      refine stepQ_normal ⟨trivial, upd x 10 (.pointer (some ⟨u.heap.size, 0, none⟩)), ?_, hC.alloc hC.size _, hU.step (fun _ h => by cases h), h3.keep (by decide) (by decide) _ (fun ⟨a1, a2, a3, a4⟩ => ⟨a1, a2, a3, a4.below (below_alloc _)⟩), h6.keep (by decide) (by decide) _ (fun ⟨a1, a2, a3, a4⟩ => ⟨a1, a2, a3, a4.below (below_alloc _)⟩), h7.keep (by decide) (by decide) _ (fun ⟨a1, a2, a3, a4⟩ => ⟨a1, a2, a3, a4.below (below_alloc _)⟩), p7.keep (by decide) _, h8.keep (by decide) (by decide) _ (fun ⟨a1, a2, a3, a4⟩ => ⟨a1, a2, a3, a4.below (below_alloc _)⟩), hM.new (by decide) hn hC.size⟩
      simp only [upd]
      rfl
    case s1_11 =>
      intro listed bb u hsz hn hwt hinv
      obtain ⟨x, rfl, hC, hU, h3, h6, h7, p7, h8, hM⟩ := hinv
      simp only [putsX, Act.put, List.setIfInBounds_toArray, List.set_cons_zero, List.set_cons_succ]
      obtain ⟨g, fg, hg, hh⟩ := hM.there (hwt 10 (by kernel_rfl)) hn
      obtain ⟨aa, cc, fp, hown⟩ := h8 (hwt 8 (by kernel_rfl)) hn
      have FG := Lib.hid fg
      have FP := Lib.hid fp
      rw [FG.out, FP.out]
      obtain ⟨y0, y1⟩ := cells2 hh
      have t0 := thawed hh 0
      have t1 := thawed hh 1
      have hne := hown.apart hh
      have hfin := set_cells (set_cells hh 0 (.slice aa n cc)) 1 (.int .i64 pw')
      have hown2 := (hown.setCell (p := ⟨g, 0, none⟩) hne (.slice aa n cc)).setCell (p := ⟨g, 1, none⟩) hne (.int .i64 pw')
      clear hh fg fp hown hne
      go_wp2_with fail
      refine stepQ_normal ⟨trivial, upd x 11 undef, ?_, (hC.setCell (by exact hg) _).setCell (by exact hg) _, hU.step (fun _ h => by cases h), FactW.gone (hwt 6 (by kernel_rfl)), FactW.gone (hwt 7 (by kernel_rfl)), FactW.gone (hwt 8 (by kernel_rfl)), p7.keep (by decide) _, FactW.call (by rw [hsz]; decide), MadeR.fill (by decide) (hwt 10 (by kernel_rfl)) (by rw [hsz]; decide) FG.out hg hfin hown2⟩
      simp only [upd]
      simp only [FG.out, FP.out]
      (try rfl)
    case s1_12 =>
      intro listed bb u hsz hn hwt hinv
      obtain ⟨x, rfl, hC, hU, h3, h6, h7, p7, h8, hM⟩ := hinv
      have f9 := Lib.hid (hU 9 _ rfl (hwt 9 (by kernel_rfl)))
      simp only [putsX, Act.put, List.setIfInBounds_toArray, List.set_cons_zero, List.set_cons_succ]
      rw [f9.out]
      go_wp2_with fail
      refine stepQ_normal ⟨trivial, upd x 12 (.bool v), ?_, hC, hU.step (fun _ h => Option.some.inj h), h3.keep (by decide) (by decide) _ id, h6.keep (by decide) (by decide) _ id, h7.keep (by decide) (by decide) _ id, p7.keep (by decide) _, h8.keep (by decide) (by decide) _ id, hM.keep (by decide) (by decide) _ (Below.refl _ _)⟩
      simp only [upd]
      simp only [f9.out]
      (try rfl)
  case he1 =>
    intro listed q u hall hC hU hS
    obtain ⟨h3, h6, h7, p7, h8, hM⟩ := hS
    obtain ⟨sP, Sa, Sc, fg, hg, hh, hown⟩ := hM.full (hall 10 (by decide)) (hall 11 (by decide))
    have fb := hU 12 _ rfl (hall 12 (by decide))
    simp only [putsX, Act.put, List.setIfInBounds_toArray, List.set_cons_zero, List.set_cons_succ]
    rw [fg, fb]
    clear hall hU h3 h6 h7 p7 h8 hM fg fb
    obtain ⟨w3, rfl⟩ : ∃ v, v = u := ⟨_, rfl⟩
    have g3 := keep_block hC g2 (lt_of_block g2)
    have r3 := keep_block hC r2 (lt_of_block r2)
    have c3 := keep_block hC c2 (lt_of_block c2)
    have HB3 : Hid (Below w.heap.size w w3) := HB2.out.trans (hC.mono HB2.out.size)
    have s3 := hh
    have S3 : Hid (OwnK (w2.heap.size) (.slice Sa n Sc) l' w3) := hown
    have HSG : Hid (w2.heap.size ≤ sP ∧ w2.heap.size ≤ w3.heap.size) := ⟨hg, hC.size⟩
    clear hh hown hg
    clear g2 r2 c2 HB2
    clear hC
    have HSB : Hid (w.heap.size + 1 + 1 < w3.heap.size ∧ sP < w3.heap.size ∧ ∀ x, Sa = some x → x.block < w3.heap.size) := ⟨lt_of_block c3, lt_of_block s3, fun x hx => (S3.out.lo x hx).2⟩
    obtain ⟨vg0, vg1, vg2, vg3⟩ := cells4 g3
    obtain ⟨vr0, vr1⟩ := cells2 r3
    obtain ⟨vc0, vc1, vc2, vc3⟩ := cells4 c3
    obtain ⟨vs0, vs1⟩ := cells2 s3
    go_wp2_with fail
    clear vg0 vg1 vg2 vg3 vr0 vr1 vc0 vc1 vc2 vc3 vs0 vs1
    refine (toRank_is _ _ _ _ _ HZ.out (by omega) _ (HR0.out _ HB3.out)).mono ?_
    rintro e w4 ⟨Xa, Xc, rfl, own4, hb4⟩
    have g4 := keep_block hb4 g3 (lt_of_block g3)
    have r4 := keep_block hb4 r3 (lt_of_block r3)
    have c4 := keep_block hb4 c3 (lt_of_block c3)
    have s4 := keep_block hb4 s3 (lt_of_block s3)
    have S4 : Hid (OwnK (w2.heap.size) (.slice Sa n Sc) l' w4) := S3.out.below hb4
    have HB4 : Hid (Below w.heap.size w w4) := HB3.out.trans (hb4.mono HB3.out.size)
    clear g3 r3 c3 s3 S3 HB3
    have X4 : Hid (OwnK w3.heap.size (.slice Xa n Xc) zs w4) := own4
    have NX : Hid (Xa = none → Xc = 0) := own4.none
    have HXB : Hid (w3.heap.size ≤ w4.heap.size ∧ ∀ x, Xa = some x → w3.heap.size ≤ x.block ∧ x.block < w4.heap.size) := ⟨hb4.size, own4.lo⟩
    clear own4
    clear hb4
    have hb5 : Below w4.heap.size w4 (w4.alloc (.cells #[.slice Xa n Xc, .int .i64 pw] 28)) := (Below.refl _ _).alloc (Nat.le_refl _) _
    have g5 := keep_block hb5 g4 (lt_of_block g4)
    have r5 := keep_block hb5 r4 (lt_of_block r4)
    have c5 := keep_block hb5 c4 (lt_of_block c4)
    have s5 := keep_block hb5 s4 (lt_of_block s4)
    have S5 : Hid (OwnK (w2.heap.size) (.slice Sa n Sc) l' (w4.alloc (.cells #[.slice Xa n Xc, .int .i64 pw] 28))) := S4.out.below hb5
    have X5 : Hid (OwnK w3.heap.size (.slice Xa n Xc) zs (w4.alloc (.cells #[.slice Xa n Xc, .int .i64 pw] 28))) := X4.out.below hb5
    have x5 := heap_alloc_new w4 (.cells #[.slice Xa n Xc, .int .i64 pw] 28)
    have HB5 : Hid (Below w.heap.size w (w4.alloc (.cells #[.slice Xa n Xc, .int .i64 pw] 28))) := HB4.out.trans (hb5.mono HB4.out.size)
    go_wp2_with fail
    clear hb5
    clear g4 r4 c4 s4 S4 X4 HB4
    generalize (w4.alloc (.cells #[.slice Xa n Xc, .int .i64 pw] 28)) = w5 at g5 r5 c5 s5 S5 X5 x5 HB5 ⊢
    obtain ⟨xP, hxP⟩ : ∃ p, w4.heap.size = p := ⟨_, rfl⟩
    have HXP : Hid (w4.heap.size = xP) := hxP
    rw [hxP] at x5
    (try simp only [hxP])
    clear hxP
    have HPW : Hid (xP < w5.heap.size) := lt_of_block x5
    go_wp2_with fail
    refine wp_region_flowV (fun k => match k with | 0 => some (.agg #[.int .i64 ea, .int .i64 eb, .int .i64 ec, .int .i64 ed]) | 1 => some (.agg #[.int .i64 ea, .int .i64 eb, .int .i64 ec, .int .i64 ed]) | 2 => some (.agg #[.slice Xa n Xc, .int .i64 pw]) | 3 => some (.agg #[.int .i64 ck, .int .i64 cx, .int .i64 cy, .int .i64 cz]) | 4 => some (.agg #[.int .i64 ck, .int .i64 cx, .int .i64 cy, .int .i64 cz]) | 8 => some (.bool v) | 11 => some (.bool v) | _ => none) (fun listed x u => FactW 5 6 (fun q u => ∃ aa cc, q = .tuple #[.agg #[.slice aa n cc, .int .i64 pw'], .bool v] ∧ OwnK (w5.heap.size) (.slice aa n cc) l' u) listed x u ∧ FactW 6 7 (fun q u => ∃ aa cc, q = .tuple #[.agg #[.slice aa n cc, .int .i64 pw'], .bool v] ∧ OwnK (w5.heap.size) (.slice aa n cc) l' u) listed x u ∧ Fact 6 (fun q => ∃ (aa : Option Addr) (cc : Nat), q = .tuple #[.agg #[.slice aa n cc, .int .i64 pw'], .bool v]) listed x ∧ FactW 7 10 (fun q u => ∃ aa cc, q = .agg #[.slice aa n cc, .int .i64 pw'] ∧ OwnK (w5.heap.size) (.slice aa n cc) l' u) listed x u ∧ MadeR 9 10 (w5.heap.size) n l' pw' listed x u) (fun _ => undef) (by kernel_rfl) (by kernel_rfl) ?hx2 ?hS2 ?hs2 ?he2
    case hx2 => simp only [putsX, Act.put, List.setIfInBounds_toArray, List.set_cons_zero, List.set_cons_succ]
    case hS2 => exact ⟨FactW.zero _ _ _ _ _ _, FactW.zero _ _ _ _ _ _, Fact.zero _ _ _ _, FactW.zero _ _ _ _ _ _, MadeR.zero _ _ _ _ _ _ _ _ _⟩
    case hs2 =>
      simp only [flowSteps]
      refine ⟨?s2_0, ?s2_1, ?s2_2, ?s2_3, ?s2_4, ?s2_5, ?s2_6, ?s2_7, ?s2_8, ?s2_9, ?s2_10, ?s2_11, trivial⟩
      case s2_0 =>
        intro listed bb u hsz hn hwt hinv
        obtain ⟨x, rfl, hC, hU, h6, h7, p7, h8, hM⟩ := hinv
        simp only [putsX, Act.put, List.setIfInBounds_toArray, List.set_cons_zero, List.set_cons_succ]
        obtain ⟨a0, a1, a2, a3⟩ := cells4 (keep_block hC g5 (lt_of_block g5))
        go_wp2_with fail
        refine stepQ_normal ⟨trivial, upd x 0 (.agg #[.int .i64 ea, .int .i64 eb, .int .i64 ec, .int .i64 ed]), ?_, hC, hU.step (fun _ h => Option.some.inj h), h6.keep (by decide) (by decide) _ id, h7.keep (by decide) (by decide) _ id, p7.keep (by decide) _, h8.keep (by decide) (by decide) _ id, hM.keep (by decide) (by decide) _ (Below.refl _ _)⟩
        simp only [upd]
        rfl
      case s2_1 =>
        intro listed bb u hsz hn hwt hinv
        obtain ⟨x, rfl, hC, hU, h6, h7, p7, h8, hM⟩ := hinv
        have f0 := Lib.hid (hU 0 _ rfl (hwt 0 (by kernel_rfl)))
        simp only [putsX, Act.put, List.setIfInBounds_toArray, List.set_cons_zero, List.set_cons_succ]
        have hcall : Calls Try.prog 25 #[x 0] u (Gives (.agg #[.int .i64 ea, .int .i64 eb, .int .i64 ec, .int .i64 ed]) u) := by rw [f0.out]; exact toGeometry_any _ _ _ _ _
        go_wp2_with fail
        refine hcall.mono ?_
        rintro e u' ⟨rfl, hb⟩
        go_wp2_with fail
        refine stepQ_normal ⟨trivial, upd x 1 (.agg #[.int .i64 ea, .int .i64 eb, .int .i64 ec, .int .i64 ed]), ?_, hC.trans (hb.mono hC.size), hU.step (fun _ h => Option.some.inj h), h6.keep (by decide) (by decide) _ (fun ⟨a1, a2, a3, a4⟩ => ⟨a1, a2, a3, a4.below (hb)⟩), h7.keep (by decide) (by decide) _ (fun ⟨a1, a2, a3, a4⟩ => ⟨a1, a2, a3, a4.below (hb)⟩), p7.keep (by decide) _, h8.keep (by decide) (by decide) _ (fun ⟨a1, a2, a3, a4⟩ => ⟨a1, a2, a3, a4.below (hb)⟩), hM.keep (by decide) (by decide) _ (hb)⟩
        simp only [upd]
        rfl
      case s2_2 =>
        intro listed bb u hsz hn hwt hinv
        obtain ⟨x, rfl, hC, hU, h6, h7, p7, h8, hM⟩ := hinv
        simp only [putsX, Act.put, List.setIfInBounds_toArray, List.set_cons_zero, List.set_cons_succ]
        obtain ⟨a0, a1⟩ := cells2 (keep_block hC x5 (lt_of_block x5))
        go_wp2_with fail
        refine stepQ_normal ⟨trivial, upd x 2 (.agg #[.slice Xa n Xc, .int .i64 pw]), ?_, hC, hU.step (fun _ h => Option.some.inj h), h6.keep (by decide) (by decide) _ id, h7.keep (by decide) (by decide) _ id, p7.keep (by decide) _, h8.keep (by decide) (by decide) _ id, hM.keep (by decide) (by decide) _ (Below.refl _ _)⟩
        simp only [upd]
        rfl
      case s2_3 =>
        intro listed bb u hsz hn hwt hinv
        obtain ⟨x, rfl, hC, hU, h6, h7, p7, h8, hM⟩ := hinv
        simp only [putsX, Act.put, List.setIfInBounds_toArray, List.set_cons_zero, List.set_cons_succ]
        obtain ⟨a0, a1, a2, a3⟩ := cells4 (keep_block hC c5 (lt_of_block c5))
        go_wp2_with fail
        refine stepQ_normal ⟨trivial, upd x 3 (.agg #[.int .i64 ck, .int .i64 cx, .int .i64 cy, .int .i64 cz]), ?_, hC, hU.step (fun _ h => Option.some.inj h), h6.keep (by decide) (by decide) _ id, h7.keep (by decide) (by decide) _ id, p7.keep (by decide) _, h8.keep (by decide) (by decide) _ id, hM.keep (by decide) (by decide) _ (Below.refl _ _)⟩
        simp only [upd]
        rfl
      case s2_4 =>
        intro listed bb u hsz hn hwt hinv
        obtain ⟨x, rfl, hC, hU, h6, h7, p7, h8, hM⟩ := hinv
        have f3 := Lib.hid (hU 3 _ rfl (hwt 3 (by kernel_rfl)))
        simp only [putsX, Act.put, List.setIfInBounds_toArray, List.set_cons_zero, List.set_cons_succ]
        have hcall : Calls Try.prog 33 #[x 3] u (Gives (.agg #[.int .i64 ck, .int .i64 cx, .int .i64 cy, .int .i64 cz]) u) := by rw [f3.out]; exact toCommand_any _ _ _ _ _
        go_wp2_with fail
        refine hcall.mono ?_
        rintro e u' ⟨rfl, hb⟩
        go_wp2_with fail
        refine stepQ_normal ⟨trivial, upd x 4 (.agg #[.int .i64 ck, .int .i64 cx, .int .i64 cy, .int .i64 cz]), ?_, hC.trans (hb.mono hC.size), hU.step (fun _ h => Option.some.inj h), h6.keep (by decide) (by decide) _ (fun ⟨a1, a2, a3, a4⟩ => ⟨a1, a2, a3, a4.below (hb)⟩), h7.keep (by decide) (by decide) _ (fun ⟨a1, a2, a3, a4⟩ => ⟨a1, a2, a3, a4.below (hb)⟩), p7.keep (by decide) _, h8.keep (by decide) (by decide) _ (fun ⟨a1, a2, a3, a4⟩ => ⟨a1, a2, a3, a4.below (hb)⟩), hM.keep (by decide) (by decide) _ (hb)⟩
        simp only [upd]
        rfl
      case s2_5 =>
        intro listed bb u hsz hn hwt hinv
        obtain ⟨x, rfl, hC, hU, h6, h7, p7, h8, hM⟩ := hinv
        have f1 := Lib.hid (hU 1 _ rfl (hwt 1 (by kernel_rfl)))
        have f2 := Lib.hid (hU 2 _ rfl (hwt 2 (by kernel_rfl)))
        have f4 := Lib.hid (hU 4 _ rfl (hwt 4 (by kernel_rfl)))
        simp only [putsX, Act.put, List.setIfInBounds_toArray, List.set_cons_zero, List.set_cons_succ]
        have hcall : Calls Try.prog 13 #[x 1, x 2, x 4] u (GivesA n l' pw' v u) := by rw [f1.out, f2.out, f4.out]; exact IMPL.out _ _ _ _ _ _ _ _ _ _ _ _ _ _ _ _ HV.out HLP.out HPP.out HZ.out (by omega) NX.out _ ((X5.out.row).below hC)
        go_wp2_with fail
        refine hcall.mono ?_
        rintro e u' ⟨ab, cb, rfl, own, hb⟩
        go_wp2_with fail
        refine stepQ_normal ⟨trivial, upd x 5 (.tuple #[.agg #[.slice ab n cb, .int .i64 pw'], .bool v]), ?_, hC.trans (hb.mono hC.size), hU.step (fun _ h => by cases h), FactW.new ⟨ab, cb, rfl, own.mono hC.size⟩, h7.keep (by decide) (by decide) _ (fun ⟨a1, a2, a3, a4⟩ => ⟨a1, a2, a3, a4.below (hb)⟩), p7.keep (by decide) _, h8.keep (by decide) (by decide) _ (fun ⟨a1, a2, a3, a4⟩ => ⟨a1, a2, a3, a4.below (hb)⟩), hM.keep (by decide) (by decide) _ (hb)⟩
        simp only [upd]
        rfl
      case s2_6 =>
        intro listed bb u hsz hn hwt hinv
        obtain ⟨x, rfl, hC, hU, h6, h7, p7, h8, hM⟩ := hinv
        simp only [putsX, Act.put, List.setIfInBounds_toArray, List.set_cons_zero, List.set_cons_succ]
        obtain ⟨aa, cc, fp, hown⟩ := h6 (hwt 5 (by kernel_rfl)) hn
        go_wp2_with fail
        refine stepQ_normal ⟨trivial, upd x 6 (x 5), ?_, hC, hU.step (fun _ h => by cases h), FactW.call (by rw [hsz]; decide), FactW.new ⟨aa, cc, fp, hown⟩, Fact.new ⟨aa, cc, fp⟩, h8.keep (by decide) (by decide) _ id, hM.keep (by decide) (by decide) _ (Below.refl _ _)⟩
        simp only [upd]
        rfl
      case s2_7 =>
        intro listed bb u hsz hn hwt hinv
        obtain ⟨x, rfl, hC, hU, h6, h7, p7, h8, hM⟩ := hinv
        simp only [putsX, Act.put, List.setIfInBounds_toArray, List.set_cons_zero, List.set_cons_succ]
        obtain ⟨aa, cc, fp, hown⟩ := h7 (hwt 6 (by kernel_rfl)) hn
        have FP := Lib.hid fp
        rw [FP.out]
        clear fp
        go_wp2_with fail
        refine stepQ_normal ⟨trivial, upd x 7 (.agg #[.slice aa n cc, .int .i64 pw']), ?_, hC, hU.step (fun _ h => by cases h), h6.keep (by decide) (by decide) _ id, FactW.call (by rw [hsz]; decide), p7.keep (by decide) _, FactW.new ⟨aa, cc, rfl, hown⟩, hM.keep (by decide) (by decide) _ (Below.refl _ _)⟩
        simp only [upd]
        simp only [FP.out]
        (try rfl)
      case s2_8 =>
        intro listed bb u hsz hn hwt hinv
        obtain ⟨x, rfl, hC, hU, h6, h7, p7, h8, hM⟩ := hinv
        simp only [putsX, Act.put, List.setIfInBounds_toArray, List.set_cons_zero, List.set_cons_succ]
        obtain ⟨aa, cc, fp⟩ := p7 (hwt 6 (by kernel_rfl))
        have FP := Lib.hid fp
        rw [FP.out]
        clear fp
        go_wp2_with fail
        refine stepQ_normal ⟨trivial, upd x 8 (.bool v), ?_, hC, hU.step (fun _ h => Option.some.inj h), h6.keep (by decide) (by decide) _ id, h7.keep (by decide) (by decide) _ id, p7.keep (by decide) _, h8.keep (by decide) (by decide) _ id, hM.keep (by decide) (by decide) _ (Below.refl _ _)⟩
        simp only [upd]
        simp only [FP.out]
        (try rfl)
      case s2_9 =>
        intro listed bb u hsz hn hwt hinv
        obtain ⟨x, rfl, hC, hU, h6, h7, p7, h8, hM⟩ := hinv
        simp only [putsX, Act.put, List.setIfInBounds_toArray, List.set_cons_zero, List.set_cons_succ]
        go_wp2_with fail
        refine stepQ_normal ⟨trivial, upd x 9 (.pointer (some ⟨u.heap.size, 0, none⟩)), ?_, hC.alloc hC.size _, hU.step (fun _ h => by cases h), h6.keep (by decide) (by decide) _ (fun ⟨a1, a2, a3, a4⟩ => ⟨a1, a2, a3, a4.below (below_alloc _)⟩), h7.keep (by decide) (by decide) _ (fun ⟨a1, a2, a3, a4⟩ => ⟨a1, a2, a3, a4.below (below_alloc _)⟩), p7.keep (by decide) _, h8.keep (by decide) (by decide) _ (fun ⟨a1, a2, a3, a4⟩ => ⟨a1, a2, a3, a4.below (below_alloc _)⟩), hM.new (by decide) hn hC.size⟩
        simp only [upd]
        rfl
      case s2_10 =>
        intro listed bb u hsz hn hwt hinv
        obtain ⟨x, rfl, hC, hU, h6, h7, p7, h8, hM⟩ := hinv
        simp only [putsX, Act.put, List.setIfInBounds_toArray, List.set_cons_zero, List.set_cons_succ]
        obtain ⟨g, fg, hg, hh⟩ := hM.there (hwt 9 (by kernel_rfl)) hn
        obtain ⟨aa, cc, fp, hown⟩ := h8 (hwt 7 (by kernel_rfl)) hn
        have FG := Lib.hid fg
        have FP := Lib.hid fp
        rw [FG.out, FP.out]
        obtain ⟨y0, y1⟩ := cells2 hh
        have t0 := thawed hh 0
        have t1 := thawed hh 1
        have hne := hown.apart hh
        have hfin := set_cells (set_cells hh 0 (.slice aa n cc)) 1 (.int .i64 pw')
        have hown2 := (hown.setCell (p := ⟨g, 0, none⟩) hne (.slice aa n cc)).setCell (p := ⟨g, 1, none⟩) hne (.int .i64 pw')
        clear hh fg fp hown hne
        go_wp2_with fail
        refine stepQ_normal ⟨trivial, upd x 10 undef, ?_, (hC.setCell (by exact hg) _).setCell (by exact hg) _, hU.step (fun _ h => by cases h), FactW.gone (hwt 6 (by kernel_rfl)), FactW.gone (hwt 7 (by kernel_rfl)), p7.keep (by decide) _, FactW.call (by rw [hsz]; decide), MadeR.fill (by decide) (hwt 9 (by kernel_rfl)) (by rw [hsz]; decide) FG.out hg hfin hown2⟩
        simp only [upd]
        simp only [FG.out, FP.out]
        (try rfl)
      case s2_11 =>
        intro listed bb u hsz hn hwt hinv
        obtain ⟨x, rfl, hC, hU, h6, h7, p7, h8, hM⟩ := hinv
        have f8 := Lib.hid (hU 8 _ rfl (hwt 8 (by kernel_rfl)))
        simp only [putsX, Act.put, List.setIfInBounds_toArray, List.set_cons_zero, List.set_cons_succ]
        rw [f8.out]
        go_wp2_with fail
        refine stepQ_normal ⟨trivial, upd x 11 (.bool v), ?_, hC, hU.step (fun _ h => Option.some.inj h), h6.keep (by decide) (by decide) _ id, h7.keep (by decide) (by decide) _ id, p7.keep (by decide) _, h8.keep (by decide) (by decide) _ id, hM.keep (by decide) (by decide) _ (Below.refl _ _)⟩
        simp only [upd]
        simp only [f8.out]
        (try rfl)
    case he2 =>
      intro listed q u hall hC hU hS
      obtain ⟨h6, h7, p7, h8, hM⟩ := hS
      obtain ⟨iP, Ia, Ic, fg, hg, hh, hown⟩ := hM.full (hall 9 (by decide)) (hall 10 (by decide))
      have fb := hU 11 _ rfl (hall 11 (by decide))
      simp only [putsX, Act.put, List.setIfInBounds_toArray, List.set_cons_zero, List.set_cons_succ]
      rw [fg, fb]
      clear hall hU h6 h7 p7 h8 hM fg fb
      obtain ⟨w6, rfl⟩ : ∃ v, v = u := ⟨_, rfl⟩
      have g6 := keep_block hC g5 (lt_of_block g5)
      have r6 := keep_block hC r5 (lt_of_block r5)
      have c6 := keep_block hC c5 (lt_of_block c5)
      have s6 := keep_block hC s5 (lt_of_block s5)
      have x6 := keep_block hC x5 (lt_of_block x5)
      have S6 : Hid (OwnK (w2.heap.size) (.slice Sa n Sc) l' w6) := S5.out.below hC
      have X6 : Hid (OwnK w3.heap.size (.slice Xa n Xc) zs w6) := X5.out.below hC
      have HB6 : Hid (Below w.heap.size w w6) := HB5.out.trans (hC.mono HB5.out.size)
      have i6 := hh
      have I6 : Hid (OwnK (w5.heap.size) (.slice Ia n Ic) l' w6) := hown
      have HIG : Hid (w5.heap.size ≤ iP ∧ w5.heap.size ≤ w6.heap.size) := ⟨hg, hC.size⟩
      clear hh hown hg
      clear g5 r5 c5 s5 x5 S5 X5 HB5
      clear hC
      have HIB : Hid (xP < w5.heap.size) := HPW.out
      obtain ⟨vg0, vg1, vg2, vg3⟩ := cells4 g6
      obtain ⟨vr0, vr1⟩ := cells2 r6
      obtain ⟨vc0, vc1, vc2, vc3⟩ := cells4 c6
      obtain ⟨vs0, vs1⟩ := cells2 s6
      obtain ⟨vx0, vx1⟩ := cells2 x6
      obtain ⟨vi0, vi1⟩ := cells2 i6
      go_wp2_with fail
      clear vg0 vg1 vg2 vg3 vr0 vr1 vc0 vc1 vc2 vc3 vs0 vs1 vx0 vx1 vi0 vi1
      refine (eqRank_is pw' HLL.out I6.out.row S6.out.row (by omega)).mono ?_
      rintro e w7 ⟨rfl, hb7⟩
      have g7 := keep_block hb7 g6 (lt_of_block g6)
      have r7 := keep_block hb7 r6 (lt_of_block r6)
      have c7 := keep_block hb7 c6 (lt_of_block c6)
      have s7 := keep_block hb7 s6 (lt_of_block s6)
      have x7 := keep_block hb7 x6 (lt_of_block x6)
      have i7 := keep_block hb7 i6 (lt_of_block i6)
      have S7 : Hid (OwnK (w2.heap.size) (.slice Sa n Sc) l' w7) := S6.out.below hb7
      have X7 : Hid (OwnK w3.heap.size (.slice Xa n Xc) zs w7) := X6.out.below hb7
      have I7 : Hid (OwnK (w5.heap.size) (.slice Ia n Ic) l' w7) := I6.out.below hb7
      have HB7 : Hid (Below w.heap.size w w7) := HB6.out.trans (hb7.mono HB6.out.size)
      clear g6 r6 c6 s6 x6 i6 S6 X6 I6 HB6
      clear hb7
      go_wp2_with fail
      refine wp_region_float (A := ?A3) [.h, .h, .t, .t, .e] (by kernel_rfl) (by kernel_rfl) (fun u => u.heap[(w.heap.size + 1)]? = some (.cells #[.slice ad n cap, .int .i64 pw] 53) ∧ u.heap[xP]? = some (.cells #[.slice Xa n Xc, .int .i64 pw] 28)) ?hC3 ?hH3 ?hT3
      case hC3 => exact ⟨r7, x7⟩
      case hH3 =>
        intro u hu
        obtain ⟨a0, a1⟩ := cells2 hu.1
        have z0 := fun q : Same u => q.cell a0
        have z1 := fun q : Same u => q.cell a1
        obtain ⟨a2, a3⟩ := cells2 hu.2
        have z2 := fun q : Same u => q.cell a2
        have z3 := fun q : Same u => q.cell a3
        simp only [headsOf]
        repeat (go_big_quiet_step (fail))
        refine wpQuiet_nil ?_
        exact rfl
      case hT3 =>
        simp only [chainT]
        have g8 : w7.drew.heap[w.heap.size]? = some (.cells #[.int .i64 ea, .int .i64 eb, .int .i64 ec, .int .i64 ed] 48) := g7
        have r8 : w7.drew.heap[(w.heap.size + 1)]? = some (.cells #[.slice ad n cap, .int .i64 pw] 53) := r7
        have c8 : w7.drew.heap[(w.heap.size + 1 + 1)]? = some (.cells #[.int .i64 ck, .int .i64 cx, .int .i64 cy, .int .i64 cz] 57) := c7
        have s8 : w7.drew.heap[sP]? = some (.cells #[.slice Sa n Sc, .int .i64 pw'] 28) := s7
        have x8 : w7.drew.heap[xP]? = some (.cells #[.slice Xa n Xc, .int .i64 pw] 28) := x7
        have i8 : w7.drew.heap[iP]? = some (.cells #[.slice Ia n Ic, .int .i64 pw'] 28) := i7
        have S8 : Hid (OwnK (w2.heap.size) (.slice Sa n Sc) l' w7.drew) := S7.out
        have X8 : Hid (OwnK w3.heap.size (.slice Xa n Xc) zs w7.drew) := X7.out
        have I8 : Hid (OwnK (w5.heap.size) (.slice Ia n Ic) l' w7.drew) := I7.out
        have HB8 : Hid (Below w.heap.size w w7.drew) := Below.drew HB7.out
        clear g7 r7 c7 s7 x7 i7 S7 X7 I7 HB7
        generalize w7.drew = w8 at g8 r8 c8 s8 x8 i8 S8 X8 I8 HB8 ⊢
        go_wp2_with fail
        refine (toRank_is _ _ _ _ _ HZ.out (by omega) _ (HR0.out _ HB8.out)).mono ?_
        rintro e w9 ⟨Ea, Ec, rfl, own9, hb9⟩
        have g9 := keep_block hb9 g8 (lt_of_block g8)
        have r9 := keep_block hb9 r8 (lt_of_block r8)
        have c9 := keep_block hb9 c8 (lt_of_block c8)
        have s9 := keep_block hb9 s8 (lt_of_block s8)
        have x9 := keep_block hb9 x8 (lt_of_block x8)
        have i9 := keep_block hb9 i8 (lt_of_block i8)
        have S9 : Hid (OwnK (w2.heap.size) (.slice Sa n Sc) l' w9) := S8.out.below hb9
        have X9 : Hid (OwnK w3.heap.size (.slice Xa n Xc) zs w9) := X8.out.below hb9
        have I9 : Hid (OwnK (w5.heap.size) (.slice Ia n Ic) l' w9) := I8.out.below hb9
        have HB9 : Hid (Below w.heap.size w w9) := HB8.out.trans (hb9.mono HB8.out.size)
        clear g8 r8 c8 s8 x8 i8 S8 X8 I8 HB8
        have E9 : Hid (RowB w9 Ea zs) := own9.row
        clear own9
        clear hb9
        go_wp2_with fail
        refine stepQ_normal ⟨⟨r9, x9⟩, ?_⟩
        go_wp2_with fail
        refine (eqRank_is pw HZ.out X9.out.row E9.out (by omega)).mono ?_
        rintro e w10 ⟨rfl, hb10⟩
        have g10 := keep_block hb10 g9 (lt_of_block g9)
        have r10 := keep_block hb10 r9 (lt_of_block r9)
        have c10 := keep_block hb10 c9 (lt_of_block c9)
        have s10 := keep_block hb10 s9 (lt_of_block s9)
        have x10 := keep_block hb10 x9 (lt_of_block x9)
        have i10 := keep_block hb10 i9 (lt_of_block i9)
        have S10 : Hid (OwnK (w2.heap.size) (.slice Sa n Sc) l' w10) := S9.out.below hb10
        have X10 : Hid (OwnK w3.heap.size (.slice Xa n Xc) zs w10) := X9.out.below hb10
        have I10 : Hid (OwnK (w5.heap.size) (.slice Ia n Ic) l' w10) := I9.out.below hb10
        have E10 : Hid (RowB w10 Ea zs) := E9.out.below hb10
        have HB10 : Hid (Below w.heap.size w w10) := HB9.out.trans (hb10.mono HB9.out.size)
        clear g9 r9 c9 s9 x9 i9 S9 X9 I9 E9 HB9
        clear hb10
        go_wp2_with fail
        refine stepQ_normal ⟨⟨r10, x10⟩, ?_⟩
        go_wp2_with fail
        refine stepQ_normal ⟨trivial, ?_⟩
        clear E10
        obtain ⟨vg0, vg1, vg2, vg3⟩ := cells4 g10
        obtain ⟨vr0, vr1⟩ := cells2 r10
        obtain ⟨vc0, vc1, vc2, vc3⟩ := cells4 c10
        obtain ⟨vs0, vs1⟩ := cells2 s10
        obtain ⟨vx0, vx1⟩ := cells2 x10
        obtain ⟨vi0, vi1⟩ := cells2 i10
        go_wp2_with fail
        clear vg0 vg1 vg2 vg3 vr0 vr1 vc0 vc1 vc2 vc3 vs0 vs1 vx0 vx1 vi0 vi1
        have hSB := HSB.out
        have hXB := HXB.out
        have hXP := HXP.out
        have hIB := HIB.out
        have hIG := HIG.out
        have loS := S10.out.lo
        have loI := I10.out.lo
        have hxs := lt_of_block x10
        have his := lt_of_block i10
        obtain ⟨gi, hgi, hge, hne, hni, hS, hI⟩ : ∃ gi, (∀ x, Xa = some x → x.block = gi) ∧ w3.heap.size ≤ gi ∧ gi ≠ xP ∧ gi ≠ iP ∧ (∀ x, Sa = some x → x.block ≠ gi) ∧ (∀ x, Ia = some x → x.block ≠ gi) := by
          rcases hXa : Xa with _ | x
          · exact ⟨w10.heap.size, (fun x h => by cases h), by omega, by omega, by omega, (fun x hx => by have := (loS x hx).2; omega), (fun x hx => by have := (loI x hx).2; omega)⟩
          · have h2 := hXB.2 x hXa
            exact ⟨x.block, (fun y h => by cases h; rfl), h2.1, by omega, by omega, (fun y hy => by have := hSB.2.2 y hy; omega), (fun y hy => by have := (loI y hy).1; omega)⟩
        refine (markRank_is pw HZ.out X10.out 1 (by omega) gi hgi).mono ?_
        rintro e w11 ⟨rfl, M', ho11⟩
        have g11 := (ho11.block _ (lt_of_block g10) (by omega)).trans g10
        have r11 := (ho11.block _ (lt_of_block r10) (by omega)).trans r10
        have c11 := (ho11.block _ (lt_of_block c10) (by omega)).trans c10
        have s11 := (ho11.block _ (lt_of_block s10) (by omega)).trans s10
        have i11 := (ho11.block _ (lt_of_block i10) (by omega)).trans i10
        have S11 : Hid (OwnK (w2.heap.size) (.slice Sa n Sc) l' w11) := S10.out.keep ho11 hS
        have I11 : Hid (OwnK (w5.heap.size) (.slice Ia n Ic) l' w11) := I10.out.keep ho11 hI
        have HB11 : Hid (Below w.heap.size w w11) := HB10.out.trans (ho11.below (by omega) HB10.out.size)
        have km0 : ¬ mkK 1 n < 0 := by unfold mkK; omega
        obtain ⟨km, hkm⟩ : ∃ u, mkK 1 n = u := ⟨_, rfl⟩
        have HKM := Lib.hid hkm
        rw [hkm] at km0
        (try simp only [hkm])
        have tkm : decide (km < 0) = false := decide_eq_false km0
        have tke : (km != km) = false := by simp
        have HSI : Hid (w.heap.size + 1 + 1 < w5.heap.size ∧ sP < w5.heap.size ∧ ∀ x, Sa = some x → x.block < w5.heap.size) := ⟨by omega, by omega, fun x hx => by have := hSB.2.2 x hx; omega⟩
        clear g10 r10 c10 s10 x10 i10 S10 I10 X10 HB10 ho11 M' hSB hXB hXP hIB hIG hge hne hni hgi hkm loS loI hxs his hS hI km0
        obtain ⟨vg0, vg1, vg2, vg3⟩ := cells4 g11
        obtain ⟨vr0, vr1⟩ := cells2 r11
        obtain ⟨vc0, vc1, vc2, vc3⟩ := cells4 c11
        obtain ⟨vs0, vs1⟩ := cells2 s11
        obtain ⟨vi0, vi1⟩ := cells2 i11
        go_wp2_with fail
        clear vg0 vg1 vg2 vg3 vr0 vr1 vc0 vc1 vc2 vc3 vs0 vs1 vi0 vi1
        refine (eqRank_is pw' HLL.out I11.out.row S11.out.row (by omega)).mono ?_
        rintro e w12 ⟨rfl, hb12⟩
        have g12 := keep_block hb12 g11 (lt_of_block g11)
        have r12 := keep_block hb12 r11 (lt_of_block r11)
        have c12 := keep_block hb12 c11 (lt_of_block c11)
        have s12 := keep_block hb12 s11 (lt_of_block s11)
        have i12 := keep_block hb12 i11 (lt_of_block i11)
        have S12 : Hid (OwnK (w2.heap.size) (.slice Sa n Sc) l' w12) := S11.out.below hb12
        have I12 : Hid (OwnK (w5.heap.size) (.slice Ia n Ic) l' w12) := I11.out.below hb12
        have HB12 : Hid (Below w.heap.size w w12) := HB11.out.trans (hb12.mono HB11.out.size)
        clear g11 r11 c11 s11 i11 S11 I11 HB11
        clear hb12
        obtain ⟨vg0, vg1, vg2, vg3⟩ := cells4 g12
        obtain ⟨vr0, vr1⟩ := cells2 r12
        obtain ⟨vc0, vc1, vc2, vc3⟩ := cells4 c12
        obtain ⟨vs0, vs1⟩ := cells2 s12
        obtain ⟨vi0, vi1⟩ := cells2 i12
        go_wp2_with fail
        clear vg0 vg1 vg2 vg3 vr0 vr1 vc0 vc1 vc2 vc3 vs0 vs1 vi0 vi1
        have hSI := HSI.out
        have hIG := HIG.out
        have loI := I12.out.lo
        have his := lt_of_block i12
        have hap := I12.out.apart i12
        obtain ⟨gj, hgj, hge, hni, hS⟩ : ∃ gj, (∀ x, Ia = some x → x.block = gj) ∧ w5.heap.size ≤ gj ∧ gj ≠ iP ∧ (∀ x, Sa = some x → x.block ≠ gj) := by
          rcases hIa : Ia with _ | x
          · exact ⟨w12.heap.size, (fun x h => by cases h), by omega, by omega, (fun x hx => by have := hSI.2.2 x hx; omega)⟩
          · exact ⟨x.block, (fun y h => by cases h; rfl), (loI x hIa).1, hap x hIa, (fun y hy => by have := hSI.2.2 y hy; have := (loI x hIa).1; omega)⟩
        refine (markRank_is pw' HLL.out I12.out 1 (by omega) gj hgj).mono ?_
        rintro e w13 ⟨rfl, M', ho13⟩
        have g13 := (ho13.block _ (lt_of_block g12) (by omega)).trans g12
        have r13 := (ho13.block _ (lt_of_block r12) (by omega)).trans r12
        have c13 := (ho13.block _ (lt_of_block c12) (by omega)).trans c12
        have s13 := (ho13.block _ (lt_of_block s12) (by omega)).trans s12
        have i13 := (ho13.block _ (lt_of_block i12) (by omega)).trans i12
        have S13 : Hid (OwnK (w2.heap.size) (.slice Sa n Sc) l' w13) := S12.out.keep ho13 hS
        have M13 : Hid (RowB w13 Ia (marksK 1 n)) := M'.row
        have HB13 : Hid (Below w.heap.size w w13) := HB12.out.trans (ho13.below (by omega) HB12.out.size)
        have HH : Hid (∀ u : World, RowB u Ia (marksK 1 n) → Calls Try.prog 28 #[.agg #[.slice Ia n Ic, .int .i64 pw'], .int .i64 ((1 : Nat) : Int)] u (Gives (.int .i64 km) u)) := fun u h => by rw [← HKM.out]; exact heldRank_is pw' 1 h (by omega)
        (try simp only [HKM.out])
        clear g12 r12 c12 s12 i12 S12 I12 HB12 ho13 M' hSI hIG hge hni hgj loI his hap hS
        obtain ⟨vg0, vg1, vg2, vg3⟩ := cells4 g13
        obtain ⟨vr0, vr1⟩ := cells2 r13
        obtain ⟨vc0, vc1, vc2, vc3⟩ := cells4 c13
        obtain ⟨vs0, vs1⟩ := cells2 s13
        obtain ⟨vi0, vi1⟩ := cells2 i13
        go_wp2_with fail
        clear vg0 vg1 vg2 vg3 vr0 vr1 vc0 vc1 vc2 vc3 vs0 vs1 vi0 vi1
        refine (HH.out _ M13.out).mono ?_
        rintro e w14 ⟨rfl, hb14⟩
        have g14 := keep_block hb14 g13 (lt_of_block g13)
        have r14 := keep_block hb14 r13 (lt_of_block r13)
        have c14 := keep_block hb14 c13 (lt_of_block c13)
        have s14 := keep_block hb14 s13 (lt_of_block s13)
        have i14 := keep_block hb14 i13 (lt_of_block i13)
        have S14 : Hid (OwnK (w2.heap.size) (.slice Sa n Sc) l' w14) := S13.out.below hb14
        have M14 : Hid (RowB w14 Ia (marksK 1 n)) := M13.out.below hb14
        have HB14 : Hid (Below w.heap.size w w14) := HB13.out.trans (hb14.mono HB13.out.size)
        clear g13 r13 c13 s13 i13 S13 M13 HB13
        clear hb14
        go_wp2_with fail
        refine wp_region_flowV (fun k => match k with | 0 => some (.agg #[.int .i64 ea, .int .i64 eb, .int .i64 ec, .int .i64 ed]) | 1 => some (.agg #[.int .i64 ea, .int .i64 eb, .int .i64 ec, .int .i64 ed]) | 2 => some (.agg #[.slice ad n cap, .int .i64 pw]) | 4 => some (.agg #[.int .i64 ck, .int .i64 cx, .int .i64 cy, .int .i64 cz]) | 5 => some (.agg #[.int .i64 ck, .int .i64 cx, .int .i64 cy, .int .i64 cz]) | 9 => some (.bool v) | 12 => some (.bool v) | _ => none) (fun listed x u => FactW 3 6 (fun q u => ∃ aa cc, q = .agg #[.slice aa n cc, .int .i64 pw] ∧ OwnK (w14.heap.size) (.slice aa n cc) zs u) listed x u ∧ FactW 6 7 (fun q u => ∃ aa cc, q = .tuple #[.agg #[.slice aa n cc, .int .i64 pw'], .bool v] ∧ OwnK (w14.heap.size) (.slice aa n cc) l' u) listed x u ∧ FactW 7 8 (fun q u => ∃ aa cc, q = .tuple #[.agg #[.slice aa n cc, .int .i64 pw'], .bool v] ∧ OwnK (w14.heap.size) (.slice aa n cc) l' u) listed x u ∧ Fact 7 (fun q => ∃ (aa : Option Addr) (cc : Nat), q = .tuple #[.agg #[.slice aa n cc, .int .i64 pw'], .bool v]) listed x ∧ FactW 8 11 (fun q u => ∃ aa cc, q = .agg #[.slice aa n cc, .int .i64 pw'] ∧ OwnK (w14.heap.size) (.slice aa n cc) l' u) listed x u ∧ MadeR 10 11 (w14.heap.size) n l' pw' listed x u) (fun _ => undef) (by kernel_rfl) (by kernel_rfl) ?hx4 ?hS4 ?hs4 ?he4
        case hx4 => simp only [putsX, Act.put, List.setIfInBounds_toArray, List.set_cons_zero, List.set_cons_succ]
        case hS4 => exact ⟨FactW.zero _ _ _ _ _ _, FactW.zero _ _ _ _ _ _, FactW.zero _ _ _ _ _ _, Fact.zero _ _ _ _, FactW.zero _ _ _ _ _ _, MadeR.zero _ _ _ _ _ _ _ _ _⟩
        case hs4 =>
          simp only [flowSteps]
          refine ⟨?s4_0, ?s4_1, ?s4_2, ?s4_3, ?s4_4, ?s4_5, ?s4_6, ?s4_7, ?s4_8, ?s4_9, ?s4_10, ?s4_11, ?s4_12, trivial⟩
          case s4_0 =>
            intro listed bb u hsz hn hwt hinv
            obtain ⟨x, rfl, hC, hU, h3, h6, h7, p7, h8, hM⟩ := hinv
            simp only [putsX, Act.put, List.setIfInBounds_toArray, List.set_cons_zero, List.set_cons_succ]
            obtain ⟨a0, a1, a2, a3⟩ := cells4 (keep_block hC g14 (lt_of_block g14))
            go_wp2_with fail
            refine stepQ_normal ⟨trivial, upd x 0 (.agg #[.int .i64 ea, .int .i64 eb, .int .i64 ec, .int .i64 ed]), ?_, hC, hU.step (fun _ h => Option.some.inj h), h3.keep (by decide) (by decide) _ id, h6.keep (by decide) (by decide) _ id, h7.keep (by decide) (by decide) _ id, p7.keep (by decide) _, h8.keep (by decide) (by decide) _ id, hM.keep (by decide) (by decide) _ (Below.refl _ _)⟩
            simp only [upd]
            rfl
          case s4_1 =>
            intro listed bb u hsz hn hwt hinv
            obtain ⟨x, rfl, hC, hU, h3, h6, h7, p7, h8, hM⟩ := hinv
            have f0 := Lib.hid (hU 0 _ rfl (hwt 0 (by kernel_rfl)))
            simp only [putsX, Act.put, List.setIfInBounds_toArray, List.set_cons_zero, List.set_cons_succ]
            have hcall : Calls Try.prog 25 #[x 0] u (Gives (.agg #[.int .i64 ea, .int .i64 eb, .int .i64 ec, .int .i64 ed]) u) := by rw [f0.out]; exact toGeometry_any _ _ _ _ _
            go_wp2_with fail
            refine hcall.mono ?_
            rintro e u' ⟨rfl, hb⟩
            go_wp2_with fail
            refine stepQ_normal ⟨trivial, upd x 1 (.agg #[.int .i64 ea, .int .i64 eb, .int .i64 ec, .int .i64 ed]), ?_, hC.trans (hb.mono hC.size), hU.step (fun _ h => Option.some.inj h), h3.keep (by decide) (by decide) _ (fun ⟨a1, a2, a3, a4⟩ => ⟨a1, a2, a3, a4.below (hb)⟩), h6.keep (by decide) (by decide) _ (fun ⟨a1, a2, a3, a4⟩ => ⟨a1, a2, a3, a4.below (hb)⟩), h7.keep (by decide) (by decide) _ (fun ⟨a1, a2, a3, a4⟩ => ⟨a1, a2, a3, a4.below (hb)⟩), p7.keep (by decide) _, h8.keep (by decide) (by decide) _ (fun ⟨a1, a2, a3, a4⟩ => ⟨a1, a2, a3, a4.below (hb)⟩), hM.keep (by decide) (by decide) _ (hb)⟩
            simp only [upd]
            rfl
          case s4_2 =>
            intro listed bb u hsz hn hwt hinv
            obtain ⟨x, rfl, hC, hU, h3, h6, h7, p7, h8, hM⟩ := hinv
            simp only [putsX, Act.put, List.setIfInBounds_toArray, List.set_cons_zero, List.set_cons_succ]
            obtain ⟨a0, a1⟩ := cells2 (keep_block hC r14 (lt_of_block r14))
            go_wp2_with fail
            refine stepQ_normal ⟨trivial, upd x 2 (.agg #[.slice ad n cap, .int .i64 pw]), ?_, hC, hU.step (fun _ h => Option.some.inj h), h3.keep (by decide) (by decide) _ id, h6.keep (by decide) (by decide) _ id, h7.keep (by decide) (by decide) _ id, p7.keep (by decide) _, h8.keep (by decide) (by decide) _ id, hM.keep (by decide) (by decide) _ (Below.refl _ _)⟩
            simp only [upd]
            rfl
          case s4_3 =>
            intro listed bb u hsz hn hwt hinv
            obtain ⟨x, rfl, hC, hU, h3, h6, h7, p7, h8, hM⟩ := hinv
            have f2 := Lib.hid (hU 2 _ rfl (hwt 2 (by kernel_rfl)))
            simp only [putsX, Act.put, List.setIfInBounds_toArray, List.set_cons_zero, List.set_cons_succ]
            have hcall : Calls Try.prog 31 #[x 2] u (GivesK n zs pw u) := by rw [f2.out]; exact toRank_is _ _ _ _ _ HZ.out (by omega) _ (HR0.out _ (HB14.out.trans (hC.mono HB14.out.size)))
            go_wp2_with fail
            refine hcall.mono ?_
            rintro e u' ⟨aa, cc, rfl, own, hb⟩
            go_wp2_with fail
            refine stepQ_normal ⟨trivial, upd x 3 (.agg #[.slice aa n cc, .int .i64 pw]), ?_, hC.trans (hb.mono hC.size), hU.step (fun _ h => by cases h), FactW.new ⟨aa, cc, rfl, own.mono hC.size⟩, h6.keep (by decide) (by decide) _ (fun ⟨a1, a2, a3, a4⟩ => ⟨a1, a2, a3, a4.below (hb)⟩), h7.keep (by decide) (by decide) _ (fun ⟨a1, a2, a3, a4⟩ => ⟨a1, a2, a3, a4.below (hb)⟩), p7.keep (by decide) _, h8.keep (by decide) (by decide) _ (fun ⟨a1, a2, a3, a4⟩ => ⟨a1, a2, a3, a4.below (hb)⟩), hM.keep (by decide) (by decide) _ (hb)⟩
            simp only [upd]
            rfl
          case s4_4 =>
            intro listed bb u hsz hn hwt hinv
            obtain ⟨x, rfl, hC, hU, h3, h6, h7, p7, h8, hM⟩ := hinv
            simp only [putsX, Act.put, List.setIfInBounds_toArray, List.set_cons_zero, List.set_cons_succ]
            obtain ⟨a0, a1, a2, a3⟩ := cells4 (keep_block hC c14 (lt_of_block c14))
            go_wp2_with fail
            refine stepQ_normal ⟨trivial, upd x 4 (.agg #[.int .i64 ck, .int .i64 cx, .int .i64 cy, .int .i64 cz]), ?_, hC, hU.step (fun _ h => Option.some.inj h), h3.keep (by decide) (by decide) _ id, h6.keep (by decide) (by decide) _ id, h7.keep (by decide) (by decide) _ id, p7.keep (by decide) _, h8.keep (by decide) (by decide) _ id, hM.keep (by decide) (by decide) _ (Below.refl _ _)⟩
            simp only [upd]
            rfl
          case s4_5 =>
            intro listed bb u hsz hn hwt hinv
            obtain ⟨x, rfl, hC, hU, h3, h6, h7, p7, h8, hM⟩ := hinv
            have f4 := Lib.hid (hU 4 _ rfl (hwt 4 (by kernel_rfl)))
            simp only [putsX, Act.put, List.setIfInBounds_toArray, List.set_cons_zero, List.set_cons_succ]
            have hcall : Calls Try.prog 33 #[x 4] u (Gives (.agg #[.int .i64 ck, .int .i64 cx, .int .i64 cy, .int .i64 cz]) u) := by rw [f4.out]; exact toCommand_any _ _ _ _ _
            go_wp2_with fail
            refine hcall.mono ?_
            rintro e u' ⟨rfl, hb⟩
            go_wp2_with fail
            refine stepQ_normal ⟨trivial, upd x 5 (.agg #[.int .i64 ck, .int .i64 cx, .int .i64 cy, .int .i64 cz]), ?_, hC.trans (hb.mono hC.size), hU.step (fun _ h => Option.some.inj h), h3.keep (by decide) (by decide) _ (fun ⟨a1, a2, a3, a4⟩ => ⟨a1, a2, a3, a4.below (hb)⟩), h6.keep (by decide) (by decide) _ (fun ⟨a1, a2, a3, a4⟩ => ⟨a1, a2, a3, a4.below (hb)⟩), h7.keep (by decide) (by decide) _ (fun ⟨a1, a2, a3, a4⟩ => ⟨a1, a2, a3, a4.below (hb)⟩), p7.keep (by decide) _, h8.keep (by decide) (by decide) _ (fun ⟨a1, a2, a3, a4⟩ => ⟨a1, a2, a3, a4.below (hb)⟩), hM.keep (by decide) (by decide) _ (hb)⟩
            simp only [upd]
            rfl
          case s4_6 =>
            intro listed bb u hsz hn hwt hinv
            obtain ⟨x, rfl, hC, hU, h3, h6, h7, p7, h8, hM⟩ := hinv
            have f1 := Lib.hid (hU 1 _ rfl (hwt 1 (by kernel_rfl)))
            have f5 := Lib.hid (hU 5 _ rfl (hwt 5 (by kernel_rfl)))
            simp only [putsX, Act.put, List.setIfInBounds_toArray, List.set_cons_zero, List.set_cons_succ]
            obtain ⟨aa, cc, fp, hown⟩ := h3 (hwt 3 (by kernel_rfl)) hn
            have hcall : Calls Try.prog 13 #[x 1, x 3, x 5] u (GivesA n l' pw' v u) := by rw [fp, f1.out, f5.out]; exact IMPL.out _ _ _ _ _ _ _ _ _ _ _ _ _ _ _ _ HV.out HLP.out HPP.out HZ.out (by omega) hown.none _ hown.row
            clear fp
            go_wp2_with fail
            refine hcall.mono ?_
            rintro e u' ⟨ab, cb, rfl, own, hb⟩
            go_wp2_with fail
            refine stepQ_normal ⟨trivial, upd x 6 (.tuple #[.agg #[.slice ab n cb, .int .i64 pw'], .bool v]), ?_, hC.trans (hb.mono hC.size), hU.step (fun _ h => by cases h), FactW.call (by rw [hsz]; decide), FactW.new ⟨ab, cb, rfl, own.mono hC.size⟩, h7.keep (by decide) (by decide) _ (fun ⟨a1, a2, a3, a4⟩ => ⟨a1, a2, a3, a4.below (hb)⟩), p7.keep (by decide) _, h8.keep (by decide) (by decide) _ (fun ⟨a1, a2, a3, a4⟩ => ⟨a1, a2, a3, a4.below (hb)⟩), hM.keep (by decide) (by decide) _ (hb)⟩
            simp only [upd]
            rfl
          case s4_7 =>
            intro listed bb u hsz hn hwt hinv
            obtain ⟨x, rfl, hC, hU, h3, h6, h7, p7, h8, hM⟩ := hinv
            simp only [putsX, Act.put, List.setIfInBounds_toArray, List.set_cons_zero, List.set_cons_succ]
            obtain ⟨aa, cc, fp, hown⟩ := h6 (hwt 6 (by kernel_rfl)) hn
            go_wp2_with fail
            refine stepQ_normal ⟨trivial, upd x 7 (x 6), ?_, hC, hU.step (fun _ h => by cases h), h3.keep (by decide) (by decide) _ id, FactW.call (by rw [hsz]; decide), FactW.new ⟨aa, cc, fp, hown⟩, Fact.new ⟨aa, cc, fp⟩, h8.keep (by decide) (by decide) _ id, hM.keep (by decide) (by decide) _ (Below.refl _ _)⟩
            simp only [upd]
            rfl
          case s4_8 =>
            intro listed bb u hsz hn hwt hinv
            obtain ⟨x, rfl, hC, hU, h3, h6, h7, p7, h8, hM⟩ := hinv
            simp only [putsX, Act.put, List.setIfInBounds_toArray, List.set_cons_zero, List.set_cons_succ]
            obtain ⟨aa, cc, fp, hown⟩ := h7 (hwt 7 (by kernel_rfl)) hn
            have FP := Lib.hid fp
            rw [FP.out]
            clear fp
            go_wp2_with fail
            refine stepQ_normal ⟨trivial, upd x 8 (.agg #[.slice aa n cc, .int .i64 pw']), ?_, hC, hU.step (fun _ h => by cases h), h3.keep (by decide) (by decide) _ id, h6.keep (by decide) (by decide) _ id, FactW.call (by rw [hsz]; decide), p7.keep (by decide) _, FactW.new ⟨aa, cc, rfl, hown⟩, hM.keep (by decide) (by decide) _ (Below.refl _ _)⟩
            simp only [upd]
            simp only [FP.out]
            (try rfl)
          case s4_9 =>
            intro listed bb u hsz hn hwt hinv
            obtain ⟨x, rfl, hC, hU, h3, h6, h7, p7, h8, hM⟩ := hinv
            simp only [putsX, Act.put, List.setIfInBounds_toArray, List.set_cons_zero, List.set_cons_succ]
            obtain ⟨aa, cc, fp⟩ := p7 (hwt 7 (by kernel_rfl))
            have FP := Lib.hid fp
            rw [FP.out]
            clear fp
            go_wp2_with fail
            refine stepQ_normal ⟨trivial, upd x 9 (.bool v), ?_, hC, hU.step (fun _ h => Option.some.inj h), h3.keep (by decide) (by decide) _ id, h6.keep (by decide) (by decide) _ id, h7.keep (by decide) (by decide) _ id, p7.keep (by decide) _, h8.keep (by decide) (by decide) _ id, hM.keep (by decide) (by decide) _ (Below.refl _ _)⟩
            simp only [upd]
            simp only [FP.out]
            (try rfl)
          case s4_10 =>
            intro listed bb u hsz hn hwt hinv
            obtain ⟨x, rfl, hC, hU, h3, h6, h7, p7, h8, hM⟩ := hinv
            simp only [putsX, Act.put, List.setIfInBounds_toArray, List.set_cons_zero, List.set_cons_succ]
            go_wp2_with fail
            refine stepQ_normal ⟨trivial, upd x 10 (.pointer (some ⟨u.heap.size, 0, none⟩)), ?_, hC.alloc hC.size _, hU.step (fun _ h => by cases h), h3.keep (by decide) (by decide) _ (fun ⟨a1, a2, a3, a4⟩ => ⟨a1, a2, a3, a4.below (below_alloc _)⟩), h6.keep (by decide) (by decide) _ (fun ⟨a1, a2, a3, a4⟩ => ⟨a1, a2, a3, a4.below (below_alloc _)⟩), h7.keep (by decide) (by decide) _ (fun ⟨a1, a2, a3, a4⟩ => ⟨a1, a2, a3, a4.below (below_alloc _)⟩), p7.keep (by decide) _, h8.keep (by decide) (by decide) _ (fun ⟨a1, a2, a3, a4⟩ => ⟨a1, a2, a3, a4.below (below_alloc _)⟩), hM.new (by decide) hn hC.size⟩
            simp only [upd]
            rfl
          case s4_11 =>
            intro listed bb u hsz hn hwt hinv
            obtain ⟨x, rfl, hC, hU, h3, h6, h7, p7, h8, hM⟩ := hinv
            simp only [putsX, Act.put, List.setIfInBounds_toArray, List.set_cons_zero, List.set_cons_succ]
            obtain ⟨g, fg, hg, hh⟩ := hM.there (hwt 10 (by kernel_rfl)) hn
            obtain ⟨aa, cc, fp, hown⟩ := h8 (hwt 8 (by kernel_rfl)) hn
            have FG := Lib.hid fg
            have FP := Lib.hid fp
            rw [FG.out, FP.out]
            obtain ⟨y0, y1⟩ := cells2 hh
            have t0 := thawed hh 0
            have t1 := thawed hh 1
            have hne := hown.apart hh
            have hfin := set_cells (set_cells hh 0 (.slice aa n cc)) 1 (.int .i64 pw')
            have hown2 := (hown.setCell (p := ⟨g, 0, none⟩) hne (.slice aa n cc)).setCell (p := ⟨g, 1, none⟩) hne (.int .i64 pw')
            clear hh fg fp hown hne
            go_wp2_with fail
            refine stepQ_normal ⟨trivial, upd x 11 undef, ?_, (hC.setCell (by exact hg) _).setCell (by exact hg) _, hU.step (fun _ h => by cases h), FactW.gone (hwt 6 (by kernel_rfl)), FactW.gone (hwt 7 (by kernel_rfl)), FactW.gone (hwt 8 (by kernel_rfl)), p7.keep (by decide) _, FactW.call (by rw [hsz]; decide), MadeR.fill (by decide) (hwt 10 (by kernel_rfl)) (by rw [hsz]; decide) FG.out hg hfin hown2⟩
            simp only [upd]
            simp only [FG.out, FP.out]
            (try rfl)
          case s4_12 =>
            intro listed bb u hsz hn hwt hinv
            obtain ⟨x, rfl, hC, hU, h3, h6, h7, p7, h8, hM⟩ := hinv
            have f9 := Lib.hid (hU 9 _ rfl (hwt 9 (by kernel_rfl)))
            simp only [putsX, Act.put, List.setIfInBounds_toArray, List.set_cons_zero, List.set_cons_succ]
            rw [f9.out]
            go_wp2_with fail
            refine stepQ_normal ⟨trivial, upd x 12 (.bool v), ?_, hC, hU.step (fun _ h => Option.some.inj h), h3.keep (by decide) (by decide) _ id, h6.keep (by decide) (by decide) _ id, h7.keep (by decide) (by decide) _ id, p7.keep (by decide) _, h8.keep (by decide) (by decide) _ id, hM.keep (by decide) (by decide) _ (Below.refl _ _)⟩
            simp only [upd]
            simp only [f9.out]
            (try rfl)
        case he4 =>
          intro listed q u hall hC hU hS
          obtain ⟨h3, h6, h7, p7, h8, hM⟩ := hS
          obtain ⟨jP, Ja, Jc, fg, hg, hh, hown⟩ := hM.full (hall 10 (by decide)) (hall 11 (by decide))
          have fb := hU 12 _ rfl (hall 12 (by decide))
          simp only [putsX, Act.put, List.setIfInBounds_toArray, List.set_cons_zero, List.set_cons_succ]
          rw [fg, fb]
          clear hall hU h3 h6 h7 p7 h8 hM fg fb
          obtain ⟨w15, rfl⟩ : ∃ v, v = u := ⟨_, rfl⟩
          have g15 := keep_block hC g14 (lt_of_block g14)
          have r15 := keep_block hC r14 (lt_of_block r14)
          have c15 := keep_block hC c14 (lt_of_block c14)
          have s15 := keep_block hC s14 (lt_of_block s14)
          have i15 := keep_block hC i14 (lt_of_block i14)
          have S15 : Hid (OwnK (w2.heap.size) (.slice Sa n Sc) l' w15) := S14.out.below hC
          have M15 : Hid (RowB w15 Ia (marksK 1 n)) := M14.out.below hC
          have HB15 : Hid (Below w.heap.size w w15) := HB14.out.trans (hC.mono HB14.out.size)
          have j15 := hh
          have J15 : Hid (OwnK (w14.heap.size) (.slice Ja n Jc) l' w15) := hown
          have HJG : Hid (w14.heap.size ≤ jP ∧ w14.heap.size ≤ w15.heap.size) := ⟨hg, hC.size⟩
          clear hh hown hg
          clear g14 r14 c14 s14 i14 S14 M14 HB14
          clear hC
          obtain ⟨vg0, vg1, vg2, vg3⟩ := cells4 g15
          obtain ⟨vr0, vr1⟩ := cells2 r15
          obtain ⟨vc0, vc1, vc2, vc3⟩ := cells4 c15
          obtain ⟨vs0, vs1⟩ := cells2 s15
          obtain ⟨vi0, vi1⟩ := cells2 i15
          obtain ⟨vj0, vj1⟩ := cells2 j15
          go_wp2_with fail
          clear vg0 vg1 vg2 vg3 vr0 vr1 vc0 vc1 vc2 vc3 vs0 vs1 vi0 vi1 vj0 vj1
          refine (eqRank_is pw' HLL.out J15.out.row S15.out.row (by omega)).mono ?_
          rintro e w16 ⟨rfl, hb16⟩
          have g16 := keep_block hb16 g15 (lt_of_block g15)
          have r16 := keep_block hb16 r15 (lt_of_block r15)
          have c16 := keep_block hb16 c15 (lt_of_block c15)
          have s16 := keep_block hb16 s15 (lt_of_block s15)
          have i16 := keep_block hb16 i15 (lt_of_block i15)
          have j16 := keep_block hb16 j15 (lt_of_block j15)
          have S16 : Hid (OwnK (w2.heap.size) (.slice Sa n Sc) l' w16) := S15.out.below hb16
          have M16 : Hid (RowB w16 Ia (marksK 1 n)) := M15.out.below hb16
          have J16 : Hid (OwnK (w14.heap.size) (.slice Ja n Jc) l' w16) := J15.out.below hb16
          have HB16 : Hid (Below w.heap.size w w16) := HB15.out.trans (hb16.mono HB15.out.size)
          clear g15 r15 c15 s15 i15 j15 S15 M15 J15 HB15
          clear hb16
          obtain ⟨vg0, vg1, vg2, vg3⟩ := cells4 g16
          obtain ⟨vr0, vr1⟩ := cells2 r16
          obtain ⟨vc0, vc1, vc2, vc3⟩ := cells4 c16
          obtain ⟨vs0, vs1⟩ := cells2 s16
          obtain ⟨vi0, vi1⟩ := cells2 i16
          obtain ⟨vj0, vj1⟩ := cells2 j16
          go_wp2_with fail
          clear vg0 vg1 vg2 vg3 vr0 vr1 vc0 vc1 vc2 vc3 vs0 vs1 vi0 vi1 vj0 vj1
          refine (HH.out _ M16.out).mono ?_
          rintro e w17 ⟨rfl, hb17⟩
          have g17 := keep_block hb17 g16 (lt_of_block g16)
          have r17 := keep_block hb17 r16 (lt_of_block r16)
          have c17 := keep_block hb17 c16 (lt_of_block c16)
          have s17 := keep_block hb17 s16 (lt_of_block s16)
          have i17 := keep_block hb17 i16 (lt_of_block i16)
          have j17 := keep_block hb17 j16 (lt_of_block j16)
          have S17 : Hid (OwnK (w2.heap.size) (.slice Sa n Sc) l' w17) := S16.out.below hb17
          have M17 : Hid (RowB w17 Ia (marksK 1 n)) := M16.out.below hb17
          have J17 : Hid (OwnK (w14.heap.size) (.slice Ja n Jc) l' w17) := J16.out.below hb17
          have HB17 : Hid (Below w.heap.size w w17) := HB16.out.trans (hb17.mono HB16.out.size)
          clear g16 r16 c16 s16 i16 j16 S16 M16 J16 HB16
          clear hb17
          go_wp2
          go_ret
          exact ⟨rfl, HB17.out⟩


end Go.Proofs.Ytigoniochamjgaa
