/-
  Texts of one proof, merged: TrcE, TimD, TrcT, RdyA, TrcS.
-/
import Derived.Test.YthplhjdfajhmpaaQP6
import Derived.Test.YthplhjdfajhmpaaQP13
import Derived.Test.YthplhjdfajhmpaaQP14
import Derived.Test.YthplhjdfajhmpaaQP18
import Derived.Test.YthplhjdfajhmpaaQP19
namespace Go.Proofs.Ythplhjdfajhmpaa
open Go.RowKit Go.PlainAid

set_option linter.unusedVariables false

theorem below_allocT {w : World} (o : Obj) : Below w.heap.size w (w.alloc o) := (Below.refl _ _).alloc (Nat.le_refl _) _

set_option maxHeartbeats 16000000 in
set_option maxRecDepth 100000 in
theorem specEnd_is : SEnd := by
  intro g0 B g2 g3 a n c L N hN n' le pwe vv hn' hl' hp' hv hl h1 w hr
  obtain ⟨w1, hw1⟩ : ∃ u, (w.alloc (.cells #[.int .i64 g0, .int .i64 B, .int .i64 g2, .int .i64 g3] 25)).alloc (.cells #[.slice none 0 0, .int .i64 0] 83) = u := ⟨_, rfl⟩
  have HB1 : Hid (Below w.heap.size w w1) := by subst hw1; exact ((Below.refl _ _).alloc (Nat.le_refl _) _).alloc (by simp) _
  have g1 : w1.heap[w.heap.size]? = some (.cells #[.int .i64 g0, .int .i64 B, .int .i64 g2, .int .i64 g3] 25) := by subst hw1; exact heap_alloc2_old _ _ _
  have s1 : w1.heap[w.heap.size + 1]? = some (.cells #[.slice none 0 0, .int .i64 0] 83) := by subst hw1; exact heap_alloc2_new _ _ _
  have HS1 : Hid (w.heap.size + 1 < w1.heap.size) := lt_of_block s1
  have HR := Lib.hid (hr.below HB1.out)
  have HL := Lib.hid hl
  have HNN := Lib.hid hN
  have HNP := Lib.hid hn'
  have HLE := Lib.hid hl'
  have HPE := Lib.hid hp'
  have HVV := Lib.hid hv
  have hN8 : N ≤ 8 := by have := bankN_range g0 B g2 g3; omega
  obtain ⟨c0, c1, c2, c3⟩ := cells4 g1
  clear hr hl hN hn' hl' hp' hv
  go_enter Try.func124, Try.ntmps124
  go_wp2_with fail
  refine (specRankNew_is _ _ _ _ N HNN.out _).mono ?_
  rintro e w2 ⟨ao, co, rfl, own2, hb2⟩
  have gb2 := keep_block hb2 g1 (lt_of_block g1)
  have s2 := keep_block hb2 s1 (lt_of_block s1)
  have HB2 : Hid (Below w1.heap.size w1 w2) := hb2
  have HS2 : Hid (w1.heap.size ≤ w2.heap.size) := hb2.size
  have HAA : Hid (∀ x, ao = some x → x.block < w2.heap.size) := fun x hx => (own2.lo x hx).2
  clear hb2 c0 c1 c2 c3
  have hb3 : Below w2.heap.size w2 (w2.alloc (.cells #[.slice ao N co, .int .i64 0] 83)) := (Below.refl _ _).alloc (Nat.le_refl _) _
  have ST : Hid ((w2.alloc (.cells #[.slice ao N co, .int .i64 0] 83)).heap[w.heap.size]? = some (.cells #[.int .i64 g0, .int .i64 B, .int .i64 g2, .int .i64 g3] 25) ∧ (w2.alloc (.cells #[.slice ao N co, .int .i64 0] 83)).heap[w.heap.size + 1]? = some (.cells #[.slice none 0 0, .int .i64 0] 83) ∧
      (w2.alloc (.cells #[.slice ao N co, .int .i64 0] 83)).heap[w2.heap.size]? = some (.cells #[.slice ao N co, .int .i64 0] 83) ∧ OwnK w1.heap.size (.slice ao N co) (List.replicate N bk0) (w2.alloc (.cells #[.slice ao N co, .int .i64 0] 83)) ∧ Below w1.heap.size w1 (w2.alloc (.cells #[.slice ao N co, .int .i64 0] 83)) ∧ ∀ x, ao = some x → x.block ≠ w2.heap.size) :=
    ⟨keep_block hb3 gb2 (lt_of_block gb2), keep_block hb3 s2 (lt_of_block s2), heap_alloc_new _ _, own2.below hb3, HB2.out.trans (hb3.mono HB2.out.size), fun x hx => by have := HAA.out x hx; omega⟩
  clear hb3 own2 gb2 s2 HB2
  go_wp2_with fail
  generalize (w2.alloc (.cells #[.slice ao N co, .int .i64 0] 83)) = w3 at ST ⊢
  go_loopw [7] (fun i wr => ∃ k : Nat, k ≤ n ∧ i = .int .i64 k ∧ endOk g0 B g2 g3 N (L.take k) = true ∧ wr.heap[w.heap.size]? = some (.cells #[.int .i64 g0, .int .i64 B, .int .i64 g2, .int .i64 g3] 25) ∧ wr.heap[w.heap.size + 1]? = some (.cells #[.slice none 0 0, .int .i64 0] 83) ∧
      (∃ (aa : Option Addr) (cc : Nat), wr.heap[w2.heap.size]? = some (.cells #[.slice aa N cc, .int .i64 (stP (L.take k))] 83) ∧ OwnK w1.heap.size (.slice aa N cc) (stL N (L.take k)) wr ∧ (∀ x, aa = some x → x.block ≠ w2.heap.size)) ∧ Below w1.heap.size w1 wr) (fun i _ => n - (intOf i).toNat)
  case atStart => exact ⟨0, Nat.zero_le _, rfl, rfl, ST.out.1, ST.out.2.1, ⟨ao, co, ST.out.2.2.1, ST.out.2.2.2.1, ST.out.2.2.2.2.2⟩, ST.out.2.2.2.2.1⟩
  case round =>
    clear ST HAA
    obtain ⟨m, hm, rfl, hend, gr, sr, ⟨aa, cc, rr, ownr, hne⟩, hbr⟩ := hrel
    have HEND := Lib.hid hend
    have HON := Lib.hid ownr
    have HBR := Lib.hid hbr
    have HNE := Lib.hid hne
    clear hend ownr hbr hne
    by_cases hlt : m < n
    case pos =>
      have hml : m < L.length := by rw [HL.out]; exact hlt
      have HT := Lib.hid (take_snoc hml)
      have HD := Lib.hid (drop_cons hml)
      obtain ⟨b, off, rfl, a0, a1, a2, a3, a4⟩ := ev_at (HR.out.below HBR.out) (i := m) hml
      obtain ⟨e, he⟩ : ∃ e, L.getD m ev0 = e := ⟨_, rfl⟩
      rw [he] at a0 a1 a2 a3 a4 HT HD
      clear he a0
      obtain ⟨v, hv⟩ : ∃ v, allowR g0 B g2 g3 (stL N (L.take m)) (stP (L.take m)) e.k e.x e.y e.z = v := ⟨_, rfl⟩
      obtain ⟨l', hl'⟩ : ∃ l', afterL g0 B g2 g3 (stL N (L.take m)) (stP (L.take m)) e.k e.x e.y e.z = l' := ⟨_, rfl⟩
      obtain ⟨pw', hp'⟩ : ∃ pw', afterP g0 B g2 g3 (stL N (L.take m)) (stP (L.take m)) e.k e.x e.y e.z = pw' := ⟨_, rfl⟩
      have HV := Lib.hid hv
      have HLP := Lib.hid hl'
      have HPP := Lib.hid hp'
      have NEXT : Hid (allowR g0 B g2 g3 (stL N (L.take m)) (stP (L.take m)) e.k e.x e.y e.z = true → l' = stL N (L.take (m + 1)) ∧ pw' = stP (L.take (m + 1))) := fun h => by
        rw [HT.out, stL_snoc, stP_snoc, ← hl', ← hp']
        exact ⟨if_pos h, if_pos h⟩
      have STOP : Hid (allowR g0 B g2 g3 (stL N (L.take m)) (stP (L.take m)) e.k e.x e.y e.z = false → le = [] ∧ pwe = 0 ∧ vv = false ∧ n' = 0) := fun h => by
        have hno : endOk g0 B g2 g3 N L = false := by
          have h1 := HEND.out
          unfold endOk at h1 ⊢
          have h2 : L = L.take m ++ (e :: L.drop (m + 1)) := by rw [← HD.out, List.take_append_drop]
          rw [h2, endF_append, h1]
          show (true && (allowR g0 B g2 g3 (stL N ([] ++ L.take m)) (stP ([] ++ L.take m)) e.k e.x e.y e.z && _)) = false
          rw [List.nil_append, h]
          rfl
        have h1 : le = [] := by rw [← HLE.out]; exact if_neg (by rw [hno]; simp)
        have h2 : pwe = 0 := by rw [← HPE.out]; exact if_neg (by rw [hno]; simp)
        refine ⟨h1, h2, by rw [← HVV.out, hno]; rfl, by rw [← HNP.out, h1]; rfl⟩
      have GO : Hid (allowR g0 B g2 g3 (stL N (L.take m)) (stP (L.take m)) e.k e.x e.y e.z = true → endOk g0 B g2 g3 N (L.take (m + 1)) = true) := fun h => by
        have h1 := HEND.out
        rw [HT.out]
        unfold endOk at h1 ⊢
        rw [endF_append, h1]
        show (true && (allowR g0 B g2 g3 (stL N ([] ++ L.take m)) (stP ([] ++ L.take m)) e.k e.x e.y e.z && true)) = true
        rw [List.nil_append, h]
        rfl
      clear hv hl' hp' HD
      replace a1 := Lib.hid a1
      replace a2 := Lib.hid a2
      replace a3 := Lib.hid a3
      replace a4 := Lib.hid a4
      go_wp2_with fail
      refine wp_region_flowV (fun k => match k with | 0 => some (.agg #[.int .i64 g0, .int .i64 B, .int .i64 g2, .int .i64 g3]) | 1 => some (.agg #[.slice aa N cc, .int .i64 (stP (L.take m))]) | 2 => some (.slice (some ⟨b, off, none⟩) n c) | 3 => some (.int .i64 (m : Int)) | 4 => some (.pointer (some ⟨b, off + m * 5, none⟩)) | 5 => some (.pointer (some ⟨b, off + m * 5 + 1, none⟩)) | 6 => some (.agg #[.int .i64 e.k, .int .i64 e.x, .int .i64 e.y, .int .i64 e.z]) | 10 => some (.bool v) | 13 => some (.bool v) | _ => none) (fun listed x u => FactW 7 8 (fun q u => ∃ ab cb, q = .tuple #[.agg #[.slice ab N cb, .int .i64 pw'], .bool v] ∧ OwnK (wr.heap.size) (.slice ab N cb) l' u) listed x u ∧ FactW 8 9 (fun q u => ∃ ab cb, q = .tuple #[.agg #[.slice ab N cb, .int .i64 pw'], .bool v] ∧ OwnK (wr.heap.size) (.slice ab N cb) l' u) listed x u ∧ Fact 8 (fun q => ∃ (ab : Option Addr) (cb : Nat), q = .tuple #[.agg #[.slice ab N cb, .int .i64 pw'], .bool v]) listed x ∧ FactW 9 12 (fun q u => ∃ ab cb, q = .agg #[.slice ab N cb, .int .i64 pw'] ∧ OwnK (wr.heap.size) (.slice ab N cb) l' u) listed x u ∧ MadeR 11 12 (wr.heap.size) N l' pw' listed x u) (upd (upd (upd (upd (upd (upd (upd (upd (upd (upd (upd (upd (upd (fun _ => undef) 0 u19) 1 u20) 2 u21) 3 u22) 4 u23) 5 u24) 6 u25) 7 u26) 8 u18) 9 u27) 10 u28) 11 u8) 13 u9) (by kernel_rfl) (by kernel_rfl) ?hx ?hS ?hs ?he
      case hx => simp only [putsX, Act.put, List.setIfInBounds_toArray, List.set_cons_zero, List.set_cons_succ, upd, Nat.reduceEqDiff, reduceIte]
      case hS => exact ⟨FactW.zero _ _ _ _ _ _, FactW.zero _ _ _ _ _ _, Fact.zero _ _ _ _, FactW.zero _ _ _ _ _ _, MadeR.zero _ _ _ _ _ _ _ _ _⟩
      case hs =>
        simp only [flowSteps]
        refine ⟨?s0, ?s1, ?s2, ?s3, ?s4, ?s5, ?s6, ?s7, ?s8, ?s9, ?s10, ?s11, ?s12, ?s13, trivial⟩
        case s0 =>
          intro listed bb u hsz hn hwt hinv
          obtain ⟨x, rfl, hC, hU, h7, h8, p8, h9, hM⟩ := hinv
          simp only [putsX, Act.put, List.setIfInBounds_toArray, List.set_cons_zero, List.set_cons_succ]
          obtain ⟨c0, c1, c2, c3⟩ := cells4 (keep_block hC gr (lt_of_block gr))
          go_wp2_with fail
          refine stepQ_normal ⟨trivial, upd x 0 (.agg #[.int .i64 g0, .int .i64 B, .int .i64 g2, .int .i64 g3]), ?_, hC, hU.step (fun _ h => Option.some.inj h), h7.keep (by decide) (by decide) _ id, h8.keep (by decide) (by decide) _ id, p8.keep (by decide) _, h9.keep (by decide) (by decide) _ id, hM.keep (by decide) (by decide) _ (Below.refl _ _)⟩
          simp only [upd]
          rfl
        case s1 =>
          intro listed bb u hsz hn hwt hinv
          obtain ⟨x, rfl, hC, hU, h7, h8, p8, h9, hM⟩ := hinv
          simp only [putsX, Act.put, List.setIfInBounds_toArray, List.set_cons_zero, List.set_cons_succ]
          obtain ⟨d0, d1⟩ := cells2 (keep_block hC rr (lt_of_block rr))
          go_wp2_with fail
          refine stepQ_normal ⟨trivial, upd x 1 (.agg #[.slice aa N cc, .int .i64 (stP (L.take m))]), ?_, hC, hU.step (fun _ h => Option.some.inj h), h7.keep (by decide) (by decide) _ id, h8.keep (by decide) (by decide) _ id, p8.keep (by decide) _, h9.keep (by decide) (by decide) _ id, hM.keep (by decide) (by decide) _ (Below.refl _ _)⟩
          simp only [upd]
          rfl
        case s2 =>
          intro listed bb u hsz hn hwt hinv
          obtain ⟨x, rfl, hC, hU, h7, h8, p8, h9, hM⟩ := hinv
          simp only [putsX, Act.put, List.setIfInBounds_toArray, List.set_cons_zero, List.set_cons_succ]
          go_wp2_with fail
          refine stepQ_normal ⟨trivial, upd x 2 (.slice (some ⟨b, off, none⟩) n c), ?_, hC, hU.step (fun _ h => Option.some.inj h), h7.keep (by decide) (by decide) _ id, h8.keep (by decide) (by decide) _ id, p8.keep (by decide) _, h9.keep (by decide) (by decide) _ id, hM.keep (by decide) (by decide) _ (Below.refl _ _)⟩
          simp only [upd]
          rfl
        case s3 =>
          intro listed bb u hsz hn hwt hinv
          obtain ⟨x, rfl, hC, hU, h7, h8, p8, h9, hM⟩ := hinv
          simp only [putsX, Act.put, List.setIfInBounds_toArray, List.set_cons_zero, List.set_cons_succ]
          go_wp2_with fail
          refine stepQ_normal ⟨trivial, upd x 3 (.int .i64 (m : Int)), ?_, hC, hU.step (fun _ h => Option.some.inj h), h7.keep (by decide) (by decide) _ id, h8.keep (by decide) (by decide) _ id, p8.keep (by decide) _, h9.keep (by decide) (by decide) _ id, hM.keep (by decide) (by decide) _ (Below.refl _ _)⟩
          simp only [upd]
          rfl
        case s4 =>
          intro listed bb u hsz hn hwt hinv
          obtain ⟨x, rfl, hC, hU, h7, h8, p8, h9, hM⟩ := hinv
          have f2 := Lib.hid (hU 2 _ rfl (hwt 2 (by kernel_rfl)))
          have f3 := Lib.hid (hU 3 _ rfl (hwt 3 (by kernel_rfl)))
          simp only [putsX, Act.put, List.setIfInBounds_toArray, List.set_cons_zero, List.set_cons_succ]
          rw [f2.out]
          rw [f3.out]
          go_wp2_with fail
          refine stepQ_normal ⟨trivial, upd x 4 (.pointer (some ⟨b, off + m * 5, none⟩)), ?_, hC, hU.step (fun _ h => Option.some.inj h), h7.keep (by decide) (by decide) _ id, h8.keep (by decide) (by decide) _ id, p8.keep (by decide) _, h9.keep (by decide) (by decide) _ id, hM.keep (by decide) (by decide) _ (Below.refl _ _)⟩
          simp only [upd]
          simp only [f2.out, f3.out]
          (try rfl)
        case s5 =>
          intro listed bb u hsz hn hwt hinv
          obtain ⟨x, rfl, hC, hU, h7, h8, p8, h9, hM⟩ := hinv
          have f4 := Lib.hid (hU 4 _ rfl (hwt 4 (by kernel_rfl)))
          simp only [putsX, Act.put, List.setIfInBounds_toArray, List.set_cons_zero, List.set_cons_succ]
          rw [f4.out]
          go_wp2_with fail
          refine stepQ_normal ⟨trivial, upd x 5 (.pointer (some ⟨b, off + m * 5 + 1, none⟩)), ?_, hC, hU.step (fun _ h => Option.some.inj h), h7.keep (by decide) (by decide) _ id, h8.keep (by decide) (by decide) _ id, p8.keep (by decide) _, h9.keep (by decide) (by decide) _ id, hM.keep (by decide) (by decide) _ (Below.refl _ _)⟩
          simp only [upd]
          simp only [f4.out]
          (try rfl)
        case s6 =>
          intro listed bb u hsz hn hwt hinv
          obtain ⟨x, rfl, hC, hU, h7, h8, p8, h9, hM⟩ := hinv
          have f5 := Lib.hid (hU 5 _ rfl (hwt 5 (by kernel_rfl)))
          simp only [putsX, Act.put, List.setIfInBounds_toArray, List.set_cons_zero, List.set_cons_succ]
          rw [f5.out]
          have e1 := (hC.cell (World.block_lt_of_cell? _ _ a1.out)).trans a1.out
          have e2 := (hC.cell (World.block_lt_of_cell? _ _ a2.out)).trans a2.out
          have e3 := (hC.cell (World.block_lt_of_cell? _ _ a3.out)).trans a3.out
          have e4 := (hC.cell (World.block_lt_of_cell? _ _ a4.out)).trans a4.out
          go_wp2_with fail
          refine stepQ_normal ⟨trivial, upd x 6 (.agg #[.int .i64 e.k, .int .i64 e.x, .int .i64 e.y, .int .i64 e.z]), ?_, hC, hU.step (fun _ h => Option.some.inj h), h7.keep (by decide) (by decide) _ id, h8.keep (by decide) (by decide) _ id, p8.keep (by decide) _, h9.keep (by decide) (by decide) _ id, hM.keep (by decide) (by decide) _ (Below.refl _ _)⟩
          simp only [upd]
          simp only [f5.out]
          (try rfl)
        case s7 =>
          intro listed bb u hsz hn hwt hinv
          obtain ⟨x, rfl, hC, hU, h7, h8, p8, h9, hM⟩ := hinv
          have f0 := Lib.hid (hU 0 _ rfl (hwt 0 (by kernel_rfl)))
          have f1 := Lib.hid (hU 1 _ rfl (hwt 1 (by kernel_rfl)))
          have f6 := Lib.hid (hU 6 _ rfl (hwt 6 (by kernel_rfl)))
          simp only [putsX, Act.put, List.setIfInBounds_toArray, List.set_cons_zero, List.set_cons_succ]
          have hcall : Calls Try.prog 136 #[x 0, x 1, x 6] u (GivesA N l' pw' v u) := by rw [f0.out, f1.out, f6.out]; exact specAfter_is g0 B g2 g3 aa N cc (stL N (L.take m)) (stP (L.take m)) e.k e.x e.y e.z v l' pw' HV.out HLP.out HPP.out (stL_length _ _) (by omega) (HON.out.none) _ (HON.out.row.below hC)
          go_wp2_with fail
          refine hcall.mono ?_
          rintro e' u' ⟨ab, cb, rfl, own, hb⟩
          go_wp2_with fail
          refine stepQ_normal ⟨trivial, upd x 7 (.tuple #[.agg #[.slice ab N cb, .int .i64 pw'], .bool v]), ?_, hC.trans (hb.mono hC.size), hU.step (fun _ h => by cases h), FactW.new ⟨ab, cb, rfl, own.mono hC.size⟩, h8.keep (by decide) (by decide) _ (fun ⟨b1, b2, b3, b4⟩ => ⟨b1, b2, b3, b4.below (hb)⟩), p8.keep (by decide) _, h9.keep (by decide) (by decide) _ (fun ⟨b1, b2, b3, b4⟩ => ⟨b1, b2, b3, b4.below (hb)⟩), hM.keep (by decide) (by decide) _ (hb)⟩
          simp only [upd]
          rfl
        case s8 =>
          intro listed bb u hsz hn hwt hinv
          obtain ⟨x, rfl, hC, hU, h7, h8, p8, h9, hM⟩ := hinv
          simp only [putsX, Act.put, List.setIfInBounds_toArray, List.set_cons_zero, List.set_cons_succ]
          obtain ⟨ab, cb, fp, hown⟩ := h7 (hwt 7 (by kernel_rfl)) hn
          go_wp2_with fail
          refine stepQ_normal ⟨trivial, upd x 8 (x 7), ?_, hC, hU.step (fun _ h => by cases h), FactW.call (by rw [hsz]; decide), FactW.new ⟨ab, cb, fp, hown⟩, Fact.new ⟨ab, cb, fp⟩, h9.keep (by decide) (by decide) _ id, hM.keep (by decide) (by decide) _ (Below.refl _ _)⟩
          simp only [upd]
          rfl
        case s9 =>
          intro listed bb u hsz hn hwt hinv
          obtain ⟨x, rfl, hC, hU, h7, h8, p8, h9, hM⟩ := hinv
          simp only [putsX, Act.put, List.setIfInBounds_toArray, List.set_cons_zero, List.set_cons_succ]
          obtain ⟨ab, cb, fp, hown⟩ := h8 (hwt 8 (by kernel_rfl)) hn
          have FP := Lib.hid fp
          rw [FP.out]
          clear fp
          go_wp2_with fail
          refine stepQ_normal ⟨trivial, upd x 9 (.agg #[.slice ab N cb, .int .i64 pw']), ?_, hC, hU.step (fun _ h => by cases h), h7.keep (by decide) (by decide) _ id, FactW.call (by rw [hsz]; decide), p8.keep (by decide) _, FactW.new ⟨ab, cb, rfl, hown⟩, hM.keep (by decide) (by decide) _ (Below.refl _ _)⟩
          simp only [upd]
          simp only [FP.out]
          (try rfl)
        case s10 =>
          intro listed bb u hsz hn hwt hinv
          obtain ⟨x, rfl, hC, hU, h7, h8, p8, h9, hM⟩ := hinv
          simp only [putsX, Act.put, List.setIfInBounds_toArray, List.set_cons_zero, List.set_cons_succ]
          obtain ⟨ab, cb, fp⟩ := p8 (hwt 8 (by kernel_rfl))
          have FP := Lib.hid fp
          rw [FP.out]
          clear fp
          go_wp2_with fail
          refine stepQ_normal ⟨trivial, upd x 10 (.bool v), ?_, hC, hU.step (fun _ h => Option.some.inj h), h7.keep (by decide) (by decide) _ id, h8.keep (by decide) (by decide) _ id, p8.keep (by decide) _, h9.keep (by decide) (by decide) _ id, hM.keep (by decide) (by decide) _ (Below.refl _ _)⟩
          simp only [upd]
          simp only [FP.out]
          (try rfl)
        case s11 =>
          intro listed bb u hsz hn hwt hinv
          obtain ⟨x, rfl, hC, hU, h7, h8, p8, h9, hM⟩ := hinv
          simp only [putsX, Act.put, List.setIfInBounds_toArray, List.set_cons_zero, List.set_cons_succ]
          go_wp2_with fail
          refine stepQ_normal ⟨trivial, upd x 11 (.pointer (some ⟨u.heap.size, 0, none⟩)), ?_, hC.alloc hC.size _, hU.step (fun _ h => by cases h), h7.keep (by decide) (by decide) _ (fun ⟨b1, b2, b3, b4⟩ => ⟨b1, b2, b3, b4.below (below_allocT _)⟩), h8.keep (by decide) (by decide) _ (fun ⟨b1, b2, b3, b4⟩ => ⟨b1, b2, b3, b4.below (below_allocT _)⟩), p8.keep (by decide) _, h9.keep (by decide) (by decide) _ (fun ⟨b1, b2, b3, b4⟩ => ⟨b1, b2, b3, b4.below (below_allocT _)⟩), hM.new (by decide) hn hC.size⟩
          simp only [upd]
          rfl
        case s12 =>
          intro listed bb u hsz hn hwt hinv
          obtain ⟨x, rfl, hC, hU, h7, h8, p8, h9, hM⟩ := hinv
          simp only [putsX, Act.put, List.setIfInBounds_toArray, List.set_cons_zero, List.set_cons_succ]
          obtain ⟨g, fg, hg, hh⟩ := hM.there (hwt 11 (by kernel_rfl)) hn
          obtain ⟨ab, cb, fp, hown⟩ := h9 (hwt 9 (by kernel_rfl)) hn
          have FG := Lib.hid fg
          have FP := Lib.hid fp
          rw [FG.out, FP.out]
          obtain ⟨y0, y1⟩ := cells2 hh
          have t0 := thawed hh 0
          have t1 := thawed hh 1
          have hne := hown.apart hh
          have hfin := set_cells (set_cells hh 0 (.slice ab N cb)) 1 (.int .i64 pw')
          have hown2 := (hown.setCell (p := ⟨g, 0, none⟩) hne (.slice ab N cb)).setCell (p := ⟨g, 1, none⟩) hne (.int .i64 pw')
          clear hh fg fp hown hne
          go_wp2_with fail
          refine stepQ_normal ⟨trivial, upd x 12 undef, ?_, (hC.setCell (by exact hg) _).setCell (by exact hg) _, hU.step (fun _ h => by cases h), FactW.gone (hwt 8 (by kernel_rfl)), FactW.gone (hwt 9 (by kernel_rfl)), p8.keep (by decide) _, FactW.call (by rw [hsz]; decide), MadeR.fill (by decide) (hwt 11 (by kernel_rfl)) (by rw [hsz]; decide) FG.out hg hfin hown2⟩
          simp only [upd]
          simp only [FG.out, FP.out]
          (try rfl)
        case s13 =>
          intro listed bb u hsz hn hwt hinv
          obtain ⟨x, rfl, hC, hU, h7, h8, p8, h9, hM⟩ := hinv
          have f10 := Lib.hid (hU 10 _ rfl (hwt 10 (by kernel_rfl)))
          simp only [putsX, Act.put, List.setIfInBounds_toArray, List.set_cons_zero, List.set_cons_succ]
          rw [f10.out]
          go_wp2_with fail
          refine stepQ_normal ⟨trivial, upd x 13 (.bool v), ?_, hC, hU.step (fun _ h => Option.some.inj h), h7.keep (by decide) (by decide) _ id, h8.keep (by decide) (by decide) _ id, p8.keep (by decide) _, h9.keep (by decide) (by decide) _ id, hM.keep (by decide) (by decide) _ (Below.refl _ _)⟩
          simp only [upd]
          simp only [f10.out]
          (try rfl)
      case he =>
        intro listed q u hall hC hU hS
        obtain ⟨h7, h8, p8, h9, hM⟩ := hS
        obtain ⟨sP, ab, cb, fg, hg, hh, hown⟩ := hM.full (hall 11 (by decide)) (hall 12 (by decide))
        have fb := hU 13 _ rfl (hall 13 (by decide))
        simp only [putsX, Act.put, List.setIfInBounds_toArray, List.set_cons_zero, List.set_cons_succ]
        rw [fg, fb]
        clear hall hU h7 h8 p8 h9 hM fg fb
        generalize q 0 = _q0, q 1 = _q1, q 2 = _q2, q 3 = _q3, q 4 = _q4, q 5 = _q5, q 6 = _q6, q 7 = _q7, q 8 = _q8, q 9 = _q9, q 10 = _q10
        have g6 := keep_block hC gr (lt_of_block gr)
        have r6 := keep_block hC rr (lt_of_block rr)
        have s6 := keep_block hC sr (lt_of_block sr)
        have HB6 : Hid (Below w1.heap.size w1 u) := HBR.out.trans (hC.mono HBR.out.size)
        have HB6' : Hid (Below w.heap.size w u) := HB1.out.trans (HB6.out.mono HB1.out.size)
        have HOW := Lib.hid hown
        have HSP : Hid (wr.heap.size ≤ sP) := hg
        have HSZ : Hid (wr.heap.size ≤ u.heap.size) := hC.size
        clear hown hg hC
        cases v
        case false =>
          have HNO := Lib.hid (STOP.out HV.out)
          obtain ⟨y0, y1⟩ := cells2 s6
          have f0 := thawed s6 0
          have f1 := thawed s6 1
          go_wp2_with fail
          (try simp only [Exit.inBlock, Exit.then])
          obtain ⟨rfl, rfl, rfl, rfl⟩ := HNO.out
          refine bodyPost_ret (v := .tuple #[.agg #[.slice none 0 0, .int .i64 0], .bool false]) (by simp [results, Try.results124, go_sem, y0, y1]) rfl ⟨none, 0, rfl, World.ownsRow_nil _ _ _ _, (HB6'.out.setCell (by simp) _).setCell (by simp) _⟩
        case true =>
          obtain ⟨rfl, rfl⟩ := NEXT.out HV.out
          obtain ⟨y0, y1⟩ := cells2 hh
          obtain ⟨x0, x1⟩ := cells2 r6
          have f0 := thawed r6 0
          have f1 := thawed r6 1
          have G1 := (Below.heap_setCell (u.setCell ⟨w2.heap.size, 0, none⟩ (.slice ab N cb)) ⟨w2.heap.size, 1, none⟩ (.int .i64 (stP (L.take (m + 1)))) w.heap.size (by have := HS1.out; have := HS2.out; simp; omega)).trans ((Below.heap_setCell u ⟨w2.heap.size, 0, none⟩ (.slice ab N cb) w.heap.size (by have := HS1.out; have := HS2.out; simp; omega)).trans g6)
          have G2 := (Below.heap_setCell (u.setCell ⟨w2.heap.size, 0, none⟩ (.slice ab N cb)) ⟨w2.heap.size, 1, none⟩ (.int .i64 (stP (L.take (m + 1)))) (w.heap.size + 1) (by have := HS1.out; have := HS2.out; simp; omega)).trans ((Below.heap_setCell u ⟨w2.heap.size, 0, none⟩ (.slice ab N cb) (w.heap.size + 1) (by have := HS1.out; have := HS2.out; simp; omega)).trans s6)
          have G3 := set_cells (set_cells r6 0 (.slice ab N cb)) 1 (.int .i64 (stP (L.take (m + 1))))
          have hwr := lt_of_block rr
          have hab : ∀ x, ab = some x → x.block ≠ w2.heap.size := fun x hx => by have := (HOW.out.lo x hx).1; omega
          have G4 := ((HOW.out.mono (C := w1.heap.size) HBR.out.size).setCell (p := ⟨w2.heap.size, 0, none⟩) hab (.slice ab N cb)).setCell (p := ⟨w2.heap.size, 1, none⟩) hab (.int .i64 (stP (L.take (m + 1))))
          have G5 := (HB6.out.setCell (p := ⟨w2.heap.size, 0, none⟩) HS2.out (.slice ab N cb)).setCell (p := ⟨w2.heap.size, 1, none⟩) HS2.out (.int .i64 (stP (L.take (m + 1))))
          have GG := Lib.hid (And.intro G1 (And.intro G2 (And.intro G3 (And.intro G4 G5))))
          have HAB := Lib.hid hab
          clear G1 G2 G3 G4 G5 hab hwr
          go_wp2_with fail
          go_roundw
          case rel => exact ⟨m + 1, by omega, by go_num, GO.out HV.out, GG.out.1, GG.out.2.1, ⟨ab, cb, GG.out.2.2.1, GG.out.2.2.2.1, HAB.out⟩, GG.out.2.2.2.2⟩
          case measure => simp [intOf]; omega
    case neg =>
      obtain rfl : m = n := by omega
      have htk : L.take m = L := List.take_of_length_le (by rw [HL.out]; exact Nat.le_refl _)
      rw [htk] at rr HEND HON
      have hend := HEND.out
      have hle : le = stL N L := by rw [← HLE.out]; exact if_pos hend
      have hpe : pwe = stP L := by rw [← HPE.out]; exact if_pos hend
      have hne' : n' = N := by rw [← HNP.out, hle, stL_length]
      obtain ⟨gv, hgv⟩ : ∃ gv, decide (GeoOk g0 B g2 g3) = gv := ⟨_, rfl⟩
      have K := Lib.hid hgv
      have hvg : vv = gv := by rw [← HVV.out, hend, hgv]; rfl
      subst hle
      subst hpe
      subst hne'
      subst hvg
      have HBW : Hid (Below w.heap.size w wr) := HB1.out.trans (HBR.out.mono HB1.out.size)
      have HWR : Hid (w.heap.size + 1 < wr.heap.size) := lt_of_block sr
      have HSA : Hid (∀ x, aa = some x → x.block ≠ w.heap.size + 1) := fun x hx => by have := (HON.out.lo x hx).1; have := HS1.out; omega
      clear hend hgv
      go_wp2_with fail
      refine wp_region_float (A := ?A) [.h, .h, .t, .e, .e] (by kernel_rfl) (by kernel_rfl) (fun u => u.heap[w.heap.size]? = some (.cells #[.int .i64 g0, .int .i64 B, .int .i64 g2, .int .i64 g3] 25) ∧ u.heap[w2.heap.size]? = some (.cells #[.slice aa n' cc, .int .i64 (stP L)] 83)) ?hC ?hH ?hT
      case hC => exact ⟨gr, rr⟩
      case hH =>
        intro u hu
        obtain ⟨c0, c1, c2, c3⟩ := cells4 hu.1
        obtain ⟨d0, d1⟩ := cells2 hu.2
        have z0 := fun q : Same u => q.cell c0
        have z1 := fun q : Same u => q.cell c1
        have z2 := fun q : Same u => q.cell c2
        have z3 := fun q : Same u => q.cell c3
        have z4 := fun q : Same u => q.cell d0
        have z5 := fun q : Same u => q.cell d1
        simp only [headsOf]
        repeat (go_big_quiet_step (fail))
        refine wpQuiet_nil ?_
        exact rfl
      case hT =>
        simp only [chainT]
        have hgd : wr.drew.heap[w.heap.size]? = some (.cells #[.int .i64 g0, .int .i64 B, .int .i64 g2, .int .i64 g3] 25) := gr
        have hrd : wr.drew.heap[w2.heap.size]? = some (.cells #[.slice aa n' cc, .int .i64 (stP L)] 83) := rr
        have hsd : wr.drew.heap[w.heap.size + 1]? = some (.cells #[.slice none 0 0, .int .i64 0] 83) := sr
        have HOD : Hid (OwnK w1.heap.size (.slice aa n' cc) (stL n' L) wr.drew) := HON.out
        have HBD : Hid (Below w.heap.size w wr.drew) := Below.drew HBW.out
        clear gr rr sr HON HBW
        generalize wr.drew = w5 at hgd hrd hsd HOD HBD ⊢
        go_wp2_with fail
        refine (specGeoOk_is _ _ _ _ _ K.out _).mono ?_
        rintro e w6 ⟨rfl, hb6⟩
        have g6 := keep_block hb6 hgd (lt_of_block hgd)
        have r6 := keep_block hb6 hrd (lt_of_block hrd)
        have s6 := keep_block hb6 hsd (lt_of_block hsd)
        have HO6 := Lib.hid (HOD.out.below hb6)
        have HB6 : Hid (Below w.heap.size w w6) := HBD.out.trans (hb6.mono HBD.out.size)
        clear hb6 hgd hrd hsd HOD HBD
        go_wp2_with fail
        refine stepQ_normal ⟨⟨g6, r6⟩, ?_⟩
        obtain ⟨y0, y1⟩ := cells2 s6
        have f0 := thawed s6 0
        have f1 := thawed s6 1
        have fin : Hid (OwnK w.heap.size (.slice aa n' cc) (stL n' L) ((w6.setCell ⟨w.heap.size + 1, 0, none⟩ (.slice aa n' cc)).setCell ⟨w.heap.size + 1, 1, none⟩ (.int .i64 (stP L))) ∧ Below w.heap.size w ((w6.setCell ⟨w.heap.size + 1, 0, none⟩ (.slice aa n' cc)).setCell ⟨w.heap.size + 1, 1, none⟩ (.int .i64 (stP L)))) :=
          ⟨((HO6.out.setCell HSA.out _).setCell HSA.out _).mono (by have := HS1.out; omega), (HB6.out.setCell (by simp) _).setCell (by simp) _⟩
        go_wp2_with fail
        refine stepQ_normal ⟨trivial, ?_⟩
        go_wp2_with fail
        refine stepQ_normal ⟨trivial, ?_⟩
        go_wp2_with fail
        (try simp only [Exit.inBlock, Exit.then])
        refine bodyPost_ret (v := .tuple #[.agg #[.slice aa n' cc, .int .i64 (stP L)], .bool vv]) ?_ rfl ⟨_, _, rfl, fin.out.1, fin.out.2⟩
        simp [results, Try.results124, go_sem, y0, y1]

end Go.Proofs.Ythplhjdfajhmpaa

namespace Go.Proofs.Ythplhjdfajhmpaa
open Go.RowKit

set_option linter.unusedVariables false

/-- While a timing is drawn: the cursor at block c, the answer's variable at rb (all 0), the timing's at pb. -/
structure Dr (c B : Nat) (w : World) (rb pb : Nat) (t : Tm) (w' : World) : Prop where
  cur : Cur c B w'
  only : Only c w w'
  res : w'.heap[rb]? = some (.cells #[.int .i64 0, .int .i64 0, .int .i64 0, .int .i64 0, .int .i64 0, .int .i64 0, .int .i64 0, .int .i64 0, .int .i64 0, .int .i64 0, .int .i64 0, .int .i64 0, .int .i64 0, .int .i64 0, .int .i64 0, .int .i64 0, .int .i64 0] 27)
  var : w'.heap[pb]? = some (.cells #[.int .i64 t.rcd, .int .i64 t.rp, .int .i64 t.ras, .int .i64 t.rrds, .int .i64 t.rrdl, .int .i64 t.faw, .int .i64 t.ccds, .int .i64 t.ccdl, .int .i64 t.rtp, .int .i64 t.wr, .int .i64 t.wtrs, .int .i64 t.wtrl, .int .i64 t.rtw, .int .i64 t.rfc, .int .i64 t.cke, .int .i64 t.xp, .int .i64 t.xs] 27)
  lo : w.heap.size ≤ rb ∧ rb < pb ∧ pb < w'.heap.size
  cu : B ≤ c ∧ c < w.heap.size

theorem Dr.on {c B rb pb : Nat} {t : Tm} {w w1 w2 : World} (h : Dr c B w rb pb t w1) (hc : Cur c B w2) (ho : Only c w1 w2) : Dr c B w rb pb t w2 :=
  ⟨hc, h.only.trans ho, (ho.block _ (by have := h.lo; omega) (by have := h.lo; have := h.cu; omega)).trans h.res, (ho.block _ (by have := h.lo; omega) (by have := h.lo; have := h.cu; omega)).trans h.var, ⟨h.lo.1, h.lo.2.1, by have := h.lo; have := ho.size; omega⟩, h.cu⟩

theorem Dr.put {c B rb pb : Nat} {t t' : Tm} {w w1 : World} (h : Dr c B w rb pb t w1) (k : Nat) (u : Value) (hv : (w1.setCell ⟨pb, k, none⟩ u).heap[pb]? = some (.cells #[.int .i64 t'.rcd, .int .i64 t'.rp, .int .i64 t'.ras, .int .i64 t'.rrds, .int .i64 t'.rrdl, .int .i64 t'.faw, .int .i64 t'.ccds, .int .i64 t'.ccdl, .int .i64 t'.rtp, .int .i64 t'.wr, .int .i64 t'.wtrs, .int .i64 t'.wtrl, .int .i64 t'.rtw, .int .i64 t'.rfc, .int .i64 t'.cke, .int .i64 t'.xp, .int .i64 t'.xs] 27)) : Dr c B w rb pb t' (w1.setCell ⟨pb, k, none⟩ u) :=
  ⟨h.cur.setNew (by have := h.lo; have := h.cu; show B ≤ pb; omega) (by have := h.lo; have := h.cu; show pb ≠ c; omega) u, h.only.setNew (by have := h.lo; show w.heap.size ≤ pb; omega) u, (Below.heap_setCell _ _ _ _ (by have := h.lo; show rb ≠ pb; omega)).trans h.res, hv, by have := h.lo; simp [World.setCell]; omega, h.cu⟩

theorem Dr.made {c B : Nat} {t : Tm} {w w2 : World} (hc : Cur c B w) (hBc : B ≤ c) (h2 : Cur c B w2) (ho : Only c (w.alloc (.cells #[.int .i64 0, .int .i64 0, .int .i64 0, .int .i64 0, .int .i64 0, .int .i64 0, .int .i64 0, .int .i64 0, .int .i64 0, .int .i64 0, .int .i64 0, .int .i64 0, .int .i64 0, .int .i64 0, .int .i64 0, .int .i64 0, .int .i64 0] 27)) w2) : Dr c B w w.heap.size w2.heap.size t ((w2.alloc (.cells #[.int .i64 0, .int .i64 0, .int .i64 0, .int .i64 0, .int .i64 0, .int .i64 0, .int .i64 0, .int .i64 0, .int .i64 0, .int .i64 0, .int .i64 0, .int .i64 0, .int .i64 0, .int .i64 0, .int .i64 0, .int .i64 0, .int .i64 0] 27)).setRow w2.heap.size #[.int .i64 t.rcd, .int .i64 t.rp, .int .i64 t.ras, .int .i64 t.rrds, .int .i64 t.rrdl, .int .i64 t.faw, .int .i64 t.ccds, .int .i64 t.ccdl, .int .i64 t.rtp, .int .i64 t.wr, .int .i64 t.wtrs, .int .i64 t.wtrl, .int .i64 t.rtw, .int .i64 t.rfc, .int .i64 t.cke, .int .i64 t.xp, .int .i64 t.xs]) := by
  have hlt := hc.lt
  have hs := ho.size
  rw [World.size_alloc] at hs
  have hn := heap_alloc_new w2 (.cells #[.int .i64 0, .int .i64 0, .int .i64 0, .int .i64 0, .int .i64 0, .int .i64 0, .int .i64 0, .int .i64 0, .int .i64 0, .int .i64 0, .int .i64 0, .int .i64 0, .int .i64 0, .int .i64 0, .int .i64 0, .int .i64 0, .int .i64 0] 27)
  have hr := setRow_same _ _ #[.int .i64 t.rcd, .int .i64 t.rp, .int .i64 t.ras, .int .i64 t.rrds, .int .i64 t.rrdl, .int .i64 t.faw, .int .i64 t.ccds, .int .i64 t.ccdl, .int .i64 t.rtp, .int .i64 t.wr, .int .i64 t.wtrs, .int .i64 t.wtrl, .int .i64 t.rtw, .int .i64 t.rfc, .int .i64 t.cke, .int .i64 t.xp, .int .i64 t.xs] _ _ hn
  have hk : ∀ k, k < w2.heap.size → ((w2.alloc (.cells #[.int .i64 0, .int .i64 0, .int .i64 0, .int .i64 0, .int .i64 0, .int .i64 0, .int .i64 0, .int .i64 0, .int .i64 0, .int .i64 0, .int .i64 0, .int .i64 0, .int .i64 0, .int .i64 0, .int .i64 0, .int .i64 0, .int .i64 0] 27)).setRow w2.heap.size #[.int .i64 t.rcd, .int .i64 t.rp, .int .i64 t.ras, .int .i64 t.rrds, .int .i64 t.rrdl, .int .i64 t.faw, .int .i64 t.ccds, .int .i64 t.ccdl, .int .i64 t.rtp, .int .i64 t.wr, .int .i64 t.wtrs, .int .i64 t.wtrl, .int .i64 t.rtw, .int .i64 t.rfc, .int .i64 t.cke, .int .i64 t.xp, .int .i64 t.xs]).heap[k]? = w2.heap[k]? := fun k hk => by rw [setRow_other _ _ _ _ (Nat.ne_of_lt hk), Below.heap_alloc _ _ _ hk]
  have hb : Below w2.heap.size w2 ((w2.alloc (.cells #[.int .i64 0, .int .i64 0, .int .i64 0, .int .i64 0, .int .i64 0, .int .i64 0, .int .i64 0, .int .i64 0, .int .i64 0, .int .i64 0, .int .i64 0, .int .i64 0, .int .i64 0, .int .i64 0, .int .i64 0, .int .i64 0, .int .i64 0] 27)).setRow w2.heap.size #[.int .i64 t.rcd, .int .i64 t.rp, .int .i64 t.ras, .int .i64 t.rrds, .int .i64 t.rrdl, .int .i64 t.faw, .int .i64 t.ccds, .int .i64 t.ccdl, .int .i64 t.rtp, .int .i64 t.wr, .int .i64 t.wtrs, .int .i64 t.wtrl, .int .i64 t.rtw, .int .i64 t.rfc, .int .i64 t.cke, .int .i64 t.xp, .int .i64 t.xs]) := below_setRow ((Below.refl _ _).alloc (Nat.le_refl _) _) (Nat.le_refl _) _
  exact ⟨h2.keep (hk c h2.lt) (hb.mono (by have := h2.lt; omega)), (((Only.refl c w).alloc _).trans ho).later hb, (hk _ (by omega)).trans ((ho.block _ (by simp) (by omega)).trans (heap_alloc_new _ _)), hr, ⟨Nat.le_refl _, by omega, by simp⟩, ⟨hBc, hlt⟩⟩

theorem Dr.set_rp {c B rb pb : Nat} {t : Tm} {w w1 : World} (h : Dr c B w rb pb t w1) (x : Int) : Dr c B w rb pb { t with rp := x } (w1.setCell ⟨pb, 1, none⟩ (.int .i64 x)) :=
  h.put 1 _ (set_cells h.var 1 _)

theorem Dr.set_faw {c B rb pb : Nat} {t : Tm} {w w1 : World} (h : Dr c B w rb pb t w1) (x : Int) : Dr c B w rb pb { t with faw := x } (w1.setCell ⟨pb, 5, none⟩ (.int .i64 x)) :=
  h.put 5 _ (set_cells h.var 5 _)

theorem Dr.set_wr {c B rb pb : Nat} {t : Tm} {w w1 : World} (h : Dr c B w rb pb t w1) (x : Int) : Dr c B w rb pb { t with wr := x } (w1.setCell ⟨pb, 9, none⟩ (.int .i64 x)) :=
  h.put 9 _ (set_cells h.var 9 _)

theorem Dr.set_rtw {c B rb pb : Nat} {t : Tm} {w w1 : World} (h : Dr c B w rb pb t w1) (x : Int) : Dr c B w rb pb { t with rtw := x } (w1.setCell ⟨pb, 12, none⟩ (.int .i64 x)) :=
  h.put 12 _ (set_cells h.var 12 _)

theorem Dr.set_rfc {c B rb pb : Nat} {t : Tm} {w w1 : World} (h : Dr c B w rb pb t w1) (x : Int) : Dr c B w rb pb { t with rfc := x } (w1.setCell ⟨pb, 13, none⟩ (.int .i64 x)) :=
  h.put 13 _ (set_cells h.var 13 _)

end Go.Proofs.Ythplhjdfajhmpaa

namespace Go.Proofs.Ythplhjdfajhmpaa
open Go.RowKit

set_option linter.unusedVariables false

theorem tim_rp {t : Tm} (h : TimOk t) {x : Int} (hx : 1 ≤ x ∧ x ≤ 64) : TimOk { t with rp := x } := by
  obtain ⟨h1, h2⟩ := h
  refine ⟨fun y hy => ?_, h2⟩
  simp only [Tm.l, List.mem_cons, List.not_mem_nil, or_false] at hy
  have hh := fun z hz => h1 z hz
  simp only [Tm.l, List.mem_cons, List.not_mem_nil, or_false] at hh
  rcases hy with rfl | rfl | rfl | rfl | rfl | rfl | rfl | rfl | rfl | rfl | rfl | rfl | rfl | rfl | rfl | rfl | rfl
  all_goals first | exact hx | exact hh _ (by simp)

theorem tim_rfc {t : Tm} (h : TimOk t) {x : Int} (hx : 1 ≤ x ∧ x ≤ 64) : TimOk { t with rfc := x } := by
  obtain ⟨h1, h2⟩ := h
  refine ⟨fun y hy => ?_, h2⟩
  simp only [Tm.l, List.mem_cons, List.not_mem_nil, or_false] at hy
  have hh := fun z hz => h1 z hz
  simp only [Tm.l, List.mem_cons, List.not_mem_nil, or_false] at hh
  rcases hy with rfl | rfl | rfl | rfl | rfl | rfl | rfl | rfl | rfl | rfl | rfl | rfl | rfl | rfl | rfl | rfl | rfl
  all_goals first | exact hx | exact hh _ (by simp)

theorem tim_wr {t : Tm} (h : TimOk t) {x : Int} (hx : 1 ≤ x ∧ x ≤ 64) : TimOk { t with wr := x } := by
  obtain ⟨h1, h2⟩ := h
  refine ⟨fun y hy => ?_, h2⟩
  simp only [Tm.l, List.mem_cons, List.not_mem_nil, or_false] at hy
  have hh := fun z hz => h1 z hz
  simp only [Tm.l, List.mem_cons, List.not_mem_nil, or_false] at hh
  rcases hy with rfl | rfl | rfl | rfl | rfl | rfl | rfl | rfl | rfl | rfl | rfl | rfl | rfl | rfl | rfl | rfl | rfl
  all_goals first | exact hx | exact hh _ (by simp)

theorem tim_faw {t : Tm} (h : TimOk t) {x : Int} (hx : 1 ≤ x ∧ x ≤ 64) : TimOk { t with faw := x } := by
  obtain ⟨h1, h2⟩ := h
  refine ⟨fun y hy => ?_, h2⟩
  simp only [Tm.l, List.mem_cons, List.not_mem_nil, or_false] at hy
  have hh := fun z hz => h1 z hz
  simp only [Tm.l, List.mem_cons, List.not_mem_nil, or_false] at hh
  rcases hy with rfl | rfl | rfl | rfl | rfl | rfl | rfl | rfl | rfl | rfl | rfl | rfl | rfl | rfl | rfl | rfl | rfl
  all_goals first | exact hx | exact hh _ (by simp)

theorem tim_rtw {t : Tm} (h : TimOk t) {x : Int} (hx : 1 ≤ x ∧ x ≤ 64) : TimOk { t with rtw := x } := by
  obtain ⟨h1, h2⟩ := h
  refine ⟨fun y hy => ?_, h2⟩
  simp only [Tm.l, List.mem_cons, List.not_mem_nil, or_false] at hy
  have hh := fun z hz => h1 z hz
  simp only [Tm.l, List.mem_cons, List.not_mem_nil, or_false] at hh
  rcases hy with rfl | rfl | rfl | rfl | rfl | rfl | rfl | rfl | rfl | rfl | rfl | rfl | rfl | rfl | rfl | rfl | rfl
  all_goals first | exact hx | exact hh _ (by simp)

/-- What a drawn timing leaves: a valid one. -/
def DrewTmOk (c B : Nat) (w : World) (e : Ending) (w' : World) : Prop := ∃ t : Tm, e = .returned (.agg #[.int .i64 t.rcd, .int .i64 t.rp, .int .i64 t.ras, .int .i64 t.rrds, .int .i64 t.rrdl, .int .i64 t.faw, .int .i64 t.ccds, .int .i64 t.ccdl, .int .i64 t.rtp, .int .i64 t.wr, .int .i64 t.wtrs, .int .i64 t.wtrl, .int .i64 t.rtw, .int .i64 t.rfc, .int .i64 t.cke, .int .i64 t.xp, .int .i64 t.xs]) ∧ TimOk t ∧ Cur c B w' ∧ Only c w w'

set_option maxHeartbeats 8000000 in
theorem l07TimeOk_any {c B : Nat} {w : World} (hcur : Cur c B w) : Calls Try.prog 77 #[.pointer (some ⟨c, 0, none⟩)] w (DrewTmOk c B w) := by
  have hBc : B ≤ c := by obtain ⟨_, _, _, _, _, _, _, h, _⟩ := hcur; exact h
  have HC := Lib.hid hcur
  have SPEC : Hid (∀ w, Calls Try.prog 104 #[] w (Gives (.agg #[.int .i64 fastT.rcd, .int .i64 fastT.rp, .int .i64 fastT.ras, .int .i64 fastT.rrds, .int .i64 fastT.rrdl, .int .i64 fastT.faw, .int .i64 fastT.ccds, .int .i64 fastT.ccdl, .int .i64 fastT.rtp, .int .i64 fastT.wr, .int .i64 fastT.wtrs, .int .i64 fastT.wtrl, .int .i64 fastT.rtw, .int .i64 fastT.rfc, .int .i64 fastT.cke, .int .i64 fastT.xp, .int .i64 fastT.xs]) w)) := fun w => specFast_is w
  obtain ⟨t, ht⟩ : ∃ t, fastT = t := ⟨_, rfl⟩
  rw [ht] at SPEC
  have OK : Hid (TimOk t) := by show TimOk _; rw [← ht]; exact fast_ok
  clear ht hcur
  go_enter Try.func77, Try.ntmps77
  go_wp2_with fail
  refine (SPEC.out _).mono ?_
  rintro e w1 ⟨rfl, hb1⟩
  have hn := heap_alloc_new w1 (.cells #[.int .i64 0, .int .i64 0, .int .i64 0, .int .i64 0, .int .i64 0, .int .i64 0, .int .i64 0, .int .i64 0, .int .i64 0, .int .i64 0, .int .i64 0, .int .i64 0, .int .i64 0, .int .i64 0, .int .i64 0, .int .i64 0, .int .i64 0] 27)
  have D := Lib.hid (Dr.made (t := t) HC.out hBc ((HC.out.alloc _).keep (hb1.block _ (by have := HC.out.lt; simp; omega)) (hb1.mono (by have := HC.out.lt; simp; omega))) ((Only.refl _ _).later hb1))
  have HS : Hid (w.heap.size < w1.heap.size) := by have := hb1.size; rw [World.size_alloc] at this; exact this
  clear hb1
  go_wp2_with ((with_reducible refine store_list (cells := #[.int .i64 t.rcd, .int .i64 t.rp, .int .i64 t.ras, .int .i64 t.rrds, .int .i64 t.rrdl, .int .i64 t.faw, .int .i64 t.ccds, .int .i64 t.ccdl, .int .i64 t.rtp, .int .i64 t.wr, .int .i64 t.wtrs, .int .i64 t.wtrl, .int .i64 t.rtw, .int .i64 t.rfc, .int .i64 t.cke, .int .i64 t.xp, .int .i64 t.xs]) hn ?_ ?_ ?_ ?_ ?_ ?_); kernel_rfl; kernel_rfl; kernel_rfl; kernel_rfl; kernel_rfl)
  obtain ⟨PB, hPB⟩ : ∃ p, w1.heap.size = p := ⟨_, rfl⟩
  generalize ((w1.alloc (.cells #[.int .i64 0, .int .i64 0, .int .i64 0, .int .i64 0, .int .i64 0, .int .i64 0, .int .i64 0, .int .i64 0, .int .i64 0, .int .i64 0, .int .i64 0, .int .i64 0, .int .i64 0, .int .i64 0, .int .i64 0, .int .i64 0, .int .i64 0] 27)).setRow w1.heap.size #[.int .i64 t.rcd, .int .i64 t.rp, .int .i64 t.ras, .int .i64 t.rrds, .int .i64 t.rrdl, .int .i64 t.faw, .int .i64 t.ccds, .int .i64 t.ccdl, .int .i64 t.rtp, .int .i64 t.wr, .int .i64 t.wtrs, .int .i64 t.wtrl, .int .i64 t.rtw, .int .i64 t.rfc, .int .i64 t.cke, .int .i64 t.xp, .int .i64 t.xs]) = v1 at D ⊢
  rw [hPB] at D
  (try simp only [hPB])
  clear hn hPB HS SPEC HC hBc
  refine (l01Once_any D.out.cur 2 (by omega)).mono ?_
  rintro e w2 ⟨x, rfl, hc, ho⟩
  have E := Lib.hid (D.out.on hc ho)
  clear D hc ho
  cases x
  · have p := E.out.var
    have z := E.out.res
    go_wp2_with (first | (first | ((with_reducible refine ld_tm ?_ ?_ p ?_); kernel_rfl; kernel_rfl; go_simp)) | ((with_reducible refine store_list (cells := #[.int .i64 t.rcd, .int .i64 t.rp, .int .i64 t.ras, .int .i64 t.rrds, .int .i64 t.rrdl, .int .i64 t.faw, .int .i64 t.ccds, .int .i64 t.ccdl, .int .i64 t.rtp, .int .i64 t.wr, .int .i64 t.wtrs, .int .i64 t.wtrl, .int .i64 t.rtw, .int .i64 t.rfc, .int .i64 t.cke, .int .i64 t.xp, .int .i64 t.xs]) z ?_ ?_ ?_ ?_ ?_ ?_); kernel_rfl; kernel_rfl; kernel_rfl; kernel_rfl; kernel_rfl))
    have hr := setRow_same _ _ #[.int .i64 t.rcd, .int .i64 t.rp, .int .i64 t.ras, .int .i64 t.rrds, .int .i64 t.rrdl, .int .i64 t.faw, .int .i64 t.ccds, .int .i64 t.ccdl, .int .i64 t.rtp, .int .i64 t.wr, .int .i64 t.wtrs, .int .i64 t.wtrl, .int .i64 t.rtw, .int .i64 t.rfc, .int .i64 t.cke, .int .i64 t.xp, .int .i64 t.xs] _ _ z
    refine bodyPost_ret (v := .agg #[.int .i64 t.rcd, .int .i64 t.rp, .int .i64 t.ras, .int .i64 t.rrds, .int .i64 t.rrdl, .int .i64 t.faw, .int .i64 t.ccds, .int .i64 t.ccdl, .int .i64 t.rtp, .int .i64 t.wr, .int .i64 t.wtrs, .int .i64 t.wtrl, .int .i64 t.rtw, .int .i64 t.rfc, .int .i64 t.cke, .int .i64 t.xp, .int .i64 t.xs]) (results_cell_row rfl _ _ w.heap.size 27 #[.int .i64 t.rcd, .int .i64 t.rp, .int .i64 t.ras, .int .i64 t.rrds, .int .i64 t.rrdl, .int .i64 t.faw, .int .i64 t.ccds, .int .i64 t.ccdl, .int .i64 t.rtp, .int .i64 t.wr, .int .i64 t.wtrs, .int .i64 t.wtrl, .int .i64 t.rtw, .int .i64 t.rfc, .int .i64 t.cke, .int .i64 t.xp, .int .i64 t.xs] (0, 0) _ rfl hr Try.underlying27 rfl (by kernel_rfl)) rfl ⟨t, rfl, OK.out, ?_, ?_⟩
    · exact (E.out.cur).keep (setRow_other _ _ _ _ (by have := E.out.cu; omega)) (below_setRow (Below.refl _ _) (by have := E.out.cu; omega) _)
    · exact E.out.only.trans' ⟨rfl, rfl, rfl, by simp⟩ (fun k hk hne => setRow_other _ _ _ _ (by omega))
  have D := Lib.hid E.out
  clear E
  go_wp2_with fail
  refine (l01Below_any D.out.cur 6 (by omega)).mono ?_
  rintro e w3 ⟨x3, rfl, h0, h1, hc, ho⟩
  rw [topOf_pos (by omega)] at h1
  have E := Lib.hid (D.out.on hc ho)
  have e1 : IntKind.i64.wrap (1 + x3) = 1 + x3 := IntWalk.i64_in _ ⟨by omega, by omega⟩
  obtain ⟨c0, c1, c2, c3, c4, c5, c6, c7, c8, c9, c10, c11, c12, c13, c14, c15, c16⟩ := tm_cells E.out.var
  have fz := thawed E.out.var 1
  have D2 := E.out.set_rp (1 + x3)
  have OK0' := tim_rp OK.out (x := 1 + x3) (by omega)
  obtain ⟨t0, htm⟩ : ∃ u : Tm, { t with rp := 1 + x3 } = u := ⟨_, rfl⟩
  rw [htm] at OK0'
  have OK0 : Hid (TimOk t0) := OK0'
  clear OK0'
  rw [htm] at D2
  have D3 := Lib.hid D2
  clear hc ho D h0 h1 D2 htm
  go_wp2_with fail
  generalize (w3.setCell ⟨PB, 1, none⟩ (.int .i64 (1 + x3))) = v3 at D3 ⊢
  have D := D3
  clear c0 c1 c2 c3 c4 c5 c6 c7 c8 c9 c10 c11 c12 c13 c14 c15 c16 fz e1 E D3
  go_wp2_with fail
  refine (l01Below_any D.out.cur 20 (by omega)).mono ?_
  rintro e w4 ⟨x4, rfl, h0, h1, hc, ho⟩
  rw [topOf_pos (by omega)] at h1
  have E := Lib.hid (D.out.on hc ho)
  have e1 : IntKind.i64.wrap (4 + x4) = 4 + x4 := IntWalk.i64_in _ ⟨by omega, by omega⟩
  obtain ⟨c0, c1, c2, c3, c4, c5, c6, c7, c8, c9, c10, c11, c12, c13, c14, c15, c16⟩ := tm_cells E.out.var
  have fz := thawed E.out.var 13
  have D2 := E.out.set_rfc (4 + x4)
  have OK1' := tim_rfc OK0.out (x := 4 + x4) (by omega)
  obtain ⟨t1, htm⟩ : ∃ u : Tm, { t0 with rfc := 4 + x4 } = u := ⟨_, rfl⟩
  rw [htm] at OK1'
  have OK1 : Hid (TimOk t1) := OK1'
  clear OK1'
  rw [htm] at D2
  have D3 := Lib.hid D2
  clear hc ho D h0 h1 D2 htm
  go_wp2_with fail
  generalize (w4.setCell ⟨PB, 13, none⟩ (.int .i64 (4 + x4))) = v4 at D3 ⊢
  have D := D3
  clear c0 c1 c2 c3 c4 c5 c6 c7 c8 c9 c10 c11 c12 c13 c14 c15 c16 fz e1 E D3
  go_wp2_with fail
  refine (l01Below_any D.out.cur 9 (by omega)).mono ?_
  rintro e w5 ⟨x5, rfl, h0, h1, hc, ho⟩
  rw [topOf_pos (by omega)] at h1
  have E := Lib.hid (D.out.on hc ho)
  have e1 : IntKind.i64.wrap (1 + x5) = 1 + x5 := IntWalk.i64_in _ ⟨by omega, by omega⟩
  obtain ⟨c0, c1, c2, c3, c4, c5, c6, c7, c8, c9, c10, c11, c12, c13, c14, c15, c16⟩ := tm_cells E.out.var
  have fz := thawed E.out.var 9
  have D2 := E.out.set_wr (1 + x5)
  have OK2' := tim_wr OK1.out (x := 1 + x5) (by omega)
  obtain ⟨t2, htm⟩ : ∃ u : Tm, { t1 with wr := 1 + x5 } = u := ⟨_, rfl⟩
  rw [htm] at OK2'
  have OK2 : Hid (TimOk t2) := OK2'
  clear OK2'
  rw [htm] at D2
  have D3 := Lib.hid D2
  clear hc ho D h0 h1 D2 htm
  go_wp2_with fail
  generalize (w5.setCell ⟨PB, 9, none⟩ (.int .i64 (1 + x5))) = v5 at D3 ⊢
  have D := D3
  clear c0 c1 c2 c3 c4 c5 c6 c7 c8 c9 c10 c11 c12 c13 c14 c15 c16 fz e1 E D3
  go_wp2_with fail
  refine (l01Below_any D.out.cur 20 (by omega)).mono ?_
  rintro e w6 ⟨x6, rfl, h0, h1, hc, ho⟩
  rw [topOf_pos (by omega)] at h1
  have E := Lib.hid (D.out.on hc ho)
  have e1 : IntKind.i64.wrap (4 + x6) = 4 + x6 := IntWalk.i64_in _ ⟨by omega, by omega⟩
  obtain ⟨c0, c1, c2, c3, c4, c5, c6, c7, c8, c9, c10, c11, c12, c13, c14, c15, c16⟩ := tm_cells E.out.var
  have fz := thawed E.out.var 5
  have D2 := E.out.set_faw (4 + x6)
  have OK3' := tim_faw OK2.out (x := 4 + x6) (by omega)
  obtain ⟨t3, htm⟩ : ∃ u : Tm, { t2 with faw := 4 + x6 } = u := ⟨_, rfl⟩
  rw [htm] at OK3'
  have OK3 : Hid (TimOk t3) := OK3'
  clear OK3'
  rw [htm] at D2
  have D3 := Lib.hid D2
  clear hc ho D h0 h1 D2 htm
  go_wp2_with fail
  generalize (w6.setCell ⟨PB, 5, none⟩ (.int .i64 (4 + x6))) = v6 at D3 ⊢
  have D := D3
  clear c0 c1 c2 c3 c4 c5 c6 c7 c8 c9 c10 c11 c12 c13 c14 c15 c16 fz e1 E D3
  go_wp2_with fail
  refine (l01Below_any D.out.cur 8 (by omega)).mono ?_
  rintro e w7 ⟨x7, rfl, h0, h1, hc, ho⟩
  rw [topOf_pos (by omega)] at h1
  have E := Lib.hid (D.out.on hc ho)
  have e1 : IntKind.i64.wrap (1 + x7) = 1 + x7 := IntWalk.i64_in _ ⟨by omega, by omega⟩
  obtain ⟨c0, c1, c2, c3, c4, c5, c6, c7, c8, c9, c10, c11, c12, c13, c14, c15, c16⟩ := tm_cells E.out.var
  have fz := thawed E.out.var 12
  have D2 := E.out.set_rtw (1 + x7)
  have OK4' := tim_rtw OK3.out (x := 1 + x7) (by omega)
  obtain ⟨t4, htm⟩ : ∃ u : Tm, { t3 with rtw := 1 + x7 } = u := ⟨_, rfl⟩
  rw [htm] at OK4'
  have OK4 : Hid (TimOk t4) := OK4'
  clear OK4'
  rw [htm] at D2
  have D3 := Lib.hid D2
  clear hc ho D h0 h1 D2 htm
  have p := D3.out.var
  have z := D3.out.res
  go_wp2_with (first | (first | ((with_reducible refine ld_tm ?_ ?_ p ?_); kernel_rfl; kernel_rfl; go_simp)) | ((with_reducible refine store_list (cells := #[.int .i64 t4.rcd, .int .i64 t4.rp, .int .i64 t4.ras, .int .i64 t4.rrds, .int .i64 t4.rrdl, .int .i64 t4.faw, .int .i64 t4.ccds, .int .i64 t4.ccdl, .int .i64 t4.rtp, .int .i64 t4.wr, .int .i64 t4.wtrs, .int .i64 t4.wtrl, .int .i64 t4.rtw, .int .i64 t4.rfc, .int .i64 t4.cke, .int .i64 t4.xp, .int .i64 t4.xs]) z ?_ ?_ ?_ ?_ ?_ ?_); kernel_rfl; kernel_rfl; kernel_rfl; kernel_rfl; kernel_rfl))
  have hr := setRow_same _ _ #[.int .i64 t4.rcd, .int .i64 t4.rp, .int .i64 t4.ras, .int .i64 t4.rrds, .int .i64 t4.rrdl, .int .i64 t4.faw, .int .i64 t4.ccds, .int .i64 t4.ccdl, .int .i64 t4.rtp, .int .i64 t4.wr, .int .i64 t4.wtrs, .int .i64 t4.wtrl, .int .i64 t4.rtw, .int .i64 t4.rfc, .int .i64 t4.cke, .int .i64 t4.xp, .int .i64 t4.xs] _ _ z
  refine bodyPost_ret (v := .agg #[.int .i64 t4.rcd, .int .i64 t4.rp, .int .i64 t4.ras, .int .i64 t4.rrds, .int .i64 t4.rrdl, .int .i64 t4.faw, .int .i64 t4.ccds, .int .i64 t4.ccdl, .int .i64 t4.rtp, .int .i64 t4.wr, .int .i64 t4.wtrs, .int .i64 t4.wtrl, .int .i64 t4.rtw, .int .i64 t4.rfc, .int .i64 t4.cke, .int .i64 t4.xp, .int .i64 t4.xs]) (results_cell_row rfl _ _ w.heap.size 27 #[.int .i64 t4.rcd, .int .i64 t4.rp, .int .i64 t4.ras, .int .i64 t4.rrds, .int .i64 t4.rrdl, .int .i64 t4.faw, .int .i64 t4.ccds, .int .i64 t4.ccdl, .int .i64 t4.rtp, .int .i64 t4.wr, .int .i64 t4.wtrs, .int .i64 t4.wtrl, .int .i64 t4.rtw, .int .i64 t4.rfc, .int .i64 t4.cke, .int .i64 t4.xp, .int .i64 t4.xs] (0, 0) _ rfl hr Try.underlying27 rfl (by kernel_rfl)) rfl ⟨t4, rfl, OK4.out, ?_, ?_⟩
  · exact (D3.out.cur).keep (setRow_other _ _ _ _ (by have := D3.out.cu; omega)) (below_setRow (Below.refl _ _) (by have := D3.out.cu; omega) _)
  · exact D3.out.only.trans' ⟨rfl, rfl, rfl, by simp⟩ (fun k hk hne => setRow_other _ _ _ _ (by omega))

end Go.Proofs.Ythplhjdfajhmpaa

namespace Go.Proofs.Ythplhjdfajhmpaa
open Go.RowKit Go.PlainAid

set_option linter.unusedVariables false

theorem atM_step (B : Int) (t : Tm) (la : List Int) (k x : Int) (m : Nat) (b : Int) (hb : la.getD m 0 = b) (h0 : 0 ≤ b) : atM B t la k x (m + 1) = max (atM B t la k x m) (b + gapR B t (kindI m) (bankI m) k x) := by
  show (if la.getD m 0 < 0 then _ else _) = _
  rw [hb, if_neg (by omega)]

theorem atM_skip (B : Int) (t : Tm) (la : List Int) (k x : Int) (m : Nat) (h0 : la.getD m 0 < 0) : atM B t la k x (m + 1) = atM B t la k x m := if_pos h0

theorem atM_top (B : Int) (t : Tm) (la : List Int) (k x : Int) (h : ∀ i, i < la.length → la.getD i 0 ≤ 1000000) : ∀ m, m ≤ la.length → atM B t la k x m ≤ 1000128
  | 0, _ => by show (0 : Int) ≤ 1000128; decide
  | m + 1, hm => by
    have h1 := atM_top B t la k x h m (by omega)
    have h2 := h m (by omega)
    have h3 := (gapR_range B t (kindI m) (bankI m) k x).2
    unfold atM
    split <;> omega

set_option maxHeartbeats 16000000 in
set_option maxRecDepth 100000 in
theorem specAt_is (t : Tm) (g0 B g2 g3 : Int) (N : Nat) (a1 : Option Addr) (n1 c1 : Nat) (la : List Int) (a2 : Option Addr) (n2 c2 : Nat) (ac : List Int) (k x y z v : Int) (hv : atS B t la ac k x = v) (hto : TimOk t) (hrd : RdOk g0 B g2 g3 N la ac) (hN : bankN g0 B g2 g3 = (N : Int)) (hx : 0 ≤ x ∧ x ≤ 7) (hl1 : la.length = n1) (hl2 : ac.length = n2) (w : World) (hr1 : RowI w a1 la) (hr2 : RowI w a2 ac) :
    Calls Try.prog 71 #[.agg #[.int .i64 g0, .int .i64 B, .int .i64 g2, .int .i64 g3], .agg #[.int .i64 t.rcd, .int .i64 t.rp, .int .i64 t.ras, .int .i64 t.rrds, .int .i64 t.rrdl, .int .i64 t.faw, .int .i64 t.ccds, .int .i64 t.ccdl, .int .i64 t.rtp, .int .i64 t.wr, .int .i64 t.wtrs, .int .i64 t.wtrl, .int .i64 t.rtw, .int .i64 t.rfc, .int .i64 t.cke, .int .i64 t.xp, .int .i64 t.xs], .agg #[.slice a1 n1 c1, .slice a2 n2 c2], .agg #[.int .i64 k, .int .i64 x, .int .i64 y, .int .i64 z]] w (Gives (.int .i64 v) w) := by
  obtain ⟨w1, hw1⟩ : ∃ u, (((w.alloc (.cells #[.int .i64 g0, .int .i64 B, .int .i64 g2, .int .i64 g3] 25)).alloc (.cells #[.int .i64 t.rcd, .int .i64 t.rp, .int .i64 t.ras, .int .i64 t.rrds, .int .i64 t.rrdl, .int .i64 t.faw, .int .i64 t.ccds, .int .i64 t.ccdl, .int .i64 t.rtp, .int .i64 t.wr, .int .i64 t.wtrs, .int .i64 t.wtrl, .int .i64 t.rtw, .int .i64 t.rfc, .int .i64 t.cke, .int .i64 t.xp, .int .i64 t.xs] 27)).alloc (.cells #[.slice a1 n1 c1, .slice a2 n2 c2] 33)).alloc (.cells #[.int .i64 k, .int .i64 x, .int .i64 y, .int .i64 z] 39) = u := ⟨_, rfl⟩
  have HB1 : Hid (Below w.heap.size w w1) := by subst hw1; exact ((((Below.refl _ _).alloc (by simp) _).alloc (by simp) _).alloc (by simp; omega) _).alloc (by simp; omega) _
  have g1 : w1.heap[w.heap.size]? = some (.cells #[.int .i64 g0, .int .i64 B, .int .i64 g2, .int .i64 g3] 25) := by subst hw1; exact box4_0 _ _ _ _ _
  have p1 : w1.heap[w.heap.size + 1]? = some (.cells #[.int .i64 t.rcd, .int .i64 t.rp, .int .i64 t.ras, .int .i64 t.rrds, .int .i64 t.rrdl, .int .i64 t.faw, .int .i64 t.ccds, .int .i64 t.ccdl, .int .i64 t.rtp, .int .i64 t.wr, .int .i64 t.wtrs, .int .i64 t.wtrl, .int .i64 t.rtw, .int .i64 t.rfc, .int .i64 t.cke, .int .i64 t.xp, .int .i64 t.xs] 27) := by subst hw1; exact box4_1 _ _ _ _ _
  have r1 : w1.heap[w.heap.size + 1 + 1]? = some (.cells #[.slice a1 n1 c1, .slice a2 n2 c2] 33) := by subst hw1; exact box4_2 _ _ _ _ _
  have q1 : w1.heap[w.heap.size + 1 + 1 + 1]? = some (.cells #[.int .i64 k, .int .i64 x, .int .i64 y, .int .i64 z] 39) := by subst hw1; exact box4_3 _ _ _ _ _
  have HR1 := Lib.hid (hr1.below HB1.out)
  have HR2 := Lib.hid (hr2.below HB1.out)
  have HL1 := Lib.hid hl1
  have HL2 := Lib.hid hl2
  have HV := Lib.hid hv
  have hr := bankN_range g0 B g2 g3
  have hN8 : N ≤ 8 := by omega
  have HBB : Hid (1 ≤ B ∧ B ≤ 4) := hrd.1.2.1
  have HXX := Lib.hid hx
  have h81 : n1 ≤ 81 := by have := hrd.2.1; omega
  have HLO : Hid (LastOk N la) := hrd.2.2.2.1
  have HAO : Hid (ActsOk ac) := hrd.2.2.2.2
  have hn4 : n2 ≤ 4 := by have := hrd.2.2.1; omega
  have HTOP : Hid (∀ m, m ≤ n1 → 0 ≤ atM B t la k x m ∧ atM B t la k x m ≤ 1000128) := fun m hm => ⟨(atM_le B t la k x m).1, atM_top B t la k x (fun i hi => (hrd.2.2.2.1 i hi).1.2) m (by omega)⟩
  have HFAW : Hid (1 ≤ t.faw ∧ t.faw ≤ 64) := hto.nums.2.2.2.2.2.1
  clear hr1 hr2 hv hl1 hl2 hr hx hrd hN hto
  go_enter Try.func71, Try.ntmps71
  go_wp2_with fail
  go_loopw [9, 10] (fun a i wr => ∃ m : Nat, m ≤ n1 ∧ i = .int .i64 m ∧ a = .int .i64 (atM B t la k x m) ∧ Below w1.heap.size w1 wr) (fun _ i _ => n1 - (intOf i).toNat)
  case atStart => exact ⟨0, Nat.zero_le _, rfl, rfl, Below.refl _ _⟩
  case round =>
    obtain ⟨m, hm, rfl, rfl, hbr⟩ := hrel
    have HBR := Lib.hid hbr
    have HBW : Hid (Below w.heap.size w wr) := HB1.out.trans (hbr.mono HB1.out.size)
    have gr := keep_block hbr g1 (lt_of_block g1)
    have pr := keep_block hbr p1 (lt_of_block p1)
    have rr := keep_block hbr r1 (lt_of_block r1)
    have qr := keep_block hbr q1 (lt_of_block q1)
    clear hbr
    obtain ⟨d0, d1⟩ := cells2 rr
    obtain ⟨M, hM⟩ : ∃ M, atM B t la k x m = M := ⟨_, rfl⟩
    rw [hM]
    by_cases hlt : m < n1
    · obtain ⟨bb, off, rfl, hs⟩ := (HR1.out.below HBR.out).at (k := m) (by rw [HL1.out]; exact hlt)
      have HLM := Lib.hid (HLO.out m (by rw [HL1.out]; exact hlt))
      obtain ⟨b, hb⟩ : ∃ b, la.getD m 0 = b := ⟨_, rfl⟩
      have HBV := Lib.hid hb
      rw [hb] at hs HLM
      by_cases hneg : b < 0
      case pos =>
        have tn : decide (b < 0) = true := decide_eq_true hneg
        have HST : Hid (atM B t la k x (m + 1) = M) := by show _ = _; rw [atM_skip B t la k x m (by omega), hM]
        clear hb hM
        go_wp2_with fail
        go_roundw
        case rel => exact ⟨m + 1, by omega, by go_num, by rw [HST.out], HBR.out⟩
        case measure => simp [intOf]; omega
      have tn : decide (b < 0) = false := decide_eq_false hneg
      have HST := Lib.hid (atM_step B t la k x m b hb (by omega))
      have HMM := Lib.hid (HTOP.out m hm)
      rw [hM] at HST HMM
      obtain ⟨r, hr⟩ : ∃ r, m % 9 = r := ⟨_, rfl⟩
      obtain ⟨q, hq⟩ : ∃ q, m / 9 = q := ⟨_, rfl⟩
      have f1 : (m : Int).tmod 9 = (r : Int) := by rw [Int.tmod_eq_emod_of_nonneg (by omega)]; omega
      have f2 : (m : Int).tdiv 9 = (q : Int) := by rw [Int.tdiv_eq_ediv_of_nonneg (by omega)]; omega
      have r8 : r ≤ 8 := by omega
      have q9 : q ≤ 9 := by omega
      have f3 : IntKind.i64.wrap (r : Int) = (r : Int) := IntWalk.i64_in _ (by omega)
      have f4 : IntKind.i64.wrap (q : Int) = (q : Int) := IntWalk.i64_in _ (by omega)
      have f5 : IntKind.i64.wrap ((r : Int) + 1) = (r : Int) + 1 := IntWalk.i64_in _ (by omega)
      have HKI : Hid (kindI m = (r : Int) + 1) := by show _ = _; unfold kindI; rw [hr]; simp
      have hused : (decide (r + 1 ≤ 5) == decide (q < N)) = true := by
        have h1 := HLM.out.2.resolve_right (by omega)
        unfold usedI at h1
        rw [hr, hq] at h1
        exact h1
      have HBI : Hid (bankI m = if r + 1 ≤ 5 then (q : Int) else 0) := by show _ = _; unfold bankI; rw [hr, hq]
      obtain ⟨X, hX⟩ : ∃ X, bankI m = X := ⟨_, rfl⟩
      obtain ⟨G, hG⟩ : ∃ G, gapR B t ((r : Int) + 1) X k x = G := ⟨_, rfl⟩
      have hGr := gapR_range B t ((r : Int) + 1) X k x
      have HG := Lib.hid hG
      rw [HKI.out, hX, hG] at HST
      rw [hX] at HBI
      rw [hG] at hGr
      have HBN := Lib.hid HLM.out.1
      have hb6 : b ≤ 1000000 := HLM.out.1.2
      have f6 : IntKind.i64.wrap (b + G) = b + G := IntWalk.i64_in _ (by omega)
      clear hb hM hr hq hX hG HLM
      by_cases h5 : r + 1 ≤ 5
      case pos =>
        obtain rfl : X = (q : Int) := by rw [HBI.out, if_pos h5]
        have hq8 : q < N := by rw [decide_eq_true h5] at hused; simpa using hused
        have HQ7 : Hid (0 ≤ (q : Int) ∧ (q : Int) ≤ 7) := by show _ ∧ _; omega
        have t5 : decide ((r : Int) + 1 ≤ 5) = true := decide_eq_true (by omega)
        clear hused HBI HKI h5
        have hbn : Below wr.heap.size wr (wr.alloc (.cells #[.int .i64 ((r : Int) + 1), .int .i64 (q : Int), .int .i64 0, .int .i64 0] 39)) := (Below.refl _ _).alloc (Nat.le_refl _) _
        have ST : Hid ((wr.alloc (.cells #[.int .i64 ((r : Int) + 1), .int .i64 (q : Int), .int .i64 0, .int .i64 0] 39)).heap[wr.heap.size]? = some (.cells #[.int .i64 ((r : Int) + 1), .int .i64 (q : Int), .int .i64 0, .int .i64 0] 39) ∧ (wr.alloc (.cells #[.int .i64 ((r : Int) + 1), .int .i64 (q : Int), .int .i64 0, .int .i64 0] 39)).heap[w.heap.size]? = some (.cells #[.int .i64 g0, .int .i64 B, .int .i64 g2, .int .i64 g3] 25) ∧ (wr.alloc (.cells #[.int .i64 ((r : Int) + 1), .int .i64 (q : Int), .int .i64 0, .int .i64 0] 39)).heap[w.heap.size + 1]? = some (.cells #[.int .i64 t.rcd, .int .i64 t.rp, .int .i64 t.ras, .int .i64 t.rrds, .int .i64 t.rrdl, .int .i64 t.faw, .int .i64 t.ccds, .int .i64 t.ccdl, .int .i64 t.rtp, .int .i64 t.wr, .int .i64 t.wtrs, .int .i64 t.wtrl, .int .i64 t.rtw, .int .i64 t.rfc, .int .i64 t.cke, .int .i64 t.xp, .int .i64 t.xs] 27) ∧ (wr.alloc (.cells #[.int .i64 ((r : Int) + 1), .int .i64 (q : Int), .int .i64 0, .int .i64 0] 39)).heap[w.heap.size + 1 + 1]? = some (.cells #[.slice (some ⟨bb, off, none⟩) n1 c1, .slice a2 n2 c2] 33) ∧ (wr.alloc (.cells #[.int .i64 ((r : Int) + 1), .int .i64 (q : Int), .int .i64 0, .int .i64 0] 39)).heap[w.heap.size + 1 + 1 + 1]? = some (.cells #[.int .i64 k, .int .i64 x, .int .i64 y, .int .i64 z] 39) ∧ (wr.alloc (.cells #[.int .i64 ((r : Int) + 1), .int .i64 (q : Int), .int .i64 0, .int .i64 0] 39)).cell? ⟨bb, off + m, none⟩ = some (.int .i64 b) ∧ Below w1.heap.size w1 (wr.alloc (.cells #[.int .i64 ((r : Int) + 1), .int .i64 (q : Int), .int .i64 0, .int .i64 0] 39))) :=
          ⟨heap_alloc_new _ _, keep_block hbn gr (lt_of_block gr), keep_block hbn pr (lt_of_block pr), keep_block hbn rr (lt_of_block rr), keep_block hbn qr (lt_of_block qr), hbn.cell (World.block_lt_of_cell? _ _ hs) |>.trans hs, HBR.out.trans (hbn.mono HBR.out.size)⟩
        clear hbn
        go_wp2_with fail
        generalize wr.alloc (.cells #[.int .i64 ((r : Int) + 1), .int .i64 (q : Int), .int .i64 0, .int .i64 0] 39) = wn at ST ⊢
        obtain ⟨en, gn, pn, rn, qn, hsn, hbn2⟩ := ST.out
        have HBN2 := Lib.hid hbn2
        obtain ⟨c0, c1', c2', c3⟩ := cells4 gn
        obtain ⟨e0, e1, e2, e3⟩ := cells4 en
        obtain ⟨k0, k1, k2, k3⟩ := cells4 qn
        obtain ⟨b0, b1⟩ := cells2 rn
        have zg0 := fun u : Later wn => u.cell c0
        have zg1 := fun u : Later wn => u.cell c1'
        have zg2 := fun u : Later wn => u.cell c2'
        have zg3 := fun u : Later wn => u.cell c3
        have ze0 := fun u : Later wn => u.cell e0
        have ze1 := fun u : Later wn => u.cell e1
        have ze2 := fun u : Later wn => u.cell e2
        have ze3 := fun u : Later wn => u.cell e3
        have zk0 := fun u : Later wn => u.cell k0
        have zk1 := fun u : Later wn => u.cell k1
        have zk2 := fun u : Later wn => u.cell k2
        have zk3 := fun u : Later wn => u.cell k3
        have zr0 := fun u : Later wn => u.cell b0
        have zr1 := fun u : Later wn => u.cell b1
        have zs := fun u : Later wn => u.cell hsn
        clear ST hbn2 gn rn qn en c0 c1' c2' c3 e0 e1 e2 e3 k0 k1 k2 k3 b0 b1 hsn gr pr rr qr
        by_cases hmx : M < b + G
        all_goals
          refine wp_region_later (by kernel_rfl) (by kernel_rfl) ?_
          repeat (first | ((with_reducible refine ld_later ?_ ?_ pn ?_); kernel_rfl; kernel_rfl; go_simp) | go_big_quiet_step ((go_at_call 89; exact Gives.later _ (specL07Gap_is t g0 B g2 g3 ((r : Int) + 1) (q : Int) 0 0 k x y z HBB.out HQ7.out HXX.out G HG.out _))))
          refine wpQuiet_nil ?_
          intro zz
          have HB6 : Hid (Below w1.heap.size w1 zz.to) := HBN2.out.trans (zz.ok.mono HBN2.out.size)
          clear zg0 zg1 zg2 zg3 ze0 ze1 ze2 ze3 zk0 zk1 zk2 zk3 zr0 zr1 zs
          go_wp2_with fail
          go_roundw
          case rel => exact ⟨m + 1, by omega, by go_num, by rw [HST.out]; congr 1; omega, HB6.out⟩
          case measure => simp [intOf]; omega
      case neg =>
        obtain rfl : X = 0 := by rw [HBI.out, if_neg h5]
        have HQ7 : Hid (0 ≤ (0 : Int) ∧ (0 : Int) ≤ 7) := by show _ ∧ _; omega
        have t5 : decide ((r : Int) + 1 ≤ 5) = false := decide_eq_false (by omega)
        clear hused HBI HKI h5
        have hbn : Below wr.heap.size wr (wr.alloc (.cells #[.int .i64 ((r : Int) + 1), .int .i64 0, .int .i64 0, .int .i64 0] 39)) := (Below.refl _ _).alloc (Nat.le_refl _) _
        have ST : Hid ((wr.alloc (.cells #[.int .i64 ((r : Int) + 1), .int .i64 0, .int .i64 0, .int .i64 0] 39)).heap[wr.heap.size]? = some (.cells #[.int .i64 ((r : Int) + 1), .int .i64 0, .int .i64 0, .int .i64 0] 39) ∧ (wr.alloc (.cells #[.int .i64 ((r : Int) + 1), .int .i64 0, .int .i64 0, .int .i64 0] 39)).heap[w.heap.size]? = some (.cells #[.int .i64 g0, .int .i64 B, .int .i64 g2, .int .i64 g3] 25) ∧ (wr.alloc (.cells #[.int .i64 ((r : Int) + 1), .int .i64 0, .int .i64 0, .int .i64 0] 39)).heap[w.heap.size + 1]? = some (.cells #[.int .i64 t.rcd, .int .i64 t.rp, .int .i64 t.ras, .int .i64 t.rrds, .int .i64 t.rrdl, .int .i64 t.faw, .int .i64 t.ccds, .int .i64 t.ccdl, .int .i64 t.rtp, .int .i64 t.wr, .int .i64 t.wtrs, .int .i64 t.wtrl, .int .i64 t.rtw, .int .i64 t.rfc, .int .i64 t.cke, .int .i64 t.xp, .int .i64 t.xs] 27) ∧ (wr.alloc (.cells #[.int .i64 ((r : Int) + 1), .int .i64 0, .int .i64 0, .int .i64 0] 39)).heap[w.heap.size + 1 + 1]? = some (.cells #[.slice (some ⟨bb, off, none⟩) n1 c1, .slice a2 n2 c2] 33) ∧ (wr.alloc (.cells #[.int .i64 ((r : Int) + 1), .int .i64 0, .int .i64 0, .int .i64 0] 39)).heap[w.heap.size + 1 + 1 + 1]? = some (.cells #[.int .i64 k, .int .i64 x, .int .i64 y, .int .i64 z] 39) ∧ (wr.alloc (.cells #[.int .i64 ((r : Int) + 1), .int .i64 0, .int .i64 0, .int .i64 0] 39)).cell? ⟨bb, off + m, none⟩ = some (.int .i64 b) ∧ Below w1.heap.size w1 (wr.alloc (.cells #[.int .i64 ((r : Int) + 1), .int .i64 0, .int .i64 0, .int .i64 0] 39))) :=
          ⟨heap_alloc_new _ _, keep_block hbn gr (lt_of_block gr), keep_block hbn pr (lt_of_block pr), keep_block hbn rr (lt_of_block rr), keep_block hbn qr (lt_of_block qr), hbn.cell (World.block_lt_of_cell? _ _ hs) |>.trans hs, HBR.out.trans (hbn.mono HBR.out.size)⟩
        clear hbn
        go_wp2_with fail
        generalize wr.alloc (.cells #[.int .i64 ((r : Int) + 1), .int .i64 0, .int .i64 0, .int .i64 0] 39) = wn at ST ⊢
        obtain ⟨en, gn, pn, rn, qn, hsn, hbn2⟩ := ST.out
        have HBN2 := Lib.hid hbn2
        obtain ⟨c0, c1', c2', c3⟩ := cells4 gn
        obtain ⟨e0, e1, e2, e3⟩ := cells4 en
        obtain ⟨k0, k1, k2, k3⟩ := cells4 qn
        obtain ⟨b0, b1⟩ := cells2 rn
        have zg0 := fun u : Later wn => u.cell c0
        have zg1 := fun u : Later wn => u.cell c1'
        have zg2 := fun u : Later wn => u.cell c2'
        have zg3 := fun u : Later wn => u.cell c3
        have ze0 := fun u : Later wn => u.cell e0
        have ze1 := fun u : Later wn => u.cell e1
        have ze2 := fun u : Later wn => u.cell e2
        have ze3 := fun u : Later wn => u.cell e3
        have zk0 := fun u : Later wn => u.cell k0
        have zk1 := fun u : Later wn => u.cell k1
        have zk2 := fun u : Later wn => u.cell k2
        have zk3 := fun u : Later wn => u.cell k3
        have zr0 := fun u : Later wn => u.cell b0
        have zr1 := fun u : Later wn => u.cell b1
        have zs := fun u : Later wn => u.cell hsn
        clear ST hbn2 gn rn qn en c0 c1' c2' c3 e0 e1 e2 e3 k0 k1 k2 k3 b0 b1 hsn gr pr rr qr
        by_cases hmx : M < b + G
        all_goals
          refine wp_region_later (by kernel_rfl) (by kernel_rfl) ?_
          repeat (first | ((with_reducible refine ld_later ?_ ?_ pn ?_); kernel_rfl; kernel_rfl; go_simp) | go_big_quiet_step ((go_at_call 89; exact Gives.later _ (specL07Gap_is t g0 B g2 g3 ((r : Int) + 1) 0 0 0 k x y z HBB.out HQ7.out HXX.out G HG.out _))))
          refine wpQuiet_nil ?_
          intro zz
          have HB6 : Hid (Below w1.heap.size w1 zz.to) := HBN2.out.trans (zz.ok.mono HBN2.out.size)
          clear zg0 zg1 zg2 zg3 ze0 ze1 ze2 ze3 zk0 zk1 zk2 zk3 zr0 zr1 zs
          go_wp2_with fail
          go_roundw
          case rel => exact ⟨m + 1, by omega, by go_num, by rw [HST.out]; congr 1; omega, HB6.out⟩
          case measure => simp [intOf]; omega
    obtain rfl : m = n1 := by omega
    have HMM := Lib.hid (HTOP.out m hm)
    rw [hM] at HMM
    have HMA : Hid (atM B t la k x la.length = M) := by show _ = _; rw [HL1.out]; exact hM
    obtain ⟨k0, k1, k2, k3⟩ := cells4 qr
    clear hM hlt
    by_cases hk : k = 1
    case neg =>
      have HE : Hid (v = M) := by show _ = _; rw [← HV.out]; unfold atS; rw [if_neg (fun h => hk h.1), HMA.out]
      have tk : (k == 1) = false := by simp [hk]
      clear hk
      go_wp2_with fail
      go_ret
      exact ⟨ret_i (by rw [HE.out]), HBW.out⟩
    subst hk
    by_cases h4 : n2 = 4
    case neg =>
      have HE : Hid (v = M) := by show _ = _; rw [← HV.out]; unfold atS; rw [if_neg (fun h => h4 (by rw [← HL2.out]; exact h.2)), HMA.out]
      have t4 : ((n2 : Int) == 4) = false := by simp; omega
      clear h4
      go_wp2_with fail
      go_ret
      exact ⟨ret_i (by rw [HE.out]), HBW.out⟩
    obtain ⟨bb, off, rfl, hs⟩ := (HR2.out.below HBR.out).at (k := 0) (by rw [HL2.out]; omega)
    obtain ⟨b, hb⟩ : ∃ b, ac.getD 0 0 = b := ⟨_, rfl⟩
    rw [hb] at hs
    have hbr2 := (HAO.out 0 (by rw [HL2.out]; omega)).1
    rw [hb] at hbr2
    have hf := HFAW.out
    have HE : Hid (v = max M (b + t.faw)) := by show _ = _; rw [← HV.out]; unfold atS; rw [if_pos ⟨rfl, by rw [HL2.out]; exact h4⟩, HMA.out, hb]
    have t4 : ((n2 : Int) == 4) = true := by simp; omega
    obtain ⟨W, hW⟩ : ∃ W, t.faw = W := ⟨_, rfl⟩
    have f6 : IntKind.i64.wrap (b + W) = b + W := IntWalk.i64_in _ (by omega)
    have hn2 : 0 < n2 := by omega
    rw [hW] at HE
    obtain ⟨tf⟩ : Nonempty (wr.cell? ⟨w.heap.size + 1, 5, none⟩ = some (.int .i64 W)) := ⟨by rw [← hW]; simp [World.cell?, pr]⟩
    have zr0 := fun u : Later wr => u.cell d0
    have zr1 := fun u : Later wr => u.cell d1
    have zf := fun u : Later wr => u.cell tf
    rw [Nat.add_zero] at hs
    have zs := fun u : Later wr => u.cell hs
    have hn3 : (0 : Int) < (n2 : Int) := by omega
    have t6 : decide ((0 : Int) < (n2 : Int)) = true := decide_eq_true hn3
    have t7 : decide (0 < n2) = true := decide_eq_true hn2
    clear hb h4 hW hf hbr2
    by_cases hmx : M < b + W
    all_goals
      go_wp2_with fail
      refine wp_region_later (by kernel_rfl) (by kernel_rfl) ?_
      repeat (go_big_quiet_step (fail))
      refine wpQuiet_nil ?_
      rintro w5 ⟨zz, rfl⟩
      have HB5 : Hid (Below w.heap.size w zz.to) := HBW.out.trans (zz.ok.mono HBW.out.size)
      go_wp2
      go_ret
      exact ⟨ret_i (by rw [HE.out]; omega), HB5.out⟩

set_option maxHeartbeats 16000000 in
set_option maxRecDepth 100000 in
theorem specReadyAt_is (t : Tm) (g0 B g2 g3 : Int) (N : Nat) (hN : bankN g0 B g2 g3 = (N : Int)) (a1 : Option Addr) (n1 c1 : Nat) (la : List Int) (a2 : Option Addr) (n2 c2 : Nat) (ac : List Int) (k x y z v : Int) (hv : atV g0 B g2 g3 t N la ac k x y z = v) (hl1 : la.length = n1) (h1 : n1 ≤ 4000000) (hl2 : ac.length = n2) (h2 : n2 ≤ 4000000) (w : World) (hr1 : RowI w a1 la) (hr2 : RowI w a2 ac) :
    Calls Try.prog 36 #[.agg #[.int .i64 g0, .int .i64 B, .int .i64 g2, .int .i64 g3], .agg #[.int .i64 t.rcd, .int .i64 t.rp, .int .i64 t.ras, .int .i64 t.rrds, .int .i64 t.rrdl, .int .i64 t.faw, .int .i64 t.ccds, .int .i64 t.ccdl, .int .i64 t.rtp, .int .i64 t.wr, .int .i64 t.wtrs, .int .i64 t.wtrl, .int .i64 t.rtw, .int .i64 t.rfc, .int .i64 t.cke, .int .i64 t.xp, .int .i64 t.xs], .agg #[.slice a1 n1 c1, .slice a2 n2 c2], .agg #[.int .i64 k, .int .i64 x, .int .i64 y, .int .i64 z]] w (Gives (.int .i64 v) w) := by
  obtain ⟨w1, hw1⟩ : ∃ u, (((w.alloc (.cells #[.int .i64 g0, .int .i64 B, .int .i64 g2, .int .i64 g3] 25)).alloc (.cells #[.int .i64 t.rcd, .int .i64 t.rp, .int .i64 t.ras, .int .i64 t.rrds, .int .i64 t.rrdl, .int .i64 t.faw, .int .i64 t.ccds, .int .i64 t.ccdl, .int .i64 t.rtp, .int .i64 t.wr, .int .i64 t.wtrs, .int .i64 t.wtrl, .int .i64 t.rtw, .int .i64 t.rfc, .int .i64 t.cke, .int .i64 t.xp, .int .i64 t.xs] 27)).alloc (.cells #[.slice a1 n1 c1, .slice a2 n2 c2] 33)).alloc (.cells #[.int .i64 k, .int .i64 x, .int .i64 y, .int .i64 z] 39) = u := ⟨_, rfl⟩
  have HB1 : Hid (Below w.heap.size w w1) := by subst hw1; exact ((((Below.refl _ _).alloc (by simp) _).alloc (by simp) _).alloc (by simp; omega) _).alloc (by simp; omega) _
  have g1 : w1.heap[w.heap.size]? = some (.cells #[.int .i64 g0, .int .i64 B, .int .i64 g2, .int .i64 g3] 25) := by subst hw1; exact box4_0 _ _ _ _ _
  have p1 : w1.heap[w.heap.size + 1]? = some (.cells #[.int .i64 t.rcd, .int .i64 t.rp, .int .i64 t.ras, .int .i64 t.rrds, .int .i64 t.rrdl, .int .i64 t.faw, .int .i64 t.ccds, .int .i64 t.ccdl, .int .i64 t.rtp, .int .i64 t.wr, .int .i64 t.wtrs, .int .i64 t.wtrl, .int .i64 t.rtw, .int .i64 t.rfc, .int .i64 t.cke, .int .i64 t.xp, .int .i64 t.xs] 27) := by subst hw1; exact box4_1 _ _ _ _ _
  have r1 : w1.heap[w.heap.size + 1 + 1]? = some (.cells #[.slice a1 n1 c1, .slice a2 n2 c2] 33) := by subst hw1; exact box4_2 _ _ _ _ _
  have q1 : w1.heap[w.heap.size + 1 + 1 + 1]? = some (.cells #[.int .i64 k, .int .i64 x, .int .i64 y, .int .i64 z] 39) := by subst hw1; exact box4_3 _ _ _ _ _
  have HR1 := Lib.hid (hr1.below HB1.out)
  have HR2 := Lib.hid (hr2.below HB1.out)
  have HL1 := Lib.hid hl1
  have HL2 := Lib.hid hl2
  have HV := Lib.hid hv
  have HN := Lib.hid hN
  have BAD : Hid (¬ (TimOk t ∧ RdOk g0 B g2 g3 N la ac ∧ CmOk k x y z ∧ AdOk g0 B g2 g3 x y z) → v = -1) := fun h => by
    rw [← HV.out]
    exact if_neg (fun h2 => h h2.1)
  clear hr1 hr2 hv hl1 hl2 hN
  by_cases hT : TimOk t
  case neg =>
    have HE : Hid (v = -1) := BAD.out (fun h => hT h.1)
    have KT := Lib.hid (decide_eq_false hT)
    clear hT
    go_enter Try.func36, Try.ntmps36
    go_wp2_with (first | ((with_reducible refine ld_tm ?_ ?_ p1 ?_); kernel_rfl; kernel_rfl; go_simp))
    refine (specTimOk_is t _ KT.out _).mono ?_
    rintro e w2 ⟨rfl, hb2⟩
    have g2' := keep_block hb2 g1 (lt_of_block g1)
    have p2 := keep_block hb2 p1 (lt_of_block p1)
    have r2 := keep_block hb2 r1 (lt_of_block r1)
    have q2 := keep_block hb2 q1 (lt_of_block q1)
    have HB2 : Hid (Below w.heap.size w w2) := HB1.out.trans (hb2.mono HB1.out.size)
    have HA2 := Lib.hid (HR1.out.below hb2)
    have HC2 := Lib.hid (HR2.out.below hb2)
    clear hb2
    go_wp2
    go_ret
    exact ⟨ret_i (by rw [HE.out]), HB2.out⟩
  have KT := Lib.hid (decide_eq_true hT)
  by_cases hR : RdOk g0 B g2 g3 N la ac
  case neg =>
    have HE : Hid (v = -1) := BAD.out (fun h => hR h.2.1)
    have KR := Lib.hid (decide_eq_false hR)
    clear hT hR
    go_enter Try.func36, Try.ntmps36
    go_wp2_with (first | ((with_reducible refine ld_tm ?_ ?_ p1 ?_); kernel_rfl; kernel_rfl; go_simp))
    refine (specTimOk_is t _ KT.out _).mono ?_
    rintro e w2 ⟨rfl, hb2⟩
    have g2' := keep_block hb2 g1 (lt_of_block g1)
    have p2 := keep_block hb2 p1 (lt_of_block p1)
    have r2 := keep_block hb2 r1 (lt_of_block r1)
    have q2 := keep_block hb2 q1 (lt_of_block q1)
    have HB2 : Hid (Below w.heap.size w w2) := HB1.out.trans (hb2.mono HB1.out.size)
    have HA2 := Lib.hid (HR1.out.below hb2)
    have HC2 := Lib.hid (HR2.out.below hb2)
    clear hb2
    obtain ⟨c0, c1', c2', c3⟩ := cells4 g2'
    obtain ⟨d0, d1⟩ := cells2 r2
    go_wp2_with fail
    refine (specReadyOk_is g0 B g2 g3 N HN.out a1 n1 c1 la a2 n2 c2 ac _ KR.out HL1.out h1 HL2.out h2 _ HA2.out HC2.out).mono ?_
    rintro e w3 ⟨rfl, hb3⟩
    have g3' := keep_block hb3 g2' (lt_of_block g2')
    have p3 := keep_block hb3 p2 (lt_of_block p2)
    have r3 := keep_block hb3 r2 (lt_of_block r2)
    have q3 := keep_block hb3 q2 (lt_of_block q2)
    have HB3 : Hid (Below w.heap.size w w3) := HB2.out.trans (hb3.mono HB2.out.size)
    have HA3 := Lib.hid (HA2.out.below hb3)
    have HC3 := Lib.hid (HC2.out.below hb3)
    clear hb3 c0 c1' c2' c3 d0 d1
    go_wp2
    go_ret
    exact ⟨ret_i (by rw [HE.out]), HB3.out⟩
  have KR := Lib.hid (decide_eq_true hR)
  by_cases hC : CmOk k x y z ∧ AdOk g0 B g2 g3 x y z
  case neg =>
    have HE : Hid (v = -1) := BAD.out (fun h => hC h.2.2)
    have KC := Lib.hid (decide_eq_false hC)
    clear hT hR hC
    go_enter Try.func36, Try.ntmps36
    go_wp2_with (first | ((with_reducible refine ld_tm ?_ ?_ p1 ?_); kernel_rfl; kernel_rfl; go_simp))
    refine (specTimOk_is t _ KT.out _).mono ?_
    rintro e w2 ⟨rfl, hb2⟩
    have g2' := keep_block hb2 g1 (lt_of_block g1)
    have p2 := keep_block hb2 p1 (lt_of_block p1)
    have r2 := keep_block hb2 r1 (lt_of_block r1)
    have q2 := keep_block hb2 q1 (lt_of_block q1)
    have HB2 : Hid (Below w.heap.size w w2) := HB1.out.trans (hb2.mono HB1.out.size)
    have HA2 := Lib.hid (HR1.out.below hb2)
    have HC2 := Lib.hid (HR2.out.below hb2)
    clear hb2
    obtain ⟨c0, c1', c2', c3⟩ := cells4 g2'
    obtain ⟨d0, d1⟩ := cells2 r2
    go_wp2_with fail
    refine (specReadyOk_is g0 B g2 g3 N HN.out a1 n1 c1 la a2 n2 c2 ac _ KR.out HL1.out h1 HL2.out h2 _ HA2.out HC2.out).mono ?_
    rintro e w3 ⟨rfl, hb3⟩
    have g3' := keep_block hb3 g2' (lt_of_block g2')
    have p3 := keep_block hb3 p2 (lt_of_block p2)
    have r3 := keep_block hb3 r2 (lt_of_block r2)
    have q3 := keep_block hb3 q2 (lt_of_block q2)
    have HB3 : Hid (Below w.heap.size w w3) := HB2.out.trans (hb3.mono HB2.out.size)
    have HA3 := Lib.hid (HA2.out.below hb3)
    have HC3 := Lib.hid (HC2.out.below hb3)
    clear hb3 c0 c1' c2' c3 d0 d1
    obtain ⟨c0, c1', c2', c3⟩ := cells4 g3'
    obtain ⟨e0, e1, e2, e3⟩ := cells4 q3
    go_wp2_with fail
    refine (specCommandOk_is g0 B g2 g3 k x y z _ KC.out _).mono ?_
    rintro e w4 ⟨rfl, hb4⟩
    have g4' := keep_block hb4 g3' (lt_of_block g3')
    have p4 := keep_block hb4 p3 (lt_of_block p3)
    have r4 := keep_block hb4 r3 (lt_of_block r3)
    have q4 := keep_block hb4 q3 (lt_of_block q3)
    have HB4 : Hid (Below w.heap.size w w4) := HB3.out.trans (hb4.mono HB3.out.size)
    have HA4 := Lib.hid (HA3.out.below hb4)
    have HC4 := Lib.hid (HC3.out.below hb4)
    clear hb4 c0 c1' c2' c3 e0 e1 e2 e3
    go_wp2
    go_ret
    exact ⟨ret_i (by rw [HE.out]), HB4.out⟩
  have KC := Lib.hid (decide_eq_true hC)
  have HTO := Lib.hid hT
  have HRD := Lib.hid hR
  have HXX : Hid (0 ≤ x ∧ x ≤ 7) := by have h3 := ad_bank HN.out hC.2; have := bankN_range g0 B g2 g3; have := HN.out; show _ ∧ _; omega
  obtain ⟨S, hS⟩ : ∃ S, atS B t la ac k x = S := ⟨_, rfl⟩
  have HS := Lib.hid hS
  have HE : Hid (v = if S ≤ 1000000 then S else -1) := by
    show _ = _
    rw [← HV.out, ← hS]
    unfold atV
    by_cases h : atS B t la ac k x ≤ 1000000
    · rw [if_pos ⟨⟨hT, hR, hC⟩, h⟩, if_pos h]
    · rw [if_neg (fun h2 => h h2.2), if_neg h]
  clear hT hR hC hS BAD
  go_enter Try.func36, Try.ntmps36
  go_wp2_with (first | ((with_reducible refine ld_tm ?_ ?_ p1 ?_); kernel_rfl; kernel_rfl; go_simp))
  refine (specTimOk_is t _ KT.out _).mono ?_
  rintro e w2 ⟨rfl, hb2⟩
  have g2' := keep_block hb2 g1 (lt_of_block g1)
  have p2 := keep_block hb2 p1 (lt_of_block p1)
  have r2 := keep_block hb2 r1 (lt_of_block r1)
  have q2 := keep_block hb2 q1 (lt_of_block q1)
  have HB2 : Hid (Below w.heap.size w w2) := HB1.out.trans (hb2.mono HB1.out.size)
  have HA2 := Lib.hid (HR1.out.below hb2)
  have HC2 := Lib.hid (HR2.out.below hb2)
  clear hb2
  obtain ⟨c0, c1', c2', c3⟩ := cells4 g2'
  obtain ⟨d0, d1⟩ := cells2 r2
  go_wp2_with fail
  refine (specReadyOk_is g0 B g2 g3 N HN.out a1 n1 c1 la a2 n2 c2 ac _ KR.out HL1.out h1 HL2.out h2 _ HA2.out HC2.out).mono ?_
  rintro e w3 ⟨rfl, hb3⟩
  have g3' := keep_block hb3 g2' (lt_of_block g2')
  have p3 := keep_block hb3 p2 (lt_of_block p2)
  have r3 := keep_block hb3 r2 (lt_of_block r2)
  have q3 := keep_block hb3 q2 (lt_of_block q2)
  have HB3 : Hid (Below w.heap.size w w3) := HB2.out.trans (hb3.mono HB2.out.size)
  have HA3 := Lib.hid (HA2.out.below hb3)
  have HC3 := Lib.hid (HC2.out.below hb3)
  clear hb3 c0 c1' c2' c3 d0 d1
  obtain ⟨c0, c1', c2', c3⟩ := cells4 g3'
  obtain ⟨e0, e1, e2, e3⟩ := cells4 q3
  go_wp2_with fail
  refine (specCommandOk_is g0 B g2 g3 k x y z _ KC.out _).mono ?_
  rintro e w4 ⟨rfl, hb4⟩
  have g4' := keep_block hb4 g3' (lt_of_block g3')
  have p4 := keep_block hb4 p3 (lt_of_block p3)
  have r4 := keep_block hb4 r3 (lt_of_block r3)
  have q4 := keep_block hb4 q3 (lt_of_block q3)
  have HB4 : Hid (Below w.heap.size w w4) := HB3.out.trans (hb4.mono HB3.out.size)
  have HA4 := Lib.hid (HA3.out.below hb4)
  have HC4 := Lib.hid (HC3.out.below hb4)
  clear hb4 c0 c1' c2' c3 e0 e1 e2 e3
  obtain ⟨c0, c1', c2', c3⟩ := cells4 g4'
  obtain ⟨d0, d1⟩ := cells2 r4
  obtain ⟨e0, e1, e2, e3⟩ := cells4 q4
  go_wp2_with (first | ((with_reducible refine ld_tm ?_ ?_ p4 ?_); kernel_rfl; kernel_rfl; go_simp))
  refine (specAt_is t g0 B g2 g3 N a1 n1 c1 la a2 n2 c2 ac k x y z S HS.out HTO.out HRD.out HN.out HXX.out HL1.out HL2.out _ HA4.out HC4.out).mono ?_
  rintro e w5 ⟨rfl, hb5⟩
  have HB5 : Hid (Below w.heap.size w w5) := HB4.out.trans (hb5.mono HB4.out.size)
  clear hb5 c0 c1' c2' c3 d0 d1 e0 e1 e2 e3
  by_cases hS : S ≤ 1000000
  · have ts : decide ((1000000 : Int) < S) = false := decide_eq_false (by omega)
    rw [if_pos hS] at HE
    clear hS
    go_wp2
    go_ret
    exact ⟨ret_i (by rw [HE.out]), HB5.out⟩
  · have ts : decide ((1000000 : Int) < S) = true := decide_eq_true (by omega)
    rw [if_neg hS] at HE
    clear hS
    go_wp2
    go_ret
    exact ⟨ret_i (by rw [HE.out]), HB5.out⟩

end Go.Proofs.Ythplhjdfajhmpaa

namespace Go.Proofs.Ythplhjdfajhmpaa
open Go.RowKit Go.PlainAid

set_option linter.unusedVariables false

set_option maxHeartbeats 4000000 in
theorem implActs_is : IActs := by
  intro a n c L hl h1 hc hnc w hr
  obtain ⟨i0, hi, hz0, hz1, hz2⟩ := info_parts infoI
  have HR := Lib.hid hr
  have HL := Lib.hid hl
  clear hr hl hnc
  go_enter Try.func94, Try.ntmps94
  go_wp2_with fail
  go_loopw [3, 7] (fun v i wr => ∃ k : Nat, k ≤ n ∧ i = .int .i64 k ∧ OwnI w.heap.size v (actsT (L.take k)) wr ∧ Below w.heap.size w wr) (fun _ i _ => n - (intOf i).toNat)
  case atStart => exact ⟨0, Nat.zero_le _, rfl, World.ownsRow_nil _ _ _ _, Below.refl _ _⟩
  case round =>
    obtain ⟨m, hm, rfl, hown, hbr⟩ := hrel
    have HO := Lib.hid hown
    have HBR := Lib.hid hbr
    clear hown hbr
    by_cases hlt : m < n
    · obtain ⟨b, off, rfl, a0, a1, _⟩ := ev_at (HR.out.below HBR.out) (i := m) (by rw [HL.out]; exact hlt)
      have HT := Lib.hid (take_snoc (L := L) (i := m) (by rw [HL.out]; exact hlt))
      have hll : (actsT (L.take m)).length ≤ n := Nat.le_trans (actsT_length _) (by rw [List.length_take]; omega)
      obtain ⟨e, he⟩ : ∃ e, L.getD m ev0 = e := ⟨_, rfl⟩
      rw [he] at a0 a1 HT
      clear he
      by_cases hk1 : e.k = 1
      · have tk : (e.k == 1) = true := by simp [hk1]
        have RA : Hid (actsT (L.take (m + 1)) = actsT (L.take m) ++ [e.t]) := by show _ = _; rw [HT.out, actsT_snoc, if_pos hk1]
        have own7 := HO.out
        have hbs := HBR.out.size
        clear HO hk1
        go_wp2_with (at_builtin; refine wpList_append_own _ rfl _ _ 31 rfl w.heap.size 3 i0 (.int .i64 0) 1 8 Try.underlying31 hi hz0 hz1 hz2 rfl (by decide) _ _ _ rfl (World.ownsRow.alloc own7 _) ⟨wr.heap.size, 0, none⟩ 1 1 [.int .i64 e.t] rfl rfl (cell_one_new _ _ _) (by intro u hu; simp at hu; subst hu; rfl) (by unfold maxLen; omega) (by omega) (by rw [World.size_alloc]; omega) ?_)
        intro v' w8 hown8 hgrow _
        have R : Hid (OwnI w.heap.size v' (actsT (L.take (m + 1))) w8) := by
          have := ownI_more hown8
          rw [← RA.out] at this
          exact this
        have hrow : ∀ j, Value.ownBlock u3 = some j → w.heap.size ≤ j := fun j hj => (World.ownsRow.lt own7 j hj).1
        have HB8 : Hid (Below w.heap.size w w8) := HBR.out.trans (((Below.refl w.heap.size wr).alloc hbs _).grown hgrow (by rw [World.size_alloc]; omega) hrow)
        clear hown8 hgrow own7 hrow HBR
        go_wp2_with fail
        go_roundw
        case rel => exact ⟨m + 1, by omega, by go_num, R.out, HB8.out⟩
        case measure => simp [intOf]; omega
      · have tk : (e.k == 1) = false := by simp [hk1]
        have RA : Hid (actsT (L.take (m + 1)) = actsT (L.take m)) := by show _ = _; rw [HT.out, actsT_snoc, if_neg hk1]
        clear hk1
        go_wp2_with fail
        go_roundw
        case rel => exact ⟨m + 1, by omega, by go_num, by rw [RA.out]; exact HO.out, HBR.out⟩
        case measure => simp [intOf]; omega
    · obtain rfl : m = n := by omega
      have hO := HO.out
      rw [List.take_of_length_le (by rw [HL.out]; exact Nat.le_refl _)] at hO
      obtain ⟨aa, cc, hv⟩ := hO.shape
      have HO2 := Lib.hid hO
      have HV := Lib.hid hv
      clear hO hv
      go_wp2_with fail
      go_ret
      refine ⟨aa, cc, by first | rfl | (rw [HV.out]; rfl), ?_, HBR.out⟩
      have := HO2.out
      rw [HV.out] at this
      exact this

/-- The tail of a row that is read. -/
theorem Kd.Row.drop {α : Type} {k : Kd α} {w : World} {b off : Nat} {l : List α} (h : k.Row w (some ⟨b, off, none⟩) l) (n : Nat) : k.Row w (some ⟨b, off + n * k.K, none⟩) (l.drop n) := by
  by_cases hn : n < l.length
  · obtain ⟨b', off', hb, _⟩ := h.at (i := 0) (by omega)
    cases hb
    refine .inr ⟨b, _, rfl, fun i hi j hj => ?_⟩
    rw [List.length_drop] at hi
    obtain ⟨b', off', hb, hc⟩ := h.at (i := n + i) (by omega)
    cases hb
    have := hc j hj
    rw [Nat.add_mul, ← Nat.add_assoc off] at this
    rw [this, List.getD_eq_getElem?_getD, List.getD_eq_getElem?_getD, List.getElem?_drop]
  · exact .inl (List.drop_of_length_le (by omega))

/-- Where the near ones of these events stand. -/
def recA (a : Option Addr) (c K : Nat) : Option Addr :=
  if K = 0 then a else match a with
    | none => none
    | some ⟨b, off, _⟩ => if K = c then some ⟨b, off, none⟩ else some ⟨b, off + K * 5, none⟩

theorem recA_none {a : Option Addr} {c K : Nat} (hnc : a = none → c = 0) : recA a c K = none → c - K = 0 := by
  unfold recA
  split
  · rename_i h
    intro h'
    rw [hnc h']
    exact Nat.zero_sub _
  · split
    · intro _
      rw [hnc rfl]
      exact Nat.zero_sub _
    · split <;> intro h <;> cases h

theorem recA_row {w : World} {a : Option Addr} {c K : Nat} {L : List Ev} (hc : L.length ≤ c) (hk : K ≤ L.length) (hr : evK.Row w a L) : evK.Row w (recA a c K) (L.drop K) := by
  unfold recA
  split
  · rename_i h
    rw [h]
    exact hr
  · rename_i h
    obtain ⟨b, off, rfl, _⟩ := ev_at hr (i := 0) (by omega)
    show evK.Row w (if K = c then some ⟨b, off, none⟩ else some ⟨b, off + K * 5, none⟩) (L.drop K)
    split
    · exact .inl (List.drop_of_length_le (by omega))
    · exact Kd.Row.drop (k := evK) hr K

set_option maxHeartbeats 4000000 in
theorem implRecent_is (a : Option Addr) (n c : Nat) (L : List Ev) (hl : L.length = n) (h1 : n ≤ 3000000) (hc : n ≤ c) (hnc : a = none → c = 0) (w : World) (hr : evK.Row w a L) :
    Calls Try.prog 93 #[.slice a n c] w (Gives (.slice (recA a c (recK L)) (n - recK L : Nat) (c - recK L)) w) := by
  have HR := Lib.hid hr
  have HL := Lib.hid hl
  have HNC := Lib.hid hnc
  obtain ⟨K, hK⟩ : ∃ u, recK L = u := ⟨_, rfl⟩
  have HKK := Lib.hid hK
  have hkn : recG L n = K := by rw [← hK, ← hl]; rfl
  have HKN := Lib.hid hkn
  clear hr hl hnc hkn hK
  go_enter Try.func93, Try.ntmps93
  go_wp2_with fail
  go_loopw [3] (fun v wr => ∃ k : Nat, k ≤ n ∧ v = .int .i64 k ∧ recG L k = K ∧ Below w.heap.size w wr) (fun v _ => (intOf v).toNat)
  case atStart => exact ⟨n, Nat.le_refl _, rfl, HKN.out, Below.refl _ _⟩
  case round =>
    obtain ⟨k, hk, rfl, hg, hbr⟩ := hrel
    have HG := Lib.hid hg
    have HBR := Lib.hid hbr
    have HRR := Lib.hid (HR.out.below hbr)
    clear hg hbr
    by_cases h0 : k = 0
    case pos =>
      subst h0
      have HE : Hid (K = 0) := by show _ = _; rw [← HG.out]; rfl
      have t0 : decide ((0 : Int) < ((0 : Nat) : Int)) = false := by decide
      go_wp2_with fail
      refine wp_region_later (by kernel_rfl) (by kernel_rfl) ?_
      repeat (go_big_quiet_step (fail))
      refine wpQuiet_nil ?_
      rintro wz ⟨zz, hzz⟩
      have HBZ : Hid (Below w.heap.size w wz) := HBR.out.trans ((hzz ▸ zz.ok : Below wr.heap.size wr wz).mono HBR.out.size)
      clear hzz zz
      go_wp2_with fail
      go_ret
      refine ⟨?_, HBZ.out⟩
      rw [HKK.out, HE.out]
      simp [recA]
    have hkm : k - 1 < n := by omega
    have hnm : n - 1 < n := by omega
    have t0 : decide ((0 : Int) < (k : Int)) = true := decide_eq_true (by omega)
    have t0' : decide (0 < k) = true := decide_eq_true (by omega)
    have wk : IntKind.i64.wrap ((k : Int) - 1) = ((k - 1 : Nat) : Int) := by rw [IntWalk.i64_in _ (by omega)]; omega
    have wn : IntKind.i64.wrap ((n : Int) - 1) = ((n - 1 : Nat) : Int) := by rw [IntWalk.i64_in _ (by omega)]; omega
    obtain ⟨b, off, rfl, a0, _⟩ := ev_at HRR.out (i := k - 1) (by rw [HL.out]; exact hkm)
    obtain ⟨b', off', hbb, l0, _⟩ := ev_at HRR.out (i := n - 1) (by rw [HL.out]; exact hnm)
    cases hbb
    have YES := Lib.hid (recG_yes (L := L) (k := k) (by omega))
    have NO := Lib.hid (recG_no (L := L) (k := k) (by omega))
    rw [HL.out] at YES NO
    obtain ⟨T1, hT1⟩ : ∃ u, (L.getD (k - 1) ev0).t = u := ⟨_, rfl⟩
    obtain ⟨T2, hT2⟩ : ∃ u, (L.getD (n - 1) ev0).t = u := ⟨_, rfl⟩
    rw [hT1] at a0 YES NO
    rw [hT2] at l0 YES NO
    have za := fun q : Later wr => q.cell a0
    have zl := fun q : Later wr => q.cell l0
    clear a0 l0 hT1 hT2
    obtain ⟨S, hS⟩ : ∃ S, IntKind.i64.wrap (T1 + 128) = S := ⟨_, rfl⟩
    rw [hS] at YES NO
    by_cases hx : T2 < S
    case pos =>
      have tx : decide (T2 < S) = true := decide_eq_true hx
      have NEXT : Hid (recG L (k - 1) = K) := (YES.out hx).trans HG.out
      clear hx YES NO
      go_wp2_with fail
      refine wp_region_later (by kernel_rfl) (by kernel_rfl) ?_
      repeat (go_big_quiet_step (fail))
      refine wpQuiet_nil ?_
      rintro wz ⟨zz, hzz⟩
      have HBZ : Hid (Below w.heap.size w wz) := HBR.out.trans ((hzz ▸ zz.ok : Below wr.heap.size wr wz).mono HBR.out.size)
      clear hzz zz za zl
      go_wp2_with fail
      go_roundw
      case rel => exact ⟨k - 1, by omega, by first | rfl | rw [wk], NEXT.out, HBZ.out⟩
      case measure => simp [intOf]; omega
    case neg =>
      have tx : decide (T2 < S) = false := decide_eq_false hx
      have HE : Hid (K = k) := HG.out.symm.trans (NO.out hx)
      clear hx YES NO
      go_wp2_with fail
      refine wp_region_later (by kernel_rfl) (by kernel_rfl) ?_
      repeat (go_big_quiet_step (fail))
      refine wpQuiet_nil ?_
      rintro wz ⟨zz, hzz⟩
      have HBZ : Hid (Below w.heap.size w wz) := HBR.out.trans ((hzz ▸ zz.ok : Below wr.heap.size wr wz).mono HBR.out.size)
      clear hzz zz za zl
      have HRZ := HR.out.below HBZ.out
      by_cases hck : c = k
      · obtain rfl : k = n := by omega
        subst hck
        go_wp2_with fail
        go_ret
        refine ⟨?_, HBZ.out⟩
        rw [HKK.out, HE.out]
        simp [recA]
      · have ROW : Hid (evK.Row wz (some ⟨b, off + k * 5, none⟩) (L.drop k)) := Kd.Row.drop (k := evK) HRZ k
        have hck' : ¬ (k = c) := fun h => hck h.symm
        clear HRZ
        go_wp2_with fail
        all_goals try (exfalso; omega)
        go_ret
        refine ⟨?_, HBZ.out⟩
        rw [HKK.out, HE.out]
        simp [recA, h0, hck']

theorem implRecent_at (a : Option Addr) (n c : Nat) (L : List Ev) (hl : L.length = n) (h1 : n ≤ 3000000) (hc : n ≤ c) (hnc : a = none → c = 0) :
    ∃ (ra : Option Addr) (rn rc : Nat) (R : List Ev), L.drop (recK L) = R ∧ R.length = rn ∧ rn ≤ 3000000 ∧ rn ≤ rc ∧ (ra = none → rc = 0) ∧ ∀ u, evK.Row u a L → evK.Row u ra R ∧ Calls Try.prog 93 #[.slice a n c] u (Gives (.slice ra rn rc) u) := by
  have hk : recK L ≤ L.length := recK_le L
  exact ⟨recA a c (recK L), n - recK L, c - recK L, L.drop (recK L), rfl, by rw [List.length_drop, hl], by omega, by omega, recA_none hnc, fun u hu => ⟨recA_row (by omega) hk hu, implRecent_is a n c L hl h1 hc hnc u hu⟩⟩

end Go.Proofs.Ythplhjdfajhmpaa
