/-
  Texts of one proof, merged: TrcB, TrcT.
-/
import Derived.Test.YthplhjdfajhmpaaGreatQH17
import Derived.Test.YthplhjdfajhmpaaGreatQH18
namespace Go.Proofs.YthplhjdfajhmpaaGreat
open Go.RowKit Go.PlainAid

set_option linter.unusedVariables false

set_option maxHeartbeats 16000000 in
set_option maxRecDepth 100000 in
theorem implEnd_is : IEnd := by
  intro g0 B g2 g3 a n c L N hN n' le pwe vv hn' hl' hp' hv hl h1 hc hnc w hr
  obtain ⟨w1, hw1⟩ : ∃ u, (w.alloc (.cells #[.int .i64 g0, .int .i64 B, .int .i64 g2, .int .i64 g3] 25)).alloc (.cells #[.slice none 0 0, .int .i64 0] 37) = u := ⟨_, rfl⟩
  have HB1 : Hid (Below w.heap.size w w1) := by subst hw1; exact ((Below.refl _ _).alloc (Nat.le_refl _) _).alloc (by simp) _
  have g1 : w1.heap[w.heap.size]? = some (.cells #[.int .i64 g0, .int .i64 B, .int .i64 g2, .int .i64 g3] 25) := by subst hw1; exact heap_alloc2_old _ _ _
  have s1 : w1.heap[w.heap.size + 1]? = some (.cells #[.slice none 0 0, .int .i64 0] 37) := by subst hw1; exact heap_alloc2_new _ _ _
  have HS1 : Hid (w.heap.size + 1 < w1.heap.size) := lt_of_block s1
  have HR := Lib.hid (hr.below HB1.out)
  have HL := Lib.hid hl
  have HNN := Lib.hid hN
  have HNP := Lib.hid hn'
  have HLE := Lib.hid hl'
  have HPE := Lib.hid hp'
  have HVV := Lib.hid hv
  have hN8 : N ≤ 8 := by have := bankN_range g0 B g2 g3; omega
  obtain ⟨c0, c1, c2, c3⟩ := cells4 g1
  clear hr hl hN hn' hl' hp' hv hnc
  by_cases hg : GeoOk g0 B g2 g3
  case neg =>
    have K := Lib.hid (decide_eq_false hg)
    have STOP : Hid (le = [] ∧ pwe = 0 ∧ vv = false ∧ n' = 0) := by
      have hb0 : N = 0 := by
        have h := HNN.out
        unfold bankN at h
        rw [if_neg hg] at h
        omega
      have h1 : le = [] := by
        rw [← HLE.out]
        unfold EndL
        split
        · have h2 := stL_length N L
          rw [hb0] at h2 ⊢
          exact List.length_eq_zero_iff.1 h2
        · rfl
      have h2 : pwe = 0 := by
        rw [← HPE.out]
        unfold EndP
        split
        · rename_i hend
          cases L with
          | nil => rfl
          | cons e L' =>
            exfalso
            have h3 : (allowR g0 B g2 g3 (stL N []) (stP []) e.k e.x e.y e.z && endF (fun P e => allowR g0 B g2 g3 (stL N P) (stP P) e.k e.x e.y e.z) ([] ++ [e]) L') = true := hend
            rw [Bool.and_eq_true] at h3
            exact hg (allow_parts h3.1).1.1
        · rfl
      exact ⟨h1, h2, by rw [← HVV.out, K.out, Bool.and_false], by rw [← HNP.out, h1]; rfl⟩
    clear hg
    go_enter Tryz.func11, Tryz.ntmps11
    go_wp2_with fail
    refine (implGeoOk_is _ _ _ _ _ K.out _).mono ?_
    rintro e w2 ⟨rfl, hb2⟩
    have s2 := keep_block hb2 s1 (lt_of_block s1)
    have HB2 : Hid (Below w.heap.size w w2) := HB1.out.trans (hb2.mono HB1.out.size)
    clear hb2 c0 c1 c2 c3
    obtain ⟨y0, y1⟩ := cells2 s2
    have f0 := thawed s2 0
    have f1 := thawed s2 1
    go_wp2_with fail
    (try simp only [Exit.inBlock, Exit.then])
    obtain ⟨rfl, rfl, rfl, rfl⟩ := STOP.out
    refine bodyPost_ret (v := .tuple #[.agg #[.slice none 0 0, .int .i64 0], .bool false]) (by simp [results, Tryz.results11, go_sem, y0, y1]) rfl ⟨none, 0, rfl, World.ownsRow_nil _ _ _ _, (HB2.out.setCell (by simp) _).setCell (by simp) _⟩
  have K := Lib.hid (decide_eq_true hg)
  go_enter Tryz.func11, Tryz.ntmps11
  go_wp2_with fail
  refine (implGeoOk_is _ _ _ _ _ K.out _).mono ?_
  rintro e w2' ⟨rfl, hb2'⟩
  have gb2' := keep_block hb2' g1 (lt_of_block g1)
  have s2' := keep_block hb2' s1 (lt_of_block s1)
  have HB2' : Hid (Below w1.heap.size w1 w2') := hb2'
  clear hb2' c0 c1 c2 c3
  obtain ⟨c0, c1, c2, c3⟩ := cells4 gb2'
  go_wp2_with fail
  refine (implRankNew_is _ _ _ _ N HNN.out _).mono ?_
  rintro e w2 ⟨ao, co, rfl, own2', hb2⟩
  have gb2 := keep_block hb2 gb2' (lt_of_block gb2')
  have s2 := keep_block hb2 s2' (lt_of_block s2')
  have HB2 : Hid (Below w1.heap.size w1 w2) := HB2'.out.trans (hb2.mono HB2'.out.size)
  have own2 : OwnK w1.heap.size (.slice ao N co) (List.replicate N bk0) w2 := own2'.mono HB2'.out.size
  have HS2 : Hid (w1.heap.size ≤ w2.heap.size) := HB2.out.size
  have HAA : Hid (∀ x, ao = some x → x.block < w2.heap.size) := fun x hx => (own2.lo x hx).2
  clear hb2 c0 c1 c2 c3 own2' HB2' gb2' s2'
  have hb3 : Below w2.heap.size w2 (w2.alloc (.cells #[.slice ao N co, .int .i64 0] 37)) := (Below.refl _ _).alloc (Nat.le_refl _) _
  have ST : Hid ((w2.alloc (.cells #[.slice ao N co, .int .i64 0] 37)).heap[w.heap.size]? = some (.cells #[.int .i64 g0, .int .i64 B, .int .i64 g2, .int .i64 g3] 25) ∧ (w2.alloc (.cells #[.slice ao N co, .int .i64 0] 37)).heap[w.heap.size + 1]? = some (.cells #[.slice none 0 0, .int .i64 0] 37) ∧
      (w2.alloc (.cells #[.slice ao N co, .int .i64 0] 37)).heap[w2.heap.size]? = some (.cells #[.slice ao N co, .int .i64 0] 37) ∧ OwnK w1.heap.size (.slice ao N co) (List.replicate N bk0) (w2.alloc (.cells #[.slice ao N co, .int .i64 0] 37)) ∧ Below w1.heap.size w1 (w2.alloc (.cells #[.slice ao N co, .int .i64 0] 37)) ∧ ∀ x, ao = some x → x.block ≠ w2.heap.size) :=
    ⟨keep_block hb3 gb2 (lt_of_block gb2), keep_block hb3 s2 (lt_of_block s2), heap_alloc_new _ _, own2.below hb3, HB2.out.trans (hb3.mono HB2.out.size), fun x hx => by have := HAA.out x hx; omega⟩
  clear hb3 own2 gb2 s2 HB2
  go_wp2_with fail
  generalize (w2.alloc (.cells #[.slice ao N co, .int .i64 0] 37)) = w3 at ST ⊢
  go_loopw [18] (fun i wr => ∃ k : Nat, k ≤ n ∧ i = .int .i64 k ∧ endOk g0 B g2 g3 N (L.take k) = true ∧ wr.heap[w.heap.size]? = some (.cells #[.int .i64 g0, .int .i64 B, .int .i64 g2, .int .i64 g3] 25) ∧ wr.heap[w.heap.size + 1]? = some (.cells #[.slice none 0 0, .int .i64 0] 37) ∧
      (∃ (aa : Option Addr) (cc : Nat), wr.heap[w2.heap.size]? = some (.cells #[.slice aa N cc, .int .i64 (stP (L.take k))] 37) ∧ OwnK w1.heap.size (.slice aa N cc) (stL N (L.take k)) wr ∧ (∀ x, aa = some x → x.block ≠ w2.heap.size)) ∧ Below w1.heap.size w1 wr) (fun i _ => n - (intOf i).toNat)
  case atStart => exact ⟨0, Nat.zero_le _, rfl, rfl, ST.out.1, ST.out.2.1, ⟨ao, co, ST.out.2.2.1, ST.out.2.2.2.1, ST.out.2.2.2.2.2⟩, ST.out.2.2.2.2.1⟩
  case round =>
    clear ST HAA
    obtain ⟨m, hm, rfl, hend, gr, sr, ⟨aa, cc, rr, ownr, hne⟩, hbr⟩ := hrel
    have HEND := Lib.hid hend
    have HON := Lib.hid ownr
    have HBR := Lib.hid hbr
    have HNE := Lib.hid hne
    clear hend ownr hbr hne
    by_cases hlt : m < n
    case pos =>
      have hml : m < L.length := by rw [HL.out]; exact hlt
      have HT := Lib.hid (take_snoc hml)
      have HD := Lib.hid (drop_cons hml)
      obtain ⟨b, off, rfl, a0, a1, a2, a3, a4⟩ := ev_at (HR.out.below HBR.out) (i := m) hml
      obtain ⟨e, he⟩ : ∃ e, L.getD m ev0 = e := ⟨_, rfl⟩
      rw [he] at a0 a1 a2 a3 a4 HT HD
      clear he a0
      obtain ⟨v, hv⟩ : ∃ v, allowR g0 B g2 g3 (stL N (L.take m)) (stP (L.take m)) e.k e.x e.y e.z = v := ⟨_, rfl⟩
      obtain ⟨l', hl'⟩ : ∃ l', afterL g0 B g2 g3 (stL N (L.take m)) (stP (L.take m)) e.k e.x e.y e.z = l' := ⟨_, rfl⟩
      obtain ⟨pw', hp'⟩ : ∃ pw', afterP g0 B g2 g3 (stL N (L.take m)) (stP (L.take m)) e.k e.x e.y e.z = pw' := ⟨_, rfl⟩
      have HV := Lib.hid hv
      have HLP := Lib.hid hl'
      have HPP := Lib.hid hp'
      have NEXT : Hid (allowR g0 B g2 g3 (stL N (L.take m)) (stP (L.take m)) e.k e.x e.y e.z = true → l' = stL N (L.take (m + 1)) ∧ pw' = stP (L.take (m + 1))) := fun h => by
        rw [HT.out, stL_snoc, stP_snoc, ← hl', ← hp']
        exact ⟨if_pos h, if_pos h⟩
      have STOP : Hid (allowR g0 B g2 g3 (stL N (L.take m)) (stP (L.take m)) e.k e.x e.y e.z = false → le = [] ∧ pwe = 0 ∧ vv = false ∧ n' = 0) := fun h => by
        have hno : endOk g0 B g2 g3 N L = false := by
          have h1 := HEND.out
          unfold endOk at h1 ⊢
          have h2 : L = L.take m ++ (e :: L.drop (m + 1)) := by rw [← HD.out, List.take_append_drop]
          rw [h2, endF_append, h1]
          show (true && (allowR g0 B g2 g3 (stL N ([] ++ L.take m)) (stP ([] ++ L.take m)) e.k e.x e.y e.z && _)) = false
          rw [List.nil_append, h]
          rfl
        have h1 : le = [] := by rw [← HLE.out]; exact if_neg (by rw [hno]; simp)
        have h2 : pwe = 0 := by rw [← HPE.out]; exact if_neg (by rw [hno]; simp)
        refine ⟨h1, h2, by rw [← HVV.out, hno]; rfl, by rw [← HNP.out, h1]; rfl⟩
      have GO : Hid (allowR g0 B g2 g3 (stL N (L.take m)) (stP (L.take m)) e.k e.x e.y e.z = true → endOk g0 B g2 g3 N (L.take (m + 1)) = true) := fun h => by
        have h1 := HEND.out
        rw [HT.out]
        unfold endOk at h1 ⊢
        rw [endF_append, h1]
        show (true && (allowR g0 B g2 g3 (stL N ([] ++ L.take m)) (stP ([] ++ L.take m)) e.k e.x e.y e.z && true)) = true
        rw [List.nil_append, h]
        rfl
      clear hv hl' hp' HD
      replace a1 := Lib.hid a1
      replace a2 := Lib.hid a2
      replace a3 := Lib.hid a3
      replace a4 := Lib.hid a4
      go_wp2_with fail
      refine wp_region_flowV (fun k => match k with | 0 => some (.agg #[.int .i64 g0, .int .i64 B, .int .i64 g2, .int .i64 g3]) | 1 => some (.agg #[.slice aa N cc, .int .i64 (stP (L.take m))]) | 2 => some (.slice (some ⟨b, off, none⟩) n c) | 3 => some (.int .i64 (m : Int)) | 4 => some (.pointer (some ⟨b, off + m * 5, none⟩)) | 5 => some (.pointer (some ⟨b, off + m * 5 + 1, none⟩)) | 6 => some (.agg #[.int .i64 e.k, .int .i64 e.x, .int .i64 e.y, .int .i64 e.z]) | 10 => some (.bool v) | 13 => some (.bool v) | _ => none) (fun listed x u => FactW 7 8 (fun q u => ∃ ab cb, q = .tuple #[.agg #[.slice ab N cb, .int .i64 pw'], .bool v] ∧ OwnK (wr.heap.size) (.slice ab N cb) l' u) listed x u ∧ FactW 8 9 (fun q u => ∃ ab cb, q = .tuple #[.agg #[.slice ab N cb, .int .i64 pw'], .bool v] ∧ OwnK (wr.heap.size) (.slice ab N cb) l' u) listed x u ∧ Fact 8 (fun q => ∃ (ab : Option Addr) (cb : Nat), q = .tuple #[.agg #[.slice ab N cb, .int .i64 pw'], .bool v]) listed x ∧ FactW 9 12 (fun q u => ∃ ab cb, q = .agg #[.slice ab N cb, .int .i64 pw'] ∧ OwnK (wr.heap.size) (.slice ab N cb) l' u) listed x u ∧ MadeR 11 12 (wr.heap.size) N l' pw' listed x u) (upd (upd (upd (upd (upd (upd (upd (upd (upd (upd (upd (upd (upd (fun _ => undef) 0 u22) 1 u23) 2 u24) 3 u25) 4 u26) 5 u27) 6 u28) 7 u29) 8 u21) 9 u30) 10 u31) 11 u8) 13 u9) (by kernel_rfl) (by kernel_rfl) ?hx ?hS ?hs ?he
      case hx => simp only [putsX, Act.put, List.setIfInBounds_toArray, List.set_cons_zero, List.set_cons_succ, upd, Nat.reduceEqDiff, reduceIte]
      case hS => exact ⟨FactW.zero _ _ _ _ _ _, FactW.zero _ _ _ _ _ _, Fact.zero _ _ _ _, FactW.zero _ _ _ _ _ _, MadeR.zero _ _ _ _ _ _ _ _ _⟩
      case hs =>
        simp only [flowSteps]
        refine ⟨?s0, ?s1, ?s2, ?s3, ?s4, ?s5, ?s6, ?s7, ?s8, ?s9, ?s10, ?s11, ?s12, ?s13, trivial⟩
        case s0 =>
          intro listed bb u hsz hn hwt hinv
          obtain ⟨x, rfl, hC, hU, h7, h8, p8, h9, hM⟩ := hinv
          simp only [putsX, Act.put, List.setIfInBounds_toArray, List.set_cons_zero, List.set_cons_succ]
          obtain ⟨c0, c1, c2, c3⟩ := cells4 (keep_block hC gr (lt_of_block gr))
          go_wp2_with fail
          refine stepQ_normal ⟨trivial, upd x 0 (.agg #[.int .i64 g0, .int .i64 B, .int .i64 g2, .int .i64 g3]), ?_, hC, hU.step (fun _ h => Option.some.inj h), h7.keep (by decide) (by decide) _ id, h8.keep (by decide) (by decide) _ id, p8.keep (by decide) _, h9.keep (by decide) (by decide) _ id, hM.keep (by decide) (by decide) _ (Below.refl _ _)⟩
          simp only [upd]
          rfl
        case s1 =>
          intro listed bb u hsz hn hwt hinv
          obtain ⟨x, rfl, hC, hU, h7, h8, p8, h9, hM⟩ := hinv
          simp only [putsX, Act.put, List.setIfInBounds_toArray, List.set_cons_zero, List.set_cons_succ]
          obtain ⟨d0, d1⟩ := cells2 (keep_block hC rr (lt_of_block rr))
          go_wp2_with fail
          refine stepQ_normal ⟨trivial, upd x 1 (.agg #[.slice aa N cc, .int .i64 (stP (L.take m))]), ?_, hC, hU.step (fun _ h => Option.some.inj h), h7.keep (by decide) (by decide) _ id, h8.keep (by decide) (by decide) _ id, p8.keep (by decide) _, h9.keep (by decide) (by decide) _ id, hM.keep (by decide) (by decide) _ (Below.refl _ _)⟩
          simp only [upd]
          rfl
        case s2 =>
          intro listed bb u hsz hn hwt hinv
          obtain ⟨x, rfl, hC, hU, h7, h8, p8, h9, hM⟩ := hinv
          simp only [putsX, Act.put, List.setIfInBounds_toArray, List.set_cons_zero, List.set_cons_succ]
          go_wp2_with fail
          refine stepQ_normal ⟨trivial, upd x 2 (.slice (some ⟨b, off, none⟩) n c), ?_, hC, hU.step (fun _ h => Option.some.inj h), h7.keep (by decide) (by decide) _ id, h8.keep (by decide) (by decide) _ id, p8.keep (by decide) _, h9.keep (by decide) (by decide) _ id, hM.keep (by decide) (by decide) _ (Below.refl _ _)⟩
          simp only [upd]
          rfl
        case s3 =>
          intro listed bb u hsz hn hwt hinv
          obtain ⟨x, rfl, hC, hU, h7, h8, p8, h9, hM⟩ := hinv
          simp only [putsX, Act.put, List.setIfInBounds_toArray, List.set_cons_zero, List.set_cons_succ]
          go_wp2_with fail
          refine stepQ_normal ⟨trivial, upd x 3 (.int .i64 (m : Int)), ?_, hC, hU.step (fun _ h => Option.some.inj h), h7.keep (by decide) (by decide) _ id, h8.keep (by decide) (by decide) _ id, p8.keep (by decide) _, h9.keep (by decide) (by decide) _ id, hM.keep (by decide) (by decide) _ (Below.refl _ _)⟩
          simp only [upd]
          rfl
        case s4 =>
          intro listed bb u hsz hn hwt hinv
          obtain ⟨x, rfl, hC, hU, h7, h8, p8, h9, hM⟩ := hinv
          have f2 := Lib.hid (hU 2 _ rfl (hwt 2 (by kernel_rfl)))
          have f3 := Lib.hid (hU 3 _ rfl (hwt 3 (by kernel_rfl)))
          simp only [putsX, Act.put, List.setIfInBounds_toArray, List.set_cons_zero, List.set_cons_succ]
          rw [f2.out]
          rw [f3.out]
          go_wp2_with fail
          refine stepQ_normal ⟨trivial, upd x 4 (.pointer (some ⟨b, off + m * 5, none⟩)), ?_, hC, hU.step (fun _ h => Option.some.inj h), h7.keep (by decide) (by decide) _ id, h8.keep (by decide) (by decide) _ id, p8.keep (by decide) _, h9.keep (by decide) (by decide) _ id, hM.keep (by decide) (by decide) _ (Below.refl _ _)⟩
          simp only [upd]
          simp only [f2.out, f3.out]
          (try rfl)
        case s5 =>
          intro listed bb u hsz hn hwt hinv
          obtain ⟨x, rfl, hC, hU, h7, h8, p8, h9, hM⟩ := hinv
          have f4 := Lib.hid (hU 4 _ rfl (hwt 4 (by kernel_rfl)))
          simp only [putsX, Act.put, List.setIfInBounds_toArray, List.set_cons_zero, List.set_cons_succ]
          rw [f4.out]
          go_wp2_with fail
          refine stepQ_normal ⟨trivial, upd x 5 (.pointer (some ⟨b, off + m * 5 + 1, none⟩)), ?_, hC, hU.step (fun _ h => Option.some.inj h), h7.keep (by decide) (by decide) _ id, h8.keep (by decide) (by decide) _ id, p8.keep (by decide) _, h9.keep (by decide) (by decide) _ id, hM.keep (by decide) (by decide) _ (Below.refl _ _)⟩
          simp only [upd]
          simp only [f4.out]
          (try rfl)
        case s6 =>
          intro listed bb u hsz hn hwt hinv
          obtain ⟨x, rfl, hC, hU, h7, h8, p8, h9, hM⟩ := hinv
          have f5 := Lib.hid (hU 5 _ rfl (hwt 5 (by kernel_rfl)))
          simp only [putsX, Act.put, List.setIfInBounds_toArray, List.set_cons_zero, List.set_cons_succ]
          rw [f5.out]
          have e1 := (hC.cell (World.block_lt_of_cell? _ _ a1.out)).trans a1.out
          have e2 := (hC.cell (World.block_lt_of_cell? _ _ a2.out)).trans a2.out
          have e3 := (hC.cell (World.block_lt_of_cell? _ _ a3.out)).trans a3.out
          have e4 := (hC.cell (World.block_lt_of_cell? _ _ a4.out)).trans a4.out
          go_wp2_with fail
          refine stepQ_normal ⟨trivial, upd x 6 (.agg #[.int .i64 e.k, .int .i64 e.x, .int .i64 e.y, .int .i64 e.z]), ?_, hC, hU.step (fun _ h => Option.some.inj h), h7.keep (by decide) (by decide) _ id, h8.keep (by decide) (by decide) _ id, p8.keep (by decide) _, h9.keep (by decide) (by decide) _ id, hM.keep (by decide) (by decide) _ (Below.refl _ _)⟩
          simp only [upd]
          simp only [f5.out]
          (try rfl)
        case s7 =>
          intro listed bb u hsz hn hwt hinv
          obtain ⟨x, rfl, hC, hU, h7, h8, p8, h9, hM⟩ := hinv
          have f0 := Lib.hid (hU 0 _ rfl (hwt 0 (by kernel_rfl)))
          have f1 := Lib.hid (hU 1 _ rfl (hwt 1 (by kernel_rfl)))
          have f6 := Lib.hid (hU 6 _ rfl (hwt 6 (by kernel_rfl)))
          simp only [putsX, Act.put, List.setIfInBounds_toArray, List.set_cons_zero, List.set_cons_succ]
          have hcall : Calls Tryz.prog 35 #[x 0, x 1, x 6] u (GivesA N l' pw' v u) := by rw [f0.out, f1.out, f6.out]; exact implAfter_is g0 B g2 g3 aa N cc (stL N (L.take m)) (stP (L.take m)) e.k e.x e.y e.z v l' pw' HV.out HLP.out HPP.out (stL_length _ _) (by omega) (HON.out.none) _ (HON.out.row.below hC)
          go_wp2_with fail
          refine hcall.mono ?_
          rintro e' u' ⟨ab, cb, rfl, own, hb⟩
          go_wp2_with fail
          refine stepQ_normal ⟨trivial, upd x 7 (.tuple #[.agg #[.slice ab N cb, .int .i64 pw'], .bool v]), ?_, hC.trans (hb.mono hC.size), hU.step (fun _ h => by cases h), FactW.new ⟨ab, cb, rfl, own.mono hC.size⟩, h8.keep (by decide) (by decide) _ (fun ⟨b1, b2, b3, b4⟩ => ⟨b1, b2, b3, b4.below (hb)⟩), p8.keep (by decide) _, h9.keep (by decide) (by decide) _ (fun ⟨b1, b2, b3, b4⟩ => ⟨b1, b2, b3, b4.below (hb)⟩), hM.keep (by decide) (by decide) _ (hb)⟩
          simp only [upd]
          rfl
        case s8 =>
          intro listed bb u hsz hn hwt hinv
          obtain ⟨x, rfl, hC, hU, h7, h8, p8, h9, hM⟩ := hinv
          simp only [putsX, Act.put, List.setIfInBounds_toArray, List.set_cons_zero, List.set_cons_succ]
          obtain ⟨ab, cb, fp, hown⟩ := h7 (hwt 7 (by kernel_rfl)) hn
          go_wp2_with fail
          refine stepQ_normal ⟨trivial, upd x 8 (x 7), ?_, hC, hU.step (fun _ h => by cases h), FactW.call (by rw [hsz]; decide), FactW.new ⟨ab, cb, fp, hown⟩, Fact.new ⟨ab, cb, fp⟩, h9.keep (by decide) (by decide) _ id, hM.keep (by decide) (by decide) _ (Below.refl _ _)⟩
          simp only [upd]
          rfl
        case s9 =>
          intro listed bb u hsz hn hwt hinv
          obtain ⟨x, rfl, hC, hU, h7, h8, p8, h9, hM⟩ := hinv
          simp only [putsX, Act.put, List.setIfInBounds_toArray, List.set_cons_zero, List.set_cons_succ]
          obtain ⟨ab, cb, fp, hown⟩ := h8 (hwt 8 (by kernel_rfl)) hn
          have FP := Lib.hid fp
          rw [FP.out]
          clear fp
          go_wp2_with fail
          refine stepQ_normal ⟨trivial, upd x 9 (.agg #[.slice ab N cb, .int .i64 pw']), ?_, hC, hU.step (fun _ h => by cases h), h7.keep (by decide) (by decide) _ id, FactW.call (by rw [hsz]; decide), p8.keep (by decide) _, FactW.new ⟨ab, cb, rfl, hown⟩, hM.keep (by decide) (by decide) _ (Below.refl _ _)⟩
          simp only [upd]
          simp only [FP.out]
          (try rfl)
        case s10 =>
          intro listed bb u hsz hn hwt hinv
          obtain ⟨x, rfl, hC, hU, h7, h8, p8, h9, hM⟩ := hinv
          simp only [putsX, Act.put, List.setIfInBounds_toArray, List.set_cons_zero, List.set_cons_succ]
          obtain ⟨ab, cb, fp⟩ := p8 (hwt 8 (by kernel_rfl))
          have FP := Lib.hid fp
          rw [FP.out]
          clear fp
          go_wp2_with fail
          refine stepQ_normal ⟨trivial, upd x 10 (.bool v), ?_, hC, hU.step (fun _ h => Option.some.inj h), h7.keep (by decide) (by decide) _ id, h8.keep (by decide) (by decide) _ id, p8.keep (by decide) _, h9.keep (by decide) (by decide) _ id, hM.keep (by decide) (by decide) _ (Below.refl _ _)⟩
          simp only [upd]
          simp only [FP.out]
          (try rfl)
        case s11 =>
          intro listed bb u hsz hn hwt hinv
          obtain ⟨x, rfl, hC, hU, h7, h8, p8, h9, hM⟩ := hinv
          simp only [putsX, Act.put, List.setIfInBounds_toArray, List.set_cons_zero, List.set_cons_succ]
          go_wp2_with fail
          refine stepQ_normal ⟨trivial, upd x 11 (.pointer (some ⟨u.heap.size, 0, none⟩)), ?_, hC.alloc hC.size _, hU.step (fun _ h => by cases h), h7.keep (by decide) (by decide) _ (fun ⟨b1, b2, b3, b4⟩ => ⟨b1, b2, b3, b4.below (below_allocT _)⟩), h8.keep (by decide) (by decide) _ (fun ⟨b1, b2, b3, b4⟩ => ⟨b1, b2, b3, b4.below (below_allocT _)⟩), p8.keep (by decide) _, h9.keep (by decide) (by decide) _ (fun ⟨b1, b2, b3, b4⟩ => ⟨b1, b2, b3, b4.below (below_allocT _)⟩), hM.new (by decide) hn hC.size⟩
          simp only [upd]
          rfl
        case s12 =>
          intro listed bb u hsz hn hwt hinv
          obtain ⟨x, rfl, hC, hU, h7, h8, p8, h9, hM⟩ := hinv
          simp only [putsX, Act.put, List.setIfInBounds_toArray, List.set_cons_zero, List.set_cons_succ]
          obtain ⟨g, fg, hg, hh⟩ := hM.there (hwt 11 (by kernel_rfl)) hn
          obtain ⟨ab, cb, fp, hown⟩ := h9 (hwt 9 (by kernel_rfl)) hn
          have FG := Lib.hid fg
          have FP := Lib.hid fp
          rw [FG.out, FP.out]
          obtain ⟨y0, y1⟩ := cells2 hh
          have t0 := thawed hh 0
          have t1 := thawed hh 1
          have hne := hown.apart hh
          have hfin := set_cells (set_cells hh 0 (.slice ab N cb)) 1 (.int .i64 pw')
          have hown2 := (hown.setCell (p := ⟨g, 0, none⟩) hne (.slice ab N cb)).setCell (p := ⟨g, 1, none⟩) hne (.int .i64 pw')
          clear hh fg fp hown hne
          go_wp2_with fail
          refine stepQ_normal ⟨trivial, upd x 12 undef, ?_, (hC.setCell (by exact hg) _).setCell (by exact hg) _, hU.step (fun _ h => by cases h), FactW.gone (hwt 8 (by kernel_rfl)), FactW.gone (hwt 9 (by kernel_rfl)), p8.keep (by decide) _, FactW.call (by rw [hsz]; decide), MadeR.fill (by decide) (hwt 11 (by kernel_rfl)) (by rw [hsz]; decide) FG.out hg hfin hown2⟩
          simp only [upd]
          simp only [FG.out, FP.out]
          (try rfl)
        case s13 =>
          intro listed bb u hsz hn hwt hinv
          obtain ⟨x, rfl, hC, hU, h7, h8, p8, h9, hM⟩ := hinv
          have f10 := Lib.hid (hU 10 _ rfl (hwt 10 (by kernel_rfl)))
          simp only [putsX, Act.put, List.setIfInBounds_toArray, List.set_cons_zero, List.set_cons_succ]
          rw [f10.out]
          go_wp2_with fail
          refine stepQ_normal ⟨trivial, upd x 13 (.bool v), ?_, hC, hU.step (fun _ h => Option.some.inj h), h7.keep (by decide) (by decide) _ id, h8.keep (by decide) (by decide) _ id, p8.keep (by decide) _, h9.keep (by decide) (by decide) _ id, hM.keep (by decide) (by decide) _ (Below.refl _ _)⟩
          simp only [upd]
          simp only [f10.out]
          (try rfl)
      case he =>
        intro listed q u hall hC hU hS
        obtain ⟨h7, h8, p8, h9, hM⟩ := hS
        obtain ⟨sP, ab, cb, fg, hg, hh, hown⟩ := hM.full (hall 11 (by decide)) (hall 12 (by decide))
        have fb := hU 13 _ rfl (hall 13 (by decide))
        simp only [putsX, Act.put, List.setIfInBounds_toArray, List.set_cons_zero, List.set_cons_succ]
        rw [fg, fb]
        clear hall hU h7 h8 p8 h9 hM fg fb
        generalize q 0 = _q0, q 1 = _q1, q 2 = _q2, q 3 = _q3, q 4 = _q4, q 5 = _q5, q 6 = _q6, q 7 = _q7, q 8 = _q8, q 9 = _q9, q 10 = _q10
        have g6 := keep_block hC gr (lt_of_block gr)
        have r6 := keep_block hC rr (lt_of_block rr)
        have s6 := keep_block hC sr (lt_of_block sr)
        have HB6 : Hid (Below w1.heap.size w1 u) := HBR.out.trans (hC.mono HBR.out.size)
        have HB6' : Hid (Below w.heap.size w u) := HB1.out.trans (HB6.out.mono HB1.out.size)
        have HOW := Lib.hid hown
        have HSP : Hid (wr.heap.size ≤ sP) := hg
        have HSZ : Hid (wr.heap.size ≤ u.heap.size) := hC.size
        clear hown hg hC
        cases v
        case false =>
          have HNO := Lib.hid (STOP.out HV.out)
          obtain ⟨y0, y1⟩ := cells2 s6
          have f0 := thawed s6 0
          have f1 := thawed s6 1
          go_wp2_with fail
          (try simp only [Exit.inBlock, Exit.then])
          obtain ⟨rfl, rfl, rfl, rfl⟩ := HNO.out
          refine bodyPost_ret (v := .tuple #[.agg #[.slice none 0 0, .int .i64 0], .bool false]) (by simp [results, Tryz.results11, go_sem, y0, y1]) rfl ⟨none, 0, rfl, World.ownsRow_nil _ _ _ _, (HB6'.out.setCell (by simp) _).setCell (by simp) _⟩
        case true =>
          obtain ⟨rfl, rfl⟩ := NEXT.out HV.out
          obtain ⟨y0, y1⟩ := cells2 hh
          obtain ⟨x0, x1⟩ := cells2 r6
          have f0 := thawed r6 0
          have f1 := thawed r6 1
          have G1 := (Below.heap_setCell (u.setCell ⟨w2.heap.size, 0, none⟩ (.slice ab N cb)) ⟨w2.heap.size, 1, none⟩ (.int .i64 (stP (L.take (m + 1)))) w.heap.size (by have := HS1.out; have := HS2.out; simp; omega)).trans ((Below.heap_setCell u ⟨w2.heap.size, 0, none⟩ (.slice ab N cb) w.heap.size (by have := HS1.out; have := HS2.out; simp; omega)).trans g6)
          have G2 := (Below.heap_setCell (u.setCell ⟨w2.heap.size, 0, none⟩ (.slice ab N cb)) ⟨w2.heap.size, 1, none⟩ (.int .i64 (stP (L.take (m + 1)))) (w.heap.size + 1) (by have := HS1.out; have := HS2.out; simp; omega)).trans ((Below.heap_setCell u ⟨w2.heap.size, 0, none⟩ (.slice ab N cb) (w.heap.size + 1) (by have := HS1.out; have := HS2.out; simp; omega)).trans s6)
          have G3 := set_cells (set_cells r6 0 (.slice ab N cb)) 1 (.int .i64 (stP (L.take (m + 1))))
          have hwr := lt_of_block rr
          have hab : ∀ x, ab = some x → x.block ≠ w2.heap.size := fun x hx => by have := (HOW.out.lo x hx).1; omega
          have G4 := ((HOW.out.mono (C := w1.heap.size) HBR.out.size).setCell (p := ⟨w2.heap.size, 0, none⟩) hab (.slice ab N cb)).setCell (p := ⟨w2.heap.size, 1, none⟩) hab (.int .i64 (stP (L.take (m + 1))))
          have G5 := (HB6.out.setCell (p := ⟨w2.heap.size, 0, none⟩) HS2.out (.slice ab N cb)).setCell (p := ⟨w2.heap.size, 1, none⟩) HS2.out (.int .i64 (stP (L.take (m + 1))))
          have GG := Lib.hid (And.intro G1 (And.intro G2 (And.intro G3 (And.intro G4 G5))))
          have HAB := Lib.hid hab
          clear G1 G2 G3 G4 G5 hab hwr
          go_wp2_with fail
          go_roundw
          case rel => exact ⟨m + 1, by omega, by go_num, GO.out HV.out, GG.out.1, GG.out.2.1, ⟨ab, cb, GG.out.2.2.1, GG.out.2.2.2.1, HAB.out⟩, GG.out.2.2.2.2⟩
          case measure => simp [intOf]; omega
    case neg =>
      obtain rfl : m = n := by omega
      have htk : L.take m = L := List.take_of_length_le (by rw [HL.out]; exact Nat.le_refl _)
      rw [htk] at rr HEND HON
      have hend := HEND.out
      have hle : le = stL N L := by rw [← HLE.out]; exact if_pos hend
      have hpe : pwe = stP L := by rw [← HPE.out]; exact if_pos hend
      have hne' : n' = N := by rw [← HNP.out, hle, stL_length]
      obtain ⟨gv, hgv⟩ : ∃ gv, decide (GeoOk g0 B g2 g3) = gv := ⟨_, rfl⟩
      have K := Lib.hid hgv
      have hvg : vv = gv := by rw [← HVV.out, hend, hgv]; rfl
      subst hle
      subst hpe
      subst hne'
      subst hvg
      have HBW : Hid (Below w.heap.size w wr) := HB1.out.trans (HBR.out.mono HB1.out.size)
      have HWR : Hid (w.heap.size + 1 < wr.heap.size) := lt_of_block sr
      have HSA : Hid (∀ x, aa = some x → x.block ≠ w.heap.size + 1) := fun x hx => by have := (HON.out.lo x hx).1; have := HS1.out; omega
      clear hend hgv
      obtain ⟨d0, d1⟩ := cells2 rr
      obtain ⟨y0, y1⟩ := cells2 sr
      have f0 := thawed sr 0
      have f1 := thawed sr 1
      have fin : Hid (OwnK w.heap.size (.slice aa n' cc) (stL n' L) ((wr.setCell ⟨w.heap.size + 1, 0, none⟩ (.slice aa n' cc)).setCell ⟨w.heap.size + 1, 1, none⟩ (.int .i64 (stP L))) ∧ Below w.heap.size w ((wr.setCell ⟨w.heap.size + 1, 0, none⟩ (.slice aa n' cc)).setCell ⟨w.heap.size + 1, 1, none⟩ (.int .i64 (stP L)))) :=
        ⟨((HON.out.setCell HSA.out _).setCell HSA.out _).mono (by have := HS1.out; omega), (HBW.out.setCell (by simp) _).setCell (by simp) _⟩
      have HVT : Hid (vv = true) := K.out.symm.trans (decide_eq_true hg)
      have ht := HVT.out
      subst ht
      go_wp2_with fail
      (try simp only [Exit.inBlock, Exit.then])
      refine bodyPost_ret (v := .tuple #[.agg #[.slice aa n' cc, .int .i64 (stP L)], .bool true]) ?_ rfl ⟨_, _, rfl, fin.out.1, fin.out.2⟩
      simp [results, Tryz.results11, go_sem, y0, y1]

end Go.Proofs.YthplhjdfajhmpaaGreat

namespace Go.Proofs.YthplhjdfajhmpaaGreat
open Go.RowKit

set_option linter.unusedVariables false

theorem tim_rp {t : Tm} (h : TimOk t) {x : Int} (hx : 1 ≤ x ∧ x ≤ 64) : TimOk { t with rp := x } := by
  obtain ⟨h1, h2⟩ := h
  refine ⟨fun y hy => ?_, h2⟩
  simp only [Tm.l, List.mem_cons, List.not_mem_nil, or_false] at hy
  have hh := fun z hz => h1 z hz
  simp only [Tm.l, List.mem_cons, List.not_mem_nil, or_false] at hh
  rcases hy with rfl | rfl | rfl | rfl | rfl | rfl | rfl | rfl | rfl | rfl | rfl | rfl | rfl | rfl | rfl | rfl | rfl
  all_goals first | exact hx | exact hh _ (by simp)

theorem tim_rfc {t : Tm} (h : TimOk t) {x : Int} (hx : 1 ≤ x ∧ x ≤ 64) : TimOk { t with rfc := x } := by
  obtain ⟨h1, h2⟩ := h
  refine ⟨fun y hy => ?_, h2⟩
  simp only [Tm.l, List.mem_cons, List.not_mem_nil, or_false] at hy
  have hh := fun z hz => h1 z hz
  simp only [Tm.l, List.mem_cons, List.not_mem_nil, or_false] at hh
  rcases hy with rfl | rfl | rfl | rfl | rfl | rfl | rfl | rfl | rfl | rfl | rfl | rfl | rfl | rfl | rfl | rfl | rfl
  all_goals first | exact hx | exact hh _ (by simp)

theorem tim_wr {t : Tm} (h : TimOk t) {x : Int} (hx : 1 ≤ x ∧ x ≤ 64) : TimOk { t with wr := x } := by
  obtain ⟨h1, h2⟩ := h
  refine ⟨fun y hy => ?_, h2⟩
  simp only [Tm.l, List.mem_cons, List.not_mem_nil, or_false] at hy
  have hh := fun z hz => h1 z hz
  simp only [Tm.l, List.mem_cons, List.not_mem_nil, or_false] at hh
  rcases hy with rfl | rfl | rfl | rfl | rfl | rfl | rfl | rfl | rfl | rfl | rfl | rfl | rfl | rfl | rfl | rfl | rfl
  all_goals first | exact hx | exact hh _ (by simp)

theorem tim_faw {t : Tm} (h : TimOk t) {x : Int} (hx : 1 ≤ x ∧ x ≤ 64) : TimOk { t with faw := x } := by
  obtain ⟨h1, h2⟩ := h
  refine ⟨fun y hy => ?_, h2⟩
  simp only [Tm.l, List.mem_cons, List.not_mem_nil, or_false] at hy
  have hh := fun z hz => h1 z hz
  simp only [Tm.l, List.mem_cons, List.not_mem_nil, or_false] at hh
  rcases hy with rfl | rfl | rfl | rfl | rfl | rfl | rfl | rfl | rfl | rfl | rfl | rfl | rfl | rfl | rfl | rfl | rfl
  all_goals first | exact hx | exact hh _ (by simp)

theorem tim_rtw {t : Tm} (h : TimOk t) {x : Int} (hx : 1 ≤ x ∧ x ≤ 64) : TimOk { t with rtw := x } := by
  obtain ⟨h1, h2⟩ := h
  refine ⟨fun y hy => ?_, h2⟩
  simp only [Tm.l, List.mem_cons, List.not_mem_nil, or_false] at hy
  have hh := fun z hz => h1 z hz
  simp only [Tm.l, List.mem_cons, List.not_mem_nil, or_false] at hh
  rcases hy with rfl | rfl | rfl | rfl | rfl | rfl | rfl | rfl | rfl | rfl | rfl | rfl | rfl | rfl | rfl | rfl | rfl
  all_goals first | exact hx | exact hh _ (by simp)

/-- What a drawn timing leaves: a valid one. -/
def DrewTmOk (c B : Nat) (w : World) (e : Ending) (w' : World) : Prop := ∃ t : Tm, e = .returned (.agg #[.int .i64 t.rcd, .int .i64 t.rp, .int .i64 t.ras, .int .i64 t.rrds, .int .i64 t.rrdl, .int .i64 t.faw, .int .i64 t.ccds, .int .i64 t.ccdl, .int .i64 t.rtp, .int .i64 t.wr, .int .i64 t.wtrs, .int .i64 t.wtrl, .int .i64 t.rtw, .int .i64 t.rfc, .int .i64 t.cke, .int .i64 t.xp, .int .i64 t.xs]) ∧ TimOk t ∧ Cur c B w' ∧ Only c w w'

set_option maxHeartbeats 8000000 in
theorem l07TimeOk_any {c B : Nat} {w : World} (hcur : Cur c B w) : Calls Tryz.prog 62 #[.pointer (some ⟨c, 0, none⟩)] w (DrewTmOk c B w) := by
  have hBc : B ≤ c := by obtain ⟨_, _, _, _, _, _, _, h, _⟩ := hcur; exact h
  have HC := Lib.hid hcur
  have SPEC : Hid (∀ w, Calls Tryz.prog 95 #[] w (Gives (.agg #[.int .i64 fastT.rcd, .int .i64 fastT.rp, .int .i64 fastT.ras, .int .i64 fastT.rrds, .int .i64 fastT.rrdl, .int .i64 fastT.faw, .int .i64 fastT.ccds, .int .i64 fastT.ccdl, .int .i64 fastT.rtp, .int .i64 fastT.wr, .int .i64 fastT.wtrs, .int .i64 fastT.wtrl, .int .i64 fastT.rtw, .int .i64 fastT.rfc, .int .i64 fastT.cke, .int .i64 fastT.xp, .int .i64 fastT.xs]) w)) := fun w => specFast_is w
  obtain ⟨t, ht⟩ : ∃ t, fastT = t := ⟨_, rfl⟩
  rw [ht] at SPEC
  have OK : Hid (TimOk t) := by show TimOk _; rw [← ht]; exact fast_ok
  clear ht hcur
  go_enter Tryz.func62, Tryz.ntmps62
  go_wp2_with fail
  refine (SPEC.out _).mono ?_
  rintro e w1 ⟨rfl, hb1⟩
  have hn := heap_alloc_new w1 (.cells #[.int .i64 0, .int .i64 0, .int .i64 0, .int .i64 0, .int .i64 0, .int .i64 0, .int .i64 0, .int .i64 0, .int .i64 0, .int .i64 0, .int .i64 0, .int .i64 0, .int .i64 0, .int .i64 0, .int .i64 0, .int .i64 0, .int .i64 0] 27)
  have D := Lib.hid (Dr.made (t := t) HC.out hBc ((HC.out.alloc _).keep (hb1.block _ (by have := HC.out.lt; simp; omega)) (hb1.mono (by have := HC.out.lt; simp; omega))) ((Only.refl _ _).later hb1))
  have HS : Hid (w.heap.size < w1.heap.size) := by have := hb1.size; rw [World.size_alloc] at this; exact this
  clear hb1
  go_wp2_with ((with_reducible refine store_list (cells := #[.int .i64 t.rcd, .int .i64 t.rp, .int .i64 t.ras, .int .i64 t.rrds, .int .i64 t.rrdl, .int .i64 t.faw, .int .i64 t.ccds, .int .i64 t.ccdl, .int .i64 t.rtp, .int .i64 t.wr, .int .i64 t.wtrs, .int .i64 t.wtrl, .int .i64 t.rtw, .int .i64 t.rfc, .int .i64 t.cke, .int .i64 t.xp, .int .i64 t.xs]) hn ?_ ?_ ?_ ?_ ?_ ?_); kernel_rfl; kernel_rfl; kernel_rfl; kernel_rfl; kernel_rfl)
  obtain ⟨PB, hPB⟩ : ∃ p, w1.heap.size = p := ⟨_, rfl⟩
  generalize ((w1.alloc (.cells #[.int .i64 0, .int .i64 0, .int .i64 0, .int .i64 0, .int .i64 0, .int .i64 0, .int .i64 0, .int .i64 0, .int .i64 0, .int .i64 0, .int .i64 0, .int .i64 0, .int .i64 0, .int .i64 0, .int .i64 0, .int .i64 0, .int .i64 0] 27)).setRow w1.heap.size #[.int .i64 t.rcd, .int .i64 t.rp, .int .i64 t.ras, .int .i64 t.rrds, .int .i64 t.rrdl, .int .i64 t.faw, .int .i64 t.ccds, .int .i64 t.ccdl, .int .i64 t.rtp, .int .i64 t.wr, .int .i64 t.wtrs, .int .i64 t.wtrl, .int .i64 t.rtw, .int .i64 t.rfc, .int .i64 t.cke, .int .i64 t.xp, .int .i64 t.xs]) = v1 at D ⊢
  rw [hPB] at D
  (try simp only [hPB])
  clear hn hPB HS SPEC HC hBc
  refine (l01Once_any D.out.cur 2 (by omega)).mono ?_
  rintro e w2 ⟨x, rfl, hc, ho⟩
  have E := Lib.hid (D.out.on hc ho)
  clear D hc ho
  cases x
  · have p := E.out.var
    have z := E.out.res
    go_wp2_with (first | (first | ((with_reducible refine ld_tm ?_ ?_ p ?_); kernel_rfl; kernel_rfl; go_simp)) | ((with_reducible refine store_list (cells := #[.int .i64 t.rcd, .int .i64 t.rp, .int .i64 t.ras, .int .i64 t.rrds, .int .i64 t.rrdl, .int .i64 t.faw, .int .i64 t.ccds, .int .i64 t.ccdl, .int .i64 t.rtp, .int .i64 t.wr, .int .i64 t.wtrs, .int .i64 t.wtrl, .int .i64 t.rtw, .int .i64 t.rfc, .int .i64 t.cke, .int .i64 t.xp, .int .i64 t.xs]) z ?_ ?_ ?_ ?_ ?_ ?_); kernel_rfl; kernel_rfl; kernel_rfl; kernel_rfl; kernel_rfl))
    have hr := setRow_same _ _ #[.int .i64 t.rcd, .int .i64 t.rp, .int .i64 t.ras, .int .i64 t.rrds, .int .i64 t.rrdl, .int .i64 t.faw, .int .i64 t.ccds, .int .i64 t.ccdl, .int .i64 t.rtp, .int .i64 t.wr, .int .i64 t.wtrs, .int .i64 t.wtrl, .int .i64 t.rtw, .int .i64 t.rfc, .int .i64 t.cke, .int .i64 t.xp, .int .i64 t.xs] _ _ z
    refine bodyPost_ret (v := .agg #[.int .i64 t.rcd, .int .i64 t.rp, .int .i64 t.ras, .int .i64 t.rrds, .int .i64 t.rrdl, .int .i64 t.faw, .int .i64 t.ccds, .int .i64 t.ccdl, .int .i64 t.rtp, .int .i64 t.wr, .int .i64 t.wtrs, .int .i64 t.wtrl, .int .i64 t.rtw, .int .i64 t.rfc, .int .i64 t.cke, .int .i64 t.xp, .int .i64 t.xs]) (results_cell_row rfl _ _ w.heap.size 27 #[.int .i64 t.rcd, .int .i64 t.rp, .int .i64 t.ras, .int .i64 t.rrds, .int .i64 t.rrdl, .int .i64 t.faw, .int .i64 t.ccds, .int .i64 t.ccdl, .int .i64 t.rtp, .int .i64 t.wr, .int .i64 t.wtrs, .int .i64 t.wtrl, .int .i64 t.rtw, .int .i64 t.rfc, .int .i64 t.cke, .int .i64 t.xp, .int .i64 t.xs] (0, 0) _ rfl hr Tryz.underlying27 rfl (by kernel_rfl)) rfl ⟨t, rfl, OK.out, ?_, ?_⟩
    · exact (E.out.cur).keep (setRow_other _ _ _ _ (by have := E.out.cu; omega)) (below_setRow (Below.refl _ _) (by have := E.out.cu; omega) _)
    · exact E.out.only.trans' ⟨rfl, rfl, rfl, by simp⟩ (fun k hk hne => setRow_other _ _ _ _ (by omega))
  have D := Lib.hid E.out
  clear E
  go_wp2_with fail
  refine (l01Below_any D.out.cur 6 (by omega)).mono ?_
  rintro e w3 ⟨x3, rfl, h0, h1, hc, ho⟩
  rw [topOf_pos (by omega)] at h1
  have E := Lib.hid (D.out.on hc ho)
  have e1 : IntKind.i64.wrap (1 + x3) = 1 + x3 := IntWalk.i64_in _ ⟨by omega, by omega⟩
  obtain ⟨c0, c1, c2, c3, c4, c5, c6, c7, c8, c9, c10, c11, c12, c13, c14, c15, c16⟩ := tm_cells E.out.var
  have fz := thawed E.out.var 1
  have D2 := E.out.set_rp (1 + x3)
  have OK0' := tim_rp OK.out (x := 1 + x3) (by omega)
  obtain ⟨t0, htm⟩ : ∃ u : Tm, { t with rp := 1 + x3 } = u := ⟨_, rfl⟩
  rw [htm] at OK0'
  have OK0 : Hid (TimOk t0) := OK0'
  clear OK0'
  rw [htm] at D2
  have D3 := Lib.hid D2
  clear hc ho D h0 h1 D2 htm
  go_wp2_with fail
  generalize (w3.setCell ⟨PB, 1, none⟩ (.int .i64 (1 + x3))) = v3 at D3 ⊢
  have D := D3
  clear c0 c1 c2 c3 c4 c5 c6 c7 c8 c9 c10 c11 c12 c13 c14 c15 c16 fz e1 E D3
  go_wp2_with fail
  refine (l01Below_any D.out.cur 20 (by omega)).mono ?_
  rintro e w4 ⟨x4, rfl, h0, h1, hc, ho⟩
  rw [topOf_pos (by omega)] at h1
  have E := Lib.hid (D.out.on hc ho)
  have e1 : IntKind.i64.wrap (4 + x4) = 4 + x4 := IntWalk.i64_in _ ⟨by omega, by omega⟩
  obtain ⟨c0, c1, c2, c3, c4, c5, c6, c7, c8, c9, c10, c11, c12, c13, c14, c15, c16⟩ := tm_cells E.out.var
  have fz := thawed E.out.var 13
  have D2 := E.out.set_rfc (4 + x4)
  have OK1' := tim_rfc OK0.out (x := 4 + x4) (by omega)
  obtain ⟨t1, htm⟩ : ∃ u : Tm, { t0 with rfc := 4 + x4 } = u := ⟨_, rfl⟩
  rw [htm] at OK1'
  have OK1 : Hid (TimOk t1) := OK1'
  clear OK1'
  rw [htm] at D2
  have D3 := Lib.hid D2
  clear hc ho D h0 h1 D2 htm
  go_wp2_with fail
  generalize (w4.setCell ⟨PB, 13, none⟩ (.int .i64 (4 + x4))) = v4 at D3 ⊢
  have D := D3
  clear c0 c1 c2 c3 c4 c5 c6 c7 c8 c9 c10 c11 c12 c13 c14 c15 c16 fz e1 E D3
  go_wp2_with fail
  refine (l01Below_any D.out.cur 9 (by omega)).mono ?_
  rintro e w5 ⟨x5, rfl, h0, h1, hc, ho⟩
  rw [topOf_pos (by omega)] at h1
  have E := Lib.hid (D.out.on hc ho)
  have e1 : IntKind.i64.wrap (1 + x5) = 1 + x5 := IntWalk.i64_in _ ⟨by omega, by omega⟩
  obtain ⟨c0, c1, c2, c3, c4, c5, c6, c7, c8, c9, c10, c11, c12, c13, c14, c15, c16⟩ := tm_cells E.out.var
  have fz := thawed E.out.var 9
  have D2 := E.out.set_wr (1 + x5)
  have OK2' := tim_wr OK1.out (x := 1 + x5) (by omega)
  obtain ⟨t2, htm⟩ : ∃ u : Tm, { t1 with wr := 1 + x5 } = u := ⟨_, rfl⟩
  rw [htm] at OK2'
  have OK2 : Hid (TimOk t2) := OK2'
  clear OK2'
  rw [htm] at D2
  have D3 := Lib.hid D2
  clear hc ho D h0 h1 D2 htm
  go_wp2_with fail
  generalize (w5.setCell ⟨PB, 9, none⟩ (.int .i64 (1 + x5))) = v5 at D3 ⊢
  have D := D3
  clear c0 c1 c2 c3 c4 c5 c6 c7 c8 c9 c10 c11 c12 c13 c14 c15 c16 fz e1 E D3
  go_wp2_with fail
  refine (l01Below_any D.out.cur 20 (by omega)).mono ?_
  rintro e w6 ⟨x6, rfl, h0, h1, hc, ho⟩
  rw [topOf_pos (by omega)] at h1
  have E := Lib.hid (D.out.on hc ho)
  have e1 : IntKind.i64.wrap (4 + x6) = 4 + x6 := IntWalk.i64_in _ ⟨by omega, by omega⟩
  obtain ⟨c0, c1, c2, c3, c4, c5, c6, c7, c8, c9, c10, c11, c12, c13, c14, c15, c16⟩ := tm_cells E.out.var
  have fz := thawed E.out.var 5
  have D2 := E.out.set_faw (4 + x6)
  have OK3' := tim_faw OK2.out (x := 4 + x6) (by omega)
  obtain ⟨t3, htm⟩ : ∃ u : Tm, { t2 with faw := 4 + x6 } = u := ⟨_, rfl⟩
  rw [htm] at OK3'
  have OK3 : Hid (TimOk t3) := OK3'
  clear OK3'
  rw [htm] at D2
  have D3 := Lib.hid D2
  clear hc ho D h0 h1 D2 htm
  go_wp2_with fail
  generalize (w6.setCell ⟨PB, 5, none⟩ (.int .i64 (4 + x6))) = v6 at D3 ⊢
  have D := D3
  clear c0 c1 c2 c3 c4 c5 c6 c7 c8 c9 c10 c11 c12 c13 c14 c15 c16 fz e1 E D3
  go_wp2_with fail
  refine (l01Below_any D.out.cur 8 (by omega)).mono ?_
  rintro e w7 ⟨x7, rfl, h0, h1, hc, ho⟩
  rw [topOf_pos (by omega)] at h1
  have E := Lib.hid (D.out.on hc ho)
  have e1 : IntKind.i64.wrap (1 + x7) = 1 + x7 := IntWalk.i64_in _ ⟨by omega, by omega⟩
  obtain ⟨c0, c1, c2, c3, c4, c5, c6, c7, c8, c9, c10, c11, c12, c13, c14, c15, c16⟩ := tm_cells E.out.var
  have fz := thawed E.out.var 12
  have D2 := E.out.set_rtw (1 + x7)
  have OK4' := tim_rtw OK3.out (x := 1 + x7) (by omega)
  obtain ⟨t4, htm⟩ : ∃ u : Tm, { t3 with rtw := 1 + x7 } = u := ⟨_, rfl⟩
  rw [htm] at OK4'
  have OK4 : Hid (TimOk t4) := OK4'
  clear OK4'
  rw [htm] at D2
  have D3 := Lib.hid D2
  clear hc ho D h0 h1 D2 htm
  have p := D3.out.var
  have z := D3.out.res
  go_wp2_with (first | (first | ((with_reducible refine ld_tm ?_ ?_ p ?_); kernel_rfl; kernel_rfl; go_simp)) | ((with_reducible refine store_list (cells := #[.int .i64 t4.rcd, .int .i64 t4.rp, .int .i64 t4.ras, .int .i64 t4.rrds, .int .i64 t4.rrdl, .int .i64 t4.faw, .int .i64 t4.ccds, .int .i64 t4.ccdl, .int .i64 t4.rtp, .int .i64 t4.wr, .int .i64 t4.wtrs, .int .i64 t4.wtrl, .int .i64 t4.rtw, .int .i64 t4.rfc, .int .i64 t4.cke, .int .i64 t4.xp, .int .i64 t4.xs]) z ?_ ?_ ?_ ?_ ?_ ?_); kernel_rfl; kernel_rfl; kernel_rfl; kernel_rfl; kernel_rfl))
  have hr := setRow_same _ _ #[.int .i64 t4.rcd, .int .i64 t4.rp, .int .i64 t4.ras, .int .i64 t4.rrds, .int .i64 t4.rrdl, .int .i64 t4.faw, .int .i64 t4.ccds, .int .i64 t4.ccdl, .int .i64 t4.rtp, .int .i64 t4.wr, .int .i64 t4.wtrs, .int .i64 t4.wtrl, .int .i64 t4.rtw, .int .i64 t4.rfc, .int .i64 t4.cke, .int .i64 t4.xp, .int .i64 t4.xs] _ _ z
  refine bodyPost_ret (v := .agg #[.int .i64 t4.rcd, .int .i64 t4.rp, .int .i64 t4.ras, .int .i64 t4.rrds, .int .i64 t4.rrdl, .int .i64 t4.faw, .int .i64 t4.ccds, .int .i64 t4.ccdl, .int .i64 t4.rtp, .int .i64 t4.wr, .int .i64 t4.wtrs, .int .i64 t4.wtrl, .int .i64 t4.rtw, .int .i64 t4.rfc, .int .i64 t4.cke, .int .i64 t4.xp, .int .i64 t4.xs]) (results_cell_row rfl _ _ w.heap.size 27 #[.int .i64 t4.rcd, .int .i64 t4.rp, .int .i64 t4.ras, .int .i64 t4.rrds, .int .i64 t4.rrdl, .int .i64 t4.faw, .int .i64 t4.ccds, .int .i64 t4.ccdl, .int .i64 t4.rtp, .int .i64 t4.wr, .int .i64 t4.wtrs, .int .i64 t4.wtrl, .int .i64 t4.rtw, .int .i64 t4.rfc, .int .i64 t4.cke, .int .i64 t4.xp, .int .i64 t4.xs] (0, 0) _ rfl hr Tryz.underlying27 rfl (by kernel_rfl)) rfl ⟨t4, rfl, OK4.out, ?_, ?_⟩
  · exact (D3.out.cur).keep (setRow_other _ _ _ _ (by have := D3.out.cu; omega)) (below_setRow (Below.refl _ _) (by have := D3.out.cu; omega) _)
  · exact D3.out.only.trans' ⟨rfl, rfl, rfl, by simp⟩ (fun k hk hne => setRow_other _ _ _ _ (by omega))

end Go.Proofs.YthplhjdfajhmpaaGreat
