/-
  The model's first fault of a trace.
-/
import Derived.Test.YtihhcnckoeaihaaTrcW
namespace Go.Proofs.Ytihhcnckoeaihaa
open Go.RowKit Go.PlainAid

set_option linter.unusedVariables false

/-- Rows whose blocks stay as they were. -/
theorem ownI_frame {B : Nat} {v : Value} {l : List Int} {w w' : World} (h : OwnI B v l w) (hf : ∀ i, B ≤ i → i < w.heap.size → w'.heap[i]? = w.heap[i]?) : OwnI B v l w' := by
  refine ⟨h.1, ?_⟩
  rcases h.2 with hv | ⟨b, cap, cur, hv, hB, hh, r⟩
  · exact .inl hv
  · exact .inr ⟨b, cap, cur, hv, hB, (hf b hB (lt_of_block hh)).trans hh, r⟩

theorem ownK_frame {B n c : Nat} {a : Option Addr} {l : List Bk} {w w' : World} (h : OwnK B (.slice a n c) l w) (hf : ∀ x, a = some x → w'.heap[x.block]? = w.heap[x.block]?) : OwnK B (.slice a n c) l w' := by
  refine ⟨h.1, ?_⟩
  rcases h.2 with hv | ⟨b, cap, cur, hv, hB, hh, r⟩
  · exact .inl hv
  · cases hv
    exact .inr ⟨b, c, cur, rfl, hB, (hf _ rfl).trans hh, r⟩

/-- A call that answers two numbers. -/
def Gives2 (p : Int × Int) (w : World) (e : Ending) (w' : World) : Prop := e = .returned (.tuple #[.int .i64 p.1, .int .i64 p.2]) ∧ Below w.heap.size w w'

set_option maxHeartbeats 16000000 in
set_option maxRecDepth 100000 in
theorem specFault_is (t : Tm) (g0 B g2 g3 : Int) (a : Option Addr) (n c : Nat) (L : List Ev) (N : Nat) (hN : bankN g0 B g2 g3 = (N : Int)) (v : Int × Int) (hv : traceF g0 B g2 g3 t N L = v) (hl : L.length = n) (h1 : n ≤ 3000000) (hc : n ≤ c) (w : World) (hr : evK.Row w a L) :
    Calls Try.prog 7 #[.agg #[.int .i64 g0, .int .i64 B, .int .i64 g2, .int .i64 g3], .agg #[.int .i64 t.rcd, .int .i64 t.rp, .int .i64 t.ras, .int .i64 t.rrds, .int .i64 t.rrdl, .int .i64 t.faw, .int .i64 t.ccds, .int .i64 t.ccdl, .int .i64 t.rtp, .int .i64 t.wr, .int .i64 t.wtrs, .int .i64 t.wtrl, .int .i64 t.rtw, .int .i64 t.rfc, .int .i64 t.cke, .int .i64 t.xp, .int .i64 t.xs], .slice a n c] w (Gives2 v w) := by
  obtain ⟨w1, hw1⟩ : ∃ u, (w.alloc (.cells #[.int .i64 g0, .int .i64 B, .int .i64 g2, .int .i64 g3] 30)).alloc (.cells #[.int .i64 t.rcd, .int .i64 t.rp, .int .i64 t.ras, .int .i64 t.rrds, .int .i64 t.rrdl, .int .i64 t.faw, .int .i64 t.ccds, .int .i64 t.ccdl, .int .i64 t.rtp, .int .i64 t.wr, .int .i64 t.wtrs, .int .i64 t.wtrl, .int .i64 t.rtw, .int .i64 t.rfc, .int .i64 t.cke, .int .i64 t.xp, .int .i64 t.xs] 32) = u := ⟨_, rfl⟩
  have HB1 : Hid (Below w.heap.size w w1) := by subst hw1; exact ((Below.refl _ _).alloc (Nat.le_refl _) _).alloc (by simp) _
  have g1 : w1.heap[w.heap.size]? = some (.cells #[.int .i64 g0, .int .i64 B, .int .i64 g2, .int .i64 g3] 30) := by subst hw1; exact heap_alloc2_old _ _ _
  have p1 : w1.heap[w.heap.size + 1]? = some (.cells #[.int .i64 t.rcd, .int .i64 t.rp, .int .i64 t.ras, .int .i64 t.rrds, .int .i64 t.rrdl, .int .i64 t.faw, .int .i64 t.ccds, .int .i64 t.ccdl, .int .i64 t.rtp, .int .i64 t.wr, .int .i64 t.wtrs, .int .i64 t.wtrl, .int .i64 t.rtw, .int .i64 t.rfc, .int .i64 t.cke, .int .i64 t.xp, .int .i64 t.xs] 32) := by subst hw1; exact heap_alloc2_new _ _ _
  have HS1 : Hid (w.heap.size + 1 < w1.heap.size) := lt_of_block p1
  have HR := Lib.hid (hr.below HB1.out)
  have HL := Lib.hid hl
  have HV := Lib.hid hv
  have HNN := Lib.hid hN
  obtain ⟨c0, c1, c2, c3⟩ := cells4 g1
  clear hr hl hv hN
  by_cases hg : GeoOk g0 B g2 g3
  case neg =>
    have HE : Hid (v = (1, -1)) := by show _ = _; rw [← HV.out]; exact if_neg (fun h => hg h.1)
    have K := Lib.hid (decide_eq_false hg)
    clear hg
    go_enter Try.func7, Try.ntmps7
    go_wp2_with fail
    refine (specGeoOk_is _ _ _ _ _ K.out _).mono ?_
    rintro e w2 ⟨rfl, hb2⟩
    have HB2 : Hid (Below w.heap.size w w2) := HB1.out.trans (hb2.mono HB1.out.size)
    clear hb2
    go_wp2
    (try simp only [Exit.inBlock, Exit.then])
    refine bodyPost_ret (v := .tuple #[.int .i64 (1), .int .i64 (-1)]) (by simp [results, Try.results7, go_sem]) rfl ⟨by rw [HE.out], HB2.out⟩
  have K := Lib.hid (decide_eq_true hg)
  by_cases ht : TimOk t
  case neg =>
    have HE : Hid (v = (1, -1)) := by show _ = _; rw [← HV.out]; exact if_neg (fun h => ht h.2.1)
    have KT := Lib.hid (decide_eq_false ht)
    clear hg ht
    go_enter Try.func7, Try.ntmps7
    go_wp2_with fail
    refine (specGeoOk_is _ _ _ _ _ K.out _).mono ?_
    rintro e w2 ⟨rfl, hb2⟩
    have p2 := keep_block hb2 p1 (lt_of_block p1)
    have HB2 : Hid (Below w.heap.size w w2) := HB1.out.trans (hb2.mono HB1.out.size)
    clear hb2 c0 c1 c2 c3
    go_wp2_with ((with_reducible refine ld_tm ?_ ?_ p2 ?_); kernel_rfl; kernel_rfl; go_simp)
    refine (specTimOk_is t _ KT.out _).mono ?_
    rintro e w3 ⟨rfl, hb3⟩
    have HB3 : Hid (Below w.heap.size w w3) := HB2.out.trans (hb3.mono HB2.out.size)
    clear hb3
    go_wp2
    (try simp only [Exit.inBlock, Exit.then])
    refine bodyPost_ret (v := .tuple #[.int .i64 (1), .int .i64 (-1)]) (by simp [results, Try.results7, go_sem]) rfl ⟨by rw [HE.out], HB3.out⟩
  have KT := Lib.hid (decide_eq_true ht)
  by_cases hm : n ≤ 2000
  case neg =>
    have HE : Hid (v = (1, -1)) := by show _ = _; rw [← HV.out]; exact if_neg (fun h => hm (by rw [← HL.out]; exact h.2.2))
    have tn : decide (2000 < n) = true := decide_eq_true (by omega)
    have tn' : decide ((2000 : Int) < (n : Int)) = true := decide_eq_true (by omega)
    clear hg ht
    go_enter Try.func7, Try.ntmps7
    go_wp2_with fail
    refine (specGeoOk_is _ _ _ _ _ K.out _).mono ?_
    rintro e w2 ⟨rfl, hb2⟩
    have p2 := keep_block hb2 p1 (lt_of_block p1)
    have HB2 : Hid (Below w.heap.size w w2) := HB1.out.trans (hb2.mono HB1.out.size)
    clear hb2 c0 c1 c2 c3
    go_wp2_with ((with_reducible refine ld_tm ?_ ?_ p2 ?_); kernel_rfl; kernel_rfl; go_simp)
    refine (specTimOk_is t _ KT.out _).mono ?_
    rintro e w3 ⟨rfl, hb3⟩
    have HB3 : Hid (Below w.heap.size w w3) := HB2.out.trans (hb3.mono HB2.out.size)
    clear hb3
    go_wp2
    (try simp only [Exit.inBlock, Exit.then])
    refine bodyPost_ret (v := .tuple #[.int .i64 (1), .int .i64 (-1)]) (by simp [results, Try.results7, go_sem]) rfl ⟨by rw [HE.out], HB3.out⟩
  have tn : decide (2000 < n) = false := decide_eq_false (by omega)
  have tn' : decide ((2000 : Int) < (n : Int)) = false := decide_eq_false (by omega)
  have HBB : Hid (1 ≤ B ∧ B ≤ 4) := hg.2.1
  have HVF : Hid (fstF (evF g0 B g2 g3 t N) [] L = v) := by
    show _ = _
    rw [← HV.out]
    exact (if_pos ⟨hg, ht, by rw [HL.out]; exact hm⟩).symm
  have HRK : Hid (∀ k, TrOk g0 B g2 g3 t N (L.take k) → RkOk g0 B g2 g3 (stL N (L.take k)) (stP (L.take k))) := fun k h => (st_ok hg HNN.out h).1
  obtain ⟨i0, hi, hz0, hz1, hz2⟩ := info_parts infoI
  have hN8 : N ≤ 8 := by have := bankN_range g0 B g2 g3; have := HNN.out; omega
  clear hg ht HV
  go_enter Try.func7, Try.ntmps7
  go_wp2_with fail
  refine (specGeoOk_is _ _ _ _ _ K.out _).mono ?_
  rintro e w2' ⟨rfl, hb2'⟩
  have gb2 := keep_block hb2' g1 (lt_of_block g1)
  have p2' := keep_block hb2' p1 (lt_of_block p1)
  have HB2' : Hid (Below w1.heap.size w1 w2') := hb2'
  clear hb2' c0 c1 c2 c3
  go_wp2_with ((with_reducible refine ld_tm ?_ ?_ p2' ?_); kernel_rfl; kernel_rfl; go_simp)
  refine (specTimOk_is t _ KT.out _).mono ?_
  rintro e w3' ⟨rfl, hb3'⟩
  have gb3 := keep_block hb3' gb2 (lt_of_block gb2)
  have p3' := keep_block hb3' p2' (lt_of_block p2')
  have HB3' : Hid (Below w1.heap.size w1 w3') := HB2'.out.trans (hb3'.mono HB2'.out.size)
  clear hb3' gb2 p2' HB2'
  obtain ⟨c0, c1, c2, c3⟩ := cells4 gb3
  go_wp2_with fail
  refine (specRankNew_is _ _ _ _ N HNN.out _).mono ?_
  rintro e w2 ⟨aa, cc, rfl, own2, hb2⟩
  have gb4 := keep_block hb2 gb3 (lt_of_block gb3)
  have p2 := keep_block hb2 p3' (lt_of_block p3')
  have HB2 : Hid (Below w1.heap.size w1 w2) := HB3'.out.trans (hb2.mono HB3'.out.size)
  have own2' : OwnK w1.heap.size (.slice aa N cc) (List.replicate N bk0) w2 := own2.mono HB3'.out.size
  have HAA : Hid (∀ x, aa = some x → x.block < w2.heap.size) := fun x hx => (own2'.lo x hx).2
  have HS2 : Hid (w1.heap.size ≤ w2.heap.size) := HB2.out.size
  clear hb2 own2 c0 c1 c2 c3 gb3 p3' HB3'
  have hb3 : Below w2.heap.size w2 (w2.alloc (.cells #[.slice aa N cc, .int .i64 0] 40)) := (Below.refl _ _).alloc (Nat.le_refl _) _
  have HS3 : Hid ((w2.alloc (.cells #[.slice aa N cc, .int .i64 0] 40)).heap.size = w2.heap.size + 1) := by show _ = _; simp
  have r3 : (w2.alloc (.cells #[.slice aa N cc, .int .i64 0] 40)).heap[w2.heap.size]? = some (.cells #[.slice aa N cc, .int .i64 0] 40) := heap_alloc_new _ _
  have gb5 := keep_block hb3 gb4 (lt_of_block gb4)
  have p3 := keep_block hb3 p2 (lt_of_block p2)
  have own3 := own2'.below hb3
  have HB3 : Hid (Below w1.heap.size w1 (w2.alloc (.cells #[.slice aa N cc, .int .i64 0] 40))) := HB2.out.trans (hb3.mono HB2.out.size)
  have A4 : Hid (OwnI (w2.alloc (.cells #[.slice aa N cc, .int .i64 0] 40)).heap.size (.slice (some ⟨(w2.alloc (.cells #[.slice aa N cc, .int .i64 0] 40)).heap.size, 0, none⟩) 0 0) [] ((w2.alloc (.cells #[.slice aa N cc, .int .i64 0] 40)).alloc (.cells #[] 3))) := World.ownsRow_made (w2.alloc (.cells #[.slice aa N cc, .int .i64 0] 40)) #[] 0 (Nat.le_refl _) (by decide) rfl
  have hb4 : Below (w2.alloc (.cells #[.slice aa N cc, .int .i64 0] 40)).heap.size (w2.alloc (.cells #[.slice aa N cc, .int .i64 0] 40)) ((w2.alloc (.cells #[.slice aa N cc, .int .i64 0] 40)).alloc (.cells #[] 3)) := (Below.refl _ _).alloc (Nat.le_refl _) _
  have ST : Hid (((w2.alloc (.cells #[.slice aa N cc, .int .i64 0] 40)).alloc (.cells #[] 3)).heap[w.heap.size]? = some (.cells #[.int .i64 g0, .int .i64 B, .int .i64 g2, .int .i64 g3] 30) ∧ ((w2.alloc (.cells #[.slice aa N cc, .int .i64 0] 40)).alloc (.cells #[] 3)).heap[w.heap.size + 1]? = some (.cells #[.int .i64 t.rcd, .int .i64 t.rp, .int .i64 t.ras, .int .i64 t.rrds, .int .i64 t.rrdl, .int .i64 t.faw, .int .i64 t.ccds, .int .i64 t.ccdl, .int .i64 t.rtp, .int .i64 t.wr, .int .i64 t.wtrs, .int .i64 t.wtrl, .int .i64 t.rtw, .int .i64 t.rfc, .int .i64 t.cke, .int .i64 t.xp, .int .i64 t.xs] 32) ∧
      ((w2.alloc (.cells #[.slice aa N cc, .int .i64 0] 40)).alloc (.cells #[] 3)).heap[w2.heap.size]? = some (.cells #[.slice aa N cc, .int .i64 0] 40) ∧ OwnK w1.heap.size (.slice aa N cc) (List.replicate N bk0) ((w2.alloc (.cells #[.slice aa N cc, .int .i64 0] 40)).alloc (.cells #[] 3)) ∧ Below w1.heap.size w1 ((w2.alloc (.cells #[.slice aa N cc, .int .i64 0] 40)).alloc (.cells #[] 3))) :=
    ⟨keep_block hb4 gb5 (lt_of_block gb5), keep_block hb4 p3 (lt_of_block p3), keep_block hb4 r3 (lt_of_block r3), own3.below hb4, HB3.out.trans (hb4.mono HB3.out.size)⟩
  clear hb3 own2' gb4 p2 HB2 hb4 own3 gb5 p3 r3 HB3
  go_wp2_with fail
  generalize (w2.alloc (.cells #[.slice aa N cc, .int .i64 0] 40)) = w3 at HS3 A4 ST ⊢
  go_loopw [9, 10] (fun u i wr => ∃ k : Nat, k ≤ n ∧ i = .int .i64 k ∧ TrOk g0 B g2 g3 t N (L.take k) ∧ wr.heap[w.heap.size]? = some (.cells #[.int .i64 g0, .int .i64 B, .int .i64 g2, .int .i64 g3] 30) ∧ wr.heap[w.heap.size + 1]? = some (.cells #[.int .i64 t.rcd, .int .i64 t.rp, .int .i64 t.ras, .int .i64 t.rrds, .int .i64 t.rrdl, .int .i64 t.faw, .int .i64 t.ccds, .int .i64 t.ccdl, .int .i64 t.rtp, .int .i64 t.wr, .int .i64 t.wtrs, .int .i64 t.wtrl, .int .i64 t.rtw, .int .i64 t.rfc, .int .i64 t.cke, .int .i64 t.xp, .int .i64 t.xs] 32) ∧
      wr.heap[w2.heap.size]? = some (.cells #[.slice aa N cc, .int .i64 (stP (L.take k))] 40) ∧ OwnK w1.heap.size (.slice aa N cc) (stL N (L.take k)) wr ∧ OwnI w3.heap.size u (actsT (L.take k)) wr ∧ Below w1.heap.size w1 wr ∧ w3.heap.size ≤ wr.heap.size) (fun _ i _ => n - (intOf i).toNat)
  case atStart => exact ⟨0, Nat.zero_le _, rfl, TrOk.nil, ST.out.1, ST.out.2.1, ST.out.2.2.1, ST.out.2.2.2.1, by have h := A4.out; rw [HS3.out] at h ⊢; exact h, ST.out.2.2.2.2, by simp⟩
  case round =>
    obtain ⟨m, hm', rfl, htr, gr, pr, rr, ownr, actr, hbr, hsr⟩ := hrel
    obtain ⟨ua, uc, rfl⟩ := actr.shape
    generalize hal : (actsT (L.take m)).length = al at actr ⊢
    have HAL := Lib.hid hal
    have HAM : Hid (al ≤ m) := by have := actsT_length (L.take m); rw [hal, List.length_take] at this; show _ ≤ _; omega
    clear hal
    have HTR := Lib.hid htr
    have HOR := Lib.hid ownr
    have HAR := Lib.hid actr
    have HBR := Lib.hid hbr
    have HSR := Lib.hid hsr
    have HBW : Hid (Below w.heap.size w wr) := HB1.out.trans (hbr.mono HB1.out.size)
    clear htr ownr actr hbr hsr ST A4
    by_cases hlt : m < n
    case neg =>
      obtain rfl : m = n := by omega
      have HE : Hid (v = (0, -1)) := by
        show _ = _
        have h := fstF_none HTR.out
        rw [List.take_of_length_le (by rw [HL.out]; exact Nat.le_refl _)] at h
        rw [← HVF.out]
        exact h
      go_wp2_with fail
      (try simp only [Exit.inBlock, Exit.then])
      refine bodyPost_ret (v := .tuple #[.int .i64 (0), .int .i64 (-1)]) (by simp [results, Try.results7, go_sem]) rfl ⟨by rw [HE.out], HBW.out⟩
    have hml : m < L.length := by rw [HL.out]; exact hlt
    have HT := Lib.hid (take_snoc hml)
    have BAD : Hid (∀ c, c ≠ 0 → evF g0 B g2 g3 t N (L.take m) (L.getD m ev0) = c → v = (c, (m : Int))) := fun c h0 hc => HVF.out.symm.trans (fst_bad HTR.out hml hc h0)
    have GOOD : Hid (evF g0 B g2 g3 t N (L.take m) (L.getD m ev0) = 0 → TrOk g0 B g2 g3 t N (L.take (m + 1))) := fun hc => HTR.out.next hml hc
    have HPA : Hid (∀ e, 0 < m → (Past (L.take m) e ↔ (L.getD (m - 1) ev0).t < e.t)) := fun e h0 => past_iff h0 (by omega)
    obtain ⟨b, off, rfl, a0, a1, a2, a3, a4⟩ := ev_at (HR.out.below HBR.out) (i := m) hml
    have PREV : Hid (0 < m → wr.cell? ⟨b, off + (m - 1) * 5, none⟩ = some (.int .i64 (L.getD (m - 1) ev0).t)) := fun h0 => by
      obtain ⟨b', off', hb', d0, _⟩ := ev_at (HR.out.below HBR.out) (i := m - 1) (by omega)
      cases hb'
      exact d0
    obtain ⟨e, he⟩ : ∃ e, L.getD m ev0 = e := ⟨_, rfl⟩
    rw [he] at a0 a1 a2 a3 a4 BAD GOOD HT
    obtain ⟨wn, hwn⟩ : ∃ u, wr.alloc (.cells #[.int .i64 e.t, .int .i64 e.k, .int .i64 e.x, .int .i64 e.y, .int .i64 e.z] 58) = u := ⟨_, rfl⟩
    have hbn : Below wr.heap.size wr wn := by subst hwn; exact (Below.refl _ _).alloc (Nat.le_refl _) _
    have HSN : Hid (wn.heap.size = wr.heap.size + 1) := by subst hwn; show _ = _; simp
    have qn : wn.heap[wr.heap.size]? = some (.cells #[.int .i64 e.t, .int .i64 e.k, .int .i64 e.x, .int .i64 e.y, .int .i64 e.z] 58) := by subst hwn; exact heap_alloc_new _ _
    have gn := keep_block hbn gr (lt_of_block gr)
    have pn := keep_block hbn pr (lt_of_block pr)
    have rn := keep_block hbn rr (lt_of_block rr)
    have HON := Lib.hid (HOR.out.below hbn)
    have HAN := Lib.hid (HAR.out.below hbn)
    have HBN : Hid (Below w1.heap.size w1 wn) := HBR.out.trans (hbn.mono HBR.out.size)
    have PREVN : Hid (0 < m → wn.cell? ⟨b, off + (m - 1) * 5, none⟩ = some (.int .i64 (L.getD (m - 1) ev0).t)) := fun h0 => (hbn.cell (World.block_lt_of_cell? _ _ (PREV.out h0))).trans (PREV.out h0)
    obtain ⟨q0, q1, q2, q3, q4⟩ := cells5 qn
    obtain ⟨gc0, gc1, gc2, gc3⟩ := cells4 gn
    have zq0 := fun q : Later wn => q.cell q0
    have zq1 := fun q : Later wn => q.cell q1
    have zq2 := fun q : Later wn => q.cell q2
    have zq3 := fun q : Later wn => q.cell q3
    have zq4 := fun q : Later wn => q.cell q4
    have zg0 := fun q : Later wn => q.cell gc0
    have zg1 := fun q : Later wn => q.cell gc1
    have zg2 := fun q : Later wn => q.cell gc2
    have zg3 := fun q : Later wn => q.cell gc3
    clear hbn q0 q1 q2 q3 q4 gc0 gc1 gc2 gc3 PREV HOR HAR
    by_cases hC : CmdIn g0 B g2 g3 e
    case neg =>
      have HE : Hid (v = (1, (m : Int))) := BAD.out 1 (by decide) (evF_form (fun h => hC h.1))
      have KC := Lib.hid (decide_eq_false hC)
      clear hC
      go_wp2_with fail
      refine wp_region_later (by kernel_rfl) (by kernel_rfl) ?_
      repeat (go_big_quiet_step ((go_at_call 27; exact Gives.later _ (specCommandOk_is g0 B g2 g3 e.k e.x e.y e.z _ KC.out _))))
      refine wpQuiet_nil ?_
      rintro w5 ⟨zz, rfl⟩
      have HB5 : Hid (Below w.heap.size w zz.to) := HB1.out.trans ((HBN.out.trans (zz.ok.mono HBN.out.size)).mono HB1.out.size)
      go_wp2
      (try simp only [Exit.inBlock, Exit.then])
      refine bodyPost_ret (v := .tuple #[.int .i64 (1), .int .i64 (m)]) (by simp [results, Try.results7, go_sem]) rfl ⟨by rw [HE.out], HB5.out⟩
    have KC := Lib.hid (decide_eq_true hC)
    by_cases hT : 0 ≤ e.t ∧ e.t ≤ 1000000
    case neg =>
      have HE : Hid (v = (1, (m : Int))) := BAD.out 1 (by decide) (evF_form (fun h => hT h.2.1))
      have KI := Lib.hid (decide_eq_false hT)
      clear hC hT
      go_wp2_with fail
      refine wp_region_later (by kernel_rfl) (by kernel_rfl) ?_
      repeat (go_big_quiet_step (first | (go_at_call 27; exact Gives.later _ (specCommandOk_is g0 B g2 g3 e.k e.x e.y e.z _ KC.out _)) | (go_at_call 28; exact Gives.later_same _ (specIn_is _ _ _ _ KI.out _))))
      refine wpQuiet_nil ?_
      rintro w5 ⟨zz, rfl⟩
      have HB5 : Hid (Below w.heap.size w zz.to) := HB1.out.trans ((HBN.out.trans (zz.ok.mono HBN.out.size)).mono HB1.out.size)
      go_wp2
      (try simp only [Exit.inBlock, Exit.then])
      refine bodyPost_ret (v := .tuple #[.int .i64 (1), .int .i64 (m)]) (by simp [results, Try.results7, go_sem]) rfl ⟨by rw [HE.out], HB5.out⟩
    have KI := Lib.hid (decide_eq_true hT)
    have HEI : Hid (EvIn e) := ⟨hT, hC.1.2.1⟩
    have HKK : Hid (1 ≤ e.k ∧ e.k ≤ 9) := hC.1.1
    have FORM : Hid (Past (L.take m) e → FormE g0 B g2 g3 (L.take m) e) := fun h => ⟨hC, hT, h⟩
    have HXX : Hid (0 ≤ e.x ∧ e.x < (N : Int)) := bank_in (k := e.k) (stL_length N (L.take m)) (HRK.out m HTR.out) hC.2
    clear hC hT
    by_cases hA : 0 < m ∧ ¬ ((L.getD (m - 1) ev0).t < e.t)
    case pos =>
      have t0 : decide (0 < m) = true := decide_eq_true hA.1
      have t0' : decide ((0 : Int) < (m : Int)) = true := decide_eq_true (by have := hA.1; omega)
      have wm : IntKind.i64.wrap ((m : Int) - 1) = ((m - 1 : Nat) : Int) := by have := hA.1; rw [IntWalk.i64_in _ (by omega)]; omega
      have hm1 : m - 1 < n := by have := hA.1; omega
      have zp := fun q : Later wn => q.cell (PREVN.out hA.1)
      have HPE := Lib.hid (HPA.out e hA.1)
      obtain ⟨pt, hpt⟩ : ∃ pt, (L.getD (m - 1) ev0).t = pt := ⟨_, rfl⟩
      simp only [hpt] at zp
      rw [hpt] at HPE
      have hpast : ¬ (pt < e.t) := by rw [← hpt]; exact hA.2
      have HPN : Hid (¬ Past (L.take m) e) := fun h => hpast (HPE.out.1 h)
      clear hpt hA
      have HE : Hid (v = (1, (m : Int))) := BAD.out 1 (by decide) (evF_form (fun h => HPN.out h.2.2))
      have tp : decide (e.t ≤ pt) = true := decide_eq_true (by omega)
      clear hpast
      go_wp2_with fail
      refine wp_region_later (by kernel_rfl) (by kernel_rfl) ?_
      repeat (go_big_quiet_step (first | (go_at_call 27; exact Gives.later _ (specCommandOk_is g0 B g2 g3 e.k e.x e.y e.z _ KC.out _)) | (go_at_call 28; exact Gives.later_same _ (specIn_is _ _ _ _ KI.out _))))
      refine wpQuiet_nil ?_
      rintro w5 ⟨zz, rfl⟩
      have HB5 : Hid (Below w.heap.size w zz.to) := HB1.out.trans ((HBN.out.trans (zz.ok.mono HBN.out.size)).mono HB1.out.size)
      go_wp2
      (try simp only [Exit.inBlock, Exit.then])
      refine bodyPost_ret (v := .tuple #[.int .i64 (1), .int .i64 (m)]) (by simp [results, Try.results7, go_sem]) rfl ⟨by rw [HE.out], HB5.out⟩
    by_cases h0 : 0 < m
    case' pos =>
      have t0 : decide (0 < m) = true := decide_eq_true h0
      have t0' : decide ((0 : Int) < (m : Int)) = true := decide_eq_true (by omega)
      have wm : IntKind.i64.wrap ((m : Int) - 1) = ((m - 1 : Nat) : Int) := by rw [IntWalk.i64_in _ (by omega)]; omega
      have hm1 : m - 1 < n := by omega
      have zp := fun q : Later wn => q.cell (PREVN.out h0)
      have HPE := Lib.hid (HPA.out e h0)
      obtain ⟨pt, hpt⟩ : ∃ pt, (L.getD (m - 1) ev0).t = pt := ⟨_, rfl⟩
      simp only [hpt] at zp
      rw [hpt] at HPE
      have hpast : pt < e.t := by rw [← hpt]; exact Decidable.byContradiction (fun h => hA ⟨h0, h⟩)
      clear hpt
      have FE : Hid (FormE g0 B g2 g3 (L.take m) e) := FORM.out (HPE.out.2 hpast)
      have tp : decide (e.t ≤ pt) = false := decide_eq_false (by omega)
      clear hpast HPE
      go_wp2_with fail
      refine wp_region_later (by kernel_rfl) (by kernel_rfl) ?_
      repeat (go_big_quiet_step (first | (go_at_call 27; exact Gives.later _ (specCommandOk_is g0 B g2 g3 e.k e.x e.y e.z _ KC.out _)) | (go_at_call 28; exact Gives.later_same _ (specIn_is _ _ _ _ KI.out _))))
      refine wpQuiet_nil ?_
      rintro w5 ⟨zz, hzz⟩
      have hb5 : Below wn.heap.size wn w5 := hzz ▸ zz.ok
      clear hzz zz zp t0 t0' wm hm1 tp
    case' neg =>
      have FE : Hid (FormE g0 B g2 g3 (L.take m) e) := FORM.out (by obtain rfl : m = 0 := by omega
                                                                    exact past_zero)
      have t0 : decide (0 < m) = false := decide_eq_false h0
      have t0' : decide ((0 : Int) < (m : Int)) = false := decide_eq_false (by omega)
      go_wp2_with fail
      refine wp_region_later (by kernel_rfl) (by kernel_rfl) ?_
      repeat (go_big_quiet_step (first | (go_at_call 27; exact Gives.later _ (specCommandOk_is g0 B g2 g3 e.k e.x e.y e.z _ KC.out _)) | (go_at_call 28; exact Gives.later_same _ (specIn_is _ _ _ _ KI.out _))))
      refine wpQuiet_nil ?_
      rintro w5 ⟨zz, hzz⟩
      have hb5 : Below wn.heap.size wn w5 := hzz ▸ zz.ok
      clear hzz zz t0 t0'
    all_goals
      clear hA h0 zq0 zq1 zq2 zq3 zq4 zg0 zg1 zg2 zg3 a0 a1 a2 a3 a4 PREVN HPA FORM KC KI
      have g5 := keep_block hb5 gn (lt_of_block gn)
      have p5 := keep_block hb5 pn (lt_of_block pn)
      have r5 := keep_block hb5 rn (lt_of_block rn)
      have q5 := keep_block hb5 qn (lt_of_block qn)
      have own5 := HON.out.below hb5
      have act5 := HAN.out.below hb5
      have HB5 : Hid (Below w1.heap.size w1 w5) := HBN.out.trans (hb5.mono HBN.out.size)
      have HSZ5 : Hid (wr.heap.size < w5.heap.size) := by have := hb5.size; have := HSN.out; show _ < _; omega
      clear hb5 gn pn rn qn HON HAN hwn
      obtain ⟨d0, d1⟩ := cells2 r5
      obtain ⟨q0, q1, q2, q3, q4⟩ := cells5 q5
      obtain ⟨mv, hmv⟩ : ∃ mv, mayR (stL N (L.take m)) (stP (L.take m)) e.k e.x = mv := ⟨_, rfl⟩
      have HMV := Lib.hid hmv
      have HRB := Lib.hid own5.row
      clear hmv
      go_wp2_with fail
      refine (specMay_is aa N cc (stL N (L.take m)) (stP (L.take m)) e.k e.x e.y e.z mv HMV.out HKK.out (fun _ => HXX.out) (stL_length _ _) (by omega) _ HRB.out).mono ?_
      rintro e' w6 ⟨rfl, hb6⟩
      have g6 := keep_block hb6 g5 (lt_of_block g5)
      have p6 := keep_block hb6 p5 (lt_of_block p5)
      have r6 := keep_block hb6 r5 (lt_of_block r5)
      have q6 := keep_block hb6 q5 (lt_of_block q5)
      have own6 := own5.below hb6
      have act6 := act5.below hb6
      have HB6 : Hid (Below w1.heap.size w1 w6) := HB5.out.trans (hb6.mono HB5.out.size)
      have HB6' : Hid (Below w.heap.size w w6) := HB1.out.trans (HB6.out.mono HB1.out.size)
      have HSZ6 : Hid (wr.heap.size < w6.heap.size) := Nat.lt_of_lt_of_le HSZ5.out hb6.size
      clear hb6 g5 p5 r5 q5 own5 act5 HB5 HSZ5 HRB d0 d1 q0 q1 q2 q3 q4
      cases mv
      case false =>
        have HE : Hid (v = (2, (m : Int))) := BAD.out 2 (by decide) (evF_may FE.out HMV.out)
        go_wp2
        (try simp only [Exit.inBlock, Exit.then])
        refine bodyPost_ret (v := .tuple #[.int .i64 (2), .int .i64 (m)]) (by simp [results, Try.results7, go_sem]) rfl ⟨by rw [HE.out], HB6'.out⟩
      case true =>
        have HNE : Hid (∀ x, aa = some x → x.block ≠ w2.heap.size) := fun x hx => by have := HAA.out x hx; omega
        have HDO := Lib.hid (specDoX_is (B := w1.heap.size) (P := w2.heap.size) (y := e.y) (z := e.z) HKK.out (fun _ => HXX.out) (stL_length N (L.take m)) (by omega) r6 own6 HNE.out HS2.out)
        obtain ⟨q0, q1, q2, q3, q4⟩ := cells5 q6
        go_wp2_with fail
        refine HDO.out.mono ?_
        rintro e' w7 ⟨rfl, r7, own7, hb7, hf7⟩
        have g7 := keep_block hb7 g6 (by have := HS1.out; omega)
        have p7 := keep_block hb7 p6 (by have := HS1.out; omega)
        have q7 := (hf7 wr.heap.size HSZ6.out (by have := HSR.out; have := HS3.out; omega) (fun x hx => by have := HAA.out x hx; have := HSR.out; have := HS3.out; omega)).trans q6
        have act7 : OwnI w3.heap.size (.slice ua al uc) (actsT (L.take m)) w7 := ownI_frame act6 (fun i h1 h2 => hf7 i h2 (by have := HS3.out; omega) (fun x hx => by have := HAA.out x hx; have := HS3.out; omega))
        have HB7 : Hid (Below w1.heap.size w1 w7) := HB6.out.trans hb7
        have HSZ7 : Hid (wr.heap.size < w7.heap.size) := lt_of_block q7
        have HRT : Hid (evK.Row w7 (some ⟨b, off, none⟩) (L.take m)) := (HR.out.below HB7.out).take m
        clear hb7 hf7 g6 p6 r6 q6 own6 act6 HB6 HB6' HSZ6 HDO q0 q1 q2 q3 q4
        obtain ⟨gc0, gc1, gc2, gc3⟩ := cells4 g7
        obtain ⟨q0, q1, q2, q3, q4⟩ := cells5 q7
        have zq0 := fun q : Later w7 => q.cell q0
        have zq1 := fun q : Later w7 => q.cell q1
        have zq2 := fun q : Later w7 => q.cell q2
        have zq3 := fun q : Later w7 => q.cell q3
        have zq4 := fun q : Later w7 => q.cell q4
        have zg0 := fun q : Later w7 => q.cell gc0
        have zg1 := fun q : Later w7 => q.cell gc1
        have zg2 := fun q : Later w7 => q.cell gc2
        have zg3 := fun q : Later w7 => q.cell gc3
        obtain ⟨cv, hcv⟩ : ∃ cv, closeE B t (L.take m) e = cv := ⟨_, rfl⟩
        have HCV := Lib.hid hcv
        have HIN : Hid (∀ i, i < m → EvIn ((L.take m).getD i ev0)) := fun i hi => HTR.out.isIn (by rw [List.length_take]; omega)
        have HTL : Hid ((L.take m).length = m) := by show _ = _; rw [List.length_take]; omega
        have hmc : m ≤ c := by omega
        clear hcv q0 q1 q2 q3 q4 gc0 gc1 gc2 gc3
        go_wp2_with fail
        refine wp_region_later (by kernel_rfl) (by kernel_rfl) ?_
        repeat (first | ((with_reducible refine ld_later ?_ ?_ p7 ?_); kernel_rfl; kernel_rfl; go_simp) | go_big_quiet_step ((go_at_call 31; exact Gives.later _ (specClose_is t g0 B g2 g3 _ m _ (L.take m) e HBB.out HIN.out HEI.out cv HCV.out HTL.out (by omega) _ (HRT.out.below (Later.ok _))))))
        refine wpQuiet_nil ?_
        intro zz
        have g8 := zz.block g7
        have p8 := zz.block p7
        have r8 := zz.block r7
        have q8 := zz.block q7
        have own8 := own7.below zz.ok
        have act8 := act7.below zz.ok
        have HB8 : Hid (Below w1.heap.size w1 zz.to) := HB7.out.trans (zz.ok.mono HB7.out.size)
        have HB8' : Hid (Below w.heap.size w zz.to) := HB1.out.trans (HB8.out.mono HB1.out.size)
        have HSZ8 : Hid (w3.heap.size ≤ zz.to.heap.size) := Nat.le_trans HSR.out (Nat.le_trans (Nat.le_of_lt HSZ7.out) zz.ok.size)
        clear zq0 zq1 zq2 zq3 zq4 zg0 zg1 zg2 zg3 g7 p7 r7 q7 own7 act7 HB7 HRT HIN HTL HSZ7
        generalize zz.to = w8 at g8 p8 r8 q8 own8 act8 HB8 HB8' HSZ8 ⊢
        clear zz
        cases cv
        case true =>
          have HE : Hid (v = (3, (m : Int))) := BAD.out 3 (by decide) (evF_gap FE.out HMV.out HCV.out)
          go_wp2
          (try simp only [Exit.inBlock, Exit.then])
          refine bodyPost_ret (v := .tuple #[.int .i64 (3), .int .i64 (m)]) (by simp [results, Try.results7, go_sem]) rfl ⟨by rw [HE.out], HB8'.out⟩
        case false =>
          obtain ⟨q0, q1, q2, q3, q4⟩ := cells5 q8
          by_cases hk1 : e.k = 1
          case neg =>
            have tk : (e.k == 1) = false := by simp [hk1]
            have HZ := Lib.hid (GOOD.out (evF_zero.2 ⟨FE.out, HMV.out, HCV.out, fun h => hk1 h.1⟩))
            have RA : Hid (actsT (L.take (m + 1)) = actsT (L.take m)) := by show _ = _; rw [HT.out, actsT_snoc, if_neg hk1]
            clear hk1
            go_wp2_with fail
            go_roundw
            case rel => exact ⟨m + 1, by omega, by go_num, HZ.out, g8, p8, by rw [HT.out, stP_snoc]; exact r8, by rw [HT.out, stL_snoc]; exact own8, by rw [RA.out]; exact act8, HB8.out, HSZ8.out⟩
            case measure => simp [intOf]; omega
          case pos =>
            have tk : (e.k == 1) = true := by simp [hk1]
            have hll : (actsT (L.take m)).length ≤ n := by rw [HAL.out]; have := HAM.out; omega
            have hal4 : al ≤ n := by have := HAM.out; omega
            obtain ⟨A, hA⟩ : ∃ A, (actsT (L.take m)).getD (al - 4) 0 = A := ⟨_, rfl⟩
            have HA := Lib.hid hA
            have zq0 := fun q : Later w8 => q.cell q0
            obtain ⟨_, _, _, _, _, fw, _⟩ := tm_cells p8
            have zf := fun q : Later w8 => q.cell fw
            by_cases hbad : 4 ≤ al ∧ e.t - A < t.faw
            case pos =>
              have HE : Hid (v = (4, (m : Int))) := BAD.out 4 (by decide) (evF_faw FE.out HMV.out HCV.out ⟨hk1, by rw [HAL.out]; exact hbad.1, by rw [HAL.out, HA.out]; exact hbad.2⟩)
              have t4 : decide (4 ≤ al) = true := decide_eq_true hbad.1
              have t4' : decide ((4 : Int) ≤ (al : Int)) = true := decide_eq_true (by omega)
              have tq : decide (e.t - A < t.faw) = true := decide_eq_true hbad.2
              have hl4 : al - 4 < al := by omega
              have wl : IntKind.i64.wrap ((al : Int) - 4) = ((al - 4 : Nat) : Int) := by rw [IntWalk.i64_in _ (by omega)]; omega
              have hAr := HTR.out.acts (j := al - 4) (by rw [HAL.out]; omega)
              rw [hA] at hAr
              have wA : IntKind.i64.wrap (e.t - A) = e.t - A := IntWalk.i64_in _ (by have := HEI.out.1; omega)
              obtain ⟨ga, rfl, hca, _⟩ := act8.at (k := al - 4) (by rw [HAL.out]; omega)
              have hcA : w8.cell? ⟨ga, al - 4, none⟩ = some (.int .i64 A) := by
                rw [hca, ← hA, List.getD_eq_getElem?_getD, List.getElem?_eq_getElem (by rw [HAL.out]; omega)]
                rfl
              have za := fun q : Later w8 => q.cell hcA
              clear hbad hca hcA hAr hA q0 q1 q2 q3 q4
              obtain ⟨q0, q1, q2, q3, q4⟩ := cells5 q8
              go_wp2_with fail
              refine wp_region_later (by kernel_rfl) (by kernel_rfl) ?_
              repeat (go_big_quiet_step (fail))
              refine wpQuiet_nil ?_
              rintro w9 ⟨zz, hzz⟩
              have hb9 : Below w8.heap.size w8 w9 := hzz ▸ zz.ok
              have HB9 : Hid (Below w.heap.size w w9) := HB8'.out.trans (hb9.mono HB8'.out.size)
              go_wp2
              (try simp only [Exit.inBlock, Exit.then])
              refine bodyPost_ret (v := .tuple #[.int .i64 (4), .int .i64 (m)]) (by simp [results, Try.results7, go_sem]) rfl ⟨by rw [HE.out], HB9.out⟩
            have HZ := Lib.hid (GOOD.out (evF_zero.2 ⟨FE.out, HMV.out, HCV.out, fun h => hbad ⟨by rw [← HAL.out]; exact h.2.1, by have := h.2.2; rw [HAL.out, HA.out] at this; exact this⟩⟩))
            have RA : Hid (actsT (L.take (m + 1)) = actsT (L.take m) ++ [e.t]) := by show _ = _; rw [HT.out, actsT_snoc, if_pos hk1]
            by_cases h4 : 4 ≤ al
            case' pos =>
              have t4 : decide (4 ≤ al) = true := decide_eq_true h4
              have t4' : decide ((4 : Int) ≤ (al : Int)) = true := decide_eq_true (by omega)
              have tq : decide (e.t - A < t.faw) = false := decide_eq_false (fun h => hbad ⟨h4, h⟩)
              have hl4 : al - 4 < al := by omega
              have wl : IntKind.i64.wrap ((al : Int) - 4) = ((al - 4 : Nat) : Int) := by rw [IntWalk.i64_in _ (by omega)]; omega
              have hAr := HTR.out.acts (j := al - 4) (by rw [HAL.out]; omega)
              rw [hA] at hAr
              have wA : IntKind.i64.wrap (e.t - A) = e.t - A := IntWalk.i64_in _ (by have := HEI.out.1; omega)
              obtain ⟨ga, rfl, hca, _⟩ := act8.at (k := al - 4) (by rw [HAL.out]; omega)
              have hcA : w8.cell? ⟨ga, al - 4, none⟩ = some (.int .i64 A) := by
                rw [hca, ← hA, List.getD_eq_getElem?_getD, List.getElem?_eq_getElem (by rw [HAL.out]; omega)]
                rfl
              have za := fun q : Later w8 => q.cell hcA
              clear hca hcA hAr hA
              go_wp2_with fail
              refine wp_region_later (by kernel_rfl) (by kernel_rfl) ?_
              repeat (go_big_quiet_step (fail))
              refine wpQuiet_nil ?_
              rintro w9 ⟨zz, hzz⟩
              have hb9 : Below w8.heap.size w8 w9 := hzz ▸ zz.ok
              clear za tq wl wA hl4 t4 t4' hzz zz
            case' neg =>
              have t4 : decide (4 ≤ al) = false := decide_eq_false h4
              have t4' : decide ((4 : Int) ≤ (al : Int)) = false := decide_eq_false (by omega)
              clear hA
              go_wp2_with fail
              refine wp_region_later (by kernel_rfl) (by kernel_rfl) ?_
              repeat (go_big_quiet_step (fail))
              refine wpQuiet_nil ?_
              rintro w9 ⟨zz, hzz⟩
              have hb9 : Below w8.heap.size w8 w9 := hzz ▸ zz.ok
              clear t4 t4' hzz zz
            all_goals
              have g9 := keep_block hb9 g8 (lt_of_block g8)
              have p9 := keep_block hb9 p8 (lt_of_block p8)
              have r9 := keep_block hb9 r8 (lt_of_block r8)
              have q9 := keep_block hb9 q8 (lt_of_block q8)
              have own9 := own8.below hb9
              have act9 := act8.below hb9
              have HB9 : Hid (Below w1.heap.size w1 w9) := HB8.out.trans (hb9.mono HB8.out.size)
              have hs9 : w3.heap.size ≤ w9.heap.size := Nat.le_trans HSZ8.out hb9.size
              clear zq0 zf hbad h4 hk1 hb9 g8 p8 r8 q8 own8 act8 HB8 HB8' HSZ8 fw q0 q1 q2 q3 q4 HA
              obtain ⟨q0, q1, q2, q3, q4⟩ := cells5 q9
              go_wp2_with (at_builtin; refine wpList_append_own _ rfl _ _ 47 rfl w3.heap.size 3 i0 (.int .i64 0) 1 8 Try.underlying47 hi hz0 hz1 hz2 rfl (by decide) _ _ _ rfl (World.ownsRow.alloc act9 _) ⟨w9.heap.size, 0, none⟩ 1 1 [.int .i64 e.t] rfl rfl (cell_one_new _ _ _) (by intro u hu; simp at hu; subst hu; rfl) (by unfold maxLen; omega) (by omega) (by rw [World.size_alloc]; omega) ?_)
              intro v' w10 hown10 hgrow _
              have R : Hid (OwnI w3.heap.size v' (actsT (L.take (m + 1))) w10) := by
                have := ownI_more hown10
                rw [← RA.out] at this
                exact this
              have hrow : ∀ j, Value.ownBlock _ = some j → w3.heap.size ≤ j := fun j hj => (World.ownsRow.lt act9 j hj).1
              have hb10 : Below w3.heap.size w9 w10 := ((Below.refl w3.heap.size w9).alloc hs9 _).grown hgrow (by rw [World.size_alloc]; omega) hrow
              have g10 := keep_block hb10 g9 (by have := HS1.out; have := HS2.out; have := HS3.out; omega)
              have p10 := keep_block hb10 p9 (by have := HS1.out; have := HS2.out; have := HS3.out; omega)
              have r10 := keep_block hb10 r9 (by have := HS3.out; omega)
              have own10 := Lib.hid (ownK_frame own9 (fun x hx => hb10.block x.block (by have := HAA.out x hx; have := HS3.out; omega)))
              have HB10 : Hid (Below w1.heap.size w1 w10) := HB9.out.trans (hb10.mono (by have := HS2.out; have := HS3.out; omega))
              have HS10 : Hid (w3.heap.size ≤ w10.heap.size) := Nat.le_trans hs9 hb10.size
              clear hb10 hown10 hgrow act9 hrow own9 g9 p9 r9 q9 HB9
              go_wp2_with fail
              go_roundw
              case rel => exact ⟨m + 1, by omega, by go_num, HZ.out, g10, p10, by rw [HT.out, stP_snoc]; exact r10, by rw [HT.out, stL_snoc]; exact own10.out, R.out, HB10.out, HS10.out⟩
              case measure => simp [intOf]; omega

end Go.Proofs.Ytihhcnckoeaihaa
