/-
  Texts of one proof, merged: ArrI, ArrJ, ArrL, ArrN, ArrS, ArrU, ArrV, ArrX1, ArrYA, ArrYB, CodQ, ArrYC, ArrYP, ArrYQ, ArrYR, ArrYV, ArrYJ, CopyR.
-/
import Derived.Test.YtfpfgaifhmgpiaaDoorQM145
import Derived.Test.YtfpfgaifhmgpiaaDoorQM149
import Derived.Test.YtfpfgaifhmgpiaaDoorQM1411
import Derived.Test.YtfpfgaifhmgpiaaDoorQM1415
import Derived.Test.YtfpfgaifhmgpiaaDoorQM1417
import Derived.Laws.AppendOwnNone
import Derived.Laws.CopyOwn
namespace Go.Proofs.YtfpfgaifhmgpiaaDoor
open Go.RowKit Go.PlainAid

set_option linter.unusedVariables false

/-- Four variables made, one after another. -/
theorem alloc4 {w u : World} {A B C D : Obj} (h : (((w.alloc A).alloc B).alloc C).alloc D = u) :
    u.heap[w.heap.size]? = some A ∧ u.heap[w.heap.size + 1]? = some B ∧ u.heap[w.heap.size + 1 + 1]? = some C ∧ u.heap[w.heap.size + 1 + 1 + 1]? = some D ∧ Below w.heap.size w u := by
  subst h
  obtain ⟨h1, h2, h3, h4⟩ := alloc3 (w := w) (A := A) (B := B) (C := C) rfl
  have s1 := size_alloc w A
  have s2 := size_alloc (w.alloc A) B
  have s3 := size_alloc ((w.alloc A).alloc B) C
  have e : (((w.alloc A).alloc B).alloc C).heap.size = w.heap.size + 1 + 1 + 1 := by omega
  refine ⟨(heap_alloc_old _ _ (by omega)).trans h1, (heap_alloc_old _ _ (by omega)).trans h2, (heap_alloc_old _ _ (by omega)).trans h3, ?_, h4.alloc (by omega) _⟩
  rw [← e]
  exact heap_alloc_new _ _

theorem xr_el {v : Int} {m : Nat} (h : El v) (hm : m < 16) : El (xr v m) := by
  obtain ⟨h0, h1⟩ := h
  have : v.toNat ^^^ m < 16 := Nat.xor_lt_two_pow (n := 4) (by omega) (by omega)
  exact ⟨by unfold xr; omega, by unfold xr; omega⟩

theorem els_getD {l : List Int} (h : Els l) (k : Nat) : El (l.getD k 0) := by
  by_cases hk : k < l.length
  · rw [List.getD_eq_getElem?_getD, List.getElem?_eq_getElem hk]
    exact h _ (List.getElem_mem _)
  · rw [List.getD_eq_getElem?_getD, List.getElem?_eq_none (by omega)]
    exact ⟨by decide, by decide⟩

theorem els_setI {l : List Int} (h : Els l) (k : Nat) {u : Int} (hu : El u) : Els (l.set k u) := by
  intro v hv
  rcases List.mem_or_eq_of_mem_set hv with h1 | rfl
  · exact h v h1
  · exact hu

theorem spoil_ok {s : List Int} {n : Int} (h : SymOk s n) : SymOk (spoil s) n := by
  refine ⟨els_setI (els_setI h.1 _ (xr_el (els_getD h.1 _) (by decide))) _ (xr_el (els_getD h.1 _) (by decide)), ?_⟩
  unfold spoil
  rw [List.length_set, List.length_set]
  exact h.2

theorem spoilN_ok {X : List (List Int × Bool)} {b k : Nat} (h : ∀ c ∈ X, SymOk c.1 11) (hk : b + k ≤ X.length) : ∀ c ∈ spoilN X b k, SymOk c.1 11 := by
  induction k with
  | zero => exact h
  | succ k ih =>
    have ih := ih (by omega)
    intro c hc
    rw [spoilN] at hc
    rcases List.mem_or_eq_of_mem_set hc with h1 | rfl
    · exact ih c h1
    · refine spoil_ok (ih _ ?_)
      rw [List.getD_eq_getElem?_getD, List.getElem?_eq_getElem (by rw [spoilN_length]; omega)]
      exact List.getElem_mem _

theorem hits_ok {gr : Int} {z : List Int} {i : Nat} {rw : Int} (h : ∀ v ∈ z, AgeOk v) : ∀ v ∈ hitsF gr z i rw, AgeOk v := by
  have h0 : ∀ v ∈ z.set i 0, AgeOk v := age_set h i ⟨by decide, by decide⟩
  unfold hitsF
  have h1 : ∀ v ∈ (if 0 < rw then hitF (z.set i 0) (i - 1) else z.set i 0), AgeOk v := by
    split
    · exact age_hit h0 _
    · exact h0
  show ∀ v ∈ (if rw < gr - 1 then hitF (if 0 < rw then hitF (z.set i 0) (i - 1) else z.set i 0) (i + 1) else (if 0 < rw then hitF (z.set i 0) (i - 1) else z.set i 0)), AgeOk v
  split
  · exact age_hit h1 _
  · exact h1

theorem hits_length (gr : Int) (z : List Int) (i : Nat) (rw : Int) : (hitsF gr z i rw).length = z.length := by
  unfold hitsF hitF
  simp only []
  split <;> split <;> simp only [List.length_set]

/-- A row sensed: the array stays valid. -/
theorem sense_ok {ga gb gr gd la lh rw : Int} {x : Arr} {i : Nat} (h : ArrOk ga gb gr gd x) (hb : i * gd.toNat + gd.toNat ≤ x.1.length) : ArrOk ga gb gr gd (senseF gr gd la lh x i rw) := by
  obtain ⟨h0, h1, h2, h3, h4, h5, h6⟩ := h
  refine ⟨h0, ?_, ?_, ?_, ?_, age_set h5 i ⟨by decide, by decide⟩, hits_ok h6⟩
  · show (((if goneF la lh x i then _ else _ : List (List Int × Bool)).length : Nat) : Int) = _
    split
    · rw [spoilN_length]; exact h1
    · exact h1
  · show ((x.2.1.set i 0).length : Int) = _
    rw [List.length_set]; exact h2
  · show (hitsF gr x.2.2 i rw).length = (x.2.1.set i 0).length
    rw [hits_length, List.length_set]; exact h3
  · show ∀ c ∈ (if goneF la lh x i then _ else _ : List (List Int × Bool)), _
    split
    · exact spoilN_ok h4 hb
    · exact h4

/-- All rows of a bank sensed, one after another. -/
def bankF (gr gd la lh : Int) (x : Arr) (b : Nat) : Nat → Arr
  | 0 => x
  | k + 1 => senseF gr gd la lh (bankF gr gd la lh x b k) (b + k) k

theorem bank_ok {ga gb gr gd la lh : Int} {x : Arr} {b k : Nat} (h : ArrOk ga gb gr gd x) (hb : (b + k) * gd.toNat ≤ x.1.length) : ArrOk ga gb gr gd (bankF gr gd la lh x b k) := by
  induction k with
  | zero => exact h
  | succ k ih =>
    have e : (b + (k + 1)) * gd.toNat = (b + k) * gd.toNat + gd.toNat := by rw [← Nat.add_assoc, Nat.add_mul (b + k) 1, Nat.one_mul]
    have ih := ih (by omega)
    refine sense_ok ih ?_
    have h1 : ((bankF gr gd la lh x b k).1.length : Int) = x.1.length := ih.2.1.trans h.2.1.symm
    omega

def sensedF (ga gb gr gd la lh : Int) (x : Arr) (bk rw : Int) : Arr := if ArrOk ga gb gr gd x ∧ AdOk ga gb gr gd bk rw 0 then senseF gr gd la lh x (bk * gr + rw).toNat rw else x

def sensedB (ga gb gr gd la lh : Int) (x : Arr) (bk : Int) : Arr := if ArrOk ga gb gr gd x ∧ AdOk ga gb gr gd bk 0 0 then bankF gr gd la lh x (bk * gr).toNat gr.toNat else x

set_option maxHeartbeats 8000000 in
set_option maxRecDepth 100000 in
theorem specSenseRow_is (ga gb gr gd la lh bk rw : Int) {cs : List Value} {x : Arr} {w : World} (h : arrK.rd w cs x) (hf : ArrFit x) :
    Calls Tryd.prog 28 #[.agg #[.int .i64 ga, .int .i64 gb, .int .i64 gr, .int .i64 gd], .agg #[.int .i64 la, .int .i64 lh], .agg cs.toArray, .int .i64 bk, .int .i64 rw] w (GivesS arrK (sensedF ga gb gr gd la lh x bk rw) w) := by
  obtain ⟨a0, n0, c0, a1, n1, c1, a2, n2, c2, rfl, h0, h1, h2⟩ := arr_rd h
  obtain ⟨w1, hw1⟩ : ∃ u, (((w.alloc (.cells #[.int .i64 ga, .int .i64 gb, .int .i64 gr, .int .i64 gd] 25)).alloc (.cells #[.int .i64 la, .int .i64 lh] 27)).alloc (.cells #[.slice a0 n0 c0, .slice a1 n1 c1, .slice a2 n2 c2] 31)).alloc (.cells #[.slice none 0 0, .slice none 0 0, .slice none 0 0] 31) = u := ⟨_, rfl⟩
  obtain ⟨g1, l1, p1, r1, hb1⟩ := alloc4 hw1
  have HB1 := Lib.hid hb1
  have HF := Lib.hid hf
  have H := Lib.hid h
  have H1 := Lib.hid (arrK.below h HB1.out)
  clear h hf h0 h1 h2
  obtain ⟨x0, x1, x2, x3⟩ := cells4 g1
  obtain ⟨y0, y1, y2⟩ := cells3 p1
  go_enter Tryd.func28, Tryd.ntmps28
  go_wp2_with fail
  refine (specCopyA_is H1.out HF.out.1 HF.out.2.1 HF.out.2.2.1 HF.out.2.2.2).mono ?_
  rintro e w2 ⟨cs2, S2, rfl, own2, hS2, hb2⟩
  obtain ⟨d0, m0, k0, d1, m1, k1, d2, m2, k2, S0, S1', S2', rfl, rfl, _⟩ := arr_own own2
  obtain ⟨w3, hw3⟩ : ∃ u, w2.alloc (.cells #[.slice d0 m0 k0, .slice d1 m1 k1, .slice d2 m2 k2] 31) = u := ⟨_, rfl⟩
  have hb3 : Below w2.heap.size w2 w3 := by subst hw3; exact (Below.refl _ _).alloc (Nat.le_refl _) _
  have q3 : w3.heap[w2.heap.size]? = some (.cells #[.slice d0 m0 k0, .slice d1 m1 k1, .slice d2 m2 k2] 31) := by subst hw3; exact heap_alloc_new _ _
  have HO3 := Lib.hid (arrK.ownBelow own2 hb3)
  have HB2 : Hid (Below w.heap.size w w2) := HB1.out.trans (hb2.mono HB1.out.size)
  have HB3 : Hid (Below w.heap.size w w3) := HB2.out.trans (hb3.mono HB2.out.size)
  have H3 := Lib.hid (arrK.below (arrK.below H1.out hb2) hb3)
  have hlt : ∀ b ∈ S0 ++ (S1' ++ S2'), b < w2.heap.size := fun b hb => arrK.lt own2 b hb
  have hge : ∀ b ∈ S0 ++ (S1' ++ S2'), w1.heap.size ≤ b := fun b hb => hS2 b hb
  generalize hU2 : S0 ++ (S1' ++ S2') = T2 at own2 hS2 HO3 hlt hge
  have HS2 : Hid (∀ b ∈ T2, w1.heap.size ≤ b) := hge
  have HNP : Hid (w2.heap.size ∉ T2) := fun hb => by have := hlt _ hb; omega
  have HNR : Hid (∀ b ∈ T2, b ≠ w.heap.size + 1 + 1 + 1) := fun b hb e => by have := hge b hb; have := lt_of_block r1; omega
  have HRR : Hid (w.heap.size ≤ w.heap.size + 1 + 1 + 1) := by show _ ≤ _; omega
  have HPR : Hid (w.heap.size + 1 + 1 + 1 ≠ w2.heap.size) := fun e => by have := lt_of_block r1; have := hb2.size; omega
  have HPW : Hid (w.heap.size ≤ w2.heap.size) := HB2.out.size
  have g3 := keep_block hb3 (keep_block hb2 g1 (lt_of_block g1)) (Nat.lt_of_lt_of_le (lt_of_block g1) hb2.size)
  have l3 := keep_block hb3 (keep_block hb2 l1 (lt_of_block l1)) (Nat.lt_of_lt_of_le (lt_of_block l1) hb2.size)
  have p3 := keep_block hb3 (keep_block hb2 p1 (lt_of_block p1)) (Nat.lt_of_lt_of_le (lt_of_block p1) hb2.size)
  have r3 := keep_block hb3 (keep_block hb2 r1 (lt_of_block r1)) (Nat.lt_of_lt_of_le (lt_of_block r1) hb2.size)
  clear own2 hS2 hb2 hb3 g1 l1 p1 r1 x0 x1 x2 x3 y0 y1 y2 hlt hge hU2
  obtain ⟨x0, x1, x2, x3⟩ := cells4 g3
  obtain ⟨y0, y1, y2⟩ := cells3 p3
  obtain ⟨z0, z1, z2⟩ := cells3 q3
  go_wp2_with fail
  by_cases ha : ArrOk ga gb gr gd x
  case neg =>
    have KA := Lib.hid (decide_eq_false ha)
    have HE : Hid (sensedF ga gb gr gd la lh x bk rw = x) := if_neg (fun h => ha h.1)
    clear ha
    refine (specArrayOk_is ga gb gr gd H3.out false KA.out).mono ?_
    rintro e w4 ⟨rfl, hb4⟩
    have HBQ : Hid (Below w.heap.size w w4) := HB3.out.trans (hb4.mono HB3.out.size)
    have qq := keep_block hb4 q3 (lt_of_block q3)
    have rr := keep_block hb4 r3 (lt_of_block r3)
    have gg := keep_block hb4 g3 (lt_of_block g3)
    have ll := keep_block hb4 l3 (lt_of_block l3)
    have HO4 := Lib.hid (arrK.ownBelow HO3.out hb4)
    clear hb4 g3 l3 p3 q3 r3 x0 x1 x2 x3 y0 y1 y2 z0 z1 z2
    obtain ⟨x0, x1, x2, x3⟩ := cells4 gg
    obtain ⟨v0, v1, v2⟩ := cells3 rr
    have f0 := thawed rr 0
    have f1 := thawed rr 1
    have f2 := thawed rr 2
    obtain ⟨u0, u1, u2⟩ := cells3 qq
    have o5 := set_cells (set_cells (set_cells rr 0 (.slice d0 m0 k0)) 1 (.slice d1 m1 k1)) 2 (.slice d2 m2 k2)
    obtain ⟨t0, t1, t2⟩ := cells3 o5
    go_wp2_with fail
    (try simp only [Exit.inBlock, Exit.then])
    refine bodyPost_ret (v := .agg #[.slice d0 m0 k0, .slice d1 m1 k1, .slice d2 m2 k2]) ?_ rfl ⟨_, T2, rfl, ?_, fun b hb => ?_, ?_⟩
    · simp [results, Tryd.results28, go_sem, t0, t1, t2]
    · rw [HE.out]
      exact arrK.ownSet (arrK.ownSet (arrK.ownSet HO4.out (fun b hb => HNR.out b hb) _) (fun b hb => HNR.out b hb) _) (fun b hb => HNR.out b hb) _
    · have := HS2.out b hb; have := HB1.out.size; omega
    · exact ((HBQ.out.setCell HRR.out _).setCell HRR.out _).setCell HRR.out _
  have KA := Lib.hid (decide_eq_true ha)
  by_cases hn : AdOk ga gb gr gd bk rw 0
  case neg =>
    have KN := Lib.hid (decide_eq_false hn)
    have HE : Hid (sensedF ga gb gr gd la lh x bk rw = x) := if_neg (fun h => hn h.2)
    clear ha hn
    refine (specArrayOk_is ga gb gr gd H3.out true KA.out).mono ?_
    rintro e w4 ⟨rfl, hb4⟩
    have HBQ : Hid (Below w.heap.size w w4) := HB3.out.trans (hb4.mono HB3.out.size)
    have qq := keep_block hb4 q3 (lt_of_block q3)
    have rr := keep_block hb4 r3 (lt_of_block r3)
    have gg := keep_block hb4 g3 (lt_of_block g3)
    have ll := keep_block hb4 l3 (lt_of_block l3)
    have HO4 := Lib.hid (arrK.ownBelow HO3.out hb4)
    clear hb4 g3 l3 p3 q3 r3 x0 x1 x2 x3 y0 y1 y2 z0 z1 z2
    obtain ⟨x0, x1, x2, x3⟩ := cells4 gg
    go_wp2_with fail
    refine (specRow14_is ga gb gr gd bk rw false KN.out _).mono ?_
    rintro e w5 ⟨rfl, hb5⟩
    have HBR : Hid (Below w.heap.size w w5) := HBQ.out.trans (hb5.mono HBQ.out.size)
    have q5 := keep_block hb5 qq (lt_of_block qq)
    have r5 := keep_block hb5 rr (lt_of_block rr)
    have g5 := keep_block hb5 gg (lt_of_block gg)
    have l5 := keep_block hb5 ll (lt_of_block ll)
    have HO5 := Lib.hid (arrK.ownBelow HO4.out hb5)
    clear HBQ HO4 qq rr gg ll hb5 x0 x1 x2 x3
    have HBQ := HBR
    have qq := q5
    have rr := r5
    have gg := g5
    have ll := l5
    clear HBR q5 r5 g5 l5
    obtain ⟨v0, v1, v2⟩ := cells3 rr
    have f0 := thawed rr 0
    have f1 := thawed rr 1
    have f2 := thawed rr 2
    obtain ⟨u0, u1, u2⟩ := cells3 qq
    have o5 := set_cells (set_cells (set_cells rr 0 (.slice d0 m0 k0)) 1 (.slice d1 m1 k1)) 2 (.slice d2 m2 k2)
    obtain ⟨t0, t1, t2⟩ := cells3 o5
    go_wp2_with fail
    (try simp only [Exit.inBlock, Exit.then])
    refine bodyPost_ret (v := .agg #[.slice d0 m0 k0, .slice d1 m1 k1, .slice d2 m2 k2]) ?_ rfl ⟨_, T2, rfl, ?_, fun b hb => ?_, ?_⟩
    · simp [results, Tryd.results28, go_sem, t0, t1, t2]
    · rw [HE.out]
      exact arrK.ownSet (arrK.ownSet (arrK.ownSet HO5.out (fun b hb => HNR.out b hb) _) (fun b hb => HNR.out b hb) _) (fun b hb => HNR.out b hb) _
    · have := HS2.out b hb; have := HB1.out.size; omega
    · exact ((HBQ.out.setCell HRR.out _).setCell HRR.out _).setCell HRR.out _
  obtain ⟨i, hi, _⟩ := row_place ha hn
  have hii : (bk * gr + rw).toNat = i := by omega
  have HE : Hid (sensedF ga gb gr gd la lh x bk rw = senseF gr gd la lh x i rw) := (if_pos ⟨ha, hn⟩).trans (by rw [hii])
  have HI := Lib.hid hi
  clear hi hii
  have KN := Lib.hid (decide_eq_true hn)
  have HA := Lib.hid ha
  have HN := Lib.hid hn
  clear ha hn
  refine (specArrayOk_is ga gb gr gd H3.out true KA.out).mono ?_
  rintro e w4 ⟨rfl, hb4⟩
  have HBQ : Hid (Below w.heap.size w w4) := HB3.out.trans (hb4.mono HB3.out.size)
  have qq := keep_block hb4 q3 (lt_of_block q3)
  have rr := keep_block hb4 r3 (lt_of_block r3)
  have gg := keep_block hb4 g3 (lt_of_block g3)
  have ll := keep_block hb4 l3 (lt_of_block l3)
  have HO4 := Lib.hid (arrK.ownBelow HO3.out hb4)
  clear hb4 g3 l3 p3 q3 r3 x0 x1 x2 x3 y0 y1 y2 z0 z1 z2
  obtain ⟨x0, x1, x2, x3⟩ := cells4 gg
  go_wp2_with fail
  refine (specRow14_is ga gb gr gd bk rw true KN.out _).mono ?_
  rintro e w5 ⟨rfl, hb5⟩
  have HBR : Hid (Below w.heap.size w w5) := HBQ.out.trans (hb5.mono HBQ.out.size)
  have q5 := keep_block hb5 qq (lt_of_block qq)
  have r5 := keep_block hb5 rr (lt_of_block rr)
  have g5 := keep_block hb5 gg (lt_of_block gg)
  have l5 := keep_block hb5 ll (lt_of_block ll)
  have HO5 := Lib.hid (arrK.ownBelow HO4.out hb5)
  clear HBQ HO4 qq rr gg ll hb5 x0 x1 x2 x3
  have HBQ := HBR
  have qq := q5
  have rr := r5
  have gg := g5
  have ll := l5
  clear HBR q5 r5 g5 l5
  obtain ⟨x0, x1, x2, x3⟩ := cells4 gg
  obtain ⟨y0, y1⟩ := cells2 ll
  go_wp2_with fail
  refine (specSense_is ga gb gr gd la lh bk rw qq HO5.out HNP.out HA.out HN.out HI.out).mono ?_
  rintro e w6 ⟨rfl, own6, hon⟩
  have q6 := (hon.block _ (lt_of_block qq) HNP.out).trans qq
  have r6 := (hon.block _ (lt_of_block rr) (fun hb => HNR.out _ hb rfl)).trans rr
  have HO6 := Lib.hid own6
  have HB6 : Hid (Below w.heap.size w w6) := HBQ.out.trans (hon.below (fun b hb => by have := HS2.out b hb; have := HB1.out.size; omega) HBQ.out.size)
  clear qq rr HBQ hon own6 x0 x1 x2 x3 y0 y1 gg ll
  have qq := q6
  have rr := r6
  have HBQ := HB6
  clear q6 r6 HB6
  obtain ⟨v0, v1, v2⟩ := cells3 rr
  have f0 := thawed rr 0
  have f1 := thawed rr 1
  have f2 := thawed rr 2
  obtain ⟨u0, u1, u2⟩ := cells3 qq
  have o5 := set_cells (set_cells (set_cells rr 0 (.slice d0 m0 k0)) 1 (.slice d1 m1 k1)) 2 (.slice d2 m2 k2)
  obtain ⟨t0, t1, t2⟩ := cells3 o5
  go_wp2_with fail
  (try simp only [Exit.inBlock, Exit.then])
  refine bodyPost_ret (v := .agg #[.slice d0 m0 k0, .slice d1 m1 k1, .slice d2 m2 k2]) ?_ rfl ⟨_, T2, rfl, ?_, fun b hb => ?_, ?_⟩
  · simp [results, Tryd.results28, go_sem, t0, t1, t2]
  · rw [HE.out]
    exact arrK.ownSet (arrK.ownSet (arrK.ownSet HO6.out (fun b hb => HNR.out b hb) _) (fun b hb => HNR.out b hb) _) (fun b hb => HNR.out b hb) _
  · have := HS2.out b hb; have := HB1.out.size; omega
  · exact ((HBQ.out.setCell HRR.out _).setCell HRR.out _).setCell HRR.out _

set_option maxHeartbeats 8000000 in
set_option maxRecDepth 100000 in
theorem specBank14_is (ga gb gr gd la lh bk : Int) {cs : List Value} {S : List Nat} {xx : Arr} {P : Nat} {w : World} (hP : w.heap[P]? = some (.cells cs.toArray 31 (0, 0))) (h : arrK.own w S cs xx) (hPS : P ∉ S) (ha : ArrOk ga gb gr gd xx) (hr : AdOk ga gb gr gd bk 0 0) :
    Calls Tryd.prog 69 #[.agg #[.int .i64 ga, .int .i64 gb, .int .i64 gr, .int .i64 gd], .agg #[.int .i64 la, .int .i64 lh], .pointer (some ⟨P, 0, none⟩), .int .i64 bk] w fun e w' => e = .returned (.tuple #[]) ∧ arrK.own w' S cs (bankF gr gd la lh xx (bk * gr).toNat gr.toNat) ∧ OnlyS S w w' := by
  obtain ⟨w1, hw1⟩ : ∃ u, (w.alloc (.cells #[.int .i64 ga, .int .i64 gb, .int .i64 gr, .int .i64 gd] 25)).alloc (.cells #[.int .i64 la, .int .i64 lh] 27) = u := ⟨_, rfl⟩
  have hb1 : Below w.heap.size w w1 := by subst hw1; exact ((Below.refl _ _).alloc (Nat.le_refl _) _).alloc (by simp) _
  have g1 : w1.heap[w.heap.size]? = some (.cells #[.int .i64 ga, .int .i64 gb, .int .i64 gr, .int .i64 gd] 25) := hw1 ▸ heap_alloc2_old w _ _
  have l1 : w1.heap[w.heap.size + 1]? = some (.cells #[.int .i64 la, .int .i64 lh] 27) := hw1 ▸ heap_alloc2_new w _ _
  have p1 := keep_block hb1 hP (lt_of_block hP)
  have HO1 := Lib.hid (arrK.ownBelow h hb1)
  have HN1 : Hid (OnlyS S w w1) := Below.onlyS hb1
  have HPS : Hid (P ∉ S) := hPS
  have HGS : Hid (w.heap.size ∉ S) := fun hm => absurd (arrK.lt h _ hm) (Nat.lt_irrefl _)
  have HLS : Hid (w.heap.size + 1 ∉ S) := fun hm => absurd (arrK.lt h _ hm) (by omega)
  have HA := Lib.hid ha
  have HR := Lib.hid hr
  obtain ⟨hb0, hb9, hgr⟩ : 0 ≤ bk * gr ∧ bk * gr + gr ≤ bankN ga gb gr gd * gr ∧ (2 ≤ gr ∧ gr ≤ 16) := by
    obtain ⟨⟨b0, b1⟩, _⟩ := hr
    have hg := ha.1.2.2.1
    refine ⟨Int.mul_nonneg b0 (by omega), ?_, hg⟩
    have : (bk + 1) * gr ≤ bankN ga gb gr gd * gr := Int.mul_le_mul_of_nonneg_right (by omega) (by omega)
    rw [Int.add_mul, Int.one_mul] at this
    exact this
  obtain ⟨n, hn⟩ : ∃ n : Nat, gr = n := ⟨gr.toNat, by omega⟩
  obtain ⟨b, hb⟩ : ∃ b : Nat, bk * gr = b := ⟨(bk * gr).toNat, by omega⟩
  have HBN : Hid (bk * gr = b) := hb
  have HGN : Hid (gr = n) := hn
  have HCL : Hid (∀ k : Nat, k ≤ n → (b + k) * gd.toNat ≤ xx.1.length) := by
    intro k hk
    have h0 := ha.2.1
    have h5 := ha.1.2.2.2
    unfold lineN at h0
    have e1 : ((b : Int) + k) * gd ≤ bankN ga gb gr gd * gr * gd := Int.mul_le_mul_of_nonneg_right (by rw [hb] at hb9; omega) (by omega)
    rw [← h0] at e1
    have e2 : (((b + k) * gd.toNat : Nat) : Int) = ((b : Int) + k) * gd := by rw [Int.natCast_mul, Int.toNat_of_nonneg (by omega)]; rfl
    rw [← e2] at e1
    exact Int.ofNat_le.mp e1
  have hn16 : n ≤ 16 := by omega
  have HE : Hid (bankF gr gd la lh xx (bk * gr).toNat gr.toNat = bankF gr gd la lh xx b n) := by
    show _ = _
    rw [hb, show gr.toNat = n by omega]
    rfl
  clear h hPS ha hr hb1 hP hb0 hb9 hgr hb hn
  obtain ⟨x0, x1, x2, x3⟩ := cells4 g1
  obtain ⟨y0, y1⟩ := cells2 l1
  go_enter Tryd.func69, Tryd.ntmps69
  go_wp2_with fail
  go_loopw [8] (fun v wr => ∃ k : Nat, k ≤ n ∧ v = .int .i64 k ∧ arrK.own wr S cs (bankF gr gd la lh xx b k) ∧ OnlyS S w1 wr) (fun v _ => n + 1 - (intOf v).toNat)
  case atStart => exact ⟨0, Nat.zero_le _, rfl, HO1.out, OnlyS.refl _ _⟩
  case round =>
    obtain ⟨k, hk, rfl, hown, hon⟩ := hrel
    have HOR := Lib.hid hown
    have HON := Lib.hid hon
    have gr' := (hon.block _ (lt_of_block g1) HGS.out).trans g1
    have lr' := (hon.block _ (lt_of_block l1) HLS.out).trans l1
    have pr' := (hon.block _ (lt_of_block p1) HPS.out).trans p1
    clear hown hon x0 x1 x2 x3 y0 y1
    obtain ⟨x0, x1, x2, x3⟩ := cells4 gr'
    obtain ⟨y0, y1⟩ := cells2 lr'
    by_cases hlt : k < n
    case neg =>
      obtain rfl : k = n := by omega
      have hI : decide ((k : Int) < gr) = false := decide_eq_false (by have := HGN.out; omega)
      go_wp2_with fail
      (try simp only [Exit.inBlock, Exit.then])
      refine bodyPost_end (v := .tuple #[]) (by simp [results, Tryd.results69]) rfl ⟨rfl, ?_, HN1.out.trans HON.out⟩
      rw [HE.out]
      exact HOR.out
    have hI : decide ((k : Int) < gr) = true := decide_eq_true (by have := HGN.out; omega)
    have wk : IntKind.i64.wrap ((k : Int) + 1) = (k : Int) + 1 := IntWalk.i64_in _ (by omega)
    have HAK : Hid (ArrOk ga gb gr gd (bankF gr gd la lh xx b k)) := bank_ok HA.out (HCL.out k hk)
    have HRK : Hid (AdOk ga gb gr gd bk k 0) := ⟨HR.out.1, ⟨by omega, by have := HGN.out; omega⟩, HR.out.2.2⟩
    have HIK : Hid (bk * gr + (k : Int) = ((b + k : Nat) : Int)) := by show _ = _; rw [HBN.out]; rfl
    go_wp2_with fail
    refine (specSense_is ga gb gr gd la lh bk (k : Int) pr' HOR.out HPS.out HAK.out HRK.out HIK.out).mono ?_
    rintro e w2 ⟨rfl, own2, hon2⟩
    have HO2 : Hid (arrK.own w2 S cs (bankF gr gd la lh xx b (k + 1))) := own2
    have HN2 : Hid (OnlyS S w1 w2) := HON.out.trans hon2
    clear own2 hon2
    go_wp2_with fail
    go_roundw
    case rel => exact ⟨k + 1, by omega, by go_num, HO2.out, HN2.out⟩
    case measure => simp [intOf]; omega

set_option maxHeartbeats 8000000 in
set_option maxRecDepth 100000 in
theorem specSenseBank_is (ga gb gr gd la lh bk : Int) {cs : List Value} {x : Arr} {w : World} (h : arrK.rd w cs x) (hf : ArrFit x) :
    Calls Tryd.prog 31 #[.agg #[.int .i64 ga, .int .i64 gb, .int .i64 gr, .int .i64 gd], .agg #[.int .i64 la, .int .i64 lh], .agg cs.toArray, .int .i64 bk] w (GivesS arrK (sensedB ga gb gr gd la lh x bk) w) := by
  obtain ⟨a0, n0, c0, a1, n1, c1, a2, n2, c2, rfl, h0, h1, h2⟩ := arr_rd h
  obtain ⟨w1, hw1⟩ : ∃ u, (((w.alloc (.cells #[.int .i64 ga, .int .i64 gb, .int .i64 gr, .int .i64 gd] 25)).alloc (.cells #[.int .i64 la, .int .i64 lh] 27)).alloc (.cells #[.slice a0 n0 c0, .slice a1 n1 c1, .slice a2 n2 c2] 31)).alloc (.cells #[.slice none 0 0, .slice none 0 0, .slice none 0 0] 31) = u := ⟨_, rfl⟩
  obtain ⟨g1, l1, p1, r1, hb1⟩ := alloc4 hw1
  have HB1 := Lib.hid hb1
  have HF := Lib.hid hf
  have H := Lib.hid h
  have H1 := Lib.hid (arrK.below h HB1.out)
  clear h hf h0 h1 h2
  obtain ⟨x0, x1, x2, x3⟩ := cells4 g1
  obtain ⟨y0, y1, y2⟩ := cells3 p1
  go_enter Tryd.func31, Tryd.ntmps31
  go_wp2_with fail
  refine (specCopyA_is H1.out HF.out.1 HF.out.2.1 HF.out.2.2.1 HF.out.2.2.2).mono ?_
  rintro e w2 ⟨cs2, S2, rfl, own2, hS2, hb2⟩
  obtain ⟨d0, m0, k0, d1, m1, k1, d2, m2, k2, S0, S1', S2', rfl, rfl, _⟩ := arr_own own2
  obtain ⟨w3, hw3⟩ : ∃ u, w2.alloc (.cells #[.slice d0 m0 k0, .slice d1 m1 k1, .slice d2 m2 k2] 31) = u := ⟨_, rfl⟩
  have hb3 : Below w2.heap.size w2 w3 := by subst hw3; exact (Below.refl _ _).alloc (Nat.le_refl _) _
  have q3 : w3.heap[w2.heap.size]? = some (.cells #[.slice d0 m0 k0, .slice d1 m1 k1, .slice d2 m2 k2] 31) := by subst hw3; exact heap_alloc_new _ _
  have HO3 := Lib.hid (arrK.ownBelow own2 hb3)
  have HB2 : Hid (Below w.heap.size w w2) := HB1.out.trans (hb2.mono HB1.out.size)
  have HB3 : Hid (Below w.heap.size w w3) := HB2.out.trans (hb3.mono HB2.out.size)
  have H3 := Lib.hid (arrK.below (arrK.below H1.out hb2) hb3)
  have hlt : ∀ b ∈ S0 ++ (S1' ++ S2'), b < w2.heap.size := fun b hb => arrK.lt own2 b hb
  have hge : ∀ b ∈ S0 ++ (S1' ++ S2'), w1.heap.size ≤ b := fun b hb => hS2 b hb
  generalize hU2 : S0 ++ (S1' ++ S2') = T2 at own2 hS2 HO3 hlt hge
  have HS2 : Hid (∀ b ∈ T2, w1.heap.size ≤ b) := hge
  have HNP : Hid (w2.heap.size ∉ T2) := fun hb => by have := hlt _ hb; omega
  have HNR : Hid (∀ b ∈ T2, b ≠ w.heap.size + 1 + 1 + 1) := fun b hb e => by have := hge b hb; have := lt_of_block r1; omega
  have HRR : Hid (w.heap.size ≤ w.heap.size + 1 + 1 + 1) := by show _ ≤ _; omega
  have HPR : Hid (w.heap.size + 1 + 1 + 1 ≠ w2.heap.size) := fun e => by have := lt_of_block r1; have := hb2.size; omega
  have HPW : Hid (w.heap.size ≤ w2.heap.size) := HB2.out.size
  have g3 := keep_block hb3 (keep_block hb2 g1 (lt_of_block g1)) (Nat.lt_of_lt_of_le (lt_of_block g1) hb2.size)
  have l3 := keep_block hb3 (keep_block hb2 l1 (lt_of_block l1)) (Nat.lt_of_lt_of_le (lt_of_block l1) hb2.size)
  have p3 := keep_block hb3 (keep_block hb2 p1 (lt_of_block p1)) (Nat.lt_of_lt_of_le (lt_of_block p1) hb2.size)
  have r3 := keep_block hb3 (keep_block hb2 r1 (lt_of_block r1)) (Nat.lt_of_lt_of_le (lt_of_block r1) hb2.size)
  clear own2 hS2 hb2 hb3 g1 l1 p1 r1 x0 x1 x2 x3 y0 y1 y2 hlt hge hU2
  obtain ⟨x0, x1, x2, x3⟩ := cells4 g3
  obtain ⟨y0, y1, y2⟩ := cells3 p3
  obtain ⟨z0, z1, z2⟩ := cells3 q3
  go_wp2_with fail
  by_cases ha : ArrOk ga gb gr gd x
  case neg =>
    have KA := Lib.hid (decide_eq_false ha)
    have HE : Hid (sensedB ga gb gr gd la lh x bk = x) := if_neg (fun h => ha h.1)
    clear ha
    refine (specArrayOk_is ga gb gr gd H3.out false KA.out).mono ?_
    rintro e w4 ⟨rfl, hb4⟩
    have HBQ : Hid (Below w.heap.size w w4) := HB3.out.trans (hb4.mono HB3.out.size)
    have qq := keep_block hb4 q3 (lt_of_block q3)
    have rr := keep_block hb4 r3 (lt_of_block r3)
    have gg := keep_block hb4 g3 (lt_of_block g3)
    have ll := keep_block hb4 l3 (lt_of_block l3)
    have HO4 := Lib.hid (arrK.ownBelow HO3.out hb4)
    clear hb4 g3 l3 p3 q3 r3 x0 x1 x2 x3 y0 y1 y2 z0 z1 z2
    obtain ⟨x0, x1, x2, x3⟩ := cells4 gg
    obtain ⟨v0, v1, v2⟩ := cells3 rr
    have f0 := thawed rr 0
    have f1 := thawed rr 1
    have f2 := thawed rr 2
    obtain ⟨u0, u1, u2⟩ := cells3 qq
    have o5 := set_cells (set_cells (set_cells rr 0 (.slice d0 m0 k0)) 1 (.slice d1 m1 k1)) 2 (.slice d2 m2 k2)
    obtain ⟨t0, t1, t2⟩ := cells3 o5
    go_wp2_with fail
    (try simp only [Exit.inBlock, Exit.then])
    refine bodyPost_ret (v := .agg #[.slice d0 m0 k0, .slice d1 m1 k1, .slice d2 m2 k2]) ?_ rfl ⟨_, T2, rfl, ?_, fun b hb => ?_, ?_⟩
    · simp [results, Tryd.results31, go_sem, t0, t1, t2]
    · rw [HE.out]
      exact arrK.ownSet (arrK.ownSet (arrK.ownSet HO4.out (fun b hb => HNR.out b hb) _) (fun b hb => HNR.out b hb) _) (fun b hb => HNR.out b hb) _
    · have := HS2.out b hb; have := HB1.out.size; omega
    · exact ((HBQ.out.setCell HRR.out _).setCell HRR.out _).setCell HRR.out _
  have KA := Lib.hid (decide_eq_true ha)
  by_cases hn : AdOk ga gb gr gd bk 0 0
  case neg =>
    have KN := Lib.hid (decide_eq_false hn)
    have HE : Hid (sensedB ga gb gr gd la lh x bk = x) := if_neg (fun h => hn h.2)
    clear ha hn
    refine (specArrayOk_is ga gb gr gd H3.out true KA.out).mono ?_
    rintro e w4 ⟨rfl, hb4⟩
    have HBQ : Hid (Below w.heap.size w w4) := HB3.out.trans (hb4.mono HB3.out.size)
    have qq := keep_block hb4 q3 (lt_of_block q3)
    have rr := keep_block hb4 r3 (lt_of_block r3)
    have gg := keep_block hb4 g3 (lt_of_block g3)
    have ll := keep_block hb4 l3 (lt_of_block l3)
    have HO4 := Lib.hid (arrK.ownBelow HO3.out hb4)
    clear hb4 g3 l3 p3 q3 r3 x0 x1 x2 x3 y0 y1 y2 z0 z1 z2
    obtain ⟨x0, x1, x2, x3⟩ := cells4 gg
    go_wp2_with fail
    refine (specRow14_is ga gb gr gd bk 0 false KN.out _).mono ?_
    rintro e w5 ⟨rfl, hb5⟩
    have HBR : Hid (Below w.heap.size w w5) := HBQ.out.trans (hb5.mono HBQ.out.size)
    have q5 := keep_block hb5 qq (lt_of_block qq)
    have r5 := keep_block hb5 rr (lt_of_block rr)
    have g5 := keep_block hb5 gg (lt_of_block gg)
    have l5 := keep_block hb5 ll (lt_of_block ll)
    have HO5 := Lib.hid (arrK.ownBelow HO4.out hb5)
    clear HBQ HO4 qq rr gg ll hb5 x0 x1 x2 x3
    have HBQ := HBR
    have qq := q5
    have rr := r5
    have gg := g5
    have ll := l5
    clear HBR q5 r5 g5 l5
    obtain ⟨v0, v1, v2⟩ := cells3 rr
    have f0 := thawed rr 0
    have f1 := thawed rr 1
    have f2 := thawed rr 2
    obtain ⟨u0, u1, u2⟩ := cells3 qq
    have o5 := set_cells (set_cells (set_cells rr 0 (.slice d0 m0 k0)) 1 (.slice d1 m1 k1)) 2 (.slice d2 m2 k2)
    obtain ⟨t0, t1, t2⟩ := cells3 o5
    go_wp2_with fail
    (try simp only [Exit.inBlock, Exit.then])
    refine bodyPost_ret (v := .agg #[.slice d0 m0 k0, .slice d1 m1 k1, .slice d2 m2 k2]) ?_ rfl ⟨_, T2, rfl, ?_, fun b hb => ?_, ?_⟩
    · simp [results, Tryd.results31, go_sem, t0, t1, t2]
    · rw [HE.out]
      exact arrK.ownSet (arrK.ownSet (arrK.ownSet HO5.out (fun b hb => HNR.out b hb) _) (fun b hb => HNR.out b hb) _) (fun b hb => HNR.out b hb) _
    · have := HS2.out b hb; have := HB1.out.size; omega
    · exact ((HBQ.out.setCell HRR.out _).setCell HRR.out _).setCell HRR.out _
  have HE : Hid (sensedB ga gb gr gd la lh x bk = bankF gr gd la lh x (bk * gr).toNat gr.toNat) := if_pos ⟨ha, hn⟩
  have KN := Lib.hid (decide_eq_true hn)
  have HA := Lib.hid ha
  have HN := Lib.hid hn
  clear ha hn
  refine (specArrayOk_is ga gb gr gd H3.out true KA.out).mono ?_
  rintro e w4 ⟨rfl, hb4⟩
  have HBQ : Hid (Below w.heap.size w w4) := HB3.out.trans (hb4.mono HB3.out.size)
  have qq := keep_block hb4 q3 (lt_of_block q3)
  have rr := keep_block hb4 r3 (lt_of_block r3)
  have gg := keep_block hb4 g3 (lt_of_block g3)
  have ll := keep_block hb4 l3 (lt_of_block l3)
  have HO4 := Lib.hid (arrK.ownBelow HO3.out hb4)
  clear hb4 g3 l3 p3 q3 r3 x0 x1 x2 x3 y0 y1 y2 z0 z1 z2
  obtain ⟨x0, x1, x2, x3⟩ := cells4 gg
  go_wp2_with fail
  refine (specRow14_is ga gb gr gd bk 0 true KN.out _).mono ?_
  rintro e w5 ⟨rfl, hb5⟩
  have HBR : Hid (Below w.heap.size w w5) := HBQ.out.trans (hb5.mono HBQ.out.size)
  have q5 := keep_block hb5 qq (lt_of_block qq)
  have r5 := keep_block hb5 rr (lt_of_block rr)
  have g5 := keep_block hb5 gg (lt_of_block gg)
  have l5 := keep_block hb5 ll (lt_of_block ll)
  have HO5 := Lib.hid (arrK.ownBelow HO4.out hb5)
  clear HBQ HO4 qq rr gg ll hb5 x0 x1 x2 x3
  have HBQ := HBR
  have qq := q5
  have rr := r5
  have gg := g5
  have ll := l5
  clear HBR q5 r5 g5 l5
  obtain ⟨x0, x1, x2, x3⟩ := cells4 gg
  obtain ⟨y0, y1⟩ := cells2 ll
  go_wp2_with fail
  refine (specBank14_is ga gb gr gd la lh bk qq HO5.out HNP.out HA.out HN.out).mono ?_
  rintro e w6 ⟨rfl, own6, hon⟩
  have q6 := (hon.block _ (lt_of_block qq) HNP.out).trans qq
  have r6 := (hon.block _ (lt_of_block rr) (fun hb => HNR.out _ hb rfl)).trans rr
  have HO6 := Lib.hid own6
  have HB6 : Hid (Below w.heap.size w w6) := HBQ.out.trans (hon.below (fun b hb => by have := HS2.out b hb; have := HB1.out.size; omega) HBQ.out.size)
  clear qq rr HBQ hon own6 x0 x1 x2 x3 y0 y1 gg ll
  have qq := q6
  have rr := r6
  have HBQ := HB6
  clear q6 r6 HB6
  obtain ⟨v0, v1, v2⟩ := cells3 rr
  have f0 := thawed rr 0
  have f1 := thawed rr 1
  have f2 := thawed rr 2
  obtain ⟨u0, u1, u2⟩ := cells3 qq
  have o5 := set_cells (set_cells (set_cells rr 0 (.slice d0 m0 k0)) 1 (.slice d1 m1 k1)) 2 (.slice d2 m2 k2)
  obtain ⟨t0, t1, t2⟩ := cells3 o5
  go_wp2_with fail
  (try simp only [Exit.inBlock, Exit.then])
  refine bodyPost_ret (v := .agg #[.slice d0 m0 k0, .slice d1 m1 k1, .slice d2 m2 k2]) ?_ rfl ⟨_, T2, rfl, ?_, fun b hb => ?_, ?_⟩
  · simp [results, Tryd.results31, go_sem, t0, t1, t2]
  · rw [HE.out]
    exact arrK.ownSet (arrK.ownSet (arrK.ownSet HO6.out (fun b hb => HNR.out b hb) _) (fun b hb => HNR.out b hb) _) (fun b hb => HNR.out b hb) _
  · have := HS2.out b hb; have := HB1.out.size; omega
  · exact ((HBQ.out.setCell HRR.out _).setCell HRR.out _).setCell HRR.out _

end Go.Proofs.YtfpfgaifhmgpiaaDoor

namespace Go.Proofs.YtfpfgaifhmgpiaaDoor
open Go.RowKit Go.PlainAid

set_option linter.unusedVariables false

def FlipOk (ga gb gr gd : Int) (x : Arr) (bx br bc ch u : Int) : Prop := ArrOk ga gb gr gd x ∧ AdOk ga gb gr gd bx br bc ∧ (0 ≤ ch ∧ ch ≤ 10) ∧ El u

instance (ga gb gr gd : Int) (x : Arr) (bx br bc ch u : Int) : Decidable (FlipOk ga gb gr gd x bx br bc ch u) := inferInstanceAs (Decidable (_ ∧ _))

end Go.Proofs.YtfpfgaifhmgpiaaDoor

namespace Go.Proofs.YtfpfgaifhmgpiaaDoor
open Go.RowKit Go.PlainAid

set_option linter.unusedVariables false

theorem ints_none (w : World) : intsK.own w [] [.slice none 0 0] [] :=
  ⟨none, 0, 0, [], [], rfl, rfl, ⟨Nat.le_refl _, Nat.zero_le _⟩, ⟨rfl, rfl⟩, List.nodup_nil, .inl ⟨rfl, fun _ => rfl, rfl⟩⟩

def LoadOk (ga gb gr gd : Int) (x : Arr) (bx br bc : Int) : Prop := ArrOk ga gb gr gd x ∧ AdOk ga gb gr gd bx br bc

instance (ga gb gr gd : Int) (x : Arr) (bx br bc : Int) : Decidable (LoadOk ga gb gr gd x bx br bc) := inferInstanceAs (Decidable (_ ∧ _))

end Go.Proofs.YtfpfgaifhmgpiaaDoor

namespace Go.Proofs.YtfpfgaifhmgpiaaDoor
open Go.RowKit Go.PlainAid

set_option linter.unusedVariables false

/-- A new array: all symbols and counts zero. -/
def newA (ga gb gr gd : Int) : Arr :=
  (List.replicate (lineN ga gb gr gd).toNat (List.replicate 11 0, false), List.replicate (bankN ga gb gr gd * gr).toNat 0, List.replicate (bankN ga gb gr gd * gr).toNat 0)

theorem made_ints {w : World} {B n : Nat} {v : Value} (h : w.ownsRow B 3 1 v n (madeCells #[.int .i64 0] n).toList) : intK.Bld 3 B w [] v (List.replicate n (0 : Int)) :=
  Kn.Bld.made (k := intK) (z := (0 : Int)) (zc := [.int .i64 0]) ⟨rfl, rfl⟩ (by decide) (by show w.ownsRow B _ 1 v n (madeCells _ (n * 1)).toList; rw [Nat.mul_one]; exact h)

set_option maxHeartbeats 16000000 in
set_option maxRecDepth 100000 in
theorem specArrayNew_is (ga gb gr gd : Int) (w : World) :
    Calls Tryd.prog 16 #[.agg #[.int .i64 ga, .int .i64 gb, .int .i64 gr, .int .i64 gd]] w (GivesS arrK (newA ga gb gr gd) w) := by
  obtain ⟨L, hL⟩ : ∃ L : Nat, lineN ga gb gr gd = L := ⟨(lineN ga gb gr gd).toNat, by have := (lineN_range ga gb gr gd).1; omega⟩
  have hL2 : L ≤ 1024 := by have := (lineN_range ga gb gr gd).2; omega
  have HL := Lib.hid hL
  clear hL
  obtain ⟨i0, hi, hz0, hz1, hz2⟩ := info_parts infoCell
  obtain ⟨i1, hj, hj0, hj1, hj2⟩ := info_parts infoI
  go_enter Tryd.func16, Tryd.ntmps16
  go_wp2_with fail
  obtain ⟨u, hu⟩ : ∃ u, ((w.alloc (.cells #[.int .i64 ga, .int .i64 gb, .int .i64 gr, .int .i64 gd] 25)).alloc (.cells #[.slice none 0 0, .slice none 0 0, .slice none 0 0] 31)).alloc (.cells #[.slice none 0 0, .slice none 0 0, .slice none 0 0] 31) = u := ⟨_, rfl⟩
  rw [hu]
  obtain ⟨gu, ru, pu, hbu⟩ := alloc3 hu
  have HBU := Lib.hid hbu
  have HSU : Hid (w.heap.size + 1 + 1 < u.heap.size) := lt_of_block pu
  clear hbu
  go_loopw [4] (fun i wr => ∃ (k : Nat) (v : Value) (S : List Nat), k ≤ L ∧ i = .int .i64 k ∧ cellK.Bld 41 u.heap.size wr S v (List.replicate k (List.replicate 11 0, false)) ∧ wr.heap[w.heap.size + 1 + 1]? = some (.cells #[v, .slice none 0 0, .slice none 0 0] 31 (0, 0)) ∧ Only (w.heap.size + 1 + 1) u wr) (fun i _ => L + 1 - (intOf i).toNat)
  case atStart => exact ⟨0, .slice none 0 0, [], Nat.zero_le _, rfl, Kn.Bld.nil _ _ _ _, pu, Only.refl _ _⟩
  case round =>
    obtain ⟨k, v, S, hk, rfl, hbld, hgr, hon⟩ := hrel
    have g0 := (hon.block w.heap.size (lt_of_block gu) (by omega)).trans gu
    have r0 := (hon.block (w.heap.size + 1) (lt_of_block ru) (by omega)).trans ru
    have HON := Lib.hid hon
    have HBL := Lib.hid hbld
    clear hon hbld
    obtain ⟨x0, x1, x2, x3⟩ := cells4 g0
    by_cases hlt : k < L
    case neg =>
      obtain rfl : k = L := by omega
      have hI : decide ((k : Int) < (k : Int)) = false := decide_eq_false (by omega)
      go_wp2_with fail
      refine (specLine_is ga gb gr gd (k : Int) HL.out _).mono ?_
      rintro e w2 ⟨rfl, hb2⟩
      have pw2 := keep_block hb2 hgr (lt_of_block hgr)
      have gw2 := keep_block hb2 g0 (lt_of_block g0)
      have rw2 := keep_block hb2 r0 (lt_of_block r0)
      have hbl := Kn.Bld.below HBL.out hb2
      obtain ⟨va, vc, hv, _, _⟩ := hbl.shape
      rw [List.length_replicate] at hv
      subst hv
      obtain ⟨T0, own0, hT0⟩ := hbl.own
      have hN0 : ∀ b ∈ T0, w.heap.size + 1 + 1 < b := fun b hb => by have := hT0 b hb; have := HSU.out; omega
      have hlt0 : ∀ b ∈ T0, b < w2.heap.size := fun b hb => cellsK.lt own0 b hb
      have hPw2 : w.heap.size + 1 + 1 < w2.heap.size := lt_of_block pw2
      have HBw2 : Hid (Below w.heap.size w w2) := (HBU.out.trans (HON.out.below (by omega) HBU.out.size)).trans (hb2.mono (HBU.out.trans (HON.out.below (by omega) HBU.out.size)).size)
      obtain ⟨N, hN⟩ : ∃ N, bankN ga gb gr gd = N := ⟨_, rfl⟩
      have HBN := Lib.hid hN
      obtain ⟨M, hM⟩ : ∃ M : Nat, N * gr = M := ⟨(N * gr).toNat, by
        by_cases hg : GeoOk ga gb gr gd
        · have := rowsN_range hg; rw [hN] at this; omega
        · have : N = 0 := by rw [← hN]; exact if_neg hg
          rw [this, Int.zero_mul]; rfl⟩
      have hM128 : M ≤ 128 := by
        by_cases hg : GeoOk ga gb gr gd
        · have := rowsN_range hg; rw [hN] at this; omega
        · have : N = 0 := by rw [← hN]; exact if_neg hg
          rw [this, Int.zero_mul] at hM; omega
      have HE : Hid (newA ga gb gr gd = (List.replicate k (List.replicate 11 0, false), List.replicate M 0, List.replicate M 0)) := by
        show _ = _
        unfold newA
        rw [HL.out, hN, hM]
        rfl
      have wM : IntKind.i64.wrap ((M : Nat) : Int) = (M : Int) := IntWalk.i64_in _ (by omega)
      have dM : decide ((M : Int) < 0) = false := decide_eq_false (by omega)
      clear hb2 hbl HBL HON hgr g0 r0 hN x0 x1 x2 x3
      obtain ⟨x0, x1, x2, x3⟩ := cells4 gw2
      have zx0 := fun q : Later w2 => q.cell x0
      have zx1 := fun q : Later w2 => q.cell x1
      have zx2 := fun q : Later w2 => q.cell x2
      have zx3 := fun q : Later w2 => q.cell x3
      clear x0 x1 x2 x3
      go_wp2_with fail
      refine wp_region_later (by kernel_rfl) (by kernel_rfl) ?_
      repeat (go_big_quiet_step (first | (go_at_call 12; exact Gives.later _ (specBank_is ga gb gr gd N HBN.out _))))
      refine wpQuiet_nil ?_
      rintro w3 ⟨zz, hz⟩
      have hb3 : Below w2.heap.size w2 w3 := hz ▸ zz.ok
      have pw3 := keep_block hb3 pw2 (lt_of_block pw2)
      have gw3 := keep_block hb3 gw2 (lt_of_block gw2)
      have rw3 := keep_block hb3 rw2 (lt_of_block rw2)
      clear zx0 zx1 zx2 zx3 hz zz
      obtain ⟨x0, x1, x2, x3⟩ := cells4 gw3
      by_cases hg : GeoOk ga gb gr gd
      case neg =>
        have KG := Lib.hid (decide_eq_false hg)
        have hM0 : M = 0 := by
          have : N = 0 := by rw [← HBN.out]; exact if_neg hg
          rw [this, Int.zero_mul] at hM; omega
        subst hM0
        clear hg
        go_wp2_with fail
        refine (specGeoOk_is ga gb gr gd false KG.out _).mono ?_
        rintro e w4 ⟨rfl, hb4⟩
        have pw4 := keep_block hb4 pw3 (lt_of_block pw3)
        have rw4 := keep_block hb4 rw3 (lt_of_block rw3)
        have hbz : Below w2.heap.size w2 w4 := hb3.trans (hb4.mono hb3.size)
        have hw2le : w2.heap.size ≤ w4.heap.size := hbz.size
        have HBw4 : Hid (Below w.heap.size w w4) := HBw2.out.trans (hbz.mono HBw2.out.size)
        clear hb3 hb4 pw3 gw3 rw3 x0 x1 x2 x3 pw2 gw2 rw2
        have hW2 : w2.heap.size ≤ w4.heap.size := hw2le
        have HO0w4 := Lib.hid (cellsK.ownBelow own0 hbz)
        go_wp2_with (at_make; refine wpList_make_full _ rfl _ _ 29 rfl w4.heap.size 3 i1 (.int .i64 0) 1 Tryd.underlying29 hj hj0 hj1 _ _ _ _ 0 rfl rfl rfl rfl (by rw [hj2]; omega) (by unfold maxLen; omega) (Nat.le_refl _) ?_)
        intro w5 hownI hgrI
        have hb : Below w4.heap.size w4 w5 := (Below.refl _ _).grown hgrI (Nat.le_refl _) (fun k hk => by cases hk)
        obtain ⟨T1, own1, hT1⟩ := (made_ints hownI).own
        have hlt1 : ∀ b ∈ T1, b < w5.heap.size := fun b hb => intsK.lt own1 b hb
        have pw5 := keep_block hb pw4 (lt_of_block pw4)
        have rw5 := keep_block hb rw4 (lt_of_block rw4)
        have HBw5 : Hid (Below w.heap.size w w5) := HBw4.out.trans (hb.mono HBw4.out.size)
        have hPw5 : w.heap.size + 1 + 1 < w5.heap.size := lt_of_block pw5
        have hszw5 : w4.heap.size ≤ w5.heap.size := hb.size
        have HO0w5 := Lib.hid (cellsK.ownBelow HO0w4.out hb)
        have HO1w5 := Lib.hid own1
        have hN1 : ∀ b ∈ T1, w.heap.size + 1 + 1 < b := fun b hb => by have := hT1 b hb; have := hPw2; omega
        clear hb hownI hgrI own1
        obtain ⟨w6, hw6⟩ : ∃ q, w5.setCell ⟨w.heap.size + 1 + 1, 1, none⟩ (.slice (some ⟨w4.heap.size, 0, none⟩) 0 0) = q := ⟨_, rfl⟩
        have pw6 := hw6 ▸ set_cells pw5 1 (.slice (some ⟨w4.heap.size, 0, none⟩) 0 0)
        have rw6 : w6.heap[w.heap.size + 1]? = _ := hw6 ▸ keep_set rw5 (show w.heap.size + 1 ≠ w.heap.size + 1 + 1 by omega)
        have HBw6 : Hid (Below w.heap.size w w6) := hw6 ▸ HBw5.out.setCell (by show w.heap.size ≤ w.heap.size + 1 + 1; omega) _
        have HSw6 : Hid (w6.heap.size = w5.heap.size) := by show _ = _; rw [← hw6]; simp [World.setCell]
        have fw6 := thawed pw5 1
        obtain ⟨kw6a, kw6b, kw6c⟩ := cells3 pw5
        have HO0w6 := Lib.hid (hw6 ▸ cellsK.ownSet HO0w5.out (p := ⟨w.heap.size + 1 + 1, 1, none⟩) (fun b hb => by have := hN0 b hb; show b ≠ w.heap.size + 1 + 1; omega) (.slice (some ⟨w4.heap.size, 0, none⟩) 0 0))
        have HO1w6 := Lib.hid (hw6 ▸ intsK.ownSet HO1w5.out (p := ⟨w.heap.size + 1 + 1, 1, none⟩) (fun b hb => by have := hN1 b hb; show b ≠ w.heap.size + 1 + 1; omega) (.slice (some ⟨w4.heap.size, 0, none⟩) 0 0))
        go_wp2_with (at_make; refine wpList_make_full _ rfl _ _ 29 rfl w6.heap.size 3 i1 (.int .i64 0) 1 Tryd.underlying29 hj hj0 hj1 _ _ _ _ 0 rfl rfl rfl rfl (by rw [hj2]; omega) (by unfold maxLen; omega) (Nat.le_refl _) ?_)
        intro w7 hownI hgrI
        have hb : Below w6.heap.size w6 w7 := (Below.refl _ _).grown hgrI (Nat.le_refl _) (fun k hk => by cases hk)
        obtain ⟨T2, own2, hT2⟩ := (made_ints hownI).own
        have hlt2 : ∀ b ∈ T2, b < w7.heap.size := fun b hb => intsK.lt own2 b hb
        have pw7 := keep_block hb pw6 (lt_of_block pw6)
        have rw7 := keep_block hb rw6 (lt_of_block rw6)
        have HBw7 : Hid (Below w.heap.size w w7) := HBw6.out.trans (hb.mono HBw6.out.size)
        have hPw7 : w.heap.size + 1 + 1 < w7.heap.size := lt_of_block pw7
        have hszw7 : w6.heap.size ≤ w7.heap.size := hb.size
        have HO0w7 := Lib.hid (cellsK.ownBelow HO0w6.out hb)
        have HO1w7 := Lib.hid (intsK.ownBelow HO1w6.out hb)
        have HO2w7 := Lib.hid own2
        have hN2 : ∀ b ∈ T2, w.heap.size + 1 + 1 < b := fun b hb => by have := hT2 b hb; have := hPw2; have := HSw6.out; omega
        clear hb hownI hgrI own2
        obtain ⟨w8, hw8⟩ : ∃ q, w7.setCell ⟨w.heap.size + 1 + 1, 2, none⟩ (.slice (some ⟨w6.heap.size, 0, none⟩) 0 0) = q := ⟨_, rfl⟩
        have pw8 := hw8 ▸ set_cells pw7 2 (.slice (some ⟨w6.heap.size, 0, none⟩) 0 0)
        have rw8 : w8.heap[w.heap.size + 1]? = _ := hw8 ▸ keep_set rw7 (show w.heap.size + 1 ≠ w.heap.size + 1 + 1 by omega)
        have HBw8 : Hid (Below w.heap.size w w8) := hw8 ▸ HBw7.out.setCell (by show w.heap.size ≤ w.heap.size + 1 + 1; omega) _
        have HSw8 : Hid (w8.heap.size = w7.heap.size) := by show _ = _; rw [← hw8]; simp [World.setCell]
        have fw8 := thawed pw7 2
        obtain ⟨kw8a, kw8b, kw8c⟩ := cells3 pw7
        have HO0w8 := Lib.hid (hw8 ▸ cellsK.ownSet HO0w7.out (p := ⟨w.heap.size + 1 + 1, 2, none⟩) (fun b hb => by have := hN0 b hb; show b ≠ w.heap.size + 1 + 1; omega) (.slice (some ⟨w6.heap.size, 0, none⟩) 0 0))
        have HO1w8 := Lib.hid (hw8 ▸ intsK.ownSet HO1w7.out (p := ⟨w.heap.size + 1 + 1, 2, none⟩) (fun b hb => by have := hN1 b hb; show b ≠ w.heap.size + 1 + 1; omega) (.slice (some ⟨w6.heap.size, 0, none⟩) 0 0))
        have HO2w8 := Lib.hid (hw8 ▸ intsK.ownSet HO2w7.out (p := ⟨w.heap.size + 1 + 1, 2, none⟩) (fun b hb => by have := hN2 b hb; show b ≠ w.heap.size + 1 + 1; omega) (.slice (some ⟨w6.heap.size, 0, none⟩) 0 0))
        obtain ⟨c0, c1, c2⟩ := cells3 pw8
        have e0 := thawed rw8 0
        have e1 := thawed rw8 1
        have e2 := thawed rw8 2
        obtain ⟨s0, s1, s2⟩ := cells3 rw8
        have o9 := set_cells (set_cells (set_cells rw8 0 (.slice va k vc)) 1 (.slice (some ⟨w4.heap.size, 0, none⟩) 0 0)) 2 (.slice (some ⟨w6.heap.size, 0, none⟩) 0 0)
        obtain ⟨t0, t1, t2⟩ := cells3 o9
        have q0 : ∀ b ∈ T0, b ≠ w.heap.size + 1 := fun b hb => by have := hN0 b hb; omega
        have q1 : ∀ b ∈ T1, b ≠ w.heap.size + 1 := fun b hb => by have := hN1 b hb; omega
        have q2 : ∀ b ∈ T2, b ≠ w.heap.size + 1 := fun b hb => by have := hN2 b hb; omega
        go_wp2_with fail
        (try simp only [Exit.inBlock, Exit.then])
        have hsw6 := HSw6.out
        have hsw8 := HSw8.out
        refine bodyPost_ret (v := .agg #[.slice va k vc, .slice (some ⟨w4.heap.size, 0, none⟩) 0 0, .slice (some ⟨w6.heap.size, 0, none⟩) 0 0]) ?_ rfl ⟨[.slice va k vc, .slice (some ⟨w4.heap.size, 0, none⟩) 0 0, .slice (some ⟨w6.heap.size, 0, none⟩) 0 0], T0 ++ (T1 ++ T2), rfl, ?_, fun b hb => ?_, ?_⟩
        · simp [results, Tryd.results16, go_sem, t0, t1, t2]
        · rw [HE.out]
          refine arr_of ?_ ?_ ?_ (nodup_of (cellsK.nodup HO0w8.out) (intsK.nodup HO1w8.out) (intsK.nodup HO2w8.out) (fun b hb hb' => ?_) (fun b hb hb' => ?_) (fun b hb hb' => ?_))
          · exact cellsK.ownSet (cellsK.ownSet (cellsK.ownSet HO0w8.out (fun b hb => q0 b hb) _) (fun b hb => q0 b hb) _) (fun b hb => q0 b hb) _
          · exact intsK.ownSet (intsK.ownSet (intsK.ownSet HO1w8.out (fun b hb => q1 b hb) _) (fun b hb => q1 b hb) _) (fun b hb => q1 b hb) _
          · exact intsK.ownSet (intsK.ownSet (intsK.ownSet HO2w8.out (fun b hb => q2 b hb) _) (fun b hb => q2 b hb) _) (fun b hb => q2 b hb) _
          · have := hT1 b hb; have := hlt0 b hb'; omega
          · have := hT2 b hb; have := hlt0 b hb'; omega
          · have := hT2 b hb; have := hlt1 b hb'; omega
        · rcases List.mem_append.1 hb with h | h
          · have := hN0 b h; omega
          · rcases List.mem_append.1 h with h | h
            · have := hN1 b h; omega
            · have := hN2 b h; omega
        · exact ((HBw8.out.setCell (by show w.heap.size ≤ w.heap.size + 1; omega) _).setCell (by show w.heap.size ≤ w.heap.size + 1; omega) _).setCell (by show w.heap.size ≤ w.heap.size + 1; omega) _
      case pos =>
        have KG := Lib.hid (decide_eq_true hg)
        clear hg
        go_wp2_with fail
        refine (specGeoOk_is ga gb gr gd true KG.out _).mono ?_
        rintro e w4 ⟨rfl, hb4⟩
        have pw4 := keep_block hb4 pw3 (lt_of_block pw3)
        have rw4 := keep_block hb4 rw3 (lt_of_block rw3)
        have hbz : Below w2.heap.size w2 w4 := hb3.trans (hb4.mono hb3.size)
        have hw2le : w2.heap.size ≤ w4.heap.size := hbz.size
        have HBw4 : Hid (Below w.heap.size w w4) := HBw2.out.trans (hbz.mono HBw2.out.size)
        clear hb3 hb4 pw3 gw3 rw3 x0 x1 x2 x3 pw2 gw2 rw2
        have hW2 : w2.heap.size ≤ w4.heap.size := hw2le
        have HO0w4 := Lib.hid (cellsK.ownBelow own0 hbz)
        go_wp2_with (at_make; refine wpList_make_full _ rfl _ _ 29 rfl w4.heap.size 3 i1 (.int .i64 0) 1 Tryd.underlying29 hj hj0 hj1 _ _ _ _ M rfl rfl rfl rfl (by rw [hj2]; omega) (by unfold maxLen; omega) (Nat.le_refl _) ?_)
        intro w5 hownI hgrI
        have hb : Below w4.heap.size w4 w5 := (Below.refl _ _).grown hgrI (Nat.le_refl _) (fun k hk => by cases hk)
        obtain ⟨T1, own1, hT1⟩ := (made_ints hownI).own
        have hlt1 : ∀ b ∈ T1, b < w5.heap.size := fun b hb => intsK.lt own1 b hb
        have pw5 := keep_block hb pw4 (lt_of_block pw4)
        have rw5 := keep_block hb rw4 (lt_of_block rw4)
        have HBw5 : Hid (Below w.heap.size w w5) := HBw4.out.trans (hb.mono HBw4.out.size)
        have hPw5 : w.heap.size + 1 + 1 < w5.heap.size := lt_of_block pw5
        have hszw5 : w4.heap.size ≤ w5.heap.size := hb.size
        have HO0w5 := Lib.hid (cellsK.ownBelow HO0w4.out hb)
        have HO1w5 := Lib.hid own1
        have hN1 : ∀ b ∈ T1, w.heap.size + 1 + 1 < b := fun b hb => by have := hT1 b hb; have := hPw2; omega
        clear hb hownI hgrI own1
        obtain ⟨w6, hw6⟩ : ∃ q, w5.setCell ⟨w.heap.size + 1 + 1, 1, none⟩ (.slice (some ⟨w4.heap.size, 0, none⟩) M M) = q := ⟨_, rfl⟩
        have pw6 := hw6 ▸ set_cells pw5 1 (.slice (some ⟨w4.heap.size, 0, none⟩) M M)
        have rw6 : w6.heap[w.heap.size + 1]? = _ := hw6 ▸ keep_set rw5 (show w.heap.size + 1 ≠ w.heap.size + 1 + 1 by omega)
        have HBw6 : Hid (Below w.heap.size w w6) := hw6 ▸ HBw5.out.setCell (by show w.heap.size ≤ w.heap.size + 1 + 1; omega) _
        have HSw6 : Hid (w6.heap.size = w5.heap.size) := by show _ = _; rw [← hw6]; simp [World.setCell]
        have fw6 := thawed pw5 1
        obtain ⟨kw6a, kw6b, kw6c⟩ := cells3 pw5
        have HO0w6 := Lib.hid (hw6 ▸ cellsK.ownSet HO0w5.out (p := ⟨w.heap.size + 1 + 1, 1, none⟩) (fun b hb => by have := hN0 b hb; show b ≠ w.heap.size + 1 + 1; omega) (.slice (some ⟨w4.heap.size, 0, none⟩) M M))
        have HO1w6 := Lib.hid (hw6 ▸ intsK.ownSet HO1w5.out (p := ⟨w.heap.size + 1 + 1, 1, none⟩) (fun b hb => by have := hN1 b hb; show b ≠ w.heap.size + 1 + 1; omega) (.slice (some ⟨w4.heap.size, 0, none⟩) M M))
        go_wp2_with (at_make; refine wpList_make_full _ rfl _ _ 29 rfl w6.heap.size 3 i1 (.int .i64 0) 1 Tryd.underlying29 hj hj0 hj1 _ _ _ _ M rfl rfl rfl rfl (by rw [hj2]; omega) (by unfold maxLen; omega) (Nat.le_refl _) ?_)
        intro w7 hownI hgrI
        have hb : Below w6.heap.size w6 w7 := (Below.refl _ _).grown hgrI (Nat.le_refl _) (fun k hk => by cases hk)
        obtain ⟨T2, own2, hT2⟩ := (made_ints hownI).own
        have hlt2 : ∀ b ∈ T2, b < w7.heap.size := fun b hb => intsK.lt own2 b hb
        have pw7 := keep_block hb pw6 (lt_of_block pw6)
        have rw7 := keep_block hb rw6 (lt_of_block rw6)
        have HBw7 : Hid (Below w.heap.size w w7) := HBw6.out.trans (hb.mono HBw6.out.size)
        have hPw7 : w.heap.size + 1 + 1 < w7.heap.size := lt_of_block pw7
        have hszw7 : w6.heap.size ≤ w7.heap.size := hb.size
        have HO0w7 := Lib.hid (cellsK.ownBelow HO0w6.out hb)
        have HO1w7 := Lib.hid (intsK.ownBelow HO1w6.out hb)
        have HO2w7 := Lib.hid own2
        have hN2 : ∀ b ∈ T2, w.heap.size + 1 + 1 < b := fun b hb => by have := hT2 b hb; have := hPw2; have := HSw6.out; omega
        clear hb hownI hgrI own2
        obtain ⟨w8, hw8⟩ : ∃ q, w7.setCell ⟨w.heap.size + 1 + 1, 2, none⟩ (.slice (some ⟨w6.heap.size, 0, none⟩) M M) = q := ⟨_, rfl⟩
        have pw8 := hw8 ▸ set_cells pw7 2 (.slice (some ⟨w6.heap.size, 0, none⟩) M M)
        have rw8 : w8.heap[w.heap.size + 1]? = _ := hw8 ▸ keep_set rw7 (show w.heap.size + 1 ≠ w.heap.size + 1 + 1 by omega)
        have HBw8 : Hid (Below w.heap.size w w8) := hw8 ▸ HBw7.out.setCell (by show w.heap.size ≤ w.heap.size + 1 + 1; omega) _
        have HSw8 : Hid (w8.heap.size = w7.heap.size) := by show _ = _; rw [← hw8]; simp [World.setCell]
        have fw8 := thawed pw7 2
        obtain ⟨kw8a, kw8b, kw8c⟩ := cells3 pw7
        have HO0w8 := Lib.hid (hw8 ▸ cellsK.ownSet HO0w7.out (p := ⟨w.heap.size + 1 + 1, 2, none⟩) (fun b hb => by have := hN0 b hb; show b ≠ w.heap.size + 1 + 1; omega) (.slice (some ⟨w6.heap.size, 0, none⟩) M M))
        have HO1w8 := Lib.hid (hw8 ▸ intsK.ownSet HO1w7.out (p := ⟨w.heap.size + 1 + 1, 2, none⟩) (fun b hb => by have := hN1 b hb; show b ≠ w.heap.size + 1 + 1; omega) (.slice (some ⟨w6.heap.size, 0, none⟩) M M))
        have HO2w8 := Lib.hid (hw8 ▸ intsK.ownSet HO2w7.out (p := ⟨w.heap.size + 1 + 1, 2, none⟩) (fun b hb => by have := hN2 b hb; show b ≠ w.heap.size + 1 + 1; omega) (.slice (some ⟨w6.heap.size, 0, none⟩) M M))
        obtain ⟨c0, c1, c2⟩ := cells3 pw8
        have e0 := thawed rw8 0
        have e1 := thawed rw8 1
        have e2 := thawed rw8 2
        obtain ⟨s0, s1, s2⟩ := cells3 rw8
        have o9 := set_cells (set_cells (set_cells rw8 0 (.slice va k vc)) 1 (.slice (some ⟨w4.heap.size, 0, none⟩) M M)) 2 (.slice (some ⟨w6.heap.size, 0, none⟩) M M)
        obtain ⟨t0, t1, t2⟩ := cells3 o9
        have q0 : ∀ b ∈ T0, b ≠ w.heap.size + 1 := fun b hb => by have := hN0 b hb; omega
        have q1 : ∀ b ∈ T1, b ≠ w.heap.size + 1 := fun b hb => by have := hN1 b hb; omega
        have q2 : ∀ b ∈ T2, b ≠ w.heap.size + 1 := fun b hb => by have := hN2 b hb; omega
        go_wp2_with fail
        (try simp only [Exit.inBlock, Exit.then])
        have hsw6 := HSw6.out
        have hsw8 := HSw8.out
        refine bodyPost_ret (v := .agg #[.slice va k vc, .slice (some ⟨w4.heap.size, 0, none⟩) M M, .slice (some ⟨w6.heap.size, 0, none⟩) M M]) ?_ rfl ⟨[.slice va k vc, .slice (some ⟨w4.heap.size, 0, none⟩) M M, .slice (some ⟨w6.heap.size, 0, none⟩) M M], T0 ++ (T1 ++ T2), rfl, ?_, fun b hb => ?_, ?_⟩
        · simp [results, Tryd.results16, go_sem, t0, t1, t2]
        · rw [HE.out]
          refine arr_of ?_ ?_ ?_ (nodup_of (cellsK.nodup HO0w8.out) (intsK.nodup HO1w8.out) (intsK.nodup HO2w8.out) (fun b hb hb' => ?_) (fun b hb hb' => ?_) (fun b hb hb' => ?_))
          · exact cellsK.ownSet (cellsK.ownSet (cellsK.ownSet HO0w8.out (fun b hb => q0 b hb) _) (fun b hb => q0 b hb) _) (fun b hb => q0 b hb) _
          · exact intsK.ownSet (intsK.ownSet (intsK.ownSet HO1w8.out (fun b hb => q1 b hb) _) (fun b hb => q1 b hb) _) (fun b hb => q1 b hb) _
          · exact intsK.ownSet (intsK.ownSet (intsK.ownSet HO2w8.out (fun b hb => q2 b hb) _) (fun b hb => q2 b hb) _) (fun b hb => q2 b hb) _
          · have := hT1 b hb; have := hlt0 b hb'; omega
          · have := hT2 b hb; have := hlt0 b hb'; omega
          · have := hT2 b hb; have := hlt1 b hb'; omega
        · rcases List.mem_append.1 hb with h | h
          · have := hN0 b h; omega
          · rcases List.mem_append.1 h with h | h
            · have := hN1 b h; omega
            · have := hN2 b h; omega
        · exact ((HBw8.out.setCell (by show w.heap.size ≤ w.heap.size + 1; omega) _).setCell (by show w.heap.size ≤ w.heap.size + 1; omega) _).setCell (by show w.heap.size ≤ w.heap.size + 1; omega) _
    have hI : decide ((k : Int) < (L : Int)) = true := decide_eq_true (by omega)
    have wk : IntKind.i64.wrap ((k : Int) + 1) = (k : Int) + 1 := IntWalk.i64_in _ (by omega)
    go_wp2_with fail
    refine (specLine_is ga gb gr gd (L : Int) HL.out _).mono ?_
    rintro e w2 ⟨rfl, hb2⟩
    have hg2 := keep_block hb2 hgr (lt_of_block hgr)
    have HBL2 := Lib.hid (Kn.Bld.below HBL.out hb2)
    have HON2 : Hid (Only (w.heap.size + 1 + 1) u w2) := HON.out.trans ⟨hb2.os, hb2.tape, hb2.output, hb2.size, fun b hb _ => hb2.block b hb⟩
    clear HBL HON g0 r0 hgr x0 x1 x2 x3 hb2
    obtain ⟨y0, y1, y2⟩ := cells3 hg2
    obtain ⟨xs, hown, howns, hndS, hgeS, hvS⟩ := HBL2.out
    go_wp2_with fail
    refine wp_region_float (A := ?A) [.h, .h, .t, .t, .t, .t, .h, .e] (by kernel_rfl) (by kernel_rfl) (fun q => q.cell? ⟨w.heap.size + 1 + 1, 0, none⟩ = some v) ?hC ?hH ?hT
    case hC => exact y0
    case hH =>
      intro q hq
      have z0 := fun t : Same q => t.cell hq
      simp only [headsOf]
      repeat (go_big_quiet_step (fail))
      refine wpQuiet_nil ?_
      exact rfl
    case hT =>
      simp only [chainT]
      have y0' : w2.drew.cell? ⟨w.heap.size + 1 + 1, 0, none⟩ = some v := y0
      clear y0 y1 y2
      go_wp2_with (at_make; refine wpList_make_full _ rfl _ _ 29 rfl w2.heap.size 3 i1 (.int .i64 0) 1 Tryd.underlying29 hj hj0 hj1 _ _ _ _ 11 rfl rfl rfl rfl (by rw [hj2]; omega) (by unfold maxLen; omega) (Nat.le_refl _) ?_)
      intro w4 hownI hgrI
      have hbw : Below w2.heap.size w2 w4 := by
        have h0 : Below w2.heap.size w2 w2.drew := ⟨rfl, rfl, rfl, Nat.le_refl _, fun _ _ => rfl⟩
        exact h0.grown hgrI (Nat.le_refl _) (fun k hk => by cases hk)
      have made := Kn.Bld.made (k := intK) (T := 3) (z := (0 : Int)) (zc := [.int .i64 0]) (w := w4) ⟨rfl, rfl⟩ (by decide) hownI
      obtain ⟨T4, own4i, hT4⟩ := made.own
      have own4 := cell_of false own4i
      have hT4' : ∀ b ∈ T4, w2.heap.size ≤ b := hT4
      have a0 := (hbw.cell (World.block_lt_of_cell? _ _ y0')).trans y0'
      have g4 := keep_block hbw hg2 (lt_of_block hg2)
      have hown4 := ownsRow_below hown hbw
      have hlt4 := cellK.owns_lt howns
      have howns4 := cellK.owns_same howns (fun b hb => hbw.block b (hlt4 b hb))
      have hbA : Below w4.heap.size w4 (w4.alloc (.cells #[.slice (some ⟨w2.heap.size, 0, none⟩) 11 11, .bool false] 41)) := (Below.refl _ _).alloc (Nat.le_refl _) _
      have d0 := (hbA.cell (World.block_lt_of_cell? _ _ a0)).trans a0
      have g5 := keep_block hbA g4 (lt_of_block g4)
      have howns5 := cellK.owns_same howns4 (fun b hb => hbA.block b (by have := hlt4 b hb; have := hbw.size; omega))
      have own5 := cellK.ownBelow own4 hbA
      have hvb : ∀ j, Value.ownBlock v = some j → u.heap.size ≤ j ∧ j < w2.heap.size := fun j hj => World.ownsRow.lt hown j hj
      have hus : u.heap.size ≤ w2.heap.size := HON2.out.size
      have HTL := Lib.hid (show (List.replicate k (List.replicate 11 (0 : Int), false)).length = k from List.length_replicate)
      clear y0'
      refine stepQ_normal ⟨a0, ?_⟩
      go_wp2_with fail
      refine stepQ_normal ⟨a0, ?_⟩
      go_wp2_with fail
      refine stepQ_normal ⟨d0, ?_⟩
      go_wp2_with (at_builtin; refine wpList_append_own_at _ rfl _ _ 28 rfl u.heap.size 41 i0 (.agg #[.slice none 0 0, .bool false]) 2 32 Tryd.underlying28 hi hz0 hz1 hz2 rfl (by decide) _ _ _ rfl (World.ownsRow.alloc hown4 _) ⟨w4.heap.size, 0, none⟩ 1 1 [.slice (some ⟨w2.heap.size, 0, none⟩) 11 11, .bool false] rfl rfl (World.news_of_block (heap_alloc_new w4 _)) (by intro q hq; simp at hq; rcases hq with rfl | rfl <;> rfl) (by rw [HTL.out]; unfold maxLen; omega) (by rw [HTL.out]; omega) (by have := hbw.size; simp; omega) ?_)
      intro v' w6 hown6 hgrow _ hat
      have R : cellK.Bld 41 u.heap.size w6 (S ++ T4) v' (List.replicate k (List.replicate 11 (0 : Int), false) ++ [(List.replicate 11 (0 : Int), false)]) :=
        Kn.Bld.more (w := w4) (w2 := w4.alloc (.cells #[.slice (some ⟨w2.heap.size, 0, none⟩) 11 11, .bool false] 41)) howns5 hndS hgeS hvS own5 (fun b hb => by have := hT4' b hb; omega) (fun b hb hb' => by have := hT4' b hb; have := hlt4 b hb'; omega) (fun j hj hm => by have := hT4' j hm; have := (hvb j hj).2; omega) (by rw [HTL.out]; exact hown6) hgrow (by simpa using hat)
      have hsu := HSU.out
      have hgne : ∀ b, b < u.heap.size → some b ≠ Value.ownBlock v := fun b hb e => by have := (hvb b e.symm).1; omega
      have g6 := (hgrow.block (w.heap.size + 1 + 1) (lt_of_block g5) (hgne _ hsu)).trans g5
      have HON6 : Only (w.heap.size + 1 + 1) u w6 := by
        have hsz := hgrow.size
        have hsz2 := hbw.size
        refine ⟨(hgrow.os.trans (hbA.os.trans hbw.os)).trans HON2.out.os, (hgrow.tape.trans (hbA.tape.trans hbw.tape)).trans HON2.out.tape, (hgrow.output.trans (hbA.output.trans hbw.output)).trans HON2.out.output, by simp at hsz; omega, fun b hb hne => ?_⟩
        exact ((hgrow.block b (by simp; omega) (hgne b hb)).trans ((hbA.block b (by omega)).trans (hbw.block b (by omega)))).trans (HON2.out.block b hb hne)
      have e0 : w6.cell? ⟨w.heap.size + 1 + 1, 0, none⟩ = some v := (cells3 g6).1
      obtain ⟨aa, ag, hv', _, _⟩ := R.shape
      have hll : (List.replicate k (List.replicate 11 (0 : Int), false) ++ [(List.replicate 11 (0 : Int), false)]).length = k + 1 := by rw [List.length_append, List.length_replicate]; rfl
      rw [hll] at hv'
      subst hv'
      have f6 := thawed g6 0
      have g7 := set_cells g6 0 (.slice aa (k + 1) ag)
      have HR7 : Hid (cellK.Bld 41 u.heap.size (w6.setCell ⟨w.heap.size + 1 + 1, 0, none⟩ (.slice aa (k + 1) ag)) (S ++ T4) (.slice aa (k + 1) ag) (List.replicate (k + 1) (List.replicate 11 0, false))) := by
        show Kn.Bld _ _ _ _ _ _ _
        rw [List.replicate_succ']
        exact R.setCell hsu _
      have HON7 : Hid (Only (w.heap.size + 1 + 1) u (w6.setCell ⟨w.heap.size + 1 + 1, 0, none⟩ (.slice aa (k + 1) ag))) := HON6.setCell (p := ⟨w.heap.size + 1 + 1, 0, none⟩) rfl _
      clear a0 d0 g4 g5 R HON6 hown6 hgrow hown4 howns4 howns5 own5 own4 own4i made hownI hgrI hbA hat
      refine stepQ_normal ⟨e0, ?_⟩
      go_wp2_with fail
      refine stepQ_normal ⟨trivial, ?_⟩
      clear e0 f6
      go_wp2_with fail
      go_roundw
      case rel => exact ⟨k + 1, _, _, by omega, by go_num, HR7.out, g7, HON7.out⟩
      case measure => simp [intOf]; omega

end Go.Proofs.YtfpfgaifhmgpiaaDoor

namespace Go.Proofs.YtfpfgaifhmgpiaaDoor
open Go.RowKit Go.PlainAid

set_option linter.unusedVariables false

def StoreOk (ga gb gr gd : Int) (x : Arr) (bx br bc : Int) (c : List Int × Bool) : Prop := ArrOk ga gb gr gd x ∧ AdOk ga gb gr gd bx br bc ∧ SymOk c.1 11

instance (ga gb gr gd : Int) (x : Arr) (bx br bc : Int) (c : List Int × Bool) : Decidable (StoreOk ga gb gr gd x bx br bc c) := inferInstanceAs (Decidable (_ ∧ _))

end Go.Proofs.YtfpfgaifhmgpiaaDoor

namespace Go.Proofs.YtfpfgaifhmgpiaaDoor
open Go.RowKit Go.PlainAid

set_option linter.unusedVariables false

def IArrayNew (Gw : World → Prop) : Prop := ∀ (ga gb gr gd : Int) (w : World) (hG : Gw w), Calls Tryd.prog 23 #[.agg #[.int .i64 ga, .int .i64 gb, .int .i64 gr, .int .i64 gd]] w (GivesS arrK (newA ga gb gr gd) w)

def IArrayOk : Prop := ∀ (ga gb gr gd : Int) (cs : List Value) (x : Arr) (v : Bool) (hv : decide (ArrOk ga gb gr gd x) = v) (w : World) (h : arrK.rd w cs x) (hf : ArrFit x), Calls Tryd.prog 14 #[.agg #[.int .i64 ga, .int .i64 gb, .int .i64 gr, .int .i64 gd], .agg cs.toArray] w (Gives (.bool v) w)

def ISenseRow (Gv : World → Prop) : Prop := ∀ (ga gb gr gd la lh bk rw : Int) (cs : List Value) (x : Arr) (w : World) (h : arrK.rd w cs x) (hf : ArrFit x) (hG : Gv w), Calls Tryd.prog 13 #[.agg #[.int .i64 ga, .int .i64 gb, .int .i64 gr, .int .i64 gd], .agg #[.int .i64 la, .int .i64 lh], .agg cs.toArray, .int .i64 bk, .int .i64 rw] w (GivesS arrK (sensedF ga gb gr gd la lh x bk rw) w)

def ISenseBank (Gv : World → Prop) : Prop := ∀ (ga gb gr gd la lh bk : Int) (cs : List Value) (x : Arr) (w : World) (h : arrK.rd w cs x) (hf : ArrFit x) (hG : Gv w), Calls Tryd.prog 20 #[.agg #[.int .i64 ga, .int .i64 gb, .int .i64 gr, .int .i64 gd], .agg #[.int .i64 la, .int .i64 lh], .agg cs.toArray, .int .i64 bk] w (GivesS arrK (sensedB ga gb gr gd la lh x bk) w)

end Go.Proofs.YtfpfgaifhmgpiaaDoor

namespace Go.Proofs.YtfpfgaifhmgpiaaDoor
open Go.RowKit Go.PlainAid

set_option linter.unusedVariables false

theorem below_allocK (w : World) (o : Obj) : Below w.heap.size w (w.alloc o) := (Below.refl _ _).alloc (Nat.le_refl _) o

theorem intsTy : intsK.Ty [3] := Kn.Ty.row (Kn.Ty.flat _ _ _) (fun t h => by cases h) (by simp)

theorem boolTy : boolK.Ty [] := Kn.Ty.flat _ _ _

theorem cellTy : cellK.Ty [3] := Kn.Ty.pair intsTy boolTy (fun t h => h) (fun t h => by cases h)

theorem cellsTy : cellsK.Ty [41, 3] := Kn.Ty.row cellTy (fun t h => List.mem_cons_of_mem _ h) (by simp)

theorem arrTy : arrK.Ty [41, 3] := Kn.Ty.pair cellsTy (Kn.Ty.pair intsTy intsTy (fun t h => h) (fun t h => h)) (fun t h => h) (fun t h => List.mem_cons_of_mem _ h)

theorem eqArr_cs {cs ds : List Value} {x : Arr} {w : World} (ha : arrK.rd w cs x) (hb : arrK.rd w ds x) : Calls Tryd.prog 24 #[.agg cs.toArray, .agg ds.toArray] w (Gives (.bool true) w) := by
  obtain ⟨a0, n0, c0, a1, n1, c1, a2, n2, c2, rfl, h0, h1, h2⟩ := arr_rd ha
  obtain ⟨b0, m0, d0, b1, m1, d1, b2, m2, d2, rfl, k0, k1, k2⟩ := arr_rd hb
  exact eqArray_k h0 h1 h2 k0 k1 k2

theorem toLimits_any (a b : Int) (w : World) :
    Calls Tryd.prog 29 #[.agg #[.int .i64 a, .int .i64 b]] w (Gives (.agg #[.int .i64 a, .int .i64 b]) w) := by
  go_enter Tryd.func29, Tryd.ntmps29
  go_wp2
  (try simp only [Exit.inBlock, Exit.then])
  refine bodyPost_ret (v := .agg #[.int .i64 a, .int .i64 b]) (by simp [results, Tryd.results29, go_sem]) rfl ⟨rfl, ?_⟩
  repeat' (first | exact Below.refl _ _ | refine Below.drew ?_ | refine Below.alloc ?_ (by simp <;> omega) _ | refine Below.setCell ?_ (by simp <;> omega) _)

theorem cntL_set {α : Type} (cnt : α → Nat) {y : α} : ∀ (l : List α) (k : Nat), (∀ (h : k < l.length), cnt y = cnt l[k]) → cntL cnt (l.set k y) = cntL cnt l
  | [], _, _ => rfl
  | x :: l, 0, h => by
    show cnt y + _ = cnt x + _
    have : cnt y = cnt x := h (by simp)
    rw [this]
  | x :: l, k + 1, h => by
    show cnt x + cntL cnt (l.set k y) = cnt x + cntL cnt l
    rw [cntL_set cnt l k (fun hk => h (by simpa using hk))]

theorem cntL_replicate {α : Type} (cnt : α → Nat) (y : α) : ∀ n, cntL cnt (List.replicate n y) = n * cnt y
  | 0 => by simp [cntL]
  | n + 1 => by
    show cnt y + cntL cnt (List.replicate n y) = _
    rw [cntL_replicate cnt y n, Nat.succ_mul, Nat.add_comm]

theorem getD_get {α : Type} {l : List α} {k : Nat} {d : α} (h : k < l.length) : l.getD k d = l[k] := by
  rw [List.getD_eq_getElem?_getD, List.getElem?_eq_getElem h]
  rfl

theorem spoilN_cnt (X : List (List Int × Bool)) (b : Nat) : ∀ k, cntL cCnt (spoilN X b k) = cntL cCnt X
  | 0 => rfl
  | k + 1 => by
    rw [spoilN, cntL_set cCnt _ _ (fun h => ?_), spoilN_cnt X b k]
    rw [getD_get h]
    unfold cCnt spoil
    simp

theorem hitF_length (z : List Int) (k : Nat) : (hitF z k).length = z.length := by unfold hitF; simp

theorem hitsF_length (gr : Int) (z : List Int) (i : Nat) (rw : Int) : (hitsF gr z i rw).length = z.length := by
  unfold hitsF
  simp only
  split <;> split <;> simp [hitF_length]

theorem sense_cnt (gr gd la lh : Int) (x : Arr) (i : Nat) (rw : Int) : aCnt (senseF gr gd la lh x i rw) = aCnt x := by
  unfold aCnt senseF
  simp only [List.length_set, hitsF_length]
  split
  · rw [spoilN_cnt]
  · rfl

theorem bank_cnt (gr gd la lh : Int) (x : Arr) (b : Nat) : ∀ k, aCnt (bankF gr gd la lh x b k) = aCnt x
  | 0 => rfl
  | k + 1 => by rw [bankF, sense_cnt, bank_cnt gr gd la lh x b k]

theorem sensed_cnt (ga gb gr gd la lh bk rw : Int) (x : Arr) : aCnt (sensedF ga gb gr gd la lh x bk rw) = aCnt x := by
  unfold sensedF
  split
  · exact sense_cnt _ _ _ _ _ _ _
  · rfl

theorem sensedB_cnt (ga gb gr gd la lh bk : Int) (x : Arr) : aCnt (sensedB ga gb gr gd la lh x bk) = aCnt x := by
  unfold sensedB
  split
  · exact bank_cnt _ _ _ _ _ _ _
  · rfl

theorem new_cnt (ga gb gr gd : Int) : aCnt (newA ga gb gr gd) ≤ 1000000 := by
  have h1 := (lineN_range ga gb gr gd)
  unfold aCnt newA
  simp only [List.length_replicate]
  rw [cntL_replicate]
  have : cCnt (List.replicate 11 (0 : Int), false) = 12 := by unfold cCnt; simp
  rw [this]
  by_cases hg : GeoOk ga gb gr gd
  · have h2 := rowsN_range hg
    generalize bankN ga gb gr gd * gr = R at h2
    omega
  · have hb : bankN ga gb gr gd = 0 := if_neg hg
    rw [hb, Int.zero_mul]
    omega

theorem cntL_cCnt : ∀ (l : List (List Int × Bool)), cntL cCnt l = cntL symN l + l.length
  | [] => rfl
  | x :: l => by
    show cCnt x + cntL cCnt l = symN x + cntL symN l + (l.length + 1)
    rw [cntL_cCnt l]
    unfold cCnt symN
    omega

theorem cntL_mem {α : Type} (cnt : α → Nat) {x : α} : ∀ {l : List α}, x ∈ l → cnt x ≤ cntL cnt l
  | y :: l, h => by
    show _ ≤ cnt y + cntL cnt l
    rcases List.mem_cons.1 h with rfl | h
    · omega
    · have := cntL_mem cnt h
      omega

theorem markArr_v {cs : List Value} {S : List Nat} {x : Arr} {w : World} (h : arrK.own w S cs x) (hk : aCnt x ≤ 3000000) (v : Int) (hv : ((1 + aCnt x : Nat) : Int) = v) :
    Calls Tryd.prog 25 #[.agg cs.toArray, .int .i64 1] w fun e w' => e = .returned (.int .i64 v) ∧ arrK.own w' S cs (aMk x 1) ∧ OnlyS S w w' := by
  subst hv
  exact markArray_k h 1 (by omega)

theorem heldArr_v {cs : List Value} {x : Arr} {w : World} (h : arrK.rd w cs (aMk x 1)) (hk : aCnt x ≤ 3000000) (v : Int) (hv : ((1 + aCnt x : Nat) : Int) = v) :
    Calls Tryd.prog 26 #[.agg cs.toArray, .int .i64 1] w (Gives (.int .i64 v) w) := by
  subst hv
  exact heldArray_k 1 h (by omega)

/-- An array that is not too large to be taken. -/
theorem arr_size {x : Arr} (h : ¬ szF 1048576 (arrN x) < 0) : ArrFit x ∧ aCnt x ≤ 2097152 := by
  have h1 := (szF_ge h).2
  have h2 : arrN x ≤ 1048576 := by omega
  unfold arrN at h2
  refine ⟨⟨by omega, fun c hc => ?_, by omega, by omega⟩, ?_⟩
  · have h3 := cntL_mem symN hc
    have h4 : symN c = c.1.length := rfl
    omega
  · unfold aCnt
    rw [cntL_cCnt]
    omega

end Go.Proofs.YtfpfgaifhmgpiaaDoor

namespace Go.Proofs.YtfpfgaifhmgpiaaDoor
open Go.RowKit Go.PlainAid

set_option linter.unusedVariables false

set_option maxHeartbeats 16000000 in
set_option maxRecDepth 100000 in
theorem exSenseRow_of (Gv : World → Prop) (IMPL : Hid (ISenseRow Gv)) (ea eb ec ed : Int) (la lh : Int) (lx : List Value) (bk : Int) (rw : Int) (w : World) (s : Sh.Fits w (.and (.row (.and (.row (.num .i64)) (.and .flag .fin))) (.and (.row (.num .i64)) (.and (.row (.num .i64)) .fin))) lx) (GK : Hid (∀ w', Below w.heap.size w w' → Gv w')) :
    Calls Tryd.prog 7 #[.agg #[.int .i64 ea, .int .i64 eb, .int .i64 ec, .int .i64 ed], .agg #[.int .i64 la, .int .i64 lh], .agg lx.toArray, .int .i64 bk, .int .i64 rw] w fun e w' => e = .returned (.bool true) ∧ Below w.heap.size w w' := by
  obtain ⟨xx, hx⟩ := arr_in s
  obtain ⟨a0, n0, c0, a1, n1, c1, a2, n2, c2, rfl, _, _, _⟩ := arr_rd hx
  have HX0 := Lib.hid hx
  obtain ⟨sv, hsv⟩ : ∃ v, szF 1048576 (arrN xx) = v := ⟨_, rfl⟩
  have HSV := Lib.hid hsv
  obtain ⟨yy, hy⟩ : ∃ z, sensedF ea eb ec ed la lh xx bk rw = z := ⟨_, rfl⟩
  have HY := Lib.hid hy
  have SPEC : Hid (∀ (u : World) (cs : List Value), arrK.rd u cs xx → ArrFit xx → Calls Tryd.prog 28 #[.agg #[.int .i64 ea, .int .i64 eb, .int .i64 ec, .int .i64 ed], .agg #[.int .i64 la, .int .i64 lh], .agg cs.toArray, .int .i64 bk, .int .i64 rw] u (GivesS arrK yy u)) := fun u cs h hf => by rw [← HY.out]; exact specSenseRow_is ea eb ec ed la lh bk rw h hf
  have IM : Hid (∀ (u : World) (cs : List Value), arrK.rd u cs xx → ArrFit xx → Gv u → Calls Tryd.prog 13 #[.agg #[.int .i64 ea, .int .i64 eb, .int .i64 ec, .int .i64 ed], .agg #[.int .i64 la, .int .i64 lh], .agg cs.toArray, .int .i64 bk, .int .i64 rw] u (GivesS arrK yy u)) := fun u cs h hf hG => by rw [← HY.out]; exact IMPL.out ea eb ec ed la lh bk rw cs xx u h hf hG
  have HCY : Hid (aCnt xx ≤ 2097152 → aCnt yy ≤ 3000000) := fun h => by rw [← HY.out]; rw [sensed_cnt]; omega
  clear hy
  obtain ⟨w1, hw1⟩ : ∃ u, (((w.alloc (.cells #[.int .i64 ea, .int .i64 eb, .int .i64 ec, .int .i64 ed] 51)).alloc (.cells #[.int .i64 la, .int .i64 lh] 56)).alloc (.cells #[.slice a0 n0 c0, .slice a1 n1 c1, .slice a2 n2 c2] 59)) = u := ⟨_, rfl⟩
  obtain ⟨gg1, ll1, mm1, hb1⟩ := alloc3 hw1
  have HB1 : Hid (Below w.heap.size w w1) := hb1
  clear hb1
  clear hx hsv
  go_enter Tryd.func7, Tryd.ntmps7
  obtain ⟨kmm0, kmm1, kmm2⟩ := cells3 mm1
  go_wp2_with fail
  refine (szArray_k (arrK.below HX0.out HB1.out) 1048576 sv (by decide) (by decide) HSV.out).mono ?_
  rintro e w2 ⟨rfl, hb2⟩
  clear kmm0 kmm1 kmm2
  have gg2 := keep_block hb2 gg1 (lt_of_block gg1)
  have ll2 := keep_block hb2 ll1 (lt_of_block ll1)
  have mm2 := keep_block hb2 mm1 (lt_of_block mm1)
  have HB2 : Hid (Below w.heap.size w w2) := HB1.out.trans (hb2.mono HB1.out.size)
  clear gg1 ll1 mm1 HB1
  clear hb2
  clear hw1
  by_cases hs : sv < 0
  · have ts : decide (sv < 0) = true := decide_eq_true hs
    go_wp2_with fail
    go_ret
    exact ⟨rfl, HB2.out⟩
  have ts : decide (sv < 0) = false := decide_eq_false hs
  have hfit := arr_size (x := xx) (by rw [HSV.out]; exact hs)
  have HFIT := Lib.hid hfit.1
  have HCNT := Lib.hid hfit.2
  clear hs hfit
  have HC := HCY.out HCNT.out
  have HCYN := Lib.hid HC
  have t1x : decide (((1 + aCnt xx : Nat) : Int) < 0) = false := decide_eq_false (by omega)
  have t1y : decide (((1 + aCnt yy : Nat) : Int) < 0) = false := decide_eq_false (by omega)
  have tyy : (((1 + aCnt yy : Nat) : Int) != ((1 + aCnt yy : Nat) : Int)) = false := by simp
  obtain ⟨ky, hky⟩ : ∃ z : Int, ((1 + aCnt yy : Nat) : Int) = z := ⟨_, rfl⟩
  obtain ⟨kx, hkx⟩ : ∃ z : Int, ((1 + aCnt xx : Nat) : Int) = z := ⟨_, rfl⟩
  rw [hky] at t1y tyy
  rw [hkx] at t1x
  have HKY := Lib.hid hky
  have HKX := Lib.hid hkx
  clear HC hky hkx
  go_wp2_with fail
  refine wp_region_flowV (fun k => match k with | 0 => some (.agg #[.int .i64 ea, .int .i64 eb, .int .i64 ec, .int .i64 ed]) | 1 => some (.agg #[.int .i64 ea, .int .i64 eb, .int .i64 ec, .int .i64 ed]) | 2 => some (.agg #[.int .i64 la, .int .i64 lh]) | 3 => some (.agg #[.int .i64 la, .int .i64 lh]) | 4 => some (.agg #[.slice a0 n0 c0, .slice a1 n1 c1, .slice a2 n2 c2]) | 6 => some (.int .i64 bk) | 7 => some (.int .i64 rw) | _ => none) (fun listed x u => FactW 5 8 (HasK arrK xx w2.heap.size) listed x u ∧ FactW 8 10 (HasK arrK yy w2.heap.size) listed x u ∧ MadeK arrK 31 #[.slice none 0 0, .slice none 0 0, .slice none 0 0] 9 10 w2.heap.size yy listed x u) (fun _ => undef) (by kernel_rfl) (by kernel_rfl) ?hxR1 ?hSR1 ?hsR1 ?heR1
  case hxR1 => simp only [putsX, Act.put, List.setIfInBounds_toArray, List.set_cons_zero, List.set_cons_succ]
  case hSR1 => exact ⟨FactW.zero _ _ _ _ _ _, FactW.zero _ _ _ _ _ _, MadeK.zero _ _ _ _ _ _ _ _ _ _⟩
  case hsR1 =>
    simp only [flowSteps]
    refine ⟨?sR1_0, ?sR1_1, ?sR1_2, ?sR1_3, ?sR1_4, ?sR1_5, ?sR1_6, ?sR1_7, ?sR1_8, ?sR1_9, ?sR1_10, trivial⟩
    case sR1_0 =>
      intro listed bb u hsz hn hwt hinv
      obtain ⟨x, rfl, hC, hU, hA0, hO, hM⟩ := hinv
      simp only [putsX, Act.put, List.setIfInBounds_toArray, List.set_cons_zero, List.set_cons_succ]
      obtain ⟨d0, d1, d2, d3⟩ := cells4 (keep_block hC gg2 (lt_of_block gg2))
      go_wp2_with fail
      refine stepQ_normal ⟨trivial, upd x 0 (.agg #[.int .i64 ea, .int .i64 eb, .int .i64 ec, .int .i64 ed]), ?_, hC, hU.step (fun _ h => Option.some.inj h), hA0.keep (by decide) (by decide) _ id, hO.keep (by decide) (by decide) _ id, hM.keep (by decide) (by decide) _ (Below.refl _ _)⟩
      simp only [upd]
      rfl
    case sR1_1 =>
      intro listed bb u hsz hn hwt hinv
      obtain ⟨x, rfl, hC, hU, hA0, hO, hM⟩ := hinv
      have f0 := Lib.hid (hU 0 _ rfl (hwt 0 (by kernel_rfl)))
      simp only [putsX, Act.put, List.setIfInBounds_toArray, List.set_cons_zero, List.set_cons_succ]
      have hcall : Calls Tryd.prog 22 #[x 0] u (Gives (.agg #[.int .i64 ea, .int .i64 eb, .int .i64 ec, .int .i64 ed]) u) := by rw [f0.out]; exact toGeometry_any _ _ _ _ _
      go_wp2_with fail
      refine hcall.mono ?_
      rintro e' u' ⟨rfl, hb⟩
      go_wp2_with fail
      refine stepQ_normal ⟨trivial, upd x 1 (.agg #[.int .i64 ea, .int .i64 eb, .int .i64 ec, .int .i64 ed]), ?_, hC.trans (hb.mono hC.size), hU.step (fun _ h => Option.some.inj h), hA0.keep (by decide) (by decide) _ (fun h => HasK.below h (hb)), hO.keep (by decide) (by decide) _ (fun h => HasK.below h (hb)), hM.keep (by decide) (by decide) _ (hb)⟩
      simp only [upd]
      rfl
    case sR1_2 =>
      intro listed bb u hsz hn hwt hinv
      obtain ⟨x, rfl, hC, hU, hA0, hO, hM⟩ := hinv
      simp only [putsX, Act.put, List.setIfInBounds_toArray, List.set_cons_zero, List.set_cons_succ]
      obtain ⟨d0, d1⟩ := cells2 (keep_block hC ll2 (lt_of_block ll2))
      go_wp2_with fail
      refine stepQ_normal ⟨trivial, upd x 2 (.agg #[.int .i64 la, .int .i64 lh]), ?_, hC, hU.step (fun _ h => Option.some.inj h), hA0.keep (by decide) (by decide) _ id, hO.keep (by decide) (by decide) _ id, hM.keep (by decide) (by decide) _ (Below.refl _ _)⟩
      simp only [upd]
      rfl
    case sR1_3 =>
      intro listed bb u hsz hn hwt hinv
      obtain ⟨x, rfl, hC, hU, hA0, hO, hM⟩ := hinv
      have f2 := Lib.hid (hU 2 _ rfl (hwt 2 (by kernel_rfl)))
      simp only [putsX, Act.put, List.setIfInBounds_toArray, List.set_cons_zero, List.set_cons_succ]
      have hcall : Calls Tryd.prog 29 #[x 2] u (Gives (.agg #[.int .i64 la, .int .i64 lh]) u) := by rw [f2.out]; exact toLimits_any _ _ _
      go_wp2_with fail
      refine hcall.mono ?_
      rintro e' u' ⟨rfl, hb⟩
      go_wp2_with fail
      refine stepQ_normal ⟨trivial, upd x 3 (.agg #[.int .i64 la, .int .i64 lh]), ?_, hC.trans (hb.mono hC.size), hU.step (fun _ h => Option.some.inj h), hA0.keep (by decide) (by decide) _ (fun h => HasK.below h (hb)), hO.keep (by decide) (by decide) _ (fun h => HasK.below h (hb)), hM.keep (by decide) (by decide) _ (hb)⟩
      simp only [upd]
      rfl
    case sR1_4 =>
      intro listed bb u hsz hn hwt hinv
      obtain ⟨x, rfl, hC, hU, hA0, hO, hM⟩ := hinv
      simp only [putsX, Act.put, List.setIfInBounds_toArray, List.set_cons_zero, List.set_cons_succ]
      obtain ⟨d0, d1, d2⟩ := cells3 (keep_block hC mm2 (lt_of_block mm2))
      go_wp2_with fail
      refine stepQ_normal ⟨trivial, upd x 4 (.agg #[.slice a0 n0 c0, .slice a1 n1 c1, .slice a2 n2 c2]), ?_, hC, hU.step (fun _ h => Option.some.inj h), hA0.keep (by decide) (by decide) _ id, hO.keep (by decide) (by decide) _ id, hM.keep (by decide) (by decide) _ (Below.refl _ _)⟩
      simp only [upd]
      rfl
    case sR1_5 =>
      intro listed bb u hsz hn hwt hinv
      obtain ⟨x, rfl, hC, hU, hA0, hO, hM⟩ := hinv
      have f4 := Lib.hid (hU 4 _ rfl (hwt 4 (by kernel_rfl)))
      simp only [putsX, Act.put, List.setIfInBounds_toArray, List.set_cons_zero, List.set_cons_succ]
      have hbu := HB2.out.trans (hC.mono HB2.out.size)
      have hcall : Calls Tryd.prog 30 #[x 4] u (GivesS arrK xx u) := by rw [f4.out]; exact toArray_k (arrK.below HX0.out hbu) HFIT.out.1 HFIT.out.2.1 HFIT.out.2.2.1 HFIT.out.2.2.2
      go_wp2_with fail
      refine hcall.mono ?_
      rintro e' u' ⟨cs, SS, rfl, own, hss, hb⟩
      go_wp2_with fail
      refine stepQ_normal ⟨trivial, upd x 5 (.agg cs.toArray), ?_, hC.trans (hb.mono hC.size), hU.step (fun _ h => by cases h), FactW.new ⟨cs, SS, rfl, own, fun b h => Nat.le_trans hC.size (hss b h)⟩, hO.keep (by decide) (by decide) _ (fun h => HasK.below h (hb)), hM.keep (by decide) (by decide) _ (hb)⟩
      simp only [upd]
      rfl
    case sR1_6 =>
      intro listed bb u hsz hn hwt hinv
      obtain ⟨x, rfl, hC, hU, hA0, hO, hM⟩ := hinv
      simp only [putsX, Act.put, List.setIfInBounds_toArray, List.set_cons_zero, List.set_cons_succ]
      go_wp2_with fail
      refine stepQ_normal ⟨trivial, upd x 6 (.int .i64 bk), ?_, hC, hU.step (fun _ h => Option.some.inj h), hA0.keep (by decide) (by decide) _ id, hO.keep (by decide) (by decide) _ id, hM.keep (by decide) (by decide) _ (Below.refl _ _)⟩
      simp only [upd]
      rfl
    case sR1_7 =>
      intro listed bb u hsz hn hwt hinv
      obtain ⟨x, rfl, hC, hU, hA0, hO, hM⟩ := hinv
      simp only [putsX, Act.put, List.setIfInBounds_toArray, List.set_cons_zero, List.set_cons_succ]
      go_wp2_with fail
      refine stepQ_normal ⟨trivial, upd x 7 (.int .i64 rw), ?_, hC, hU.step (fun _ h => Option.some.inj h), hA0.keep (by decide) (by decide) _ id, hO.keep (by decide) (by decide) _ id, hM.keep (by decide) (by decide) _ (Below.refl _ _)⟩
      simp only [upd]
      rfl
    case sR1_8 =>
      intro listed bb u hsz hn hwt hinv
      obtain ⟨x, rfl, hC, hU, hA0, hO, hM⟩ := hinv
      have f1 := Lib.hid (hU 1 _ rfl (hwt 1 (by kernel_rfl)))
      have f3 := Lib.hid (hU 3 _ rfl (hwt 3 (by kernel_rfl)))
      have f6 := Lib.hid (hU 6 _ rfl (hwt 6 (by kernel_rfl)))
      have f7 := Lib.hid (hU 7 _ rfl (hwt 7 (by kernel_rfl)))
      simp only [putsX, Act.put, List.setIfInBounds_toArray, List.set_cons_zero, List.set_cons_succ]
      obtain ⟨cs0, S0, fp0, ow0, _⟩ := hA0 (hwt 5 (by kernel_rfl)) hn
      have hcall : Calls Tryd.prog 28 #[x 1, x 3, x 5, x 6, x 7] u (GivesS arrK yy u) := by rw [f1.out, f3.out, fp0, f6.out, f7.out]; exact SPEC.out u _ (arrK.read ow0) HFIT.out
      clear fp0
      go_wp2_with fail
      refine hcall.mono ?_
      rintro e' u' ⟨cs, SS, rfl, own, hss, hb⟩
      go_wp2_with fail
      refine stepQ_normal ⟨trivial, upd x 8 (.agg cs.toArray), ?_, hC.trans (hb.mono hC.size), hU.step (fun _ h => by cases h), FactW.call (by rw [hsz]; decide), FactW.new ⟨cs, SS, rfl, own, fun b h => Nat.le_trans hC.size (hss b h)⟩, hM.keep (by decide) (by decide) _ (hb)⟩
      simp only [upd]
      rfl
    case sR1_9 =>
      intro listed bb u hsz hn hwt hinv
      obtain ⟨x, rfl, hC, hU, hA0, hO, hM⟩ := hinv
      simp only [putsX, Act.put, List.setIfInBounds_toArray, List.set_cons_zero, List.set_cons_succ]
      go_wp2_with fail
      refine stepQ_normal ⟨trivial, upd x 9 (.pointer (some ⟨u.heap.size, 0, none⟩)), ?_, hC.alloc hC.size _, hU.step (fun _ h => by cases h), hA0.keep (by decide) (by decide) _ (fun h => HasK.below h (below_allocK _ _)), hO.keep (by decide) (by decide) _ (fun h => HasK.below h (below_allocK _ _)), hM.new (by decide) hn hC.size⟩
      simp only [upd]
      rfl
    case sR1_10 =>
      intro listed bb u hsz hn hwt hinv
      obtain ⟨x, rfl, hC, hU, hA0, hO, hM⟩ := hinv
      simp only [putsX, Act.put, List.setIfInBounds_toArray, List.set_cons_zero, List.set_cons_succ]
      obtain ⟨g, fg, hg, hh⟩ := hM.there (hwt 9 (by kernel_rfl)) hn
      obtain ⟨cs, SS, fp, own, hss⟩ := hO (hwt 8 (by kernel_rfl)) hn
      obtain ⟨a0, n0, c0, a1, n1, c1, a2, n2, c2, rfl, _, _, _⟩ := arr_rd (arrK.read own)
      have FG := Lib.hid fg
      have FP := Lib.hid fp
      rw [FG.out, FP.out]
      obtain ⟨y0, y1, y2⟩ := cells3 hh
      have t0 := thawed hh 0
      have t1 := thawed hh 1
      have t2 := thawed hh 2
      have hng : g ∉ SS := arrTy.notin own hh (by decide)
      have own0 := own
      have hfin := set_cells (set_cells (set_cells (hh) 0 (.slice a0 n0 c0)) 1 (.slice a1 n1 c1)) 2 (.slice a2 n2 c2)
      have OW := Lib.hid (Kn.ownSet arrK (Kn.ownSet arrK (Kn.ownSet arrK own0 (p := ⟨g, 0, none⟩) (fun b h e => hng ((show b = g from e) ▸ h)) (.slice a0 n0 c0)) (p := ⟨g, 1, none⟩) (fun b h e => hng ((show b = g from e) ▸ h)) (.slice a1 n1 c1)) (p := ⟨g, 2, none⟩) (fun b h e => hng ((show b = g from e) ▸ h)) (.slice a2 n2 c2))
      have HSS := Lib.hid hss
      have HNG := Lib.hid hng
      clear hh fg fp own own0 hss hng
      go_wp2_with fail
      refine stepQ_normal ⟨trivial, upd x 10 undef, ?_, (((hC).setCell (by exact hg) _).setCell (by exact hg) _).setCell (by exact hg) _, hU.step (fun _ h => by cases h), FactW.gone (hwt 8 (by kernel_rfl)), FactW.call (by rw [hsz]; decide), MadeK.fill (by decide) (hwt 9 (by kernel_rfl)) (by rw [hsz]; decide) FG.out hg hfin OW.out HNG.out HSS.out⟩
      simp only [upd]
      simp only [FG.out, FP.out]
      (try rfl)
  case heR1 =>
    intro listed q w3 hall hC hU hS
    obtain ⟨hA0, hO, hM⟩ := hS
    obtain ⟨PV, cs, SV, fg, hgP, hh, own, hng, hss⟩ := hM.full (hall 9 (by decide)) (hall 10 (by decide))
    obtain ⟨Va0, Vn0, Vc0, Va1, Vn1, Vc1, Va2, Vn2, Vc2, rfl, _, _, _⟩ := arr_rd (arrK.read own)
    simp only [putsX, Act.put, List.setIfInBounds_toArray, List.set_cons_zero, List.set_cons_succ]
    rw [fg]
    clear hall hU fg hA0 hO hM
    generalize q 0 = _q0, q 1 = _q1, q 2 = _q2, q 3 = _q3, q 4 = _q4, q 5 = _q5, q 6 = _q6, q 7 = _q7, q 8 = _q8
    have gg3 := keep_block hC gg2 (lt_of_block gg2)
    have ll3 := keep_block hC ll2 (lt_of_block ll2)
    have mm3 := keep_block hC mm2 (lt_of_block mm2)
    have HB3 : Hid (Below w.heap.size w w3) := HB2.out.trans (hC.mono HB2.out.size)
    have BV : Hid (∀ b ∈ SV, w2.heap.size ≤ b) := hss
    have V3 : Hid (arrK.own w3 SV [.slice Va0 Vn0 Vc0, .slice Va1 Vn1 Vc1, .slice Va2 Vn2 Vc2] yy) := own
    have qV3 := hh
    have NVgg : Hid (w.heap.size ∉ SV) := fun h => by have h1 := lt_of_block gg2; have h2 := BV.out _ h; omega
    have NVll : Hid ((w.heap.size + 1) ∉ SV) := fun h => by have h1 := lt_of_block ll2; have h2 := BV.out _ h; omega
    have NVmm : Hid ((w.heap.size + 1 + 1) ∉ SV) := fun h => by have h1 := lt_of_block mm2; have h2 := BV.out _ h; omega
    have NVqV : Hid (PV ∉ SV) := hng
    clear own hss hh hC hng hgP
    clear gg2 ll2 mm2 HB2
    have SZX : Hid (w.heap.size ≤ w3.heap.size) := HB3.out.size
    obtain ⟨kmm0, kmm1, kmm2⟩ := cells3 mm3
    go_wp2_with fail
    refine (toArray_k (arrK.below HX0.out HB3.out) HFIT.out.1 HFIT.out.2.1 HFIT.out.2.2.1 HFIT.out.2.2.2).mono ?_
    rintro e w4 ⟨cs, SX, rfl, own4, hs4, hb4⟩
    clear kmm0 kmm1 kmm2
    have gg4 := keep_block hb4 gg3 (lt_of_block gg3)
    have ll4 := keep_block hb4 ll3 (lt_of_block ll3)
    have mm4 := keep_block hb4 mm3 (lt_of_block mm3)
    have qV4 := keep_block hb4 qV3 (lt_of_block qV3)
    have V4 : Hid (arrK.own w4 SV [.slice Va0 Vn0 Vc0, .slice Va1 Vn1 Vc1, .slice Va2 Vn2 Vc2] yy) := arrK.ownBelow V3.out hb4
    have HB4 : Hid (Below w.heap.size w w4) := HB3.out.trans (hb4.mono HB3.out.size)
    have BX : Hid (∀ b ∈ SX, w3.heap.size ≤ b) := hs4
    clear hs4
    obtain ⟨Xa0, Xn0, Xc0, Xa1, Xn1, Xc1, Xa2, Xn2, Xc2, rfl, _, _, _⟩ := arr_rd (arrK.read own4)
    have X4 : Hid (arrK.own w4 SX [.slice Xa0 Xn0 Xc0, .slice Xa1 Xn1 Xc1, .slice Xa2 Xn2 Xc2] xx) := own4
    have DVX : Hid (∀ b ∈ SV, b ∉ SX) := fun b h1 h2 => by have h3 := arrK.lt V3.out b h1; have h4 := BX.out b h2; omega
    have NXgg : Hid (w.heap.size ∉ SX) := fun h => by have h1 := lt_of_block gg3; have h2 := BX.out _ h; omega
    have NXll : Hid ((w.heap.size + 1) ∉ SX) := fun h => by have h1 := lt_of_block ll3; have h2 := BX.out _ h; omega
    have NXmm : Hid ((w.heap.size + 1 + 1) ∉ SX) := fun h => by have h1 := lt_of_block mm3; have h2 := BX.out _ h; omega
    have NXqV : Hid (PV ∉ SX) := fun h => by have h1 := lt_of_block qV3; have h2 := BX.out _ h; omega
    clear own4 hb4
    clear gg3 ll3 mm3 qV3 V3 HB3
    obtain ⟨PX, hPX⟩ : ∃ P, w4.heap.size = P := ⟨_, rfl⟩
    have NVqX : Hid (PX ∉ SV) := fun h => by have h1 := arrK.lt V4.out _ h; omega
    have NXqX : Hid (PX ∉ SX) := fun h => by have h1 := arrK.lt X4.out _ h; omega
    have HPX := Lib.hid hPX
    clear hPX
    have hb5 : Below w4.heap.size w4 (w4.alloc (.cells #[.slice Xa0 Xn0 Xc0, .slice Xa1 Xn1 Xc1, .slice Xa2 Xn2 Xc2] 31)) := (Below.refl _ _).alloc (Nat.le_refl _) _
    have gg5 := keep_block hb5 gg4 (lt_of_block gg4)
    have ll5 := keep_block hb5 ll4 (lt_of_block ll4)
    have mm5 := keep_block hb5 mm4 (lt_of_block mm4)
    have qV5 := keep_block hb5 qV4 (lt_of_block qV4)
    have V5 : Hid (arrK.own (w4.alloc (.cells #[.slice Xa0 Xn0 Xc0, .slice Xa1 Xn1 Xc1, .slice Xa2 Xn2 Xc2] 31)) SV [.slice Va0 Vn0 Vc0, .slice Va1 Vn1 Vc1, .slice Va2 Vn2 Vc2] yy) := arrK.ownBelow V4.out hb5
    have X5 : Hid (arrK.own (w4.alloc (.cells #[.slice Xa0 Xn0 Xc0, .slice Xa1 Xn1 Xc1, .slice Xa2 Xn2 Xc2] 31)) SX [.slice Xa0 Xn0 Xc0, .slice Xa1 Xn1 Xc1, .slice Xa2 Xn2 Xc2] xx) := arrK.ownBelow X4.out hb5
    have qX5 := heap_alloc_new w4 (.cells #[.slice Xa0 Xn0 Xc0, .slice Xa1 Xn1 Xc1, .slice Xa2 Xn2 Xc2] 31)
    have HB5 : Hid (Below w.heap.size w (w4.alloc (.cells #[.slice Xa0 Xn0 Xc0, .slice Xa1 Xn1 Xc1, .slice Xa2 Xn2 Xc2] 31))) := HB4.out.trans (hb5.mono HB4.out.size)
    go_wp2_with fail
    clear hb5
    clear gg4 ll4 mm4 qV4 V4 X4 HB4
    generalize (w4.alloc (.cells #[.slice Xa0 Xn0 Xc0, .slice Xa1 Xn1 Xc1, .slice Xa2 Xn2 Xc2] 31)) = w5 at gg5 ll5 mm5 qV5 V5 X5 qX5 HB5 ⊢
    rw [HPX.out] at qX5
    (try simp only [HPX.out])
    clear HPX
    have SZG : Hid (w.heap.size ≤ w5.heap.size) := HB5.out.size
    go_wp2_with fail
    refine wp_region_flowV (fun k => match k with | 0 => some (.agg #[.int .i64 ea, .int .i64 eb, .int .i64 ec, .int .i64 ed]) | 1 => some (.agg #[.int .i64 ea, .int .i64 eb, .int .i64 ec, .int .i64 ed]) | 2 => some (.agg #[.int .i64 la, .int .i64 lh]) | 3 => some (.agg #[.int .i64 la, .int .i64 lh]) | 4 => some (.agg #[.slice Xa0 Xn0 Xc0, .slice Xa1 Xn1 Xc1, .slice Xa2 Xn2 Xc2]) | 5 => some (.int .i64 bk) | 6 => some (.int .i64 rw) | _ => none) (fun listed x u => FactW 7 9 (HasK arrK yy w5.heap.size) listed x u ∧ MadeK arrK 31 #[.slice none 0 0, .slice none 0 0, .slice none 0 0] 8 9 w5.heap.size yy listed x u) (fun _ => undef) (by kernel_rfl) (by kernel_rfl) ?hxR2 ?hSR2 ?hsR2 ?heR2
    case hxR2 => simp only [putsX, Act.put, List.setIfInBounds_toArray, List.set_cons_zero, List.set_cons_succ]
    case hSR2 => exact ⟨FactW.zero _ _ _ _ _ _, MadeK.zero _ _ _ _ _ _ _ _ _ _⟩
    case hsR2 =>
      simp only [flowSteps]
      refine ⟨?sR2_0, ?sR2_1, ?sR2_2, ?sR2_3, ?sR2_4, ?sR2_5, ?sR2_6, ?sR2_7, ?sR2_8, ?sR2_9, trivial⟩
      case sR2_0 =>
        intro listed bb u hsz hn hwt hinv
        obtain ⟨x, rfl, hC, hU, hO, hM⟩ := hinv
        simp only [putsX, Act.put, List.setIfInBounds_toArray, List.set_cons_zero, List.set_cons_succ]
        obtain ⟨d0, d1, d2, d3⟩ := cells4 (keep_block hC gg5 (lt_of_block gg5))
        go_wp2_with fail
        refine stepQ_normal ⟨trivial, upd x 0 (.agg #[.int .i64 ea, .int .i64 eb, .int .i64 ec, .int .i64 ed]), ?_, hC, hU.step (fun _ h => Option.some.inj h), hO.keep (by decide) (by decide) _ id, hM.keep (by decide) (by decide) _ (Below.refl _ _)⟩
        simp only [upd]
        rfl
      case sR2_1 =>
        intro listed bb u hsz hn hwt hinv
        obtain ⟨x, rfl, hC, hU, hO, hM⟩ := hinv
        have f0 := Lib.hid (hU 0 _ rfl (hwt 0 (by kernel_rfl)))
        simp only [putsX, Act.put, List.setIfInBounds_toArray, List.set_cons_zero, List.set_cons_succ]
        have hcall : Calls Tryd.prog 22 #[x 0] u (Gives (.agg #[.int .i64 ea, .int .i64 eb, .int .i64 ec, .int .i64 ed]) u) := by rw [f0.out]; exact toGeometry_any _ _ _ _ _
        go_wp2_with fail
        refine hcall.mono ?_
        rintro e' u' ⟨rfl, hb⟩
        go_wp2_with fail
        refine stepQ_normal ⟨trivial, upd x 1 (.agg #[.int .i64 ea, .int .i64 eb, .int .i64 ec, .int .i64 ed]), ?_, hC.trans (hb.mono hC.size), hU.step (fun _ h => Option.some.inj h), hO.keep (by decide) (by decide) _ (fun h => HasK.below h (hb)), hM.keep (by decide) (by decide) _ (hb)⟩
        simp only [upd]
        rfl
      case sR2_2 =>
        intro listed bb u hsz hn hwt hinv
        obtain ⟨x, rfl, hC, hU, hO, hM⟩ := hinv
        simp only [putsX, Act.put, List.setIfInBounds_toArray, List.set_cons_zero, List.set_cons_succ]
        obtain ⟨d0, d1⟩ := cells2 (keep_block hC ll5 (lt_of_block ll5))
        go_wp2_with fail
        refine stepQ_normal ⟨trivial, upd x 2 (.agg #[.int .i64 la, .int .i64 lh]), ?_, hC, hU.step (fun _ h => Option.some.inj h), hO.keep (by decide) (by decide) _ id, hM.keep (by decide) (by decide) _ (Below.refl _ _)⟩
        simp only [upd]
        rfl
      case sR2_3 =>
        intro listed bb u hsz hn hwt hinv
        obtain ⟨x, rfl, hC, hU, hO, hM⟩ := hinv
        have f2 := Lib.hid (hU 2 _ rfl (hwt 2 (by kernel_rfl)))
        simp only [putsX, Act.put, List.setIfInBounds_toArray, List.set_cons_zero, List.set_cons_succ]
        have hcall : Calls Tryd.prog 29 #[x 2] u (Gives (.agg #[.int .i64 la, .int .i64 lh]) u) := by rw [f2.out]; exact toLimits_any _ _ _
        go_wp2_with fail
        refine hcall.mono ?_
        rintro e' u' ⟨rfl, hb⟩
        go_wp2_with fail
        refine stepQ_normal ⟨trivial, upd x 3 (.agg #[.int .i64 la, .int .i64 lh]), ?_, hC.trans (hb.mono hC.size), hU.step (fun _ h => Option.some.inj h), hO.keep (by decide) (by decide) _ (fun h => HasK.below h (hb)), hM.keep (by decide) (by decide) _ (hb)⟩
        simp only [upd]
        rfl
      case sR2_4 =>
        intro listed bb u hsz hn hwt hinv
        obtain ⟨x, rfl, hC, hU, hO, hM⟩ := hinv
        simp only [putsX, Act.put, List.setIfInBounds_toArray, List.set_cons_zero, List.set_cons_succ]
        obtain ⟨d0, d1, d2⟩ := cells3 (keep_block hC qX5 (lt_of_block qX5))
        go_wp2_with fail
        refine stepQ_normal ⟨trivial, upd x 4 (.agg #[.slice Xa0 Xn0 Xc0, .slice Xa1 Xn1 Xc1, .slice Xa2 Xn2 Xc2]), ?_, hC, hU.step (fun _ h => Option.some.inj h), hO.keep (by decide) (by decide) _ id, hM.keep (by decide) (by decide) _ (Below.refl _ _)⟩
        simp only [upd]
        rfl
      case sR2_5 =>
        intro listed bb u hsz hn hwt hinv
        obtain ⟨x, rfl, hC, hU, hO, hM⟩ := hinv
        simp only [putsX, Act.put, List.setIfInBounds_toArray, List.set_cons_zero, List.set_cons_succ]
        go_wp2_with fail
        refine stepQ_normal ⟨trivial, upd x 5 (.int .i64 bk), ?_, hC, hU.step (fun _ h => Option.some.inj h), hO.keep (by decide) (by decide) _ id, hM.keep (by decide) (by decide) _ (Below.refl _ _)⟩
        simp only [upd]
        rfl
      case sR2_6 =>
        intro listed bb u hsz hn hwt hinv
        obtain ⟨x, rfl, hC, hU, hO, hM⟩ := hinv
        simp only [putsX, Act.put, List.setIfInBounds_toArray, List.set_cons_zero, List.set_cons_succ]
        go_wp2_with fail
        refine stepQ_normal ⟨trivial, upd x 6 (.int .i64 rw), ?_, hC, hU.step (fun _ h => Option.some.inj h), hO.keep (by decide) (by decide) _ id, hM.keep (by decide) (by decide) _ (Below.refl _ _)⟩
        simp only [upd]
        rfl
      case sR2_7 =>
        intro listed bb u hsz hn hwt hinv
        obtain ⟨x, rfl, hC, hU, hO, hM⟩ := hinv
        have f1 := Lib.hid (hU 1 _ rfl (hwt 1 (by kernel_rfl)))
        have f3 := Lib.hid (hU 3 _ rfl (hwt 3 (by kernel_rfl)))
        have f4 := Lib.hid (hU 4 _ rfl (hwt 4 (by kernel_rfl)))
        have f5 := Lib.hid (hU 5 _ rfl (hwt 5 (by kernel_rfl)))
        have f6 := Lib.hid (hU 6 _ rfl (hwt 6 (by kernel_rfl)))
        simp only [putsX, Act.put, List.setIfInBounds_toArray, List.set_cons_zero, List.set_cons_succ]
        have hcall : Calls Tryd.prog 13 #[x 1, x 3, x 4, x 5, x 6] u (GivesS arrK yy u) := by rw [f1.out, f3.out, f4.out, f5.out, f6.out]; exact IM.out u _ (arrK.read (arrK.ownBelow X5.out hC)) HFIT.out (GK.out u (HB5.out.trans (hC.mono HB5.out.size)))
        go_wp2_with fail
        refine hcall.mono ?_
        rintro e' u' ⟨cs, SS, rfl, own, hss, hb⟩
        go_wp2_with fail
        refine stepQ_normal ⟨trivial, upd x 7 (.agg cs.toArray), ?_, hC.trans (hb.mono hC.size), hU.step (fun _ h => by cases h), FactW.new ⟨cs, SS, rfl, own, fun b h => Nat.le_trans hC.size (hss b h)⟩, hM.keep (by decide) (by decide) _ (hb)⟩
        simp only [upd]
        rfl
      case sR2_8 =>
        intro listed bb u hsz hn hwt hinv
        obtain ⟨x, rfl, hC, hU, hO, hM⟩ := hinv
        simp only [putsX, Act.put, List.setIfInBounds_toArray, List.set_cons_zero, List.set_cons_succ]
        go_wp2_with fail
        refine stepQ_normal ⟨trivial, upd x 8 (.pointer (some ⟨u.heap.size, 0, none⟩)), ?_, hC.alloc hC.size _, hU.step (fun _ h => by cases h), hO.keep (by decide) (by decide) _ (fun h => HasK.below h (below_allocK _ _)), hM.new (by decide) hn hC.size⟩
        simp only [upd]
        rfl
      case sR2_9 =>
        intro listed bb u hsz hn hwt hinv
        obtain ⟨x, rfl, hC, hU, hO, hM⟩ := hinv
        simp only [putsX, Act.put, List.setIfInBounds_toArray, List.set_cons_zero, List.set_cons_succ]
        obtain ⟨g, fg, hg, hh⟩ := hM.there (hwt 8 (by kernel_rfl)) hn
        obtain ⟨cs, SS, fp, own, hss⟩ := hO (hwt 7 (by kernel_rfl)) hn
        obtain ⟨a0, n0, c0, a1, n1, c1, a2, n2, c2, rfl, _, _, _⟩ := arr_rd (arrK.read own)
        have FG := Lib.hid fg
        have FP := Lib.hid fp
        rw [FG.out, FP.out]
        obtain ⟨y0, y1, y2⟩ := cells3 hh
        have t0 := thawed hh 0
        have t1 := thawed hh 1
        have t2 := thawed hh 2
        have hng : g ∉ SS := arrTy.notin own hh (by decide)
        have own0 := own
        have hfin := set_cells (set_cells (set_cells (hh) 0 (.slice a0 n0 c0)) 1 (.slice a1 n1 c1)) 2 (.slice a2 n2 c2)
        have OW := Lib.hid (Kn.ownSet arrK (Kn.ownSet arrK (Kn.ownSet arrK own0 (p := ⟨g, 0, none⟩) (fun b h e => hng ((show b = g from e) ▸ h)) (.slice a0 n0 c0)) (p := ⟨g, 1, none⟩) (fun b h e => hng ((show b = g from e) ▸ h)) (.slice a1 n1 c1)) (p := ⟨g, 2, none⟩) (fun b h e => hng ((show b = g from e) ▸ h)) (.slice a2 n2 c2))
        have HSS := Lib.hid hss
        have HNG := Lib.hid hng
        clear hh fg fp own own0 hss hng
        go_wp2_with fail
        refine stepQ_normal ⟨trivial, upd x 9 undef, ?_, (((hC).setCell (by exact hg) _).setCell (by exact hg) _).setCell (by exact hg) _, hU.step (fun _ h => by cases h), FactW.call (by rw [hsz]; decide), MadeK.fill (by decide) (hwt 8 (by kernel_rfl)) (by rw [hsz]; decide) FG.out hg hfin OW.out HNG.out HSS.out⟩
        simp only [upd]
        simp only [FG.out, FP.out]
        (try rfl)
    case heR2 =>
      intro listed q w6 hall hC hU hS
      obtain ⟨hO, hM⟩ := hS
      obtain ⟨PG, cs, SG, fg, hgP, hh, own, hng, hss⟩ := hM.full (hall 8 (by decide)) (hall 9 (by decide))
      obtain ⟨Ga0, Gn0, Gc0, Ga1, Gn1, Gc1, Ga2, Gn2, Gc2, rfl, _, _, _⟩ := arr_rd (arrK.read own)
      simp only [putsX, Act.put, List.setIfInBounds_toArray, List.set_cons_zero, List.set_cons_succ]
      rw [fg]
      clear hall hU fg hO hM
      generalize q 0 = _q0, q 1 = _q1, q 2 = _q2, q 3 = _q3, q 4 = _q4, q 5 = _q5, q 6 = _q6, q 7 = _q7
      have gg6 := keep_block hC gg5 (lt_of_block gg5)
      have ll6 := keep_block hC ll5 (lt_of_block ll5)
      have mm6 := keep_block hC mm5 (lt_of_block mm5)
      have qV6 := keep_block hC qV5 (lt_of_block qV5)
      have qX6 := keep_block hC qX5 (lt_of_block qX5)
      have V6 : Hid (arrK.own w6 SV [.slice Va0 Vn0 Vc0, .slice Va1 Vn1 Vc1, .slice Va2 Vn2 Vc2] yy) := arrK.ownBelow V5.out hC
      have X6 : Hid (arrK.own w6 SX [.slice Xa0 Xn0 Xc0, .slice Xa1 Xn1 Xc1, .slice Xa2 Xn2 Xc2] xx) := arrK.ownBelow X5.out hC
      have HB6 : Hid (Below w.heap.size w w6) := HB5.out.trans (hC.mono HB5.out.size)
      have BG : Hid (∀ b ∈ SG, w5.heap.size ≤ b) := hss
      have G6 : Hid (arrK.own w6 SG [.slice Ga0 Gn0 Gc0, .slice Ga1 Gn1 Gc1, .slice Ga2 Gn2 Gc2] yy) := own
      have qG6 := hh
      have NVqG : Hid (PG ∉ SV) := fun h => by have h1 := arrK.lt V5.out _ h; omega
      have NXqG : Hid (PG ∉ SX) := fun h => by have h1 := arrK.lt X5.out _ h; omega
      have DVG : Hid (∀ b ∈ SV, b ∉ SG) := fun b h1 h2 => by have h3 := arrK.lt V5.out b h1; have h4 := BG.out b h2; omega
      have DXG : Hid (∀ b ∈ SX, b ∉ SG) := fun b h1 h2 => by have h3 := arrK.lt X5.out b h1; have h4 := BG.out b h2; omega
      have NGgg : Hid (w.heap.size ∉ SG) := fun h => by have h1 := lt_of_block gg5; have h2 := BG.out _ h; omega
      have NGll : Hid ((w.heap.size + 1) ∉ SG) := fun h => by have h1 := lt_of_block ll5; have h2 := BG.out _ h; omega
      have NGmm : Hid ((w.heap.size + 1 + 1) ∉ SG) := fun h => by have h1 := lt_of_block mm5; have h2 := BG.out _ h; omega
      have NGqV : Hid (PV ∉ SG) := fun h => by have h1 := lt_of_block qV5; have h2 := BG.out _ h; omega
      have NGqX : Hid (PX ∉ SG) := fun h => by have h1 := lt_of_block qX5; have h2 := BG.out _ h; omega
      have NGqG : Hid (PG ∉ SG) := hng
      clear own hss hh hC hng hgP
      clear gg5 ll5 mm5 qV5 qX5 V5 X5 HB5
      obtain ⟨kqG0, kqG1, kqG2⟩ := cells3 qG6
      obtain ⟨kqV0, kqV1, kqV2⟩ := cells3 qV6
      go_wp2_with fail
      refine (eqArr_cs (arrK.read G6.out) (arrK.read V6.out)).mono ?_
      rintro e w7 ⟨rfl, hb7⟩
      clear kqG0 kqG1 kqG2 kqV0 kqV1 kqV2
      have gg7 := keep_block hb7 gg6 (lt_of_block gg6)
      have ll7 := keep_block hb7 ll6 (lt_of_block ll6)
      have mm7 := keep_block hb7 mm6 (lt_of_block mm6)
      have qV7 := keep_block hb7 qV6 (lt_of_block qV6)
      have qX7 := keep_block hb7 qX6 (lt_of_block qX6)
      have qG7 := keep_block hb7 qG6 (lt_of_block qG6)
      have V7 : Hid (arrK.own w7 SV [.slice Va0 Vn0 Vc0, .slice Va1 Vn1 Vc1, .slice Va2 Vn2 Vc2] yy) := arrK.ownBelow V6.out hb7
      have X7 : Hid (arrK.own w7 SX [.slice Xa0 Xn0 Xc0, .slice Xa1 Xn1 Xc1, .slice Xa2 Xn2 Xc2] xx) := arrK.ownBelow X6.out hb7
      have G7 : Hid (arrK.own w7 SG [.slice Ga0 Gn0 Gc0, .slice Ga1 Gn1 Gc1, .slice Ga2 Gn2 Gc2] yy) := arrK.ownBelow G6.out hb7
      have HB7 : Hid (Below w.heap.size w w7) := HB6.out.trans (hb7.mono HB6.out.size)
      clear gg6 ll6 mm6 qV6 qX6 qG6 V6 X6 G6 HB6
      clear hb7
      go_wp2_with fail
      refine wp_region_flowV (fun k => match k with | 0 => some (.agg #[.slice Xa0 Xn0 Xc0, .slice Xa1 Xn1 Xc1, .slice Xa2 Xn2 Xc2]) | 1 => some (.agg #[.slice a0 n0 c0, .slice a1 n1 c1, .slice a2 n2 c2]) | 3 => some (.bool true) | 4 => some (.bool false) | _ => none) (fun listed x u => FactW 2 3 (HasK arrK xx w7.heap.size) listed x u) (fun _ => undef) (by kernel_rfl) (by kernel_rfl) ?hxR3 ?hSR3 ?hsR3 ?heR3
      case hxR3 => simp only [putsX, Act.put, List.setIfInBounds_toArray, List.set_cons_zero, List.set_cons_succ]
      case hSR3 => exact FactW.zero _ _ _ _ _ _
      case hsR3 =>
        simp only [flowSteps]
        refine ⟨?sR3_0, ?sR3_1, ?sR3_2, ?sR3_3, ?sR3_4, trivial⟩
        case sR3_0 =>
          intro listed bb u hsz hn hwt hinv
          obtain ⟨x, rfl, hC, hU, hA0⟩ := hinv
          simp only [putsX, Act.put, List.setIfInBounds_toArray, List.set_cons_zero, List.set_cons_succ]
          obtain ⟨d0, d1, d2⟩ := cells3 (keep_block hC qX7 (lt_of_block qX7))
          go_wp2_with fail
          refine stepQ_normal ⟨trivial, upd x 0 (.agg #[.slice Xa0 Xn0 Xc0, .slice Xa1 Xn1 Xc1, .slice Xa2 Xn2 Xc2]), ?_, hC, hU.step (fun _ h => Option.some.inj h), hA0.keep (by decide) (by decide) _ id⟩
          simp only [upd]
          rfl
        case sR3_1 =>
          intro listed bb u hsz hn hwt hinv
          obtain ⟨x, rfl, hC, hU, hA0⟩ := hinv
          simp only [putsX, Act.put, List.setIfInBounds_toArray, List.set_cons_zero, List.set_cons_succ]
          obtain ⟨d0, d1, d2⟩ := cells3 (keep_block hC mm7 (lt_of_block mm7))
          go_wp2_with fail
          refine stepQ_normal ⟨trivial, upd x 1 (.agg #[.slice a0 n0 c0, .slice a1 n1 c1, .slice a2 n2 c2]), ?_, hC, hU.step (fun _ h => Option.some.inj h), hA0.keep (by decide) (by decide) _ id⟩
          simp only [upd]
          rfl
        case sR3_2 =>
          intro listed bb u hsz hn hwt hinv
          obtain ⟨x, rfl, hC, hU, hA0⟩ := hinv
          have f1 := Lib.hid (hU 1 _ rfl (hwt 1 (by kernel_rfl)))
          simp only [putsX, Act.put, List.setIfInBounds_toArray, List.set_cons_zero, List.set_cons_succ]
          have hbu := HB7.out.trans (hC.mono HB7.out.size)
          have hcall : Calls Tryd.prog 30 #[x 1] u (GivesS arrK xx u) := by rw [f1.out]; exact toArray_k (arrK.below HX0.out hbu) HFIT.out.1 HFIT.out.2.1 HFIT.out.2.2.1 HFIT.out.2.2.2
          go_wp2_with fail
          refine hcall.mono ?_
          rintro e' u' ⟨cs, SS, rfl, own, hss, hb⟩
          go_wp2_with fail
          refine stepQ_normal ⟨trivial, upd x 2 (.agg cs.toArray), ?_, hC.trans (hb.mono hC.size), hU.step (fun _ h => by cases h), FactW.new ⟨cs, SS, rfl, own, fun b h => Nat.le_trans hC.size (hss b h)⟩⟩
          simp only [upd]
          rfl
        case sR3_3 =>
          intro listed bb u hsz hn hwt hinv
          obtain ⟨x, rfl, hC, hU, hA0⟩ := hinv
          have f0 := Lib.hid (hU 0 _ rfl (hwt 0 (by kernel_rfl)))
          simp only [putsX, Act.put, List.setIfInBounds_toArray, List.set_cons_zero, List.set_cons_succ]
          obtain ⟨cs0, S0, fp0, ow0, _⟩ := hA0 (hwt 2 (by kernel_rfl)) hn
          have hcall : Calls Tryd.prog 24 #[x 0, x 2] u (Gives (.bool true) u) := by rw [f0.out, fp0]; exact eqArr_cs (arrK.read (arrK.ownBelow X7.out hC)) (arrK.read ow0)
          clear fp0
          go_wp2_with fail
          refine hcall.mono ?_
          rintro e' u' ⟨rfl, hb⟩
          go_wp2_with fail
          refine stepQ_normal ⟨trivial, upd x 3 (.bool true), ?_, hC.trans (hb.mono hC.size), hU.step (fun _ h => Option.some.inj h), FactW.call (by rw [hsz]; decide)⟩
          simp only [upd]
          rfl
        case sR3_4 =>
          intro listed bb u hsz hn hwt hinv
          obtain ⟨x, rfl, hC, hU, hA0⟩ := hinv
          have f3 := Lib.hid (hU 3 _ rfl (hwt 3 (by kernel_rfl)))
          simp only [putsX, Act.put, List.setIfInBounds_toArray, List.set_cons_zero, List.set_cons_succ]
          rw [f3.out]
          go_wp2_with fail
          refine stepQ_normal ⟨trivial, upd x 4 (.bool false), ?_, hC, hU.step (fun _ h => Option.some.inj h), hA0.keep (by decide) (by decide) _ id⟩
          simp only [upd]
          simp only [f3.out]
          (try rfl)
      case heR3 =>
        intro listed q w8 hall hC hU hS
        have hA0 := hS
        have fq3 := hU 3 _ rfl (hall 3 (by decide))
        have fq4 := hU 4 _ rfl (hall 4 (by decide))
        simp only [putsX, Act.put, List.setIfInBounds_toArray, List.set_cons_zero, List.set_cons_succ]
        rw [fq3, fq4]
        clear hall hU fq3 fq4 hA0
        generalize q 0 = _q0, q 1 = _q1, q 2 = _q2
        have gg8 := keep_block hC gg7 (lt_of_block gg7)
        have ll8 := keep_block hC ll7 (lt_of_block ll7)
        have mm8 := keep_block hC mm7 (lt_of_block mm7)
        have qV8 := keep_block hC qV7 (lt_of_block qV7)
        have qX8 := keep_block hC qX7 (lt_of_block qX7)
        have qG8 := keep_block hC qG7 (lt_of_block qG7)
        have V8 : Hid (arrK.own w8 SV [.slice Va0 Vn0 Vc0, .slice Va1 Vn1 Vc1, .slice Va2 Vn2 Vc2] yy) := arrK.ownBelow V7.out hC
        have X8 : Hid (arrK.own w8 SX [.slice Xa0 Xn0 Xc0, .slice Xa1 Xn1 Xc1, .slice Xa2 Xn2 Xc2] xx) := arrK.ownBelow X7.out hC
        have G8 : Hid (arrK.own w8 SG [.slice Ga0 Gn0 Gc0, .slice Ga1 Gn1 Gc1, .slice Ga2 Gn2 Gc2] yy) := arrK.ownBelow G7.out hC
        have HB8 : Hid (Below w.heap.size w w8) := HB7.out.trans (hC.mono HB7.out.size)
        clear hC
        clear gg7 ll7 mm7 qV7 qX7 qG7 V7 X7 G7 HB7
        obtain ⟨kqX0, kqX1, kqX2⟩ := cells3 qX8
        go_wp2_with fail
        refine (markArr_v X8.out (Nat.le_trans HCNT.out (by decide)) kx HKX.out).mono ?_
        rintro e w9 ⟨rfl, own9, ho9⟩
        clear kqX0 kqX1 kqX2
        have gg9 := (ho9.block _ (lt_of_block gg8) NXgg.out).trans gg8
        have ll9 := (ho9.block _ (lt_of_block ll8) NXll.out).trans ll8
        have mm9 := (ho9.block _ (lt_of_block mm8) NXmm.out).trans mm8
        have qV9 := (ho9.block _ (lt_of_block qV8) NXqV.out).trans qV8
        have qX9 := (ho9.block _ (lt_of_block qX8) NXqX.out).trans qX8
        have qG9 := (ho9.block _ (lt_of_block qG8) NXqG.out).trans qG8
        have V9 : Hid (arrK.own w9 SV [.slice Va0 Vn0 Vc0, .slice Va1 Vn1 Vc1, .slice Va2 Vn2 Vc2] yy) := arrK.ownKeep V8.out ho9 DVX.out
        have G9 : Hid (arrK.own w9 SG [.slice Ga0 Gn0 Gc0, .slice Ga1 Gn1 Gc1, .slice Ga2 Gn2 Gc2] yy) := arrK.ownKeep G8.out ho9 (fun b h1 h2 => DXG.out b h2 h1)
        have HB9 : Hid (Below w.heap.size w w9) := HB8.out.trans (ho9.below (fun b h => Nat.le_trans SZX.out (BX.out b h)) HB8.out.size)
        have X9 : Hid (arrK.own w9 SX [.slice Xa0 Xn0 Xc0, .slice Xa1 Xn1 Xc1, .slice Xa2 Xn2 Xc2] (aMk xx 1)) := own9
        clear own9 ho9
        clear gg8 ll8 mm8 qV8 qX8 qG8 V8 X8 G8 HB8
        clear X9
        obtain ⟨kqG0, kqG1, kqG2⟩ := cells3 qG9
        obtain ⟨kqV0, kqV1, kqV2⟩ := cells3 qV9
        go_wp2_with fail
        refine (eqArr_cs (arrK.read G9.out) (arrK.read V9.out)).mono ?_
        rintro e w10 ⟨rfl, hb10⟩
        clear kqG0 kqG1 kqG2 kqV0 kqV1 kqV2
        have gg10 := keep_block hb10 gg9 (lt_of_block gg9)
        have ll10 := keep_block hb10 ll9 (lt_of_block ll9)
        have mm10 := keep_block hb10 mm9 (lt_of_block mm9)
        have qV10 := keep_block hb10 qV9 (lt_of_block qV9)
        have qX10 := keep_block hb10 qX9 (lt_of_block qX9)
        have qG10 := keep_block hb10 qG9 (lt_of_block qG9)
        have V10 : Hid (arrK.own w10 SV [.slice Va0 Vn0 Vc0, .slice Va1 Vn1 Vc1, .slice Va2 Vn2 Vc2] yy) := arrK.ownBelow V9.out hb10
        have G10 : Hid (arrK.own w10 SG [.slice Ga0 Gn0 Gc0, .slice Ga1 Gn1 Gc1, .slice Ga2 Gn2 Gc2] yy) := arrK.ownBelow G9.out hb10
        have HB10 : Hid (Below w.heap.size w w10) := HB9.out.trans (hb10.mono HB9.out.size)
        clear gg9 ll9 mm9 qV9 qX9 qG9 V9 G9 HB9
        clear hb10
        obtain ⟨kqG0, kqG1, kqG2⟩ := cells3 qG10
        go_wp2_with fail
        refine (markArr_v G10.out (Nat.le_trans HCYN.out (by decide)) ky HKY.out).mono ?_
        rintro e w11 ⟨rfl, own11, ho11⟩
        clear kqG0 kqG1 kqG2
        have gg11 := (ho11.block _ (lt_of_block gg10) NGgg.out).trans gg10
        have ll11 := (ho11.block _ (lt_of_block ll10) NGll.out).trans ll10
        have mm11 := (ho11.block _ (lt_of_block mm10) NGmm.out).trans mm10
        have qV11 := (ho11.block _ (lt_of_block qV10) NGqV.out).trans qV10
        have qX11 := (ho11.block _ (lt_of_block qX10) NGqX.out).trans qX10
        have qG11 := (ho11.block _ (lt_of_block qG10) NGqG.out).trans qG10
        have V11 : Hid (arrK.own w11 SV [.slice Va0 Vn0 Vc0, .slice Va1 Vn1 Vc1, .slice Va2 Vn2 Vc2] yy) := arrK.ownKeep V10.out ho11 DVG.out
        have HB11 : Hid (Below w.heap.size w w11) := HB10.out.trans (ho11.below (fun b h => Nat.le_trans SZG.out (BG.out b h)) HB10.out.size)
        have G11 : Hid (arrK.own w11 SG [.slice Ga0 Gn0 Gc0, .slice Ga1 Gn1 Gc1, .slice Ga2 Gn2 Gc2] (aMk yy 1)) := own11
        clear own11 ho11
        clear gg10 ll10 mm10 qV10 qX10 qG10 V10 G10 HB10
        obtain ⟨kqG0, kqG1, kqG2⟩ := cells3 qG11
        go_wp2_with fail
        refine (heldArr_v (arrK.read G11.out) (Nat.le_trans HCYN.out (by decide)) ky HKY.out).mono ?_
        rintro e w12 ⟨rfl, hb12⟩
        clear kqG0 kqG1 kqG2
        have gg12 := keep_block hb12 gg11 (lt_of_block gg11)
        have ll12 := keep_block hb12 ll11 (lt_of_block ll11)
        have mm12 := keep_block hb12 mm11 (lt_of_block mm11)
        have qV12 := keep_block hb12 qV11 (lt_of_block qV11)
        have qX12 := keep_block hb12 qX11 (lt_of_block qX11)
        have qG12 := keep_block hb12 qG11 (lt_of_block qG11)
        have V12 : Hid (arrK.own w12 SV [.slice Va0 Vn0 Vc0, .slice Va1 Vn1 Vc1, .slice Va2 Vn2 Vc2] yy) := arrK.ownBelow V11.out hb12
        have G12 : Hid (arrK.own w12 SG [.slice Ga0 Gn0 Gc0, .slice Ga1 Gn1 Gc1, .slice Ga2 Gn2 Gc2] (aMk yy 1)) := arrK.ownBelow G11.out hb12
        have HB12 : Hid (Below w.heap.size w w12) := HB11.out.trans (hb12.mono HB11.out.size)
        clear gg11 ll11 mm11 qV11 qX11 qG11 V11 G11 HB11
        clear hb12
        go_wp2_with fail
        refine wp_region_flowV (fun k => match k with | 0 => some (.agg #[.int .i64 ea, .int .i64 eb, .int .i64 ec, .int .i64 ed]) | 1 => some (.agg #[.int .i64 ea, .int .i64 eb, .int .i64 ec, .int .i64 ed]) | 2 => some (.agg #[.int .i64 la, .int .i64 lh]) | 3 => some (.agg #[.int .i64 la, .int .i64 lh]) | 4 => some (.agg #[.slice a0 n0 c0, .slice a1 n1 c1, .slice a2 n2 c2]) | 6 => some (.int .i64 bk) | 7 => some (.int .i64 rw) | _ => none) (fun listed x u => FactW 5 8 (HasK arrK xx w12.heap.size) listed x u ∧ FactW 8 10 (HasK arrK yy w12.heap.size) listed x u ∧ MadeK arrK 31 #[.slice none 0 0, .slice none 0 0, .slice none 0 0] 9 10 w12.heap.size yy listed x u) (fun _ => undef) (by kernel_rfl) (by kernel_rfl) ?hxR4 ?hSR4 ?hsR4 ?heR4
        case hxR4 => simp only [putsX, Act.put, List.setIfInBounds_toArray, List.set_cons_zero, List.set_cons_succ]
        case hSR4 => exact ⟨FactW.zero _ _ _ _ _ _, FactW.zero _ _ _ _ _ _, MadeK.zero _ _ _ _ _ _ _ _ _ _⟩
        case hsR4 =>
          simp only [flowSteps]
          refine ⟨?sR4_0, ?sR4_1, ?sR4_2, ?sR4_3, ?sR4_4, ?sR4_5, ?sR4_6, ?sR4_7, ?sR4_8, ?sR4_9, ?sR4_10, trivial⟩
          case sR4_0 =>
            intro listed bb u hsz hn hwt hinv
            obtain ⟨x, rfl, hC, hU, hA0, hO, hM⟩ := hinv
            simp only [putsX, Act.put, List.setIfInBounds_toArray, List.set_cons_zero, List.set_cons_succ]
            obtain ⟨d0, d1, d2, d3⟩ := cells4 (keep_block hC gg12 (lt_of_block gg12))
            go_wp2_with fail
            refine stepQ_normal ⟨trivial, upd x 0 (.agg #[.int .i64 ea, .int .i64 eb, .int .i64 ec, .int .i64 ed]), ?_, hC, hU.step (fun _ h => Option.some.inj h), hA0.keep (by decide) (by decide) _ id, hO.keep (by decide) (by decide) _ id, hM.keep (by decide) (by decide) _ (Below.refl _ _)⟩
            simp only [upd]
            rfl
          case sR4_1 =>
            intro listed bb u hsz hn hwt hinv
            obtain ⟨x, rfl, hC, hU, hA0, hO, hM⟩ := hinv
            have f0 := Lib.hid (hU 0 _ rfl (hwt 0 (by kernel_rfl)))
            simp only [putsX, Act.put, List.setIfInBounds_toArray, List.set_cons_zero, List.set_cons_succ]
            have hcall : Calls Tryd.prog 22 #[x 0] u (Gives (.agg #[.int .i64 ea, .int .i64 eb, .int .i64 ec, .int .i64 ed]) u) := by rw [f0.out]; exact toGeometry_any _ _ _ _ _
            go_wp2_with fail
            refine hcall.mono ?_
            rintro e' u' ⟨rfl, hb⟩
            go_wp2_with fail
            refine stepQ_normal ⟨trivial, upd x 1 (.agg #[.int .i64 ea, .int .i64 eb, .int .i64 ec, .int .i64 ed]), ?_, hC.trans (hb.mono hC.size), hU.step (fun _ h => Option.some.inj h), hA0.keep (by decide) (by decide) _ (fun h => HasK.below h (hb)), hO.keep (by decide) (by decide) _ (fun h => HasK.below h (hb)), hM.keep (by decide) (by decide) _ (hb)⟩
            simp only [upd]
            rfl
          case sR4_2 =>
            intro listed bb u hsz hn hwt hinv
            obtain ⟨x, rfl, hC, hU, hA0, hO, hM⟩ := hinv
            simp only [putsX, Act.put, List.setIfInBounds_toArray, List.set_cons_zero, List.set_cons_succ]
            obtain ⟨d0, d1⟩ := cells2 (keep_block hC ll12 (lt_of_block ll12))
            go_wp2_with fail
            refine stepQ_normal ⟨trivial, upd x 2 (.agg #[.int .i64 la, .int .i64 lh]), ?_, hC, hU.step (fun _ h => Option.some.inj h), hA0.keep (by decide) (by decide) _ id, hO.keep (by decide) (by decide) _ id, hM.keep (by decide) (by decide) _ (Below.refl _ _)⟩
            simp only [upd]
            rfl
          case sR4_3 =>
            intro listed bb u hsz hn hwt hinv
            obtain ⟨x, rfl, hC, hU, hA0, hO, hM⟩ := hinv
            have f2 := Lib.hid (hU 2 _ rfl (hwt 2 (by kernel_rfl)))
            simp only [putsX, Act.put, List.setIfInBounds_toArray, List.set_cons_zero, List.set_cons_succ]
            have hcall : Calls Tryd.prog 29 #[x 2] u (Gives (.agg #[.int .i64 la, .int .i64 lh]) u) := by rw [f2.out]; exact toLimits_any _ _ _
            go_wp2_with fail
            refine hcall.mono ?_
            rintro e' u' ⟨rfl, hb⟩
            go_wp2_with fail
            refine stepQ_normal ⟨trivial, upd x 3 (.agg #[.int .i64 la, .int .i64 lh]), ?_, hC.trans (hb.mono hC.size), hU.step (fun _ h => Option.some.inj h), hA0.keep (by decide) (by decide) _ (fun h => HasK.below h (hb)), hO.keep (by decide) (by decide) _ (fun h => HasK.below h (hb)), hM.keep (by decide) (by decide) _ (hb)⟩
            simp only [upd]
            rfl
          case sR4_4 =>
            intro listed bb u hsz hn hwt hinv
            obtain ⟨x, rfl, hC, hU, hA0, hO, hM⟩ := hinv
            simp only [putsX, Act.put, List.setIfInBounds_toArray, List.set_cons_zero, List.set_cons_succ]
            obtain ⟨d0, d1, d2⟩ := cells3 (keep_block hC mm12 (lt_of_block mm12))
            go_wp2_with fail
            refine stepQ_normal ⟨trivial, upd x 4 (.agg #[.slice a0 n0 c0, .slice a1 n1 c1, .slice a2 n2 c2]), ?_, hC, hU.step (fun _ h => Option.some.inj h), hA0.keep (by decide) (by decide) _ id, hO.keep (by decide) (by decide) _ id, hM.keep (by decide) (by decide) _ (Below.refl _ _)⟩
            simp only [upd]
            rfl
          case sR4_5 =>
            intro listed bb u hsz hn hwt hinv
            obtain ⟨x, rfl, hC, hU, hA0, hO, hM⟩ := hinv
            have f4 := Lib.hid (hU 4 _ rfl (hwt 4 (by kernel_rfl)))
            simp only [putsX, Act.put, List.setIfInBounds_toArray, List.set_cons_zero, List.set_cons_succ]
            have hbu := HB12.out.trans (hC.mono HB12.out.size)
            have hcall : Calls Tryd.prog 30 #[x 4] u (GivesS arrK xx u) := by rw [f4.out]; exact toArray_k (arrK.below HX0.out hbu) HFIT.out.1 HFIT.out.2.1 HFIT.out.2.2.1 HFIT.out.2.2.2
            go_wp2_with fail
            refine hcall.mono ?_
            rintro e' u' ⟨cs, SS, rfl, own, hss, hb⟩
            go_wp2_with fail
            refine stepQ_normal ⟨trivial, upd x 5 (.agg cs.toArray), ?_, hC.trans (hb.mono hC.size), hU.step (fun _ h => by cases h), FactW.new ⟨cs, SS, rfl, own, fun b h => Nat.le_trans hC.size (hss b h)⟩, hO.keep (by decide) (by decide) _ (fun h => HasK.below h (hb)), hM.keep (by decide) (by decide) _ (hb)⟩
            simp only [upd]
            rfl
          case sR4_6 =>
            intro listed bb u hsz hn hwt hinv
            obtain ⟨x, rfl, hC, hU, hA0, hO, hM⟩ := hinv
            simp only [putsX, Act.put, List.setIfInBounds_toArray, List.set_cons_zero, List.set_cons_succ]
            go_wp2_with fail
            refine stepQ_normal ⟨trivial, upd x 6 (.int .i64 bk), ?_, hC, hU.step (fun _ h => Option.some.inj h), hA0.keep (by decide) (by decide) _ id, hO.keep (by decide) (by decide) _ id, hM.keep (by decide) (by decide) _ (Below.refl _ _)⟩
            simp only [upd]
            rfl
          case sR4_7 =>
            intro listed bb u hsz hn hwt hinv
            obtain ⟨x, rfl, hC, hU, hA0, hO, hM⟩ := hinv
            simp only [putsX, Act.put, List.setIfInBounds_toArray, List.set_cons_zero, List.set_cons_succ]
            go_wp2_with fail
            refine stepQ_normal ⟨trivial, upd x 7 (.int .i64 rw), ?_, hC, hU.step (fun _ h => Option.some.inj h), hA0.keep (by decide) (by decide) _ id, hO.keep (by decide) (by decide) _ id, hM.keep (by decide) (by decide) _ (Below.refl _ _)⟩
            simp only [upd]
            rfl
          case sR4_8 =>
            intro listed bb u hsz hn hwt hinv
            obtain ⟨x, rfl, hC, hU, hA0, hO, hM⟩ := hinv
            have f1 := Lib.hid (hU 1 _ rfl (hwt 1 (by kernel_rfl)))
            have f3 := Lib.hid (hU 3 _ rfl (hwt 3 (by kernel_rfl)))
            have f6 := Lib.hid (hU 6 _ rfl (hwt 6 (by kernel_rfl)))
            have f7 := Lib.hid (hU 7 _ rfl (hwt 7 (by kernel_rfl)))
            simp only [putsX, Act.put, List.setIfInBounds_toArray, List.set_cons_zero, List.set_cons_succ]
            obtain ⟨cs0, S0, fp0, ow0, _⟩ := hA0 (hwt 5 (by kernel_rfl)) hn
            have hcall : Calls Tryd.prog 13 #[x 1, x 3, x 5, x 6, x 7] u (GivesS arrK yy u) := by rw [f1.out, f3.out, fp0, f6.out, f7.out]; exact IM.out u _ (arrK.read ow0) HFIT.out (GK.out u (HB12.out.trans (hC.mono HB12.out.size)))
            clear fp0
            go_wp2_with fail
            refine hcall.mono ?_
            rintro e' u' ⟨cs, SS, rfl, own, hss, hb⟩
            go_wp2_with fail
            refine stepQ_normal ⟨trivial, upd x 8 (.agg cs.toArray), ?_, hC.trans (hb.mono hC.size), hU.step (fun _ h => by cases h), FactW.call (by rw [hsz]; decide), FactW.new ⟨cs, SS, rfl, own, fun b h => Nat.le_trans hC.size (hss b h)⟩, hM.keep (by decide) (by decide) _ (hb)⟩
            simp only [upd]
            rfl
          case sR4_9 =>
            intro listed bb u hsz hn hwt hinv
            obtain ⟨x, rfl, hC, hU, hA0, hO, hM⟩ := hinv
            simp only [putsX, Act.put, List.setIfInBounds_toArray, List.set_cons_zero, List.set_cons_succ]
            go_wp2_with fail
            refine stepQ_normal ⟨trivial, upd x 9 (.pointer (some ⟨u.heap.size, 0, none⟩)), ?_, hC.alloc hC.size _, hU.step (fun _ h => by cases h), hA0.keep (by decide) (by decide) _ (fun h => HasK.below h (below_allocK _ _)), hO.keep (by decide) (by decide) _ (fun h => HasK.below h (below_allocK _ _)), hM.new (by decide) hn hC.size⟩
            simp only [upd]
            rfl
          case sR4_10 =>
            intro listed bb u hsz hn hwt hinv
            obtain ⟨x, rfl, hC, hU, hA0, hO, hM⟩ := hinv
            simp only [putsX, Act.put, List.setIfInBounds_toArray, List.set_cons_zero, List.set_cons_succ]
            obtain ⟨g, fg, hg, hh⟩ := hM.there (hwt 9 (by kernel_rfl)) hn
            obtain ⟨cs, SS, fp, own, hss⟩ := hO (hwt 8 (by kernel_rfl)) hn
            obtain ⟨a0, n0, c0, a1, n1, c1, a2, n2, c2, rfl, _, _, _⟩ := arr_rd (arrK.read own)
            have FG := Lib.hid fg
            have FP := Lib.hid fp
            rw [FG.out, FP.out]
            obtain ⟨y0, y1, y2⟩ := cells3 hh
            have t0 := thawed hh 0
            have t1 := thawed hh 1
            have t2 := thawed hh 2
            have hng : g ∉ SS := arrTy.notin own hh (by decide)
            have own0 := own
            have hfin := set_cells (set_cells (set_cells (hh) 0 (.slice a0 n0 c0)) 1 (.slice a1 n1 c1)) 2 (.slice a2 n2 c2)
            have OW := Lib.hid (Kn.ownSet arrK (Kn.ownSet arrK (Kn.ownSet arrK own0 (p := ⟨g, 0, none⟩) (fun b h e => hng ((show b = g from e) ▸ h)) (.slice a0 n0 c0)) (p := ⟨g, 1, none⟩) (fun b h e => hng ((show b = g from e) ▸ h)) (.slice a1 n1 c1)) (p := ⟨g, 2, none⟩) (fun b h e => hng ((show b = g from e) ▸ h)) (.slice a2 n2 c2))
            have HSS := Lib.hid hss
            have HNG := Lib.hid hng
            clear hh fg fp own own0 hss hng
            go_wp2_with fail
            refine stepQ_normal ⟨trivial, upd x 10 undef, ?_, (((hC).setCell (by exact hg) _).setCell (by exact hg) _).setCell (by exact hg) _, hU.step (fun _ h => by cases h), FactW.gone (hwt 8 (by kernel_rfl)), FactW.call (by rw [hsz]; decide), MadeK.fill (by decide) (hwt 9 (by kernel_rfl)) (by rw [hsz]; decide) FG.out hg hfin OW.out HNG.out HSS.out⟩
            simp only [upd]
            simp only [FG.out, FP.out]
            (try rfl)
        case heR4 =>
          intro listed q w13 hall hC hU hS
          obtain ⟨hA0, hO, hM⟩ := hS
          obtain ⟨PH, cs, SH, fg, hgP, hh, own, hng, hss⟩ := hM.full (hall 9 (by decide)) (hall 10 (by decide))
          obtain ⟨Ha0, Hn0, Hc0, Ha1, Hn1, Hc1, Ha2, Hn2, Hc2, rfl, _, _, _⟩ := arr_rd (arrK.read own)
          simp only [putsX, Act.put, List.setIfInBounds_toArray, List.set_cons_zero, List.set_cons_succ]
          rw [fg]
          clear hall hU fg hA0 hO hM
          generalize q 0 = _q0, q 1 = _q1, q 2 = _q2, q 3 = _q3, q 4 = _q4, q 5 = _q5, q 6 = _q6, q 7 = _q7, q 8 = _q8
          have gg13 := keep_block hC gg12 (lt_of_block gg12)
          have ll13 := keep_block hC ll12 (lt_of_block ll12)
          have mm13 := keep_block hC mm12 (lt_of_block mm12)
          have qV13 := keep_block hC qV12 (lt_of_block qV12)
          have qX13 := keep_block hC qX12 (lt_of_block qX12)
          have qG13 := keep_block hC qG12 (lt_of_block qG12)
          have V13 : Hid (arrK.own w13 SV [.slice Va0 Vn0 Vc0, .slice Va1 Vn1 Vc1, .slice Va2 Vn2 Vc2] yy) := arrK.ownBelow V12.out hC
          have G13 : Hid (arrK.own w13 SG [.slice Ga0 Gn0 Gc0, .slice Ga1 Gn1 Gc1, .slice Ga2 Gn2 Gc2] (aMk yy 1)) := arrK.ownBelow G12.out hC
          have HB13 : Hid (Below w.heap.size w w13) := HB12.out.trans (hC.mono HB12.out.size)
          have BH : Hid (∀ b ∈ SH, w12.heap.size ≤ b) := hss
          have H13 : Hid (arrK.own w13 SH [.slice Ha0 Hn0 Hc0, .slice Ha1 Hn1 Hc1, .slice Ha2 Hn2 Hc2] yy) := own
          have qH13 := hh
          have NVqH : Hid (PH ∉ SV) := fun h => by have h1 := arrK.lt V12.out _ h; omega
          have NGqH : Hid (PH ∉ SG) := fun h => by have h1 := arrK.lt G12.out _ h; omega
          have DVH : Hid (∀ b ∈ SV, b ∉ SH) := fun b h1 h2 => by have h3 := arrK.lt V12.out b h1; have h4 := BH.out b h2; omega
          have DGH : Hid (∀ b ∈ SG, b ∉ SH) := fun b h1 h2 => by have h3 := arrK.lt G12.out b h1; have h4 := BH.out b h2; omega
          have NHgg : Hid (w.heap.size ∉ SH) := fun h => by have h1 := lt_of_block gg12; have h2 := BH.out _ h; omega
          have NHll : Hid ((w.heap.size + 1) ∉ SH) := fun h => by have h1 := lt_of_block ll12; have h2 := BH.out _ h; omega
          have NHmm : Hid ((w.heap.size + 1 + 1) ∉ SH) := fun h => by have h1 := lt_of_block mm12; have h2 := BH.out _ h; omega
          have NHqV : Hid (PV ∉ SH) := fun h => by have h1 := lt_of_block qV12; have h2 := BH.out _ h; omega
          have NHqX : Hid (PX ∉ SH) := fun h => by have h1 := lt_of_block qX12; have h2 := BH.out _ h; omega
          have NHqG : Hid (PG ∉ SH) := fun h => by have h1 := lt_of_block qG12; have h2 := BH.out _ h; omega
          have NHqH : Hid (PH ∉ SH) := hng
          clear own hss hh hC hng hgP
          clear gg12 ll12 mm12 qV12 qX12 qG12 V12 G12 HB12
          obtain ⟨kqH0, kqH1, kqH2⟩ := cells3 qH13
          obtain ⟨kqV0, kqV1, kqV2⟩ := cells3 qV13
          go_wp2_with fail
          refine (eqArr_cs (arrK.read H13.out) (arrK.read V13.out)).mono ?_
          rintro e w14 ⟨rfl, hb14⟩
          clear kqH0 kqH1 kqH2 kqV0 kqV1 kqV2
          have gg14 := keep_block hb14 gg13 (lt_of_block gg13)
          have ll14 := keep_block hb14 ll13 (lt_of_block ll13)
          have mm14 := keep_block hb14 mm13 (lt_of_block mm13)
          have qV14 := keep_block hb14 qV13 (lt_of_block qV13)
          have qX14 := keep_block hb14 qX13 (lt_of_block qX13)
          have qG14 := keep_block hb14 qG13 (lt_of_block qG13)
          have qH14 := keep_block hb14 qH13 (lt_of_block qH13)
          have V14 : Hid (arrK.own w14 SV [.slice Va0 Vn0 Vc0, .slice Va1 Vn1 Vc1, .slice Va2 Vn2 Vc2] yy) := arrK.ownBelow V13.out hb14
          have G14 : Hid (arrK.own w14 SG [.slice Ga0 Gn0 Gc0, .slice Ga1 Gn1 Gc1, .slice Ga2 Gn2 Gc2] (aMk yy 1)) := arrK.ownBelow G13.out hb14
          have H14 : Hid (arrK.own w14 SH [.slice Ha0 Hn0 Hc0, .slice Ha1 Hn1 Hc1, .slice Ha2 Hn2 Hc2] yy) := arrK.ownBelow H13.out hb14
          have HB14 : Hid (Below w.heap.size w w14) := HB13.out.trans (hb14.mono HB13.out.size)
          clear gg13 ll13 mm13 qV13 qX13 qG13 qH13 V13 G13 H13 HB13
          clear hb14
          obtain ⟨kqG0, kqG1, kqG2⟩ := cells3 qG14
          go_wp2_with fail
          refine (heldArr_v (arrK.read G14.out) (Nat.le_trans HCYN.out (by decide)) ky HKY.out).mono ?_
          rintro e w15 ⟨rfl, hb15⟩
          clear kqG0 kqG1 kqG2
          have gg15 := keep_block hb15 gg14 (lt_of_block gg14)
          have ll15 := keep_block hb15 ll14 (lt_of_block ll14)
          have mm15 := keep_block hb15 mm14 (lt_of_block mm14)
          have qV15 := keep_block hb15 qV14 (lt_of_block qV14)
          have qX15 := keep_block hb15 qX14 (lt_of_block qX14)
          have qG15 := keep_block hb15 qG14 (lt_of_block qG14)
          have qH15 := keep_block hb15 qH14 (lt_of_block qH14)
          have V15 : Hid (arrK.own w15 SV [.slice Va0 Vn0 Vc0, .slice Va1 Vn1 Vc1, .slice Va2 Vn2 Vc2] yy) := arrK.ownBelow V14.out hb15
          have G15 : Hid (arrK.own w15 SG [.slice Ga0 Gn0 Gc0, .slice Ga1 Gn1 Gc1, .slice Ga2 Gn2 Gc2] (aMk yy 1)) := arrK.ownBelow G14.out hb15
          have H15 : Hid (arrK.own w15 SH [.slice Ha0 Hn0 Hc0, .slice Ha1 Hn1 Hc1, .slice Ha2 Hn2 Hc2] yy) := arrK.ownBelow H14.out hb15
          have HB15 : Hid (Below w.heap.size w w15) := HB14.out.trans (hb15.mono HB14.out.size)
          clear gg14 ll14 mm14 qV14 qX14 qG14 qH14 V14 G14 H14 HB14
          clear hb15
          go_wp2_with fail
          go_ret
          exact ⟨rfl, HB15.out⟩

end Go.Proofs.YtfpfgaifhmgpiaaDoor

namespace Go.Proofs.YtfpfgaifhmgpiaaDoor
open Go.RowKit Go.PlainAid

set_option linter.unusedVariables false

/-- A call that answers a row of ints of the call's own, so long. -/
def GivesN (n : Nat) (l : List Int) (w : World) (e : Ending) (w' : World) : Prop := ∃ a c S, e = .returned (.slice a n c) ∧ intsK.own w' S [.slice a n c] l ∧ (∀ b ∈ S, w.heap.size ≤ b) ∧ Below w.heap.size w w'

set_option maxHeartbeats 4000000 in
theorem implCloneN_is {a : Option Addr} {n c : Nat} {l : List Int} {w : World} (h : intsK.rd w [.slice a n c] l) (hl : l.length ≤ 4000000) :
    Calls Tryd.prog 54 #[.slice a n c] w (GivesN n l w) := by
  have q0 : ∀ (w : World) (a : Option Addr) (n c n' c' : Nat), (Go.binOp .eql 29 (.slice a n c) (.slice none n' c')).run Tryd.prog w = .ok (.bool a.isNone) w := fun w a n c n' c' => Lib.run_eql_slice_nil w _ _ a n c n' c' Tryd.underlying29
  obtain ⟨h1, h2, h3, h4⟩ := Kn.row_len h
  rcases a with _ | ad
  · obtain rfl : c = 0 := h4 rfl
    obtain rfl : n = 0 := by omega
    obtain rfl : l = [] := List.length_eq_zero_iff.1 h1
    clear h h1 h2 h3 h4 hl
    go_enter Tryd.func54, Tryd.ntmps54
    go_wp2
    go_ret
    exact ⟨none, 0, [], rfl, ints_none _, (fun b hb => by cases hb), Below.refl _ _⟩
  · have hbA : Below w.heap.size w (w.alloc (.cells #[] 3)) := (Below.refl _ _).alloc (Nat.le_refl _) _
    have HR : Hid (intsK.rd (w.alloc (.cells #[] 3)) [.slice (some ad) n c] l) := intsK.below h hbA
    have hgA : (w.alloc (.cells #[] 3)).heap[w.heap.size]? = some (.cells #[] 3 (0, 0)) := heap_alloc_new _ _
    have hSA : w.heap.size ≤ (w.alloc (.cells #[] 3)).heap.size := by simp
    clear h h1 h2 h3 h4
    go_enter Tryd.func54, Tryd.ntmps54
    go_wp2_with (at_builtin; refine copy_ints rfl _ _ rfl w.heap.size w.heap.size rfl (Nat.le_refl _) hgA (some ad) n c l rfl HR.out hl hSA ?_)
    intro ab cb w3 S own3 hS3 hb3
    have HO := Lib.hid own3
    have HS : Hid (∀ b ∈ S, w.heap.size ≤ b) := fun b hb => by have := hS3 b hb; omega
    have HB : Hid (Below w.heap.size w w3) := hbA.trans (hb3.mono (by simp))
    clear own3 hS3 hb3 hbA hgA hSA
    go_wp2_with fail
    go_ret
    exact ⟨ab, cb, S, rfl, HO.out, HS.out, HB.out⟩

theorem cell_one {w : World} : ∀ {x : List (List Int × Bool)} {xs : List Value}, cellK.rds w xs x → ∀ u ∈ xs, u.oneCell' = true
  | [], xs, h, u, hu => by rw [show xs = [] from h] at hu; cases hu
  | y :: x, xs, ⟨c1, c2, e, h1, h2⟩, u, hu => by
    obtain ⟨a, n, c, rfl, _⟩ := cell_rd h1
    rw [e] at hu
    rcases List.mem_append.1 hu with h | h
    · simp only [List.mem_cons, List.not_mem_nil, or_false] at h
      rcases h with rfl | rfl <;> rfl
    · exact cell_one h2 u h

set_option maxHeartbeats 4000000 in
theorem implCloneC_is {a : Option Addr} {n c : Nat} {x : List (List Int × Bool)} {w : World} (h : cellsK.rd w [.slice a n c] x) (hl : x.length ≤ 3000000) :
    Calls Tryd.prog 79 #[.slice a n c] w fun e w' => ∃ va vc xs, e = .returned (.slice va n vc) ∧ w'.ownsRow w.heap.size 41 2 (.slice va n vc) n xs ∧ cellK.rds w xs x ∧ Below w.heap.size w w' := by
  have q0 : ∀ (w : World) (a : Option Addr) (n c n' c' : Nat), (Go.binOp .eql 28 (.slice a n c) (.slice none n' c')).run Tryd.prog w = .ok (.bool a.isNone) w := fun w a n c n' c' => Lib.run_eql_slice_nil w _ _ a n c n' c' Tryd.underlying28
  obtain ⟨a', n', c', xs, e, h1, h2, h3, h4, h5⟩ := h
  simp only [List.cons.injEq, Value.slice.injEq, and_true] at e
  obtain ⟨rfl, rfl, rfl⟩ := e
  have hxl : xs.length = n * 2 := by rw [← h1]; exact cellK.rds_len h4
  rcases a with _ | ad
  · obtain rfl : c = 0 := h3 rfl
    obtain rfl : n = 0 := by omega
    obtain rfl : x = [] := List.length_eq_zero_iff.1 h1
    clear h1 h2 h3 h5 hl
    have HX := Lib.hid h4
    clear h4 hxl
    go_enter Tryd.func79, Tryd.ntmps79
    go_wp2
    go_ret
    exact ⟨none, 0, [], rfl, World.ownsRow_nil _ _ _ _, rfl, Below.refl _ _⟩
  · obtain ⟨i0, hi, hz0, hz1, hz2⟩ := info_parts infoCell
    have hbA : Below w.heap.size w (w.alloc (.cells #[] 41)) := (Below.refl _ _).alloc (Nat.le_refl _) _
    have HX := Lib.hid h4
    have HON := Lib.hid (cell_one h4)
    have HN : Hid (∀ j u, xs[j]? = some u → (w.alloc (.cells #[] 41)).cell? (ad.add j) = some u) := fun j u hu => by
      rcases h5 with h5 | ⟨g, off, ha, hc⟩
      · subst h5
        rw [show xs = [] from h4] at hu
        cases hu
      · cases ha
        have hj : j < xs.length := by
          by_cases hlt : j < xs.length
          · exact hlt
          · rw [List.getElem?_eq_none (by omega)] at hu; cases hu
        have := (hc j hj).trans hu
        rw [Addr.add_lit]
        exact (hbA.cell (World.block_lt_of_cell? _ _ this)).trans this
    have own3 : (w.alloc (.cells #[] 41)).ownsRow w.heap.size 41 2 (.slice (some ⟨w.heap.size, 0, none⟩) 0 0) 0 [] := World.ownsRow_made (base := w.heap.size) (e := 41) (size := 2) w #[] 0 (Nat.le_refl _) (by decide) rfl
    have hS3 : w.heap.size ≤ (w.alloc (.cells #[] 41)).heap.size := by simp
    have hnm : n ≤ 3000000 := by omega
    clear h1 h2 h3 h4 h5 hl
    go_enter Tryd.func79, Tryd.ntmps79
    go_wp2_with (at_builtin; refine wpList_append_own_at _ rfl _ _ 28 rfl w.heap.size 41 i0 (.agg #[.slice none 0 0, .bool false]) 2 32 Tryd.underlying28 hi hz0 hz1 hz2 rfl (by decide) _ 0 [] rfl own3 ad n c xs rfl hxl HN.out HON.out (by unfold maxLen; omega) (by omega) hS3 ?_)
    intro v' w4 hown4 hgrow _ _
    have HB4 : Hid (Below w.heap.size w w4) := hbA.grown hgrow hS3 (fun j hj => by have := Option.some.inj hj; have h2 : w.heap.size = j := this; omega)
    have hsh : ∃ va vc, v' = .slice va n vc := by
      rcases hown4.2 with ⟨rfl, h0⟩ | ⟨g, cap, cur, rfl, _⟩
      · exact ⟨none, 0, by rw [h0]⟩
      · exact ⟨_, cap, rfl⟩
    obtain ⟨va, vc, rfl⟩ := hsh
    have HO4 := Lib.hid hown4
    clear hown4 hgrow own3 hbA hS3
    go_wp2_with fail
    go_ret
    exact ⟨va, vc, xs, rfl, HO4.out, HX.out, HB4.out⟩

set_option maxHeartbeats 8000000 in
theorem implCell_k {a : Option Addr} {n c : Nat} {s : List Int} {p : Bool} {w : World} (h : intsK.rd w [.slice a n c] s) (hl : s.length ≤ 4000000) :
    Calls Tryd.prog 47 #[.agg #[.slice a n c, .bool p]] w (GivesS cellK (s, p) w) := by
  obtain ⟨w1, hw1⟩ : ∃ u, (w.alloc (.cells #[.slice a n c, .bool p] 41)).alloc (.cells #[.slice none 0 0, .bool false] 41) = u := ⟨_, rfl⟩
  have HB1 : Hid (Below w.heap.size w w1) := by subst hw1; exact ((Below.refl _ _).alloc (Nat.le_refl _) _).alloc (by simp) _
  have p1 : w1.heap[w.heap.size]? = some (.cells #[.slice a n c, .bool p] 41) := by subst hw1; exact heap_alloc2_old _ _ _
  have r1 : w1.heap[w.heap.size + 1]? = some (.cells #[.slice none 0 0, .bool false] 41) := by subst hw1; exact heap_alloc2_new _ _ _
  have HR : Hid (intsK.rd w1 [.slice a n c] s) := intsK.below h HB1.out
  obtain ⟨x0, x1⟩ := cells2 p1
  clear h
  go_enter Tryd.func47, Tryd.ntmps47
  go_wp2_with fail
  refine wp_region_float (A := ?A) [.h, .h, .t, .h, .h, .t, .e] (by kernel_rfl) (by kernel_rfl) (fun q => q.cell? ⟨w.heap.size, 0, none⟩ = some (.slice a n c) ∧ q.cell? ⟨w.heap.size, 1, none⟩ = some (.bool p)) ?hC ?hH ?hT
  case hC => exact ⟨x0, x1⟩
  case hH =>
    intro q hq
    obtain ⟨h0, h1⟩ := hq
    have z0 := fun t : Same q => t.cell h0
    have z1 := fun t : Same q => t.cell h1
    simp only [headsOf]
    repeat (go_big_quiet_step (fail))
    refine wpQuiet_nil ?_
    exact rfl
  case hT =>
    simp only [chainT]
    have hdr : Below w1.heap.size w1 w1.drew := ⟨rfl, rfl, rfl, Nat.le_refl _, fun _ _ => rfl⟩
    have HRD : Hid (intsK.rd w1.drew [.slice a n c] s) := intsK.below HR.out hdr
    have HBD : Hid (Below w.heap.size w w1.drew) := HB1.out.trans (hdr.mono HB1.out.size)
    have pd : w1.drew.heap[w.heap.size]? = _ := p1
    have rd : w1.drew.heap[w.heap.size + 1]? = _ := r1
    clear p1 r1 HR HB1 hdr x0 x1
    generalize w1.drew = w2 at *
    go_wp2_with fail
    refine (implCloneN_is HRD.out hl).mono ?_
    rintro e w3 ⟨ya, yc, S, rfl, own3, hS3, hb3⟩
    have HO3 := Lib.hid own3
    have p3 := keep_block hb3 pd (lt_of_block pd)
    have r3 := keep_block hb3 rd (lt_of_block rd)
    have HB3 : Hid (Below w.heap.size w w3) := HBD.out.trans (hb3.mono HBD.out.size)
    have HNR : Hid (∀ b ∈ S, b ≠ w.heap.size + 1 ∧ w.heap.size ≤ b) := fun b hb => by have := hS3 b hb; have := lt_of_block rd; omega
    clear own3 hS3 hb3 pd rd HBD HRD
    obtain ⟨x0, x1⟩ := cells2 p3
    go_wp2_with fail
    refine stepQ_normal ⟨⟨x0, x1⟩, ?_⟩
    go_wp2_with fail
    refine stepQ_normal ⟨⟨x0, x1⟩, ?_⟩
    clear x0 x1
    obtain ⟨y0, y1⟩ := cells2 r3
    have f0 := thawed r3 0
    have f1 := thawed r3 1
    have o4 := set_cells (set_cells r3 0 (.slice ya n yc)) 1 (.bool p)
    obtain ⟨t0, t1⟩ := cells2 o4
    go_wp2_with fail
    refine stepQ_normal ⟨trivial, ?_⟩
    go_wp2_with fail
    (try simp only [Exit.inBlock, Exit.then])
    refine bodyPost_ret (v := .agg #[.slice ya n yc, .bool p]) ?_ rfl ⟨[.slice ya n yc, .bool p], S, rfl, cell_of p ?_, fun b hb => (HNR.out b hb).2, ?_⟩
    · simp [results, Tryd.results47, go_sem, t0, t1]
    · exact intsK.ownSet (intsK.ownSet HO3.out (fun b hb => (HNR.out b hb).1) _) (fun b hb => (HNR.out b hb).1) _
    · exact (HB3.out.setCell (by simp) _).setCell (by simp) _

set_option maxHeartbeats 8000000 in
set_option maxRecDepth 100000 in
theorem implFlip_is {S : List Nat} {a : Option Addr} {n c t U : Nat} {s : List Int} {p : Bool} {w : World} (h : intsK.own w S [.slice a n c] s) (ht : t < s.length) (hn : n ≤ 1000000) (he : El (s.getD t 0)) (hU : U < 16) :
    Calls Tryd.prog 102 #[.agg #[.slice a n c, .bool p], .int .i64 t, .int .i64 U] w fun e w' => e = .returned (.tuple #[]) ∧ intsK.own w' S [.slice a n c] (s.set t (xr (s.getD t 0) U)) ∧ OnlyS S w w' := by
  obtain ⟨l1, _, _, _⟩ := Kn.row_len (intsK.read h)
  obtain ⟨Y0, hY0, hY1⟩ : ∃ Y0 : Nat, s.getD t 0 = (Y0 : Int) ∧ Y0 < 16 := ⟨(s.getD t 0).toNat, by have h1 := he.1; omega, by have h1 := he.1; have h2 := he.2; omega⟩
  obtain ⟨w1, hw1⟩ : ∃ u, w.alloc (.cells #[.slice a n c, .bool p] 41) = u := ⟨_, rfl⟩
  have hb1 : Below w.heap.size w w1 := by subst hw1; exact (Below.refl _ _).alloc (Nat.le_refl _) _
  have p1 : w1.heap[w.heap.size]? = some (.cells #[.slice a n c, .bool p] 41) := hw1 ▸ heap_alloc_new w _
  have O1 := intsK.ownBelow h hb1
  have HO1 := Lib.hid O1
  have HN1 : Hid (OnlyS S w w1) := Below.onlyS hb1
  obtain ⟨gs, os, rfl, hgs, hc, _, _, _⟩ := ints_place O1 ht
  rw [hY0] at hc
  have HADD : Hid (gfAdd (Y0 : Int) (U : Int) = xr (Y0 : Int) U) := by
    show _ = _
    rw [gfAdd_nat hY1 hU]
    rfl
  have hlt : t < n := by omega
  have HYY := Lib.hid hY0
  have HTL := Lib.hid ht
  obtain ⟨x0, x1⟩ := cells2 p1
  have z0 := fun q : Later w1 => q.cell x0
  have z1 := fun q : Later w1 => q.cell x1
  have z2 := fun q : Later w1 => q.cell hc
  clear h O1 hb1 x0 x1 hc p1 l1 he ht hY0
  go_enter Tryd.func102, Tryd.ntmps102
  go_wp2_with fail
  refine wp_region_later_tail 11 (by kernel_rfl) (by kernel_rfl) ?_
  simp only [List.take_succ_cons, List.take_zero, List.drop_succ_cons, List.drop_zero]
  repeat (go_big_quiet_step (first | (go_at_call 111; exact Gives.later _ (implGfAdd_is _ _ _ HADD.out _))))
  refine wpQuiet_nil ?_
  rintro R0 ⟨zz, hz⟩
  have hbR : Below w1.heap.size w1 R0 := hz ▸ zz.ok
  have O2 := intsK.ownBelow HO1.out hbR
  obtain ⟨_, _, e0, _, hc0, hf0, _, hset0⟩ := ints_place O2 HTL.out
  cases e0
  have hR := hset0 (xr (Y0 : Int) U)
  have HR := Lib.hid hR
  have HN2 : Hid (OnlyS S w R0) := HN1.out.trans (Below.onlyS hbR)
  clear z0 z1 z2 hz zz hbR O2 hset0 hR
  go_wp2_with fail
  (try simp only [Exit.inBlock, Exit.then])
  refine bodyPost_end (v := .tuple #[]) (by simp [results, Tryd.results102]) rfl ⟨rfl, by rw [HYY.out]; exact HR.out, HN2.out.setCell hgs _⟩

end Go.Proofs.YtfpfgaifhmgpiaaDoor

namespace Go.Proofs.YtfpfgaifhmgpiaaDoor
open Go.RowKit Go.PlainAid

set_option linter.unusedVariables false

theorem ownsRow_at {w : World} {B n K g cap : Nat} {T : TypeId} {a : Option Addr} {xs : List Value} (h : w.ownsRow B T K (.slice a n cap) n xs) (hn : 0 < n) :
    ∃ g, a = some ⟨g, 0, none⟩ ∧ B ≤ g ∧ g < w.heap.size ∧ (∀ j, w.frozen? ⟨g, j, none⟩ = false) ∧ n ≤ maxLen := by
  rcases h.2 with ⟨hv, h0⟩ | ⟨g, cap', cur, hv, hB, hh, h1, h2, _⟩
  · omega
  · cases hv
    exact ⟨g, rfl, hB, lt_of_block hh, fun j => by simp [World.frozen?, hh], by omega⟩

/-- Two neighbouring cells of a list replaced. -/
theorem set_two {A B : List Value} {c0 c1 u0 u1 : Value} {m : Nat} (hm : A.length = m) : ((A ++ ([c0, c1] ++ B)).set m u0).set (m + 1) u1 = (A ++ [u0, u1]) ++ B := by
  subst hm
  rw [List.set_append_right _ _ (Nat.le_refl _), Nat.sub_self, List.set_append_right _ _ (by omega), Nat.add_sub_cancel_left]
  simp

/-- A row some of whose cells are copies already (blocks S), the others still those of w1. -/
def MixC (w1 wr : World) (B : Nat) (v : Value) (n k : Nat) (x : List (List Int × Bool)) : Prop :=
  ∃ xs1 xs2 S, wr.ownsRow B 41 2 v n (xs1 ++ xs2) ∧ cellK.owns wr S xs1 (x.take k) ∧ cellK.rds w1 xs2 (x.drop k) ∧ S.Nodup ∧ (∀ b ∈ S, B ≤ b) ∧ ∀ g, v.ownBlock = some g → g ∉ S

theorem MixC.below {w1 wr wq : World} {B n k : Nat} {v : Value} {x : List (List Int × Bool)} (h : MixC w1 wr B v n k x) (hb : Below wr.heap.size wr wq) : MixC w1 wq B v n k x := by
  obtain ⟨xs1, xs2, S, h1, h2, h3, h4, h5, h6⟩ := h
  exact ⟨xs1, xs2, S, ownsRow_below h1 hb, cellK.owns_same h2 (fun b hm => hb.block b (cellK.owns_lt h2 b hm)), h3, h4, h5, h6⟩

/-- The place of the next cell. -/
theorem MixC.at {w1 wr : World} {B n k : Nat} {v : Value} {x : List (List Int × Bool)} (h : MixC w1 wr B v n k x) (hx : x.length = n) (hk : k < n) :
    ∃ g cap a m c, v = .slice (some ⟨g, 0, none⟩) n cap ∧ B ≤ g ∧ g < wr.heap.size ∧ (∀ j, wr.frozen? ⟨g, j, none⟩ = false) ∧ wr.cell? ⟨g, k * 2, none⟩ = some (.slice a m c) ∧ wr.cell? ⟨g, k * 2 + 1, none⟩ = some (.bool (x.getD k ([], false)).2) ∧ intsK.rd w1 [.slice a m c] (x.getD k ([], false)).1 := by
  obtain ⟨xs1, xs2, S, h1, h2, h3, h4, h5, h6⟩ := h
  have hc := fun g hg => World.ownsRow.cells h1 (g := g) hg
  have l1 : xs1.length = k * 2 := by
    have := cellK.rds_len (cellK.owns_rds h2)
    rw [List.length_take, Nat.min_eq_left (by omega)] at this
    exact this
  rw [List.drop_eq_getElem_cons (by omega)] at h3
  obtain ⟨c1, c2, rfl, hr, _⟩ := h3
  have e : x.getD k ([], false) = x[k] := by rw [List.getD_eq_getElem?_getD, List.getElem?_eq_getElem (by omega)]; rfl
  rw [e]
  obtain ⟨a, m, c, rfl, hi⟩ := cell_rd hr
  rcases h1.2 with ⟨_, h0⟩ | ⟨g, cap, cur, hv, hB, hh, _⟩
  · omega
  · subst hv
    refine ⟨g, cap, a, m, c, rfl, hB, lt_of_block hh, fun j => by simp [World.frozen?, hh], ?_, ?_, hi⟩
    · have := hc g rfl (k * 2) (.slice a m c) (by rw [List.getElem?_append_right (by omega), l1, Nat.sub_self]; rfl)
      rw [Addr.add_lit, Nat.zero_add] at this
      exact this
    · have := hc g rfl (k * 2 + 1) (.bool x[k].2) (by rw [List.getElem?_append_right (by omega), l1, Nat.add_sub_cancel_left]; rfl)
      rw [Addr.add_lit, Nat.zero_add] at this
      exact this

/-- One cell more copied. -/
theorem MixC.step {w1 w3 wr : World} {B n k g cap m c : Nat} {a : Option Addr} {T : List Nat} {x : List (List Int × Bool)} (h : MixC w1 w3 B (.slice (some ⟨g, 0, none⟩) n cap) n k x) (hb : Below w3.heap.size w3 wr) (hx : x.length = n) (hk : k < n)
    (ho : cellK.own wr T [.slice a m c, .bool (x.getD k ([], false)).2] (x.getD k ([], false))) (hT : ∀ b ∈ T, w3.heap.size ≤ b) (hB : B ≤ w3.heap.size) :
    MixC w1 ((wr.setCell ⟨g, k * 2, none⟩ (.slice a m c)).setCell ⟨g, k * 2 + 1, none⟩ (.bool (x.getD k ([], false)).2)) B (.slice (some ⟨g, 0, none⟩) n cap) n (k + 1) x := by
  obtain ⟨xs1, xs2, S, h1, h2, h3, h4, h5, h6⟩ := h
  have hlt := cellK.owns_lt h2
  have hg3 : g < w3.heap.size := (World.ownsRow.lt h1 g rfl).2
  have hTS : ∀ b ∈ T, b ∉ S := fun b hb hb' => by have := hT b hb; have := hlt b hb'; omega
  have hg : g ∉ T := fun hm => by have := hT g hm; omega
  have h2 := cellK.owns_same h2 (fun b hm => hb.block b (hlt b hm))
  have h1 := ownsRow_below h1 hb
  have e : x.getD k ([], false) = x[k] := by rw [List.getD_eq_getElem?_getD, List.getElem?_eq_getElem (by omega)]; rfl
  rw [e] at ho ⊢
  have l1 : xs1.length = k * 2 := by
    have := cellK.rds_len (cellK.owns_rds h2)
    rw [List.length_take, Nat.min_eq_left (by omega)] at this
    exact this
  rw [List.drop_eq_getElem_cons (by omega)] at h3
  obtain ⟨c1, c2, rfl, hr, h3⟩ := h3
  obtain ⟨a', m', c', rfl, _⟩ := cell_rd hr
  have hgS : g ∉ S := h6 g rfl
  have hne : ∀ b, b ≠ g → ((wr.setCell ⟨g, k * 2, none⟩ (.slice a m c)).setCell ⟨g, k * 2 + 1, none⟩ (.bool x[k].2)).heap[b]? = wr.heap[b]? := fun b hb => (Below.heap_setCell _ _ _ _ hb).trans (Below.heap_setCell _ _ _ _ hb)
  have o1 := (World.ownsRow.stored (World.ownsRow.stored h1 (k * 2) (.slice a m c)).1 (k * 2 + 1) (.bool x[k].2)).1
  rw [set_two l1] at o1
  refine ⟨xs1 ++ [.slice a m c, .bool x[k].2], c2, S ++ T, o1, ?_, h3, ?_, fun b hb => ?_, fun g' hg' => ?_⟩
  · rw [List.take_succ_eq_append_getElem (by omega)]
    refine cellK.owns_same (cellK.owns_snoc ho h2) (fun b hb => hne b (fun e => ?_))
    rcases List.mem_append.1 hb with h | h
    · exact hgS (e ▸ h)
    · exact hg (e ▸ h)
  · rw [List.nodup_append]
    exact ⟨h4, cellK.nodup ho, fun a ha b hb e => hTS b hb (e ▸ ha)⟩
  · rcases List.mem_append.1 hb with h | h
    · exact h5 b h
    · have := hT b h; omega
  · have e2 : g = g' := Option.some.inj hg'
    subst e2
    intro hm
    rcases List.mem_append.1 hm with h | h
    · exact hgS h
    · exact hg h

theorem MixC.start {w1 wr : World} {B n : Nat} {v : Value} {xs : List Value} {x : List (List Int × Bool)} (h : wr.ownsRow B 41 2 v n xs) (hr : cellK.rds w1 xs x) : MixC w1 wr B v n 0 x :=
  ⟨[], xs, [], h, ⟨rfl, rfl⟩, hr, List.nodup_nil, (fun b hb => by cases hb), fun g _ hm => by cases hm⟩

theorem MixC.stop {w1 wr : World} {B n : Nat} {v : Value} {x : List (List Int × Bool)} (h : MixC w1 wr B v n n x) (hx : x.length = n) : ∃ S, cellsK.own wr S [v] x ∧ ∀ b ∈ S, B ≤ b := by
  obtain ⟨xs1, xs2, S, h1, h2, h3, h4, h5, h6⟩ := h
  rw [List.drop_of_length_le (by omega)] at h3
  obtain rfl : xs2 = [] := h3
  rw [List.append_nil] at h1
  rw [List.take_of_length_le (by omega)] at h2
  have hb : cellK.Bld 41 B wr S v x := ⟨xs1, by rw [hx]; exact h1, h2, h4, h5, h6⟩
  exact hb.own

set_option maxHeartbeats 16000000 in
set_option maxRecDepth 100000 in
theorem implCopyA_is {cs : List Value} {x : Arr} {w : World} (h : arrK.rd w cs x) (hf : ArrFit x) :
    Calls Tryd.prog 36 #[.agg cs.toArray] w (GivesS arrK x w) := by
  obtain ⟨a0, n0, c0, a1, n1, c1, a2, n2, c2, rfl, h0, h1, h2⟩ := arr_rd h
  obtain ⟨xl, y, z⟩ := x
  obtain ⟨w1, hw1⟩ : ∃ u, (w.alloc (.cells #[.slice a0 n0 c0, .slice a1 n1 c1, .slice a2 n2 c2] 31)).alloc (.cells #[.slice none 0 0, .slice none 0 0, .slice none 0 0] 31) = u := ⟨_, rfl⟩
  have HB1 : Hid (Below w.heap.size w w1) := by subst hw1; exact ((Below.refl _ _).alloc (Nat.le_refl _) _).alloc (by simp) _
  have p1 : w1.heap[w.heap.size]? = some (.cells #[.slice a0 n0 c0, .slice a1 n1 c1, .slice a2 n2 c2] 31) := by subst hw1; exact heap_alloc2_old _ _ _
  have r1 : w1.heap[w.heap.size + 1]? = some (.cells #[.slice none 0 0, .slice none 0 0, .slice none 0 0] 31) := by subst hw1; exact heap_alloc2_new _ _ _
  have H0 : Hid (cellsK.rd w1 [.slice a0 n0 c0] xl) := cellsK.below h0 HB1.out
  have H1 : Hid (intsK.rd w1 [.slice a1 n1 c1] y) := intsK.below h1 HB1.out
  have H2 : Hid (intsK.rd w1 [.slice a2 n2 c2] z) := intsK.below h2 HB1.out
  have HF : Hid (xl.length ≤ 3000000 ∧ (∀ c ∈ xl, c.1.length ≤ 4000000) ∧ y.length ≤ 4000000 ∧ z.length ≤ 4000000) := hf
  obtain ⟨hnl, _, hnm, _⟩ := Kn.row_len h0
  have HNL : Hid (xl.length = n0) := hnl
  have hn0 : n0 ≤ 3000000 := by have : xl.length = n0 := hnl; have := HF.out.1; omega
  obtain ⟨x0, x1, x2⟩ := cells3 p1
  clear h h0 h1 h2 hf hnl hnm
  go_enter Tryd.func36, Tryd.ntmps36
  go_wp2_with fail
  refine (implCloneC_is H0.out HF.out.1).mono ?_
  rintro e w2 ⟨va, vc, xs, rfl, hown, hrds, hb2⟩
  have HB2 : Hid (Below w.heap.size w w2) := HB1.out.trans (hb2.mono HB1.out.size)
  have p2 := keep_block hb2 p1 (lt_of_block p1)
  have r2 := keep_block hb2 r1 (lt_of_block r1)
  have HM0 : Hid (MixC w1 w2 w1.heap.size (.slice va n0 vc) n0 0 xl) := MixC.start hown hrds
  have HS12 : Hid (w1.heap.size ≤ w2.heap.size) := hb2.size
  have HW1 : Hid (Below w1.heap.size w1 w2) := hb2
  have HS1 : Hid (w.heap.size + 1 < w1.heap.size) := lt_of_block r1
  clear x0 x1 x2 p1 r1 hown hrds hb2 HB1
  go_wp2_with fail
  go_loopw [11] (fun i wr => ∃ k : Nat, k ≤ n0 ∧ i = .int .i64 k ∧ MixC w1 wr w1.heap.size (.slice va n0 vc) n0 k xl ∧ Below w1.heap.size w1 wr ∧ wr.heap[w.heap.size]? = some (.cells #[.slice a0 n0 c0, .slice a1 n1 c1, .slice a2 n2 c2] 31 (0, 0)) ∧ wr.heap[w.heap.size + 1]? = some (.cells #[.slice none 0 0, .slice none 0 0, .slice none 0 0] 31 (0, 0)) ∧ Below w.heap.size w wr) (fun i _ => n0 + 1 - (intOf i).toNat)
  case atStart => exact ⟨0, Nat.zero_le _, rfl, HM0.out, HW1.out, p2, r2, HB2.out⟩
  case round =>
    obtain ⟨k, hk, rfl, hmix, hbw, pr, rr, hbb⟩ := hrel
    have HMX := Lib.hid hmix
    have HBW := Lib.hid hbw
    have HBB := Lib.hid hbb
    clear hmix hbw hbb p2 r2 HM0 HB2 HW1
    by_cases hlt : k < n0
    case pos =>
      have hI : decide ((k : Int) < (n0 : Int)) = true := decide_eq_true (by omega)
      have wk : IntKind.i64.wrap ((k : Int) + 1) = (k : Int) + 1 := IntWalk.i64_in _ (by omega)
      obtain ⟨g, cap, xa, xn, xc, hv, hg1, hg2, hfr, hc0, hc1, hrd⟩ := HMX.out.at HNL.out hlt
      simp only [Value.slice.injEq] at hv
      obtain ⟨rfl, _, rfl⟩ := hv
      have hcm : (xl.getD k ([], false)).1.length ≤ 4000000 := by
        rw [List.getD_eq_getElem?_getD, List.getElem?_eq_getElem (by rw [HNL.out]; exact hlt)]
        exact HF.out.2.1 _ (List.getElem_mem _)
      have HEP : Hid (((xl.getD k ([], false)).1, (xl.getD k ([], false)).2) = xl.getD k ([], false)) := rfl
      obtain ⟨s, hs⟩ : ∃ s, (xl.getD k ([], false)).1 = s := ⟨_, rfl⟩
      obtain ⟨pz, hpz⟩ : ∃ pz, (xl.getD k ([], false)).2 = pz := ⟨_, rfl⟩
      rw [hs] at hcm hrd
      rw [hpz] at hc1
      have HE : Hid (xl.getD k ([], false) = (s, pz)) := by show _ = _; rw [← hs, ← hpz]
      have HGB : Hid (w1.heap.size ≤ g ∧ g < wr.heap.size) := ⟨hg1, hg2⟩
      obtain ⟨w3, hw3⟩ : ∃ u, wr.alloc (.cells #[.slice xa xn xc, .bool pz] 41) = u := ⟨_, rfl⟩
      have hbA : Below wr.heap.size wr w3 := by subst hw3; exact (Below.refl _ _).alloc (Nat.le_refl _) _
      have q3 : w3.heap[wr.heap.size]? = some (.cells #[.slice xa xn xc, .bool pz] 41) := hw3 ▸ heap_alloc_new wr _
      have HRS : Hid (intsK.rd w3 [.slice xa xn xc] s) := intsK.below (intsK.below hrd HBW.out) hbA
      have HM3 := Lib.hid (HMX.out.below hbA)
      have p3 := keep_block hbA pr (lt_of_block pr)
      have r3 := keep_block hbA rr (lt_of_block rr)
      have HB3 : Hid (Below w1.heap.size w1 w3) := HBW.out.trans (hbA.mono HBW.out.size)
      have HC3 : Hid (Below w.heap.size w w3) := HBB.out.trans (hbA.mono HBB.out.size)
      have HG3 : Hid (wr.heap.size ≤ w3.heap.size) := hbA.size
      clear HBW HBB HMX pr rr hs hpz HEP hg1 hg2 hrd hbA
      obtain ⟨e0, e1⟩ := cells2 q3
      go_wp2_with fail
      refine (implCell_k (p := pz) HRS.out hcm).mono ?_
      rintro e w4 ⟨cs4, T4, rfl, own4, hT4, hb4⟩
      obtain ⟨ya, yn, yc, rfl, hi4⟩ := cell_own own4
      have HM4 := HM3.out.below hb4
      obtain ⟨_, _, _, _, _, hv, _, _, hfr4, hd0, hd1, _⟩ := HM4.at HNL.out hlt
      cases hv
      have hpe : (xl.getD k ([], false)).2 = pz := by rw [HE.out]
      have own4' : cellK.own w4 T4 [.slice ya yn yc, .bool pz] (xl.getD k ([], false)) := by rw [HE.out]; exact own4
      have hst : MixC w1 ((w4.setCell ⟨g, k * 2, none⟩ (.slice ya yn yc)).setCell ⟨g, k * 2 + 1, none⟩ (.bool pz)) w1.heap.size (.slice (some ⟨g, 0, none⟩) n0 vc) n0 (k + 1) xl := by
        have := HM3.out.step (a := ya) (m := yn) (c := yc) (T := T4) hb4 HNL.out hlt (by rw [hpe]; exact own4') (fun b hb => hT4 b hb) HB3.out.size
        rw [hpe] at this
        exact this
      have p4 := keep_block hb4 p3 (lt_of_block p3)
      have r4 := keep_block hb4 r3 (lt_of_block r3)
      have HB4 : Below w1.heap.size w1 w4 := HB3.out.trans (hb4.mono HB3.out.size)
      have HC4 : Below w.heap.size w w4 := HC3.out.trans (hb4.mono HC3.out.size)
      have hgp : g ≠ w.heap.size ∧ g ≠ w.heap.size + 1 := by have := HGB.out.1; have := HS1.out; omega
      have HST := Lib.hid hst
      have hb5 : Below w1.heap.size w1 ((w4.setCell ⟨g, k * 2, none⟩ (.slice ya yn yc)).setCell ⟨g, k * 2 + 1, none⟩ (.bool pz)) := (HB4.setCell HGB.out.1 _).setCell HGB.out.1 _
      have HB5 := Lib.hid hb5
      have HC5 : Hid (Below w.heap.size w ((w4.setCell ⟨g, k * 2, none⟩ (.slice ya yn yc)).setCell ⟨g, k * 2 + 1, none⟩ (.bool pz))) := (HC4.setCell (by have := HGB.out.1; have := HS1.out; show _ ≤ g; omega) _).setCell (by have := HGB.out.1; have := HS1.out; show _ ≤ g; omega) _
      have p5 := Lib.hid (keep_set (p := ⟨g, k * 2 + 1, none⟩) (v := .bool pz) (keep_set (p := ⟨g, k * 2, none⟩) (v := .slice ya yn yc) p4 (fun e => hgp.1 e.symm)) (fun e => hgp.1 e.symm))
      have r5 := Lib.hid (keep_set (p := ⟨g, k * 2 + 1, none⟩) (v := .bool pz) (keep_set (p := ⟨g, k * 2, none⟩) (v := .slice ya yn yc) r4 (fun e => hgp.2 e.symm)) (fun e => hgp.2 e.symm))
      have f0 := hfr4 (k * 2)
      have f1 := hfr4 (k * 2 + 1)
      clear p4 r4 p3 r3 HB4 HC4 hgp hst hb5 HM4 HM3 HB3 HC3 hfr4 hfr hi4 own4 own4' hT4 hb4 q3 e0 e1 hc0 hc1
      go_wp2_with fail
      go_roundw
      case rel => exact ⟨k + 1, by omega, by go_num, HST.out, HB5.out, p5.out, r5.out, HC5.out⟩
      case measure => simp [intOf]; omega
    obtain rfl : k = n0 := by omega
    have hI : decide ((k : Int) < (k : Int)) = false := decide_eq_false (by omega)
    obtain ⟨S0, own0, hS0⟩ := HMX.out.stop HNL.out
    have HO := Lib.hid own0
    have HS := Lib.hid hS0
    have Hr1 : Hid (intsK.rd wr [.slice a1 n1 c1] y) := intsK.below H1.out HBW.out
    have Hr2 : Hid (intsK.rd wr [.slice a2 n2 c2] z) := intsK.below H2.out HBW.out
    have HSZ : Hid (w1.heap.size ≤ wr.heap.size) := HBW.out.size
    clear own0 hS0 HMX HBW H1 H2
    obtain ⟨x0, x1, x2⟩ := cells3 pr
    go_wp2_with fail
    refine wp_region_float (A := ?A) [.h, .h, .h, .t, .h, .h, .t, .t, .e] (by kernel_rfl) (by kernel_rfl) (fun q => q.cell? ⟨w.heap.size, 0, none⟩ = some (.slice a0 k c0) ∧ q.cell? ⟨w.heap.size, 1, none⟩ = some (.slice a1 n1 c1) ∧ q.cell? ⟨w.heap.size, 2, none⟩ = some (.slice a2 n2 c2)) ?hC ?hH ?hT
    case hC => exact ⟨x0, x1, x2⟩
    case hH =>
      intro q hq
      obtain ⟨h0, h1, h2⟩ := hq
      have z0 := fun t : Same q => t.cell h0
      have z1 := fun t : Same q => t.cell h1
      have z2 := fun t : Same q => t.cell h2
      simp only [headsOf]
      repeat (go_big_quiet_step (fail))
      refine wpQuiet_nil ?_
      exact rfl
    case hT =>
      simp only [chainT]
      have hdr : Below wr.heap.size wr wr.drew := ⟨rfl, rfl, rfl, Nat.le_refl _, fun _ _ => rfl⟩
      have HO2 := Lib.hid (cellsK.ownBelow HO.out hdr)
      have Hd1 := Lib.hid (intsK.below Hr1.out hdr)
      have Hd2 := Lib.hid (intsK.below Hr2.out hdr)
      have HBD : Hid (Below w.heap.size w wr.drew) := HBB.out.trans (hdr.mono HBB.out.size)
      have HZD : Hid (w1.heap.size ≤ wr.drew.heap.size) := HSZ.out
      have pd : wr.drew.heap[w.heap.size]? = _ := pr
      have rd : wr.drew.heap[w.heap.size + 1]? = _ := rr
      clear pr rr HO Hr1 Hr2 HBB HSZ hdr x0 x1 x2
      generalize wr.drew = u0 at *
      go_wp2_with fail
      refine (implCloneN_is Hd1.out HF.out.2.2.1).mono ?_
      rintro e u1 ⟨ya, yc, S1, rfl, own1, hS1, hb1⟩
      have O0 := Lib.hid (cellsK.ownBelow HO2.out hb1)
      have O1 := Lib.hid own1
      have E2 := Lib.hid (intsK.below Hd2.out hb1)
      have p3 := keep_block hb1 pd (lt_of_block pd)
      have r3 := keep_block hb1 rd (lt_of_block rd)
      have HB3 : Hid (Below w.heap.size w u1) := HBD.out.trans (hb1.mono HBD.out.size)
      have HL0 : Hid (∀ b ∈ S0, b < u0.heap.size) := fun b hb => cellsK.lt HO2.out b hb
      have HL1 : Hid (∀ b ∈ S1, u0.heap.size ≤ b ∧ b < u1.heap.size) := fun b hb => ⟨hS1 b hb, intsK.lt own1 b hb⟩
      have HU1 : Hid (u0.heap.size ≤ u1.heap.size) := hb1.size
      clear own1 hS1 hb1 pd rd HBD HO2 Hd1 Hd2
      obtain ⟨x0, x1, x2⟩ := cells3 p3
      go_wp2_with fail
      refine stepQ_normal ⟨⟨x0, x1, x2⟩, ?_⟩
      go_wp2_with fail
      refine (implCloneN_is E2.out HF.out.2.2.2).mono ?_
      rintro e u2 ⟨za, zc, S2, rfl, own2, hS2, hb2⟩
      have Q0 := Lib.hid (cellsK.ownBelow O0.out hb2)
      have Q1 := Lib.hid (intsK.ownBelow O1.out hb2)
      have Q2 := Lib.hid own2
      have p4 := keep_block hb2 p3 (lt_of_block p3)
      have r4 := keep_block hb2 r3 (lt_of_block r3)
      have HB4 : Hid (Below w.heap.size w u2) := HB3.out.trans (hb2.mono HB3.out.size)
      have HL2 : Hid (∀ b ∈ S2, u1.heap.size ≤ b) := hS2
      clear own2 hS2 hb2 p3 r3 HB3 O0 O1 E2 x0 x1 x2
      have HND : Hid ((S0 ++ (S1 ++ S2)).Nodup) := nodup_of (cellsK.nodup Q0.out) (intsK.nodup Q1.out) (intsK.nodup Q2.out) (fun b hb hb' => by have := HL0.out b hb'; have := (HL1.out b hb).1; omega) (fun b hb hb' => by have := HL0.out b hb'; have := HL2.out b hb; have := HU1.out; omega) (fun b hb hb' => by have := HL2.out b hb; have := (HL1.out b hb').2; omega)
      have HGE : Hid (∀ b ∈ S0 ++ (S1 ++ S2), w1.heap.size ≤ b) := fun b hb => by
        rcases List.mem_append.1 hb with h | h
        · exact HS.out b h
        · rcases List.mem_append.1 h with h | h
          · have := (HL1.out b h).1; have := HZD.out; omega
          · have := HL2.out b h; have := HU1.out; have := HZD.out; omega
      have HOA : Hid (arrK.own u2 (S0 ++ (S1 ++ S2)) [.slice va k vc, .slice ya n1 yc, .slice za n2 zc] (xl, y, z)) := arr_of Q0.out Q1.out Q2.out HND.out
      generalize S0 ++ (S1 ++ S2) = T at HOA HGE
      obtain ⟨x0, x1, x2⟩ := cells3 p4
      go_wp2_with fail
      refine stepQ_normal ⟨⟨x0, x1, x2⟩, ?_⟩
      go_wp2_with fail
      refine stepQ_normal ⟨⟨x0, x1, x2⟩, ?_⟩
      clear x0 x1 x2
      obtain ⟨y0, y1, y2⟩ := cells3 r4
      have f0 := thawed r4 0
      have f1 := thawed r4 1
      have f2 := thawed r4 2
      have o5 := set_cells (set_cells (set_cells r4 0 (.slice va k vc)) 1 (.slice ya n1 yc)) 2 (.slice za n2 zc)
      obtain ⟨t0, t1, t2⟩ := cells3 o5
      have HNR : Hid (∀ b ∈ T, b ≠ w.heap.size + 1) := fun b hb => by have := HGE.out b hb; have := HS1.out; omega
      go_wp2_with fail
      refine stepQ_normal ⟨trivial, ?_⟩
      go_wp2_with fail
      (try simp only [Exit.inBlock, Exit.then])
      refine bodyPost_ret (v := .agg #[.slice va k vc, .slice ya n1 yc, .slice za n2 zc]) ?_ rfl ⟨_, T, rfl, ?_, fun b hb => ?_, ?_⟩
      · simp [results, Tryd.results36, go_sem, t0, t1, t2]
      · exact arrK.ownSet (arrK.ownSet (arrK.ownSet HOA.out (fun b hb => HNR.out b hb) _) (fun b hb => HNR.out b hb) _) (fun b hb => HNR.out b hb) _
      · have := HGE.out b hb; have := HS1.out; omega
      · exact ((HB4.out.setCell (by simp) _).setCell (by simp) _).setCell (by simp) _

end Go.Proofs.YtfpfgaifhmgpiaaDoor

namespace Go.Proofs.YtfpfgaifhmgpiaaDoor
open Go.RowKit Go.PlainAid

set_option linter.unusedVariables false

theorem implBad_is (a : Int) (v : Bool) (hv : (!decide (El a)) = v) (w : World) :
    Calls Tryd.prog 104 #[.int .i64 a] w (Says (.bool v) w) := by
  obtain ⟨u, hu⟩ : ∃ u, decide (El a) = u := ⟨_, rfl⟩
  have HE : Hid ((!u) = v) := by show _ = _; rw [← hu]; exact hv
  have HU := Lib.hid hu
  clear hu hv
  go_enter Tryd.func104, Tryd.ntmps104
  go_wp2_with fail
  refine (implIsEl_is a u HU.out _).mono ?_
  rintro e w2 ⟨rfl, rfl⟩
  go_wp2_with fail
  go_ret
  exact ⟨ret_b HE.out, rfl⟩

set_option maxHeartbeats 1000000 in
set_option maxRecDepth 100000 in
theorem implIndexBad_is {a : Option Addr} {n c : Nat} {l : List Int} (hn : l.length = n) (hl : n ≤ 3000000) {w : World} (h : RowI w a l) (v : Bool) (hv : decide (Els l) = v) :
    Calls Tryd.prog 112 #[.slice a n c, .func (.func 104) #[] #[]] w fun e w' => ∃ i : Int, e = .returned (.int .i64 i) ∧ decide (0 ≤ i) = (!v) ∧ w = w' := by
  have HN := Lib.hid hn
  have HA := Lib.hid h
  have HV := Lib.hid hv
  have hl2 : (n : Int) ≤ 9223372036854775807 := by omega
  clear hn h hv
  go_enter Tryd.func112, Tryd.ntmps112
  go_wp2_with fail
  go_loopw [8] (fun i wr => ∃ k : Nat, k ≤ n ∧ i = .int .i64 k ∧ Els (l.take k) ∧ wr = w) (fun i _ => n - (intOf i).toNat)
  case atStart => exact ⟨0, Nat.zero_le _, rfl, (fun v hv => by cases hv), rfl⟩
  case round =>
    obtain ⟨k, hk, rfl, hels, rfl⟩ := hrel
    have HE := Lib.hid hels
    clear hels
    by_cases hlt : k < n
    · obtain ⟨ga, oa, rfl, hca⟩ := HA.out.at (k := k) (by rw [HN.out]; exact hlt)
      obtain ⟨x, hx⟩ : ∃ x, l.getD k 0 = x := ⟨_, rfl⟩
      rw [hx] at hca
      by_cases he : El x
      · have HS := Lib.hid (els_take (by rw [HN.out]; exact hlt) HE.out (hx ▸ he))
        have KA : Hid ((!decide (El x)) = false) := by show _ = _; rw [decide_eq_true he]; rfl
        clear hx he
        go_wp2_with fail
        refine (implBad_is x false KA.out _).mono ?_
        rintro e w2 ⟨rfl, rfl⟩
        go_wp2_with fail
        go_roundw
        case rel => exact ⟨k + 1, by omega, by go_num, HS.out, by trivial⟩
        case measure => simp [intOf]; omega
      · have HF : Hid (false = v) := by show _ = _; rw [← HV.out]; exact (decide_eq_false (fun q => he (hx ▸ el_getD q (by rw [HN.out]; exact hlt)))).symm
        have KA : Hid ((!decide (El x)) = true) := by show _ = _; rw [decide_eq_false he]; rfl
        clear hx he
        go_wp2_with fail
        refine (implBad_is x true KA.out _).mono ?_
        rintro e w2 ⟨rfl, rfl⟩
        go_wp2_with fail
        go_ret
        exact ⟨_, rfl, by rw [← HF.out]; exact decide_eq_true (by omega), rfl⟩
    · obtain rfl : k = n := by omega
      have HF : Hid (true = v) := by
        show _ = _
        rw [← HV.out]
        have := HE.out
        rw [List.take_of_length_le (by rw [HN.out]; omega)] at this
        exact (decide_eq_true this).symm
      go_wp2_with fail
      go_ret
      exact ⟨_, rfl, by rw [← HF.out]; rfl, rfl⟩

theorem implContainsBad_is {a : Option Addr} {n c : Nat} {l : List Int} (hn : l.length = n) (hl : n ≤ 3000000) {w : World} (h : RowI w a l) (v : Bool) (hv : decide (Els l) = v) :
    Calls Tryd.prog 103 #[.slice a n c, .func (.func 104) #[] #[]] w (Says (.bool (!v)) w) := by
  have HN := Lib.hid hn
  have HA := Lib.hid h
  have HV := Lib.hid hv
  clear hn h hv
  go_enter Tryd.func103, Tryd.ntmps103
  go_wp2_with fail
  refine (implIndexBad_is HN.out hl HA.out v HV.out).mono ?_
  rintro e w2 ⟨i, rfl, hi, rfl⟩
  have HI := Lib.hid hi
  clear hi
  go_wp2_with fail
  go_ret
  exact ⟨ret_b HI.out, rfl⟩

theorem implSymbolsOk_is : ISymbolsOk := by
  intro a n c l m v hv hn hl hc w h
  by_cases hm : (n : Int) = m
  case neg =>
    have tm : ((n : Int) == m) = false := by simpa using hm
    obtain rfl : v = false := by rw [← hv]; exact decide_eq_false fun q => hm (by rw [← hn]; exact q.2)
    clear hv h hm hn
    go_enter Tryd.func83, Tryd.ntmps83
    go_wp2_with fail
    go_ret
    exact ⟨rfl, Below.refl _ _⟩
  have HE : Hid (decide (Els l) = v) := by
    show _ = _
    rw [← hv]
    exact decide_eq_decide.mpr ⟨fun q => ⟨q, by rw [hn]; exact hm⟩, fun q => q.1⟩
  have HN := Lib.hid hn
  have HA := Lib.hid h
  clear hv hn h
  subst hm
  have tm : ((n : Int) == (n : Int)) = true := by simp
  go_enter Tryd.func83, Tryd.ntmps83
  go_wp2_with fail
  refine (implContainsBad_is HN.out hl HA.out v HE.out).mono ?_
  rintro e w2 ⟨rfl, rfl⟩
  go_wp2_with fail
  go_ret
  exact ⟨rfl, Below.refl _ _⟩

end Go.Proofs.YtfpfgaifhmgpiaaDoor

namespace Go.Proofs.YtfpfgaifhmgpiaaDoor
open Go.RowKit Go.PlainAid

set_option linter.unusedVariables false

theorem implSym11_is {a : Option Addr} {n c : Nat} {l : List Int} {w : World} (h : intsK.rd w [.slice a n c] l) (v : Bool) (hv : decide (SymOk l 11) = v) :
    Calls Tryd.prog 83 #[.slice a n c, .int .i64 11] w (Gives (.bool v) w) := by
  obtain ⟨h1, h2, h3, h4⟩ := Kn.row_len h
  unfold maxLen at h3
  by_cases hm : n = 11
  · exact implSymbolsOk_is a n c l 11 v hv h1 (by omega) h2 w (ints_row h)
  · have tm : ((n : Int) == 11) = false := by rw [beq_eq_false_iff_ne]; omega
    obtain rfl : v = false := by rw [← hv]; exact decide_eq_false fun q => hm (by have : (l.length : Int) = 11 := q.2; omega)
    clear hv h hm h1 h2 h4
    go_enter Tryd.func83, Tryd.ntmps83
    go_wp2_with fail
    go_ret
    exact ⟨rfl, Below.refl _ _⟩

set_option maxHeartbeats 4000000 in
set_option maxRecDepth 100000 in
theorem implCellsFit_is (ga gb gr gd : Int) {a : Option Addr} {n c : Nat} {x : List (List Int × Bool)} {w : World} (h : cellsK.rd w [.slice a n c] x) (v : Bool) (hv : decide ((x.length : Int) = lineN ga gb gr gd ∧ ∀ q ∈ x, SymOk q.1 11) = v) :
    Calls Tryd.prog 41 #[.agg #[.int .i64 ga, .int .i64 gb, .int .i64 gr, .int .i64 gd], .slice a n c] w (Gives (.bool v) w) := by
  obtain ⟨l0, _, m0, _⟩ := Kn.row_len h
  unfold maxLen at m0
  obtain ⟨w1, hw1⟩ : ∃ u, w.alloc (.cells #[.int .i64 ga, .int .i64 gb, .int .i64 gr, .int .i64 gd] 25) = u := ⟨_, rfl⟩
  have HB1 : Hid (Below w.heap.size w w1) := by subst hw1; exact (Below.refl _ _).alloc (Nat.le_refl _) _
  have g1 : w1.heap[w.heap.size]? = some (.cells #[.int .i64 ga, .int .i64 gb, .int .i64 gr, .int .i64 gd] 25) := hw1 ▸ heap_alloc_new w _
  have H1 : Hid (cellsK.rd w1 [.slice a n c] x) := cellsK.below h HB1.out
  have HL0 : Hid (x.length = n) := l0
  obtain ⟨L, hL⟩ : ∃ L, lineN ga gb gr gd = L := ⟨_, rfl⟩
  have HLN := Lib.hid hL
  rw [hL, l0] at hv
  have HV := Lib.hid hv
  have hLr := lineN_range ga gb gr gd
  rw [hL] at hLr
  clear h hv l0 hL
  obtain ⟨x0, x1, x2, x3⟩ := cells4 g1
  by_cases hn : (n : Int) = L
  case neg =>
    have t0 : ((n : Int) != L) = true := by rw [bne_iff_ne]; exact hn
    have HE : Hid (false = v) := by show _ = _; rw [← HV.out]; exact (decide_eq_false (fun h => hn h.1)).symm
    clear hn hLr
    go_enter Tryd.func41, Tryd.ntmps41
    go_wp2_with fail
    refine (implLine_is ga gb gr gd L HLN.out _).mono ?_
    rintro e w2 ⟨rfl, hb2⟩
    have HB2 : Hid (Below w.heap.size w w2) := HB1.out.trans (hb2.mono HB1.out.size)
    clear hb2 x0 x1 x2 x3 g1
    go_wp2_with fail
    go_ret
    exact ⟨ret_b HE.out, HB2.out⟩
  have t0 : ((n : Int) != L) = false := by rw [bne_eq_false_iff_eq]; exact hn
  have hn0 : (n : Int) ≤ 1024 := by omega
  have HV2 : Hid (decide (∀ q ∈ x, SymOk q.1 11) = v) := by
    show _ = _
    rw [← HV.out]
    exact decide_eq_decide.2 ⟨fun h => ⟨hn, h⟩, fun h => h.2⟩
  clear hn hLr HV
  go_enter Tryd.func41, Tryd.ntmps41
  go_wp2_with fail
  refine (implLine_is ga gb gr gd L HLN.out _).mono ?_
  rintro e w2 ⟨rfl, hb2⟩
  have HB2 : Hid (Below w.heap.size w w2) := HB1.out.trans (hb2.mono HB1.out.size)
  have H2 : Hid (cellsK.rd w2 [.slice a n c] x) := cellsK.below H1.out hb2
  clear hb2 x0 x1 x2 x3 g1 H1 HB1
  go_wp2_with fail
  go_loopw [14] (fun i wr => ∃ k : Nat, k ≤ n ∧ i = .int .i64 k ∧ (∀ q ∈ x.take k, SymOk q.1 11) ∧ Below w2.heap.size w2 wr) (fun i _ => n + 1 - (intOf i).toNat)
  case atStart => exact ⟨0, Nat.zero_le _, rfl, by simp, Below.refl _ _⟩
  case round =>
    obtain ⟨k, hk, rfl, hall, hbw⟩ := hrel
    have HALL := Lib.hid hall
    have HBW := Lib.hid hbw
    have HBX : Hid (Below w.heap.size w wr) := HB2.out.trans (hbw.mono HB2.out.size)
    clear hall hbw
    by_cases hlt : k < n
    case neg =>
      obtain rfl : k = n := by omega
      have hI : decide ((k : Int) < (k : Int)) = false := decide_eq_false (by omega)
      have HE : Hid (true = v) := by
        show _ = _
        rw [← HV2.out]
        have := HALL.out
        rw [List.take_of_length_le (by rw [HL0.out]; exact Nat.le_refl _)] at this
        exact (decide_eq_true this).symm
      go_wp2_with fail
      go_ret
      exact ⟨ret_b HE.out, HBX.out⟩
    have hI : decide ((k : Int) < (n : Int)) = true := decide_eq_true (by omega)
    have wk : IntKind.i64.wrap ((k : Int) + 1) = (k : Int) + 1 := IntWalk.i64_in _ (by omega)
    have hkl : k < x.length := by rw [HL0.out]; exact hlt
    obtain ⟨g, off, ds, rfl, hcell, hel⟩ := Kn.row_at (cellsK.below H2.out HBW.out) hkl
    have HNX : Hid (SymOk x[k].1 11 → ∀ q ∈ x.take (k + 1), SymOk q.1 11) := fun h => all_take hkl HALL.out h
    have HNO : Hid (¬ SymOk x[k].1 11 → false = v) := fun h => by rw [← HV2.out]; exact (decide_eq_false (fun hh => h (hh _ (List.getElem_mem _)))).symm
    generalize x[k] = xk at hel HNX HNO
    obtain ⟨s, p⟩ := xk
    obtain ⟨xa, xn, xc, rfl, hs⟩ := cell_rd hel
    have b0 : wr.cell? ⟨g, off + k * 2, none⟩ = some (.slice xa xn xc) := hcell 0 (by decide)
    have b1 : wr.cell? ⟨g, off + k * 2 + 1, none⟩ = some (.bool p) := hcell 1 (by decide)
    obtain ⟨w3, hw3⟩ : ∃ u, wr.alloc (.cells #[.slice xa xn xc, .bool p] 41) = u := ⟨_, rfl⟩
    have hbA : Below wr.heap.size wr w3 := by subst hw3; exact (Below.refl _ _).alloc (Nat.le_refl _) _
    have q3 : w3.heap[wr.heap.size]? = some (.cells #[.slice xa xn xc, .bool p] 41) := hw3 ▸ heap_alloc_new wr _
    have HSR : Hid (intsK.rd w3 [.slice xa xn xc] s) := intsK.below hs hbA
    have HB3 : Hid (Below w2.heap.size w2 w3) := HBW.out.trans (hbA.mono HBW.out.size)
    have HB4 : Hid (Below w.heap.size w w3) := HBX.out.trans (hbA.mono HBX.out.size)
    clear hcell hel hs hbA HBX HBW
    obtain ⟨e0, e1⟩ := cells2 q3
    by_cases hok : SymOk s 11
    case neg =>
      have KS := Lib.hid (decide_eq_false hok)
      have HE := Lib.hid (HNO.out hok)
      clear hok
      go_wp2_with fail
      refine (implSym11_is HSR.out false KS.out).mono ?_
      rintro e w5 ⟨rfl, hb5⟩
      have HB5 : Hid (Below w.heap.size w w5) := HB4.out.trans (hb5.mono HB4.out.size)
      clear hb5 e0 e1 q3
      go_wp2_with fail
      go_ret
      exact ⟨ret_b HE.out, HB5.out⟩
    have KS := Lib.hid (decide_eq_true hok)
    have HNX2 := Lib.hid (HNX.out hok)
    clear hok
    go_wp2_with fail
    refine (implSym11_is HSR.out true KS.out).mono ?_
    rintro e w5 ⟨rfl, hb5⟩
    have HB5 : Hid (Below w2.heap.size w2 w5) := HB3.out.trans (hb5.mono HB3.out.size)
    clear hb5 e0 e1 q3
    go_wp2_with fail
    go_roundw
    case rel => exact ⟨k + 1, by omega, by go_num, HNX2.out, HB5.out⟩
    case measure => simp [intOf]; omega

set_option maxHeartbeats 1000000 in
theorem implRowCount_is (ga gb gr gd v : Int) (hv : bankN ga gb gr gd * gr = v) (hr : 0 ≤ v ∧ v ≤ 128) (w : World) :
    Calls Tryd.prog 52 #[.agg #[.int .i64 ga, .int .i64 gb, .int .i64 gr, .int .i64 gd]] w (Gives (.int .i64 v) w) := by
  obtain ⟨w1, hw1⟩ : ∃ u, w.alloc (.cells #[.int .i64 ga, .int .i64 gb, .int .i64 gr, .int .i64 gd] 25) = u := ⟨_, rfl⟩
  have HB1 : Hid (Below w.heap.size w w1) := by subst hw1; exact (Below.refl _ _).alloc (Nat.le_refl _) _
  have g1 : w1.heap[w.heap.size]? = some (.cells #[.int .i64 ga, .int .i64 gb, .int .i64 gr, .int .i64 gd] 25) := hw1 ▸ heap_alloc_new w _
  obtain ⟨N, hN⟩ : ∃ N, bankN ga gb gr gd = N := ⟨_, rfl⟩
  have HN := Lib.hid hN
  rw [hN] at hv
  have wR : IntKind.i64.wrap (N * gr) = v := by rw [hv]; exact IntWalk.i64_in _ (by omega)
  obtain ⟨x0, x1, x2, x3⟩ := cells4 g1
  have z0 := fun q : Later w1 => q.cell x0
  have z1 := fun q : Later w1 => q.cell x1
  have z2 := fun q : Later w1 => q.cell x2
  have z3 := fun q : Later w1 => q.cell x3
  clear hN hv x0 x1 x2 x3
  go_enter Tryd.func52, Tryd.ntmps52
  go_wp2_with fail
  refine wp_region_later (by kernel_rfl) (by kernel_rfl) ?_
  repeat (go_big_quiet_step (first | (go_at_call 90; exact Gives.later _ (implBank_is _ _ _ _ _ HN.out _))))
  refine wpQuiet_nil ?_
  rintro w2 ⟨zz, hz⟩
  have hb2 : Below w1.heap.size w1 w2 := hz ▸ zz.ok
  have HB2 : Hid (Below w.heap.size w w2) := HB1.out.trans (hb2.mono HB1.out.size)
  clear hb2 hz zz z0 z1 z2 z3
  go_wp2_with fail
  go_ret
  exact ⟨rfl, HB2.out⟩

set_option maxHeartbeats 4000000 in
set_option maxRecDepth 100000 in
theorem implNumbersFit_is (ga gb gr gd R : Int) (hR : bankN ga gb gr gd * gr = R) (hRr : 0 ≤ R ∧ R ≤ 128) {a : Option Addr} {n c : Nat} {x : List Int} {w : World} (h : intsK.rd w [.slice a n c] x) (v : Bool) (hv : decide ((x.length : Int) = R ∧ ∀ q ∈ x, AgeOk q) = v) :
    Calls Tryd.prog 42 #[.agg #[.int .i64 ga, .int .i64 gb, .int .i64 gr, .int .i64 gd], .slice a n c] w (Gives (.bool v) w) := by
  obtain ⟨l0, _, m0, _⟩ := Kn.row_len h
  unfold maxLen at m0
  obtain ⟨w1, hw1⟩ : ∃ u, w.alloc (.cells #[.int .i64 ga, .int .i64 gb, .int .i64 gr, .int .i64 gd] 25) = u := ⟨_, rfl⟩
  have HB1 : Hid (Below w.heap.size w w1) := by subst hw1; exact (Below.refl _ _).alloc (Nat.le_refl _) _
  have g1 : w1.heap[w.heap.size]? = some (.cells #[.int .i64 ga, .int .i64 gb, .int .i64 gr, .int .i64 gd] 25) := hw1 ▸ heap_alloc_new w _
  have H1 : Hid (intsK.rd w1 [.slice a n c] x) := intsK.below h HB1.out
  have HL0 : Hid (x.length = n) := l0
  rw [l0] at hv
  have HV := Lib.hid hv
  have HRR := Lib.hid hR
  clear h hv l0 hR
  obtain ⟨x0, x1, x2, x3⟩ := cells4 g1
  by_cases hn : (n : Int) = R
  case neg =>
    have t0 : ((n : Int) != R) = true := by rw [bne_iff_ne]; exact hn
    have HE : Hid (false = v) := by show _ = _; rw [← HV.out]; exact (decide_eq_false (fun h => hn h.1)).symm
    clear hn
    go_enter Tryd.func42, Tryd.ntmps42
    go_wp2_with fail
    refine (implRowCount_is ga gb gr gd R HRR.out hRr _).mono ?_
    rintro e w2 ⟨rfl, hb2⟩
    have HB2 : Hid (Below w.heap.size w w2) := HB1.out.trans (hb2.mono HB1.out.size)
    clear hb2 x0 x1 x2 x3 g1
    go_wp2_with fail
    go_ret
    exact ⟨ret_b HE.out, HB2.out⟩
  have t0 : ((n : Int) != R) = false := by rw [bne_eq_false_iff_eq]; exact hn
  have hn0 : (n : Int) ≤ 128 := by omega
  have HV2 : Hid (decide (∀ q ∈ x, AgeOk q) = v) := by
    show _ = _
    rw [← HV.out]
    exact decide_eq_decide.2 ⟨fun h => ⟨hn, h⟩, fun h => h.2⟩
  clear hn HV
  go_enter Tryd.func42, Tryd.ntmps42
  go_wp2_with fail
  refine (implRowCount_is ga gb gr gd R HRR.out hRr _).mono ?_
  rintro e w2 ⟨rfl, hb2⟩
  have HB2 : Hid (Below w.heap.size w w2) := HB1.out.trans (hb2.mono HB1.out.size)
  have H2 : Hid (intsK.rd w2 [.slice a n c] x) := intsK.below H1.out hb2
  clear hb2 x0 x1 x2 x3 g1 H1 HB1
  go_wp2_with fail
  go_loopw [14] (fun i wr => ∃ k : Nat, k ≤ n ∧ i = .int .i64 k ∧ (∀ q ∈ x.take k, AgeOk q) ∧ wr = w2) (fun i _ => n + 1 - (intOf i).toNat)
  case atStart => exact ⟨0, Nat.zero_le _, rfl, by simp, by trivial⟩
  case round =>
    obtain ⟨k, hk, rfl, hall, rfl⟩ := hrel
    have HALL := Lib.hid hall
    clear hall
    by_cases hlt : k < n
    case neg =>
      obtain rfl : k = n := by omega
      have hI : decide ((k : Int) < (k : Int)) = false := decide_eq_false (by omega)
      have HE : Hid (true = v) := by
        show _ = _
        rw [← HV2.out]
        have := HALL.out
        rw [List.take_of_length_le (by rw [HL0.out]; exact Nat.le_refl _)] at this
        exact (decide_eq_true this).symm
      go_wp2_with fail
      go_ret
      exact ⟨ret_b HE.out, HB2.out⟩
    have hI : decide ((k : Int) < (n : Int)) = true := decide_eq_true (by omega)
    have wk : IntKind.i64.wrap ((k : Int) + 1) = (k : Int) + 1 := IntWalk.i64_in _ (by omega)
    have hkl : k < x.length := by rw [HL0.out]; exact hlt
    obtain ⟨g, off, rfl, hc⟩ := (ints_row H2.out).at hkl
    have ey : x.getD k 0 = x[k] := by rw [List.getD_eq_getElem?_getD, List.getElem?_eq_getElem hkl]; rfl
    rw [ey] at hc
    have HNX : Hid (AgeOk x[k] → ∀ q ∈ x.take (k + 1), AgeOk q) := fun h => all_take hkl HALL.out h
    have HNO : Hid (¬ AgeOk x[k] → false = v) := fun h => by rw [← HV2.out]; exact (decide_eq_false (fun hh => h (hh _ (List.getElem_mem _)))).symm
    generalize x[k] = q at hc HNX HNO
    clear ey
    by_cases h0 : q < 0
    case pos =>
      have d0 : decide (q < 0) = true := decide_eq_true h0
      have HE := Lib.hid (HNO.out (fun h => absurd h.1 (by omega)))
      clear h0
      go_wp2_with fail
      go_ret
      exact ⟨ret_b HE.out, HB2.out⟩
    have d0 : decide (q < 0) = false := decide_eq_false h0
    by_cases h1 : 100000 < q
    case pos =>
      have d1 : decide (100000 < q) = true := decide_eq_true h1
      have HE := Lib.hid (HNO.out (fun h => absurd h.2 (by omega)))
      clear h0 h1
      go_wp2_with fail
      go_ret
      exact ⟨ret_b HE.out, HB2.out⟩
    have d1 : decide (100000 < q) = false := decide_eq_false h1
    have HNX2 := Lib.hid (HNX.out ⟨by omega, by omega⟩)
    clear h0 h1
    go_wp2_with fail
    go_roundw
    case rel => exact ⟨k + 1, by omega, by go_num, HNX2.out, by trivial⟩
    case measure => simp [intOf]; omega

set_option maxHeartbeats 8000000 in
set_option maxRecDepth 100000 in
theorem implArrayOk_is : IArrayOk := by
  intro ga gb gr gd cs x v hv w h hf
  obtain ⟨a0, n0, c0, a1, n1, c1, a2, n2, c2, rfl, h0, h1, h2⟩ := arr_rd h
  obtain ⟨x, y, z⟩ := x
  obtain ⟨w1, hw1⟩ : ∃ u, (w.alloc (.cells #[.int .i64 ga, .int .i64 gb, .int .i64 gr, .int .i64 gd] 25)).alloc (.cells #[.slice a0 n0 c0, .slice a1 n1 c1, .slice a2 n2 c2] 31) = u := ⟨_, rfl⟩
  have HB1 : Hid (Below w.heap.size w w1) := by subst hw1; exact ((Below.refl _ _).alloc (Nat.le_refl _) _).alloc (by simp) _
  have g1 : w1.heap[w.heap.size]? = some (.cells #[.int .i64 ga, .int .i64 gb, .int .i64 gr, .int .i64 gd] 25) := by subst hw1; exact heap_alloc2_old _ _ _
  have p1 : w1.heap[w.heap.size + 1]? = some (.cells #[.slice a0 n0 c0, .slice a1 n1 c1, .slice a2 n2 c2] 31) := by subst hw1; exact heap_alloc2_new _ _ _
  have H0 : Hid (cellsK.rd w1 [.slice a0 n0 c0] x) := cellsK.below h0 HB1.out
  have H1 : Hid (intsK.rd w1 [.slice a1 n1 c1] y) := intsK.below h1 HB1.out
  have H2 : Hid (intsK.rd w1 [.slice a2 n2 c2] z) := intsK.below h2 HB1.out
  have HV : Hid (decide (GeoOk ga gb gr gd ∧ (x.length : Int) = lineN ga gb gr gd ∧ (y.length : Int) = bankN ga gb gr gd * gr ∧ z.length = y.length ∧ (∀ c ∈ x, SymOk c.1 11) ∧ (∀ v ∈ y, AgeOk v) ∧ (∀ v ∈ z, AgeOk v)) = v) := hv
  clear h h0 h1 h2 hv hf
  obtain ⟨x0, x1, x2, x3⟩ := cells4 g1
  obtain ⟨R, hR⟩ : ∃ R, bankN ga gb gr gd * gr = R := ⟨_, rfl⟩
  have HRR := Lib.hid hR
  by_cases hg : GeoOk ga gb gr gd
  case neg =>
    have KG := Lib.hid (decide_eq_false hg)
    have HE : Hid (false = v) := by show _ = _; rw [← HV.out]; exact (decide_eq_false (fun h => hg h.1)).symm
    clear hg hR
    go_enter Tryd.func14, Tryd.ntmps14
    go_wp2_with fail
    refine (implGeoOk_is ga gb gr gd false KG.out _).mono ?_
    rintro e w2 ⟨rfl, hb2⟩
    have HB2 : Hid (Below w.heap.size w w2) := HB1.out.trans (hb2.mono HB1.out.size)
    clear hb2 x0 x1 x2 x3 g1 p1
    go_wp2_with fail
    go_ret
    exact ⟨ret_b HE.out, HB2.out⟩
  have KG := Lib.hid (decide_eq_true hg)
  have hrr := rowsN_range hg
  rw [hR] at hrr
  have HGG := Lib.hid hg
  clear hg hR
  go_enter Tryd.func14, Tryd.ntmps14
  go_wp2_with fail
  refine (implGeoOk_is ga gb gr gd true KG.out _).mono ?_
  rintro e w2 ⟨rfl, hb2⟩
  have HB2 : Hid (Below w.heap.size w w2) := HB1.out.trans (hb2.mono HB1.out.size)
  have g2 := keep_block hb2 g1 (lt_of_block g1)
  have p2 := keep_block hb2 p1 (lt_of_block p1)
  have J0 := Lib.hid (cellsK.below H0.out hb2)
  have J1 := Lib.hid (intsK.below H1.out hb2)
  have J2 := Lib.hid (intsK.below H2.out hb2)
  clear hb2 x0 x1 x2 x3 g1 p1 H0 H1 H2 HB1
  obtain ⟨x0, x1, x2, x3⟩ := cells4 g2
  obtain ⟨y0, y1, y2⟩ := cells3 p2
  obtain ⟨b0, hb0⟩ : ∃ b, decide ((x.length : Int) = lineN ga gb gr gd ∧ ∀ q ∈ x, SymOk q.1 11) = b := ⟨_, rfl⟩
  have HC0 := Lib.hid hb0
  clear hb0
  go_wp2_with fail
  refine (implCellsFit_is ga gb gr gd J0.out b0 HC0.out).mono ?_
  rintro e w3 ⟨rfl, hb3⟩
  have HB3 : Hid (Below w.heap.size w w3) := HB2.out.trans (hb3.mono HB2.out.size)
  have g3 := keep_block hb3 g2 (lt_of_block g2)
  have p3 := keep_block hb3 p2 (lt_of_block p2)
  have K1 := Lib.hid (intsK.below J1.out hb3)
  have K2 := Lib.hid (intsK.below J2.out hb3)
  clear hb3 x0 x1 x2 x3 y0 y1 y2 g2 p2 J0 J1 J2 HB2
  cases b0
  case false =>
    have HE : Hid (false = v) := by
      show _ = _
      rw [← HV.out]
      exact (decide_eq_false (fun h => of_decide_eq_false HC0.out ⟨h.2.1, h.2.2.2.2.1⟩)).symm
    go_wp2_with fail
    go_ret
    exact ⟨ret_b HE.out, HB3.out⟩
  obtain ⟨x0, x1, x2, x3⟩ := cells4 g3
  obtain ⟨y0, y1, y2⟩ := cells3 p3
  obtain ⟨b1, hb1⟩ : ∃ b, decide ((y.length : Int) = R ∧ ∀ q ∈ y, AgeOk q) = b := ⟨_, rfl⟩
  have HC1 := Lib.hid hb1
  clear hb1
  go_wp2_with fail
  refine (implNumbersFit_is ga gb gr gd R HRR.out hrr K1.out b1 HC1.out).mono ?_
  rintro e w4 ⟨rfl, hb4⟩
  have HB4 : Hid (Below w.heap.size w w4) := HB3.out.trans (hb4.mono HB3.out.size)
  have g4 := keep_block hb4 g3 (lt_of_block g3)
  have p4 := keep_block hb4 p3 (lt_of_block p3)
  have L2 := Lib.hid (intsK.below K2.out hb4)
  clear hb4 x0 x1 x2 x3 y0 y1 y2 g3 p3 K1 K2 HB3
  cases b1
  case false =>
    have HE : Hid (false = v) := by
      show _ = _
      rw [← HV.out]
      exact (decide_eq_false (fun h => of_decide_eq_false HC1.out ⟨h.2.2.1.trans HRR.out, h.2.2.2.2.2.1⟩)).symm
    go_wp2_with fail
    go_ret
    exact ⟨ret_b HE.out, HB4.out⟩
  obtain ⟨x0, x1, x2, x3⟩ := cells4 g4
  obtain ⟨y0, y1, y2⟩ := cells3 p4
  have HC2 : Hid (decide ((z.length : Int) = R ∧ ∀ q ∈ z, AgeOk q) = v) := by
    show _ = _
    rw [← HV.out]
    have c0 := of_decide_eq_true HC0.out
    have c1 := of_decide_eq_true HC1.out
    refine decide_eq_decide.2 ⟨fun h => ⟨HGG.out, c0.1, c1.1.trans HRR.out.symm, by have := h.1; have := c1.1; omega, c0.2, c1.2, h.2⟩, fun h => ⟨?_, h.2.2.2.2.2.2⟩⟩
    have := h.2.2.2.1
    have := c1.1
    omega
  go_wp2_with fail
  refine (implNumbersFit_is ga gb gr gd R HRR.out hrr L2.out v HC2.out).mono ?_
  rintro e w5 ⟨rfl, hb5⟩
  have HB5 : Hid (Below w.heap.size w w5) := HB4.out.trans (hb5.mono HB4.out.size)
  clear hb5 x0 x1 x2 x3 y0 y1 y2 g4 p4
  go_wp2_with fail
  go_ret
  exact ⟨rfl, HB5.out⟩

set_option maxHeartbeats 1000000 in
theorem implRowExists_is (a b c d x y : Int) (v : Bool) (hv : decide (AdOk a b c d x y 0) = v) (w : World) :
    Calls Tryd.prog 37 #[.agg #[.int .i64 a, .int .i64 b, .int .i64 c, .int .i64 d], .int .i64 x, .int .i64 y] w (Gives (.bool v) w) := by
  have HV := Lib.hid hv
  clear hv
  obtain ⟨w1, hw1⟩ : ∃ w1, w.alloc (.cells #[.int .i64 a, .int .i64 b, .int .i64 c, .int .i64 d] 25) = w1 := ⟨_, rfl⟩
  have HB : Hid (Below w.heap.size w w1) := by subst hw1; exact (Below.refl _ _).alloc (Nat.le_refl _) _
  have hA : w1.heap[w.heap.size]? = some (.cells #[.int .i64 a, .int .i64 b, .int .i64 c, .int .i64 d] 25) := hw1 ▸ heap_alloc_new w _
  obtain ⟨a0, a1, a2, a3⟩ := cells4 hA
  go_enter Tryd.func37, Tryd.ntmps37
  go_wp2_with fail
  refine (implAddrOk_is a b c d x y 0 v HV.out _).mono ?_
  rintro e w2 ⟨rfl, hb2⟩
  have HB2 : Hid (Below w.heap.size w w2) := HB.out.trans (hb2.mono HB.out.size)
  clear hb2 a0 a1 a2 a3 hA
  go_wp2_with fail
  go_ret
  exact ⟨rfl, HB2.out⟩

end Go.Proofs.YtfpfgaifhmgpiaaDoor

namespace Go.Proofs.YtfpfgaifhmgpiaaDoor
open Go.RowKit Go.PlainAid

set_option linter.unusedVariables false

def ptrV (q : Nat) : Value := .pointer (some ⟨q, 0, none⟩)

theorem infoP : (Tryd.prog.info? 72).map (fun i => (i.zero, i.size, i.bytes)) = some (some (.pointer none), 1, 8) := by kernel_rfl

theorem ownsRow_same {w w' : World} {B n K : Nat} {T : TypeId} {v : Value} {xs : List Value} (h : w.ownsRow B T K v n xs) (hs : ∀ g, v.ownBlock = some g → w'.heap[g]? = w.heap[g]?) : w'.ownsRow B T K v n xs := by
  refine ⟨h.1, ?_⟩
  rcases h.2 with hv | ⟨b, cap, cur, hv, hB, hh, r⟩
  · exact .inl hv
  · exact .inr ⟨b, cap, cur, hv, hB, by rw [hs b (by rw [hv]; rfl)]; exact hh, r⟩

/-- A block of another type is no block of a row. -/
theorem ownsRow_ne {w : World} {B n K g : Nat} {T T' : TypeId} {v : Value} {xs : List Value} {vs : Array Value} (h : w.ownsRow B T K v n xs) (hg : w.heap[g]? = some (.cells vs T' (0, 0))) (hT : T' ≠ T) : v.ownBlock ≠ some g := by
  intro e
  rcases h.2 with ⟨hv, _⟩ | ⟨b, cap, cur, hv, hB, hh, r⟩
  · rw [hv] at e; cases e
  · rw [hv] at e
    have e2 : b = g := Option.some.inj e
    subst e2
    rw [hg] at hh
    injection hh with hh
    injection hh with _ e3
    exact hT e3

/-- The neighbours of a row, of which the first j are linked. -/
def nbrs (q : Nat → Nat) (j i : Nat) : List Value := (if 0 < i ∧ i < j then [ptrV (q (i - 1))] else []) ++ (if i + 1 < j then [ptrV (q (i + 1))] else [])

theorem nbrs_length (q : Nat → Nat) (j i : Nat) : (nbrs q j i).length ≤ 2 := by
  unfold nbrs
  rw [List.length_append]
  split <;> split <;> simp

theorem nbrs_cong {q q' : Nat → Nat} {j i : Nat} (h : ∀ l, l < j → q l = q' l) (hi : i ≤ j) : nbrs q j i = nbrs q' j i := by
  unfold nbrs
  by_cases h0 : 0 < i ∧ i < j
  · rw [if_pos h0, if_pos h0, h (i - 1) (by omega)]
    by_cases h1 : i + 1 < j
    · rw [if_pos h1, if_pos h1, h _ h1]
    · rw [if_neg h1, if_neg h1]
  · rw [if_neg h0, if_neg h0]
    by_cases h1 : i + 1 < j
    · rw [if_pos h1, if_pos h1, h _ h1]
    · rw [if_neg h1, if_neg h1]

def upf {α : Type} (f : Nat → α) (k : Nat) (x : α) : Nat → α := fun i => if i = k then x else f i

theorem upf_same {α : Type} (f : Nat → α) (k : Nat) (x : α) : upf f k x k = x := if_pos rfl

theorem upf_ne {α : Type} (f : Nat → α) {k i : Nat} (x : α) (h : i ≠ k) : upf f k x i = f i := if_neg h

def rowsL (m k : Nat) (q : Nat → Nat) : List Value := (List.range m).map fun i => if i < k then ptrV (q i) else .pointer none

theorem rowsL_length (m k : Nat) (q : Nat → Nat) : (rowsL m k q).length = m := by simp [rowsL]

theorem rowsL_get {m k i : Nat} (q : Nat → Nat) (hi : i < m) : (rowsL m k q)[i]? = some (if i < k then ptrV (q i) else .pointer none) := by
  unfold rowsL
  rw [List.getElem?_map, List.getElem?_range hi]
  rfl

theorem rowsL_set {m k : Nat} (q : Nat → Nat) (g : Nat) (hk : k < m) : (rowsL m k q).set k (ptrV g) = rowsL m (k + 1) (upf q k g) := by
  apply List.ext_getElem?
  intro i
  by_cases hi : i < m
  · rw [rowsL_get _ hi]
    by_cases hik : k = i
    · subst hik
      rw [List.getElem?_set_self (by rw [rowsL_length]; exact hi), if_pos (by omega), upf_same]
    · rw [List.getElem?_set_ne hik, rowsL_get _ hi]
      by_cases h1 : i < k
      · rw [if_pos h1, if_pos (by omega), upf_ne _ _ (fun e => hik e.symm)]
      · rw [if_neg h1, if_neg (by omega)]
  · rw [List.getElem?_eq_none (by rw [List.length_set, rowsL_length]; omega), List.getElem?_eq_none (by rw [rowsL_length]; omega)]

/-- The first k rows of a bank have been made, the first j of them linked. -/
structure RowsT (w : World) (B m : Nat) (F : Nat → Value → Array Value) (R k j : Nat) (q : Nat → Nat) (v : Nat → Value) : Prop where
  rb : w.ownsRow B 72 1 (.slice (some ⟨R, 0, none⟩) m m) m (rowsL m k q)
  qb : ∀ i, i < k → B ≤ q i ∧ w.heap[q i]? = some (.cells (F i (v i)) 110 (0, 0))
  vb : ∀ i, i < k → w.ownsRow B 72 1 (v i) (nbrs q j i).length (nbrs q j i)
  vv : ∀ i l, i < k → l < k → i ≠ l → ∀ g, (v i).ownBlock = some g → (v l).ownBlock ≠ some g
  vR : ∀ i, i < k → (v i).ownBlock ≠ some R
  qq : ∀ i l, i < k → l < k → i ≠ l → q i ≠ q l

theorem RowsT.same {w w' : World} {B m R k j : Nat} {F : Nat → Value → Array Value} {q : Nat → Nat} {v : Nat → Value} (h : RowsT w B m F R k j q v) (hs : ∀ g, B ≤ g → g < w.heap.size → w'.heap[g]? = w.heap[g]?) : RowsT w' B m F R k j q v := by
  have hr : ∀ {v : Value} {n : Nat} {xs : List Value}, w.ownsRow B 72 1 v n xs → w'.ownsRow B 72 1 v n xs := fun ho => ownsRow_same ho (fun g hg => by have := World.ownsRow.lt ho g hg; exact hs g this.1 this.2)
  exact ⟨hr h.rb, fun i hi => ⟨(h.qb i hi).1, (hs _ (h.qb i hi).1 (lt_of_block (h.qb i hi).2)).trans (h.qb i hi).2⟩, fun i hi => hr (h.vb i hi), h.vv, h.vR, h.qq⟩

theorem RowsT.below {w w' : World} {B m R k j : Nat} {F : Nat → Value → Array Value} {q : Nat → Nat} {v : Nat → Value} (h : RowsT w B m F R k j q v) (hb : Below w.heap.size w w') : RowsT w' B m F R k j q v :=
  h.same (fun g _ hg => hb.block g hg)

theorem RowsT.keep {w w' : World} {B m R k j : Nat} {F : Nat → Value → Array Value} {q : Nat → Nat} {v : Nat → Value} (h : RowsT w B m F R k j q v) {S : List Nat} (ho : OnlyS S w w') (hS : ∀ b ∈ S, b < B) : RowsT w' B m F R k j q v :=
  h.same (fun g hB hg => ho.block g hg (fun hm => by have := hS g hm; omega))

theorem RowsT.start {w : World} {B m R : Nat} {F : Nat → Value → Array Value} (h : w.ownsRow B 72 1 (.slice (some ⟨R, 0, none⟩) m m) m (madeCells #[.pointer none] m).toList) (q : Nat → Nat) (v : Nat → Value) : RowsT w B m F R 0 0 q v := by
  refine ⟨?_, fun i hi => absurd hi (Nat.not_lt_zero _), fun i hi => absurd hi (Nat.not_lt_zero _), fun i l hi => absurd hi (Nat.not_lt_zero _), fun i hi => absurd hi (Nat.not_lt_zero _), fun i l hi => absurd hi (Nat.not_lt_zero _)⟩
  have e : (madeCells #[.pointer none] m).toList = rowsL m 0 q := by
    have h1 := made_flat [.pointer none] 1 m rfl (by decide)
    rw [Nat.mul_one] at h1
    refine h1.trans ?_
    apply List.ext_getElem?
    intro i
    by_cases hi : i < m
    · rw [rowsL_get _ hi, if_neg (Nat.not_lt_zero _)]
      clear h h1
      induction m generalizing i with
      | zero => omega
      | succ m ih =>
        rw [List.replicate_succ, List.flatten_cons]
        cases i with
        | zero => rfl
        | succ i => exact ih i (by omega)
    · rw [List.getElem?_eq_none (by simp; omega), List.getElem?_eq_none (by rw [rowsL_length]; omega)]
  rw [← e]
  exact h

/-- One row more, not yet linked. -/
theorem RowsT.add {w : World} {B m R k j : Nat} {F : Nat → Value → Array Value} {q : Nat → Nat} {v : Nat → Value} (h : RowsT w B m F R k j q v) (hk : k < m) (hj : j ≤ k) (hB : B ≤ w.heap.size) :
    RowsT ((w.alloc (.cells (F k (.slice none 0 0)) 110)).setCell ⟨R, k, none⟩ (ptrV w.heap.size)) B m F R (k + 1) j (upf q k w.heap.size) (upf v k (.slice none 0 0)) := by
  have hbA : Below w.heap.size w (w.alloc (.cells (F k (.slice none 0 0)) 110)) := (Below.refl _ _).alloc (Nat.le_refl _) _
  have h' := h.below hbA
  have hRlt : R < w.heap.size := (World.ownsRow.lt h.rb R rfl).2
  have hne : ∀ b, b ≠ R → ((w.alloc (.cells (F k (.slice none 0 0)) 110)).setCell ⟨R, k, none⟩ (ptrV w.heap.size)).heap[b]? = (w.alloc (.cells (F k (.slice none 0 0)) 110)).heap[b]? := fun b hb => Below.heap_setCell _ _ _ _ hb
  have hqR : ∀ i, i < k → q i ≠ R := fun i hi e => ownsRow_ne h.rb (h.qb i hi).2 (by decide) (by rw [e]; rfl)
  have hqlt : ∀ i, i < k → q i < w.heap.size := fun i hi => lt_of_block (h.qb i hi).2
  refine ⟨?_, fun i hi => ?_, fun i hi => ?_, fun i l hi hl hil g hg => ?_, fun i hi => ?_, fun i l hi hl hil => ?_⟩
  · have := (World.ownsRow.stored h'.rb k (ptrV w.heap.size)).1
    rw [rowsL_set q _ hk] at this
    exact this
  · by_cases hik : i = k
    · subst hik
      rw [upf_same, upf_same]
      exact ⟨hB, (hne _ (by omega)).trans (heap_alloc_new _ _)⟩
    · rw [upf_ne _ _ hik, upf_ne _ _ hik]
      have hi' : i < k := by omega
      exact ⟨(h'.qb i hi').1, (hne _ (hqR i hi')).trans (h'.qb i hi').2⟩
  · have e : nbrs (upf q k w.heap.size) j i = nbrs q j i := by
      by_cases hij : i ≤ j
      · exact nbrs_cong (fun l hl => upf_ne _ _ (by omega)) hij
      · unfold nbrs
        rw [if_neg (by omega), if_neg (by omega), if_neg (by omega), if_neg (by omega)]
    rw [e]
    by_cases hik : i = k
    · subst hik
      rw [upf_same]
      have e2 : nbrs q j i = [] := by
        unfold nbrs
        rw [if_neg (by omega), if_neg (by omega)]
        rfl
      rw [e2]
      exact World.ownsRow_nil _ _ _ _
    · rw [upf_ne _ _ hik]
      have hi' : i < k := by omega
      exact ownsRow_same (h'.vb i hi') (fun g hg => hne g (fun e => h.vR i hi' (by rw [hg, e])))
  · by_cases hik : i = k
    · subst hik
      rw [upf_same] at hg
      cases hg
    · rw [upf_ne _ _ hik] at hg
      by_cases hlk : l = k
      · subst hlk
        rw [upf_same]
        intro e; cases e
      · rw [upf_ne _ _ hlk]
        exact h.vv i l (by omega) (by omega) hil g hg
  · by_cases hik : i = k
    · subst hik
      rw [upf_same]
      intro e; cases e
    · rw [upf_ne _ _ hik]
      exact h.vR i (by omega)
  · by_cases hik : i = k
    · subst hik
      rw [upf_same, upf_ne _ _ (fun e => hil e.symm)]
      have := hqlt l (by omega)
      omega
    · rw [upf_ne _ _ hik]
      by_cases hlk : l = k
      · subst hlk
        rw [upf_same]
        have := hqlt i (by omega)
        omega
      · rw [upf_ne _ _ hlk]
        exact h.qq i l (by omega) (by omega) hil

/-- What the link of two rows leaves. -/
structure Linked (w w' : World) (B Qa Qb na nb : Nat) (Fa Fb : Value → Array Value) (va vb va' vb' : Value) (xa xb : List Value) : Prop where
  os : w'.os = w.os
  tape : w'.tape = w.tape
  output : w'.output = w.output
  size : w.heap.size ≤ w'.heap.size
  rest : ∀ b, b < w.heap.size → b ≠ Qa → b ≠ Qb → va.ownBlock ≠ some b → vb.ownBlock ≠ some b → w'.heap[b]? = w.heap[b]?
  ba : w'.heap[Qa]? = some (.cells (Fa va') 110 (0, 0))
  bb : w'.heap[Qb]? = some (.cells (Fb vb') 110 (0, 0))
  oa : w'.ownsRow B 72 1 va' (na + 1) (xa ++ [ptrV Qb])
  ob : w'.ownsRow B 72 1 vb' (nb + 1) (xb ++ [ptrV Qa])
  na' : va'.ownBlock = va.ownBlock ∨ ∃ g, va'.ownBlock = some g ∧ w.heap.size ≤ g
  nb' : vb'.ownBlock = vb.ownBlock ∨ ∃ g, vb'.ownBlock = some g ∧ w.heap.size ≤ g
  ab : ∀ g, va'.ownBlock = some g → vb'.ownBlock ≠ some g

/-- Two rows more are linked. -/
theorem RowsT.link {w w' : World} {B m R k : Nat} {F : Nat → Value → Array Value} {q : Nat → Nat} {v : Nat → Value} {va' vb' : Value} (h : RowsT w B m F R (k + 1 + 1) (k + 1) q v)
    (hL : Linked w w' B (q k) (q (k + 1)) (nbrs q (k + 1) k).length (nbrs q (k + 1) (k + 1)).length (F k) (F (k + 1)) (v k) (v (k + 1)) va' vb' (nbrs q (k + 1) k) (nbrs q (k + 1) (k + 1))) :
    RowsT w' B m F R (k + 1 + 1) (k + 1 + 1) q (upf (upf v k va') (k + 1) vb') := by
  have hRlt : R < w.heap.size := (World.ownsRow.lt h.rb R rfl).2
  have hqR : ∀ i, i < k + 1 + 1 → q i ≠ R := fun i hi e => ownsRow_ne h.rb (h.qb i hi).2 (by decide) (by rw [e]; rfl)
  have hR' : w'.heap[R]? = w.heap[R]? := hL.rest R hRlt (fun e => hqR k (by omega) e.symm) (fun e => hqR (k + 1) (by omega) e.symm) (h.vR k (by omega)) (h.vR (k + 1) (by omega))
  have hvq : ∀ i l, i < k + 1 + 1 → l < k + 1 + 1 → (v i).ownBlock ≠ some (q l) := fun i l hi hl => ownsRow_ne (h.vb i hi) (h.qb l hl).2 (by decide)
  have hk1 : ∀ i, i < k + 1 + 1 → i ≠ k → i ≠ k + 1 → i < k := fun i h1 h2 h3 => by omega
  have g1 : upf (upf v k va') (k + 1) vb' k = va' := by rw [upf_ne _ _ (by omega), upf_same]
  have g2 : upf (upf v k va') (k + 1) vb' (k + 1) = vb' := upf_same _ _ _
  have g3 : ∀ i, i < k → upf (upf v k va') (k + 1) vb' i = v i := fun i hi => by rw [upf_ne _ _ (by omega), upf_ne _ _ (by omega)]
  have n1 : nbrs q (k + 1 + 1) k = nbrs q (k + 1) k ++ [ptrV (q (k + 1))] := by
    unfold nbrs
    rw [if_neg (show ¬ k + 1 < k + 1 by omega), if_pos (show k + 1 < k + 1 + 1 by omega), List.append_nil]
    by_cases h0 : 0 < k
    · rw [if_pos ⟨h0, by omega⟩, if_pos ⟨h0, by omega⟩]
    · rw [if_neg (fun q => h0 q.1), if_neg (fun q => h0 q.1)]
  have n2 : nbrs q (k + 1 + 1) (k + 1) = nbrs q (k + 1) (k + 1) ++ [ptrV (q k)] := by
    unfold nbrs
    rw [if_neg (show ¬ (0 < k + 1 ∧ k + 1 < k + 1) by omega), if_neg (show ¬ k + 1 + 1 < k + 1 by omega), if_pos (show 0 < k + 1 ∧ k + 1 < k + 1 + 1 by omega), if_neg (show ¬ k + 1 + 1 < k + 1 + 1 by omega)]
    rfl
  have n3 : ∀ i, i < k → nbrs q (k + 1 + 1) i = nbrs q (k + 1) i := fun i hi => by
    unfold nbrs
    rw [if_pos (show i + 1 < k + 1 + 1 by omega), if_pos (show i + 1 < k + 1 by omega)]
    by_cases h0 : 0 < i
    · rw [if_pos ⟨h0, by omega⟩, if_pos ⟨h0, by omega⟩]
    · rw [if_neg (fun q => h0 q.1), if_neg (fun q => h0 q.1)]
  have hlt : ∀ i, i < k + 1 + 1 → ∀ g, (v i).ownBlock = some g → g < w.heap.size := fun i hi g hg => (World.ownsRow.lt (h.vb i hi) g hg).2
  refine ⟨ownsRow_same h.rb (fun g hg => by have e : R = g := Option.some.inj hg; rw [← e]; exact hR'), fun i hi => ?_, fun i hi => ?_, fun i l hi hl hil g hg => ?_, fun i hi => ?_, h.qq⟩
  · refine ⟨(h.qb i hi).1, ?_⟩
    by_cases h1 : i = k
    · subst h1; rw [g1]; exact hL.ba
    · by_cases h2 : i = k + 1
      · subst h2; rw [g2]; exact hL.bb
      · rw [g3 i (hk1 i hi h1 h2)]
        exact (hL.rest _ (lt_of_block (h.qb i hi).2) (h.qq i k hi (by omega) h1) (h.qq i (k + 1) hi (by omega) h2) (hvq k i (by omega) hi) (hvq (k + 1) i (by omega) hi)).trans (h.qb i hi).2
  · by_cases h1 : i = k
    · subst h1; rw [g1, n1, List.length_append]; exact hL.oa
    · by_cases h2 : i = k + 1
      · subst h2; rw [g2, n2, List.length_append]; exact hL.ob
      · have hik := hk1 i hi h1 h2
        rw [g3 i hik, n3 i hik]
        refine ownsRow_same (h.vb i hi) (fun g hg => hL.rest g (hlt i hi g hg) (fun e => hvq i k hi (by omega) (by rw [hg, e])) (fun e => hvq i (k + 1) hi (by omega) (by rw [hg, e])) (fun e => h.vv i k hi (by omega) h1 g hg e) (fun e => h.vv i (k + 1) hi (by omega) h2 g hg e))
  · have hnew : ∀ l, l < k → ∀ g, (v l).ownBlock = some g → va'.ownBlock ≠ some g ∧ vb'.ownBlock ≠ some g := fun l hl g hg => by
      have hgl := hlt l (by omega) g hg
      constructor
      · rcases hL.na' with e | ⟨g', e, hge⟩
        · rw [e]; exact fun e2 => h.vv l k (by omega) (by omega) (by omega) g hg e2
        · rw [e]; intro e2; have := Option.some.inj e2; omega
      · rcases hL.nb' with e | ⟨g', e, hge⟩
        · rw [e]; exact fun e2 => h.vv l (k + 1) (by omega) (by omega) (by omega) g hg e2
        · rw [e]; intro e2; have := Option.some.inj e2; omega
    by_cases h1 : i = k
    · subst h1
      rw [g1] at hg
      by_cases h2 : l = i + 1
      · subst h2; rw [g2]; exact hL.ab g hg
      · rw [g3 l (by omega)]
        exact fun e => (hnew l (by omega) g e).1 hg
    · by_cases h2 : i = k + 1
      · subst h2
        rw [g2] at hg
        by_cases h3 : l = k
        · subst h3; rw [g1]; exact fun e => hL.ab g e hg
        · rw [g3 l (by omega)]
          exact fun e => (hnew l (by omega) g e).2 hg
      · have hik := hk1 i hi h1 h2
        rw [g3 i hik] at hg
        by_cases h3 : l = k
        · subst h3; rw [g1]; exact (hnew i hik g hg).1
        · by_cases h4 : l = k + 1
          · subst h4; rw [g2]; exact (hnew i hik g hg).2
          · rw [g3 l (by omega)]
            exact h.vv i l hi hl hil g hg
  · by_cases h1 : i = k
    · subst h1
      rw [g1]
      rcases hL.na' with e | ⟨g', e, hge⟩
      · rw [e]; exact h.vR i (by omega)
      · rw [e]; intro e2; have := Option.some.inj e2; omega
    · by_cases h2 : i = k + 1
      · subst h2
        rw [g2]
        rcases hL.nb' with e | ⟨g', e, hge⟩
        · rw [e]; exact h.vR (k + 1) (by omega)
        · rw [e]; intro e2; have := Option.some.inj e2; omega
      · rw [g3 i (hk1 i hi h1 h2)]
        exact h.vR i hi

end Go.Proofs.YtfpfgaifhmgpiaaDoor

namespace Go.Proofs.YtfpfgaifhmgpiaaDoor
open Go.RowKit Go.PlainAid

set_option linter.unusedVariables false

theorem ownsRow_shape {w : World} {B n K : Nat} {T : TypeId} {v : Value} {xs : List Value} (h : w.ownsRow B T K v n xs) : ∃ a c, v = .slice a n c := by
  rcases h.2 with ⟨rfl, h0⟩ | ⟨g, cap, cur, rfl, _⟩
  · exact ⟨none, 0, by rw [h0]⟩
  · exact ⟨_, cap, rfl⟩

set_option maxHeartbeats 8000000 in
set_option maxRecDepth 100000 in
theorem implBecome_is {B Qa Qb na nb : Nat} {a0 a1 a2 b0 b1 b2 va vb : Value} {xa xb : List Value} {w : World} (hne : Qa ≠ Qb)
    (ha : w.heap[Qa]? = some (.cells #[a0, a1, a2, va] 110 (0, 0))) (hb : w.heap[Qb]? = some (.cells #[b0, b1, b2, vb] 110 (0, 0)))
    (oa : w.ownsRow B 72 1 va na xa) (ob : w.ownsRow B 72 1 vb nb xb) (hab : ∀ g, va.ownBlock = some g → vb.ownBlock ≠ some g) (hna : na ≤ 2) (hnb : nb ≤ 2) (hB : B ≤ w.heap.size) :
    Calls Tryd.prog 80 #[.pointer (some ⟨Qa, 0, none⟩), .pointer (some ⟨Qb, 0, none⟩)] w fun e w' => e = .returned (.tuple #[]) ∧ ∃ va' vb', Linked w w' B Qa Qb na nb (fun v => #[a0, a1, a2, v]) (fun v => #[b0, b1, b2, v]) va vb va' vb' xa xb := by
  obtain ⟨i0, hi, hz0, hz1, hz2⟩ := info_parts infoP
  have hva : va.ownBlock ≠ some Qa ∧ va.ownBlock ≠ some Qb := ⟨ownsRow_ne oa ha (by decide), ownsRow_ne oa hb (by decide)⟩
  have hvb : vb.ownBlock ≠ some Qa ∧ vb.ownBlock ≠ some Qb := ⟨ownsRow_ne ob ha (by decide), ownsRow_ne ob hb (by decide)⟩
  obtain ⟨aa, ac, hva0⟩ := ownsRow_shape oa
  obtain ⟨ba, bc, hvb0⟩ := ownsRow_shape ob
  have hla : ∀ g, va.ownBlock = some g → g < w.heap.size := fun g hg => (World.ownsRow.lt oa g hg).2
  have hlb : ∀ g, vb.ownBlock = some g → g < w.heap.size := fun g hg => (World.ownsRow.lt ob g hg).2
  subst hva0
  subst hvb0
  have hqa := lt_of_block ha
  have hqb := lt_of_block hb
  have hw1 : (w.alloc (.cells #[.pointer (some ⟨Qb, 0, none⟩)] 72)).heap.size = w.heap.size + 1 := size_alloc _ _
  have OA := Lib.hid (World.ownsRow.alloc oa (.cells #[.pointer (some ⟨Qb, 0, none⟩)] 72))
  have OB := Lib.hid (World.ownsRow.alloc ob (.cells #[.pointer (some ⟨Qb, 0, none⟩)] 72))
  have A1 := Lib.hid ((heap_alloc_old w (.cells #[.pointer (some ⟨Qb, 0, none⟩)] 72) hqa).trans ha)
  have B1 := Lib.hid ((heap_alloc_old w (.cells #[.pointer (some ⟨Qb, 0, none⟩)] 72) hqb).trans hb)
  have HW1 := Lib.hid hw1
  have HVA := Lib.hid hva
  have HVB := Lib.hid hvb
  have HAB := Lib.hid hab
  have HLA := Lib.hid hla
  have HLB := Lib.hid hlb
  obtain ⟨x0, x1, x2, x3⟩ := cells4 ha
  have hB1 : B ≤ (w.alloc (.cells #[.pointer (some ⟨Qb, 0, none⟩)] 72)).heap.size := by rw [hw1]; omega
  clear oa ob hva hvb hab hla hlb ha hb hw1
  go_enter Tryd.func80, Tryd.ntmps80
  go_wp2_with (at_builtin; refine wpList_append_own_at _ rfl _ _ 73 rfl B 72 i0 (.pointer none) 1 8 Tryd.underlying73 hi hz0 hz1 hz2 rfl (by decide) _ na xa rfl OA.out ⟨w.heap.size, 0, none⟩ 1 1 [.pointer (some ⟨Qb, 0, none⟩)] rfl rfl (World.news_of_block (heap_alloc_new w _)) (by intro q hq; rw [List.mem_singleton.1 hq]; rfl) (by unfold maxLen; omega) (by omega) hB1 ?_)
  intro v3 w3 hown3 hgrow3 _ hat3
  obtain ⟨ca, cc, hv3⟩ := ownsRow_shape hown3
  subst hv3
  have A3 : w3.heap[Qa]? = _ := (hgrow3.block Qa (by rw [HW1.out]; omega) (fun e => HVA.out.1 e.symm)).trans A1.out
  have B3 : w3.heap[Qb]? = _ := (hgrow3.block Qb (by rw [HW1.out]; omega) (fun e => HVA.out.2 e.symm)).trans B1.out
  have OB3 := ownsRow_same OB.out (fun g hg => hgrow3.block g (by rw [HW1.out]; have := HLB.out g hg; omega) (fun e => HAB.out g e.symm hg))
  have hs3 : w.heap.size + 1 ≤ w3.heap.size := by have := hgrow3.size; rw [HW1.out] at this; exact this
  have B4 : (w3.setCell ⟨Qa, 3, none⟩ (.slice ca (na + 1) cc)).heap[Qb]? = _ := keep_set B3 (fun e => hne e.symm)
  have hs4 : (w3.setCell ⟨Qa, 3, none⟩ (.slice ca (na + 1) cc)).heap.size = w3.heap.size := by simp [World.setCell]
  have HA4 : Hid ((w3.setCell ⟨Qa, 3, none⟩ (.slice ca (na + 1) cc)).heap[Qa]? = some (.cells #[a0, a1, a2, .slice ca (na + 1) cc] 110 (0, 0))) := set_cells A3 3 _
  have HB4 := Lib.hid B4
  have h3A : (Value.slice ca (na + 1) cc).ownBlock ≠ some Qa := ownsRow_ne hown3 A3 (by decide)
  have OA4 := Lib.hid (ownsRow_same (w' := w3.setCell ⟨Qa, 3, none⟩ (.slice ca (na + 1) cc)) hown3 (fun g hg => Below.heap_setCell _ _ _ _ (fun e => h3A (by rw [hg]; exact congrArg some e))))
  have OB4 := Lib.hid (World.ownsRow.alloc (ownsRow_same (w' := w3.setCell ⟨Qa, 3, none⟩ (.slice ca (na + 1) cc)) OB3 (fun g hg => Below.heap_setCell _ _ _ _ (fun e => HVB.out.1 (by rw [hg]; exact congrArg some e)))) (.cells #[.pointer (some ⟨Qa, 0, none⟩)] 72))
  have HR3 : Hid (∀ b, b < w.heap.size → (Value.slice aa na ac).ownBlock ≠ some b → w3.heap[b]? = w.heap[b]?) := fun b hb hn => (hgrow3.block b (by rw [HW1.out]; omega) (fun e => hn e.symm)).trans (heap_alloc_old _ _ hb)
  have HO3 : Hid (w3.os = w.os ∧ w3.tape = w.tape ∧ w3.output = w.output) := ⟨hgrow3.os, hgrow3.tape, hgrow3.output⟩
  have HN3 : Hid ((Value.slice ca (na + 1) cc).ownBlock = (Value.slice aa na ac).ownBlock ∨ ∃ g, (Value.slice ca (na + 1) cc).ownBlock = some g ∧ w.heap.size ≤ g) := by
    rcases hat3 with h | h
    · exact .inl h
    · exact .inr ⟨_, h, by first | omega | (rw [HW1.out]; omega)⟩
  have HL3 : Hid (∀ g, (Value.slice ca (na + 1) cc).ownBlock = some g → g < w3.heap.size) := fun g hg => (World.ownsRow.lt hown3 g hg).2
  have HS3 := Lib.hid hs3
  have HS4 := Lib.hid hs4
  have hw5 : ((w3.setCell ⟨Qa, 3, none⟩ (.slice ca (na + 1) cc)).alloc (.cells #[.pointer (some ⟨Qa, 0, none⟩)] 72)).heap.size = w3.heap.size + 1 := (size_alloc _ _).trans (by rw [hs4])
  have HW5 := Lib.hid hw5
  have hB5 : B ≤ ((w3.setCell ⟨Qa, 3, none⟩ (.slice ca (na + 1) cc)).alloc (.cells #[.pointer (some ⟨Qa, 0, none⟩)] 72)).heap.size := by rw [hw5]; omega
  have hx5 := World.news_of_block (heap_alloc_new (w3.setCell ⟨Qa, 3, none⟩ (.slice ca (na + 1) cc)) (.cells #[.pointer (some ⟨Qa, 0, none⟩)] 72))
  rw [hs4] at hx5
  have HX5 := Lib.hid hx5
  clear hx5
  have f3 := thawed A3 3
  obtain ⟨y0, y1, y2, y3⟩ := cells4 A3
  obtain ⟨z0, z1, z2, z3⟩ := cells4 B4
  clear hown3 hgrow3 hat3 OA OB A1 B1 OB3 hs3 hs4 h3A B3 A3 B4 hw5 x0 x1 x2 x3
  go_wp2_with (at_builtin; refine wpList_append_own_at _ rfl _ _ 73 rfl B 72 i0 (.pointer none) 1 8 Tryd.underlying73 hi hz0 hz1 hz2 rfl (by decide) _ nb xb rfl OB4.out ⟨_, 0, none⟩ 1 1 [.pointer (some ⟨Qa, 0, none⟩)] rfl rfl HX5.out (by intro q hq; rw [List.mem_singleton.1 hq]; rfl) (by unfold maxLen; omega) (by omega) hB5 ?_)
  intro v6 w6 hown6 hgrow6 _ hat6
  obtain ⟨da, dc, hv6⟩ := ownsRow_shape hown6
  subst hv6
  have hqa5 : Qa < w3.heap.size := by have := HS3.out; omega
  have hqb5 : Qb < w3.heap.size := by have := HS3.out; omega
  have A6 : w6.heap[Qa]? = some (.cells #[a0, a1, a2, .slice ca (na + 1) cc] 110 (0, 0)) := (hgrow6.block Qa (by rw [HW5.out]; omega) (fun e => HVB.out.1 e.symm)).trans ((heap_alloc_old _ _ (by rw [HS4.out]; omega)).trans HA4.out)
  have B6 : w6.heap[Qb]? = some (.cells #[b0, b1, b2, .slice ba nb bc] 110 (0, 0)) := (hgrow6.block Qb (by rw [HW5.out]; omega) (fun e => HVB.out.2 e.symm)).trans ((heap_alloc_old _ _ (by rw [HS4.out]; omega)).trans HB4.out)
  have hca : ∀ g, (Value.slice ca (na + 1) cc).ownBlock = some g → (Value.slice ba nb bc).ownBlock ≠ some g := fun g hg e => by
    rcases HN3.out with h | ⟨g', h, hge⟩
    · exact HAB.out g (h.symm.trans hg) e
    · have e2 : g' = g := Option.some.inj (h.symm.trans hg)
      have := HLB.out g e
      omega
  have OA6 := ownsRow_same OA4.out (fun g hg => (hgrow6.block g (by rw [HW5.out]; have := HL3.out g hg; omega) (fun e => hca g hg e.symm)).trans (heap_alloc_old _ _ (by rw [HS4.out]; exact HL3.out g hg)))
  have h6B : (Value.slice da (nb + 1) dc).ownBlock ≠ some Qb := ownsRow_ne hown6 B6 (by decide)
  have h6A : (Value.slice ca (na + 1) cc).ownBlock ≠ some Qb := ownsRow_ne OA6 B6 (by decide)
  have HLK : Hid (Linked w (w6.setCell ⟨Qb, 3, none⟩ (.slice da (nb + 1) dc)) B Qa Qb na nb (fun v => #[a0, a1, a2, v]) (fun v => #[b0, b1, b2, v]) (.slice aa na ac) (.slice ba nb bc) (.slice ca (na + 1) cc) (.slice da (nb + 1) dc) xa xb) := by
    refine ⟨?_, ?_, ?_, ?_, fun b hb h1 h2 h3 h4 => ?_, keep_set A6 hne, set_cells B6 3 _, ?_, ?_, HN3.out, ?_, fun g hg e => ?_⟩
    · exact hgrow6.os.trans HO3.out.1
    · exact hgrow6.tape.trans HO3.out.2.1
    · exact hgrow6.output.trans HO3.out.2.2
    · have h1 := hgrow6.size
      rw [HW5.out] at h1
      have h2 := HS3.out
      have h3 : (w6.setCell ⟨Qb, 3, none⟩ (.slice da (nb + 1) dc)).heap.size = w6.heap.size := by simp [World.setCell]
      omega
    · have hb3 : b < w3.heap.size := by have := HS3.out; omega
      exact (Below.heap_setCell _ _ _ _ h2).trans ((hgrow6.block b (by rw [HW5.out]; omega) (fun e => h4 e.symm)).trans ((heap_alloc_old _ _ (by rw [HS4.out]; exact hb3)).trans ((Below.heap_setCell _ _ _ _ h1).trans (HR3.out b hb h3))))
    · exact ownsRow_same OA6 (fun g hg => Below.heap_setCell _ _ _ _ (fun e => h6A (by rw [hg]; exact congrArg some e)))
    · exact ownsRow_same hown6 (fun g hg => Below.heap_setCell _ _ _ _ (fun e => h6B (by rw [hg]; exact congrArg some e)))
    · rcases hat6 with h | h
      · exact .inl h
      · exact .inr ⟨_, h, by have := HS3.out; first | omega | (rw [HW5.out]; omega)⟩
    · rcases hat6 with h | h
      · exact hca g hg (h.symm.trans e)
      · have e2 := Option.some.inj (h.symm.trans e)
        have := HL3.out g hg
        (try rw [HW5.out] at e2)
        omega
  have g3 := thawed B6 3
  obtain ⟨u0, u1, u2, u3⟩ := cells4 B6
  clear hown6 hgrow6 hat6 A6 B6 OA6 hca h6A h6B y0 y1 y2 y3 z0 z1 z2 z3 f3
  go_wp2_with fail
  (try simp only [Exit.inBlock, Exit.then])
  exact bodyPost_end (v := .tuple #[]) (by simp [results, Tryd.results80]) rfl ⟨rfl, _, _, HLK.out⟩

set_option maxHeartbeats 4000000 in
set_option maxRecDepth 100000 in
theorem implGone_is {Q : Nat} {a0 v : Value} {pa ph : Addr} {la lh ua uh : Int} {w : World} (hq : w.heap[Q]? = some (.cells #[a0, .pointer (some pa), .pointer (some ph), v] 110 (0, 0))) (ha : w.cell? pa = some (.int .i64 ua)) (hh : w.cell? ph = some (.int .i64 uh)) (b : Bool) (hb : decide (la < ua ∨ lh < uh) = b) :
    Calls Tryd.prog 43 #[.pointer (some ⟨Q, 0, none⟩), .agg #[.int .i64 la, .int .i64 lh]] w (Gives (.bool b) w) := by
  obtain ⟨w1, hw1⟩ : ∃ u, w.alloc (.cells #[.int .i64 la, .int .i64 lh] 27) = u := ⟨_, rfl⟩
  have hb1 : Below w.heap.size w w1 := by subst hw1; exact (Below.refl _ _).alloc (Nat.le_refl _) _
  have l1 : w1.heap[w.heap.size]? = some (.cells #[.int .i64 la, .int .i64 lh] 27) := hw1 ▸ heap_alloc_new w _
  have HB1 := Lib.hid hb1
  have HV := Lib.hid hb
  obtain ⟨x0, x1⟩ := cells2 l1
  obtain ⟨y0, y1, y2, y3⟩ := cells4 (keep_block hb1 hq (lt_of_block hq))
  have c0 := (hb1.cell (World.block_lt_of_cell? _ _ ha)).trans ha
  have c1 := (hb1.cell (World.block_lt_of_cell? _ _ hh)).trans hh
  have z0 := fun q : Later w1 => q.cell x0
  have z1 := fun q : Later w1 => q.cell x1
  have z2 := fun q : Later w1 => q.cell y1
  have z3 := fun q : Later w1 => q.cell y2
  have z4 := fun q : Later w1 => q.cell c0
  have z5 := fun q : Later w1 => q.cell c1
  clear hq ha hh hb hb1 l1 x0 x1 y0 y1 y2 y3 c0 c1
  by_cases k1 : la < ua
  case pos =>
    have d1 : decide (la < ua) = true := decide_eq_true k1
    have HE : Hid (true = b) := by rw [← HV.out]; exact (decide_eq_true (Or.inl k1)).symm
    clear k1
    go_enter Tryd.func43, Tryd.ntmps43
    go_wp2_with fail
    refine wp_region_later (by kernel_rfl) (by kernel_rfl) ?_
    repeat (go_big_quiet_step (fail))
    refine wpQuiet_nil ?_
    rintro w2 ⟨zz, hz⟩
    have HB2 : Hid (Below w.heap.size w w2) := HB1.out.trans ((hz ▸ zz.ok : Below w1.heap.size w1 w2).mono HB1.out.size)
    clear z0 z1 z2 z3 z4 z5 hz zz
    go_wp2_with fail
    go_ret
    exact ⟨ret_b HE.out, HB2.out⟩
  case neg =>
    have d1 : decide (la < ua) = false := decide_eq_false k1
    obtain ⟨bb, hbb⟩ : ∃ bb, decide (lh < uh) = bb := ⟨_, rfl⟩
    have HE : Hid (bb = b) := by rw [← HV.out, ← hbb]; exact decide_eq_decide.2 ⟨Or.inr, fun h => h.resolve_left k1⟩
    clear k1
    go_enter Tryd.func43, Tryd.ntmps43
    go_wp2_with fail
    refine wp_region_later (by kernel_rfl) (by kernel_rfl) ?_
    repeat (go_big_quiet_step (fail))
    refine wpQuiet_nil ?_
    rintro w2 ⟨zz, hz⟩
    have HB2 : Hid (Below w.heap.size w w2) := HB1.out.trans ((hz ▸ zz.ok : Below w1.heap.size w1 w2).mono HB1.out.size)
    clear z0 z1 z2 z3 z4 z5 hz zz
    go_wp2_with fail
    go_ret
    exact ⟨ret_b HE.out, HB2.out⟩

end Go.Proofs.YtfpfgaifhmgpiaaDoor

namespace Go.Proofs.YtfpfgaifhmgpiaaDoor
open Go.RowKit Go.PlainAid

set_option linter.unusedVariables false

/-- What a row's variable holds. -/
def rowF (g0 o0 c0 g1 o1 g2 o2 D B0 : Nat) (i : Nat) (v : Value) : Array Value :=
  #[.slice (some ⟨g0, o0 + (B0 + i) * D * 2, none⟩) D (c0 - (B0 + i) * D), .pointer (some ⟨g1, o1 + (B0 + i), none⟩), .pointer (some ⟨g2, o2 + (B0 + i), none⟩), v]

theorem RowsT.one {w : World} {B m R : Nat} {F : Nat → Value → Array Value} {q : Nat → Nat} {v : Nat → Value} (h : RowsT w B m F R 1 0 q v) : RowsT w B m F R 1 1 q v := by
  refine ⟨h.rb, h.qb, fun i hi => ?_, h.vv, h.vR, h.qq⟩
  have := h.vb i hi
  have e : nbrs q 1 i = nbrs q 0 i := by
    unfold nbrs
    rw [if_neg (by omega), if_neg (by omega), if_neg (by omega), if_neg (by omega)]
  rw [e]
  exact this

theorem RowsT.cell {w : World} {B m R k j i : Nat} {F : Nat → Value → Array Value} {q : Nat → Nat} {v : Nat → Value} (h : RowsT w B m F R k j q v) (hi : i < m) :
    w.cell? ⟨R, i, none⟩ = some (if i < k then ptrV (q i) else .pointer none) ∧ w.frozen? ⟨R, i, none⟩ = false := by
  have hc := World.ownsRow.cells h.rb (g := R) rfl i _ (rowsL_get q hi)
  rw [Addr.add_lit, Nat.zero_add] at hc
  refine ⟨hc, ?_⟩
  rcases h.rb.2 with ⟨hv, _⟩ | ⟨b, cap, cur, hv, hB, hh, r⟩
  · cases hv
  · cases hv
    simp [World.frozen?, hh]

theorem cells_slice (gc oc n0 c0 L D : Nat) (hD : 0 < D) (h : L + D ≤ c0) (u : World) :
    (Instr.slice 28 (.slice (some ⟨gc, oc, none⟩) n0 c0) (some (.int .i64 (L : Int))) (some (.int .i64 ((L + D : Nat) : Int))) none).run Tryd.prog u = .ok (.slice (some ⟨gc, oc + L * 2, none⟩) D (c0 - L)) u := by
  have h1 : ¬ (c0 - L = 0) := by omega
  have h2 : ¬ (c0 = L) := by omega
  have h3 : (L : Int) ≤ ((L + D : Nat) : Int) := by omega
  have h4 : ((L + D : Nat) : Int) ≤ (c0 : Int) := by omega
  have ht : Tryd.prog.underlying 28 = some (.slice (Tryd.prog.elem 28)) := by kernel_rfl
  have hs : ∀ u : World, (sizeOf (Tryd.prog.elem 28)).run Tryd.prog u = .ok 2 u := fun u => by kernel_rfl
  rw [run_slice_lh (ht := ht) (h0 := by omega) (h1 := h3) (h2 := h4), hs]
  simp [sliced, h2, Result.andThen, Addr.add_lit]
  omega

theorem Linked.below {w w' : World} {B Qa Qb na nb : Nat} {Fa Fb : Value → Array Value} {va vb va' vb' : Value} {xa xb : List Value} (h : Linked w w' B Qa Qb na nb Fa Fb va vb va' vb' xa xb)
    (ha : B ≤ Qa) (hb : B ≤ Qb) (oa : ∀ g, va.ownBlock = some g → B ≤ g) (ob : ∀ g, vb.ownBlock = some g → B ≤ g) (hs : B ≤ w.heap.size) : Below B w w' :=
  ⟨h.os, h.tape, h.output, h.size, fun k hk => h.rest k (by omega) (by omega) (by omega) (fun e => by have := oa k e; omega) (fun e => by have := ob k e; omega)⟩

/-- A row of cells, a row of ints that is not empty lies at an address. -/
theorem row_addr {α : Type} {k : Kn α} {T : TypeId} {w : World} {a : Option Addr} {n c : Nat} {l : List α} (h : (k.row T).rd w [.slice a n c] l) (hl : 0 < l.length) : ∃ g off, a = some ⟨g, off, none⟩ := by
  obtain ⟨g, off, _, e, _⟩ := Kn.row_at h hl
  exact ⟨g, off, e⟩

set_option maxHeartbeats 16000000 in
set_option maxRecDepth 100000 in
theorem implRows_is (ga gb bk : Int) {m D B0 : Nat} {cs : List Value} {x : Arr} {w : World} (h : arrK.rd w cs x) (ha : ArrOk ga gb (m : Int) (D : Int) x) (hr : AdOk ga gb (m : Int) (D : Int) bk 0 0) (hB0 : bk * (m : Int) = B0) :
    Calls Tryd.prog 38 #[.agg #[.int .i64 ga, .int .i64 gb, .int .i64 (m : Int), .int .i64 (D : Int)], .agg cs.toArray, .int .i64 bk] w fun e w' => ∃ g0 o0 n0 c0 g1 o1 n1 c1 g2 o2 n2 c2 R q v B, cs = [.slice (some ⟨g0, o0, none⟩) n0 c0, .slice (some ⟨g1, o1, none⟩) n1 c1, .slice (some ⟨g2, o2, none⟩) n2 c2] ∧ e = .returned (.slice (some ⟨R, 0, none⟩) m m) ∧ w.heap.size ≤ B ∧ RowsT w' B m (rowF g0 o0 c0 g1 o1 g2 o2 D B0) R m m q v ∧ Below w.heap.size w w' := by
  obtain ⟨a0, n0, c0, a1, n1, c1, a2, n2, c2, rfl, h0, h1, h2⟩ := arr_rd h
  obtain ⟨l0, lc0, lm0, _⟩ := Kn.row_len h0
  obtain ⟨l1, _, lm1, _⟩ := Kn.row_len h1
  obtain ⟨l2, _, lm2, _⟩ := Kn.row_len h2
  unfold maxLen at lm0 lm1 lm2
  have hgeo := ha.1
  have hm16 : 2 ≤ m ∧ m ≤ 16 := by have := hgeo.2.2.1; omega
  have hD8 : 1 ≤ D ∧ D ≤ 8 := by have := hgeo.2.2.2; omega
  have HPL : Hid (∀ k, k < m → B0 + k < n1 ∧ B0 + k < n2 ∧ B0 + k < 128 ∧ (B0 + k) * D + D ≤ c0) := fun k hk => by
    have hak : AdOk ga gb (m : Int) (D : Int) bk (k : Int) 0 := ⟨hr.1, ⟨by omega, by omega⟩, hr.2.2⟩
    obtain ⟨i, hi, hi1, hi2, hi3, _⟩ := row_place ha hak
    obtain ⟨i', D', hi', hD', _, hic, _⟩ := row_near ha hak
    have e1 : i = B0 + k := by omega
    have e2 : i' = B0 + k := by omega
    have e3 : D' = D := by omega
    subst e1 e2 e3
    exact ⟨by omega, by omega, hi3, by omega⟩
  have hp0 := HPL.out 0 (by omega)
  have hx0 : 0 < x.1.length := by
    obtain ⟨i', D', _, hD', _, hic, _⟩ := row_near ha hr
    have e3 : D' = D := by omega
    subst e3
    omega
  obtain ⟨g0, o0, rfl⟩ := row_addr h0 hx0
  obtain ⟨g1, o1, rfl⟩ := row_addr h1 (by have : x.2.1.length = n1 := l1; omega)
  obtain ⟨g2, o2, rfl⟩ := row_addr h2 (by have : x.2.2.length = n2 := l2; omega)
  obtain ⟨w1, hw1⟩ : ∃ u, (w.alloc (.cells #[.int .i64 ga, .int .i64 gb, .int .i64 (m : Int), .int .i64 (D : Int)] 25)).alloc (.cells #[.slice (some ⟨g0, o0, none⟩) n0 c0, .slice (some ⟨g1, o1, none⟩) n1 c1, .slice (some ⟨g2, o2, none⟩) n2 c2] 31) = u := ⟨_, rfl⟩
  have HB1 : Hid (Below w.heap.size w w1) := by subst hw1; exact ((Below.refl _ _).alloc (Nat.le_refl _) _).alloc (by simp) _
  have gg1 : w1.heap[w.heap.size]? = some (.cells #[.int .i64 ga, .int .i64 gb, .int .i64 (m : Int), .int .i64 (D : Int)] 25) := by subst hw1; exact heap_alloc2_old _ _ _
  have pp1 : w1.heap[w.heap.size + 1]? = some (.cells #[.slice (some ⟨g0, o0, none⟩) n0 c0, .slice (some ⟨g1, o1, none⟩) n1 c1, .slice (some ⟨g2, o2, none⟩) n2 c2] 31) := by subst hw1; exact heap_alloc2_new _ _ _
  obtain ⟨i0, hi, hz0, hz1, hz2⟩ := info_parts infoP
  have w0 : IntKind.i64.wrap (B0 : Int) = (B0 : Int) := IntWalk.i64_in _ (by have := hp0.2.2.1; omega)
  clear h h0 h1 h2 ha hr l0 l1 l2 hgeo hp0 hx0
  obtain ⟨x0, x1, x2, x3⟩ := cells4 gg1
  go_enter Tryd.func38, Tryd.ntmps38
  go_wp2_with (at_make; refine wpList_make_full _ rfl _ _ 73 rfl w1.heap.size 72 i0 (.pointer none) 1 Tryd.underlying73 hi hz0 hz1 _ _ _ _ m rfl rfl rfl rfl (by rw [hz2]; omega) (by unfold maxLen; omega) (Nat.le_refl _) ?_)
  intro w2 hown hgr
  have hb2 : Below w1.heap.size w1 w2 := (Below.refl _ _).grown hgr (Nat.le_refl _) (fun k hk => by cases hk)
  have HR0 : Hid (RowsT w2 w1.heap.size m (rowF g0 o0 c0 g1 o1 g2 o2 D B0) w1.heap.size 0 0 (fun _ => 0) (fun _ => undef)) := RowsT.start hown _ _
  have HB2 := Lib.hid hb2
  clear hown hgr hb2 x0 x1 x2 x3
  obtain ⟨R, hRR⟩ : ∃ R, w1.heap.size = R := ⟨_, rfl⟩
  simp only [hRR] at HR0 HB2 ⊢
  have HRR := Lib.hid hRR
  clear hRR
  go_wp2_with fail
  go_loopw [15] (fun i wr => ∃ (k : Nat) (q : Nat → Nat) (v : Nat → Value), k ≤ m ∧ i = .int .i64 k ∧ RowsT wr R m (rowF g0 o0 c0 g1 o1 g2 o2 D B0) R k k q v ∧ Below R w1 wr) (fun i _ => m + 1 - (intOf i).toNat)
  case atStart => exact ⟨0, _, _, Nat.zero_le _, rfl, HR0.out, HB2.out⟩
  case round =>
    obtain ⟨k, q, v, hk, rfl, hrows, hbw⟩ := hrel
    have HRW := Lib.hid hrows
    have HBW := Lib.hid hbw
    have HS1 : Hid (w.heap.size + 1 < R) := by have := lt_of_block pp1; rw [HRR.out] at this; exact this
    have HBB : Hid (Below w.heap.size w wr) := HB1.out.trans (hbw.mono (by have := HS1.out; omega))
    have gr' : wr.heap[w.heap.size]? = _ := (hbw.block _ (by have := HS1.out; omega)).trans gg1
    have pr' : wr.heap[w.heap.size + 1]? = _ := (hbw.block _ HS1.out).trans pp1
    clear hrows hbw
    by_cases hlt : k < m
    case neg =>
      obtain rfl : k = m := by omega
      have hI : decide ((k : Int) < (k : Int)) = false := decide_eq_false (by omega)
      go_wp2_with fail
      go_ret
      exact ⟨g0, o0, n0, c0, g1, o1, n1, c1, g2, o2, n2, c2, R, q, v, R, rfl, rfl, by have := HS1.out; omega, HRW.out, HBB.out⟩
    have hI : decide ((k : Int) < (m : Int)) = true := decide_eq_true (by omega)
    have wk : IntKind.i64.wrap ((k : Int) + 1) = (k : Int) + 1 := IntWalk.i64_in _ (by omega)
    obtain ⟨P, hP⟩ : ∃ P, B0 + k = P := ⟨_, rfl⟩
    obtain ⟨L, hL⟩ : ∃ L, P * D = L := ⟨_, rfl⟩
    obtain ⟨U, hU⟩ : ∃ U, L + D = U := ⟨_, rfl⟩
    obtain ⟨P1, hP1⟩ : ∃ P1, P + 1 = P1 := ⟨_, rfl⟩
    have hpl := HPL.out k hlt
    rw [hP] at hpl
    rw [hL] at hpl
    obtain ⟨hp1, hp2, hp3, hp4⟩ := hpl
    have hLs : L ≤ 1024 := by rw [← hL]; have : P * D ≤ 128 * 8 := Nat.mul_le_mul (by omega) (by omega); omega
    have e1 : (B0 : Int) + (k : Int) = (P : Int) := by omega
    have w2' : IntKind.i64.wrap (P : Int) = (P : Int) := IntWalk.i64_in _ (by omega)
    have e2 : (P : Int) * (D : Int) = (L : Int) := by rw [← hL]; exact (Int.natCast_mul P D).symm
    have w3' : IntKind.i64.wrap (L : Int) = (L : Int) := IntWalk.i64_in _ (by omega)
    have e3 : (P : Int) + 1 = (P1 : Int) := by omega
    have w4' : IntKind.i64.wrap (P1 : Int) = (P1 : Int) := IntWalk.i64_in _ (by omega)
    have e4 : (P1 : Int) * (D : Int) = (U : Int) := by rw [← hP1, ← hU, ← hL]; push_cast; rw [Int.add_mul, Int.one_mul]
    have w5' : IntKind.i64.wrap (U : Int) = (U : Int) := IntWalk.i64_in _ (by omega)
    have sl : ∀ u : World, (Instr.slice 28 (.slice (some ⟨g0, o0, none⟩) n0 c0) (some (.int .i64 (L : Int))) (some (.int .i64 (U : Int))) none).run Tryd.prog u = .ok (.slice (some ⟨g0, o0 + L * 2, none⟩) D (c0 - L)) u := fun u => by rw [← hU]; exact cells_slice g0 o0 n0 c0 L D (by omega) hp4 u
    have hi1 : (P : Int) < (n1 : Int) := by omega
    have hi2 : (P : Int) < (n2 : Int) := by omega
    have hFk : Hid (rowF g0 o0 c0 g1 o1 g2 o2 D B0 k (.slice none 0 0) = #[.slice (some ⟨g0, o0 + L * 2, none⟩) D (c0 - L), .pointer (some ⟨g1, o1 + P, none⟩), .pointer (some ⟨g2, o2 + P, none⟩), .slice none 0 0]) := by
      show rowF _ _ _ _ _ _ _ _ _ _ _ = _
      unfold rowF
      rw [hP, hL]
    have HP := Lib.hid hP
    clear hL hU hP1 hP
    obtain ⟨x0, x1, x2, x3⟩ := cells4 gr'
    obtain ⟨y0, y1, y2⟩ := cells3 pr'
    go_wp2_with fail
    refine wp_region_float (A := ?A) [.h, .h, .h, .h, .h, .h, .h, .h, .h, .h, .h, .h, .h, .h, .h, .h, .h, .h, .h, .h, .h, .h, .h, .t, .h, .e] (by kernel_rfl) (by kernel_rfl) (fun u => u.cell? ⟨w.heap.size, 3, none⟩ = some (.int .i64 (D : Int)) ∧ u.cell? ⟨w.heap.size + 1, 0, none⟩ = some (.slice (some ⟨g0, o0, none⟩) n0 c0) ∧ u.cell? ⟨w.heap.size + 1, 1, none⟩ = some (.slice (some ⟨g1, o1, none⟩) n1 c1) ∧ u.cell? ⟨w.heap.size + 1, 2, none⟩ = some (.slice (some ⟨g2, o2, none⟩) n2 c2)) ?hC ?hH ?hT
    case hC => exact ⟨x3, y0, y1, y2⟩
    case hH =>
      intro u hu
      obtain ⟨t0, t1, t2, t3⟩ := hu
      have z0 := fun t : Same u => t.cell t0
      have z1 := fun t : Same u => t.cell t1
      have z2 := fun t : Same u => t.cell t2
      have z3 := fun t : Same u => t.cell t3
      simp only [headsOf]
      repeat (go_big_quiet_step (fail))
      refine wpQuiet_nil ?_
      exact rfl
    case hT =>
      simp only [chainT]
      have hdr : Below wr.heap.size wr wr.drew := ⟨rfl, rfl, rfl, Nat.le_refl _, fun _ _ => rfl⟩
      have hRs : R ≤ wr.heap.size := by have := HBW.out.size; rw [HRR.out] at this; exact this
      have HRD := Lib.hid (HRW.out.below hdr)
      have HBD : Hid (Below R w1 wr.drew) := HBW.out.trans (hdr.mono hRs)
      have HRS : Hid (R ≤ wr.drew.heap.size) := hRs
      have x3' : wr.drew.cell? ⟨w.heap.size, 3, none⟩ = some (.int .i64 (D : Int)) := x3
      have y0' : wr.drew.cell? ⟨w.heap.size + 1, 0, none⟩ = some (.slice (some ⟨g0, o0, none⟩) n0 c0) := y0
      have y1' : wr.drew.cell? ⟨w.heap.size + 1, 1, none⟩ = some (.slice (some ⟨g1, o1, none⟩) n1 c1) := y1
      have y2' : wr.drew.cell? ⟨w.heap.size + 1, 2, none⟩ = some (.slice (some ⟨g2, o2, none⟩) n2 c2) := y2
      clear x0 x1 x2 x3 y0 y1 y2 HRW HBW HBB gr' pr' hdr hRs sl
      generalize wr.drew = u0 at *
      have hbA : Below u0.heap.size u0 (u0.alloc (.cells #[.slice (some ⟨g0, o0 + L * 2, none⟩) D (c0 - L), .pointer (some ⟨g1, o1 + P, none⟩), .pointer (some ⟨g2, o2 + P, none⟩), .slice none 0 0] 110)) := (Below.refl _ _).alloc (Nat.le_refl _) _
      have C3 := (hbA.cell (World.block_lt_of_cell? _ _ x3')).trans x3'
      have C0 := (hbA.cell (World.block_lt_of_cell? _ _ y0')).trans y0'
      have C1 := (hbA.cell (World.block_lt_of_cell? _ _ y1')).trans y1'
      have C2 := (hbA.cell (World.block_lt_of_cell? _ _ y2')).trans y2'
      obtain ⟨hrc, hrf⟩ := (HRD.out.below hbA).cell hlt
      rw [if_neg (Nat.lt_irrefl k)] at hrc
      have hadd := HRD.out.add hlt (Nat.le_refl k) HRS.out
      rw [hFk.out] at hadd
      have HAD := Lib.hid hadd
      have HBN : Hid (Below R w1 ((u0.alloc (.cells #[.slice (some ⟨g0, o0 + L * 2, none⟩) D (c0 - L), .pointer (some ⟨g1, o1 + P, none⟩), .pointer (some ⟨g2, o2 + P, none⟩), .slice none 0 0] 110)).setCell ⟨R, k, none⟩ (ptrV u0.heap.size))) := (HBD.out.trans (hbA.mono HRS.out)).setCell (Nat.le_refl _) _
      clear x3' y0' y1' y2' hadd HRD HBD hbA
      go_wp2_with fail
      refine stepQ_normal ⟨⟨C3, C0, C1, C2⟩, ?_⟩
      clear C3 C0 C1 C2
      go_wp2_with fail
      refine stepQ_normal ⟨trivial, ?_⟩
      clear hrc hrf
      obtain ⟨q', hq'⟩ : ∃ f, upf q k u0.heap.size = f := ⟨_, rfl⟩
      obtain ⟨v', hv'⟩ : ∃ f, upf v k (.slice none 0 0) = f := ⟨_, rfl⟩
      rw [hq', hv'] at HAD
      unfold ptrV at HAD HBN
      generalize ((u0.alloc (.cells #[.slice (some ⟨g0, o0 + L * 2, none⟩) D (c0 - L), .pointer (some ⟨g1, o1 + P, none⟩), .pointer (some ⟨g2, o2 + P, none⟩), .slice none 0 0] 110)).setCell ⟨R, k, none⟩ (.pointer (some ⟨u0.heap.size, 0, none⟩))) = w6 at HAD HBN ⊢
      clear hq' hv' hFk e1 e2 e3 e4 w2' w3' w4' w5' hi1 hi2 HRS
      rcases Nat.eq_zero_or_pos k with hk0 | hk0
      · subst hk0
        go_wp2_with fail
        go_roundw
        case rel => exact ⟨1, q', v', by omega, by go_num, HAD.out.one, HBN.out⟩
        case measure => simp [intOf] <;> omega
      · obtain ⟨l, hl⟩ : ∃ l, k = l + 1 := ⟨k - 1, by omega⟩
        have HK := Lib.hid hl
        have tp : decide ((0 : Int) < (k : Int)) = true := decide_eq_true (by omega)
        have tp' : decide (0 < k) = true := decide_eq_true hk0
        have ek : (k : Int) - 1 = (l : Int) := by omega
        have wl : IntKind.i64.wrap (l : Int) = (l : Int) := IntWalk.i64_in _ (by omega)
        have hlm : l < m := by omega
        have hl1 : (l : Int) < (m : Int) := by omega
        obtain ⟨hcl, _⟩ := HAD.out.cell hlm
        obtain ⟨hck, _⟩ := HAD.out.cell hlt
        rw [if_pos (by omega)] at hcl hck
        have hne : q' l ≠ q' k := HAD.out.qq l k (by omega) (by omega) (by omega)
        have hqa := HAD.out.qb l (by omega)
        have hqb := HAD.out.qb k (by omega)
        have hva := HAD.out.vb l (by omega)
        have hvb := HAD.out.vb k (by omega)
        have hvv := HAD.out.vv l k (by omega) (by omega) (by omega)
        have hna := nbrs_length q' k l
        have hnb := nbrs_length q' k k
        have hcl' : w6.cell? ⟨R, l, none⟩ = some (.pointer (some ⟨q' l, 0, none⟩)) := hcl
        have hck' : w6.cell? ⟨R, k, none⟩ = some (.pointer (some ⟨q' k, 0, none⟩)) := hck
        have hR6 : R ≤ w6.heap.size := by have := HBN.out.size; rw [HRR.out] at this; exact this
        have hLK : ∀ (w7 w8 : World), Below w6.heap.size w6 w7 → ∀ va' vb', Linked w7 w8 R (q' l) (q' k) (nbrs q' k l).length (nbrs q' k k).length (fun v => #[.slice (some ⟨g0, o0 + (B0 + l) * D * 2, none⟩) D (c0 - (B0 + l) * D), .pointer (some ⟨g1, o1 + (B0 + l), none⟩), .pointer (some ⟨g2, o2 + (B0 + l), none⟩), v]) (fun v => #[.slice (some ⟨g0, o0 + (B0 + k) * D * 2, none⟩) D (c0 - (B0 + k) * D), .pointer (some ⟨g1, o1 + (B0 + k), none⟩), .pointer (some ⟨g2, o2 + (B0 + k), none⟩), v]) (v' l) (v' k) va' vb' (nbrs q' k l) (nbrs q' k k) →
            RowsT w8 R m (rowF g0 o0 c0 g1 o1 g2 o2 D B0) R (k + 1) (k + 1) q' (upf (upf v' l va') k vb') ∧ Below R w1 w8 := by
          intro w7 w8 hb7 va' vb' hL
          have hB8 : Below R w1 w8 := (HBN.out.trans (hb7.mono hR6)).trans (hL.below hqa.1 hqb.1 (fun g hg => (World.ownsRow.lt hva g hg).1) (fun g hg => (World.ownsRow.lt hvb g hg).1) (Nat.le_trans hR6 hb7.size))
          refine ⟨?_, hB8⟩
          have h6 := HAD.out.below hb7
          clear hcl hck hcl' hck' hqa hqb hva hvb hvv
          subst hl
          exact h6.link hL
        have HLK := Lib.hid hLK
        have HNE := Lib.hid hne
        have HQA := Lib.hid hqa.2
        have HQB := Lib.hid hqb.2
        have HVA := Lib.hid hva
        have HVB := Lib.hid hvb
        have HVV := Lib.hid hvv
        have HNA := Lib.hid hna
        have HNB := Lib.hid hnb
        have HR6 := Lib.hid hR6
        have z0 := fun q : Later w6 => q.cell hcl'
        have z1 := fun q : Later w6 => q.cell hck'
        clear hLK hne hqa hqb hva hvb hvv hna hnb hR6 hcl hck hcl' hck' hl
        go_wp2_with fail
        refine wp_region_later_tail 9 (by kernel_rfl) (by kernel_rfl) ?_
        simp only [List.take_succ_cons, List.take_zero, List.drop_succ_cons, List.drop_zero]
        repeat (go_big_quiet_step (fail))
        refine wpQuiet_nil ?_
        rintro w7 ⟨zz, hz⟩
        have hb7 : Below w6.heap.size w6 w7 := hz ▸ zz.ok
        have HB7 := Lib.hid hb7
        clear z0 z1 hz zz
        have hr7 := fun {n : Nat} {v : Value} {xs : List Value} (h : w6.ownsRow R 72 1 v n xs) => ownsRow_below h hb7
        have hqa7 := keep_block hb7 HQA.out (lt_of_block HQA.out)
        have hqb7 := keep_block hb7 HQB.out (lt_of_block HQB.out)
        have HQA7 := Lib.hid hqa7
        have HQB7 := Lib.hid hqb7
        have HVA7 := Lib.hid (hr7 HVA.out)
        have HVB7 := Lib.hid (hr7 HVB.out)
        have HR7 : Hid (R ≤ w7.heap.size) := Nat.le_trans HR6.out hb7.size
        clear hb7 hr7 hqa7 hqb7
        go_wp2_with fail
        refine (implBecome_is HNE.out HQA7.out HQB7.out HVA7.out HVB7.out HVV.out HNA.out HNB.out HR7.out).mono ?_
        rintro e w8 ⟨rfl, va', vb', hL⟩
        obtain ⟨hrow, hbel⟩ := HLK.out w7 w8 HB7.out va' vb' hL
        have HROW := Lib.hid hrow
        have HBEL := Lib.hid hbel
        clear hrow hbel hL
        go_wp2_with fail
        go_roundw
        case rel => exact ⟨k + 1, q', _, by omega, by go_num, HROW.out, HBEL.out⟩
        case measure => simp [intOf]; omega

end Go.Proofs.YtfpfgaifhmgpiaaDoor

namespace Go.Proofs.YtfpfgaifhmgpiaaDoor
open Go.RowKit Go.PlainAid

set_option linter.unusedVariables false

/-- The addresses of a valid array's rows. -/
theorem arr_addrs {ga gb bk : Int} {m D : Nat} {a0 a1 a2 : Option Addr} {n0 c0 n1 c1 n2 c2 : Nat} {x : Arr} {w : World} (h : arrK.rd w [.slice a0 n0 c0, .slice a1 n1 c1, .slice a2 n2 c2] x) (ha : ArrOk ga gb (m : Int) (D : Int) x) (hr : AdOk ga gb (m : Int) (D : Int) bk 0 0) :
    ∃ g0 o0 g1 o1 g2 o2, a0 = some ⟨g0, o0, none⟩ ∧ a1 = some ⟨g1, o1, none⟩ ∧ a2 = some ⟨g2, o2, none⟩ := by
  obtain ⟨b0, k0, d0, b1, k1, d1, b2, k2, d2, e, h0, h1, h2⟩ := arr_rd h
  simp only [List.cons.injEq, Value.slice.injEq, and_true] at e
  obtain ⟨⟨rfl, rfl, rfl⟩, ⟨rfl, rfl, rfl⟩, rfl, rfl, rfl⟩ := e
  obtain ⟨i', D', _, hD', _, hic, _⟩ := row_near ha hr
  obtain ⟨j, hj, hj1, hj2, _⟩ := row_place ha hr
  have hD8 := ha.1.2.2.2
  have hx0 : 0 < x.1.length := by omega
  obtain ⟨g0, o0, e0⟩ := row_addr h0 hx0
  obtain ⟨g1, o1, e1⟩ := row_addr h1 (by omega)
  obtain ⟨g2, o2, e2⟩ := row_addr h2 (by omega)
  exact ⟨g0, o0, g1, o1, g2, o2, e0, e1, e2⟩

theorem goneAt_is {g0 o0 c0 g1 o1 g2 o2 D B0 i Q : Nat} {vv : Value} {la lh ua uh : Int} {w u : World} (hC : Below w.heap.size w u) (hq : u.heap[Q]? = some (.cells (rowF g0 o0 c0 g1 o1 g2 o2 D B0 i vv) 110 (0, 0)))
    (hy : w.cell? ⟨g1, o1 + (B0 + i), none⟩ = some (.int .i64 ua)) (hz : w.cell? ⟨g2, o2 + (B0 + i), none⟩ = some (.int .i64 uh)) (b : Bool) (hb : decide (la < ua ∨ lh < uh) = b) :
    Calls Tryd.prog 43 #[.pointer (some ⟨Q, 0, none⟩), .agg #[.int .i64 la, .int .i64 lh]] u (Gives (.bool b) u) :=
  implGone_is hq ((hC.cell (World.block_lt_of_cell? _ _ hy)).trans hy) ((hC.cell (World.block_lt_of_cell? _ _ hz)).trans hz) b hb

end Go.Proofs.YtfpfgaifhmgpiaaDoor

namespace Go.Proofs.YtfpfgaifhmgpiaaDoor
open Go.RowKit Go.PlainAid

set_option linter.unusedVariables false

/-- A symbol of a cell of an array of the call's own, and the cell's mark. -/
theorem cell_place2 {w : World} {S : List Nat} {cs : List Value} {x : Arr} (h : arrK.own w S cs x) {j : Nat} (hj : j < x.1.length) {c : List Int × Bool} (hc : x.1.getD j ([], false) = c) :
    ∃ g off n0 c0 v1 v2 a n k S1, cs = [.slice (some ⟨g, off, none⟩) n0 c0, v1, v2] ∧ j < n0 ∧ g ∈ S ∧ n0 ≤ maxLen ∧ n = c.1.length ∧ w.cell? ⟨g, off + j * 2, none⟩ = some (.slice a n k) ∧ w.cell? ⟨g, off + j * 2 + 1, none⟩ = some (.bool c.2) ∧ (∀ b ∈ S1, b ∈ S ∧ b ≠ g) ∧ intsK.own w S1 [.slice a n k] c.1 ∧
      ∀ w' y, OnlyS S1 w w' → intsK.own w' S1 [.slice a n k] y → arrK.own w' S cs (x.1.set j (y, c.2), x.2) := by
  obtain ⟨a0, n0, c0, a1, n1, c1, a2, n2, c2, S0, S1, S2, rfl, rfl, hnd, h0, h1, h2⟩ := arr_own h
  obtain ⟨l0, _, m0, _⟩ := Kn.row_len (cellsK.read h0)
  obtain ⟨g, off, ds, T, rfl, hg, hT, hcell, _, hel, hin, _, _⟩ := Kn.own_at h0 hj
  have he : x.1[j] = c := by rw [← hc, List.getD_eq_getElem?_getD, List.getElem?_eq_getElem hj]; rfl
  rw [he] at hel
  obtain ⟨a, n, k, rfl, hi⟩ := cell_own hel
  obtain ⟨q1, _, _, _⟩ := Kn.row_len (intsK.read hi)
  obtain ⟨u0, u1, u2⟩ := nodup3 hnd
  have hT1 : ∀ b ∈ S1, b ∉ T := fun b hb hb' => (u1 b hb).1 (hT b hb').1
  have hT2 : ∀ b ∈ S2, b ∉ T := fun b hb hb' => (u2 b hb).1 (hT b hb').1
  refine ⟨g, off, n0, c0, _, _, a, n, k, T, rfl, by have : x.1.length = n0 := l0; omega, List.mem_append_left _ hg, m0, q1.symm, hcell 0 (by decide), hcell 1 (by decide), fun b hb => ⟨List.mem_append_left _ (hT b hb).1, (hT b hb).2⟩, hi, fun w' y ho hy => ?_⟩
  exact arr_of (hin w' (y, c.2) ho (cell_of c.2 hy)) (intsK.ownKeep h1 ho hT1) (intsK.ownKeep h2 ho hT2) hnd

end Go.Proofs.YtfpfgaifhmgpiaaDoor

namespace Go.Proofs.YtfpfgaifhmgpiaaDoor
open Go.RowKit Go.PlainAid

set_option linter.unusedVariables false

theorem getD_append_left {u v : List Int} {i : Nat} (h : i < u.length) : (u ++ v).getD i 0 = u.getD i 0 := by
  rw [List.getD_eq_getElem?_getD, List.getElem?_append_left h, ← List.getD_eq_getElem?_getD]

theorem copy_row {ops : Array Oper} {rest : List Oper} {o : Oper} {a : Act} {w : World} {Q : Exit → Act → World → Prop} (hgd : o.guard = none) (d s : Operand) (ho : o.op = .call { callee := .builtin .copy, args := #[d, s], argTypes := #[29, 29] })
    (B g off n c : Nat) (l : List Int) (hd : a.eval d = .slice (some ⟨g, off, none⟩) n c) (hown : OwnJ B (.slice (some ⟨g, off, none⟩) n c) l w) (ad : Addr) (m sc : Nat) (l2 : List Int) (hs : a.eval s = .slice (some ad) m sc) (hrow : RowI w (some ad) l2) (hm : l2.length = m) (hmn : m ≤ n) (hn0 : 0 < n)
    (h : ∀ w', OwnJ B (.slice (some ⟨g, off, none⟩) n c) (l2 ++ l.drop m) w' → Below B w w' → wpList Tryd.prog ops Q rest (a.put o.dst (.int .i64 (m : Int))) w') : wpList Tryd.prog ops Q (o :: rest) a w := by
  obtain ⟨_, _, _, hv, hl, ⟨h1, _, _⟩ | ⟨g', off', cur, hg, hB, hh, hc⟩⟩ := hown
  · cases hv; cases h1
  cases hv
  cases hg
  have hlast := hc (n - 1) (by omega)
  have hsz : off + n ≤ cur.size := by
    have := (Array.getElem?_eq_some_iff.1 hlast).1
    omega
  refine wpList_copy_splice hgd d s _ _ ho 3 Tryd.underlying29 (by kernel_rfl) (some ⟨g, off, none⟩) (some ad) n c m sc hd hs g off cur.toList 3 (by simpa using hh) (l2.map (Value.int .i64)) (by rw [List.length_map, hm]; exact (Nat.min_eq_left hmn).symm) (fun _ => ⟨rfl, ad, rfl, fun j u hj => ?_⟩) (by rw [List.length_map, hm]; simpa using (by omega : off + m ≤ cur.size)) (fun u hu => by obtain ⟨z, _, rfl⟩ := List.mem_map.1 hu; rfl) B w (Below.refl _ _) hB ?_
  · rw [List.getElem?_map] at hj
    rcases Nat.lt_or_ge j l2.length with hjl | hjl
    · rw [List.getElem?_eq_getElem hjl] at hj
      cases hj
      obtain ⟨b, o2, e, hcell⟩ := hrow.at hjl
      cases e
      rw [Addr.add_lit, hcell, List.getD_eq_getElem?_getD, List.getElem?_eq_getElem hjl]
      rfl
    · rw [List.getElem?_eq_none hjl] at hj
      cases hj
  · intro w' hw' hb'
    have := h w' ⟨_, _, _, rfl, by rw [List.length_append, List.length_drop, hm]; omega, .inr ⟨g, off, _, rfl, hB, hw'.out, fun i hi => ?_⟩⟩ hb'
    · rw [List.length_map, hm]
      exact this
    · rw [List.getElem?_toArray]
      unfold splice
      have hlt : (cur.toList.take off).length = off := by rw [List.length_take]; simp; omega
      rw [List.getElem?_append_right (by omega), hlt, Nat.add_sub_cancel_left]
      by_cases him : i < m
      · rw [List.getElem?_append_left (by rw [List.length_map]; omega), List.getElem?_map, getD_append_left (by omega), List.getElem?_eq_getElem (by omega), List.getD_eq_getElem?_getD, List.getElem?_eq_getElem (by omega)]
        rfl
      · rw [List.getElem?_append_right (by rw [List.length_map]; omega), List.length_map, hm, List.getElem?_drop, Array.getElem?_toList, show off + m + (i - m) = off + i by omega, hc i hi, List.getD_eq_getElem?_getD, List.getD_eq_getElem?_getD, List.getElem?_append_right (by omega), hm, List.getElem?_drop, show m + (i - m) = i by omega]

end Go.Proofs.YtfpfgaifhmgpiaaDoor
