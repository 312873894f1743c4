/-
  Texts of one proof, merged: ArrS, ArrU, ArrV, ArrX3, ArrYA, ArrYB, CodQ, ArrYC, ArrYT, ArrZ3, ArrX4, ArrYJ, ArrZ4.
-/
import Derived.Test.YtfpfgaifhmgpiaaQM144
import Derived.Test.YtfpfgaifhmgpiaaQM1410
import Derived.Test.YtfpfgaifhmgpiaaQM1416
import Derived.Laws.AppendOwnNone
namespace Go.Proofs.Ytfpfgaifhmgpiaa
open Go.RowKit Go.PlainAid

set_option linter.unusedVariables false

/-- Five variables made, one after another. -/
theorem alloc5 {w u : World} {A B C D E : Obj} (h : ((((w.alloc A).alloc B).alloc C).alloc D).alloc E = u) :
    u.heap[w.heap.size]? = some A ∧ u.heap[w.heap.size + 1]? = some B ∧ u.heap[w.heap.size + 1 + 1]? = some C ∧ u.heap[w.heap.size + 1 + 1 + 1]? = some D ∧ u.heap[w.heap.size + 1 + 1 + 1 + 1]? = some E ∧ Below w.heap.size w u := by
  subst h
  obtain ⟨h1, h2, h3, h4, h5⟩ := alloc4 (w := w) (A := A) (B := B) (C := C) (D := D) rfl
  have s1 := size_alloc w A
  have s2 := size_alloc (w.alloc A) B
  have s3 := size_alloc ((w.alloc A).alloc B) C
  have s4 := size_alloc (((w.alloc A).alloc B).alloc C) D
  have e : ((((w.alloc A).alloc B).alloc C).alloc D).heap.size = w.heap.size + 1 + 1 + 1 + 1 := by omega
  refine ⟨(heap_alloc_old _ _ (by omega)).trans h1, (heap_alloc_old _ _ (by omega)).trans h2, (heap_alloc_old _ _ (by omega)).trans h3, (heap_alloc_old _ _ (by omega)).trans h4, ?_, h5.alloc (by omega) _⟩
  rw [← e]
  exact heap_alloc_new _ _

/-- A cell of an array of the call's own is put by another. -/
theorem cell_put {w : World} {S : List Nat} {cs : List Value} {x : Arr} (h : arrK.own w S cs x) {j : Nat} (hj : j < x.1.length) :
    ∃ g off n0 c0 v1 v2, cs = [.slice (some ⟨g, off, none⟩) n0 c0, v1, v2] ∧ j < n0 ∧ n0 ≤ maxLen ∧ g ∈ S ∧ (∃ q, w.cell? ⟨g, off + j * 2, none⟩ = some q) ∧ (∃ q, w.cell? ⟨g, off + j * 2 + 1, none⟩ = some q) ∧ (∀ i, w.frozen? ⟨g, i, none⟩ = false) ∧
      ∀ (T : List Nat) (a : Option Addr) (n k : Nat) (y : List Int × Bool) (p : Bool), cellK.own w T [.slice a n k, .bool p] y → (∀ b ∈ T, b ∉ S) → ∃ S', (∀ b ∈ S', b ∈ S ∨ b ∈ T) ∧ arrK.own ((w.setCell ⟨g, off + j * 2, none⟩ (.slice a n k)).setCell ⟨g, off + j * 2 + 1, none⟩ (.bool p)) S' cs (x.1.set j y, x.2) := by
  obtain ⟨a0, n0, c0, a1, n1, c1, a2, n2, c2, S0, S1, S2, rfl, rfl, hnd, h0, h1, h2⟩ := arr_own h
  obtain ⟨l0, _, m0, _⟩ := Kn.row_len (cellsK.read h0)
  have l0' : x.1.length = n0 := l0
  obtain ⟨g, off, ds, T0, rfl, hg, hT, hcell, hfr, hel, _, _, hput⟩ := Kn.own_at h0 hj
  obtain ⟨ea, en, ec, rfl, _⟩ := cell_own hel
  obtain ⟨u0, u1, u2⟩ := nodup3 hnd
  refine ⟨g, off, n0, c0, _, _, rfl, by omega, m0, List.mem_append_left _ hg, ⟨_, hcell 0 (by decide)⟩, ⟨_, hcell 1 (by decide)⟩, hfr, fun T a n k y p hy hd => ?_⟩
  obtain ⟨S', hS', own'⟩ := hput T _ y hy (fun b hb hb' => hd b hb (List.mem_append_left _ hb'))
  refine ⟨S' ++ (S1 ++ S2), fun b hb => ?_, arr_of own' ?_ ?_ (nodup_of (cellsK.nodup own') (intsK.nodup h1) (intsK.nodup h2) (fun b hb hb' => ?_) (fun b hb hb' => ?_) (fun b hb hb' => (u2 b hb).2 hb'))⟩
  · rcases List.mem_append.1 hb with h | h
    · rcases hS' b h with h | h
      · exact .inl (List.mem_append_left _ h)
      · exact .inr h
    · exact .inl (List.mem_append_right _ h)
  · exact intsK.ownSet (intsK.ownSet h1 (fun b hb e => (u1 b hb).1 (e ▸ hg)) _) (fun b hb e => (u1 b hb).1 (e ▸ hg)) _
  · exact intsK.ownSet (intsK.ownSet h2 (fun b hb e => (u2 b hb).1 (e ▸ hg)) _) (fun b hb e => (u2 b hb).1 (e ▸ hg)) _
  · rcases hS' b hb' with h | h
    · exact (u1 b hb).1 h
    · exact hd b h (List.mem_append_right _ (List.mem_append_left _ hb))
  · rcases hS' b hb' with h | h
    · exact (u2 b hb).1 h
    · exact hd b h (List.mem_append_right _ (List.mem_append_right _ hb))

def StoreOk (ga gb gr gd : Int) (x : Arr) (bx br bc : Int) (c : List Int × Bool) : Prop := ArrOk ga gb gr gd x ∧ AdOk ga gb gr gd bx br bc ∧ SymOk c.1 11

instance (ga gb gr gd : Int) (x : Arr) (bx br bc : Int) (c : List Int × Bool) : Decidable (StoreOk ga gb gr gd x bx br bc c) := inferInstanceAs (Decidable (_ ∧ _))

def storedF (ga gb gr gd : Int) (x : Arr) (bx br bc : Int) (c : List Int × Bool) : Arr := if StoreOk ga gb gr gd x bx br bc c then (x.1.set (idxF ga gb gr gd bx br bc).toNat c, x.2) else x

set_option maxHeartbeats 16000000 in
set_option maxRecDepth 100000 in
theorem specStoreCell_is (ga gb gr gd bx br bc : Int) {cs : List Value} {x : Arr} {ka : Option Addr} {kn kc : Nat} {kl : List Int} {kp : Bool} {w : World} (h : arrK.rd w cs x) (hf : ArrFit x) (hk : intsK.rd w [.slice ka kn kc] kl) :
    Calls Try.prog 41 #[.agg #[.int .i64 ga, .int .i64 gb, .int .i64 gr, .int .i64 gd], .agg cs.toArray, .agg #[.int .i64 bx, .int .i64 br, .int .i64 bc], .agg #[.slice ka kn kc, .bool kp]] w (GivesS arrK (storedF ga gb gr gd x bx br bc (kl, kp)) w) := by
  obtain ⟨a0, n0, c0, a1, n1, c1, a2, n2, c2, rfl, h0, h1, h2⟩ := arr_rd h
  obtain ⟨w1, hw1⟩ : ∃ u, ((((w.alloc (.cells #[.int .i64 ga, .int .i64 gb, .int .i64 gr, .int .i64 gd] 25)).alloc (.cells #[.slice a0 n0 c0, .slice a1 n1 c1, .slice a2 n2 c2] 31)).alloc (.cells #[.int .i64 bx, .int .i64 br, .int .i64 bc] 37)).alloc (.cells #[.slice ka kn kc, .bool kp] 42)).alloc (.cells #[.slice none 0 0, .slice none 0 0, .slice none 0 0] 31) = u := ⟨_, rfl⟩
  obtain ⟨g1, p1, l1, m1', r1, hb1⟩ := alloc5 hw1
  obtain ⟨kl1, _, km, _⟩ := Kn.row_len hk
  unfold maxLen at km
  have kn' : (kn : Int) ≤ 9223372036854775807 := by omega
  have KL : Hid (kl.length = kn) := kl1
  have HK1 := Lib.hid (intsK.below hk hb1)
  have HB1 := Lib.hid hb1
  have HF := Lib.hid hf
  have H := Lib.hid h
  have H1 := Lib.hid (arrK.below h HB1.out)
  clear h hf h0 h1 h2 hk kl1
  obtain ⟨x0, x1, x2, x3⟩ := cells4 g1
  obtain ⟨y0, y1, y2⟩ := cells3 p1
  go_enter Try.func41, Try.ntmps41
  go_wp2_with fail
  refine (specCopyA_is H1.out HF.out.1 HF.out.2.1 HF.out.2.2.1 HF.out.2.2.2).mono ?_
  rintro e w2 ⟨cs2, S2, rfl, own2, hS2, hb2⟩
  obtain ⟨d0, m0, k0, d1, m1, k1, d2, m2, k2, S0, S1', S2', rfl, rfl, -⟩ := arr_own own2
  obtain ⟨w3, hw3⟩ : ∃ u, w2.alloc (.cells #[.slice d0 m0 k0, .slice d1 m1 k1, .slice d2 m2 k2] 31) = u := ⟨_, rfl⟩
  have hb3 : Below w2.heap.size w2 w3 := by subst hw3; exact (Below.refl _ _).alloc (Nat.le_refl _) _
  have q3 : w3.heap[w2.heap.size]? = some (.cells #[.slice d0 m0 k0, .slice d1 m1 k1, .slice d2 m2 k2] 31) := by subst hw3; exact heap_alloc_new _ _
  have HO3 := Lib.hid (arrK.ownBelow own2 hb3)
  have HB2 : Hid (Below w.heap.size w w2) := HB1.out.trans (hb2.mono HB1.out.size)
  have HB3 : Hid (Below w.heap.size w w3) := HB2.out.trans (hb3.mono HB2.out.size)
  have H3 := Lib.hid (arrK.below (arrK.below H1.out hb2) hb3)
  have HK3 := Lib.hid (intsK.below (intsK.below HK1.out hb2) hb3)
  have m3 := keep_block hb3 (keep_block hb2 m1' (lt_of_block m1')) (Nat.lt_of_lt_of_le (lt_of_block m1') hb2.size)
  have hlt : ∀ b ∈ S0 ++ (S1' ++ S2'), b < w2.heap.size := fun b hb => arrK.lt own2 b hb
  have hge : ∀ b ∈ S0 ++ (S1' ++ S2'), w1.heap.size ≤ b := fun b hb => hS2 b hb
  generalize hU2 : S0 ++ (S1' ++ S2') = T2 at own2 hS2 HO3 hlt hge
  have HS2 : Hid (∀ b ∈ T2, w1.heap.size ≤ b) := hge
  have HNP : Hid (w2.heap.size ∉ T2) := fun hb => by have := hlt _ hb; omega
  have HNR : Hid (∀ b ∈ T2, b ≠ w.heap.size + 1 + 1 + 1 + 1) := fun b hb e => by have := hge b hb; have := lt_of_block r1; omega
  have HRR : Hid (w.heap.size ≤ w.heap.size + 1 + 1 + 1 + 1) := by show _ ≤ _; omega
  have HPR : Hid (w.heap.size + 1 + 1 + 1 + 1 ≠ w2.heap.size) := fun e => by have := lt_of_block r1; have := hb2.size; omega
  have HPW : Hid (w.heap.size ≤ w2.heap.size) := HB2.out.size
  have g3 := keep_block hb3 (keep_block hb2 g1 (lt_of_block g1)) (Nat.lt_of_lt_of_le (lt_of_block g1) hb2.size)
  have l3 := keep_block hb3 (keep_block hb2 l1 (lt_of_block l1)) (Nat.lt_of_lt_of_le (lt_of_block l1) hb2.size)
  have p3 := keep_block hb3 (keep_block hb2 p1 (lt_of_block p1)) (Nat.lt_of_lt_of_le (lt_of_block p1) hb2.size)
  have r3 := keep_block hb3 (keep_block hb2 r1 (lt_of_block r1)) (Nat.lt_of_lt_of_le (lt_of_block r1) hb2.size)
  clear own2 hS2 hb2 hb3 g1 l1 m1' p1 r1 x0 x1 x2 x3 y0 y1 y2 hlt hge hU2
  obtain ⟨x0, x1, x2, x3⟩ := cells4 g3
  obtain ⟨y0, y1, y2⟩ := cells3 p3
  obtain ⟨z0, z1, z2⟩ := cells3 q3
  go_wp2_with fail
  by_cases ha : ArrOk ga gb gr gd x
  case neg =>
    have KA := Lib.hid (decide_eq_false ha)
    have HE : Hid (storedF ga gb gr gd x bx br bc (kl, kp) = x) := if_neg (fun h => ha h.1)
    clear ha
    refine (specArrayOk_is ga gb gr gd H3.out false KA.out).mono ?_
    rintro e w4 ⟨rfl, hb4⟩
    have HBQ : Hid (Below w.heap.size w w4) := HB3.out.trans (hb4.mono HB3.out.size)
    have qq := keep_block hb4 q3 (lt_of_block q3)
    have rr := keep_block hb4 r3 (lt_of_block r3)
    have gg := keep_block hb4 g3 (lt_of_block g3)
    have ll := keep_block hb4 l3 (lt_of_block l3)
    have mm := keep_block hb4 m3 (lt_of_block m3)
    have HK4 := Lib.hid (intsK.below HK3.out hb4)
    have HO4 := Lib.hid (arrK.ownBelow HO3.out hb4)
    clear hb4 g3 l3 m3 p3 q3 r3 x0 x1 x2 x3 y0 y1 y2 z0 z1 z2
    obtain ⟨x0, x1, x2, x3⟩ := cells4 gg
    obtain ⟨y0, y1, y2⟩ := cells3 ll
    obtain ⟨v0, v1, v2⟩ := cells3 rr
    have f0 := thawed rr 0
    have f1 := thawed rr 1
    have f2 := thawed rr 2
    obtain ⟨u0, u1, u2⟩ := cells3 qq
    have o5 := set_cells (set_cells (set_cells rr 0 (.slice d0 m0 k0)) 1 (.slice d1 m1 k1)) 2 (.slice d2 m2 k2)
    obtain ⟨t0, t1, t2⟩ := cells3 o5
    go_wp2_with fail
    (try simp only [Exit.inBlock, Exit.then])
    refine bodyPost_ret (v := .agg #[.slice d0 m0 k0, .slice d1 m1 k1, .slice d2 m2 k2]) ?_ rfl ⟨_, T2, rfl, ?_, fun b hb => ?_, ?_⟩
    · simp [results, Try.results41, go_sem, t0, t1, t2]
    · rw [HE.out]
      exact arrK.ownSet (arrK.ownSet (arrK.ownSet HO4.out (fun b hb => HNR.out b hb) _) (fun b hb => HNR.out b hb) _) (fun b hb => HNR.out b hb) _
    · have := HS2.out b hb; have := HB1.out.size; omega
    · exact ((HBQ.out.setCell HRR.out _).setCell HRR.out _).setCell HRR.out _
  have KA := Lib.hid (decide_eq_true ha)
  by_cases hn : AdOk ga gb gr gd bx br bc
  case neg =>
    have KN := Lib.hid (decide_eq_false hn)
    have HE : Hid (storedF ga gb gr gd x bx br bc (kl, kp) = x) := if_neg (fun h => hn h.2.1)
    clear ha hn
    refine (specArrayOk_is ga gb gr gd H3.out true KA.out).mono ?_
    rintro e w4 ⟨rfl, hb4⟩
    have HBQ : Hid (Below w.heap.size w w4) := HB3.out.trans (hb4.mono HB3.out.size)
    have qq := keep_block hb4 q3 (lt_of_block q3)
    have rr := keep_block hb4 r3 (lt_of_block r3)
    have gg := keep_block hb4 g3 (lt_of_block g3)
    have ll := keep_block hb4 l3 (lt_of_block l3)
    have mm := keep_block hb4 m3 (lt_of_block m3)
    have HK4 := Lib.hid (intsK.below HK3.out hb4)
    have HO4 := Lib.hid (arrK.ownBelow HO3.out hb4)
    clear hb4 g3 l3 m3 p3 q3 r3 x0 x1 x2 x3 y0 y1 y2 z0 z1 z2
    obtain ⟨x0, x1, x2, x3⟩ := cells4 gg
    obtain ⟨y0, y1, y2⟩ := cells3 ll
    go_wp2_with fail
    refine (specAddrOk_is ga gb gr gd bx br bc false KN.out _).mono ?_
    rintro e w5 ⟨rfl, hb5⟩
    have HBR : Hid (Below w.heap.size w w5) := HBQ.out.trans (hb5.mono HBQ.out.size)
    have q5 := keep_block hb5 qq (lt_of_block qq)
    have r5 := keep_block hb5 rr (lt_of_block rr)
    have g5 := keep_block hb5 gg (lt_of_block gg)
    have l5 := keep_block hb5 ll (lt_of_block ll)
    have m5 := keep_block hb5 mm (lt_of_block mm)
    have HK5 := Lib.hid (intsK.below HK4.out hb5)
    have HO5 := Lib.hid (arrK.ownBelow HO4.out hb5)
    clear HBQ HO4 HK4 qq rr gg ll mm hb5 x0 x1 x2 x3 y0 y1 y2
    have HBQ := HBR
    have qq := q5
    have rr := r5
    have gg := g5
    have ll := l5
    have mm := m5
    clear HBR q5 r5 g5 l5 m5
    obtain ⟨c0', c1'⟩ := cells2 mm
    obtain ⟨v0, v1, v2⟩ := cells3 rr
    have f0 := thawed rr 0
    have f1 := thawed rr 1
    have f2 := thawed rr 2
    obtain ⟨u0, u1, u2⟩ := cells3 qq
    have o5 := set_cells (set_cells (set_cells rr 0 (.slice d0 m0 k0)) 1 (.slice d1 m1 k1)) 2 (.slice d2 m2 k2)
    obtain ⟨t0, t1, t2⟩ := cells3 o5
    go_wp2_with fail
    (try simp only [Exit.inBlock, Exit.then])
    refine bodyPost_ret (v := .agg #[.slice d0 m0 k0, .slice d1 m1 k1, .slice d2 m2 k2]) ?_ rfl ⟨_, T2, rfl, ?_, fun b hb => ?_, ?_⟩
    · simp [results, Try.results41, go_sem, t0, t1, t2]
    · rw [HE.out]
      exact arrK.ownSet (arrK.ownSet (arrK.ownSet HO5.out (fun b hb => HNR.out b hb) _) (fun b hb => HNR.out b hb) _) (fun b hb => HNR.out b hb) _
    · have := HS2.out b hb; have := HB1.out.size; omega
    · exact ((HBQ.out.setCell HRR.out _).setCell HRR.out _).setCell HRR.out _
  have KN := Lib.hid (decide_eq_true hn)
  by_cases hc : SymOk kl 11
  case neg =>
    have KC := Lib.hid (decide_eq_false hc)
    have HE : Hid (storedF ga gb gr gd x bx br bc (kl, kp) = x) := if_neg (fun h => hc h.2.2)
    clear ha hn hc
    refine (specArrayOk_is ga gb gr gd H3.out true KA.out).mono ?_
    rintro e w4 ⟨rfl, hb4⟩
    have HBQ : Hid (Below w.heap.size w w4) := HB3.out.trans (hb4.mono HB3.out.size)
    have qq := keep_block hb4 q3 (lt_of_block q3)
    have rr := keep_block hb4 r3 (lt_of_block r3)
    have gg := keep_block hb4 g3 (lt_of_block g3)
    have ll := keep_block hb4 l3 (lt_of_block l3)
    have mm := keep_block hb4 m3 (lt_of_block m3)
    have HK4 := Lib.hid (intsK.below HK3.out hb4)
    have HO4 := Lib.hid (arrK.ownBelow HO3.out hb4)
    clear hb4 g3 l3 m3 p3 q3 r3 x0 x1 x2 x3 y0 y1 y2 z0 z1 z2
    obtain ⟨x0, x1, x2, x3⟩ := cells4 gg
    obtain ⟨y0, y1, y2⟩ := cells3 ll
    go_wp2_with fail
    refine (specAddrOk_is ga gb gr gd bx br bc true KN.out _).mono ?_
    rintro e w5 ⟨rfl, hb5⟩
    have HBR : Hid (Below w.heap.size w w5) := HBQ.out.trans (hb5.mono HBQ.out.size)
    have q5 := keep_block hb5 qq (lt_of_block qq)
    have r5 := keep_block hb5 rr (lt_of_block rr)
    have g5 := keep_block hb5 gg (lt_of_block gg)
    have l5 := keep_block hb5 ll (lt_of_block ll)
    have m5 := keep_block hb5 mm (lt_of_block mm)
    have HK5 := Lib.hid (intsK.below HK4.out hb5)
    have HO5 := Lib.hid (arrK.ownBelow HO4.out hb5)
    clear HBQ HO4 HK4 qq rr gg ll mm hb5 x0 x1 x2 x3 y0 y1 y2
    have HBQ := HBR
    have qq := q5
    have rr := r5
    have gg := g5
    have ll := l5
    have mm := m5
    clear HBR q5 r5 g5 l5 m5
    obtain ⟨c0', c1'⟩ := cells2 mm
    go_wp2_with fail
    refine (specSymbolsOk_is KL.out (ints_row HK5.out) false KC.out kn').mono ?_
    rintro e w6 ⟨rfl, rfl⟩
    obtain ⟨v0, v1, v2⟩ := cells3 rr
    have f0 := thawed rr 0
    have f1 := thawed rr 1
    have f2 := thawed rr 2
    obtain ⟨u0, u1, u2⟩ := cells3 qq
    have o5 := set_cells (set_cells (set_cells rr 0 (.slice d0 m0 k0)) 1 (.slice d1 m1 k1)) 2 (.slice d2 m2 k2)
    obtain ⟨t0, t1, t2⟩ := cells3 o5
    go_wp2_with fail
    (try simp only [Exit.inBlock, Exit.then])
    refine bodyPost_ret (v := .agg #[.slice d0 m0 k0, .slice d1 m1 k1, .slice d2 m2 k2]) ?_ rfl ⟨_, T2, rfl, ?_, fun b hb => ?_, ?_⟩
    · simp [results, Try.results41, go_sem, t0, t1, t2]
    · rw [HE.out]
      exact arrK.ownSet (arrK.ownSet (arrK.ownSet HO5.out (fun b hb => HNR.out b hb) _) (fun b hb => HNR.out b hb) _) (fun b hb => HNR.out b hb) _
    · have := HS2.out b hb; have := HB1.out.size; omega
    · exact ((HBQ.out.setCell HRR.out _).setCell HRR.out _).setCell HRR.out _
  have KC := Lib.hid (decide_eq_true hc)
  obtain ⟨j, hj, hjl⟩ := cell_index ha hn
  have HE : Hid (storedF ga gb gr gd x bx br bc (kl, kp) = (x.1.set j (kl, kp), x.2)) := by
    show _ = _
    unfold storedF
    rw [if_pos ⟨ha, hn, hc⟩, hj]
    rfl
  have HJ := Lib.hid hj
  have HJL := Lib.hid hjl
  have hk11 : (kl.length : Int) = 11 := hc.2
  clear ha hn hc hj hjl
  refine (specArrayOk_is ga gb gr gd H3.out true KA.out).mono ?_
  rintro e w4 ⟨rfl, hb4⟩
  have HBQ : Hid (Below w.heap.size w w4) := HB3.out.trans (hb4.mono HB3.out.size)
  have qq := keep_block hb4 q3 (lt_of_block q3)
  have rr := keep_block hb4 r3 (lt_of_block r3)
  have gg := keep_block hb4 g3 (lt_of_block g3)
  have ll := keep_block hb4 l3 (lt_of_block l3)
  have mm := keep_block hb4 m3 (lt_of_block m3)
  have HK4 := Lib.hid (intsK.below HK3.out hb4)
  have HO4 := Lib.hid (arrK.ownBelow HO3.out hb4)
  clear hb4 g3 l3 m3 p3 q3 r3 x0 x1 x2 x3 y0 y1 y2 z0 z1 z2
  obtain ⟨x0, x1, x2, x3⟩ := cells4 gg
  obtain ⟨y0, y1, y2⟩ := cells3 ll
  go_wp2_with fail
  refine (specAddrOk_is ga gb gr gd bx br bc true KN.out _).mono ?_
  rintro e w5 ⟨rfl, hb5⟩
  have HBR : Hid (Below w.heap.size w w5) := HBQ.out.trans (hb5.mono HBQ.out.size)
  have q5 := keep_block hb5 qq (lt_of_block qq)
  have r5 := keep_block hb5 rr (lt_of_block rr)
  have g5 := keep_block hb5 gg (lt_of_block gg)
  have l5 := keep_block hb5 ll (lt_of_block ll)
  have m5 := keep_block hb5 mm (lt_of_block mm)
  have HK5 := Lib.hid (intsK.below HK4.out hb5)
  have HO5 := Lib.hid (arrK.ownBelow HO4.out hb5)
  clear HBQ HO4 HK4 qq rr gg ll mm hb5 x0 x1 x2 x3 y0 y1 y2
  have HBQ := HBR
  have qq := q5
  have rr := r5
  have gg := g5
  have ll := l5
  have mm := m5
  clear HBR q5 r5 g5 l5 m5
  obtain ⟨c0', c1'⟩ := cells2 mm
  go_wp2_with fail
  refine (specSymbolsOk_is KL.out (ints_row HK5.out) true KC.out kn').mono ?_
  rintro e w6 ⟨rfl, rfl⟩
  obtain ⟨gA, oA, nA, cA, _, _, eA, hjn, hnm, hgA, _, _, _, _⟩ := cell_put HO5.out HJL.out
  cases eA
  unfold maxLen at hnm
  clear c0' c1'
  go_wp2_with fail
  refine wp_region_float (A := ?A) [.h, .h, .h, .h, .t, .h, .t, .t, .e] (by kernel_rfl) (by kernel_rfl) (fun q => q.heap[w2.heap.size]? = some (.cells #[.slice (some ⟨gA, oA, none⟩) m0 k0, .slice d1 m1 k1, .slice d2 m2 k2] 31 (0, 0)) ∧ q.heap[w.heap.size]? = some (.cells #[.int .i64 ga, .int .i64 gb, .int .i64 gr, .int .i64 gd] 25 (0, 0)) ∧ q.heap[w.heap.size + 1 + 1]? = some (.cells #[.int .i64 bx, .int .i64 br, .int .i64 bc] 37 (0, 0)) ∧ q.heap[w.heap.size + 1 + 1 + 1]? = some (.cells #[.slice ka kn kc, .bool kp] 42 (0, 0))) ?hC ?hH ?hT
  case hC => exact ⟨qq, gg, ll, mm⟩
  case hH =>
    intro q hq
    obtain ⟨h0, h1, h2, h3⟩ := hq
    obtain ⟨p0, p1, p2⟩ := cells3 h0
    obtain ⟨x0, x1, x2, x3⟩ := cells4 h1
    obtain ⟨y0, y1, y2⟩ := cells3 h2
    obtain ⟨k0', k1'⟩ := cells2 h3
    have z0 := fun t : Same q => t.cell p0
    have z1 := fun t : Same q => t.cell x0
    have z2 := fun t : Same q => t.cell x1
    have z3 := fun t : Same q => t.cell x2
    have z4 := fun t : Same q => t.cell x3
    have z5 := fun t : Same q => t.cell y0
    have z6 := fun t : Same q => t.cell y1
    have z7 := fun t : Same q => t.cell y2
    have z8 := fun t : Same q => t.cell k0'
    have z9 := fun t : Same q => t.cell k1'
    simp only [headsOf]
    repeat (go_big_quiet_step (fail))
    refine wpQuiet_nil ?_
    exact rfl
  case hT =>
    simp only [chainT]
    have hdr : Below w5.heap.size w5 w5.drew := ⟨rfl, rfl, rfl, Nat.le_refl _, fun _ _ => rfl⟩
    have HOD : Hid (arrK.own w5.drew T2 _ x) := arrK.ownBelow HO5.out hdr
    have HKD : Hid (intsK.rd w5.drew [.slice ka kn kc] kl) := intsK.below HK5.out hdr
    have HBD : Hid (Below w.heap.size w w5.drew) := HBQ.out.trans (hdr.mono HBQ.out.size)
    have qd : w5.drew.heap[w2.heap.size]? = _ := qq
    have gd' : w5.drew.heap[w.heap.size]? = _ := gg
    have ld : w5.drew.heap[w.heap.size + 1 + 1]? = _ := ll
    have md : w5.drew.heap[w.heap.size + 1 + 1 + 1]? = _ := mm
    have rd : w5.drew.heap[w.heap.size + 1 + 1 + 1 + 1]? = _ := rr
    clear qq gg ll mm rr HO5 HK5 HBQ hdr
    generalize w5.drew = w6 at *
    go_wp2_with fail
    refine (specIndex_is ga gb gr gd bx br bc (j : Int) HJ.out _).mono ?_
    rintro e w7 ⟨rfl, hb7⟩
    have q7 := keep_block hb7 qd (lt_of_block qd)
    have g7 := keep_block hb7 gd' (lt_of_block gd')
    have l7 := keep_block hb7 ld (lt_of_block ld)
    have m7 := keep_block hb7 md (lt_of_block md)
    have r7 := keep_block hb7 rd (lt_of_block rd)
    have HO7 := Lib.hid (arrK.ownBelow HOD.out hb7)
    have HK7 := Lib.hid (intsK.below HKD.out hb7)
    have HB7 : Hid (Below w.heap.size w w7) := HBD.out.trans (hb7.mono HBD.out.size)
    clear HOD HKD HBD qd gd' ld md rd hb7
    go_wp2_with fail
    refine stepQ_normal ⟨⟨q7, g7, l7, m7⟩, ?_⟩
    go_wp2_with fail
    refine (specCell_k (p := kp) HK7.out (by omega)).mono ?_
    rintro e w8 ⟨cs8, T8, rfl, own8, hT8, hb8⟩
    obtain ⟨ya, yn, yc, rfl, hi8⟩ := cell_own own8
    have q8 := keep_block hb8 q7 (lt_of_block q7)
    have g8 := keep_block hb8 g7 (lt_of_block g7)
    have l8 := keep_block hb8 l7 (lt_of_block l7)
    have m8 := keep_block hb8 m7 (lt_of_block m7)
    have r8 := keep_block hb8 r7 (lt_of_block r7)
    have HO8 := Lib.hid (arrK.ownBelow HO7.out hb8)
    have HB8 : Hid (Below w.heap.size w w8) := HB7.out.trans (hb8.mono HB7.out.size)
    have hlt8 : ∀ b ∈ T2, b < w7.heap.size := fun b hb => arrK.lt HO7.out b hb
    obtain ⟨_, _, _, _, _, _, e8, _, _, _, ⟨o8, hc8⟩, ⟨o8', hc8'⟩, hf8, hput⟩ := cell_put HO8.out HJL.out
    cases e8
    obtain ⟨S9, hS9, own9⟩ := hput T8 ya yn yc (kl, kp) kp own8 (fun b hb hb' => by have := hT8 b hb; have := hlt8 b hb'; omega)
    have f80 := hf8 (oA + j * 2)
    have f81 := hf8 (oA + j * 2 + 1)
    obtain ⟨w9, hw9⟩ : ∃ q, (w8.setCell ⟨gA, oA + j * 2, none⟩ (.slice ya yn yc)).setCell ⟨gA, oA + j * 2 + 1, none⟩ (.bool kp) = q := ⟨_, rfl⟩
    rw [hw9] at own9
    have HO6 := Lib.hid own9
    have HB9 : Hid (Below w.heap.size w w9) := hw9 ▸ (HB8.out.setCell (by have := HS2.out gA hgA; have := HB1.out.size; show _ ≤ gA; omega) _).setCell (by have := HS2.out gA hgA; have := HB1.out.size; show _ ≤ gA; omega) _
    have q9 : w9.heap[w2.heap.size]? = _ := hw9 ▸ keep_set (keep_set q8 (fun e => HNP.out (e ▸ hgA))) (fun e => HNP.out (e ▸ hgA))
    have r9 : w9.heap[w.heap.size + 1 + 1 + 1 + 1]? = _ := hw9 ▸ keep_set (keep_set r8 (fun e => HNR.out gA hgA e.symm)) (fun e => HNR.out gA hgA e.symm)
    have HS9 : Hid (∀ b ∈ S9, w1.heap.size ≤ b) := fun b hb => by
      rcases hS9 b hb with h | h
      · exact HS2.out b h
      · have := hT8 b h; have := HS2.out gA hgA; have := hlt8 gA hgA; omega
    have HNR9 : Hid (∀ b ∈ S9, b ≠ w.heap.size + 1 + 1 + 1 + 1) := fun b hb => by
      rcases hS9 b hb with h | h
      · exact HNR.out b h
      · have := hT8 b h; have := lt_of_block r7; intro e; omega
    clear hi8 own8 hT8 hb8 hlt8 hput hf8 own9 hS9 HO7 HO8 HK7 HB7 HB8 q7 g7 l7 m7 r7
    go_wp2_with fail
    refine stepQ_normal ⟨⟨q8, g8, l8, m8⟩, ?_⟩
    go_wp2_with fail
    refine stepQ_normal ⟨⟨q8, g8, l8, m8⟩, ?_⟩
    go_wp2_with fail
    refine stepQ_normal ⟨trivial, ?_⟩
    have qq := q9
    have rr := r9
    have HBQ := HB9
    clear q8 g8 l8 m8 r8 q9 r9 hc8 hc8' f80 f81 HB9
    obtain ⟨v0, v1, v2⟩ := cells3 rr
    have f0 := thawed rr 0
    have f1 := thawed rr 1
    have f2 := thawed rr 2
    obtain ⟨u0, u1, u2⟩ := cells3 qq
    have o5 := set_cells (set_cells (set_cells rr 0 (.slice (some ⟨gA, oA, none⟩) m0 k0)) 1 (.slice d1 m1 k1)) 2 (.slice d2 m2 k2)
    obtain ⟨t0, t1, t2⟩ := cells3 o5
    go_wp2_with fail
    (try simp only [Exit.inBlock, Exit.then])
    refine bodyPost_ret (v := .agg #[.slice (some ⟨gA, oA, none⟩) m0 k0, .slice d1 m1 k1, .slice d2 m2 k2]) ?_ rfl ⟨_, S9, rfl, ?_, fun b hb => ?_, ?_⟩
    · simp [results, Try.results41, go_sem, t0, t1, t2]
    · rw [HE.out]
      exact arrK.ownSet (arrK.ownSet (arrK.ownSet HO6.out (fun b hb => HNR9.out b hb) _) (fun b hb => HNR9.out b hb) _) (fun b hb => HNR9.out b hb) _
    · have := HS9.out b hb; have := HB1.out.size; omega
    · exact ((HBQ.out.setCell HRR.out _).setCell HRR.out _).setCell HRR.out _

end Go.Proofs.Ytfpfgaifhmgpiaa

namespace Go.Proofs.Ytfpfgaifhmgpiaa
open Go.RowKit Go.PlainAid

set_option linter.unusedVariables false

def IArrayOk : Prop := ∀ (ga gb gr gd : Int) (cs : List Value) (x : Arr) (v : Bool) (hv : decide (ArrOk ga gb gr gd x) = v) (w : World) (h : arrK.rd w cs x) (hf : ArrFit x), Calls Try.prog 26 #[.agg #[.int .i64 ga, .int .i64 gb, .int .i64 gr, .int .i64 gd], .agg cs.toArray] w (Gives (.bool v) w)

def ITimePasses : Prop := ∀ (ga gb gr gd n : Int) (cs : List Value) (x : Arr) (w : World) (h : arrK.rd w cs x) (hf : ArrFit x), Calls Try.prog 29 #[.agg #[.int .i64 ga, .int .i64 gb, .int .i64 gr, .int .i64 gd], .agg cs.toArray, .int .i64 n] w (GivesS arrK (timesF ga gb gr gd n x) w)

def IRowDecayed : Prop := ∀ (ga gb gr gd la lh bk rw : Int) (cs : List Value) (x : Arr) (v : Bool) (hv : decide (decF ga gb gr gd la lh x bk rw) = v) (w : World) (h : arrK.rd w cs x) (hf : ArrFit x), Calls Try.prog 34 #[.agg #[.int .i64 ga, .int .i64 gb, .int .i64 gr, .int .i64 gd], .agg #[.int .i64 la, .int .i64 lh], .agg cs.toArray, .int .i64 bk, .int .i64 rw] w (Gives (.bool v) w)

def IFlipSymbol : Prop := ∀ (ga gb gr gd bx br bc ch u : Int) (cs : List Value) (x : Arr) (w : World) (h : arrK.rd w cs x) (hf : ArrFit x), Calls Try.prog 21 #[.agg #[.int .i64 ga, .int .i64 gb, .int .i64 gr, .int .i64 gd], .agg cs.toArray, .agg #[.int .i64 bx, .int .i64 br, .int .i64 bc], .int .i64 ch, .int .i64 u] w (GivesS arrK (flippedF ga gb gr gd x bx br bc ch u) w)

def ILoadCell : Prop := ∀ (ga gb gr gd bx br bc : Int) (cs : List Value) (x : Arr) (w : World) (h : arrK.rd w cs x) (hf : ArrFit x), Calls Try.prog 18 #[.agg #[.int .i64 ga, .int .i64 gb, .int .i64 gr, .int .i64 gd], .agg cs.toArray, .agg #[.int .i64 bx, .int .i64 br, .int .i64 bc]] w (GivesC (loadF ga gb gr gd x bx br bc).1 (loadF ga gb gr gd x bx br bc).2 w)

def IStoreCell : Prop := ∀ (ga gb gr gd bx br bc : Int) (cs : List Value) (x : Arr) (ka : Option Addr) (kn kc : Nat) (kl : List Int) (kp : Bool) (w : World) (h : arrK.rd w cs x) (hf : ArrFit x) (hk : intsK.rd w [.slice ka kn kc] kl) (hkl : kl.length ≤ 4000000), Calls Try.prog 17 #[.agg #[.int .i64 ga, .int .i64 gb, .int .i64 gr, .int .i64 gd], .agg cs.toArray, .agg #[.int .i64 bx, .int .i64 br, .int .i64 bc], .agg #[.slice ka kn kc, .bool kp]] w (GivesS arrK (storedF ga gb gr gd x bx br bc (kl, kp)) w)

end Go.Proofs.Ytfpfgaifhmgpiaa

namespace Go.Proofs.Ytfpfgaifhmgpiaa
open Go.RowKit Go.PlainAid

set_option linter.unusedVariables false

theorem below_allocK (w : World) (o : Obj) : Below w.heap.size w (w.alloc o) := (Below.refl _ _).alloc (Nat.le_refl _) o

theorem intsTy : intsK.Ty [3] := Kn.Ty.row (Kn.Ty.flat _ _ _) (fun t h => by cases h) (by simp)

theorem boolTy : boolK.Ty [] := Kn.Ty.flat _ _ _

theorem cellTy : cellK.Ty [3] := Kn.Ty.pair intsTy boolTy (fun t h => h) (fun t h => by cases h)

theorem cellsTy : cellsK.Ty [42, 3] := Kn.Ty.row cellTy (fun t h => List.mem_cons_of_mem _ h) (by simp)

theorem arrTy : arrK.Ty [42, 3] := Kn.Ty.pair cellsTy (Kn.Ty.pair intsTy intsTy (fun t h => h) (fun t h => h)) (fun t h => h) (fun t h => List.mem_cons_of_mem _ h)

theorem eqArr_cs {cs ds : List Value} {x : Arr} {w : World} (ha : arrK.rd w cs x) (hb : arrK.rd w ds x) : Calls Try.prog 27 #[.agg cs.toArray, .agg ds.toArray] w (Gives (.bool true) w) := by
  obtain ⟨a0, n0, c0, a1, n1, c1, a2, n2, c2, rfl, h0, h1, h2⟩ := arr_rd ha
  obtain ⟨b0, m0, d0, b1, m1, d1, b2, m2, d2, rfl, k0, k1, k2⟩ := arr_rd hb
  exact eqArray_k h0 h1 h2 k0 k1 k2

theorem eqCell_cs {cs ds : List Value} {x : List Int × Bool} {w : World} (ha : cellK.rd w cs x) (hb : cellK.rd w ds x) : Calls Try.prog 37 #[.agg cs.toArray, .agg ds.toArray] w (Gives (.bool true) w) := by
  obtain ⟨a0, n0, c0, rfl, h0⟩ := cell_rd ha
  obtain ⟨b0, m0, d0, rfl, k0⟩ := cell_rd hb
  exact eqCell_k h0 k0

theorem toLimits_any (a b : Int) (w : World) :
    Calls Try.prog 33 #[.agg #[.int .i64 a, .int .i64 b]] w (Gives (.agg #[.int .i64 a, .int .i64 b]) w) := by
  go_enter Try.func33, Try.ntmps33
  go_wp2
  (try simp only [Exit.inBlock, Exit.then])
  refine bodyPost_ret (v := .agg #[.int .i64 a, .int .i64 b]) (by simp [results, Try.results33, go_sem]) rfl ⟨rfl, ?_⟩
  repeat' (first | exact Below.refl _ _ | refine Below.drew ?_ | refine Below.alloc ?_ (by simp <;> omega) _ | refine Below.setCell ?_ (by simp <;> omega) _)

theorem cntL_set {α : Type} (cnt : α → Nat) {y : α} : ∀ (l : List α) (k : Nat), (∀ (h : k < l.length), cnt y = cnt l[k]) → cntL cnt (l.set k y) = cntL cnt l
  | [], _, _ => rfl
  | x :: l, 0, h => by
    show cnt y + _ = cnt x + _
    have : cnt y = cnt x := h (by simp)
    rw [this]
  | x :: l, k + 1, h => by
    show cnt x + cntL cnt (l.set k y) = cnt x + cntL cnt l
    rw [cntL_set cnt l k (fun hk => h (by simpa using hk))]

theorem cntL_set_le {α : Type} (cnt : α → Nat) (y : α) : ∀ (l : List α) (k : Nat), cntL cnt (l.set k y) ≤ cntL cnt l + cnt y
  | [], _ => by simp [cntL]
  | x :: l, 0 => by
    show cnt y + _ ≤ cnt x + _ + _
    omega
  | x :: l, k + 1 => by
    have := cntL_set_le cnt y l k
    show cnt x + cntL cnt (l.set k y) ≤ cnt x + cntL cnt l + _
    omega

theorem getD_get {α : Type} {l : List α} {k : Nat} {d : α} (h : k < l.length) : l.getD k d = l[k] := by
  rw [List.getD_eq_getElem?_getD, List.getElem?_eq_getElem h]
  rfl

theorem times_cnt (ga gb gr gd n : Int) (x : Arr) : aCnt (timesF ga gb gr gd n x) = aCnt x := by
  unfold timesF
  split
  · unfold aCnt timeF; simp
  · rfl

theorem flipped_cnt (ga gb gr gd bx br bc ch u : Int) (x : Arr) : aCnt (flippedF ga gb gr gd x bx br bc ch u) = aCnt x := by
  unfold flippedF
  split
  · unfold aCnt flipC
    show cntL cCnt (List.set _ _ _) + _ + _ = _
    rw [cntL_set cCnt _ _ (fun h => ?_)]
    rw [getD_get h]
    unfold cCnt
    simp
  · rfl

theorem stored_cnt (ga gb gr gd bx br bc : Int) (x : Arr) (c : List Int × Bool) : aCnt (storedF ga gb gr gd x bx br bc c) ≤ aCnt x + cCnt c := by
  unfold storedF
  split
  · unfold aCnt
    have := cntL_set_le cCnt c x.1 (idxF ga gb gr gd bx br bc).toNat
    show cntL cCnt (List.set _ _ _) + _ + _ ≤ _
    simp only
    omega
  · omega

theorem cntL_cCnt : ∀ (l : List (List Int × Bool)), cntL cCnt l = cntL symN l + l.length
  | [] => rfl
  | x :: l => by
    show cCnt x + cntL cCnt l = symN x + cntL symN l + (l.length + 1)
    rw [cntL_cCnt l]
    unfold cCnt symN
    omega

theorem cntL_mem {α : Type} (cnt : α → Nat) {x : α} : ∀ {l : List α}, x ∈ l → cnt x ≤ cntL cnt l
  | y :: l, h => by
    show _ ≤ cnt y + cntL cnt l
    rcases List.mem_cons.1 h with rfl | h
    · omega
    · have := cntL_mem cnt h
      omega

theorem markArr_v {cs : List Value} {S : List Nat} {x : Arr} {w : World} (h : arrK.own w S cs x) (hk : aCnt x ≤ 3000000) (v : Int) (hv : ((1 + aCnt x : Nat) : Int) = v) :
    Calls Try.prog 30 #[.agg cs.toArray, .int .i64 1] w fun e w' => e = .returned (.int .i64 v) ∧ arrK.own w' S cs (aMk x 1) ∧ OnlyS S w w' := by
  subst hv
  exact markArray_k h 1 (by omega)

theorem heldArr_v {cs : List Value} {x : Arr} {w : World} (h : arrK.rd w cs (aMk x 1)) (hk : aCnt x ≤ 3000000) (v : Int) (hv : ((1 + aCnt x : Nat) : Int) = v) :
    Calls Try.prog 31 #[.agg cs.toArray, .int .i64 1] w (Gives (.int .i64 v) w) := by
  subst hv
  exact heldArray_k 1 h (by omega)

set_option maxHeartbeats 1000000 in
theorem markCell_w {cs : List Value} {S : List Nat} {x : List Int × Bool} {w : World} (h : cellK.own w S cs x) (k0 : Nat) (hk : k0 + x.1.length ≤ 1000000000) (z v : Int) (hz : (k0 : Int) = z) (hv : ((k0 + x.1.length : Nat) : Int) = v) :
    Calls Try.prog 38 #[.agg cs.toArray, .int .i64 z] w fun e w' => e = .returned (.int .i64 v) ∧ cellK.own w' S cs (marksI k0 x.1.length, x.2) ∧ OnlyS S w w' := by
  obtain ⟨a, n, c, rfl, h0⟩ := cell_own h
  subst hv hz
  obtain ⟨s, p⟩ := x
  obtain ⟨w1, hw1⟩ : ∃ u, w.alloc (.cells #[.slice a n c, .bool p] 42) = u := ⟨_, rfl⟩
  have hb1 : Below w.heap.size w w1 := by subst hw1; exact (Below.refl _ _).alloc (Nat.le_refl _) _
  have g1 : w1.heap[w.heap.size]? = some (.cells #[.slice a n c, .bool p] 42) := by subst hw1; exact heap_alloc_new _ _
  have H1 := Lib.hid (intsK.ownBelow h0 hb1)
  have HB1 := Lib.hid hb1
  have HK : Hid (k0 + s.length ≤ 1000000000) := hk
  obtain ⟨c0, c1⟩ := cells2 g1
  clear h h0 hk hb1
  go_enter Try.func38, Try.ntmps38
  go_wp2_with fail
  refine (markIntS_k H1.out k0 HK.out).mono ?_
  rintro e w2 ⟨rfl, own2, ho2⟩
  have HO := Lib.hid own2
  have HF := Lib.hid ((Below.onlyS HB1.out).trans ho2)
  clear c0 c1 own2 ho2 hw1 g1
  go_wp2_with fail
  go_ret
  exact ⟨rfl, cell_of p HO.out, HF.out⟩

theorem markCell_v {cs : List Value} {S : List Nat} {x : List Int × Bool} {w : World} (h : cellK.own w S cs x) (hk : x.1.length ≤ 4000000) (v : Int) (hv : ((1 + x.1.length : Nat) : Int) = v) :
    Calls Try.prog 38 #[.agg cs.toArray, .int .i64 1] w fun e w' => e = .returned (.int .i64 v) ∧ cellK.own w' S cs (marksI 1 x.1.length, x.2) ∧ OnlyS S w w' :=
  markCell_w h 1 (by omega) 1 v rfl hv

set_option maxHeartbeats 1000000 in
theorem heldCell_v {cs : List Value} {m : Nat} {p : Bool} {w : World} (h : cellK.rd w cs (marksI 1 m, p)) (hk : m ≤ 4000000) (v : Int) (hv : ((1 + m : Nat) : Int) = v) :
    Calls Try.prog 39 #[.agg cs.toArray, .int .i64 1] w (Gives (.int .i64 v) w) := by
  obtain ⟨a, n, c, rfl, h0⟩ := cell_rd h
  obtain ⟨w1, hw1⟩ : ∃ u, w.alloc (.cells #[.slice a n c, .bool p] 42) = u := ⟨_, rfl⟩
  have hb1 : Below w.heap.size w w1 := by subst hw1; exact (Below.refl _ _).alloc (Nat.le_refl _) _
  have g1 : w1.heap[w.heap.size]? = some (.cells #[.slice a n c, .bool p] 42) := by subst hw1; exact heap_alloc_new _ _
  have H1 := Lib.hid (intsK.below h0 hb1)
  have HB1 := Lib.hid hb1
  have HK : Hid (1 + m ≤ 1000000000) := by show _ ≤ _; omega
  have HV := Lib.hid hv
  have tv : decide (v < 0) = false := decide_eq_false (by rw [← hv]; omega)
  obtain ⟨c0, c1⟩ := cells2 g1
  clear h h0 hk hb1 hv
  go_enter Try.func39, Try.ntmps39
  go_wp2_with fail
  refine (heldIntS_k 1 H1.out HK.out).mono ?_
  rintro e w2 ⟨rfl, hb2⟩
  have HB2 : Hid (Below w.heap.size w w2) := HB1.out.trans (hb2.mono HB1.out.size)
  rw [HV.out]
  clear c0 c1 hb2 hw1 g1
  go_wp2_with fail
  go_ret
  exact ⟨rfl, HB2.out⟩

theorem toCell_cs {cs : List Value} {x : List Int × Bool} {w : World} (h : cellK.rd w cs x) (hl : x.1.length ≤ 4000000) : Calls Try.prog 42 #[.agg cs.toArray] w (GivesS cellK x w) := by
  obtain ⟨a, n, c, rfl, h0⟩ := cell_rd h
  exact toCell_k h0 hl

/-- An array that is not too large to be taken. -/
theorem arr_size {x : Arr} (h : ¬ szF 1048576 (arrN x) < 0) : ArrFit x ∧ aCnt x ≤ 2097152 := by
  have h1 := (szF_ge h).2
  have h2 : arrN x ≤ 1048576 := by omega
  unfold arrN at h2
  refine ⟨⟨by omega, fun c hc => ?_, by omega, by omega⟩, ?_⟩
  · have h3 := cntL_mem symN hc
    have h4 : symN c = c.1.length := rfl
    omega
  · unfold aCnt
    rw [cntL_cCnt]
    omega

end Go.Proofs.Ytfpfgaifhmgpiaa

namespace Go.Proofs.Ytfpfgaifhmgpiaa
open Go.RowKit Go.PlainAid

set_option linter.unusedVariables false

set_option maxHeartbeats 16000000 in
set_option maxRecDepth 100000 in
theorem exTimePasses_of (IMPL : Hid ITimePasses) (ea eb ec ed : Int) (lx : List Value) (tn : Int) (w : World) (s : Sh.Fits w (.and (.row (.and (.row (.num .i64)) (.and .flag .fin))) (.and (.row (.num .i64)) (.and (.row (.num .i64)) .fin))) lx) :
    Calls Try.prog 6 #[.agg #[.int .i64 ea, .int .i64 eb, .int .i64 ec, .int .i64 ed], .agg lx.toArray, .int .i64 tn] w fun e w' => e = .returned (.bool true) ∧ Below w.heap.size w w' := by
  obtain ⟨xx, hx⟩ := arr_in s
  obtain ⟨a0, n0, c0, a1, n1, c1, a2, n2, c2, rfl, _, _, _⟩ := arr_rd hx
  have HX0 := Lib.hid hx
  obtain ⟨sv, hsv⟩ : ∃ v, szF 1048576 (arrN xx) = v := ⟨_, rfl⟩
  have HSV := Lib.hid hsv
  obtain ⟨yy, hy⟩ : ∃ z, timesF ea eb ec ed tn xx = z := ⟨_, rfl⟩
  have HY := Lib.hid hy
  have SPEC : Hid (∀ (u : World) (cs : List Value), arrK.rd u cs xx → ArrFit xx → Calls Try.prog 28 #[.agg #[.int .i64 ea, .int .i64 eb, .int .i64 ec, .int .i64 ed], .agg cs.toArray, .int .i64 tn] u (GivesS arrK yy u)) := fun u cs h hf => by rw [← HY.out]; exact specTimePasses_is ea eb ec ed tn h hf
  have IM : Hid (∀ (u : World) (cs : List Value), arrK.rd u cs xx → ArrFit xx → Calls Try.prog 29 #[.agg #[.int .i64 ea, .int .i64 eb, .int .i64 ec, .int .i64 ed], .agg cs.toArray, .int .i64 tn] u (GivesS arrK yy u)) := fun u cs h hf => by rw [← HY.out]; exact IMPL.out ea eb ec ed tn cs xx u h hf
  have HCY : Hid (aCnt xx ≤ 2097152 → aCnt yy ≤ 3000000) := fun h => by rw [← HY.out]; rw [times_cnt]; omega
  clear hy
  obtain ⟨w1, hw1⟩ : ∃ u, ((w.alloc (.cells #[.int .i64 ea, .int .i64 eb, .int .i64 ec, .int .i64 ed] 48)).alloc (.cells #[.slice a0 n0 c0, .slice a1 n1 c1, .slice a2 n2 c2] 51)) = u := ⟨_, rfl⟩
  have HB1 : Hid (Below w.heap.size w w1) := by subst hw1; exact ((Below.refl _ _).alloc (Nat.le_refl _) _).alloc (by simp) _
  have gg1 : w1.heap[w.heap.size]? = some (.cells #[.int .i64 ea, .int .i64 eb, .int .i64 ec, .int .i64 ed] 48) := by subst hw1; exact heap_alloc2_old _ _ _
  have mm1 : w1.heap[w.heap.size + 1]? = some (.cells #[.slice a0 n0 c0, .slice a1 n1 c1, .slice a2 n2 c2] 51) := by subst hw1; exact heap_alloc2_new _ _ _
  clear hx hsv
  go_enter Try.func6, Try.ntmps6
  obtain ⟨kmm0, kmm1, kmm2⟩ := cells3 mm1
  go_wp2_with fail
  refine (szArray_k (arrK.below HX0.out HB1.out) 1048576 sv (by decide) (by decide) HSV.out).mono ?_
  rintro e w2 ⟨rfl, hb2⟩
  clear kmm0 kmm1 kmm2
  have gg2 := keep_block hb2 gg1 (lt_of_block gg1)
  have mm2 := keep_block hb2 mm1 (lt_of_block mm1)
  have HB2 : Hid (Below w.heap.size w w2) := HB1.out.trans (hb2.mono HB1.out.size)
  clear gg1 mm1 HB1
  clear hb2
  clear hw1
  by_cases hs : sv < 0
  · have ts : decide (sv < 0) = true := decide_eq_true hs
    go_wp2_with fail
    go_ret
    exact ⟨rfl, HB2.out⟩
  have ts : decide (sv < 0) = false := decide_eq_false hs
  have hfit := arr_size (x := xx) (by rw [HSV.out]; exact hs)
  have HFIT := Lib.hid hfit.1
  have HCNT := Lib.hid hfit.2
  clear hs hfit
  have HC := HCY.out HCNT.out
  have HCYN := Lib.hid HC
  have t1x : decide (((1 + aCnt xx : Nat) : Int) < 0) = false := decide_eq_false (by omega)
  have t1y : decide (((1 + aCnt yy : Nat) : Int) < 0) = false := decide_eq_false (by omega)
  have tyy : (((1 + aCnt yy : Nat) : Int) != ((1 + aCnt yy : Nat) : Int)) = false := by simp
  obtain ⟨ky, hky⟩ : ∃ z : Int, ((1 + aCnt yy : Nat) : Int) = z := ⟨_, rfl⟩
  obtain ⟨kx, hkx⟩ : ∃ z : Int, ((1 + aCnt xx : Nat) : Int) = z := ⟨_, rfl⟩
  rw [hky] at t1y tyy
  rw [hkx] at t1x
  have HKY := Lib.hid hky
  have HKX := Lib.hid hkx
  clear HC hky hkx
  go_wp2_with fail
  refine wp_region_flowV (fun k => match k with | 0 => some (.agg #[.int .i64 ea, .int .i64 eb, .int .i64 ec, .int .i64 ed]) | 1 => some (.agg #[.int .i64 ea, .int .i64 eb, .int .i64 ec, .int .i64 ed]) | 2 => some (.agg #[.slice a0 n0 c0, .slice a1 n1 c1, .slice a2 n2 c2]) | 4 => some (.int .i64 tn) | _ => none) (fun listed x u => FactW 3 5 (HasK arrK xx w2.heap.size) listed x u ∧ FactW 5 7 (HasK arrK yy w2.heap.size) listed x u ∧ MadeK arrK 31 #[.slice none 0 0, .slice none 0 0, .slice none 0 0] 6 7 w2.heap.size yy listed x u) (fun _ => undef) (by kernel_rfl) (by kernel_rfl) ?hxR1 ?hSR1 ?hsR1 ?heR1
  case hxR1 => simp only [putsX, Act.put, List.setIfInBounds_toArray, List.set_cons_zero, List.set_cons_succ]
  case hSR1 => exact ⟨FactW.zero _ _ _ _ _ _, FactW.zero _ _ _ _ _ _, MadeK.zero _ _ _ _ _ _ _ _ _ _⟩
  case hsR1 =>
    simp only [flowSteps]
    refine ⟨?sR1_0, ?sR1_1, ?sR1_2, ?sR1_3, ?sR1_4, ?sR1_5, ?sR1_6, ?sR1_7, trivial⟩
    case sR1_0 =>
      intro listed bb u hsz hn hwt hinv
      obtain ⟨x, rfl, hC, hU, hA0, hO, hM⟩ := hinv
      simp only [putsX, Act.put, List.setIfInBounds_toArray, List.set_cons_zero, List.set_cons_succ]
      obtain ⟨d0, d1, d2, d3⟩ := cells4 (keep_block hC gg2 (lt_of_block gg2))
      go_wp2_with fail
      refine stepQ_normal ⟨trivial, upd x 0 (.agg #[.int .i64 ea, .int .i64 eb, .int .i64 ec, .int .i64 ed]), ?_, hC, hU.step (fun _ h => Option.some.inj h), hA0.keep (by decide) (by decide) _ id, hO.keep (by decide) (by decide) _ id, hM.keep (by decide) (by decide) _ (Below.refl _ _)⟩
      simp only [upd]
      rfl
    case sR1_1 =>
      intro listed bb u hsz hn hwt hinv
      obtain ⟨x, rfl, hC, hU, hA0, hO, hM⟩ := hinv
      have f0 := Lib.hid (hU 0 _ rfl (hwt 0 (by kernel_rfl)))
      simp only [putsX, Act.put, List.setIfInBounds_toArray, List.set_cons_zero, List.set_cons_succ]
      have hcall : Calls Try.prog 24 #[x 0] u (Gives (.agg #[.int .i64 ea, .int .i64 eb, .int .i64 ec, .int .i64 ed]) u) := by rw [f0.out]; exact toGeometry_any _ _ _ _ _
      go_wp2_with fail
      refine hcall.mono ?_
      rintro e' u' ⟨rfl, hb⟩
      go_wp2_with fail
      refine stepQ_normal ⟨trivial, upd x 1 (.agg #[.int .i64 ea, .int .i64 eb, .int .i64 ec, .int .i64 ed]), ?_, hC.trans (hb.mono hC.size), hU.step (fun _ h => Option.some.inj h), hA0.keep (by decide) (by decide) _ (fun h => HasK.below h (hb)), hO.keep (by decide) (by decide) _ (fun h => HasK.below h (hb)), hM.keep (by decide) (by decide) _ (hb)⟩
      simp only [upd]
      rfl
    case sR1_2 =>
      intro listed bb u hsz hn hwt hinv
      obtain ⟨x, rfl, hC, hU, hA0, hO, hM⟩ := hinv
      simp only [putsX, Act.put, List.setIfInBounds_toArray, List.set_cons_zero, List.set_cons_succ]
      obtain ⟨d0, d1, d2⟩ := cells3 (keep_block hC mm2 (lt_of_block mm2))
      go_wp2_with fail
      refine stepQ_normal ⟨trivial, upd x 2 (.agg #[.slice a0 n0 c0, .slice a1 n1 c1, .slice a2 n2 c2]), ?_, hC, hU.step (fun _ h => Option.some.inj h), hA0.keep (by decide) (by decide) _ id, hO.keep (by decide) (by decide) _ id, hM.keep (by decide) (by decide) _ (Below.refl _ _)⟩
      simp only [upd]
      rfl
    case sR1_3 =>
      intro listed bb u hsz hn hwt hinv
      obtain ⟨x, rfl, hC, hU, hA0, hO, hM⟩ := hinv
      have f2 := Lib.hid (hU 2 _ rfl (hwt 2 (by kernel_rfl)))
      simp only [putsX, Act.put, List.setIfInBounds_toArray, List.set_cons_zero, List.set_cons_succ]
      have hbu := HB2.out.trans (hC.mono HB2.out.size)
      have hcall : Calls Try.prog 25 #[x 2] u (GivesS arrK xx u) := by rw [f2.out]; exact toArray_k (arrK.below HX0.out hbu) HFIT.out.1 HFIT.out.2.1 HFIT.out.2.2.1 HFIT.out.2.2.2
      go_wp2_with fail
      refine hcall.mono ?_
      rintro e' u' ⟨cs, SS, rfl, own, hss, hb⟩
      go_wp2_with fail
      refine stepQ_normal ⟨trivial, upd x 3 (.agg cs.toArray), ?_, hC.trans (hb.mono hC.size), hU.step (fun _ h => by cases h), FactW.new ⟨cs, SS, rfl, own, fun b h => Nat.le_trans hC.size (hss b h)⟩, hO.keep (by decide) (by decide) _ (fun h => HasK.below h (hb)), hM.keep (by decide) (by decide) _ (hb)⟩
      simp only [upd]
      rfl
    case sR1_4 =>
      intro listed bb u hsz hn hwt hinv
      obtain ⟨x, rfl, hC, hU, hA0, hO, hM⟩ := hinv
      simp only [putsX, Act.put, List.setIfInBounds_toArray, List.set_cons_zero, List.set_cons_succ]
      go_wp2_with fail
      refine stepQ_normal ⟨trivial, upd x 4 (.int .i64 tn), ?_, hC, hU.step (fun _ h => Option.some.inj h), hA0.keep (by decide) (by decide) _ id, hO.keep (by decide) (by decide) _ id, hM.keep (by decide) (by decide) _ (Below.refl _ _)⟩
      simp only [upd]
      rfl
    case sR1_5 =>
      intro listed bb u hsz hn hwt hinv
      obtain ⟨x, rfl, hC, hU, hA0, hO, hM⟩ := hinv
      have f1 := Lib.hid (hU 1 _ rfl (hwt 1 (by kernel_rfl)))
      have f4 := Lib.hid (hU 4 _ rfl (hwt 4 (by kernel_rfl)))
      simp only [putsX, Act.put, List.setIfInBounds_toArray, List.set_cons_zero, List.set_cons_succ]
      obtain ⟨cs0, S0, fp0, ow0, _⟩ := hA0 (hwt 3 (by kernel_rfl)) hn
      have hcall : Calls Try.prog 28 #[x 1, x 3, x 4] u (GivesS arrK yy u) := by rw [f1.out, fp0, f4.out]; exact SPEC.out u _ (arrK.read ow0) HFIT.out
      clear fp0
      go_wp2_with fail
      refine hcall.mono ?_
      rintro e' u' ⟨cs, SS, rfl, own, hss, hb⟩
      go_wp2_with fail
      refine stepQ_normal ⟨trivial, upd x 5 (.agg cs.toArray), ?_, hC.trans (hb.mono hC.size), hU.step (fun _ h => by cases h), FactW.call (by rw [hsz]; decide), FactW.new ⟨cs, SS, rfl, own, fun b h => Nat.le_trans hC.size (hss b h)⟩, hM.keep (by decide) (by decide) _ (hb)⟩
      simp only [upd]
      rfl
    case sR1_6 =>
      intro listed bb u hsz hn hwt hinv
      obtain ⟨x, rfl, hC, hU, hA0, hO, hM⟩ := hinv
      simp only [putsX, Act.put, List.setIfInBounds_toArray, List.set_cons_zero, List.set_cons_succ]
      go_wp2_with fail
      refine stepQ_normal ⟨trivial, upd x 6 (.pointer (some ⟨u.heap.size, 0, none⟩)), ?_, hC.alloc hC.size _, hU.step (fun _ h => by cases h), hA0.keep (by decide) (by decide) _ (fun h => HasK.below h (below_allocK _ _)), hO.keep (by decide) (by decide) _ (fun h => HasK.below h (below_allocK _ _)), hM.new (by decide) hn hC.size⟩
      simp only [upd]
      rfl
    case sR1_7 =>
      intro listed bb u hsz hn hwt hinv
      obtain ⟨x, rfl, hC, hU, hA0, hO, hM⟩ := hinv
      simp only [putsX, Act.put, List.setIfInBounds_toArray, List.set_cons_zero, List.set_cons_succ]
      obtain ⟨g, fg, hg, hh⟩ := hM.there (hwt 6 (by kernel_rfl)) hn
      obtain ⟨cs, SS, fp, own, hss⟩ := hO (hwt 5 (by kernel_rfl)) hn
      obtain ⟨a0, n0, c0, a1, n1, c1, a2, n2, c2, rfl, _, _, _⟩ := arr_rd (arrK.read own)
      have FG := Lib.hid fg
      have FP := Lib.hid fp
      rw [FG.out, FP.out]
      obtain ⟨y0, y1, y2⟩ := cells3 hh
      have t0 := thawed hh 0
      have t1 := thawed hh 1
      have t2 := thawed hh 2
      have hng : g ∉ SS := arrTy.notin own hh (by decide)
      have own0 := own
      have hfin := set_cells (set_cells (set_cells (hh) 0 (.slice a0 n0 c0)) 1 (.slice a1 n1 c1)) 2 (.slice a2 n2 c2)
      have OW := Lib.hid (Kn.ownSet arrK (Kn.ownSet arrK (Kn.ownSet arrK own0 (p := ⟨g, 0, none⟩) (fun b h e => hng ((show b = g from e) ▸ h)) (.slice a0 n0 c0)) (p := ⟨g, 1, none⟩) (fun b h e => hng ((show b = g from e) ▸ h)) (.slice a1 n1 c1)) (p := ⟨g, 2, none⟩) (fun b h e => hng ((show b = g from e) ▸ h)) (.slice a2 n2 c2))
      have HSS := Lib.hid hss
      have HNG := Lib.hid hng
      clear hh fg fp own own0 hss hng
      go_wp2_with fail
      refine stepQ_normal ⟨trivial, upd x 7 undef, ?_, (((hC).setCell (by exact hg) _).setCell (by exact hg) _).setCell (by exact hg) _, hU.step (fun _ h => by cases h), FactW.gone (hwt 5 (by kernel_rfl)), FactW.call (by rw [hsz]; decide), MadeK.fill (by decide) (hwt 6 (by kernel_rfl)) (by rw [hsz]; decide) FG.out hg hfin OW.out HNG.out HSS.out⟩
      simp only [upd]
      simp only [FG.out, FP.out]
      (try rfl)
  case heR1 =>
    intro listed q w3 hall hC hU hS
    obtain ⟨hA0, hO, hM⟩ := hS
    obtain ⟨PV, cs, SV, fg, hgP, hh, own, hng, hss⟩ := hM.full (hall 6 (by decide)) (hall 7 (by decide))
    obtain ⟨Va0, Vn0, Vc0, Va1, Vn1, Vc1, Va2, Vn2, Vc2, rfl, _, _, _⟩ := arr_rd (arrK.read own)
    simp only [putsX, Act.put, List.setIfInBounds_toArray, List.set_cons_zero, List.set_cons_succ]
    rw [fg]
    clear hall hU fg hA0 hO hM
    generalize q 0 = _q0, q 1 = _q1, q 2 = _q2, q 3 = _q3, q 4 = _q4, q 5 = _q5
    have gg3 := keep_block hC gg2 (lt_of_block gg2)
    have mm3 := keep_block hC mm2 (lt_of_block mm2)
    have HB3 : Hid (Below w.heap.size w w3) := HB2.out.trans (hC.mono HB2.out.size)
    have BV : Hid (∀ b ∈ SV, w2.heap.size ≤ b) := hss
    have V3 : Hid (arrK.own w3 SV [.slice Va0 Vn0 Vc0, .slice Va1 Vn1 Vc1, .slice Va2 Vn2 Vc2] yy) := own
    have qV3 := hh
    have NVgg : Hid (w.heap.size ∉ SV) := fun h => by have h1 := lt_of_block gg2; have h2 := BV.out _ h; omega
    have NVmm : Hid ((w.heap.size + 1) ∉ SV) := fun h => by have h1 := lt_of_block mm2; have h2 := BV.out _ h; omega
    have NVqV : Hid (PV ∉ SV) := hng
    clear own hss hh hC hng hgP
    clear gg2 mm2 HB2
    have SZX : Hid (w.heap.size ≤ w3.heap.size) := HB3.out.size
    obtain ⟨kmm0, kmm1, kmm2⟩ := cells3 mm3
    go_wp2_with fail
    refine (toArray_k (arrK.below HX0.out HB3.out) HFIT.out.1 HFIT.out.2.1 HFIT.out.2.2.1 HFIT.out.2.2.2).mono ?_
    rintro e w4 ⟨cs, SX, rfl, own4, hs4, hb4⟩
    clear kmm0 kmm1 kmm2
    have gg4 := keep_block hb4 gg3 (lt_of_block gg3)
    have mm4 := keep_block hb4 mm3 (lt_of_block mm3)
    have qV4 := keep_block hb4 qV3 (lt_of_block qV3)
    have V4 : Hid (arrK.own w4 SV [.slice Va0 Vn0 Vc0, .slice Va1 Vn1 Vc1, .slice Va2 Vn2 Vc2] yy) := arrK.ownBelow V3.out hb4
    have HB4 : Hid (Below w.heap.size w w4) := HB3.out.trans (hb4.mono HB3.out.size)
    have BX : Hid (∀ b ∈ SX, w3.heap.size ≤ b) := hs4
    clear hs4
    obtain ⟨Xa0, Xn0, Xc0, Xa1, Xn1, Xc1, Xa2, Xn2, Xc2, rfl, _, _, _⟩ := arr_rd (arrK.read own4)
    have X4 : Hid (arrK.own w4 SX [.slice Xa0 Xn0 Xc0, .slice Xa1 Xn1 Xc1, .slice Xa2 Xn2 Xc2] xx) := own4
    have DVX : Hid (∀ b ∈ SV, b ∉ SX) := fun b h1 h2 => by have h3 := arrK.lt V3.out b h1; have h4 := BX.out b h2; omega
    have NXgg : Hid (w.heap.size ∉ SX) := fun h => by have h1 := lt_of_block gg3; have h2 := BX.out _ h; omega
    have NXmm : Hid ((w.heap.size + 1) ∉ SX) := fun h => by have h1 := lt_of_block mm3; have h2 := BX.out _ h; omega
    have NXqV : Hid (PV ∉ SX) := fun h => by have h1 := lt_of_block qV3; have h2 := BX.out _ h; omega
    clear own4 hb4
    clear gg3 mm3 qV3 V3 HB3
    obtain ⟨PX, hPX⟩ : ∃ P, w4.heap.size = P := ⟨_, rfl⟩
    have NVqX : Hid (PX ∉ SV) := fun h => by have h1 := arrK.lt V4.out _ h; omega
    have NXqX : Hid (PX ∉ SX) := fun h => by have h1 := arrK.lt X4.out _ h; omega
    have HPX := Lib.hid hPX
    clear hPX
    have hb5 : Below w4.heap.size w4 (w4.alloc (.cells #[.slice Xa0 Xn0 Xc0, .slice Xa1 Xn1 Xc1, .slice Xa2 Xn2 Xc2] 31)) := (Below.refl _ _).alloc (Nat.le_refl _) _
    have gg5 := keep_block hb5 gg4 (lt_of_block gg4)
    have mm5 := keep_block hb5 mm4 (lt_of_block mm4)
    have qV5 := keep_block hb5 qV4 (lt_of_block qV4)
    have V5 : Hid (arrK.own (w4.alloc (.cells #[.slice Xa0 Xn0 Xc0, .slice Xa1 Xn1 Xc1, .slice Xa2 Xn2 Xc2] 31)) SV [.slice Va0 Vn0 Vc0, .slice Va1 Vn1 Vc1, .slice Va2 Vn2 Vc2] yy) := arrK.ownBelow V4.out hb5
    have X5 : Hid (arrK.own (w4.alloc (.cells #[.slice Xa0 Xn0 Xc0, .slice Xa1 Xn1 Xc1, .slice Xa2 Xn2 Xc2] 31)) SX [.slice Xa0 Xn0 Xc0, .slice Xa1 Xn1 Xc1, .slice Xa2 Xn2 Xc2] xx) := arrK.ownBelow X4.out hb5
    have qX5 := heap_alloc_new w4 (.cells #[.slice Xa0 Xn0 Xc0, .slice Xa1 Xn1 Xc1, .slice Xa2 Xn2 Xc2] 31)
    have HB5 : Hid (Below w.heap.size w (w4.alloc (.cells #[.slice Xa0 Xn0 Xc0, .slice Xa1 Xn1 Xc1, .slice Xa2 Xn2 Xc2] 31))) := HB4.out.trans (hb5.mono HB4.out.size)
    go_wp2_with fail
    clear hb5
    clear gg4 mm4 qV4 V4 X4 HB4
    generalize (w4.alloc (.cells #[.slice Xa0 Xn0 Xc0, .slice Xa1 Xn1 Xc1, .slice Xa2 Xn2 Xc2] 31)) = w5 at gg5 mm5 qV5 V5 X5 qX5 HB5 ⊢
    rw [HPX.out] at qX5
    (try simp only [HPX.out])
    clear HPX
    have SZG : Hid (w.heap.size ≤ w5.heap.size) := HB5.out.size
    go_wp2_with fail
    refine wp_region_flowV (fun k => match k with | 0 => some (.agg #[.int .i64 ea, .int .i64 eb, .int .i64 ec, .int .i64 ed]) | 1 => some (.agg #[.int .i64 ea, .int .i64 eb, .int .i64 ec, .int .i64 ed]) | 2 => some (.agg #[.slice Xa0 Xn0 Xc0, .slice Xa1 Xn1 Xc1, .slice Xa2 Xn2 Xc2]) | 3 => some (.int .i64 tn) | _ => none) (fun listed x u => FactW 4 6 (HasK arrK yy w5.heap.size) listed x u ∧ MadeK arrK 31 #[.slice none 0 0, .slice none 0 0, .slice none 0 0] 5 6 w5.heap.size yy listed x u) (fun _ => undef) (by kernel_rfl) (by kernel_rfl) ?hxR2 ?hSR2 ?hsR2 ?heR2
    case hxR2 => simp only [putsX, Act.put, List.setIfInBounds_toArray, List.set_cons_zero, List.set_cons_succ]
    case hSR2 => exact ⟨FactW.zero _ _ _ _ _ _, MadeK.zero _ _ _ _ _ _ _ _ _ _⟩
    case hsR2 =>
      simp only [flowSteps]
      refine ⟨?sR2_0, ?sR2_1, ?sR2_2, ?sR2_3, ?sR2_4, ?sR2_5, ?sR2_6, trivial⟩
      case sR2_0 =>
        intro listed bb u hsz hn hwt hinv
        obtain ⟨x, rfl, hC, hU, hO, hM⟩ := hinv
        simp only [putsX, Act.put, List.setIfInBounds_toArray, List.set_cons_zero, List.set_cons_succ]
        obtain ⟨d0, d1, d2, d3⟩ := cells4 (keep_block hC gg5 (lt_of_block gg5))
        go_wp2_with fail
        refine stepQ_normal ⟨trivial, upd x 0 (.agg #[.int .i64 ea, .int .i64 eb, .int .i64 ec, .int .i64 ed]), ?_, hC, hU.step (fun _ h => Option.some.inj h), hO.keep (by decide) (by decide) _ id, hM.keep (by decide) (by decide) _ (Below.refl _ _)⟩
        simp only [upd]
        rfl
      case sR2_1 =>
        intro listed bb u hsz hn hwt hinv
        obtain ⟨x, rfl, hC, hU, hO, hM⟩ := hinv
        have f0 := Lib.hid (hU 0 _ rfl (hwt 0 (by kernel_rfl)))
        simp only [putsX, Act.put, List.setIfInBounds_toArray, List.set_cons_zero, List.set_cons_succ]
        have hcall : Calls Try.prog 24 #[x 0] u (Gives (.agg #[.int .i64 ea, .int .i64 eb, .int .i64 ec, .int .i64 ed]) u) := by rw [f0.out]; exact toGeometry_any _ _ _ _ _
        go_wp2_with fail
        refine hcall.mono ?_
        rintro e' u' ⟨rfl, hb⟩
        go_wp2_with fail
        refine stepQ_normal ⟨trivial, upd x 1 (.agg #[.int .i64 ea, .int .i64 eb, .int .i64 ec, .int .i64 ed]), ?_, hC.trans (hb.mono hC.size), hU.step (fun _ h => Option.some.inj h), hO.keep (by decide) (by decide) _ (fun h => HasK.below h (hb)), hM.keep (by decide) (by decide) _ (hb)⟩
        simp only [upd]
        rfl
      case sR2_2 =>
        intro listed bb u hsz hn hwt hinv
        obtain ⟨x, rfl, hC, hU, hO, hM⟩ := hinv
        simp only [putsX, Act.put, List.setIfInBounds_toArray, List.set_cons_zero, List.set_cons_succ]
        obtain ⟨d0, d1, d2⟩ := cells3 (keep_block hC qX5 (lt_of_block qX5))
        go_wp2_with fail
        refine stepQ_normal ⟨trivial, upd x 2 (.agg #[.slice Xa0 Xn0 Xc0, .slice Xa1 Xn1 Xc1, .slice Xa2 Xn2 Xc2]), ?_, hC, hU.step (fun _ h => Option.some.inj h), hO.keep (by decide) (by decide) _ id, hM.keep (by decide) (by decide) _ (Below.refl _ _)⟩
        simp only [upd]
        rfl
      case sR2_3 =>
        intro listed bb u hsz hn hwt hinv
        obtain ⟨x, rfl, hC, hU, hO, hM⟩ := hinv
        simp only [putsX, Act.put, List.setIfInBounds_toArray, List.set_cons_zero, List.set_cons_succ]
        go_wp2_with fail
        refine stepQ_normal ⟨trivial, upd x 3 (.int .i64 tn), ?_, hC, hU.step (fun _ h => Option.some.inj h), hO.keep (by decide) (by decide) _ id, hM.keep (by decide) (by decide) _ (Below.refl _ _)⟩
        simp only [upd]
        rfl
      case sR2_4 =>
        intro listed bb u hsz hn hwt hinv
        obtain ⟨x, rfl, hC, hU, hO, hM⟩ := hinv
        have f1 := Lib.hid (hU 1 _ rfl (hwt 1 (by kernel_rfl)))
        have f2 := Lib.hid (hU 2 _ rfl (hwt 2 (by kernel_rfl)))
        have f3 := Lib.hid (hU 3 _ rfl (hwt 3 (by kernel_rfl)))
        simp only [putsX, Act.put, List.setIfInBounds_toArray, List.set_cons_zero, List.set_cons_succ]
        have hcall : Calls Try.prog 29 #[x 1, x 2, x 3] u (GivesS arrK yy u) := by rw [f1.out, f2.out, f3.out]; exact IM.out u _ (arrK.read (arrK.ownBelow X5.out hC)) HFIT.out
        go_wp2_with fail
        refine hcall.mono ?_
        rintro e' u' ⟨cs, SS, rfl, own, hss, hb⟩
        go_wp2_with fail
        refine stepQ_normal ⟨trivial, upd x 4 (.agg cs.toArray), ?_, hC.trans (hb.mono hC.size), hU.step (fun _ h => by cases h), FactW.new ⟨cs, SS, rfl, own, fun b h => Nat.le_trans hC.size (hss b h)⟩, hM.keep (by decide) (by decide) _ (hb)⟩
        simp only [upd]
        rfl
      case sR2_5 =>
        intro listed bb u hsz hn hwt hinv
        obtain ⟨x, rfl, hC, hU, hO, hM⟩ := hinv
        simp only [putsX, Act.put, List.setIfInBounds_toArray, List.set_cons_zero, List.set_cons_succ]
        go_wp2_with fail
        refine stepQ_normal ⟨trivial, upd x 5 (.pointer (some ⟨u.heap.size, 0, none⟩)), ?_, hC.alloc hC.size _, hU.step (fun _ h => by cases h), hO.keep (by decide) (by decide) _ (fun h => HasK.below h (below_allocK _ _)), hM.new (by decide) hn hC.size⟩
        simp only [upd]
        rfl
      case sR2_6 =>
        intro listed bb u hsz hn hwt hinv
        obtain ⟨x, rfl, hC, hU, hO, hM⟩ := hinv
        simp only [putsX, Act.put, List.setIfInBounds_toArray, List.set_cons_zero, List.set_cons_succ]
        obtain ⟨g, fg, hg, hh⟩ := hM.there (hwt 5 (by kernel_rfl)) hn
        obtain ⟨cs, SS, fp, own, hss⟩ := hO (hwt 4 (by kernel_rfl)) hn
        obtain ⟨a0, n0, c0, a1, n1, c1, a2, n2, c2, rfl, _, _, _⟩ := arr_rd (arrK.read own)
        have FG := Lib.hid fg
        have FP := Lib.hid fp
        rw [FG.out, FP.out]
        obtain ⟨y0, y1, y2⟩ := cells3 hh
        have t0 := thawed hh 0
        have t1 := thawed hh 1
        have t2 := thawed hh 2
        have hng : g ∉ SS := arrTy.notin own hh (by decide)
        have own0 := own
        have hfin := set_cells (set_cells (set_cells (hh) 0 (.slice a0 n0 c0)) 1 (.slice a1 n1 c1)) 2 (.slice a2 n2 c2)
        have OW := Lib.hid (Kn.ownSet arrK (Kn.ownSet arrK (Kn.ownSet arrK own0 (p := ⟨g, 0, none⟩) (fun b h e => hng ((show b = g from e) ▸ h)) (.slice a0 n0 c0)) (p := ⟨g, 1, none⟩) (fun b h e => hng ((show b = g from e) ▸ h)) (.slice a1 n1 c1)) (p := ⟨g, 2, none⟩) (fun b h e => hng ((show b = g from e) ▸ h)) (.slice a2 n2 c2))
        have HSS := Lib.hid hss
        have HNG := Lib.hid hng
        clear hh fg fp own own0 hss hng
        go_wp2_with fail
        refine stepQ_normal ⟨trivial, upd x 6 undef, ?_, (((hC).setCell (by exact hg) _).setCell (by exact hg) _).setCell (by exact hg) _, hU.step (fun _ h => by cases h), FactW.call (by rw [hsz]; decide), MadeK.fill (by decide) (hwt 5 (by kernel_rfl)) (by rw [hsz]; decide) FG.out hg hfin OW.out HNG.out HSS.out⟩
        simp only [upd]
        simp only [FG.out, FP.out]
        (try rfl)
    case heR2 =>
      intro listed q w6 hall hC hU hS
      obtain ⟨hO, hM⟩ := hS
      obtain ⟨PG, cs, SG, fg, hgP, hh, own, hng, hss⟩ := hM.full (hall 5 (by decide)) (hall 6 (by decide))
      obtain ⟨Ga0, Gn0, Gc0, Ga1, Gn1, Gc1, Ga2, Gn2, Gc2, rfl, _, _, _⟩ := arr_rd (arrK.read own)
      simp only [putsX, Act.put, List.setIfInBounds_toArray, List.set_cons_zero, List.set_cons_succ]
      rw [fg]
      clear hall hU fg hO hM
      generalize q 0 = _q0, q 1 = _q1, q 2 = _q2, q 3 = _q3, q 4 = _q4
      have gg6 := keep_block hC gg5 (lt_of_block gg5)
      have mm6 := keep_block hC mm5 (lt_of_block mm5)
      have qV6 := keep_block hC qV5 (lt_of_block qV5)
      have qX6 := keep_block hC qX5 (lt_of_block qX5)
      have V6 : Hid (arrK.own w6 SV [.slice Va0 Vn0 Vc0, .slice Va1 Vn1 Vc1, .slice Va2 Vn2 Vc2] yy) := arrK.ownBelow V5.out hC
      have X6 : Hid (arrK.own w6 SX [.slice Xa0 Xn0 Xc0, .slice Xa1 Xn1 Xc1, .slice Xa2 Xn2 Xc2] xx) := arrK.ownBelow X5.out hC
      have HB6 : Hid (Below w.heap.size w w6) := HB5.out.trans (hC.mono HB5.out.size)
      have BG : Hid (∀ b ∈ SG, w5.heap.size ≤ b) := hss
      have G6 : Hid (arrK.own w6 SG [.slice Ga0 Gn0 Gc0, .slice Ga1 Gn1 Gc1, .slice Ga2 Gn2 Gc2] yy) := own
      have qG6 := hh
      have NVqG : Hid (PG ∉ SV) := fun h => by have h1 := arrK.lt V5.out _ h; omega
      have NXqG : Hid (PG ∉ SX) := fun h => by have h1 := arrK.lt X5.out _ h; omega
      have DVG : Hid (∀ b ∈ SV, b ∉ SG) := fun b h1 h2 => by have h3 := arrK.lt V5.out b h1; have h4 := BG.out b h2; omega
      have DXG : Hid (∀ b ∈ SX, b ∉ SG) := fun b h1 h2 => by have h3 := arrK.lt X5.out b h1; have h4 := BG.out b h2; omega
      have NGgg : Hid (w.heap.size ∉ SG) := fun h => by have h1 := lt_of_block gg5; have h2 := BG.out _ h; omega
      have NGmm : Hid ((w.heap.size + 1) ∉ SG) := fun h => by have h1 := lt_of_block mm5; have h2 := BG.out _ h; omega
      have NGqV : Hid (PV ∉ SG) := fun h => by have h1 := lt_of_block qV5; have h2 := BG.out _ h; omega
      have NGqX : Hid (PX ∉ SG) := fun h => by have h1 := lt_of_block qX5; have h2 := BG.out _ h; omega
      have NGqG : Hid (PG ∉ SG) := hng
      clear own hss hh hC hng hgP
      clear gg5 mm5 qV5 qX5 V5 X5 HB5
      obtain ⟨kqG0, kqG1, kqG2⟩ := cells3 qG6
      obtain ⟨kqV0, kqV1, kqV2⟩ := cells3 qV6
      go_wp2_with fail
      refine (eqArr_cs (arrK.read G6.out) (arrK.read V6.out)).mono ?_
      rintro e w7 ⟨rfl, hb7⟩
      clear kqG0 kqG1 kqG2 kqV0 kqV1 kqV2
      have gg7 := keep_block hb7 gg6 (lt_of_block gg6)
      have mm7 := keep_block hb7 mm6 (lt_of_block mm6)
      have qV7 := keep_block hb7 qV6 (lt_of_block qV6)
      have qX7 := keep_block hb7 qX6 (lt_of_block qX6)
      have qG7 := keep_block hb7 qG6 (lt_of_block qG6)
      have V7 : Hid (arrK.own w7 SV [.slice Va0 Vn0 Vc0, .slice Va1 Vn1 Vc1, .slice Va2 Vn2 Vc2] yy) := arrK.ownBelow V6.out hb7
      have X7 : Hid (arrK.own w7 SX [.slice Xa0 Xn0 Xc0, .slice Xa1 Xn1 Xc1, .slice Xa2 Xn2 Xc2] xx) := arrK.ownBelow X6.out hb7
      have G7 : Hid (arrK.own w7 SG [.slice Ga0 Gn0 Gc0, .slice Ga1 Gn1 Gc1, .slice Ga2 Gn2 Gc2] yy) := arrK.ownBelow G6.out hb7
      have HB7 : Hid (Below w.heap.size w w7) := HB6.out.trans (hb7.mono HB6.out.size)
      clear gg6 mm6 qV6 qX6 qG6 V6 X6 G6 HB6
      clear hb7
      go_wp2_with fail
      refine wp_region_flowV (fun k => match k with | 0 => some (.agg #[.slice Xa0 Xn0 Xc0, .slice Xa1 Xn1 Xc1, .slice Xa2 Xn2 Xc2]) | 1 => some (.agg #[.slice a0 n0 c0, .slice a1 n1 c1, .slice a2 n2 c2]) | 3 => some (.bool true) | 4 => some (.bool false) | _ => none) (fun listed x u => FactW 2 3 (HasK arrK xx w7.heap.size) listed x u) (fun _ => undef) (by kernel_rfl) (by kernel_rfl) ?hxR3 ?hSR3 ?hsR3 ?heR3
      case hxR3 => simp only [putsX, Act.put, List.setIfInBounds_toArray, List.set_cons_zero, List.set_cons_succ]
      case hSR3 => exact FactW.zero _ _ _ _ _ _
      case hsR3 =>
        simp only [flowSteps]
        refine ⟨?sR3_0, ?sR3_1, ?sR3_2, ?sR3_3, ?sR3_4, trivial⟩
        case sR3_0 =>
          intro listed bb u hsz hn hwt hinv
          obtain ⟨x, rfl, hC, hU, hA0⟩ := hinv
          simp only [putsX, Act.put, List.setIfInBounds_toArray, List.set_cons_zero, List.set_cons_succ]
          obtain ⟨d0, d1, d2⟩ := cells3 (keep_block hC qX7 (lt_of_block qX7))
          go_wp2_with fail
          refine stepQ_normal ⟨trivial, upd x 0 (.agg #[.slice Xa0 Xn0 Xc0, .slice Xa1 Xn1 Xc1, .slice Xa2 Xn2 Xc2]), ?_, hC, hU.step (fun _ h => Option.some.inj h), hA0.keep (by decide) (by decide) _ id⟩
          simp only [upd]
          rfl
        case sR3_1 =>
          intro listed bb u hsz hn hwt hinv
          obtain ⟨x, rfl, hC, hU, hA0⟩ := hinv
          simp only [putsX, Act.put, List.setIfInBounds_toArray, List.set_cons_zero, List.set_cons_succ]
          obtain ⟨d0, d1, d2⟩ := cells3 (keep_block hC mm7 (lt_of_block mm7))
          go_wp2_with fail
          refine stepQ_normal ⟨trivial, upd x 1 (.agg #[.slice a0 n0 c0, .slice a1 n1 c1, .slice a2 n2 c2]), ?_, hC, hU.step (fun _ h => Option.some.inj h), hA0.keep (by decide) (by decide) _ id⟩
          simp only [upd]
          rfl
        case sR3_2 =>
          intro listed bb u hsz hn hwt hinv
          obtain ⟨x, rfl, hC, hU, hA0⟩ := hinv
          have f1 := Lib.hid (hU 1 _ rfl (hwt 1 (by kernel_rfl)))
          simp only [putsX, Act.put, List.setIfInBounds_toArray, List.set_cons_zero, List.set_cons_succ]
          have hbu := HB7.out.trans (hC.mono HB7.out.size)
          have hcall : Calls Try.prog 25 #[x 1] u (GivesS arrK xx u) := by rw [f1.out]; exact toArray_k (arrK.below HX0.out hbu) HFIT.out.1 HFIT.out.2.1 HFIT.out.2.2.1 HFIT.out.2.2.2
          go_wp2_with fail
          refine hcall.mono ?_
          rintro e' u' ⟨cs, SS, rfl, own, hss, hb⟩
          go_wp2_with fail
          refine stepQ_normal ⟨trivial, upd x 2 (.agg cs.toArray), ?_, hC.trans (hb.mono hC.size), hU.step (fun _ h => by cases h), FactW.new ⟨cs, SS, rfl, own, fun b h => Nat.le_trans hC.size (hss b h)⟩⟩
          simp only [upd]
          rfl
        case sR3_3 =>
          intro listed bb u hsz hn hwt hinv
          obtain ⟨x, rfl, hC, hU, hA0⟩ := hinv
          have f0 := Lib.hid (hU 0 _ rfl (hwt 0 (by kernel_rfl)))
          simp only [putsX, Act.put, List.setIfInBounds_toArray, List.set_cons_zero, List.set_cons_succ]
          obtain ⟨cs0, S0, fp0, ow0, _⟩ := hA0 (hwt 2 (by kernel_rfl)) hn
          have hcall : Calls Try.prog 27 #[x 0, x 2] u (Gives (.bool true) u) := by rw [f0.out, fp0]; exact eqArr_cs (arrK.read (arrK.ownBelow X7.out hC)) (arrK.read ow0)
          clear fp0
          go_wp2_with fail
          refine hcall.mono ?_
          rintro e' u' ⟨rfl, hb⟩
          go_wp2_with fail
          refine stepQ_normal ⟨trivial, upd x 3 (.bool true), ?_, hC.trans (hb.mono hC.size), hU.step (fun _ h => Option.some.inj h), FactW.call (by rw [hsz]; decide)⟩
          simp only [upd]
          rfl
        case sR3_4 =>
          intro listed bb u hsz hn hwt hinv
          obtain ⟨x, rfl, hC, hU, hA0⟩ := hinv
          have f3 := Lib.hid (hU 3 _ rfl (hwt 3 (by kernel_rfl)))
          simp only [putsX, Act.put, List.setIfInBounds_toArray, List.set_cons_zero, List.set_cons_succ]
          rw [f3.out]
          go_wp2_with fail
          refine stepQ_normal ⟨trivial, upd x 4 (.bool false), ?_, hC, hU.step (fun _ h => Option.some.inj h), hA0.keep (by decide) (by decide) _ id⟩
          simp only [upd]
          simp only [f3.out]
          (try rfl)
      case heR3 =>
        intro listed q w8 hall hC hU hS
        have hA0 := hS
        have fq3 := hU 3 _ rfl (hall 3 (by decide))
        have fq4 := hU 4 _ rfl (hall 4 (by decide))
        simp only [putsX, Act.put, List.setIfInBounds_toArray, List.set_cons_zero, List.set_cons_succ]
        rw [fq3, fq4]
        clear hall hU fq3 fq4 hA0
        generalize q 0 = _q0, q 1 = _q1, q 2 = _q2
        have gg8 := keep_block hC gg7 (lt_of_block gg7)
        have mm8 := keep_block hC mm7 (lt_of_block mm7)
        have qV8 := keep_block hC qV7 (lt_of_block qV7)
        have qX8 := keep_block hC qX7 (lt_of_block qX7)
        have qG8 := keep_block hC qG7 (lt_of_block qG7)
        have V8 : Hid (arrK.own w8 SV [.slice Va0 Vn0 Vc0, .slice Va1 Vn1 Vc1, .slice Va2 Vn2 Vc2] yy) := arrK.ownBelow V7.out hC
        have X8 : Hid (arrK.own w8 SX [.slice Xa0 Xn0 Xc0, .slice Xa1 Xn1 Xc1, .slice Xa2 Xn2 Xc2] xx) := arrK.ownBelow X7.out hC
        have G8 : Hid (arrK.own w8 SG [.slice Ga0 Gn0 Gc0, .slice Ga1 Gn1 Gc1, .slice Ga2 Gn2 Gc2] yy) := arrK.ownBelow G7.out hC
        have HB8 : Hid (Below w.heap.size w w8) := HB7.out.trans (hC.mono HB7.out.size)
        clear hC
        clear gg7 mm7 qV7 qX7 qG7 V7 X7 G7 HB7
        obtain ⟨kqX0, kqX1, kqX2⟩ := cells3 qX8
        go_wp2_with fail
        refine (markArr_v X8.out (Nat.le_trans HCNT.out (by decide)) kx HKX.out).mono ?_
        rintro e w9 ⟨rfl, own9, ho9⟩
        clear kqX0 kqX1 kqX2
        have gg9 := (ho9.block _ (lt_of_block gg8) NXgg.out).trans gg8
        have mm9 := (ho9.block _ (lt_of_block mm8) NXmm.out).trans mm8
        have qV9 := (ho9.block _ (lt_of_block qV8) NXqV.out).trans qV8
        have qX9 := (ho9.block _ (lt_of_block qX8) NXqX.out).trans qX8
        have qG9 := (ho9.block _ (lt_of_block qG8) NXqG.out).trans qG8
        have V9 : Hid (arrK.own w9 SV [.slice Va0 Vn0 Vc0, .slice Va1 Vn1 Vc1, .slice Va2 Vn2 Vc2] yy) := arrK.ownKeep V8.out ho9 DVX.out
        have G9 : Hid (arrK.own w9 SG [.slice Ga0 Gn0 Gc0, .slice Ga1 Gn1 Gc1, .slice Ga2 Gn2 Gc2] yy) := arrK.ownKeep G8.out ho9 (fun b h1 h2 => DXG.out b h2 h1)
        have HB9 : Hid (Below w.heap.size w w9) := HB8.out.trans (ho9.below (fun b h => Nat.le_trans SZX.out (BX.out b h)) HB8.out.size)
        have X9 : Hid (arrK.own w9 SX [.slice Xa0 Xn0 Xc0, .slice Xa1 Xn1 Xc1, .slice Xa2 Xn2 Xc2] (aMk xx 1)) := own9
        clear own9 ho9
        clear gg8 mm8 qV8 qX8 qG8 V8 X8 G8 HB8
        clear X9
        obtain ⟨kqG0, kqG1, kqG2⟩ := cells3 qG9
        obtain ⟨kqV0, kqV1, kqV2⟩ := cells3 qV9
        go_wp2_with fail
        refine (eqArr_cs (arrK.read G9.out) (arrK.read V9.out)).mono ?_
        rintro e w10 ⟨rfl, hb10⟩
        clear kqG0 kqG1 kqG2 kqV0 kqV1 kqV2
        have gg10 := keep_block hb10 gg9 (lt_of_block gg9)
        have mm10 := keep_block hb10 mm9 (lt_of_block mm9)
        have qV10 := keep_block hb10 qV9 (lt_of_block qV9)
        have qX10 := keep_block hb10 qX9 (lt_of_block qX9)
        have qG10 := keep_block hb10 qG9 (lt_of_block qG9)
        have V10 : Hid (arrK.own w10 SV [.slice Va0 Vn0 Vc0, .slice Va1 Vn1 Vc1, .slice Va2 Vn2 Vc2] yy) := arrK.ownBelow V9.out hb10
        have G10 : Hid (arrK.own w10 SG [.slice Ga0 Gn0 Gc0, .slice Ga1 Gn1 Gc1, .slice Ga2 Gn2 Gc2] yy) := arrK.ownBelow G9.out hb10
        have HB10 : Hid (Below w.heap.size w w10) := HB9.out.trans (hb10.mono HB9.out.size)
        clear gg9 mm9 qV9 qX9 qG9 V9 G9 HB9
        clear hb10
        obtain ⟨kqG0, kqG1, kqG2⟩ := cells3 qG10
        go_wp2_with fail
        refine (markArr_v G10.out (Nat.le_trans HCYN.out (by decide)) ky HKY.out).mono ?_
        rintro e w11 ⟨rfl, own11, ho11⟩
        clear kqG0 kqG1 kqG2
        have gg11 := (ho11.block _ (lt_of_block gg10) NGgg.out).trans gg10
        have mm11 := (ho11.block _ (lt_of_block mm10) NGmm.out).trans mm10
        have qV11 := (ho11.block _ (lt_of_block qV10) NGqV.out).trans qV10
        have qX11 := (ho11.block _ (lt_of_block qX10) NGqX.out).trans qX10
        have qG11 := (ho11.block _ (lt_of_block qG10) NGqG.out).trans qG10
        have V11 : Hid (arrK.own w11 SV [.slice Va0 Vn0 Vc0, .slice Va1 Vn1 Vc1, .slice Va2 Vn2 Vc2] yy) := arrK.ownKeep V10.out ho11 DVG.out
        have HB11 : Hid (Below w.heap.size w w11) := HB10.out.trans (ho11.below (fun b h => Nat.le_trans SZG.out (BG.out b h)) HB10.out.size)
        have G11 : Hid (arrK.own w11 SG [.slice Ga0 Gn0 Gc0, .slice Ga1 Gn1 Gc1, .slice Ga2 Gn2 Gc2] (aMk yy 1)) := own11
        clear own11 ho11
        clear gg10 mm10 qV10 qX10 qG10 V10 G10 HB10
        obtain ⟨kqG0, kqG1, kqG2⟩ := cells3 qG11
        go_wp2_with fail
        refine (heldArr_v (arrK.read G11.out) (Nat.le_trans HCYN.out (by decide)) ky HKY.out).mono ?_
        rintro e w12 ⟨rfl, hb12⟩
        clear kqG0 kqG1 kqG2
        have gg12 := keep_block hb12 gg11 (lt_of_block gg11)
        have mm12 := keep_block hb12 mm11 (lt_of_block mm11)
        have qV12 := keep_block hb12 qV11 (lt_of_block qV11)
        have qX12 := keep_block hb12 qX11 (lt_of_block qX11)
        have qG12 := keep_block hb12 qG11 (lt_of_block qG11)
        have V12 : Hid (arrK.own w12 SV [.slice Va0 Vn0 Vc0, .slice Va1 Vn1 Vc1, .slice Va2 Vn2 Vc2] yy) := arrK.ownBelow V11.out hb12
        have G12 : Hid (arrK.own w12 SG [.slice Ga0 Gn0 Gc0, .slice Ga1 Gn1 Gc1, .slice Ga2 Gn2 Gc2] (aMk yy 1)) := arrK.ownBelow G11.out hb12
        have HB12 : Hid (Below w.heap.size w w12) := HB11.out.trans (hb12.mono HB11.out.size)
        clear gg11 mm11 qV11 qX11 qG11 V11 G11 HB11
        clear hb12
        go_wp2_with fail
        refine wp_region_flowV (fun k => match k with | 0 => some (.agg #[.int .i64 ea, .int .i64 eb, .int .i64 ec, .int .i64 ed]) | 1 => some (.agg #[.int .i64 ea, .int .i64 eb, .int .i64 ec, .int .i64 ed]) | 2 => some (.agg #[.slice a0 n0 c0, .slice a1 n1 c1, .slice a2 n2 c2]) | 4 => some (.int .i64 tn) | _ => none) (fun listed x u => FactW 3 5 (HasK arrK xx w12.heap.size) listed x u ∧ FactW 5 7 (HasK arrK yy w12.heap.size) listed x u ∧ MadeK arrK 31 #[.slice none 0 0, .slice none 0 0, .slice none 0 0] 6 7 w12.heap.size yy listed x u) (fun _ => undef) (by kernel_rfl) (by kernel_rfl) ?hxR4 ?hSR4 ?hsR4 ?heR4
        case hxR4 => simp only [putsX, Act.put, List.setIfInBounds_toArray, List.set_cons_zero, List.set_cons_succ]
        case hSR4 => exact ⟨FactW.zero _ _ _ _ _ _, FactW.zero _ _ _ _ _ _, MadeK.zero _ _ _ _ _ _ _ _ _ _⟩
        case hsR4 =>
          simp only [flowSteps]
          refine ⟨?sR4_0, ?sR4_1, ?sR4_2, ?sR4_3, ?sR4_4, ?sR4_5, ?sR4_6, ?sR4_7, trivial⟩
          case sR4_0 =>
            intro listed bb u hsz hn hwt hinv
            obtain ⟨x, rfl, hC, hU, hA0, hO, hM⟩ := hinv
            simp only [putsX, Act.put, List.setIfInBounds_toArray, List.set_cons_zero, List.set_cons_succ]
            obtain ⟨d0, d1, d2, d3⟩ := cells4 (keep_block hC gg12 (lt_of_block gg12))
            go_wp2_with fail
            refine stepQ_normal ⟨trivial, upd x 0 (.agg #[.int .i64 ea, .int .i64 eb, .int .i64 ec, .int .i64 ed]), ?_, hC, hU.step (fun _ h => Option.some.inj h), hA0.keep (by decide) (by decide) _ id, hO.keep (by decide) (by decide) _ id, hM.keep (by decide) (by decide) _ (Below.refl _ _)⟩
            simp only [upd]
            rfl
          case sR4_1 =>
            intro listed bb u hsz hn hwt hinv
            obtain ⟨x, rfl, hC, hU, hA0, hO, hM⟩ := hinv
            have f0 := Lib.hid (hU 0 _ rfl (hwt 0 (by kernel_rfl)))
            simp only [putsX, Act.put, List.setIfInBounds_toArray, List.set_cons_zero, List.set_cons_succ]
            have hcall : Calls Try.prog 24 #[x 0] u (Gives (.agg #[.int .i64 ea, .int .i64 eb, .int .i64 ec, .int .i64 ed]) u) := by rw [f0.out]; exact toGeometry_any _ _ _ _ _
            go_wp2_with fail
            refine hcall.mono ?_
            rintro e' u' ⟨rfl, hb⟩
            go_wp2_with fail
            refine stepQ_normal ⟨trivial, upd x 1 (.agg #[.int .i64 ea, .int .i64 eb, .int .i64 ec, .int .i64 ed]), ?_, hC.trans (hb.mono hC.size), hU.step (fun _ h => Option.some.inj h), hA0.keep (by decide) (by decide) _ (fun h => HasK.below h (hb)), hO.keep (by decide) (by decide) _ (fun h => HasK.below h (hb)), hM.keep (by decide) (by decide) _ (hb)⟩
            simp only [upd]
            rfl
          case sR4_2 =>
            intro listed bb u hsz hn hwt hinv
            obtain ⟨x, rfl, hC, hU, hA0, hO, hM⟩ := hinv
            simp only [putsX, Act.put, List.setIfInBounds_toArray, List.set_cons_zero, List.set_cons_succ]
            obtain ⟨d0, d1, d2⟩ := cells3 (keep_block hC mm12 (lt_of_block mm12))
            go_wp2_with fail
            refine stepQ_normal ⟨trivial, upd x 2 (.agg #[.slice a0 n0 c0, .slice a1 n1 c1, .slice a2 n2 c2]), ?_, hC, hU.step (fun _ h => Option.some.inj h), hA0.keep (by decide) (by decide) _ id, hO.keep (by decide) (by decide) _ id, hM.keep (by decide) (by decide) _ (Below.refl _ _)⟩
            simp only [upd]
            rfl
          case sR4_3 =>
            intro listed bb u hsz hn hwt hinv
            obtain ⟨x, rfl, hC, hU, hA0, hO, hM⟩ := hinv
            have f2 := Lib.hid (hU 2 _ rfl (hwt 2 (by kernel_rfl)))
            simp only [putsX, Act.put, List.setIfInBounds_toArray, List.set_cons_zero, List.set_cons_succ]
            have hbu := HB12.out.trans (hC.mono HB12.out.size)
            have hcall : Calls Try.prog 25 #[x 2] u (GivesS arrK xx u) := by rw [f2.out]; exact toArray_k (arrK.below HX0.out hbu) HFIT.out.1 HFIT.out.2.1 HFIT.out.2.2.1 HFIT.out.2.2.2
            go_wp2_with fail
            refine hcall.mono ?_
            rintro e' u' ⟨cs, SS, rfl, own, hss, hb⟩
            go_wp2_with fail
            refine stepQ_normal ⟨trivial, upd x 3 (.agg cs.toArray), ?_, hC.trans (hb.mono hC.size), hU.step (fun _ h => by cases h), FactW.new ⟨cs, SS, rfl, own, fun b h => Nat.le_trans hC.size (hss b h)⟩, hO.keep (by decide) (by decide) _ (fun h => HasK.below h (hb)), hM.keep (by decide) (by decide) _ (hb)⟩
            simp only [upd]
            rfl
          case sR4_4 =>
            intro listed bb u hsz hn hwt hinv
            obtain ⟨x, rfl, hC, hU, hA0, hO, hM⟩ := hinv
            simp only [putsX, Act.put, List.setIfInBounds_toArray, List.set_cons_zero, List.set_cons_succ]
            go_wp2_with fail
            refine stepQ_normal ⟨trivial, upd x 4 (.int .i64 tn), ?_, hC, hU.step (fun _ h => Option.some.inj h), hA0.keep (by decide) (by decide) _ id, hO.keep (by decide) (by decide) _ id, hM.keep (by decide) (by decide) _ (Below.refl _ _)⟩
            simp only [upd]
            rfl
          case sR4_5 =>
            intro listed bb u hsz hn hwt hinv
            obtain ⟨x, rfl, hC, hU, hA0, hO, hM⟩ := hinv
            have f1 := Lib.hid (hU 1 _ rfl (hwt 1 (by kernel_rfl)))
            have f4 := Lib.hid (hU 4 _ rfl (hwt 4 (by kernel_rfl)))
            simp only [putsX, Act.put, List.setIfInBounds_toArray, List.set_cons_zero, List.set_cons_succ]
            obtain ⟨cs0, S0, fp0, ow0, _⟩ := hA0 (hwt 3 (by kernel_rfl)) hn
            have hcall : Calls Try.prog 29 #[x 1, x 3, x 4] u (GivesS arrK yy u) := by rw [f1.out, fp0, f4.out]; exact IM.out u _ (arrK.read ow0) HFIT.out
            clear fp0
            go_wp2_with fail
            refine hcall.mono ?_
            rintro e' u' ⟨cs, SS, rfl, own, hss, hb⟩
            go_wp2_with fail
            refine stepQ_normal ⟨trivial, upd x 5 (.agg cs.toArray), ?_, hC.trans (hb.mono hC.size), hU.step (fun _ h => by cases h), FactW.call (by rw [hsz]; decide), FactW.new ⟨cs, SS, rfl, own, fun b h => Nat.le_trans hC.size (hss b h)⟩, hM.keep (by decide) (by decide) _ (hb)⟩
            simp only [upd]
            rfl
          case sR4_6 =>
            intro listed bb u hsz hn hwt hinv
            obtain ⟨x, rfl, hC, hU, hA0, hO, hM⟩ := hinv
            simp only [putsX, Act.put, List.setIfInBounds_toArray, List.set_cons_zero, List.set_cons_succ]
            go_wp2_with fail
            refine stepQ_normal ⟨trivial, upd x 6 (.pointer (some ⟨u.heap.size, 0, none⟩)), ?_, hC.alloc hC.size _, hU.step (fun _ h => by cases h), hA0.keep (by decide) (by decide) _ (fun h => HasK.below h (below_allocK _ _)), hO.keep (by decide) (by decide) _ (fun h => HasK.below h (below_allocK _ _)), hM.new (by decide) hn hC.size⟩
            simp only [upd]
            rfl
          case sR4_7 =>
            intro listed bb u hsz hn hwt hinv
            obtain ⟨x, rfl, hC, hU, hA0, hO, hM⟩ := hinv
            simp only [putsX, Act.put, List.setIfInBounds_toArray, List.set_cons_zero, List.set_cons_succ]
            obtain ⟨g, fg, hg, hh⟩ := hM.there (hwt 6 (by kernel_rfl)) hn
            obtain ⟨cs, SS, fp, own, hss⟩ := hO (hwt 5 (by kernel_rfl)) hn
            obtain ⟨a0, n0, c0, a1, n1, c1, a2, n2, c2, rfl, _, _, _⟩ := arr_rd (arrK.read own)
            have FG := Lib.hid fg
            have FP := Lib.hid fp
            rw [FG.out, FP.out]
            obtain ⟨y0, y1, y2⟩ := cells3 hh
            have t0 := thawed hh 0
            have t1 := thawed hh 1
            have t2 := thawed hh 2
            have hng : g ∉ SS := arrTy.notin own hh (by decide)
            have own0 := own
            have hfin := set_cells (set_cells (set_cells (hh) 0 (.slice a0 n0 c0)) 1 (.slice a1 n1 c1)) 2 (.slice a2 n2 c2)
            have OW := Lib.hid (Kn.ownSet arrK (Kn.ownSet arrK (Kn.ownSet arrK own0 (p := ⟨g, 0, none⟩) (fun b h e => hng ((show b = g from e) ▸ h)) (.slice a0 n0 c0)) (p := ⟨g, 1, none⟩) (fun b h e => hng ((show b = g from e) ▸ h)) (.slice a1 n1 c1)) (p := ⟨g, 2, none⟩) (fun b h e => hng ((show b = g from e) ▸ h)) (.slice a2 n2 c2))
            have HSS := Lib.hid hss
            have HNG := Lib.hid hng
            clear hh fg fp own own0 hss hng
            go_wp2_with fail
            refine stepQ_normal ⟨trivial, upd x 7 undef, ?_, (((hC).setCell (by exact hg) _).setCell (by exact hg) _).setCell (by exact hg) _, hU.step (fun _ h => by cases h), FactW.gone (hwt 5 (by kernel_rfl)), FactW.call (by rw [hsz]; decide), MadeK.fill (by decide) (hwt 6 (by kernel_rfl)) (by rw [hsz]; decide) FG.out hg hfin OW.out HNG.out HSS.out⟩
            simp only [upd]
            simp only [FG.out, FP.out]
            (try rfl)
        case heR4 =>
          intro listed q w13 hall hC hU hS
          obtain ⟨hA0, hO, hM⟩ := hS
          obtain ⟨PH, cs, SH, fg, hgP, hh, own, hng, hss⟩ := hM.full (hall 6 (by decide)) (hall 7 (by decide))
          obtain ⟨Ha0, Hn0, Hc0, Ha1, Hn1, Hc1, Ha2, Hn2, Hc2, rfl, _, _, _⟩ := arr_rd (arrK.read own)
          simp only [putsX, Act.put, List.setIfInBounds_toArray, List.set_cons_zero, List.set_cons_succ]
          rw [fg]
          clear hall hU fg hA0 hO hM
          generalize q 0 = _q0, q 1 = _q1, q 2 = _q2, q 3 = _q3, q 4 = _q4, q 5 = _q5
          have gg13 := keep_block hC gg12 (lt_of_block gg12)
          have mm13 := keep_block hC mm12 (lt_of_block mm12)
          have qV13 := keep_block hC qV12 (lt_of_block qV12)
          have qX13 := keep_block hC qX12 (lt_of_block qX12)
          have qG13 := keep_block hC qG12 (lt_of_block qG12)
          have V13 : Hid (arrK.own w13 SV [.slice Va0 Vn0 Vc0, .slice Va1 Vn1 Vc1, .slice Va2 Vn2 Vc2] yy) := arrK.ownBelow V12.out hC
          have G13 : Hid (arrK.own w13 SG [.slice Ga0 Gn0 Gc0, .slice Ga1 Gn1 Gc1, .slice Ga2 Gn2 Gc2] (aMk yy 1)) := arrK.ownBelow G12.out hC
          have HB13 : Hid (Below w.heap.size w w13) := HB12.out.trans (hC.mono HB12.out.size)
          have BH : Hid (∀ b ∈ SH, w12.heap.size ≤ b) := hss
          have H13 : Hid (arrK.own w13 SH [.slice Ha0 Hn0 Hc0, .slice Ha1 Hn1 Hc1, .slice Ha2 Hn2 Hc2] yy) := own
          have qH13 := hh
          have NVqH : Hid (PH ∉ SV) := fun h => by have h1 := arrK.lt V12.out _ h; omega
          have NGqH : Hid (PH ∉ SG) := fun h => by have h1 := arrK.lt G12.out _ h; omega
          have DVH : Hid (∀ b ∈ SV, b ∉ SH) := fun b h1 h2 => by have h3 := arrK.lt V12.out b h1; have h4 := BH.out b h2; omega
          have DGH : Hid (∀ b ∈ SG, b ∉ SH) := fun b h1 h2 => by have h3 := arrK.lt G12.out b h1; have h4 := BH.out b h2; omega
          have NHgg : Hid (w.heap.size ∉ SH) := fun h => by have h1 := lt_of_block gg12; have h2 := BH.out _ h; omega
          have NHmm : Hid ((w.heap.size + 1) ∉ SH) := fun h => by have h1 := lt_of_block mm12; have h2 := BH.out _ h; omega
          have NHqV : Hid (PV ∉ SH) := fun h => by have h1 := lt_of_block qV12; have h2 := BH.out _ h; omega
          have NHqX : Hid (PX ∉ SH) := fun h => by have h1 := lt_of_block qX12; have h2 := BH.out _ h; omega
          have NHqG : Hid (PG ∉ SH) := fun h => by have h1 := lt_of_block qG12; have h2 := BH.out _ h; omega
          have NHqH : Hid (PH ∉ SH) := hng
          clear own hss hh hC hng hgP
          clear gg12 mm12 qV12 qX12 qG12 V12 G12 HB12
          obtain ⟨kqH0, kqH1, kqH2⟩ := cells3 qH13
          obtain ⟨kqV0, kqV1, kqV2⟩ := cells3 qV13
          go_wp2_with fail
          refine (eqArr_cs (arrK.read H13.out) (arrK.read V13.out)).mono ?_
          rintro e w14 ⟨rfl, hb14⟩
          clear kqH0 kqH1 kqH2 kqV0 kqV1 kqV2
          have gg14 := keep_block hb14 gg13 (lt_of_block gg13)
          have mm14 := keep_block hb14 mm13 (lt_of_block mm13)
          have qV14 := keep_block hb14 qV13 (lt_of_block qV13)
          have qX14 := keep_block hb14 qX13 (lt_of_block qX13)
          have qG14 := keep_block hb14 qG13 (lt_of_block qG13)
          have qH14 := keep_block hb14 qH13 (lt_of_block qH13)
          have V14 : Hid (arrK.own w14 SV [.slice Va0 Vn0 Vc0, .slice Va1 Vn1 Vc1, .slice Va2 Vn2 Vc2] yy) := arrK.ownBelow V13.out hb14
          have G14 : Hid (arrK.own w14 SG [.slice Ga0 Gn0 Gc0, .slice Ga1 Gn1 Gc1, .slice Ga2 Gn2 Gc2] (aMk yy 1)) := arrK.ownBelow G13.out hb14
          have H14 : Hid (arrK.own w14 SH [.slice Ha0 Hn0 Hc0, .slice Ha1 Hn1 Hc1, .slice Ha2 Hn2 Hc2] yy) := arrK.ownBelow H13.out hb14
          have HB14 : Hid (Below w.heap.size w w14) := HB13.out.trans (hb14.mono HB13.out.size)
          clear gg13 mm13 qV13 qX13 qG13 qH13 V13 G13 H13 HB13
          clear hb14
          obtain ⟨kqG0, kqG1, kqG2⟩ := cells3 qG14
          go_wp2_with fail
          refine (heldArr_v (arrK.read G14.out) (Nat.le_trans HCYN.out (by decide)) ky HKY.out).mono ?_
          rintro e w15 ⟨rfl, hb15⟩
          clear kqG0 kqG1 kqG2
          have gg15 := keep_block hb15 gg14 (lt_of_block gg14)
          have mm15 := keep_block hb15 mm14 (lt_of_block mm14)
          have qV15 := keep_block hb15 qV14 (lt_of_block qV14)
          have qX15 := keep_block hb15 qX14 (lt_of_block qX14)
          have qG15 := keep_block hb15 qG14 (lt_of_block qG14)
          have qH15 := keep_block hb15 qH14 (lt_of_block qH14)
          have V15 : Hid (arrK.own w15 SV [.slice Va0 Vn0 Vc0, .slice Va1 Vn1 Vc1, .slice Va2 Vn2 Vc2] yy) := arrK.ownBelow V14.out hb15
          have G15 : Hid (arrK.own w15 SG [.slice Ga0 Gn0 Gc0, .slice Ga1 Gn1 Gc1, .slice Ga2 Gn2 Gc2] (aMk yy 1)) := arrK.ownBelow G14.out hb15
          have H15 : Hid (arrK.own w15 SH [.slice Ha0 Hn0 Hc0, .slice Ha1 Hn1 Hc1, .slice Ha2 Hn2 Hc2] yy) := arrK.ownBelow H14.out hb15
          have HB15 : Hid (Below w.heap.size w w15) := HB14.out.trans (hb15.mono HB14.out.size)
          clear gg14 mm14 qV14 qX14 qG14 qH14 V14 G14 H14 HB14
          clear hb15
          go_wp2_with fail
          go_ret
          exact ⟨rfl, HB15.out⟩

end Go.Proofs.Ytfpfgaifhmgpiaa

namespace Go.Proofs.Ytfpfgaifhmgpiaa
open Go.RowKit Go.PlainAid

set_option linter.unusedVariables false

/-- A call that answers a row of ints of the call's own, so long. -/
def GivesN (n : Nat) (l : List Int) (w : World) (e : Ending) (w' : World) : Prop := ∃ a c S, e = .returned (.slice a n c) ∧ intsK.own w' S [.slice a n c] l ∧ (∀ b ∈ S, w.heap.size ≤ b) ∧ Below w.heap.size w w'

set_option maxHeartbeats 4000000 in
theorem implCloneN_is {a : Option Addr} {n c : Nat} {l : List Int} {w : World} (h : intsK.rd w [.slice a n c] l) (hl : l.length ≤ 4000000) :
    Calls Try.prog 96 #[.slice a n c] w (GivesN n l w) := by
  have q0 : ∀ (w : World) (a : Option Addr) (n c n' c' : Nat), (Go.binOp .eql 29 (.slice a n c) (.slice none n' c')).run Try.prog w = .ok (.bool a.isNone) w := fun w a n c n' c' => Lib.run_eql_slice_nil w _ _ a n c n' c' Try.underlying29
  obtain ⟨h1, h2, h3, h4⟩ := Kn.row_len h
  rcases a with _ | ad
  · obtain rfl : c = 0 := h4 rfl
    obtain rfl : n = 0 := by omega
    obtain rfl : l = [] := List.length_eq_zero_iff.1 h1
    clear h h1 h2 h3 h4 hl
    go_enter Try.func96, Try.ntmps96
    go_wp2
    go_ret
    exact ⟨none, 0, [], rfl, ints_none _, (fun b hb => by cases hb), Below.refl _ _⟩
  · have hbA : Below w.heap.size w (w.alloc (.cells #[] 3)) := (Below.refl _ _).alloc (Nat.le_refl _) _
    have HR : Hid (intsK.rd (w.alloc (.cells #[] 3)) [.slice (some ad) n c] l) := intsK.below h hbA
    have hgA : (w.alloc (.cells #[] 3)).heap[w.heap.size]? = some (.cells #[] 3 (0, 0)) := heap_alloc_new _ _
    have hSA : w.heap.size ≤ (w.alloc (.cells #[] 3)).heap.size := by simp
    clear h h1 h2 h3 h4
    go_enter Try.func96, Try.ntmps96
    go_wp2_with (at_builtin; refine copy_ints rfl _ _ rfl w.heap.size w.heap.size rfl (Nat.le_refl _) hgA (some ad) n c l rfl HR.out hl hSA ?_)
    intro ab cb w3 S own3 hS3 hb3
    have HO := Lib.hid own3
    have HS : Hid (∀ b ∈ S, w.heap.size ≤ b) := fun b hb => by have := hS3 b hb; omega
    have HB : Hid (Below w.heap.size w w3) := hbA.trans (hb3.mono (by simp))
    clear own3 hS3 hb3 hbA hgA hSA
    go_wp2_with fail
    go_ret
    exact ⟨ab, cb, S, rfl, HO.out, HS.out, HB.out⟩

theorem cell_one {w : World} : ∀ {x : List (List Int × Bool)} {xs : List Value}, cellK.rds w xs x → ∀ u ∈ xs, u.oneCell' = true
  | [], xs, h, u, hu => by rw [show xs = [] from h] at hu; cases hu
  | y :: x, xs, ⟨c1, c2, e, h1, h2⟩, u, hu => by
    obtain ⟨a, n, c, rfl, _⟩ := cell_rd h1
    rw [e] at hu
    rcases List.mem_append.1 hu with h | h
    · simp only [List.mem_cons, List.not_mem_nil, or_false] at h
      rcases h with rfl | rfl <;> rfl
    · exact cell_one h2 u h

set_option maxHeartbeats 4000000 in
theorem implCloneC_is {a : Option Addr} {n c : Nat} {x : List (List Int × Bool)} {w : World} (h : cellsK.rd w [.slice a n c] x) (hl : x.length ≤ 3000000) :
    Calls Try.prog 95 #[.slice a n c] w fun e w' => ∃ va vc xs, e = .returned (.slice va n vc) ∧ w'.ownsRow w.heap.size 42 2 (.slice va n vc) n xs ∧ cellK.rds w xs x ∧ Below w.heap.size w w' := by
  have q0 : ∀ (w : World) (a : Option Addr) (n c n' c' : Nat), (Go.binOp .eql 28 (.slice a n c) (.slice none n' c')).run Try.prog w = .ok (.bool a.isNone) w := fun w a n c n' c' => Lib.run_eql_slice_nil w _ _ a n c n' c' Try.underlying28
  obtain ⟨a', n', c', xs, e, h1, h2, h3, h4, h5⟩ := h
  simp only [List.cons.injEq, Value.slice.injEq, and_true] at e
  obtain ⟨rfl, rfl, rfl⟩ := e
  have hxl : xs.length = n * 2 := by rw [← h1]; exact cellK.rds_len h4
  rcases a with _ | ad
  · obtain rfl : c = 0 := h3 rfl
    obtain rfl : n = 0 := by omega
    obtain rfl : x = [] := List.length_eq_zero_iff.1 h1
    clear h1 h2 h3 h5 hl
    have HX := Lib.hid h4
    clear h4 hxl
    go_enter Try.func95, Try.ntmps95
    go_wp2
    go_ret
    exact ⟨none, 0, [], rfl, World.ownsRow_nil _ _ _ _, rfl, Below.refl _ _⟩
  · obtain ⟨i0, hi, hz0, hz1, hz2⟩ := info_parts infoCell
    have hbA : Below w.heap.size w (w.alloc (.cells #[] 42)) := (Below.refl _ _).alloc (Nat.le_refl _) _
    have HX := Lib.hid h4
    have HON := Lib.hid (cell_one h4)
    have HN : Hid (∀ j u, xs[j]? = some u → (w.alloc (.cells #[] 42)).cell? (ad.add j) = some u) := fun j u hu => by
      rcases h5 with h5 | ⟨g, off, ha, hc⟩
      · subst h5
        rw [show xs = [] from h4] at hu
        cases hu
      · cases ha
        have hj : j < xs.length := by
          by_cases hlt : j < xs.length
          · exact hlt
          · rw [List.getElem?_eq_none (by omega)] at hu; cases hu
        have := (hc j hj).trans hu
        rw [Addr.add_lit]
        exact (hbA.cell (World.block_lt_of_cell? _ _ this)).trans this
    have own3 : (w.alloc (.cells #[] 42)).ownsRow w.heap.size 42 2 (.slice (some ⟨w.heap.size, 0, none⟩) 0 0) 0 [] := World.ownsRow_made (base := w.heap.size) (e := 42) (size := 2) w #[] 0 (Nat.le_refl _) (by decide) rfl
    have hS3 : w.heap.size ≤ (w.alloc (.cells #[] 42)).heap.size := by simp
    have hnm : n ≤ 3000000 := by omega
    clear h1 h2 h3 h4 h5 hl
    go_enter Try.func95, Try.ntmps95
    go_wp2_with (at_builtin; refine wpList_append_own_at _ rfl _ _ 28 rfl w.heap.size 42 i0 (.agg #[.slice none 0 0, .bool false]) 2 32 Try.underlying28 hi hz0 hz1 hz2 rfl (by decide) _ 0 [] rfl own3 ad n c xs rfl hxl HN.out HON.out (by unfold maxLen; omega) (by omega) hS3 ?_)
    intro v' w4 hown4 hgrow _ _
    have HB4 : Hid (Below w.heap.size w w4) := hbA.grown hgrow hS3 (fun j hj => by have := Option.some.inj hj; have h2 : w.heap.size = j := this; omega)
    have hsh : ∃ va vc, v' = .slice va n vc := by
      rcases hown4.2 with ⟨rfl, h0⟩ | ⟨g, cap, cur, rfl, _⟩
      · exact ⟨none, 0, by rw [h0]⟩
      · exact ⟨_, cap, rfl⟩
    obtain ⟨va, vc, rfl⟩ := hsh
    have HO4 := Lib.hid hown4
    clear hown4 hgrow own3 hbA hS3
    go_wp2_with fail
    go_ret
    exact ⟨va, vc, xs, rfl, HO4.out, HX.out, HB4.out⟩

set_option maxHeartbeats 8000000 in
theorem implCell_k {a : Option Addr} {n c : Nat} {s : List Int} {p : Bool} {w : World} (h : intsK.rd w [.slice a n c] s) (hl : s.length ≤ 4000000) :
    Calls Try.prog 54 #[.agg #[.slice a n c, .bool p]] w (GivesS cellK (s, p) w) := by
  obtain ⟨w1, hw1⟩ : ∃ u, (w.alloc (.cells #[.slice a n c, .bool p] 42)).alloc (.cells #[.slice none 0 0, .bool false] 42) = u := ⟨_, rfl⟩
  have HB1 : Hid (Below w.heap.size w w1) := by subst hw1; exact ((Below.refl _ _).alloc (Nat.le_refl _) _).alloc (by simp) _
  have p1 : w1.heap[w.heap.size]? = some (.cells #[.slice a n c, .bool p] 42) := by subst hw1; exact heap_alloc2_old _ _ _
  have r1 : w1.heap[w.heap.size + 1]? = some (.cells #[.slice none 0 0, .bool false] 42) := by subst hw1; exact heap_alloc2_new _ _ _
  have HR : Hid (intsK.rd w1 [.slice a n c] s) := intsK.below h HB1.out
  obtain ⟨x0, x1⟩ := cells2 p1
  clear h
  go_enter Try.func54, Try.ntmps54
  go_wp2_with fail
  refine wp_region_float (A := ?A) [.h, .h, .t, .h, .h, .t, .e] (by kernel_rfl) (by kernel_rfl) (fun q => q.cell? ⟨w.heap.size, 0, none⟩ = some (.slice a n c) ∧ q.cell? ⟨w.heap.size, 1, none⟩ = some (.bool p)) ?hC ?hH ?hT
  case hC => exact ⟨x0, x1⟩
  case hH =>
    intro q hq
    obtain ⟨h0, h1⟩ := hq
    have z0 := fun t : Same q => t.cell h0
    have z1 := fun t : Same q => t.cell h1
    simp only [headsOf]
    repeat (go_big_quiet_step (fail))
    refine wpQuiet_nil ?_
    exact rfl
  case hT =>
    simp only [chainT]
    have hdr : Below w1.heap.size w1 w1.drew := ⟨rfl, rfl, rfl, Nat.le_refl _, fun _ _ => rfl⟩
    have HRD : Hid (intsK.rd w1.drew [.slice a n c] s) := intsK.below HR.out hdr
    have HBD : Hid (Below w.heap.size w w1.drew) := HB1.out.trans (hdr.mono HB1.out.size)
    have pd : w1.drew.heap[w.heap.size]? = _ := p1
    have rd : w1.drew.heap[w.heap.size + 1]? = _ := r1
    clear p1 r1 HR HB1 hdr x0 x1
    generalize w1.drew = w2 at *
    go_wp2_with fail
    refine (implCloneN_is HRD.out hl).mono ?_
    rintro e w3 ⟨ya, yc, S, rfl, own3, hS3, hb3⟩
    have HO3 := Lib.hid own3
    have p3 := keep_block hb3 pd (lt_of_block pd)
    have r3 := keep_block hb3 rd (lt_of_block rd)
    have HB3 : Hid (Below w.heap.size w w3) := HBD.out.trans (hb3.mono HBD.out.size)
    have HNR : Hid (∀ b ∈ S, b ≠ w.heap.size + 1 ∧ w.heap.size ≤ b) := fun b hb => by have := hS3 b hb; have := lt_of_block rd; omega
    clear own3 hS3 hb3 pd rd HBD HRD
    obtain ⟨x0, x1⟩ := cells2 p3
    go_wp2_with fail
    refine stepQ_normal ⟨⟨x0, x1⟩, ?_⟩
    go_wp2_with fail
    refine stepQ_normal ⟨⟨x0, x1⟩, ?_⟩
    clear x0 x1
    obtain ⟨y0, y1⟩ := cells2 r3
    have f0 := thawed r3 0
    have f1 := thawed r3 1
    have o4 := set_cells (set_cells r3 0 (.slice ya n yc)) 1 (.bool p)
    obtain ⟨t0, t1⟩ := cells2 o4
    go_wp2_with fail
    refine stepQ_normal ⟨trivial, ?_⟩
    go_wp2_with fail
    (try simp only [Exit.inBlock, Exit.then])
    refine bodyPost_ret (v := .agg #[.slice ya n yc, .bool p]) ?_ rfl ⟨[.slice ya n yc, .bool p], S, rfl, cell_of p ?_, fun b hb => (HNR.out b hb).2, ?_⟩
    · simp [results, Try.results54, go_sem, t0, t1]
    · exact intsK.ownSet (intsK.ownSet HO3.out (fun b hb => (HNR.out b hb).1) _) (fun b hb => (HNR.out b hb).1) _
    · exact (HB3.out.setCell (by simp) _).setCell (by simp) _

set_option maxHeartbeats 8000000 in
set_option maxRecDepth 100000 in
theorem implFlip_is {S : List Nat} {a : Option Addr} {n c t U : Nat} {s : List Int} {p : Bool} {w : World} (h : intsK.own w S [.slice a n c] s) (ht : t < s.length) (hn : n ≤ 1000000) (he : El (s.getD t 0)) (hU : U < 16) :
    Calls Try.prog 61 #[.agg #[.slice a n c, .bool p], .int .i64 t, .int .i64 U] w fun e w' => e = .returned (.tuple #[]) ∧ intsK.own w' S [.slice a n c] (s.set t (xr (s.getD t 0) U)) ∧ OnlyS S w w' := by
  obtain ⟨l1, _, _, _⟩ := Kn.row_len (intsK.read h)
  obtain ⟨Y0, hY0, hY1⟩ : ∃ Y0 : Nat, s.getD t 0 = (Y0 : Int) ∧ Y0 < 16 := ⟨(s.getD t 0).toNat, by have h1 := he.1; omega, by have h1 := he.1; have h2 := he.2; omega⟩
  obtain ⟨w1, hw1⟩ : ∃ u, w.alloc (.cells #[.slice a n c, .bool p] 42) = u := ⟨_, rfl⟩
  have hb1 : Below w.heap.size w w1 := by subst hw1; exact (Below.refl _ _).alloc (Nat.le_refl _) _
  have p1 : w1.heap[w.heap.size]? = some (.cells #[.slice a n c, .bool p] 42) := hw1 ▸ heap_alloc_new w _
  have O1 := intsK.ownBelow h hb1
  have HO1 := Lib.hid O1
  have HN1 : Hid (OnlyS S w w1) := Below.onlyS hb1
  obtain ⟨gs, os, rfl, hgs, hc, _, _, _⟩ := ints_place O1 ht
  rw [hY0] at hc
  have HADD : Hid (gfAdd (Y0 : Int) (U : Int) = xr (Y0 : Int) U) := by
    show _ = _
    rw [gfAdd_nat hY1 hU]
    rfl
  have hlt : t < n := by omega
  have HYY := Lib.hid hY0
  have HTL := Lib.hid ht
  obtain ⟨x0, x1⟩ := cells2 p1
  have z0 := fun q : Later w1 => q.cell x0
  have z1 := fun q : Later w1 => q.cell x1
  have z2 := fun q : Later w1 => q.cell hc
  clear h O1 hb1 x0 x1 hc p1 l1 he ht hY0
  go_enter Try.func61, Try.ntmps61
  go_wp2_with fail
  refine wp_region_later_tail 11 (by kernel_rfl) (by kernel_rfl) ?_
  simp only [List.take_succ_cons, List.take_zero, List.drop_succ_cons, List.drop_zero]
  repeat (go_big_quiet_step (first | (go_at_call 100; exact Gives.later _ (implGfAdd_is _ _ _ HADD.out _))))
  refine wpQuiet_nil ?_
  rintro R0 ⟨zz, hz⟩
  have hbR : Below w1.heap.size w1 R0 := hz ▸ zz.ok
  have O2 := intsK.ownBelow HO1.out hbR
  obtain ⟨_, _, e0, _, hc0, hf0, _, hset0⟩ := ints_place O2 HTL.out
  cases e0
  have hR := hset0 (xr (Y0 : Int) U)
  have HR := Lib.hid hR
  have HN2 : Hid (OnlyS S w R0) := HN1.out.trans (Below.onlyS hbR)
  clear z0 z1 z2 hz zz hbR O2 hset0 hR
  go_wp2_with fail
  (try simp only [Exit.inBlock, Exit.then])
  refine bodyPost_end (v := .tuple #[]) (by simp [results, Try.results61]) rfl ⟨rfl, by rw [HYY.out]; exact HR.out, HN2.out.setCell hgs _⟩

end Go.Proofs.Ytfpfgaifhmgpiaa

namespace Go.Proofs.Ytfpfgaifhmgpiaa
open Go.RowKit Go.PlainAid

set_option linter.unusedVariables false

/-- Two neighbouring cells of a list replaced. -/
theorem set_two {A B : List Value} {c0 c1 u0 u1 : Value} {m : Nat} (hm : A.length = m) : ((A ++ ([c0, c1] ++ B)).set m u0).set (m + 1) u1 = (A ++ [u0, u1]) ++ B := by
  subst hm
  rw [List.set_append_right _ _ (Nat.le_refl _), Nat.sub_self, List.set_append_right _ _ (by omega), Nat.add_sub_cancel_left]
  simp

/-- A row some of whose cells are copies already (blocks S), the others still those of w1. -/
def MixC (w1 wr : World) (B : Nat) (v : Value) (n k : Nat) (x : List (List Int × Bool)) : Prop :=
  ∃ xs1 xs2 S, wr.ownsRow B 42 2 v n (xs1 ++ xs2) ∧ cellK.owns wr S xs1 (x.take k) ∧ cellK.rds w1 xs2 (x.drop k) ∧ S.Nodup ∧ (∀ b ∈ S, B ≤ b) ∧ ∀ g, v.ownBlock = some g → g ∉ S

theorem MixC.below {w1 wr wq : World} {B n k : Nat} {v : Value} {x : List (List Int × Bool)} (h : MixC w1 wr B v n k x) (hb : Below wr.heap.size wr wq) : MixC w1 wq B v n k x := by
  obtain ⟨xs1, xs2, S, h1, h2, h3, h4, h5, h6⟩ := h
  exact ⟨xs1, xs2, S, ownsRow_below h1 hb, cellK.owns_same h2 (fun b hm => hb.block b (cellK.owns_lt h2 b hm)), h3, h4, h5, h6⟩

/-- The place of the next cell. -/
theorem MixC.at {w1 wr : World} {B n k : Nat} {v : Value} {x : List (List Int × Bool)} (h : MixC w1 wr B v n k x) (hx : x.length = n) (hk : k < n) :
    ∃ g cap a m c, v = .slice (some ⟨g, 0, none⟩) n cap ∧ B ≤ g ∧ g < wr.heap.size ∧ (∀ j, wr.frozen? ⟨g, j, none⟩ = false) ∧ wr.cell? ⟨g, k * 2, none⟩ = some (.slice a m c) ∧ wr.cell? ⟨g, k * 2 + 1, none⟩ = some (.bool (x.getD k ([], false)).2) ∧ intsK.rd w1 [.slice a m c] (x.getD k ([], false)).1 := by
  obtain ⟨xs1, xs2, S, h1, h2, h3, h4, h5, h6⟩ := h
  have hc := fun g hg => World.ownsRow.cells h1 (g := g) hg
  have l1 : xs1.length = k * 2 := by
    have := cellK.rds_len (cellK.owns_rds h2)
    rw [List.length_take, Nat.min_eq_left (by omega)] at this
    exact this
  rw [List.drop_eq_getElem_cons (by omega)] at h3
  obtain ⟨c1, c2, rfl, hr, _⟩ := h3
  have e : x.getD k ([], false) = x[k] := by rw [List.getD_eq_getElem?_getD, List.getElem?_eq_getElem (by omega)]; rfl
  rw [e]
  obtain ⟨a, m, c, rfl, hi⟩ := cell_rd hr
  rcases h1.2 with ⟨_, h0⟩ | ⟨g, cap, cur, hv, hB, hh, _⟩
  · omega
  · subst hv
    refine ⟨g, cap, a, m, c, rfl, hB, lt_of_block hh, fun j => by simp [World.frozen?, hh], ?_, ?_, hi⟩
    · have := hc g rfl (k * 2) (.slice a m c) (by rw [List.getElem?_append_right (by omega), l1, Nat.sub_self]; rfl)
      rw [Addr.add_lit, Nat.zero_add] at this
      exact this
    · have := hc g rfl (k * 2 + 1) (.bool x[k].2) (by rw [List.getElem?_append_right (by omega), l1, Nat.add_sub_cancel_left]; rfl)
      rw [Addr.add_lit, Nat.zero_add] at this
      exact this

/-- One cell more copied. -/
theorem MixC.step {w1 w3 wr : World} {B n k g cap m c : Nat} {a : Option Addr} {T : List Nat} {x : List (List Int × Bool)} (h : MixC w1 w3 B (.slice (some ⟨g, 0, none⟩) n cap) n k x) (hb : Below w3.heap.size w3 wr) (hx : x.length = n) (hk : k < n)
    (ho : cellK.own wr T [.slice a m c, .bool (x.getD k ([], false)).2] (x.getD k ([], false))) (hT : ∀ b ∈ T, w3.heap.size ≤ b) (hB : B ≤ w3.heap.size) :
    MixC w1 ((wr.setCell ⟨g, k * 2, none⟩ (.slice a m c)).setCell ⟨g, k * 2 + 1, none⟩ (.bool (x.getD k ([], false)).2)) B (.slice (some ⟨g, 0, none⟩) n cap) n (k + 1) x := by
  obtain ⟨xs1, xs2, S, h1, h2, h3, h4, h5, h6⟩ := h
  have hlt := cellK.owns_lt h2
  have hg3 : g < w3.heap.size := (World.ownsRow.lt h1 g rfl).2
  have hTS : ∀ b ∈ T, b ∉ S := fun b hb hb' => by have := hT b hb; have := hlt b hb'; omega
  have hg : g ∉ T := fun hm => by have := hT g hm; omega
  have h2 := cellK.owns_same h2 (fun b hm => hb.block b (hlt b hm))
  have h1 := ownsRow_below h1 hb
  have e : x.getD k ([], false) = x[k] := by rw [List.getD_eq_getElem?_getD, List.getElem?_eq_getElem (by omega)]; rfl
  rw [e] at ho ⊢
  have l1 : xs1.length = k * 2 := by
    have := cellK.rds_len (cellK.owns_rds h2)
    rw [List.length_take, Nat.min_eq_left (by omega)] at this
    exact this
  rw [List.drop_eq_getElem_cons (by omega)] at h3
  obtain ⟨c1, c2, rfl, hr, h3⟩ := h3
  obtain ⟨a', m', c', rfl, _⟩ := cell_rd hr
  have hgS : g ∉ S := h6 g rfl
  have hne : ∀ b, b ≠ g → ((wr.setCell ⟨g, k * 2, none⟩ (.slice a m c)).setCell ⟨g, k * 2 + 1, none⟩ (.bool x[k].2)).heap[b]? = wr.heap[b]? := fun b hb => (Below.heap_setCell _ _ _ _ hb).trans (Below.heap_setCell _ _ _ _ hb)
  have o1 := (World.ownsRow.stored (World.ownsRow.stored h1 (k * 2) (.slice a m c)).1 (k * 2 + 1) (.bool x[k].2)).1
  rw [set_two l1] at o1
  refine ⟨xs1 ++ [.slice a m c, .bool x[k].2], c2, S ++ T, o1, ?_, h3, ?_, fun b hb => ?_, fun g' hg' => ?_⟩
  · rw [List.take_succ_eq_append_getElem (by omega)]
    refine cellK.owns_same (cellK.owns_snoc ho h2) (fun b hb => hne b (fun e => ?_))
    rcases List.mem_append.1 hb with h | h
    · exact hgS (e ▸ h)
    · exact hg (e ▸ h)
  · rw [List.nodup_append]
    exact ⟨h4, cellK.nodup ho, fun a ha b hb e => hTS b hb (e ▸ ha)⟩
  · rcases List.mem_append.1 hb with h | h
    · exact h5 b h
    · have := hT b h; omega
  · have e2 : g = g' := Option.some.inj hg'
    subst e2
    intro hm
    rcases List.mem_append.1 hm with h | h
    · exact hgS h
    · exact hg h

theorem MixC.start {w1 wr : World} {B n : Nat} {v : Value} {xs : List Value} {x : List (List Int × Bool)} (h : wr.ownsRow B 42 2 v n xs) (hr : cellK.rds w1 xs x) : MixC w1 wr B v n 0 x :=
  ⟨[], xs, [], h, ⟨rfl, rfl⟩, hr, List.nodup_nil, (fun b hb => by cases hb), fun g _ hm => by cases hm⟩

theorem MixC.stop {w1 wr : World} {B n : Nat} {v : Value} {x : List (List Int × Bool)} (h : MixC w1 wr B v n n x) (hx : x.length = n) : ∃ S, cellsK.own wr S [v] x ∧ ∀ b ∈ S, B ≤ b := by
  obtain ⟨xs1, xs2, S, h1, h2, h3, h4, h5, h6⟩ := h
  rw [List.drop_of_length_le (by omega)] at h3
  obtain rfl : xs2 = [] := h3
  rw [List.append_nil] at h1
  rw [List.take_of_length_le (by omega)] at h2
  have hb : cellK.Bld 42 B wr S v x := ⟨xs1, by rw [hx]; exact h1, h2, h4, h5, h6⟩
  exact hb.own

set_option maxHeartbeats 16000000 in
set_option maxRecDepth 100000 in
theorem implCopyA_is {cs : List Value} {x : Arr} {w : World} (h : arrK.rd w cs x) (hf : ArrFit x) :
    Calls Try.prog 51 #[.agg cs.toArray] w (GivesS arrK x w) := by
  obtain ⟨a0, n0, c0, a1, n1, c1, a2, n2, c2, rfl, h0, h1, h2⟩ := arr_rd h
  obtain ⟨xl, y, z⟩ := x
  obtain ⟨w1, hw1⟩ : ∃ u, (w.alloc (.cells #[.slice a0 n0 c0, .slice a1 n1 c1, .slice a2 n2 c2] 31)).alloc (.cells #[.slice none 0 0, .slice none 0 0, .slice none 0 0] 31) = u := ⟨_, rfl⟩
  have HB1 : Hid (Below w.heap.size w w1) := by subst hw1; exact ((Below.refl _ _).alloc (Nat.le_refl _) _).alloc (by simp) _
  have p1 : w1.heap[w.heap.size]? = some (.cells #[.slice a0 n0 c0, .slice a1 n1 c1, .slice a2 n2 c2] 31) := by subst hw1; exact heap_alloc2_old _ _ _
  have r1 : w1.heap[w.heap.size + 1]? = some (.cells #[.slice none 0 0, .slice none 0 0, .slice none 0 0] 31) := by subst hw1; exact heap_alloc2_new _ _ _
  have H0 : Hid (cellsK.rd w1 [.slice a0 n0 c0] xl) := cellsK.below h0 HB1.out
  have H1 : Hid (intsK.rd w1 [.slice a1 n1 c1] y) := intsK.below h1 HB1.out
  have H2 : Hid (intsK.rd w1 [.slice a2 n2 c2] z) := intsK.below h2 HB1.out
  have HF : Hid (xl.length ≤ 3000000 ∧ (∀ c ∈ xl, c.1.length ≤ 4000000) ∧ y.length ≤ 4000000 ∧ z.length ≤ 4000000) := hf
  obtain ⟨hnl, _, hnm, _⟩ := Kn.row_len h0
  have HNL : Hid (xl.length = n0) := hnl
  have hn0 : n0 ≤ 3000000 := by have : xl.length = n0 := hnl; have := HF.out.1; omega
  obtain ⟨x0, x1, x2⟩ := cells3 p1
  clear h h0 h1 h2 hf hnl hnm
  go_enter Try.func51, Try.ntmps51
  go_wp2_with fail
  refine (implCloneC_is H0.out HF.out.1).mono ?_
  rintro e w2 ⟨va, vc, xs, rfl, hown, hrds, hb2⟩
  have HB2 : Hid (Below w.heap.size w w2) := HB1.out.trans (hb2.mono HB1.out.size)
  have p2 := keep_block hb2 p1 (lt_of_block p1)
  have r2 := keep_block hb2 r1 (lt_of_block r1)
  have HM0 : Hid (MixC w1 w2 w1.heap.size (.slice va n0 vc) n0 0 xl) := MixC.start hown hrds
  have HS12 : Hid (w1.heap.size ≤ w2.heap.size) := hb2.size
  have HW1 : Hid (Below w1.heap.size w1 w2) := hb2
  have HS1 : Hid (w.heap.size + 1 < w1.heap.size) := lt_of_block r1
  clear x0 x1 x2 p1 r1 hown hrds hb2 HB1
  go_wp2_with fail
  go_loopw [11] (fun i wr => ∃ k : Nat, k ≤ n0 ∧ i = .int .i64 k ∧ MixC w1 wr w1.heap.size (.slice va n0 vc) n0 k xl ∧ Below w1.heap.size w1 wr ∧ wr.heap[w.heap.size]? = some (.cells #[.slice a0 n0 c0, .slice a1 n1 c1, .slice a2 n2 c2] 31 (0, 0)) ∧ wr.heap[w.heap.size + 1]? = some (.cells #[.slice none 0 0, .slice none 0 0, .slice none 0 0] 31 (0, 0)) ∧ Below w.heap.size w wr) (fun i _ => n0 + 1 - (intOf i).toNat)
  case atStart => exact ⟨0, Nat.zero_le _, rfl, HM0.out, HW1.out, p2, r2, HB2.out⟩
  case round =>
    obtain ⟨k, hk, rfl, hmix, hbw, pr, rr, hbb⟩ := hrel
    have HMX := Lib.hid hmix
    have HBW := Lib.hid hbw
    have HBB := Lib.hid hbb
    clear hmix hbw hbb p2 r2 HM0 HB2 HW1
    by_cases hlt : k < n0
    case pos =>
      have hI : decide ((k : Int) < (n0 : Int)) = true := decide_eq_true (by omega)
      have wk : IntKind.i64.wrap ((k : Int) + 1) = (k : Int) + 1 := IntWalk.i64_in _ (by omega)
      obtain ⟨g, cap, xa, xn, xc, hv, hg1, hg2, hfr, hc0, hc1, hrd⟩ := HMX.out.at HNL.out hlt
      simp only [Value.slice.injEq] at hv
      obtain ⟨rfl, _, rfl⟩ := hv
      have hcm : (xl.getD k ([], false)).1.length ≤ 4000000 := by
        rw [List.getD_eq_getElem?_getD, List.getElem?_eq_getElem (by rw [HNL.out]; exact hlt)]
        exact HF.out.2.1 _ (List.getElem_mem _)
      have HEP : Hid (((xl.getD k ([], false)).1, (xl.getD k ([], false)).2) = xl.getD k ([], false)) := rfl
      obtain ⟨s, hs⟩ : ∃ s, (xl.getD k ([], false)).1 = s := ⟨_, rfl⟩
      obtain ⟨pz, hpz⟩ : ∃ pz, (xl.getD k ([], false)).2 = pz := ⟨_, rfl⟩
      rw [hs] at hcm hrd
      rw [hpz] at hc1
      have HE : Hid (xl.getD k ([], false) = (s, pz)) := by show _ = _; rw [← hs, ← hpz]
      have HGB : Hid (w1.heap.size ≤ g ∧ g < wr.heap.size) := ⟨hg1, hg2⟩
      obtain ⟨w3, hw3⟩ : ∃ u, wr.alloc (.cells #[.slice xa xn xc, .bool pz] 42) = u := ⟨_, rfl⟩
      have hbA : Below wr.heap.size wr w3 := by subst hw3; exact (Below.refl _ _).alloc (Nat.le_refl _) _
      have q3 : w3.heap[wr.heap.size]? = some (.cells #[.slice xa xn xc, .bool pz] 42) := hw3 ▸ heap_alloc_new wr _
      have HRS : Hid (intsK.rd w3 [.slice xa xn xc] s) := intsK.below (intsK.below hrd HBW.out) hbA
      have HM3 := Lib.hid (HMX.out.below hbA)
      have p3 := keep_block hbA pr (lt_of_block pr)
      have r3 := keep_block hbA rr (lt_of_block rr)
      have HB3 : Hid (Below w1.heap.size w1 w3) := HBW.out.trans (hbA.mono HBW.out.size)
      have HC3 : Hid (Below w.heap.size w w3) := HBB.out.trans (hbA.mono HBB.out.size)
      have HG3 : Hid (wr.heap.size ≤ w3.heap.size) := hbA.size
      clear HBW HBB HMX pr rr hs hpz HEP hg1 hg2 hrd hbA
      obtain ⟨e0, e1⟩ := cells2 q3
      go_wp2_with fail
      refine (implCell_k (p := pz) HRS.out hcm).mono ?_
      rintro e w4 ⟨cs4, T4, rfl, own4, hT4, hb4⟩
      obtain ⟨ya, yn, yc, rfl, hi4⟩ := cell_own own4
      have HM4 := HM3.out.below hb4
      obtain ⟨_, _, _, _, _, hv, _, _, hfr4, hd0, hd1, _⟩ := HM4.at HNL.out hlt
      cases hv
      have hpe : (xl.getD k ([], false)).2 = pz := by rw [HE.out]
      have own4' : cellK.own w4 T4 [.slice ya yn yc, .bool pz] (xl.getD k ([], false)) := by rw [HE.out]; exact own4
      have hst : MixC w1 ((w4.setCell ⟨g, k * 2, none⟩ (.slice ya yn yc)).setCell ⟨g, k * 2 + 1, none⟩ (.bool pz)) w1.heap.size (.slice (some ⟨g, 0, none⟩) n0 vc) n0 (k + 1) xl := by
        have := HM3.out.step (a := ya) (m := yn) (c := yc) (T := T4) hb4 HNL.out hlt (by rw [hpe]; exact own4') (fun b hb => hT4 b hb) HB3.out.size
        rw [hpe] at this
        exact this
      have p4 := keep_block hb4 p3 (lt_of_block p3)
      have r4 := keep_block hb4 r3 (lt_of_block r3)
      have HB4 : Below w1.heap.size w1 w4 := HB3.out.trans (hb4.mono HB3.out.size)
      have HC4 : Below w.heap.size w w4 := HC3.out.trans (hb4.mono HC3.out.size)
      have hgp : g ≠ w.heap.size ∧ g ≠ w.heap.size + 1 := by have := HGB.out.1; have := HS1.out; omega
      have HST := Lib.hid hst
      have hb5 : Below w1.heap.size w1 ((w4.setCell ⟨g, k * 2, none⟩ (.slice ya yn yc)).setCell ⟨g, k * 2 + 1, none⟩ (.bool pz)) := (HB4.setCell HGB.out.1 _).setCell HGB.out.1 _
      have HB5 := Lib.hid hb5
      have HC5 : Hid (Below w.heap.size w ((w4.setCell ⟨g, k * 2, none⟩ (.slice ya yn yc)).setCell ⟨g, k * 2 + 1, none⟩ (.bool pz))) := (HC4.setCell (by have := HGB.out.1; have := HS1.out; show _ ≤ g; omega) _).setCell (by have := HGB.out.1; have := HS1.out; show _ ≤ g; omega) _
      have p5 := Lib.hid (keep_set (p := ⟨g, k * 2 + 1, none⟩) (v := .bool pz) (keep_set (p := ⟨g, k * 2, none⟩) (v := .slice ya yn yc) p4 (fun e => hgp.1 e.symm)) (fun e => hgp.1 e.symm))
      have r5 := Lib.hid (keep_set (p := ⟨g, k * 2 + 1, none⟩) (v := .bool pz) (keep_set (p := ⟨g, k * 2, none⟩) (v := .slice ya yn yc) r4 (fun e => hgp.2 e.symm)) (fun e => hgp.2 e.symm))
      have f0 := hfr4 (k * 2)
      have f1 := hfr4 (k * 2 + 1)
      clear p4 r4 p3 r3 HB4 HC4 hgp hst hb5 HM4 HM3 HB3 HC3 hfr4 hfr hi4 own4 own4' hT4 hb4 q3 e0 e1 hc0 hc1
      go_wp2_with fail
      go_roundw
      case rel => exact ⟨k + 1, by omega, by go_num, HST.out, HB5.out, p5.out, r5.out, HC5.out⟩
      case measure => simp [intOf]; omega
    obtain rfl : k = n0 := by omega
    have hI : decide ((k : Int) < (k : Int)) = false := decide_eq_false (by omega)
    obtain ⟨S0, own0, hS0⟩ := HMX.out.stop HNL.out
    have HO := Lib.hid own0
    have HS := Lib.hid hS0
    have Hr1 : Hid (intsK.rd wr [.slice a1 n1 c1] y) := intsK.below H1.out HBW.out
    have Hr2 : Hid (intsK.rd wr [.slice a2 n2 c2] z) := intsK.below H2.out HBW.out
    have HSZ : Hid (w1.heap.size ≤ wr.heap.size) := HBW.out.size
    clear own0 hS0 HMX HBW H1 H2
    obtain ⟨x0, x1, x2⟩ := cells3 pr
    go_wp2_with fail
    refine wp_region_float (A := ?A) [.h, .h, .h, .t, .h, .h, .t, .t, .e] (by kernel_rfl) (by kernel_rfl) (fun q => q.cell? ⟨w.heap.size, 0, none⟩ = some (.slice a0 k c0) ∧ q.cell? ⟨w.heap.size, 1, none⟩ = some (.slice a1 n1 c1) ∧ q.cell? ⟨w.heap.size, 2, none⟩ = some (.slice a2 n2 c2)) ?hC ?hH ?hT
    case hC => exact ⟨x0, x1, x2⟩
    case hH =>
      intro q hq
      obtain ⟨h0, h1, h2⟩ := hq
      have z0 := fun t : Same q => t.cell h0
      have z1 := fun t : Same q => t.cell h1
      have z2 := fun t : Same q => t.cell h2
      simp only [headsOf]
      repeat (go_big_quiet_step (fail))
      refine wpQuiet_nil ?_
      exact rfl
    case hT =>
      simp only [chainT]
      have hdr : Below wr.heap.size wr wr.drew := ⟨rfl, rfl, rfl, Nat.le_refl _, fun _ _ => rfl⟩
      have HO2 := Lib.hid (cellsK.ownBelow HO.out hdr)
      have Hd1 := Lib.hid (intsK.below Hr1.out hdr)
      have Hd2 := Lib.hid (intsK.below Hr2.out hdr)
      have HBD : Hid (Below w.heap.size w wr.drew) := HBB.out.trans (hdr.mono HBB.out.size)
      have HZD : Hid (w1.heap.size ≤ wr.drew.heap.size) := HSZ.out
      have pd : wr.drew.heap[w.heap.size]? = _ := pr
      have rd : wr.drew.heap[w.heap.size + 1]? = _ := rr
      clear pr rr HO Hr1 Hr2 HBB HSZ hdr x0 x1 x2
      generalize wr.drew = u0 at *
      go_wp2_with fail
      refine (implCloneN_is Hd1.out HF.out.2.2.1).mono ?_
      rintro e u1 ⟨ya, yc, S1, rfl, own1, hS1, hb1⟩
      have O0 := Lib.hid (cellsK.ownBelow HO2.out hb1)
      have O1 := Lib.hid own1
      have E2 := Lib.hid (intsK.below Hd2.out hb1)
      have p3 := keep_block hb1 pd (lt_of_block pd)
      have r3 := keep_block hb1 rd (lt_of_block rd)
      have HB3 : Hid (Below w.heap.size w u1) := HBD.out.trans (hb1.mono HBD.out.size)
      have HL0 : Hid (∀ b ∈ S0, b < u0.heap.size) := fun b hb => cellsK.lt HO2.out b hb
      have HL1 : Hid (∀ b ∈ S1, u0.heap.size ≤ b ∧ b < u1.heap.size) := fun b hb => ⟨hS1 b hb, intsK.lt own1 b hb⟩
      have HU1 : Hid (u0.heap.size ≤ u1.heap.size) := hb1.size
      clear own1 hS1 hb1 pd rd HBD HO2 Hd1 Hd2
      obtain ⟨x0, x1, x2⟩ := cells3 p3
      go_wp2_with fail
      refine stepQ_normal ⟨⟨x0, x1, x2⟩, ?_⟩
      go_wp2_with fail
      refine (implCloneN_is E2.out HF.out.2.2.2).mono ?_
      rintro e u2 ⟨za, zc, S2, rfl, own2, hS2, hb2⟩
      have Q0 := Lib.hid (cellsK.ownBelow O0.out hb2)
      have Q1 := Lib.hid (intsK.ownBelow O1.out hb2)
      have Q2 := Lib.hid own2
      have p4 := keep_block hb2 p3 (lt_of_block p3)
      have r4 := keep_block hb2 r3 (lt_of_block r3)
      have HB4 : Hid (Below w.heap.size w u2) := HB3.out.trans (hb2.mono HB3.out.size)
      have HL2 : Hid (∀ b ∈ S2, u1.heap.size ≤ b) := hS2
      clear own2 hS2 hb2 p3 r3 HB3 O0 O1 E2 x0 x1 x2
      have HND : Hid ((S0 ++ (S1 ++ S2)).Nodup) := nodup_of (cellsK.nodup Q0.out) (intsK.nodup Q1.out) (intsK.nodup Q2.out) (fun b hb hb' => by have := HL0.out b hb'; have := (HL1.out b hb).1; omega) (fun b hb hb' => by have := HL0.out b hb'; have := HL2.out b hb; have := HU1.out; omega) (fun b hb hb' => by have := HL2.out b hb; have := (HL1.out b hb').2; omega)
      have HGE : Hid (∀ b ∈ S0 ++ (S1 ++ S2), w1.heap.size ≤ b) := fun b hb => by
        rcases List.mem_append.1 hb with h | h
        · exact HS.out b h
        · rcases List.mem_append.1 h with h | h
          · have := (HL1.out b h).1; have := HZD.out; omega
          · have := HL2.out b h; have := HU1.out; have := HZD.out; omega
      have HOA : Hid (arrK.own u2 (S0 ++ (S1 ++ S2)) [.slice va k vc, .slice ya n1 yc, .slice za n2 zc] (xl, y, z)) := arr_of Q0.out Q1.out Q2.out HND.out
      generalize S0 ++ (S1 ++ S2) = T at HOA HGE
      obtain ⟨x0, x1, x2⟩ := cells3 p4
      go_wp2_with fail
      refine stepQ_normal ⟨⟨x0, x1, x2⟩, ?_⟩
      go_wp2_with fail
      refine stepQ_normal ⟨⟨x0, x1, x2⟩, ?_⟩
      clear x0 x1 x2
      obtain ⟨y0, y1, y2⟩ := cells3 r4
      have f0 := thawed r4 0
      have f1 := thawed r4 1
      have f2 := thawed r4 2
      have o5 := set_cells (set_cells (set_cells r4 0 (.slice va k vc)) 1 (.slice ya n1 yc)) 2 (.slice za n2 zc)
      obtain ⟨t0, t1, t2⟩ := cells3 o5
      have HNR : Hid (∀ b ∈ T, b ≠ w.heap.size + 1) := fun b hb => by have := HGE.out b hb; have := HS1.out; omega
      go_wp2_with fail
      refine stepQ_normal ⟨trivial, ?_⟩
      go_wp2_with fail
      (try simp only [Exit.inBlock, Exit.then])
      refine bodyPost_ret (v := .agg #[.slice va k vc, .slice ya n1 yc, .slice za n2 zc]) ?_ rfl ⟨_, T, rfl, ?_, fun b hb => ?_, ?_⟩
      · simp [results, Try.results51, go_sem, t0, t1, t2]
      · exact arrK.ownSet (arrK.ownSet (arrK.ownSet HOA.out (fun b hb => HNR.out b hb) _) (fun b hb => HNR.out b hb) _) (fun b hb => HNR.out b hb) _
      · have := HGE.out b hb; have := HS1.out; omega
      · exact ((HB4.out.setCell (by simp) _).setCell (by simp) _).setCell (by simp) _

end Go.Proofs.Ytfpfgaifhmgpiaa

namespace Go.Proofs.Ytfpfgaifhmgpiaa
open Go.RowKit Go.PlainAid

set_option linter.unusedVariables false

theorem implBad_is (a : Int) (v : Bool) (hv : (!decide (El a)) = v) (w : World) :
    Calls Try.prog 99 #[.int .i64 a] w (Says (.bool v) w) := by
  obtain ⟨u, hu⟩ : ∃ u, decide (El a) = u := ⟨_, rfl⟩
  have HE : Hid ((!u) = v) := by show _ = _; rw [← hu]; exact hv
  have HU := Lib.hid hu
  clear hu hv
  go_enter Try.func99, Try.ntmps99
  go_wp2_with fail
  refine (implIsEl_is a u HU.out _).mono ?_
  rintro e w2 ⟨rfl, rfl⟩
  go_wp2_with fail
  go_ret
  exact ⟨ret_b HE.out, rfl⟩

set_option maxHeartbeats 1000000 in
set_option maxRecDepth 100000 in
theorem implIndexBad_is {a : Option Addr} {n c : Nat} {l : List Int} (hn : l.length = n) (hl : n ≤ 3000000) {w : World} (h : RowI w a l) (v : Bool) (hv : decide (Els l) = v) :
    Calls Try.prog 108 #[.slice a n c, .func (.func 99) #[] #[]] w fun e w' => ∃ i : Int, e = .returned (.int .i64 i) ∧ decide (0 ≤ i) = (!v) ∧ w = w' := by
  have HN := Lib.hid hn
  have HA := Lib.hid h
  have HV := Lib.hid hv
  have hl2 : (n : Int) ≤ 9223372036854775807 := by omega
  clear hn h hv
  go_enter Try.func108, Try.ntmps108
  go_wp2_with fail
  go_loopw [8] (fun i wr => ∃ k : Nat, k ≤ n ∧ i = .int .i64 k ∧ Els (l.take k) ∧ wr = w) (fun i _ => n - (intOf i).toNat)
  case atStart => exact ⟨0, Nat.zero_le _, rfl, (fun v hv => by cases hv), rfl⟩
  case round =>
    obtain ⟨k, hk, rfl, hels, rfl⟩ := hrel
    have HE := Lib.hid hels
    clear hels
    by_cases hlt : k < n
    · obtain ⟨ga, oa, rfl, hca⟩ := HA.out.at (k := k) (by rw [HN.out]; exact hlt)
      obtain ⟨x, hx⟩ : ∃ x, l.getD k 0 = x := ⟨_, rfl⟩
      rw [hx] at hca
      by_cases he : El x
      · have HS := Lib.hid (els_take (by rw [HN.out]; exact hlt) HE.out (hx ▸ he))
        have KA : Hid ((!decide (El x)) = false) := by show _ = _; rw [decide_eq_true he]; rfl
        clear hx he
        go_wp2_with fail
        refine (implBad_is x false KA.out _).mono ?_
        rintro e w2 ⟨rfl, rfl⟩
        go_wp2_with fail
        go_roundw
        case rel => exact ⟨k + 1, by omega, by go_num, HS.out, by trivial⟩
        case measure => simp [intOf]; omega
      · have HF : Hid (false = v) := by show _ = _; rw [← HV.out]; exact (decide_eq_false (fun q => he (hx ▸ el_getD q (by rw [HN.out]; exact hlt)))).symm
        have KA : Hid ((!decide (El x)) = true) := by show _ = _; rw [decide_eq_false he]; rfl
        clear hx he
        go_wp2_with fail
        refine (implBad_is x true KA.out _).mono ?_
        rintro e w2 ⟨rfl, rfl⟩
        go_wp2_with fail
        go_ret
        exact ⟨_, rfl, by rw [← HF.out]; exact decide_eq_true (by omega), rfl⟩
    · obtain rfl : k = n := by omega
      have HF : Hid (true = v) := by
        show _ = _
        rw [← HV.out]
        have := HE.out
        rw [List.take_of_length_le (by rw [HN.out]; omega)] at this
        exact (decide_eq_true this).symm
      go_wp2_with fail
      go_ret
      exact ⟨_, rfl, by rw [← HF.out]; rfl, rfl⟩

theorem implContainsBad_is {a : Option Addr} {n c : Nat} {l : List Int} (hn : l.length = n) (hl : n ≤ 3000000) {w : World} (h : RowI w a l) (v : Bool) (hv : decide (Els l) = v) :
    Calls Try.prog 98 #[.slice a n c, .func (.func 99) #[] #[]] w (Says (.bool (!v)) w) := by
  have HN := Lib.hid hn
  have HA := Lib.hid h
  have HV := Lib.hid hv
  clear hn h hv
  go_enter Try.func98, Try.ntmps98
  go_wp2_with fail
  refine (implIndexBad_is HN.out hl HA.out v HV.out).mono ?_
  rintro e w2 ⟨i, rfl, hi, rfl⟩
  have HI := Lib.hid hi
  clear hi
  go_wp2_with fail
  go_ret
  exact ⟨ret_b HI.out, rfl⟩

theorem implSymbolsOk_is : ISymbolsOk := by
  intro a n c l m v hv hn hl hc w h
  by_cases hm : (n : Int) = m
  case neg =>
    have tm : ((n : Int) == m) = false := by simpa using hm
    obtain rfl : v = false := by rw [← hv]; exact decide_eq_false fun q => hm (by rw [← hn]; exact q.2)
    clear hv h hm hn
    go_enter Try.func53, Try.ntmps53
    go_wp2_with fail
    go_ret
    exact ⟨rfl, Below.refl _ _⟩
  have HE : Hid (decide (Els l) = v) := by
    show _ = _
    rw [← hv]
    exact decide_eq_decide.mpr ⟨fun q => ⟨q, by rw [hn]; exact hm⟩, fun q => q.1⟩
  have HN := Lib.hid hn
  have HA := Lib.hid h
  clear hv hn h
  subst hm
  have tm : ((n : Int) == (n : Int)) = true := by simp
  go_enter Try.func53, Try.ntmps53
  go_wp2_with fail
  refine (implContainsBad_is HN.out hl HA.out v HE.out).mono ?_
  rintro e w2 ⟨rfl, rfl⟩
  go_wp2_with fail
  go_ret
  exact ⟨rfl, Below.refl _ _⟩

end Go.Proofs.Ytfpfgaifhmgpiaa

namespace Go.Proofs.Ytfpfgaifhmgpiaa
open Go.RowKit Go.PlainAid

set_option linter.unusedVariables false

theorem implSym11_is {a : Option Addr} {n c : Nat} {l : List Int} {w : World} (h : intsK.rd w [.slice a n c] l) (v : Bool) (hv : decide (SymOk l 11) = v) :
    Calls Try.prog 53 #[.slice a n c, .int .i64 11] w (Gives (.bool v) w) := by
  obtain ⟨h1, h2, h3, h4⟩ := Kn.row_len h
  unfold maxLen at h3
  by_cases hm : n = 11
  · exact implSymbolsOk_is a n c l 11 v hv h1 (by omega) h2 w (ints_row h)
  · have tm : ((n : Int) == 11) = false := by rw [beq_eq_false_iff_ne]; omega
    obtain rfl : v = false := by rw [← hv]; exact decide_eq_false fun q => hm (by have : (l.length : Int) = 11 := q.2; omega)
    clear hv h hm h1 h2 h4
    go_enter Try.func53, Try.ntmps53
    go_wp2_with fail
    go_ret
    exact ⟨rfl, Below.refl _ _⟩

set_option maxHeartbeats 4000000 in
set_option maxRecDepth 100000 in
theorem implCellsFit_is (ga gb gr gd : Int) {a : Option Addr} {n c : Nat} {x : List (List Int × Bool)} {w : World} (h : cellsK.rd w [.slice a n c] x) (v : Bool) (hv : decide ((x.length : Int) = lineN ga gb gr gd ∧ ∀ q ∈ x, SymOk q.1 11) = v) :
    Calls Try.prog 68 #[.agg #[.int .i64 ga, .int .i64 gb, .int .i64 gr, .int .i64 gd], .slice a n c] w (Gives (.bool v) w) := by
  obtain ⟨l0, _, m0, _⟩ := Kn.row_len h
  unfold maxLen at m0
  obtain ⟨w1, hw1⟩ : ∃ u, w.alloc (.cells #[.int .i64 ga, .int .i64 gb, .int .i64 gr, .int .i64 gd] 25) = u := ⟨_, rfl⟩
  have HB1 : Hid (Below w.heap.size w w1) := by subst hw1; exact (Below.refl _ _).alloc (Nat.le_refl _) _
  have g1 : w1.heap[w.heap.size]? = some (.cells #[.int .i64 ga, .int .i64 gb, .int .i64 gr, .int .i64 gd] 25) := hw1 ▸ heap_alloc_new w _
  have H1 : Hid (cellsK.rd w1 [.slice a n c] x) := cellsK.below h HB1.out
  have HL0 : Hid (x.length = n) := l0
  obtain ⟨L, hL⟩ : ∃ L, lineN ga gb gr gd = L := ⟨_, rfl⟩
  have HLN := Lib.hid hL
  rw [hL, l0] at hv
  have HV := Lib.hid hv
  have hLr := lineN_range ga gb gr gd
  rw [hL] at hLr
  clear h hv l0 hL
  obtain ⟨x0, x1, x2, x3⟩ := cells4 g1
  by_cases hn : (n : Int) = L
  case neg =>
    have t0 : ((n : Int) != L) = true := by rw [bne_iff_ne]; exact hn
    have HE : Hid (false = v) := by show _ = _; rw [← HV.out]; exact (decide_eq_false (fun h => hn h.1)).symm
    clear hn hLr
    go_enter Try.func68, Try.ntmps68
    go_wp2_with fail
    refine (implLine_is ga gb gr gd L HLN.out _).mono ?_
    rintro e w2 ⟨rfl, hb2⟩
    have HB2 : Hid (Below w.heap.size w w2) := HB1.out.trans (hb2.mono HB1.out.size)
    clear hb2 x0 x1 x2 x3 g1
    go_wp2_with fail
    go_ret
    exact ⟨ret_b HE.out, HB2.out⟩
  have t0 : ((n : Int) != L) = false := by rw [bne_eq_false_iff_eq]; exact hn
  have hn0 : (n : Int) ≤ 1024 := by omega
  have HV2 : Hid (decide (∀ q ∈ x, SymOk q.1 11) = v) := by
    show _ = _
    rw [← HV.out]
    exact decide_eq_decide.2 ⟨fun h => ⟨hn, h⟩, fun h => h.2⟩
  clear hn hLr HV
  go_enter Try.func68, Try.ntmps68
  go_wp2_with fail
  refine (implLine_is ga gb gr gd L HLN.out _).mono ?_
  rintro e w2 ⟨rfl, hb2⟩
  have HB2 : Hid (Below w.heap.size w w2) := HB1.out.trans (hb2.mono HB1.out.size)
  have H2 : Hid (cellsK.rd w2 [.slice a n c] x) := cellsK.below H1.out hb2
  clear hb2 x0 x1 x2 x3 g1 H1 HB1
  go_wp2_with fail
  go_loopw [14] (fun i wr => ∃ k : Nat, k ≤ n ∧ i = .int .i64 k ∧ (∀ q ∈ x.take k, SymOk q.1 11) ∧ Below w2.heap.size w2 wr) (fun i _ => n + 1 - (intOf i).toNat)
  case atStart => exact ⟨0, Nat.zero_le _, rfl, by simp, Below.refl _ _⟩
  case round =>
    obtain ⟨k, hk, rfl, hall, hbw⟩ := hrel
    have HALL := Lib.hid hall
    have HBW := Lib.hid hbw
    have HBX : Hid (Below w.heap.size w wr) := HB2.out.trans (hbw.mono HB2.out.size)
    clear hall hbw
    by_cases hlt : k < n
    case neg =>
      obtain rfl : k = n := by omega
      have hI : decide ((k : Int) < (k : Int)) = false := decide_eq_false (by omega)
      have HE : Hid (true = v) := by
        show _ = _
        rw [← HV2.out]
        have := HALL.out
        rw [List.take_of_length_le (by rw [HL0.out]; exact Nat.le_refl _)] at this
        exact (decide_eq_true this).symm
      go_wp2_with fail
      go_ret
      exact ⟨ret_b HE.out, HBX.out⟩
    have hI : decide ((k : Int) < (n : Int)) = true := decide_eq_true (by omega)
    have wk : IntKind.i64.wrap ((k : Int) + 1) = (k : Int) + 1 := IntWalk.i64_in _ (by omega)
    have hkl : k < x.length := by rw [HL0.out]; exact hlt
    obtain ⟨g, off, ds, rfl, hcell, hel⟩ := Kn.row_at (cellsK.below H2.out HBW.out) hkl
    have HNX : Hid (SymOk x[k].1 11 → ∀ q ∈ x.take (k + 1), SymOk q.1 11) := fun h => all_take hkl HALL.out h
    have HNO : Hid (¬ SymOk x[k].1 11 → false = v) := fun h => by rw [← HV2.out]; exact (decide_eq_false (fun hh => h (hh _ (List.getElem_mem _)))).symm
    generalize x[k] = xk at hel HNX HNO
    obtain ⟨s, p⟩ := xk
    obtain ⟨xa, xn, xc, rfl, hs⟩ := cell_rd hel
    have b0 : wr.cell? ⟨g, off + k * 2, none⟩ = some (.slice xa xn xc) := hcell 0 (by decide)
    have b1 : wr.cell? ⟨g, off + k * 2 + 1, none⟩ = some (.bool p) := hcell 1 (by decide)
    obtain ⟨w3, hw3⟩ : ∃ u, wr.alloc (.cells #[.slice xa xn xc, .bool p] 42) = u := ⟨_, rfl⟩
    have hbA : Below wr.heap.size wr w3 := by subst hw3; exact (Below.refl _ _).alloc (Nat.le_refl _) _
    have q3 : w3.heap[wr.heap.size]? = some (.cells #[.slice xa xn xc, .bool p] 42) := hw3 ▸ heap_alloc_new wr _
    have HSR : Hid (intsK.rd w3 [.slice xa xn xc] s) := intsK.below hs hbA
    have HB3 : Hid (Below w2.heap.size w2 w3) := HBW.out.trans (hbA.mono HBW.out.size)
    have HB4 : Hid (Below w.heap.size w w3) := HBX.out.trans (hbA.mono HBX.out.size)
    clear hcell hel hs hbA HBX HBW
    obtain ⟨e0, e1⟩ := cells2 q3
    by_cases hok : SymOk s 11
    case neg =>
      have KS := Lib.hid (decide_eq_false hok)
      have HE := Lib.hid (HNO.out hok)
      clear hok
      go_wp2_with fail
      refine (implSym11_is HSR.out false KS.out).mono ?_
      rintro e w5 ⟨rfl, hb5⟩
      have HB5 : Hid (Below w.heap.size w w5) := HB4.out.trans (hb5.mono HB4.out.size)
      clear hb5 e0 e1 q3
      go_wp2_with fail
      go_ret
      exact ⟨ret_b HE.out, HB5.out⟩
    have KS := Lib.hid (decide_eq_true hok)
    have HNX2 := Lib.hid (HNX.out hok)
    clear hok
    go_wp2_with fail
    refine (implSym11_is HSR.out true KS.out).mono ?_
    rintro e w5 ⟨rfl, hb5⟩
    have HB5 : Hid (Below w2.heap.size w2 w5) := HB3.out.trans (hb5.mono HB3.out.size)
    clear hb5 e0 e1 q3
    go_wp2_with fail
    go_roundw
    case rel => exact ⟨k + 1, by omega, by go_num, HNX2.out, HB5.out⟩
    case measure => simp [intOf]; omega

set_option maxHeartbeats 1000000 in
theorem implRowCount_is (ga gb gr gd v : Int) (hv : bankN ga gb gr gd * gr = v) (hr : 0 ≤ v ∧ v ≤ 128) (w : World) :
    Calls Try.prog 103 #[.agg #[.int .i64 ga, .int .i64 gb, .int .i64 gr, .int .i64 gd]] w (Gives (.int .i64 v) w) := by
  obtain ⟨w1, hw1⟩ : ∃ u, w.alloc (.cells #[.int .i64 ga, .int .i64 gb, .int .i64 gr, .int .i64 gd] 25) = u := ⟨_, rfl⟩
  have HB1 : Hid (Below w.heap.size w w1) := by subst hw1; exact (Below.refl _ _).alloc (Nat.le_refl _) _
  have g1 : w1.heap[w.heap.size]? = some (.cells #[.int .i64 ga, .int .i64 gb, .int .i64 gr, .int .i64 gd] 25) := hw1 ▸ heap_alloc_new w _
  obtain ⟨N, hN⟩ : ∃ N, bankN ga gb gr gd = N := ⟨_, rfl⟩
  have HN := Lib.hid hN
  rw [hN] at hv
  have wR : IntKind.i64.wrap (N * gr) = v := by rw [hv]; exact IntWalk.i64_in _ (by omega)
  obtain ⟨x0, x1, x2, x3⟩ := cells4 g1
  have z0 := fun q : Later w1 => q.cell x0
  have z1 := fun q : Later w1 => q.cell x1
  have z2 := fun q : Later w1 => q.cell x2
  have z3 := fun q : Later w1 => q.cell x3
  clear hN hv x0 x1 x2 x3
  go_enter Try.func103, Try.ntmps103
  go_wp2_with fail
  refine wp_region_later (by kernel_rfl) (by kernel_rfl) ?_
  repeat (go_big_quiet_step (first | (go_at_call 107; exact Gives.later _ (implBank_is _ _ _ _ _ HN.out _))))
  refine wpQuiet_nil ?_
  rintro w2 ⟨zz, hz⟩
  have hb2 : Below w1.heap.size w1 w2 := hz ▸ zz.ok
  have HB2 : Hid (Below w.heap.size w w2) := HB1.out.trans (hb2.mono HB1.out.size)
  clear hb2 hz zz z0 z1 z2 z3
  go_wp2_with fail
  go_ret
  exact ⟨rfl, HB2.out⟩

set_option maxHeartbeats 4000000 in
set_option maxRecDepth 100000 in
theorem implNumbersFit_is (ga gb gr gd R : Int) (hR : bankN ga gb gr gd * gr = R) (hRr : 0 ≤ R ∧ R ≤ 128) {a : Option Addr} {n c : Nat} {x : List Int} {w : World} (h : intsK.rd w [.slice a n c] x) (v : Bool) (hv : decide ((x.length : Int) = R ∧ ∀ q ∈ x, AgeOk q) = v) :
    Calls Try.prog 69 #[.agg #[.int .i64 ga, .int .i64 gb, .int .i64 gr, .int .i64 gd], .slice a n c] w (Gives (.bool v) w) := by
  obtain ⟨l0, _, m0, _⟩ := Kn.row_len h
  unfold maxLen at m0
  obtain ⟨w1, hw1⟩ : ∃ u, w.alloc (.cells #[.int .i64 ga, .int .i64 gb, .int .i64 gr, .int .i64 gd] 25) = u := ⟨_, rfl⟩
  have HB1 : Hid (Below w.heap.size w w1) := by subst hw1; exact (Below.refl _ _).alloc (Nat.le_refl _) _
  have g1 : w1.heap[w.heap.size]? = some (.cells #[.int .i64 ga, .int .i64 gb, .int .i64 gr, .int .i64 gd] 25) := hw1 ▸ heap_alloc_new w _
  have H1 : Hid (intsK.rd w1 [.slice a n c] x) := intsK.below h HB1.out
  have HL0 : Hid (x.length = n) := l0
  rw [l0] at hv
  have HV := Lib.hid hv
  have HRR := Lib.hid hR
  clear h hv l0 hR
  obtain ⟨x0, x1, x2, x3⟩ := cells4 g1
  by_cases hn : (n : Int) = R
  case neg =>
    have t0 : ((n : Int) != R) = true := by rw [bne_iff_ne]; exact hn
    have HE : Hid (false = v) := by show _ = _; rw [← HV.out]; exact (decide_eq_false (fun h => hn h.1)).symm
    clear hn
    go_enter Try.func69, Try.ntmps69
    go_wp2_with fail
    refine (implRowCount_is ga gb gr gd R HRR.out hRr _).mono ?_
    rintro e w2 ⟨rfl, hb2⟩
    have HB2 : Hid (Below w.heap.size w w2) := HB1.out.trans (hb2.mono HB1.out.size)
    clear hb2 x0 x1 x2 x3 g1
    go_wp2_with fail
    go_ret
    exact ⟨ret_b HE.out, HB2.out⟩
  have t0 : ((n : Int) != R) = false := by rw [bne_eq_false_iff_eq]; exact hn
  have hn0 : (n : Int) ≤ 128 := by omega
  have HV2 : Hid (decide (∀ q ∈ x, AgeOk q) = v) := by
    show _ = _
    rw [← HV.out]
    exact decide_eq_decide.2 ⟨fun h => ⟨hn, h⟩, fun h => h.2⟩
  clear hn HV
  go_enter Try.func69, Try.ntmps69
  go_wp2_with fail
  refine (implRowCount_is ga gb gr gd R HRR.out hRr _).mono ?_
  rintro e w2 ⟨rfl, hb2⟩
  have HB2 : Hid (Below w.heap.size w w2) := HB1.out.trans (hb2.mono HB1.out.size)
  have H2 : Hid (intsK.rd w2 [.slice a n c] x) := intsK.below H1.out hb2
  clear hb2 x0 x1 x2 x3 g1 H1 HB1
  go_wp2_with fail
  go_loopw [14] (fun i wr => ∃ k : Nat, k ≤ n ∧ i = .int .i64 k ∧ (∀ q ∈ x.take k, AgeOk q) ∧ wr = w2) (fun i _ => n + 1 - (intOf i).toNat)
  case atStart => exact ⟨0, Nat.zero_le _, rfl, by simp, by trivial⟩
  case round =>
    obtain ⟨k, hk, rfl, hall, rfl⟩ := hrel
    have HALL := Lib.hid hall
    clear hall
    by_cases hlt : k < n
    case neg =>
      obtain rfl : k = n := by omega
      have hI : decide ((k : Int) < (k : Int)) = false := decide_eq_false (by omega)
      have HE : Hid (true = v) := by
        show _ = _
        rw [← HV2.out]
        have := HALL.out
        rw [List.take_of_length_le (by rw [HL0.out]; exact Nat.le_refl _)] at this
        exact (decide_eq_true this).symm
      go_wp2_with fail
      go_ret
      exact ⟨ret_b HE.out, HB2.out⟩
    have hI : decide ((k : Int) < (n : Int)) = true := decide_eq_true (by omega)
    have wk : IntKind.i64.wrap ((k : Int) + 1) = (k : Int) + 1 := IntWalk.i64_in _ (by omega)
    have hkl : k < x.length := by rw [HL0.out]; exact hlt
    obtain ⟨g, off, rfl, hc⟩ := (ints_row H2.out).at hkl
    have ey : x.getD k 0 = x[k] := by rw [List.getD_eq_getElem?_getD, List.getElem?_eq_getElem hkl]; rfl
    rw [ey] at hc
    have HNX : Hid (AgeOk x[k] → ∀ q ∈ x.take (k + 1), AgeOk q) := fun h => all_take hkl HALL.out h
    have HNO : Hid (¬ AgeOk x[k] → false = v) := fun h => by rw [← HV2.out]; exact (decide_eq_false (fun hh => h (hh _ (List.getElem_mem _)))).symm
    generalize x[k] = q at hc HNX HNO
    clear ey
    by_cases h0 : q < 0
    case pos =>
      have d0 : decide (q < 0) = true := decide_eq_true h0
      have HE := Lib.hid (HNO.out (fun h => absurd h.1 (by omega)))
      clear h0
      go_wp2_with fail
      go_ret
      exact ⟨ret_b HE.out, HB2.out⟩
    have d0 : decide (q < 0) = false := decide_eq_false h0
    by_cases h1 : 100000 < q
    case pos =>
      have d1 : decide (100000 < q) = true := decide_eq_true h1
      have HE := Lib.hid (HNO.out (fun h => absurd h.2 (by omega)))
      clear h0 h1
      go_wp2_with fail
      go_ret
      exact ⟨ret_b HE.out, HB2.out⟩
    have d1 : decide (100000 < q) = false := decide_eq_false h1
    have HNX2 := Lib.hid (HNX.out ⟨by omega, by omega⟩)
    clear h0 h1
    go_wp2_with fail
    go_roundw
    case rel => exact ⟨k + 1, by omega, by go_num, HNX2.out, by trivial⟩
    case measure => simp [intOf]; omega

set_option maxHeartbeats 8000000 in
set_option maxRecDepth 100000 in
theorem implArrayOk_is : IArrayOk := by
  intro ga gb gr gd cs x v hv w h hf
  obtain ⟨a0, n0, c0, a1, n1, c1, a2, n2, c2, rfl, h0, h1, h2⟩ := arr_rd h
  obtain ⟨x, y, z⟩ := x
  obtain ⟨w1, hw1⟩ : ∃ u, (w.alloc (.cells #[.int .i64 ga, .int .i64 gb, .int .i64 gr, .int .i64 gd] 25)).alloc (.cells #[.slice a0 n0 c0, .slice a1 n1 c1, .slice a2 n2 c2] 31) = u := ⟨_, rfl⟩
  have HB1 : Hid (Below w.heap.size w w1) := by subst hw1; exact ((Below.refl _ _).alloc (Nat.le_refl _) _).alloc (by simp) _
  have g1 : w1.heap[w.heap.size]? = some (.cells #[.int .i64 ga, .int .i64 gb, .int .i64 gr, .int .i64 gd] 25) := by subst hw1; exact heap_alloc2_old _ _ _
  have p1 : w1.heap[w.heap.size + 1]? = some (.cells #[.slice a0 n0 c0, .slice a1 n1 c1, .slice a2 n2 c2] 31) := by subst hw1; exact heap_alloc2_new _ _ _
  have H0 : Hid (cellsK.rd w1 [.slice a0 n0 c0] x) := cellsK.below h0 HB1.out
  have H1 : Hid (intsK.rd w1 [.slice a1 n1 c1] y) := intsK.below h1 HB1.out
  have H2 : Hid (intsK.rd w1 [.slice a2 n2 c2] z) := intsK.below h2 HB1.out
  have HV : Hid (decide (GeoOk ga gb gr gd ∧ (x.length : Int) = lineN ga gb gr gd ∧ (y.length : Int) = bankN ga gb gr gd * gr ∧ z.length = y.length ∧ (∀ c ∈ x, SymOk c.1 11) ∧ (∀ v ∈ y, AgeOk v) ∧ (∀ v ∈ z, AgeOk v)) = v) := hv
  clear h h0 h1 h2 hv hf
  obtain ⟨x0, x1, x2, x3⟩ := cells4 g1
  obtain ⟨R, hR⟩ : ∃ R, bankN ga gb gr gd * gr = R := ⟨_, rfl⟩
  have HRR := Lib.hid hR
  by_cases hg : GeoOk ga gb gr gd
  case neg =>
    have KG := Lib.hid (decide_eq_false hg)
    have HE : Hid (false = v) := by show _ = _; rw [← HV.out]; exact (decide_eq_false (fun h => hg h.1)).symm
    clear hg hR
    go_enter Try.func26, Try.ntmps26
    go_wp2_with fail
    refine (implGeoOk_is ga gb gr gd false KG.out _).mono ?_
    rintro e w2 ⟨rfl, hb2⟩
    have HB2 : Hid (Below w.heap.size w w2) := HB1.out.trans (hb2.mono HB1.out.size)
    clear hb2 x0 x1 x2 x3 g1 p1
    go_wp2_with fail
    go_ret
    exact ⟨ret_b HE.out, HB2.out⟩
  have KG := Lib.hid (decide_eq_true hg)
  have hrr := rowsN_range hg
  rw [hR] at hrr
  have HGG := Lib.hid hg
  clear hg hR
  go_enter Try.func26, Try.ntmps26
  go_wp2_with fail
  refine (implGeoOk_is ga gb gr gd true KG.out _).mono ?_
  rintro e w2 ⟨rfl, hb2⟩
  have HB2 : Hid (Below w.heap.size w w2) := HB1.out.trans (hb2.mono HB1.out.size)
  have g2 := keep_block hb2 g1 (lt_of_block g1)
  have p2 := keep_block hb2 p1 (lt_of_block p1)
  have J0 := Lib.hid (cellsK.below H0.out hb2)
  have J1 := Lib.hid (intsK.below H1.out hb2)
  have J2 := Lib.hid (intsK.below H2.out hb2)
  clear hb2 x0 x1 x2 x3 g1 p1 H0 H1 H2 HB1
  obtain ⟨x0, x1, x2, x3⟩ := cells4 g2
  obtain ⟨y0, y1, y2⟩ := cells3 p2
  obtain ⟨b0, hb0⟩ : ∃ b, decide ((x.length : Int) = lineN ga gb gr gd ∧ ∀ q ∈ x, SymOk q.1 11) = b := ⟨_, rfl⟩
  have HC0 := Lib.hid hb0
  clear hb0
  go_wp2_with fail
  refine (implCellsFit_is ga gb gr gd J0.out b0 HC0.out).mono ?_
  rintro e w3 ⟨rfl, hb3⟩
  have HB3 : Hid (Below w.heap.size w w3) := HB2.out.trans (hb3.mono HB2.out.size)
  have g3 := keep_block hb3 g2 (lt_of_block g2)
  have p3 := keep_block hb3 p2 (lt_of_block p2)
  have K1 := Lib.hid (intsK.below J1.out hb3)
  have K2 := Lib.hid (intsK.below J2.out hb3)
  clear hb3 x0 x1 x2 x3 y0 y1 y2 g2 p2 J0 J1 J2 HB2
  cases b0
  case false =>
    have HE : Hid (false = v) := by
      show _ = _
      rw [← HV.out]
      exact (decide_eq_false (fun h => of_decide_eq_false HC0.out ⟨h.2.1, h.2.2.2.2.1⟩)).symm
    go_wp2_with fail
    go_ret
    exact ⟨ret_b HE.out, HB3.out⟩
  obtain ⟨x0, x1, x2, x3⟩ := cells4 g3
  obtain ⟨y0, y1, y2⟩ := cells3 p3
  obtain ⟨b1, hb1⟩ : ∃ b, decide ((y.length : Int) = R ∧ ∀ q ∈ y, AgeOk q) = b := ⟨_, rfl⟩
  have HC1 := Lib.hid hb1
  clear hb1
  go_wp2_with fail
  refine (implNumbersFit_is ga gb gr gd R HRR.out hrr K1.out b1 HC1.out).mono ?_
  rintro e w4 ⟨rfl, hb4⟩
  have HB4 : Hid (Below w.heap.size w w4) := HB3.out.trans (hb4.mono HB3.out.size)
  have g4 := keep_block hb4 g3 (lt_of_block g3)
  have p4 := keep_block hb4 p3 (lt_of_block p3)
  have L2 := Lib.hid (intsK.below K2.out hb4)
  clear hb4 x0 x1 x2 x3 y0 y1 y2 g3 p3 K1 K2 HB3
  cases b1
  case false =>
    have HE : Hid (false = v) := by
      show _ = _
      rw [← HV.out]
      exact (decide_eq_false (fun h => of_decide_eq_false HC1.out ⟨h.2.2.1.trans HRR.out, h.2.2.2.2.2.1⟩)).symm
    go_wp2_with fail
    go_ret
    exact ⟨ret_b HE.out, HB4.out⟩
  obtain ⟨x0, x1, x2, x3⟩ := cells4 g4
  obtain ⟨y0, y1, y2⟩ := cells3 p4
  have HC2 : Hid (decide ((z.length : Int) = R ∧ ∀ q ∈ z, AgeOk q) = v) := by
    show _ = _
    rw [← HV.out]
    have c0 := of_decide_eq_true HC0.out
    have c1 := of_decide_eq_true HC1.out
    refine decide_eq_decide.2 ⟨fun h => ⟨HGG.out, c0.1, c1.1.trans HRR.out.symm, by have := h.1; have := c1.1; omega, c0.2, c1.2, h.2⟩, fun h => ⟨?_, h.2.2.2.2.2.2⟩⟩
    have := h.2.2.2.1
    have := c1.1
    omega
  go_wp2_with fail
  refine (implNumbersFit_is ga gb gr gd R HRR.out hrr L2.out v HC2.out).mono ?_
  rintro e w5 ⟨rfl, hb5⟩
  have HB5 : Hid (Below w.heap.size w w5) := HB4.out.trans (hb5.mono HB4.out.size)
  clear hb5 x0 x1 x2 x3 y0 y1 y2 g4 p4
  go_wp2_with fail
  go_ret
  exact ⟨rfl, HB5.out⟩

set_option maxHeartbeats 1000000 in
theorem implRowExists_is (a b c d x y : Int) (v : Bool) (hv : decide (AdOk a b c d x y 0) = v) (w : World) :
    Calls Try.prog 80 #[.agg #[.int .i64 a, .int .i64 b, .int .i64 c, .int .i64 d], .int .i64 x, .int .i64 y] w (Gives (.bool v) w) := by
  have HV := Lib.hid hv
  clear hv
  obtain ⟨w1, hw1⟩ : ∃ w1, w.alloc (.cells #[.int .i64 a, .int .i64 b, .int .i64 c, .int .i64 d] 25) = w1 := ⟨_, rfl⟩
  have HB : Hid (Below w.heap.size w w1) := by subst hw1; exact (Below.refl _ _).alloc (Nat.le_refl _) _
  have hA : w1.heap[w.heap.size]? = some (.cells #[.int .i64 a, .int .i64 b, .int .i64 c, .int .i64 d] 25) := hw1 ▸ heap_alloc_new w _
  obtain ⟨a0, a1, a2, a3⟩ := cells4 hA
  go_enter Try.func80, Try.ntmps80
  go_wp2_with fail
  refine (implAddrOk_is a b c d x y 0 v HV.out _).mono ?_
  rintro e w2 ⟨rfl, hb2⟩
  have HB2 : Hid (Below w.heap.size w w2) := HB.out.trans (hb2.mono HB.out.size)
  clear hb2 a0 a1 a2 a3 hA
  go_wp2_with fail
  go_ret
  exact ⟨rfl, HB2.out⟩

end Go.Proofs.Ytfpfgaifhmgpiaa

namespace Go.Proofs.Ytfpfgaifhmgpiaa
open Go.RowKit Go.PlainAid

set_option linter.unusedVariables false

set_option maxHeartbeats 8000000 in
set_option maxRecDepth 100000 in
theorem implTimePasses_is : ITimePasses := by
  intro ga gb gr gd n cs x w h hf
  obtain ⟨a0, n0, c0, a1, n1, c1, a2, n2, c2, rfl, h0, h1, h2⟩ := arr_rd h
  obtain ⟨w1, hw1⟩ : ∃ u, ((w.alloc (.cells #[.int .i64 ga, .int .i64 gb, .int .i64 gr, .int .i64 gd] 25)).alloc (.cells #[.slice a0 n0 c0, .slice a1 n1 c1, .slice a2 n2 c2] 31)).alloc (.cells #[.slice none 0 0, .slice none 0 0, .slice none 0 0] 31) = u := ⟨_, rfl⟩
  obtain ⟨g1, p1, r1, hb1⟩ := alloc3 hw1
  have HB1 := Lib.hid hb1
  have HF := Lib.hid hf
  have H := Lib.hid h
  have H1 := Lib.hid (arrK.below h HB1.out)
  clear h hf h0 h1 h2
  obtain ⟨x0, x1, x2, x3⟩ := cells4 g1
  obtain ⟨y0, y1, y2⟩ := cells3 p1
  go_enter Try.func29, Try.ntmps29
  go_wp2_with fail
  refine (implCopyA_is H1.out HF.out).mono ?_
  rintro e w2 ⟨cs2, S2, rfl, own2, hS2, hb2⟩
  obtain ⟨d0, m0, k0, d1, m1, k1, d2, m2, k2, S0, S1', S2', rfl, rfl, _⟩ := arr_own own2
  obtain ⟨w3, hw3⟩ : ∃ u, w2.alloc (.cells #[.slice d0 m0 k0, .slice d1 m1 k1, .slice d2 m2 k2] 31) = u := ⟨_, rfl⟩
  have hb3 : Below w2.heap.size w2 w3 := by subst hw3; exact (Below.refl _ _).alloc (Nat.le_refl _) _
  have q3 : w3.heap[w2.heap.size]? = some (.cells #[.slice d0 m0 k0, .slice d1 m1 k1, .slice d2 m2 k2] 31) := by subst hw3; exact heap_alloc_new _ _
  have HO3 := Lib.hid (arrK.ownBelow own2 hb3)
  have HB2 : Hid (Below w.heap.size w w2) := HB1.out.trans (hb2.mono HB1.out.size)
  have HB3 : Hid (Below w.heap.size w w3) := HB2.out.trans (hb3.mono HB2.out.size)
  have H3 := Lib.hid (arrK.below (arrK.below H1.out hb2) hb3)
  have hlt : ∀ b ∈ S0 ++ (S1' ++ S2'), b < w2.heap.size := fun b hb => arrK.lt own2 b hb
  have hge : ∀ b ∈ S0 ++ (S1' ++ S2'), w1.heap.size ≤ b := fun b hb => hS2 b hb
  generalize hU2 : S0 ++ (S1' ++ S2') = T2 at own2 hS2 HO3 hlt hge
  have HS2 : Hid (∀ b ∈ T2, w1.heap.size ≤ b) := hge
  have HNP : Hid (w2.heap.size ∉ T2) := fun hb => by have := hlt _ hb; omega
  have HNR : Hid (∀ b ∈ T2, b ≠ w.heap.size + 1 + 1) := fun b hb e => by have := hge b hb; have := lt_of_block r1; omega
  have HRR : Hid (w.heap.size ≤ w.heap.size + 1 + 1) := by show _ ≤ _; omega
  have HPR : Hid (w.heap.size + 1 + 1 ≠ w2.heap.size) := fun e => by have := lt_of_block r1; have := hb2.size; omega
  have HPW : Hid (w.heap.size ≤ w2.heap.size) := HB2.out.size
  have g3 := keep_block hb3 (keep_block hb2 g1 (lt_of_block g1)) (Nat.lt_of_lt_of_le (lt_of_block g1) hb2.size)
  have p3 := keep_block hb3 (keep_block hb2 p1 (lt_of_block p1)) (Nat.lt_of_lt_of_le (lt_of_block p1) hb2.size)
  have r3 := keep_block hb3 (keep_block hb2 r1 (lt_of_block r1)) (Nat.lt_of_lt_of_le (lt_of_block r1) hb2.size)
  clear own2 hS2 hb2 hb3 g1 p1 r1 x0 x1 x2 x3 y0 y1 y2 hlt hge hU2
  obtain ⟨x0, x1, x2, x3⟩ := cells4 g3
  obtain ⟨y0, y1, y2⟩ := cells3 p3
  obtain ⟨z0, z1, z2⟩ := cells3 q3
  go_wp2_with fail
  by_cases ha : ArrOk ga gb gr gd x
  case neg =>
    have KA := Lib.hid (decide_eq_false ha)
    have HE : Hid (timesF ga gb gr gd n x = x) := if_neg (fun h => ha h.1)
    clear ha
    refine (implArrayOk_is ga gb gr gd _ _ false KA.out _ H3.out HF.out).mono ?_
    rintro e w4 ⟨rfl, hb4⟩
    have HBQ : Hid (Below w.heap.size w w4) := HB3.out.trans (hb4.mono HB3.out.size)
    have qq := keep_block hb4 q3 (lt_of_block q3)
    have rr := keep_block hb4 r3 (lt_of_block r3)
    have HO4 := Lib.hid (arrK.ownBelow HO3.out hb4)
    clear hb4 g3 p3 q3 r3 x0 x1 x2 x3 y0 y1 y2 z0 z1 z2
    obtain ⟨v0, v1, v2⟩ := cells3 rr
    have f0 := thawed rr 0
    have f1 := thawed rr 1
    have f2 := thawed rr 2
    obtain ⟨u0, u1, u2⟩ := cells3 qq
    have o5 := set_cells (set_cells (set_cells rr 0 (.slice d0 m0 k0)) 1 (.slice d1 m1 k1)) 2 (.slice d2 m2 k2)
    obtain ⟨t0, t1, t2⟩ := cells3 o5
    go_wp2_with fail
    (try simp only [Exit.inBlock, Exit.then])
    refine bodyPost_ret (v := .agg #[.slice d0 m0 k0, .slice d1 m1 k1, .slice d2 m2 k2]) ?_ rfl ⟨_, T2, rfl, ?_, fun b hb => ?_, ?_⟩
    · simp [results, Try.results29, go_sem, t0, t1, t2]
    · rw [HE.out]
      exact arrK.ownSet (arrK.ownSet (arrK.ownSet HO4.out (fun b hb => HNR.out b hb) _) (fun b hb => HNR.out b hb) _) (fun b hb => HNR.out b hb) _
    · have := HS2.out b hb; have := HB1.out.size; omega
    · exact ((HBQ.out.setCell HRR.out _).setCell HRR.out _).setCell HRR.out _
  have KA := Lib.hid (decide_eq_true ha)
  by_cases hn : 0 ≤ n ∧ n ≤ 100000
  case neg =>
    have HE : Hid (timesF ga gb gr gd n x = x) := if_neg (fun h => hn h.2)
    by_cases hn0 : n < 0
    case pos =>
      have tn0 : decide (n < 0) = true := decide_eq_true hn0
      clear ha hn hn0
      refine (implArrayOk_is ga gb gr gd _ _ true KA.out _ H3.out HF.out).mono ?_
      rintro e w4 ⟨rfl, hb4⟩
      have HBQ : Hid (Below w.heap.size w w4) := HB3.out.trans (hb4.mono HB3.out.size)
      have qq := keep_block hb4 q3 (lt_of_block q3)
      have rr := keep_block hb4 r3 (lt_of_block r3)
      have HO4 := Lib.hid (arrK.ownBelow HO3.out hb4)
      clear hb4 g3 p3 q3 r3 x0 x1 x2 x3 y0 y1 y2 z0 z1 z2
      obtain ⟨v0, v1, v2⟩ := cells3 rr
      have f0 := thawed rr 0
      have f1 := thawed rr 1
      have f2 := thawed rr 2
      obtain ⟨u0, u1, u2⟩ := cells3 qq
      have o5 := set_cells (set_cells (set_cells rr 0 (.slice d0 m0 k0)) 1 (.slice d1 m1 k1)) 2 (.slice d2 m2 k2)
      obtain ⟨t0, t1, t2⟩ := cells3 o5
      go_wp2_with fail
      (try simp only [Exit.inBlock, Exit.then])
      refine bodyPost_ret (v := .agg #[.slice d0 m0 k0, .slice d1 m1 k1, .slice d2 m2 k2]) ?_ rfl ⟨_, T2, rfl, ?_, fun b hb => ?_, ?_⟩
      · simp [results, Try.results29, go_sem, t0, t1, t2]
      · rw [HE.out]
        exact arrK.ownSet (arrK.ownSet (arrK.ownSet HO4.out (fun b hb => HNR.out b hb) _) (fun b hb => HNR.out b hb) _) (fun b hb => HNR.out b hb) _
      · have := HS2.out b hb; have := HB1.out.size; omega
      · exact ((HBQ.out.setCell HRR.out _).setCell HRR.out _).setCell HRR.out _
    case neg =>
      have tn0 : decide (n < 0) = false := decide_eq_false hn0
      have tn1 : decide (100000 < n) = true := decide_eq_true (by omega)
      clear ha hn hn0
      refine (implArrayOk_is ga gb gr gd _ _ true KA.out _ H3.out HF.out).mono ?_
      rintro e w4 ⟨rfl, hb4⟩
      have HBQ : Hid (Below w.heap.size w w4) := HB3.out.trans (hb4.mono HB3.out.size)
      have qq := keep_block hb4 q3 (lt_of_block q3)
      have rr := keep_block hb4 r3 (lt_of_block r3)
      have HO4 := Lib.hid (arrK.ownBelow HO3.out hb4)
      clear hb4 g3 p3 q3 r3 x0 x1 x2 x3 y0 y1 y2 z0 z1 z2
      obtain ⟨v0, v1, v2⟩ := cells3 rr
      have f0 := thawed rr 0
      have f1 := thawed rr 1
      have f2 := thawed rr 2
      obtain ⟨u0, u1, u2⟩ := cells3 qq
      have o5 := set_cells (set_cells (set_cells rr 0 (.slice d0 m0 k0)) 1 (.slice d1 m1 k1)) 2 (.slice d2 m2 k2)
      obtain ⟨t0, t1, t2⟩ := cells3 o5
      go_wp2_with fail
      (try simp only [Exit.inBlock, Exit.then])
      refine bodyPost_ret (v := .agg #[.slice d0 m0 k0, .slice d1 m1 k1, .slice d2 m2 k2]) ?_ rfl ⟨_, T2, rfl, ?_, fun b hb => ?_, ?_⟩
      · simp [results, Try.results29, go_sem, t0, t1, t2]
      · rw [HE.out]
        exact arrK.ownSet (arrK.ownSet (arrK.ownSet HO4.out (fun b hb => HNR.out b hb) _) (fun b hb => HNR.out b hb) _) (fun b hb => HNR.out b hb) _
      · have := HS2.out b hb; have := HB1.out.size; omega
      · exact ((HBQ.out.setCell HRR.out _).setCell HRR.out _).setCell HRR.out _
  have tn0 : decide (n < 0) = false := decide_eq_false (by omega)
  have tn1 : decide (100000 < n) = false := decide_eq_false (by omega)
  have HN := Lib.hid hn
  have HE : Hid (timesF ga gb gr gd n x = timeF n x) := if_pos ⟨ha, hn⟩
  have HAG : Hid (∀ v ∈ x.2.1, AgeOk v) := ha.2.2.2.2.2.1
  clear ha hn
  refine (implArrayOk_is ga gb gr gd _ _ true KA.out _ H3.out HF.out).mono ?_
  rintro e w4 ⟨rfl, hb4⟩
  have HBQ : Hid (Below w.heap.size w w4) := HB3.out.trans (hb4.mono HB3.out.size)
  have q4 := keep_block hb4 q3 (lt_of_block q3)
  have r4 := keep_block hb4 r3 (lt_of_block r3)
  have own4 := arrK.ownBelow HO3.out hb4
  obtain ⟨ea0, en0, ec0, ea1, en1, ec1, ea2, en2, ec2, U0, U1, U2, e0, eT, hnd, h0, h1, h2⟩ := arr_own own4
  simp only [List.cons.injEq, Value.slice.injEq, and_true] at e0
  obtain ⟨⟨rfl, rfl, rfl⟩, ⟨rfl, rfl, rfl⟩, rfl, rfl, rfl⟩ := e0
  obtain ⟨hl, _, hm, _⟩ := Kn.row_len (intsK.read h1)
  unfold maxLen at hm
  obtain ⟨u0, u1, u2⟩ := nodup3 (eT ▸ hnd)
  obtain ⟨xl, y, z⟩ := x
  have HL : Hid (y.length = m1) := hl
  have H0 : Hid (cellsK.own w4 U0 [.slice d0 m0 k0] xl) := h0
  have H1' : Hid (intsK.own w4 U1 [.slice d1 m1 k1] y) := h1
  have H2 : Hid (intsK.own w4 U2 [.slice d2 m2 k2] z) := h2
  have HND : Hid ((U0 ++ (U1 ++ U2)).Nodup) := eT ▸ hnd
  have Q0 := Lib.hid u0
  have Q2 := Lib.hid u2
  have HAGE : Hid (∀ v ∈ y, AgeOk v) := HAG.out
  have HET := Lib.hid eT
  have HTI : Hid (∀ b ∈ U1, b ∈ T2) := fun b hb => by show b ∈ T2; rw [eT]; exact List.mem_append_right _ (List.mem_append_left _ hb)
  clear hb4 g3 p3 q3 r3 x0 x1 x2 x3 y0 y1 y2 z0 z1 z2 own4 hnd h0 h1 h2 hl u0 u1 u2 eT HO3 H3
  obtain ⟨z0, z1, z2⟩ := cells3 q4
  go_wp2_with fail
  clear z0 z1 z2
  go_loopw [27] (fun i wr => ∃ k : Nat, k ≤ m1 ∧ i = .int .i64 k ∧ intsK.own wr U1 [.slice d1 m1 k1] ((y.take k).map (ageP n) ++ y.drop k) ∧ OnlyS U1 w4 wr) (fun i _ => m1 + 1 - (intOf i).toNat)
  case atStart => exact ⟨0, Nat.zero_le _, rfl, by simpa using H1'.out, OnlyS.refl _ _⟩
  case round =>
    obtain ⟨k, hk, rfl, hown, hon⟩ := hrel
    have pr := (hon.block _ (lt_of_block q4) (fun hb => HNP.out (HTI.out _ hb))).trans q4
    have HON := Lib.hid hon
    have HOW := Lib.hid hown
    obtain ⟨p0, p1, p2⟩ := cells3 pr
    clear hon hown
    by_cases hlt : k < m1
    case neg =>
      obtain rfl : k = m1 := by omega
      have hI : decide ((k : Int) < (k : Int)) = false := decide_eq_false (by omega)
      have HFF : Hid (intsK.own wr U1 [.slice d1 k k1] (y.map (ageP n))) := by
        have := HOW.out
        rw [List.take_of_length_le (by rw [HL.out]; exact Nat.le_refl _), List.drop_of_length_le (by rw [HL.out]; exact Nat.le_refl _), List.append_nil] at this
        exact this
      have HO6 : Hid (arrK.own wr T2 [.slice d0 m0 k0, .slice d1 k k1, .slice d2 m2 k2] (timeF n (xl, y, z))) := by
        show arrK.own _ _ _ _
        rw [HET.out]
        exact arr_of (cellsK.ownKeep H0.out HON.out (fun b hb => (Q0.out b hb).1)) HFF.out (intsK.ownKeep H2.out HON.out (fun b hb => (Q2.out b hb).2)) HND.out
      have rr := (HON.out.block _ (lt_of_block r4) (fun hb => HNR.out _ (HTI.out _ hb) rfl)).trans r4
      have HB6 : Hid (Below w.heap.size w wr) := HBQ.out.trans (HON.out.below (fun b hb => by have := HS2.out b (HTI.out b hb); have := HB1.out.size; omega) HBQ.out.size)
      have qq := pr
      have HBQ := HB6
      clear pr p0 p1 p2 HOW HFF HB6
      obtain ⟨v0, v1, v2⟩ := cells3 rr
      have f0 := thawed rr 0
      have f1 := thawed rr 1
      have f2 := thawed rr 2
      obtain ⟨u0, u1, u2⟩ := cells3 qq
      have o5 := set_cells (set_cells (set_cells rr 0 (.slice d0 m0 k0)) 1 (.slice d1 k k1)) 2 (.slice d2 m2 k2)
      obtain ⟨t0, t1, t2⟩ := cells3 o5
      go_wp2_with fail
      (try simp only [Exit.inBlock, Exit.then])
      refine bodyPost_ret (v := .agg #[.slice d0 m0 k0, .slice d1 k k1, .slice d2 m2 k2]) ?_ rfl ⟨_, T2, rfl, ?_, fun b hb => ?_, ?_⟩
      · simp [results, Try.results29, go_sem, t0, t1, t2]
      · rw [HE.out]
        exact arrK.ownSet (arrK.ownSet (arrK.ownSet HO6.out (fun b hb => HNR.out b hb) _) (fun b hb => HNR.out b hb) _) (fun b hb => HNR.out b hb) _
      · have := HS2.out b hb; have := HB1.out.size; omega
      · exact ((HBQ.out.setCell HRR.out _).setCell HRR.out _).setCell HRR.out _
    have hI : decide ((k : Int) < (m1 : Int)) = true := decide_eq_true (by omega)
    have wk : IntKind.i64.wrap ((k : Int) + 1) = (k : Int) + 1 := IntWalk.i64_in _ (by omega)
    have hky : k < y.length := by rw [HL.out]; exact hlt
    have hkc : k < ((y.take k).map (ageP n) ++ y.drop k).length := by rw [List.length_append, List.length_map, List.length_take, List.length_drop]; omega
    obtain ⟨g, off, rfl, hgS, hc, hf, hgl, hset⟩ := ints_place HOW.out hkc
    rw [map_at hky] at hc
    have hstep := Lib.hid (map_step (f := ageP n) hky)
    have hage := HAGE.out y[k] (List.getElem_mem _)
    obtain ⟨v, hv⟩ : ∃ v, y[k] = v := ⟨_, rfl⟩
    rw [hv] at hc hage hstep
    have hage2 : 0 ≤ v ∧ v ≤ 100000 := hage
    have hn2 := HN.out
    have wv : IntKind.i64.wrap (v + n) = v + n := IntWalk.i64_in _ (by omega)
    have z0 := fun q : Later wr => q.cell p0
    have z1 := fun q : Later wr => q.cell p1
    have z2 := fun q : Later wr => q.cell hc
    clear hset hv hage
    go_wp2_with fail
    refine wp_region_later_tail 12 (by kernel_rfl) (by kernel_rfl) ?_
    simp only [List.take_succ_cons, List.take_zero, List.drop_succ_cons, List.drop_zero]
    repeat (go_big_quiet_step (fail))
    refine wpQuiet_nil ?_
    rintro w6 ⟨zz, hz⟩
    have hb6 : Below wr.heap.size wr w6 := hz ▸ zz.ok
    have O6 := intsK.ownBelow HOW.out hb6
    obtain ⟨g', off', hg', _, hc6, hf6, _, hset6⟩ := ints_place O6 hkc
    cases hg'
    have hR6 := hset6 (ageP n v)
    rw [hstep.out] at hR6
    have HR6 := Lib.hid hR6
    have HN6 : Hid (OnlyS U1 w4 w6) := HON.out.trans (Below.onlyS hb6)
    clear z0 z1 z2 hz zz hb6 O6 hset6 hR6
    go_wp2_with fail
    refine ⟨⟨k + 1, by omega, rfl, HR6.out, HN6.out.setCell hgS _⟩, ?_⟩
    show m1 + 1 - ((k : Int) + 1).toNat < m1 + 1 - (k : Int).toNat
    omega

end Go.Proofs.Ytfpfgaifhmgpiaa

namespace Go.Proofs.Ytfpfgaifhmgpiaa
open Go.RowKit

set_option linter.unusedVariables false

theorem exTimePasses_walk (ea eb ec ed : Int) (lx : List Value) (tn : Int) (w : World) (_ : (Lit.int .i64 ea).wf = true) (_ : (Lit.int .i64 eb).wf = true) (_ : (Lit.int .i64 ec).wf = true) (_ : (Lit.int .i64 ed).wf = true) (s : Sh.Fits w (.and (.row (.and (.row (.num .i64)) (.and .flag .fin))) (.and (.row (.num .i64)) (.and (.row (.num .i64)) .fin))) lx) (_ : (Lit.int .i64 tn).wf = true) :
    Calls Try.prog 6 #[.agg #[.int .i64 ea, .int .i64 eb, .int .i64 ec, .int .i64 ed], .agg lx.toArray, .int .i64 tn] w fun e w' => e = .returned (.bool true) ∧ Below w.heap.size w w' := exTimePasses_of (Lib.hid implTimePasses_is) ea eb ec ed lx tn w s

end Go.Proofs.Ytfpfgaifhmgpiaa

namespace Go.Proofs.Ytfpfgaifhmgpiaa
open Go.RowKit Go.PlainAid

set_option linter.unusedVariables false

set_option maxHeartbeats 16000000 in
set_option maxRecDepth 100000 in
theorem exFlipSymbol_of (IMPL : Hid IFlipSymbol) (ea eb ec ed : Int) (lx : List Value) (bx br bc : Int) (ch : Int) (fu : Int) (w : World) (s : Sh.Fits w (.and (.row (.and (.row (.num .i64)) (.and .flag .fin))) (.and (.row (.num .i64)) (.and (.row (.num .i64)) .fin))) lx) :
    Calls Try.prog 8 #[.agg #[.int .i64 ea, .int .i64 eb, .int .i64 ec, .int .i64 ed], .agg lx.toArray, .agg #[.int .i64 bx, .int .i64 br, .int .i64 bc], .int .i64 ch, .int .i64 fu] w fun e w' => e = .returned (.bool true) ∧ Below w.heap.size w w' := by
  obtain ⟨xx, hx⟩ := arr_in s
  obtain ⟨a0, n0, c0, a1, n1, c1, a2, n2, c2, rfl, _, _, _⟩ := arr_rd hx
  have HX0 := Lib.hid hx
  obtain ⟨sv, hsv⟩ : ∃ v, szF 1048576 (arrN xx) = v := ⟨_, rfl⟩
  have HSV := Lib.hid hsv
  obtain ⟨yy, hy⟩ : ∃ z, flippedF ea eb ec ed xx bx br bc ch fu = z := ⟨_, rfl⟩
  have HY := Lib.hid hy
  have SPEC : Hid (∀ (u : World) (cs : List Value), arrK.rd u cs xx → ArrFit xx → Calls Try.prog 35 #[.agg #[.int .i64 ea, .int .i64 eb, .int .i64 ec, .int .i64 ed], .agg cs.toArray, .agg #[.int .i64 bx, .int .i64 br, .int .i64 bc], .int .i64 ch, .int .i64 fu] u (GivesS arrK yy u)) := fun u cs h hf => by rw [← HY.out]; exact specFlipSymbol_is ea eb ec ed bx br bc ch fu h hf
  have IM : Hid (∀ (u : World) (cs : List Value), arrK.rd u cs xx → ArrFit xx → Calls Try.prog 21 #[.agg #[.int .i64 ea, .int .i64 eb, .int .i64 ec, .int .i64 ed], .agg cs.toArray, .agg #[.int .i64 bx, .int .i64 br, .int .i64 bc], .int .i64 ch, .int .i64 fu] u (GivesS arrK yy u)) := fun u cs h hf => by rw [← HY.out]; exact IMPL.out ea eb ec ed bx br bc ch fu cs xx u h hf
  have HCY : Hid (aCnt xx ≤ 2097152 → aCnt yy ≤ 3000000) := fun h => by rw [← HY.out]; rw [flipped_cnt]; omega
  clear hy
  obtain ⟨w1, hw1⟩ : ∃ u, (((w.alloc (.cells #[.int .i64 ea, .int .i64 eb, .int .i64 ec, .int .i64 ed] 48)).alloc (.cells #[.slice a0 n0 c0, .slice a1 n1 c1, .slice a2 n2 c2] 51)).alloc (.cells #[.int .i64 bx, .int .i64 br, .int .i64 bc] 65)) = u := ⟨_, rfl⟩
  obtain ⟨gg1, mm1, aa1, hb1⟩ := alloc3 hw1
  have HB1 : Hid (Below w.heap.size w w1) := hb1
  clear hb1
  clear hx hsv
  go_enter Try.func8, Try.ntmps8
  obtain ⟨kmm0, kmm1, kmm2⟩ := cells3 mm1
  go_wp2_with fail
  refine (szArray_k (arrK.below HX0.out HB1.out) 1048576 sv (by decide) (by decide) HSV.out).mono ?_
  rintro e w2 ⟨rfl, hb2⟩
  clear kmm0 kmm1 kmm2
  have gg2 := keep_block hb2 gg1 (lt_of_block gg1)
  have mm2 := keep_block hb2 mm1 (lt_of_block mm1)
  have aa2 := keep_block hb2 aa1 (lt_of_block aa1)
  have HB2 : Hid (Below w.heap.size w w2) := HB1.out.trans (hb2.mono HB1.out.size)
  clear gg1 mm1 aa1 HB1
  clear hb2
  clear hw1
  by_cases hs : sv < 0
  · have ts : decide (sv < 0) = true := decide_eq_true hs
    go_wp2_with fail
    go_ret
    exact ⟨rfl, HB2.out⟩
  have ts : decide (sv < 0) = false := decide_eq_false hs
  have hfit := arr_size (x := xx) (by rw [HSV.out]; exact hs)
  have HFIT := Lib.hid hfit.1
  have HCNT := Lib.hid hfit.2
  clear hs hfit
  have HC := HCY.out HCNT.out
  have HCYN := Lib.hid HC
  have t1x : decide (((1 + aCnt xx : Nat) : Int) < 0) = false := decide_eq_false (by omega)
  have t1y : decide (((1 + aCnt yy : Nat) : Int) < 0) = false := decide_eq_false (by omega)
  have tyy : (((1 + aCnt yy : Nat) : Int) != ((1 + aCnt yy : Nat) : Int)) = false := by simp
  obtain ⟨ky, hky⟩ : ∃ z : Int, ((1 + aCnt yy : Nat) : Int) = z := ⟨_, rfl⟩
  obtain ⟨kx, hkx⟩ : ∃ z : Int, ((1 + aCnt xx : Nat) : Int) = z := ⟨_, rfl⟩
  rw [hky] at t1y tyy
  rw [hkx] at t1x
  have HKY := Lib.hid hky
  have HKX := Lib.hid hkx
  clear HC hky hkx
  go_wp2_with fail
  refine wp_region_flowV (fun k => match k with | 0 => some (.agg #[.int .i64 ea, .int .i64 eb, .int .i64 ec, .int .i64 ed]) | 1 => some (.agg #[.int .i64 ea, .int .i64 eb, .int .i64 ec, .int .i64 ed]) | 2 => some (.agg #[.slice a0 n0 c0, .slice a1 n1 c1, .slice a2 n2 c2]) | 4 => some (.agg #[.int .i64 bx, .int .i64 br, .int .i64 bc]) | 5 => some (.agg #[.int .i64 bx, .int .i64 br, .int .i64 bc]) | 6 => some (.int .i64 ch) | 7 => some (.int .i64 fu) | _ => none) (fun listed x u => FactW 3 8 (HasK arrK xx w2.heap.size) listed x u ∧ FactW 8 10 (HasK arrK yy w2.heap.size) listed x u ∧ MadeK arrK 31 #[.slice none 0 0, .slice none 0 0, .slice none 0 0] 9 10 w2.heap.size yy listed x u) (fun _ => undef) (by kernel_rfl) (by kernel_rfl) ?hxR1 ?hSR1 ?hsR1 ?heR1
  case hxR1 => simp only [putsX, Act.put, List.setIfInBounds_toArray, List.set_cons_zero, List.set_cons_succ]
  case hSR1 => exact ⟨FactW.zero _ _ _ _ _ _, FactW.zero _ _ _ _ _ _, MadeK.zero _ _ _ _ _ _ _ _ _ _⟩
  case hsR1 =>
    simp only [flowSteps]
    refine ⟨?sR1_0, ?sR1_1, ?sR1_2, ?sR1_3, ?sR1_4, ?sR1_5, ?sR1_6, ?sR1_7, ?sR1_8, ?sR1_9, ?sR1_10, trivial⟩
    case sR1_0 =>
      intro listed bb u hsz hn hwt hinv
      obtain ⟨x, rfl, hC, hU, hA0, hO, hM⟩ := hinv
      simp only [putsX, Act.put, List.setIfInBounds_toArray, List.set_cons_zero, List.set_cons_succ]
      obtain ⟨d0, d1, d2, d3⟩ := cells4 (keep_block hC gg2 (lt_of_block gg2))
      go_wp2_with fail
      refine stepQ_normal ⟨trivial, upd x 0 (.agg #[.int .i64 ea, .int .i64 eb, .int .i64 ec, .int .i64 ed]), ?_, hC, hU.step (fun _ h => Option.some.inj h), hA0.keep (by decide) (by decide) _ id, hO.keep (by decide) (by decide) _ id, hM.keep (by decide) (by decide) _ (Below.refl _ _)⟩
      simp only [upd]
      rfl
    case sR1_1 =>
      intro listed bb u hsz hn hwt hinv
      obtain ⟨x, rfl, hC, hU, hA0, hO, hM⟩ := hinv
      have f0 := Lib.hid (hU 0 _ rfl (hwt 0 (by kernel_rfl)))
      simp only [putsX, Act.put, List.setIfInBounds_toArray, List.set_cons_zero, List.set_cons_succ]
      have hcall : Calls Try.prog 24 #[x 0] u (Gives (.agg #[.int .i64 ea, .int .i64 eb, .int .i64 ec, .int .i64 ed]) u) := by rw [f0.out]; exact toGeometry_any _ _ _ _ _
      go_wp2_with fail
      refine hcall.mono ?_
      rintro e' u' ⟨rfl, hb⟩
      go_wp2_with fail
      refine stepQ_normal ⟨trivial, upd x 1 (.agg #[.int .i64 ea, .int .i64 eb, .int .i64 ec, .int .i64 ed]), ?_, hC.trans (hb.mono hC.size), hU.step (fun _ h => Option.some.inj h), hA0.keep (by decide) (by decide) _ (fun h => HasK.below h (hb)), hO.keep (by decide) (by decide) _ (fun h => HasK.below h (hb)), hM.keep (by decide) (by decide) _ (hb)⟩
      simp only [upd]
      rfl
    case sR1_2 =>
      intro listed bb u hsz hn hwt hinv
      obtain ⟨x, rfl, hC, hU, hA0, hO, hM⟩ := hinv
      simp only [putsX, Act.put, List.setIfInBounds_toArray, List.set_cons_zero, List.set_cons_succ]
      obtain ⟨d0, d1, d2⟩ := cells3 (keep_block hC mm2 (lt_of_block mm2))
      go_wp2_with fail
      refine stepQ_normal ⟨trivial, upd x 2 (.agg #[.slice a0 n0 c0, .slice a1 n1 c1, .slice a2 n2 c2]), ?_, hC, hU.step (fun _ h => Option.some.inj h), hA0.keep (by decide) (by decide) _ id, hO.keep (by decide) (by decide) _ id, hM.keep (by decide) (by decide) _ (Below.refl _ _)⟩
      simp only [upd]
      rfl
    case sR1_3 =>
      intro listed bb u hsz hn hwt hinv
      obtain ⟨x, rfl, hC, hU, hA0, hO, hM⟩ := hinv
      have f2 := Lib.hid (hU 2 _ rfl (hwt 2 (by kernel_rfl)))
      simp only [putsX, Act.put, List.setIfInBounds_toArray, List.set_cons_zero, List.set_cons_succ]
      have hbu := HB2.out.trans (hC.mono HB2.out.size)
      have hcall : Calls Try.prog 25 #[x 2] u (GivesS arrK xx u) := by rw [f2.out]; exact toArray_k (arrK.below HX0.out hbu) HFIT.out.1 HFIT.out.2.1 HFIT.out.2.2.1 HFIT.out.2.2.2
      go_wp2_with fail
      refine hcall.mono ?_
      rintro e' u' ⟨cs, SS, rfl, own, hss, hb⟩
      go_wp2_with fail
      refine stepQ_normal ⟨trivial, upd x 3 (.agg cs.toArray), ?_, hC.trans (hb.mono hC.size), hU.step (fun _ h => by cases h), FactW.new ⟨cs, SS, rfl, own, fun b h => Nat.le_trans hC.size (hss b h)⟩, hO.keep (by decide) (by decide) _ (fun h => HasK.below h (hb)), hM.keep (by decide) (by decide) _ (hb)⟩
      simp only [upd]
      rfl
    case sR1_4 =>
      intro listed bb u hsz hn hwt hinv
      obtain ⟨x, rfl, hC, hU, hA0, hO, hM⟩ := hinv
      simp only [putsX, Act.put, List.setIfInBounds_toArray, List.set_cons_zero, List.set_cons_succ]
      obtain ⟨d0, d1, d2⟩ := cells3 (keep_block hC aa2 (lt_of_block aa2))
      go_wp2_with fail
      refine stepQ_normal ⟨trivial, upd x 4 (.agg #[.int .i64 bx, .int .i64 br, .int .i64 bc]), ?_, hC, hU.step (fun _ h => Option.some.inj h), hA0.keep (by decide) (by decide) _ id, hO.keep (by decide) (by decide) _ id, hM.keep (by decide) (by decide) _ (Below.refl _ _)⟩
      simp only [upd]
      rfl
    case sR1_5 =>
      intro listed bb u hsz hn hwt hinv
      obtain ⟨x, rfl, hC, hU, hA0, hO, hM⟩ := hinv
      have f4 := Lib.hid (hU 4 _ rfl (hwt 4 (by kernel_rfl)))
      simp only [putsX, Act.put, List.setIfInBounds_toArray, List.set_cons_zero, List.set_cons_succ]
      have hcall : Calls Try.prog 36 #[x 4] u (Gives (.agg #[.int .i64 bx, .int .i64 br, .int .i64 bc]) u) := by rw [f4.out]; exact toAddr_any _ _ _ _
      go_wp2_with fail
      refine hcall.mono ?_
      rintro e' u' ⟨rfl, hb⟩
      go_wp2_with fail
      refine stepQ_normal ⟨trivial, upd x 5 (.agg #[.int .i64 bx, .int .i64 br, .int .i64 bc]), ?_, hC.trans (hb.mono hC.size), hU.step (fun _ h => Option.some.inj h), hA0.keep (by decide) (by decide) _ (fun h => HasK.below h (hb)), hO.keep (by decide) (by decide) _ (fun h => HasK.below h (hb)), hM.keep (by decide) (by decide) _ (hb)⟩
      simp only [upd]
      rfl
    case sR1_6 =>
      intro listed bb u hsz hn hwt hinv
      obtain ⟨x, rfl, hC, hU, hA0, hO, hM⟩ := hinv
      simp only [putsX, Act.put, List.setIfInBounds_toArray, List.set_cons_zero, List.set_cons_succ]
      go_wp2_with fail
      refine stepQ_normal ⟨trivial, upd x 6 (.int .i64 ch), ?_, hC, hU.step (fun _ h => Option.some.inj h), hA0.keep (by decide) (by decide) _ id, hO.keep (by decide) (by decide) _ id, hM.keep (by decide) (by decide) _ (Below.refl _ _)⟩
      simp only [upd]
      rfl
    case sR1_7 =>
      intro listed bb u hsz hn hwt hinv
      obtain ⟨x, rfl, hC, hU, hA0, hO, hM⟩ := hinv
      simp only [putsX, Act.put, List.setIfInBounds_toArray, List.set_cons_zero, List.set_cons_succ]
      go_wp2_with fail
      refine stepQ_normal ⟨trivial, upd x 7 (.int .i64 fu), ?_, hC, hU.step (fun _ h => Option.some.inj h), hA0.keep (by decide) (by decide) _ id, hO.keep (by decide) (by decide) _ id, hM.keep (by decide) (by decide) _ (Below.refl _ _)⟩
      simp only [upd]
      rfl
    case sR1_8 =>
      intro listed bb u hsz hn hwt hinv
      obtain ⟨x, rfl, hC, hU, hA0, hO, hM⟩ := hinv
      have f1 := Lib.hid (hU 1 _ rfl (hwt 1 (by kernel_rfl)))
      have f5 := Lib.hid (hU 5 _ rfl (hwt 5 (by kernel_rfl)))
      have f6 := Lib.hid (hU 6 _ rfl (hwt 6 (by kernel_rfl)))
      have f7 := Lib.hid (hU 7 _ rfl (hwt 7 (by kernel_rfl)))
      simp only [putsX, Act.put, List.setIfInBounds_toArray, List.set_cons_zero, List.set_cons_succ]
      obtain ⟨cs0, S0, fp0, ow0, _⟩ := hA0 (hwt 3 (by kernel_rfl)) hn
      have hcall : Calls Try.prog 35 #[x 1, x 3, x 5, x 6, x 7] u (GivesS arrK yy u) := by rw [f1.out, fp0, f5.out, f6.out, f7.out]; exact SPEC.out u _ (arrK.read ow0) HFIT.out
      clear fp0
      go_wp2_with fail
      refine hcall.mono ?_
      rintro e' u' ⟨cs, SS, rfl, own, hss, hb⟩
      go_wp2_with fail
      refine stepQ_normal ⟨trivial, upd x 8 (.agg cs.toArray), ?_, hC.trans (hb.mono hC.size), hU.step (fun _ h => by cases h), FactW.call (by rw [hsz]; decide), FactW.new ⟨cs, SS, rfl, own, fun b h => Nat.le_trans hC.size (hss b h)⟩, hM.keep (by decide) (by decide) _ (hb)⟩
      simp only [upd]
      rfl
    case sR1_9 =>
      intro listed bb u hsz hn hwt hinv
      obtain ⟨x, rfl, hC, hU, hA0, hO, hM⟩ := hinv
      simp only [putsX, Act.put, List.setIfInBounds_toArray, List.set_cons_zero, List.set_cons_succ]
      go_wp2_with fail
      refine stepQ_normal ⟨trivial, upd x 9 (.pointer (some ⟨u.heap.size, 0, none⟩)), ?_, hC.alloc hC.size _, hU.step (fun _ h => by cases h), hA0.keep (by decide) (by decide) _ (fun h => HasK.below h (below_allocK _ _)), hO.keep (by decide) (by decide) _ (fun h => HasK.below h (below_allocK _ _)), hM.new (by decide) hn hC.size⟩
      simp only [upd]
      rfl
    case sR1_10 =>
      intro listed bb u hsz hn hwt hinv
      obtain ⟨x, rfl, hC, hU, hA0, hO, hM⟩ := hinv
      simp only [putsX, Act.put, List.setIfInBounds_toArray, List.set_cons_zero, List.set_cons_succ]
      obtain ⟨g, fg, hg, hh⟩ := hM.there (hwt 9 (by kernel_rfl)) hn
      obtain ⟨cs, SS, fp, own, hss⟩ := hO (hwt 8 (by kernel_rfl)) hn
      obtain ⟨a0, n0, c0, a1, n1, c1, a2, n2, c2, rfl, _, _, _⟩ := arr_rd (arrK.read own)
      have FG := Lib.hid fg
      have FP := Lib.hid fp
      rw [FG.out, FP.out]
      obtain ⟨y0, y1, y2⟩ := cells3 hh
      have t0 := thawed hh 0
      have t1 := thawed hh 1
      have t2 := thawed hh 2
      have hng : g ∉ SS := arrTy.notin own hh (by decide)
      have own0 := own
      have hfin := set_cells (set_cells (set_cells (hh) 0 (.slice a0 n0 c0)) 1 (.slice a1 n1 c1)) 2 (.slice a2 n2 c2)
      have OW := Lib.hid (Kn.ownSet arrK (Kn.ownSet arrK (Kn.ownSet arrK own0 (p := ⟨g, 0, none⟩) (fun b h e => hng ((show b = g from e) ▸ h)) (.slice a0 n0 c0)) (p := ⟨g, 1, none⟩) (fun b h e => hng ((show b = g from e) ▸ h)) (.slice a1 n1 c1)) (p := ⟨g, 2, none⟩) (fun b h e => hng ((show b = g from e) ▸ h)) (.slice a2 n2 c2))
      have HSS := Lib.hid hss
      have HNG := Lib.hid hng
      clear hh fg fp own own0 hss hng
      go_wp2_with fail
      refine stepQ_normal ⟨trivial, upd x 10 undef, ?_, (((hC).setCell (by exact hg) _).setCell (by exact hg) _).setCell (by exact hg) _, hU.step (fun _ h => by cases h), FactW.gone (hwt 8 (by kernel_rfl)), FactW.call (by rw [hsz]; decide), MadeK.fill (by decide) (hwt 9 (by kernel_rfl)) (by rw [hsz]; decide) FG.out hg hfin OW.out HNG.out HSS.out⟩
      simp only [upd]
      simp only [FG.out, FP.out]
      (try rfl)
  case heR1 =>
    intro listed q w3 hall hC hU hS
    obtain ⟨hA0, hO, hM⟩ := hS
    obtain ⟨PV, cs, SV, fg, hgP, hh, own, hng, hss⟩ := hM.full (hall 9 (by decide)) (hall 10 (by decide))
    obtain ⟨Va0, Vn0, Vc0, Va1, Vn1, Vc1, Va2, Vn2, Vc2, rfl, _, _, _⟩ := arr_rd (arrK.read own)
    simp only [putsX, Act.put, List.setIfInBounds_toArray, List.set_cons_zero, List.set_cons_succ]
    rw [fg]
    clear hall hU fg hA0 hO hM
    generalize q 0 = _q0, q 1 = _q1, q 2 = _q2, q 3 = _q3, q 4 = _q4, q 5 = _q5, q 6 = _q6, q 7 = _q7, q 8 = _q8
    have gg3 := keep_block hC gg2 (lt_of_block gg2)
    have mm3 := keep_block hC mm2 (lt_of_block mm2)
    have aa3 := keep_block hC aa2 (lt_of_block aa2)
    have HB3 : Hid (Below w.heap.size w w3) := HB2.out.trans (hC.mono HB2.out.size)
    have BV : Hid (∀ b ∈ SV, w2.heap.size ≤ b) := hss
    have V3 : Hid (arrK.own w3 SV [.slice Va0 Vn0 Vc0, .slice Va1 Vn1 Vc1, .slice Va2 Vn2 Vc2] yy) := own
    have qV3 := hh
    have NVgg : Hid (w.heap.size ∉ SV) := fun h => by have h1 := lt_of_block gg2; have h2 := BV.out _ h; omega
    have NVmm : Hid ((w.heap.size + 1) ∉ SV) := fun h => by have h1 := lt_of_block mm2; have h2 := BV.out _ h; omega
    have NVaa : Hid ((w.heap.size + 1 + 1) ∉ SV) := fun h => by have h1 := lt_of_block aa2; have h2 := BV.out _ h; omega
    have NVqV : Hid (PV ∉ SV) := hng
    clear own hss hh hC hng hgP
    clear gg2 mm2 aa2 HB2
    have SZX : Hid (w.heap.size ≤ w3.heap.size) := HB3.out.size
    obtain ⟨kmm0, kmm1, kmm2⟩ := cells3 mm3
    go_wp2_with fail
    refine (toArray_k (arrK.below HX0.out HB3.out) HFIT.out.1 HFIT.out.2.1 HFIT.out.2.2.1 HFIT.out.2.2.2).mono ?_
    rintro e w4 ⟨cs, SX, rfl, own4, hs4, hb4⟩
    clear kmm0 kmm1 kmm2
    have gg4 := keep_block hb4 gg3 (lt_of_block gg3)
    have mm4 := keep_block hb4 mm3 (lt_of_block mm3)
    have aa4 := keep_block hb4 aa3 (lt_of_block aa3)
    have qV4 := keep_block hb4 qV3 (lt_of_block qV3)
    have V4 : Hid (arrK.own w4 SV [.slice Va0 Vn0 Vc0, .slice Va1 Vn1 Vc1, .slice Va2 Vn2 Vc2] yy) := arrK.ownBelow V3.out hb4
    have HB4 : Hid (Below w.heap.size w w4) := HB3.out.trans (hb4.mono HB3.out.size)
    have BX : Hid (∀ b ∈ SX, w3.heap.size ≤ b) := hs4
    clear hs4
    obtain ⟨Xa0, Xn0, Xc0, Xa1, Xn1, Xc1, Xa2, Xn2, Xc2, rfl, _, _, _⟩ := arr_rd (arrK.read own4)
    have X4 : Hid (arrK.own w4 SX [.slice Xa0 Xn0 Xc0, .slice Xa1 Xn1 Xc1, .slice Xa2 Xn2 Xc2] xx) := own4
    have DVX : Hid (∀ b ∈ SV, b ∉ SX) := fun b h1 h2 => by have h3 := arrK.lt V3.out b h1; have h4 := BX.out b h2; omega
    have NXgg : Hid (w.heap.size ∉ SX) := fun h => by have h1 := lt_of_block gg3; have h2 := BX.out _ h; omega
    have NXmm : Hid ((w.heap.size + 1) ∉ SX) := fun h => by have h1 := lt_of_block mm3; have h2 := BX.out _ h; omega
    have NXaa : Hid ((w.heap.size + 1 + 1) ∉ SX) := fun h => by have h1 := lt_of_block aa3; have h2 := BX.out _ h; omega
    have NXqV : Hid (PV ∉ SX) := fun h => by have h1 := lt_of_block qV3; have h2 := BX.out _ h; omega
    clear own4 hb4
    clear gg3 mm3 aa3 qV3 V3 HB3
    obtain ⟨PX, hPX⟩ : ∃ P, w4.heap.size = P := ⟨_, rfl⟩
    have NVqX : Hid (PX ∉ SV) := fun h => by have h1 := arrK.lt V4.out _ h; omega
    have NXqX : Hid (PX ∉ SX) := fun h => by have h1 := arrK.lt X4.out _ h; omega
    have HPX := Lib.hid hPX
    clear hPX
    have hb5 : Below w4.heap.size w4 (w4.alloc (.cells #[.slice Xa0 Xn0 Xc0, .slice Xa1 Xn1 Xc1, .slice Xa2 Xn2 Xc2] 31)) := (Below.refl _ _).alloc (Nat.le_refl _) _
    have gg5 := keep_block hb5 gg4 (lt_of_block gg4)
    have mm5 := keep_block hb5 mm4 (lt_of_block mm4)
    have aa5 := keep_block hb5 aa4 (lt_of_block aa4)
    have qV5 := keep_block hb5 qV4 (lt_of_block qV4)
    have V5 : Hid (arrK.own (w4.alloc (.cells #[.slice Xa0 Xn0 Xc0, .slice Xa1 Xn1 Xc1, .slice Xa2 Xn2 Xc2] 31)) SV [.slice Va0 Vn0 Vc0, .slice Va1 Vn1 Vc1, .slice Va2 Vn2 Vc2] yy) := arrK.ownBelow V4.out hb5
    have X5 : Hid (arrK.own (w4.alloc (.cells #[.slice Xa0 Xn0 Xc0, .slice Xa1 Xn1 Xc1, .slice Xa2 Xn2 Xc2] 31)) SX [.slice Xa0 Xn0 Xc0, .slice Xa1 Xn1 Xc1, .slice Xa2 Xn2 Xc2] xx) := arrK.ownBelow X4.out hb5
    have qX5 := heap_alloc_new w4 (.cells #[.slice Xa0 Xn0 Xc0, .slice Xa1 Xn1 Xc1, .slice Xa2 Xn2 Xc2] 31)
    have HB5 : Hid (Below w.heap.size w (w4.alloc (.cells #[.slice Xa0 Xn0 Xc0, .slice Xa1 Xn1 Xc1, .slice Xa2 Xn2 Xc2] 31))) := HB4.out.trans (hb5.mono HB4.out.size)
    go_wp2_with fail
    clear hb5
    clear gg4 mm4 aa4 qV4 V4 X4 HB4
    generalize (w4.alloc (.cells #[.slice Xa0 Xn0 Xc0, .slice Xa1 Xn1 Xc1, .slice Xa2 Xn2 Xc2] 31)) = w5 at gg5 mm5 aa5 qV5 V5 X5 qX5 HB5 ⊢
    rw [HPX.out] at qX5
    (try simp only [HPX.out])
    clear HPX
    have SZG : Hid (w.heap.size ≤ w5.heap.size) := HB5.out.size
    go_wp2_with fail
    refine wp_region_flowV (fun k => match k with | 0 => some (.agg #[.int .i64 ea, .int .i64 eb, .int .i64 ec, .int .i64 ed]) | 1 => some (.agg #[.int .i64 ea, .int .i64 eb, .int .i64 ec, .int .i64 ed]) | 2 => some (.agg #[.slice Xa0 Xn0 Xc0, .slice Xa1 Xn1 Xc1, .slice Xa2 Xn2 Xc2]) | 3 => some (.agg #[.int .i64 bx, .int .i64 br, .int .i64 bc]) | 4 => some (.agg #[.int .i64 bx, .int .i64 br, .int .i64 bc]) | 5 => some (.int .i64 ch) | 6 => some (.int .i64 fu) | _ => none) (fun listed x u => FactW 7 9 (HasK arrK yy w5.heap.size) listed x u ∧ MadeK arrK 31 #[.slice none 0 0, .slice none 0 0, .slice none 0 0] 8 9 w5.heap.size yy listed x u) (fun _ => undef) (by kernel_rfl) (by kernel_rfl) ?hxR2 ?hSR2 ?hsR2 ?heR2
    case hxR2 => simp only [putsX, Act.put, List.setIfInBounds_toArray, List.set_cons_zero, List.set_cons_succ]
    case hSR2 => exact ⟨FactW.zero _ _ _ _ _ _, MadeK.zero _ _ _ _ _ _ _ _ _ _⟩
    case hsR2 =>
      simp only [flowSteps]
      refine ⟨?sR2_0, ?sR2_1, ?sR2_2, ?sR2_3, ?sR2_4, ?sR2_5, ?sR2_6, ?sR2_7, ?sR2_8, ?sR2_9, trivial⟩
      case sR2_0 =>
        intro listed bb u hsz hn hwt hinv
        obtain ⟨x, rfl, hC, hU, hO, hM⟩ := hinv
        simp only [putsX, Act.put, List.setIfInBounds_toArray, List.set_cons_zero, List.set_cons_succ]
        obtain ⟨d0, d1, d2, d3⟩ := cells4 (keep_block hC gg5 (lt_of_block gg5))
        go_wp2_with fail
        refine stepQ_normal ⟨trivial, upd x 0 (.agg #[.int .i64 ea, .int .i64 eb, .int .i64 ec, .int .i64 ed]), ?_, hC, hU.step (fun _ h => Option.some.inj h), hO.keep (by decide) (by decide) _ id, hM.keep (by decide) (by decide) _ (Below.refl _ _)⟩
        simp only [upd]
        rfl
      case sR2_1 =>
        intro listed bb u hsz hn hwt hinv
        obtain ⟨x, rfl, hC, hU, hO, hM⟩ := hinv
        have f0 := Lib.hid (hU 0 _ rfl (hwt 0 (by kernel_rfl)))
        simp only [putsX, Act.put, List.setIfInBounds_toArray, List.set_cons_zero, List.set_cons_succ]
        have hcall : Calls Try.prog 24 #[x 0] u (Gives (.agg #[.int .i64 ea, .int .i64 eb, .int .i64 ec, .int .i64 ed]) u) := by rw [f0.out]; exact toGeometry_any _ _ _ _ _
        go_wp2_with fail
        refine hcall.mono ?_
        rintro e' u' ⟨rfl, hb⟩
        go_wp2_with fail
        refine stepQ_normal ⟨trivial, upd x 1 (.agg #[.int .i64 ea, .int .i64 eb, .int .i64 ec, .int .i64 ed]), ?_, hC.trans (hb.mono hC.size), hU.step (fun _ h => Option.some.inj h), hO.keep (by decide) (by decide) _ (fun h => HasK.below h (hb)), hM.keep (by decide) (by decide) _ (hb)⟩
        simp only [upd]
        rfl
      case sR2_2 =>
        intro listed bb u hsz hn hwt hinv
        obtain ⟨x, rfl, hC, hU, hO, hM⟩ := hinv
        simp only [putsX, Act.put, List.setIfInBounds_toArray, List.set_cons_zero, List.set_cons_succ]
        obtain ⟨d0, d1, d2⟩ := cells3 (keep_block hC qX5 (lt_of_block qX5))
        go_wp2_with fail
        refine stepQ_normal ⟨trivial, upd x 2 (.agg #[.slice Xa0 Xn0 Xc0, .slice Xa1 Xn1 Xc1, .slice Xa2 Xn2 Xc2]), ?_, hC, hU.step (fun _ h => Option.some.inj h), hO.keep (by decide) (by decide) _ id, hM.keep (by decide) (by decide) _ (Below.refl _ _)⟩
        simp only [upd]
        rfl
      case sR2_3 =>
        intro listed bb u hsz hn hwt hinv
        obtain ⟨x, rfl, hC, hU, hO, hM⟩ := hinv
        simp only [putsX, Act.put, List.setIfInBounds_toArray, List.set_cons_zero, List.set_cons_succ]
        obtain ⟨d0, d1, d2⟩ := cells3 (keep_block hC aa5 (lt_of_block aa5))
        go_wp2_with fail
        refine stepQ_normal ⟨trivial, upd x 3 (.agg #[.int .i64 bx, .int .i64 br, .int .i64 bc]), ?_, hC, hU.step (fun _ h => Option.some.inj h), hO.keep (by decide) (by decide) _ id, hM.keep (by decide) (by decide) _ (Below.refl _ _)⟩
        simp only [upd]
        rfl
      case sR2_4 =>
        intro listed bb u hsz hn hwt hinv
        obtain ⟨x, rfl, hC, hU, hO, hM⟩ := hinv
        have f3 := Lib.hid (hU 3 _ rfl (hwt 3 (by kernel_rfl)))
        simp only [putsX, Act.put, List.setIfInBounds_toArray, List.set_cons_zero, List.set_cons_succ]
        have hcall : Calls Try.prog 36 #[x 3] u (Gives (.agg #[.int .i64 bx, .int .i64 br, .int .i64 bc]) u) := by rw [f3.out]; exact toAddr_any _ _ _ _
        go_wp2_with fail
        refine hcall.mono ?_
        rintro e' u' ⟨rfl, hb⟩
        go_wp2_with fail
        refine stepQ_normal ⟨trivial, upd x 4 (.agg #[.int .i64 bx, .int .i64 br, .int .i64 bc]), ?_, hC.trans (hb.mono hC.size), hU.step (fun _ h => Option.some.inj h), hO.keep (by decide) (by decide) _ (fun h => HasK.below h (hb)), hM.keep (by decide) (by decide) _ (hb)⟩
        simp only [upd]
        rfl
      case sR2_5 =>
        intro listed bb u hsz hn hwt hinv
        obtain ⟨x, rfl, hC, hU, hO, hM⟩ := hinv
        simp only [putsX, Act.put, List.setIfInBounds_toArray, List.set_cons_zero, List.set_cons_succ]
        go_wp2_with fail
        refine stepQ_normal ⟨trivial, upd x 5 (.int .i64 ch), ?_, hC, hU.step (fun _ h => Option.some.inj h), hO.keep (by decide) (by decide) _ id, hM.keep (by decide) (by decide) _ (Below.refl _ _)⟩
        simp only [upd]
        rfl
      case sR2_6 =>
        intro listed bb u hsz hn hwt hinv
        obtain ⟨x, rfl, hC, hU, hO, hM⟩ := hinv
        simp only [putsX, Act.put, List.setIfInBounds_toArray, List.set_cons_zero, List.set_cons_succ]
        go_wp2_with fail
        refine stepQ_normal ⟨trivial, upd x 6 (.int .i64 fu), ?_, hC, hU.step (fun _ h => Option.some.inj h), hO.keep (by decide) (by decide) _ id, hM.keep (by decide) (by decide) _ (Below.refl _ _)⟩
        simp only [upd]
        rfl
      case sR2_7 =>
        intro listed bb u hsz hn hwt hinv
        obtain ⟨x, rfl, hC, hU, hO, hM⟩ := hinv
        have f1 := Lib.hid (hU 1 _ rfl (hwt 1 (by kernel_rfl)))
        have f2 := Lib.hid (hU 2 _ rfl (hwt 2 (by kernel_rfl)))
        have f4 := Lib.hid (hU 4 _ rfl (hwt 4 (by kernel_rfl)))
        have f5 := Lib.hid (hU 5 _ rfl (hwt 5 (by kernel_rfl)))
        have f6 := Lib.hid (hU 6 _ rfl (hwt 6 (by kernel_rfl)))
        simp only [putsX, Act.put, List.setIfInBounds_toArray, List.set_cons_zero, List.set_cons_succ]
        have hcall : Calls Try.prog 21 #[x 1, x 2, x 4, x 5, x 6] u (GivesS arrK yy u) := by rw [f1.out, f2.out, f4.out, f5.out, f6.out]; exact IM.out u _ (arrK.read (arrK.ownBelow X5.out hC)) HFIT.out
        go_wp2_with fail
        refine hcall.mono ?_
        rintro e' u' ⟨cs, SS, rfl, own, hss, hb⟩
        go_wp2_with fail
        refine stepQ_normal ⟨trivial, upd x 7 (.agg cs.toArray), ?_, hC.trans (hb.mono hC.size), hU.step (fun _ h => by cases h), FactW.new ⟨cs, SS, rfl, own, fun b h => Nat.le_trans hC.size (hss b h)⟩, hM.keep (by decide) (by decide) _ (hb)⟩
        simp only [upd]
        rfl
      case sR2_8 =>
        intro listed bb u hsz hn hwt hinv
        obtain ⟨x, rfl, hC, hU, hO, hM⟩ := hinv
        simp only [putsX, Act.put, List.setIfInBounds_toArray, List.set_cons_zero, List.set_cons_succ]
        go_wp2_with fail
        refine stepQ_normal ⟨trivial, upd x 8 (.pointer (some ⟨u.heap.size, 0, none⟩)), ?_, hC.alloc hC.size _, hU.step (fun _ h => by cases h), hO.keep (by decide) (by decide) _ (fun h => HasK.below h (below_allocK _ _)), hM.new (by decide) hn hC.size⟩
        simp only [upd]
        rfl
      case sR2_9 =>
        intro listed bb u hsz hn hwt hinv
        obtain ⟨x, rfl, hC, hU, hO, hM⟩ := hinv
        simp only [putsX, Act.put, List.setIfInBounds_toArray, List.set_cons_zero, List.set_cons_succ]
        obtain ⟨g, fg, hg, hh⟩ := hM.there (hwt 8 (by kernel_rfl)) hn
        obtain ⟨cs, SS, fp, own, hss⟩ := hO (hwt 7 (by kernel_rfl)) hn
        obtain ⟨a0, n0, c0, a1, n1, c1, a2, n2, c2, rfl, _, _, _⟩ := arr_rd (arrK.read own)
        have FG := Lib.hid fg
        have FP := Lib.hid fp
        rw [FG.out, FP.out]
        obtain ⟨y0, y1, y2⟩ := cells3 hh
        have t0 := thawed hh 0
        have t1 := thawed hh 1
        have t2 := thawed hh 2
        have hng : g ∉ SS := arrTy.notin own hh (by decide)
        have own0 := own
        have hfin := set_cells (set_cells (set_cells (hh) 0 (.slice a0 n0 c0)) 1 (.slice a1 n1 c1)) 2 (.slice a2 n2 c2)
        have OW := Lib.hid (Kn.ownSet arrK (Kn.ownSet arrK (Kn.ownSet arrK own0 (p := ⟨g, 0, none⟩) (fun b h e => hng ((show b = g from e) ▸ h)) (.slice a0 n0 c0)) (p := ⟨g, 1, none⟩) (fun b h e => hng ((show b = g from e) ▸ h)) (.slice a1 n1 c1)) (p := ⟨g, 2, none⟩) (fun b h e => hng ((show b = g from e) ▸ h)) (.slice a2 n2 c2))
        have HSS := Lib.hid hss
        have HNG := Lib.hid hng
        clear hh fg fp own own0 hss hng
        go_wp2_with fail
        refine stepQ_normal ⟨trivial, upd x 9 undef, ?_, (((hC).setCell (by exact hg) _).setCell (by exact hg) _).setCell (by exact hg) _, hU.step (fun _ h => by cases h), FactW.call (by rw [hsz]; decide), MadeK.fill (by decide) (hwt 8 (by kernel_rfl)) (by rw [hsz]; decide) FG.out hg hfin OW.out HNG.out HSS.out⟩
        simp only [upd]
        simp only [FG.out, FP.out]
        (try rfl)
    case heR2 =>
      intro listed q w6 hall hC hU hS
      obtain ⟨hO, hM⟩ := hS
      obtain ⟨PG, cs, SG, fg, hgP, hh, own, hng, hss⟩ := hM.full (hall 8 (by decide)) (hall 9 (by decide))
      obtain ⟨Ga0, Gn0, Gc0, Ga1, Gn1, Gc1, Ga2, Gn2, Gc2, rfl, _, _, _⟩ := arr_rd (arrK.read own)
      simp only [putsX, Act.put, List.setIfInBounds_toArray, List.set_cons_zero, List.set_cons_succ]
      rw [fg]
      clear hall hU fg hO hM
      generalize q 0 = _q0, q 1 = _q1, q 2 = _q2, q 3 = _q3, q 4 = _q4, q 5 = _q5, q 6 = _q6, q 7 = _q7
      have gg6 := keep_block hC gg5 (lt_of_block gg5)
      have mm6 := keep_block hC mm5 (lt_of_block mm5)
      have aa6 := keep_block hC aa5 (lt_of_block aa5)
      have qV6 := keep_block hC qV5 (lt_of_block qV5)
      have qX6 := keep_block hC qX5 (lt_of_block qX5)
      have V6 : Hid (arrK.own w6 SV [.slice Va0 Vn0 Vc0, .slice Va1 Vn1 Vc1, .slice Va2 Vn2 Vc2] yy) := arrK.ownBelow V5.out hC
      have X6 : Hid (arrK.own w6 SX [.slice Xa0 Xn0 Xc0, .slice Xa1 Xn1 Xc1, .slice Xa2 Xn2 Xc2] xx) := arrK.ownBelow X5.out hC
      have HB6 : Hid (Below w.heap.size w w6) := HB5.out.trans (hC.mono HB5.out.size)
      have BG : Hid (∀ b ∈ SG, w5.heap.size ≤ b) := hss
      have G6 : Hid (arrK.own w6 SG [.slice Ga0 Gn0 Gc0, .slice Ga1 Gn1 Gc1, .slice Ga2 Gn2 Gc2] yy) := own
      have qG6 := hh
      have NVqG : Hid (PG ∉ SV) := fun h => by have h1 := arrK.lt V5.out _ h; omega
      have NXqG : Hid (PG ∉ SX) := fun h => by have h1 := arrK.lt X5.out _ h; omega
      have DVG : Hid (∀ b ∈ SV, b ∉ SG) := fun b h1 h2 => by have h3 := arrK.lt V5.out b h1; have h4 := BG.out b h2; omega
      have DXG : Hid (∀ b ∈ SX, b ∉ SG) := fun b h1 h2 => by have h3 := arrK.lt X5.out b h1; have h4 := BG.out b h2; omega
      have NGgg : Hid (w.heap.size ∉ SG) := fun h => by have h1 := lt_of_block gg5; have h2 := BG.out _ h; omega
      have NGmm : Hid ((w.heap.size + 1) ∉ SG) := fun h => by have h1 := lt_of_block mm5; have h2 := BG.out _ h; omega
      have NGaa : Hid ((w.heap.size + 1 + 1) ∉ SG) := fun h => by have h1 := lt_of_block aa5; have h2 := BG.out _ h; omega
      have NGqV : Hid (PV ∉ SG) := fun h => by have h1 := lt_of_block qV5; have h2 := BG.out _ h; omega
      have NGqX : Hid (PX ∉ SG) := fun h => by have h1 := lt_of_block qX5; have h2 := BG.out _ h; omega
      have NGqG : Hid (PG ∉ SG) := hng
      clear own hss hh hC hng hgP
      clear gg5 mm5 aa5 qV5 qX5 V5 X5 HB5
      obtain ⟨kqG0, kqG1, kqG2⟩ := cells3 qG6
      obtain ⟨kqV0, kqV1, kqV2⟩ := cells3 qV6
      go_wp2_with fail
      refine (eqArr_cs (arrK.read G6.out) (arrK.read V6.out)).mono ?_
      rintro e w7 ⟨rfl, hb7⟩
      clear kqG0 kqG1 kqG2 kqV0 kqV1 kqV2
      have gg7 := keep_block hb7 gg6 (lt_of_block gg6)
      have mm7 := keep_block hb7 mm6 (lt_of_block mm6)
      have aa7 := keep_block hb7 aa6 (lt_of_block aa6)
      have qV7 := keep_block hb7 qV6 (lt_of_block qV6)
      have qX7 := keep_block hb7 qX6 (lt_of_block qX6)
      have qG7 := keep_block hb7 qG6 (lt_of_block qG6)
      have V7 : Hid (arrK.own w7 SV [.slice Va0 Vn0 Vc0, .slice Va1 Vn1 Vc1, .slice Va2 Vn2 Vc2] yy) := arrK.ownBelow V6.out hb7
      have X7 : Hid (arrK.own w7 SX [.slice Xa0 Xn0 Xc0, .slice Xa1 Xn1 Xc1, .slice Xa2 Xn2 Xc2] xx) := arrK.ownBelow X6.out hb7
      have G7 : Hid (arrK.own w7 SG [.slice Ga0 Gn0 Gc0, .slice Ga1 Gn1 Gc1, .slice Ga2 Gn2 Gc2] yy) := arrK.ownBelow G6.out hb7
      have HB7 : Hid (Below w.heap.size w w7) := HB6.out.trans (hb7.mono HB6.out.size)
      clear gg6 mm6 aa6 qV6 qX6 qG6 V6 X6 G6 HB6
      clear hb7
      go_wp2_with fail
      refine wp_region_flowV (fun k => match k with | 0 => some (.agg #[.slice Xa0 Xn0 Xc0, .slice Xa1 Xn1 Xc1, .slice Xa2 Xn2 Xc2]) | 1 => some (.agg #[.slice a0 n0 c0, .slice a1 n1 c1, .slice a2 n2 c2]) | 3 => some (.bool true) | 4 => some (.bool false) | _ => none) (fun listed x u => FactW 2 3 (HasK arrK xx w7.heap.size) listed x u) (fun _ => undef) (by kernel_rfl) (by kernel_rfl) ?hxR3 ?hSR3 ?hsR3 ?heR3
      case hxR3 => simp only [putsX, Act.put, List.setIfInBounds_toArray, List.set_cons_zero, List.set_cons_succ]
      case hSR3 => exact FactW.zero _ _ _ _ _ _
      case hsR3 =>
        simp only [flowSteps]
        refine ⟨?sR3_0, ?sR3_1, ?sR3_2, ?sR3_3, ?sR3_4, trivial⟩
        case sR3_0 =>
          intro listed bb u hsz hn hwt hinv
          obtain ⟨x, rfl, hC, hU, hA0⟩ := hinv
          simp only [putsX, Act.put, List.setIfInBounds_toArray, List.set_cons_zero, List.set_cons_succ]
          obtain ⟨d0, d1, d2⟩ := cells3 (keep_block hC qX7 (lt_of_block qX7))
          go_wp2_with fail
          refine stepQ_normal ⟨trivial, upd x 0 (.agg #[.slice Xa0 Xn0 Xc0, .slice Xa1 Xn1 Xc1, .slice Xa2 Xn2 Xc2]), ?_, hC, hU.step (fun _ h => Option.some.inj h), hA0.keep (by decide) (by decide) _ id⟩
          simp only [upd]
          rfl
        case sR3_1 =>
          intro listed bb u hsz hn hwt hinv
          obtain ⟨x, rfl, hC, hU, hA0⟩ := hinv
          simp only [putsX, Act.put, List.setIfInBounds_toArray, List.set_cons_zero, List.set_cons_succ]
          obtain ⟨d0, d1, d2⟩ := cells3 (keep_block hC mm7 (lt_of_block mm7))
          go_wp2_with fail
          refine stepQ_normal ⟨trivial, upd x 1 (.agg #[.slice a0 n0 c0, .slice a1 n1 c1, .slice a2 n2 c2]), ?_, hC, hU.step (fun _ h => Option.some.inj h), hA0.keep (by decide) (by decide) _ id⟩
          simp only [upd]
          rfl
        case sR3_2 =>
          intro listed bb u hsz hn hwt hinv
          obtain ⟨x, rfl, hC, hU, hA0⟩ := hinv
          have f1 := Lib.hid (hU 1 _ rfl (hwt 1 (by kernel_rfl)))
          simp only [putsX, Act.put, List.setIfInBounds_toArray, List.set_cons_zero, List.set_cons_succ]
          have hbu := HB7.out.trans (hC.mono HB7.out.size)
          have hcall : Calls Try.prog 25 #[x 1] u (GivesS arrK xx u) := by rw [f1.out]; exact toArray_k (arrK.below HX0.out hbu) HFIT.out.1 HFIT.out.2.1 HFIT.out.2.2.1 HFIT.out.2.2.2
          go_wp2_with fail
          refine hcall.mono ?_
          rintro e' u' ⟨cs, SS, rfl, own, hss, hb⟩
          go_wp2_with fail
          refine stepQ_normal ⟨trivial, upd x 2 (.agg cs.toArray), ?_, hC.trans (hb.mono hC.size), hU.step (fun _ h => by cases h), FactW.new ⟨cs, SS, rfl, own, fun b h => Nat.le_trans hC.size (hss b h)⟩⟩
          simp only [upd]
          rfl
        case sR3_3 =>
          intro listed bb u hsz hn hwt hinv
          obtain ⟨x, rfl, hC, hU, hA0⟩ := hinv
          have f0 := Lib.hid (hU 0 _ rfl (hwt 0 (by kernel_rfl)))
          simp only [putsX, Act.put, List.setIfInBounds_toArray, List.set_cons_zero, List.set_cons_succ]
          obtain ⟨cs0, S0, fp0, ow0, _⟩ := hA0 (hwt 2 (by kernel_rfl)) hn
          have hcall : Calls Try.prog 27 #[x 0, x 2] u (Gives (.bool true) u) := by rw [f0.out, fp0]; exact eqArr_cs (arrK.read (arrK.ownBelow X7.out hC)) (arrK.read ow0)
          clear fp0
          go_wp2_with fail
          refine hcall.mono ?_
          rintro e' u' ⟨rfl, hb⟩
          go_wp2_with fail
          refine stepQ_normal ⟨trivial, upd x 3 (.bool true), ?_, hC.trans (hb.mono hC.size), hU.step (fun _ h => Option.some.inj h), FactW.call (by rw [hsz]; decide)⟩
          simp only [upd]
          rfl
        case sR3_4 =>
          intro listed bb u hsz hn hwt hinv
          obtain ⟨x, rfl, hC, hU, hA0⟩ := hinv
          have f3 := Lib.hid (hU 3 _ rfl (hwt 3 (by kernel_rfl)))
          simp only [putsX, Act.put, List.setIfInBounds_toArray, List.set_cons_zero, List.set_cons_succ]
          rw [f3.out]
          go_wp2_with fail
          refine stepQ_normal ⟨trivial, upd x 4 (.bool false), ?_, hC, hU.step (fun _ h => Option.some.inj h), hA0.keep (by decide) (by decide) _ id⟩
          simp only [upd]
          simp only [f3.out]
          (try rfl)
      case heR3 =>
        intro listed q w8 hall hC hU hS
        have hA0 := hS
        have fq3 := hU 3 _ rfl (hall 3 (by decide))
        have fq4 := hU 4 _ rfl (hall 4 (by decide))
        simp only [putsX, Act.put, List.setIfInBounds_toArray, List.set_cons_zero, List.set_cons_succ]
        rw [fq3, fq4]
        clear hall hU fq3 fq4 hA0
        generalize q 0 = _q0, q 1 = _q1, q 2 = _q2
        have gg8 := keep_block hC gg7 (lt_of_block gg7)
        have mm8 := keep_block hC mm7 (lt_of_block mm7)
        have aa8 := keep_block hC aa7 (lt_of_block aa7)
        have qV8 := keep_block hC qV7 (lt_of_block qV7)
        have qX8 := keep_block hC qX7 (lt_of_block qX7)
        have qG8 := keep_block hC qG7 (lt_of_block qG7)
        have V8 : Hid (arrK.own w8 SV [.slice Va0 Vn0 Vc0, .slice Va1 Vn1 Vc1, .slice Va2 Vn2 Vc2] yy) := arrK.ownBelow V7.out hC
        have X8 : Hid (arrK.own w8 SX [.slice Xa0 Xn0 Xc0, .slice Xa1 Xn1 Xc1, .slice Xa2 Xn2 Xc2] xx) := arrK.ownBelow X7.out hC
        have G8 : Hid (arrK.own w8 SG [.slice Ga0 Gn0 Gc0, .slice Ga1 Gn1 Gc1, .slice Ga2 Gn2 Gc2] yy) := arrK.ownBelow G7.out hC
        have HB8 : Hid (Below w.heap.size w w8) := HB7.out.trans (hC.mono HB7.out.size)
        clear hC
        clear gg7 mm7 aa7 qV7 qX7 qG7 V7 X7 G7 HB7
        obtain ⟨kqX0, kqX1, kqX2⟩ := cells3 qX8
        go_wp2_with fail
        refine (markArr_v X8.out (Nat.le_trans HCNT.out (by decide)) kx HKX.out).mono ?_
        rintro e w9 ⟨rfl, own9, ho9⟩
        clear kqX0 kqX1 kqX2
        have gg9 := (ho9.block _ (lt_of_block gg8) NXgg.out).trans gg8
        have mm9 := (ho9.block _ (lt_of_block mm8) NXmm.out).trans mm8
        have aa9 := (ho9.block _ (lt_of_block aa8) NXaa.out).trans aa8
        have qV9 := (ho9.block _ (lt_of_block qV8) NXqV.out).trans qV8
        have qX9 := (ho9.block _ (lt_of_block qX8) NXqX.out).trans qX8
        have qG9 := (ho9.block _ (lt_of_block qG8) NXqG.out).trans qG8
        have V9 : Hid (arrK.own w9 SV [.slice Va0 Vn0 Vc0, .slice Va1 Vn1 Vc1, .slice Va2 Vn2 Vc2] yy) := arrK.ownKeep V8.out ho9 DVX.out
        have G9 : Hid (arrK.own w9 SG [.slice Ga0 Gn0 Gc0, .slice Ga1 Gn1 Gc1, .slice Ga2 Gn2 Gc2] yy) := arrK.ownKeep G8.out ho9 (fun b h1 h2 => DXG.out b h2 h1)
        have HB9 : Hid (Below w.heap.size w w9) := HB8.out.trans (ho9.below (fun b h => Nat.le_trans SZX.out (BX.out b h)) HB8.out.size)
        have X9 : Hid (arrK.own w9 SX [.slice Xa0 Xn0 Xc0, .slice Xa1 Xn1 Xc1, .slice Xa2 Xn2 Xc2] (aMk xx 1)) := own9
        clear own9 ho9
        clear gg8 mm8 aa8 qV8 qX8 qG8 V8 X8 G8 HB8
        clear X9
        obtain ⟨kqG0, kqG1, kqG2⟩ := cells3 qG9
        obtain ⟨kqV0, kqV1, kqV2⟩ := cells3 qV9
        go_wp2_with fail
        refine (eqArr_cs (arrK.read G9.out) (arrK.read V9.out)).mono ?_
        rintro e w10 ⟨rfl, hb10⟩
        clear kqG0 kqG1 kqG2 kqV0 kqV1 kqV2
        have gg10 := keep_block hb10 gg9 (lt_of_block gg9)
        have mm10 := keep_block hb10 mm9 (lt_of_block mm9)
        have aa10 := keep_block hb10 aa9 (lt_of_block aa9)
        have qV10 := keep_block hb10 qV9 (lt_of_block qV9)
        have qX10 := keep_block hb10 qX9 (lt_of_block qX9)
        have qG10 := keep_block hb10 qG9 (lt_of_block qG9)
        have V10 : Hid (arrK.own w10 SV [.slice Va0 Vn0 Vc0, .slice Va1 Vn1 Vc1, .slice Va2 Vn2 Vc2] yy) := arrK.ownBelow V9.out hb10
        have G10 : Hid (arrK.own w10 SG [.slice Ga0 Gn0 Gc0, .slice Ga1 Gn1 Gc1, .slice Ga2 Gn2 Gc2] yy) := arrK.ownBelow G9.out hb10
        have HB10 : Hid (Below w.heap.size w w10) := HB9.out.trans (hb10.mono HB9.out.size)
        clear gg9 mm9 aa9 qV9 qX9 qG9 V9 G9 HB9
        clear hb10
        obtain ⟨kqG0, kqG1, kqG2⟩ := cells3 qG10
        go_wp2_with fail
        refine (markArr_v G10.out (Nat.le_trans HCYN.out (by decide)) ky HKY.out).mono ?_
        rintro e w11 ⟨rfl, own11, ho11⟩
        clear kqG0 kqG1 kqG2
        have gg11 := (ho11.block _ (lt_of_block gg10) NGgg.out).trans gg10
        have mm11 := (ho11.block _ (lt_of_block mm10) NGmm.out).trans mm10
        have aa11 := (ho11.block _ (lt_of_block aa10) NGaa.out).trans aa10
        have qV11 := (ho11.block _ (lt_of_block qV10) NGqV.out).trans qV10
        have qX11 := (ho11.block _ (lt_of_block qX10) NGqX.out).trans qX10
        have qG11 := (ho11.block _ (lt_of_block qG10) NGqG.out).trans qG10
        have V11 : Hid (arrK.own w11 SV [.slice Va0 Vn0 Vc0, .slice Va1 Vn1 Vc1, .slice Va2 Vn2 Vc2] yy) := arrK.ownKeep V10.out ho11 DVG.out
        have HB11 : Hid (Below w.heap.size w w11) := HB10.out.trans (ho11.below (fun b h => Nat.le_trans SZG.out (BG.out b h)) HB10.out.size)
        have G11 : Hid (arrK.own w11 SG [.slice Ga0 Gn0 Gc0, .slice Ga1 Gn1 Gc1, .slice Ga2 Gn2 Gc2] (aMk yy 1)) := own11
        clear own11 ho11
        clear gg10 mm10 aa10 qV10 qX10 qG10 V10 G10 HB10
        obtain ⟨kqG0, kqG1, kqG2⟩ := cells3 qG11
        go_wp2_with fail
        refine (heldArr_v (arrK.read G11.out) (Nat.le_trans HCYN.out (by decide)) ky HKY.out).mono ?_
        rintro e w12 ⟨rfl, hb12⟩
        clear kqG0 kqG1 kqG2
        have gg12 := keep_block hb12 gg11 (lt_of_block gg11)
        have mm12 := keep_block hb12 mm11 (lt_of_block mm11)
        have aa12 := keep_block hb12 aa11 (lt_of_block aa11)
        have qV12 := keep_block hb12 qV11 (lt_of_block qV11)
        have qX12 := keep_block hb12 qX11 (lt_of_block qX11)
        have qG12 := keep_block hb12 qG11 (lt_of_block qG11)
        have V12 : Hid (arrK.own w12 SV [.slice Va0 Vn0 Vc0, .slice Va1 Vn1 Vc1, .slice Va2 Vn2 Vc2] yy) := arrK.ownBelow V11.out hb12
        have G12 : Hid (arrK.own w12 SG [.slice Ga0 Gn0 Gc0, .slice Ga1 Gn1 Gc1, .slice Ga2 Gn2 Gc2] (aMk yy 1)) := arrK.ownBelow G11.out hb12
        have HB12 : Hid (Below w.heap.size w w12) := HB11.out.trans (hb12.mono HB11.out.size)
        clear gg11 mm11 aa11 qV11 qX11 qG11 V11 G11 HB11
        clear hb12
        go_wp2_with fail
        refine wp_region_flowV (fun k => match k with | 0 => some (.agg #[.int .i64 ea, .int .i64 eb, .int .i64 ec, .int .i64 ed]) | 1 => some (.agg #[.int .i64 ea, .int .i64 eb, .int .i64 ec, .int .i64 ed]) | 2 => some (.agg #[.slice a0 n0 c0, .slice a1 n1 c1, .slice a2 n2 c2]) | 4 => some (.agg #[.int .i64 bx, .int .i64 br, .int .i64 bc]) | 5 => some (.agg #[.int .i64 bx, .int .i64 br, .int .i64 bc]) | 6 => some (.int .i64 ch) | 7 => some (.int .i64 fu) | _ => none) (fun listed x u => FactW 3 8 (HasK arrK xx w12.heap.size) listed x u ∧ FactW 8 10 (HasK arrK yy w12.heap.size) listed x u ∧ MadeK arrK 31 #[.slice none 0 0, .slice none 0 0, .slice none 0 0] 9 10 w12.heap.size yy listed x u) (fun _ => undef) (by kernel_rfl) (by kernel_rfl) ?hxR4 ?hSR4 ?hsR4 ?heR4
        case hxR4 => simp only [putsX, Act.put, List.setIfInBounds_toArray, List.set_cons_zero, List.set_cons_succ]
        case hSR4 => exact ⟨FactW.zero _ _ _ _ _ _, FactW.zero _ _ _ _ _ _, MadeK.zero _ _ _ _ _ _ _ _ _ _⟩
        case hsR4 =>
          simp only [flowSteps]
          refine ⟨?sR4_0, ?sR4_1, ?sR4_2, ?sR4_3, ?sR4_4, ?sR4_5, ?sR4_6, ?sR4_7, ?sR4_8, ?sR4_9, ?sR4_10, trivial⟩
          case sR4_0 =>
            intro listed bb u hsz hn hwt hinv
            obtain ⟨x, rfl, hC, hU, hA0, hO, hM⟩ := hinv
            simp only [putsX, Act.put, List.setIfInBounds_toArray, List.set_cons_zero, List.set_cons_succ]
            obtain ⟨d0, d1, d2, d3⟩ := cells4 (keep_block hC gg12 (lt_of_block gg12))
            go_wp2_with fail
            refine stepQ_normal ⟨trivial, upd x 0 (.agg #[.int .i64 ea, .int .i64 eb, .int .i64 ec, .int .i64 ed]), ?_, hC, hU.step (fun _ h => Option.some.inj h), hA0.keep (by decide) (by decide) _ id, hO.keep (by decide) (by decide) _ id, hM.keep (by decide) (by decide) _ (Below.refl _ _)⟩
            simp only [upd]
            rfl
          case sR4_1 =>
            intro listed bb u hsz hn hwt hinv
            obtain ⟨x, rfl, hC, hU, hA0, hO, hM⟩ := hinv
            have f0 := Lib.hid (hU 0 _ rfl (hwt 0 (by kernel_rfl)))
            simp only [putsX, Act.put, List.setIfInBounds_toArray, List.set_cons_zero, List.set_cons_succ]
            have hcall : Calls Try.prog 24 #[x 0] u (Gives (.agg #[.int .i64 ea, .int .i64 eb, .int .i64 ec, .int .i64 ed]) u) := by rw [f0.out]; exact toGeometry_any _ _ _ _ _
            go_wp2_with fail
            refine hcall.mono ?_
            rintro e' u' ⟨rfl, hb⟩
            go_wp2_with fail
            refine stepQ_normal ⟨trivial, upd x 1 (.agg #[.int .i64 ea, .int .i64 eb, .int .i64 ec, .int .i64 ed]), ?_, hC.trans (hb.mono hC.size), hU.step (fun _ h => Option.some.inj h), hA0.keep (by decide) (by decide) _ (fun h => HasK.below h (hb)), hO.keep (by decide) (by decide) _ (fun h => HasK.below h (hb)), hM.keep (by decide) (by decide) _ (hb)⟩
            simp only [upd]
            rfl
          case sR4_2 =>
            intro listed bb u hsz hn hwt hinv
            obtain ⟨x, rfl, hC, hU, hA0, hO, hM⟩ := hinv
            simp only [putsX, Act.put, List.setIfInBounds_toArray, List.set_cons_zero, List.set_cons_succ]
            obtain ⟨d0, d1, d2⟩ := cells3 (keep_block hC mm12 (lt_of_block mm12))
            go_wp2_with fail
            refine stepQ_normal ⟨trivial, upd x 2 (.agg #[.slice a0 n0 c0, .slice a1 n1 c1, .slice a2 n2 c2]), ?_, hC, hU.step (fun _ h => Option.some.inj h), hA0.keep (by decide) (by decide) _ id, hO.keep (by decide) (by decide) _ id, hM.keep (by decide) (by decide) _ (Below.refl _ _)⟩
            simp only [upd]
            rfl
          case sR4_3 =>
            intro listed bb u hsz hn hwt hinv
            obtain ⟨x, rfl, hC, hU, hA0, hO, hM⟩ := hinv
            have f2 := Lib.hid (hU 2 _ rfl (hwt 2 (by kernel_rfl)))
            simp only [putsX, Act.put, List.setIfInBounds_toArray, List.set_cons_zero, List.set_cons_succ]
            have hbu := HB12.out.trans (hC.mono HB12.out.size)
            have hcall : Calls Try.prog 25 #[x 2] u (GivesS arrK xx u) := by rw [f2.out]; exact toArray_k (arrK.below HX0.out hbu) HFIT.out.1 HFIT.out.2.1 HFIT.out.2.2.1 HFIT.out.2.2.2
            go_wp2_with fail
            refine hcall.mono ?_
            rintro e' u' ⟨cs, SS, rfl, own, hss, hb⟩
            go_wp2_with fail
            refine stepQ_normal ⟨trivial, upd x 3 (.agg cs.toArray), ?_, hC.trans (hb.mono hC.size), hU.step (fun _ h => by cases h), FactW.new ⟨cs, SS, rfl, own, fun b h => Nat.le_trans hC.size (hss b h)⟩, hO.keep (by decide) (by decide) _ (fun h => HasK.below h (hb)), hM.keep (by decide) (by decide) _ (hb)⟩
            simp only [upd]
            rfl
          case sR4_4 =>
            intro listed bb u hsz hn hwt hinv
            obtain ⟨x, rfl, hC, hU, hA0, hO, hM⟩ := hinv
            simp only [putsX, Act.put, List.setIfInBounds_toArray, List.set_cons_zero, List.set_cons_succ]
            obtain ⟨d0, d1, d2⟩ := cells3 (keep_block hC aa12 (lt_of_block aa12))
            go_wp2_with fail
            refine stepQ_normal ⟨trivial, upd x 4 (.agg #[.int .i64 bx, .int .i64 br, .int .i64 bc]), ?_, hC, hU.step (fun _ h => Option.some.inj h), hA0.keep (by decide) (by decide) _ id, hO.keep (by decide) (by decide) _ id, hM.keep (by decide) (by decide) _ (Below.refl _ _)⟩
            simp only [upd]
            rfl
          case sR4_5 =>
            intro listed bb u hsz hn hwt hinv
            obtain ⟨x, rfl, hC, hU, hA0, hO, hM⟩ := hinv
            have f4 := Lib.hid (hU 4 _ rfl (hwt 4 (by kernel_rfl)))
            simp only [putsX, Act.put, List.setIfInBounds_toArray, List.set_cons_zero, List.set_cons_succ]
            have hcall : Calls Try.prog 36 #[x 4] u (Gives (.agg #[.int .i64 bx, .int .i64 br, .int .i64 bc]) u) := by rw [f4.out]; exact toAddr_any _ _ _ _
            go_wp2_with fail
            refine hcall.mono ?_
            rintro e' u' ⟨rfl, hb⟩
            go_wp2_with fail
            refine stepQ_normal ⟨trivial, upd x 5 (.agg #[.int .i64 bx, .int .i64 br, .int .i64 bc]), ?_, hC.trans (hb.mono hC.size), hU.step (fun _ h => Option.some.inj h), hA0.keep (by decide) (by decide) _ (fun h => HasK.below h (hb)), hO.keep (by decide) (by decide) _ (fun h => HasK.below h (hb)), hM.keep (by decide) (by decide) _ (hb)⟩
            simp only [upd]
            rfl
          case sR4_6 =>
            intro listed bb u hsz hn hwt hinv
            obtain ⟨x, rfl, hC, hU, hA0, hO, hM⟩ := hinv
            simp only [putsX, Act.put, List.setIfInBounds_toArray, List.set_cons_zero, List.set_cons_succ]
            go_wp2_with fail
            refine stepQ_normal ⟨trivial, upd x 6 (.int .i64 ch), ?_, hC, hU.step (fun _ h => Option.some.inj h), hA0.keep (by decide) (by decide) _ id, hO.keep (by decide) (by decide) _ id, hM.keep (by decide) (by decide) _ (Below.refl _ _)⟩
            simp only [upd]
            rfl
          case sR4_7 =>
            intro listed bb u hsz hn hwt hinv
            obtain ⟨x, rfl, hC, hU, hA0, hO, hM⟩ := hinv
            simp only [putsX, Act.put, List.setIfInBounds_toArray, List.set_cons_zero, List.set_cons_succ]
            go_wp2_with fail
            refine stepQ_normal ⟨trivial, upd x 7 (.int .i64 fu), ?_, hC, hU.step (fun _ h => Option.some.inj h), hA0.keep (by decide) (by decide) _ id, hO.keep (by decide) (by decide) _ id, hM.keep (by decide) (by decide) _ (Below.refl _ _)⟩
            simp only [upd]
            rfl
          case sR4_8 =>
            intro listed bb u hsz hn hwt hinv
            obtain ⟨x, rfl, hC, hU, hA0, hO, hM⟩ := hinv
            have f1 := Lib.hid (hU 1 _ rfl (hwt 1 (by kernel_rfl)))
            have f5 := Lib.hid (hU 5 _ rfl (hwt 5 (by kernel_rfl)))
            have f6 := Lib.hid (hU 6 _ rfl (hwt 6 (by kernel_rfl)))
            have f7 := Lib.hid (hU 7 _ rfl (hwt 7 (by kernel_rfl)))
            simp only [putsX, Act.put, List.setIfInBounds_toArray, List.set_cons_zero, List.set_cons_succ]
            obtain ⟨cs0, S0, fp0, ow0, _⟩ := hA0 (hwt 3 (by kernel_rfl)) hn
            have hcall : Calls Try.prog 21 #[x 1, x 3, x 5, x 6, x 7] u (GivesS arrK yy u) := by rw [f1.out, fp0, f5.out, f6.out, f7.out]; exact IM.out u _ (arrK.read ow0) HFIT.out
            clear fp0
            go_wp2_with fail
            refine hcall.mono ?_
            rintro e' u' ⟨cs, SS, rfl, own, hss, hb⟩
            go_wp2_with fail
            refine stepQ_normal ⟨trivial, upd x 8 (.agg cs.toArray), ?_, hC.trans (hb.mono hC.size), hU.step (fun _ h => by cases h), FactW.call (by rw [hsz]; decide), FactW.new ⟨cs, SS, rfl, own, fun b h => Nat.le_trans hC.size (hss b h)⟩, hM.keep (by decide) (by decide) _ (hb)⟩
            simp only [upd]
            rfl
          case sR4_9 =>
            intro listed bb u hsz hn hwt hinv
            obtain ⟨x, rfl, hC, hU, hA0, hO, hM⟩ := hinv
            simp only [putsX, Act.put, List.setIfInBounds_toArray, List.set_cons_zero, List.set_cons_succ]
            go_wp2_with fail
            refine stepQ_normal ⟨trivial, upd x 9 (.pointer (some ⟨u.heap.size, 0, none⟩)), ?_, hC.alloc hC.size _, hU.step (fun _ h => by cases h), hA0.keep (by decide) (by decide) _ (fun h => HasK.below h (below_allocK _ _)), hO.keep (by decide) (by decide) _ (fun h => HasK.below h (below_allocK _ _)), hM.new (by decide) hn hC.size⟩
            simp only [upd]
            rfl
          case sR4_10 =>
            intro listed bb u hsz hn hwt hinv
            obtain ⟨x, rfl, hC, hU, hA0, hO, hM⟩ := hinv
            simp only [putsX, Act.put, List.setIfInBounds_toArray, List.set_cons_zero, List.set_cons_succ]
            obtain ⟨g, fg, hg, hh⟩ := hM.there (hwt 9 (by kernel_rfl)) hn
            obtain ⟨cs, SS, fp, own, hss⟩ := hO (hwt 8 (by kernel_rfl)) hn
            obtain ⟨a0, n0, c0, a1, n1, c1, a2, n2, c2, rfl, _, _, _⟩ := arr_rd (arrK.read own)
            have FG := Lib.hid fg
            have FP := Lib.hid fp
            rw [FG.out, FP.out]
            obtain ⟨y0, y1, y2⟩ := cells3 hh
            have t0 := thawed hh 0
            have t1 := thawed hh 1
            have t2 := thawed hh 2
            have hng : g ∉ SS := arrTy.notin own hh (by decide)
            have own0 := own
            have hfin := set_cells (set_cells (set_cells (hh) 0 (.slice a0 n0 c0)) 1 (.slice a1 n1 c1)) 2 (.slice a2 n2 c2)
            have OW := Lib.hid (Kn.ownSet arrK (Kn.ownSet arrK (Kn.ownSet arrK own0 (p := ⟨g, 0, none⟩) (fun b h e => hng ((show b = g from e) ▸ h)) (.slice a0 n0 c0)) (p := ⟨g, 1, none⟩) (fun b h e => hng ((show b = g from e) ▸ h)) (.slice a1 n1 c1)) (p := ⟨g, 2, none⟩) (fun b h e => hng ((show b = g from e) ▸ h)) (.slice a2 n2 c2))
            have HSS := Lib.hid hss
            have HNG := Lib.hid hng
            clear hh fg fp own own0 hss hng
            go_wp2_with fail
            refine stepQ_normal ⟨trivial, upd x 10 undef, ?_, (((hC).setCell (by exact hg) _).setCell (by exact hg) _).setCell (by exact hg) _, hU.step (fun _ h => by cases h), FactW.gone (hwt 8 (by kernel_rfl)), FactW.call (by rw [hsz]; decide), MadeK.fill (by decide) (hwt 9 (by kernel_rfl)) (by rw [hsz]; decide) FG.out hg hfin OW.out HNG.out HSS.out⟩
            simp only [upd]
            simp only [FG.out, FP.out]
            (try rfl)
        case heR4 =>
          intro listed q w13 hall hC hU hS
          obtain ⟨hA0, hO, hM⟩ := hS
          obtain ⟨PH, cs, SH, fg, hgP, hh, own, hng, hss⟩ := hM.full (hall 9 (by decide)) (hall 10 (by decide))
          obtain ⟨Ha0, Hn0, Hc0, Ha1, Hn1, Hc1, Ha2, Hn2, Hc2, rfl, _, _, _⟩ := arr_rd (arrK.read own)
          simp only [putsX, Act.put, List.setIfInBounds_toArray, List.set_cons_zero, List.set_cons_succ]
          rw [fg]
          clear hall hU fg hA0 hO hM
          generalize q 0 = _q0, q 1 = _q1, q 2 = _q2, q 3 = _q3, q 4 = _q4, q 5 = _q5, q 6 = _q6, q 7 = _q7, q 8 = _q8
          have gg13 := keep_block hC gg12 (lt_of_block gg12)
          have mm13 := keep_block hC mm12 (lt_of_block mm12)
          have aa13 := keep_block hC aa12 (lt_of_block aa12)
          have qV13 := keep_block hC qV12 (lt_of_block qV12)
          have qX13 := keep_block hC qX12 (lt_of_block qX12)
          have qG13 := keep_block hC qG12 (lt_of_block qG12)
          have V13 : Hid (arrK.own w13 SV [.slice Va0 Vn0 Vc0, .slice Va1 Vn1 Vc1, .slice Va2 Vn2 Vc2] yy) := arrK.ownBelow V12.out hC
          have G13 : Hid (arrK.own w13 SG [.slice Ga0 Gn0 Gc0, .slice Ga1 Gn1 Gc1, .slice Ga2 Gn2 Gc2] (aMk yy 1)) := arrK.ownBelow G12.out hC
          have HB13 : Hid (Below w.heap.size w w13) := HB12.out.trans (hC.mono HB12.out.size)
          have BH : Hid (∀ b ∈ SH, w12.heap.size ≤ b) := hss
          have H13 : Hid (arrK.own w13 SH [.slice Ha0 Hn0 Hc0, .slice Ha1 Hn1 Hc1, .slice Ha2 Hn2 Hc2] yy) := own
          have qH13 := hh
          have NVqH : Hid (PH ∉ SV) := fun h => by have h1 := arrK.lt V12.out _ h; omega
          have NGqH : Hid (PH ∉ SG) := fun h => by have h1 := arrK.lt G12.out _ h; omega
          have DVH : Hid (∀ b ∈ SV, b ∉ SH) := fun b h1 h2 => by have h3 := arrK.lt V12.out b h1; have h4 := BH.out b h2; omega
          have DGH : Hid (∀ b ∈ SG, b ∉ SH) := fun b h1 h2 => by have h3 := arrK.lt G12.out b h1; have h4 := BH.out b h2; omega
          have NHgg : Hid (w.heap.size ∉ SH) := fun h => by have h1 := lt_of_block gg12; have h2 := BH.out _ h; omega
          have NHmm : Hid ((w.heap.size + 1) ∉ SH) := fun h => by have h1 := lt_of_block mm12; have h2 := BH.out _ h; omega
          have NHaa : Hid ((w.heap.size + 1 + 1) ∉ SH) := fun h => by have h1 := lt_of_block aa12; have h2 := BH.out _ h; omega
          have NHqV : Hid (PV ∉ SH) := fun h => by have h1 := lt_of_block qV12; have h2 := BH.out _ h; omega
          have NHqX : Hid (PX ∉ SH) := fun h => by have h1 := lt_of_block qX12; have h2 := BH.out _ h; omega
          have NHqG : Hid (PG ∉ SH) := fun h => by have h1 := lt_of_block qG12; have h2 := BH.out _ h; omega
          have NHqH : Hid (PH ∉ SH) := hng
          clear own hss hh hC hng hgP
          clear gg12 mm12 aa12 qV12 qX12 qG12 V12 G12 HB12
          obtain ⟨kqH0, kqH1, kqH2⟩ := cells3 qH13
          obtain ⟨kqV0, kqV1, kqV2⟩ := cells3 qV13
          go_wp2_with fail
          refine (eqArr_cs (arrK.read H13.out) (arrK.read V13.out)).mono ?_
          rintro e w14 ⟨rfl, hb14⟩
          clear kqH0 kqH1 kqH2 kqV0 kqV1 kqV2
          have gg14 := keep_block hb14 gg13 (lt_of_block gg13)
          have mm14 := keep_block hb14 mm13 (lt_of_block mm13)
          have aa14 := keep_block hb14 aa13 (lt_of_block aa13)
          have qV14 := keep_block hb14 qV13 (lt_of_block qV13)
          have qX14 := keep_block hb14 qX13 (lt_of_block qX13)
          have qG14 := keep_block hb14 qG13 (lt_of_block qG13)
          have qH14 := keep_block hb14 qH13 (lt_of_block qH13)
          have V14 : Hid (arrK.own w14 SV [.slice Va0 Vn0 Vc0, .slice Va1 Vn1 Vc1, .slice Va2 Vn2 Vc2] yy) := arrK.ownBelow V13.out hb14
          have G14 : Hid (arrK.own w14 SG [.slice Ga0 Gn0 Gc0, .slice Ga1 Gn1 Gc1, .slice Ga2 Gn2 Gc2] (aMk yy 1)) := arrK.ownBelow G13.out hb14
          have H14 : Hid (arrK.own w14 SH [.slice Ha0 Hn0 Hc0, .slice Ha1 Hn1 Hc1, .slice Ha2 Hn2 Hc2] yy) := arrK.ownBelow H13.out hb14
          have HB14 : Hid (Below w.heap.size w w14) := HB13.out.trans (hb14.mono HB13.out.size)
          clear gg13 mm13 aa13 qV13 qX13 qG13 qH13 V13 G13 H13 HB13
          clear hb14
          obtain ⟨kqG0, kqG1, kqG2⟩ := cells3 qG14
          go_wp2_with fail
          refine (heldArr_v (arrK.read G14.out) (Nat.le_trans HCYN.out (by decide)) ky HKY.out).mono ?_
          rintro e w15 ⟨rfl, hb15⟩
          clear kqG0 kqG1 kqG2
          have gg15 := keep_block hb15 gg14 (lt_of_block gg14)
          have mm15 := keep_block hb15 mm14 (lt_of_block mm14)
          have aa15 := keep_block hb15 aa14 (lt_of_block aa14)
          have qV15 := keep_block hb15 qV14 (lt_of_block qV14)
          have qX15 := keep_block hb15 qX14 (lt_of_block qX14)
          have qG15 := keep_block hb15 qG14 (lt_of_block qG14)
          have qH15 := keep_block hb15 qH14 (lt_of_block qH14)
          have V15 : Hid (arrK.own w15 SV [.slice Va0 Vn0 Vc0, .slice Va1 Vn1 Vc1, .slice Va2 Vn2 Vc2] yy) := arrK.ownBelow V14.out hb15
          have G15 : Hid (arrK.own w15 SG [.slice Ga0 Gn0 Gc0, .slice Ga1 Gn1 Gc1, .slice Ga2 Gn2 Gc2] (aMk yy 1)) := arrK.ownBelow G14.out hb15
          have H15 : Hid (arrK.own w15 SH [.slice Ha0 Hn0 Hc0, .slice Ha1 Hn1 Hc1, .slice Ha2 Hn2 Hc2] yy) := arrK.ownBelow H14.out hb15
          have HB15 : Hid (Below w.heap.size w w15) := HB14.out.trans (hb15.mono HB14.out.size)
          clear gg14 mm14 aa14 qV14 qX14 qG14 qH14 V14 G14 H14 HB14
          clear hb15
          go_wp2_with fail
          go_ret
          exact ⟨rfl, HB15.out⟩

end Go.Proofs.Ytfpfgaifhmgpiaa

namespace Go.Proofs.Ytfpfgaifhmgpiaa
open Go.RowKit Go.PlainAid

set_option linter.unusedVariables false

/-- A symbol of a cell of an array of the call's own, and the cell's mark. -/
theorem cell_place2 {w : World} {S : List Nat} {cs : List Value} {x : Arr} (h : arrK.own w S cs x) {j : Nat} (hj : j < x.1.length) {c : List Int × Bool} (hc : x.1.getD j ([], false) = c) :
    ∃ g off n0 c0 v1 v2 a n k S1, cs = [.slice (some ⟨g, off, none⟩) n0 c0, v1, v2] ∧ j < n0 ∧ g ∈ S ∧ n0 ≤ maxLen ∧ n = c.1.length ∧ w.cell? ⟨g, off + j * 2, none⟩ = some (.slice a n k) ∧ w.cell? ⟨g, off + j * 2 + 1, none⟩ = some (.bool c.2) ∧ (∀ b ∈ S1, b ∈ S ∧ b ≠ g) ∧ intsK.own w S1 [.slice a n k] c.1 ∧
      ∀ w' y, OnlyS S1 w w' → intsK.own w' S1 [.slice a n k] y → arrK.own w' S cs (x.1.set j (y, c.2), x.2) := by
  obtain ⟨a0, n0, c0, a1, n1, c1, a2, n2, c2, S0, S1, S2, rfl, rfl, hnd, h0, h1, h2⟩ := arr_own h
  obtain ⟨l0, _, m0, _⟩ := Kn.row_len (cellsK.read h0)
  obtain ⟨g, off, ds, T, rfl, hg, hT, hcell, _, hel, hin, _, _⟩ := Kn.own_at h0 hj
  have he : x.1[j] = c := by rw [← hc, List.getD_eq_getElem?_getD, List.getElem?_eq_getElem hj]; rfl
  rw [he] at hel
  obtain ⟨a, n, k, rfl, hi⟩ := cell_own hel
  obtain ⟨q1, _, _, _⟩ := Kn.row_len (intsK.read hi)
  obtain ⟨u0, u1, u2⟩ := nodup3 hnd
  have hT1 : ∀ b ∈ S1, b ∉ T := fun b hb hb' => (u1 b hb).1 (hT b hb').1
  have hT2 : ∀ b ∈ S2, b ∉ T := fun b hb hb' => (u2 b hb).1 (hT b hb').1
  refine ⟨g, off, n0, c0, _, _, a, n, k, T, rfl, by have : x.1.length = n0 := l0; omega, List.mem_append_left _ hg, m0, q1.symm, hcell 0 (by decide), hcell 1 (by decide), fun b hb => ⟨List.mem_append_left _ (hT b hb).1, (hT b hb).2⟩, hi, fun w' y ho hy => ?_⟩
  exact arr_of (hin w' (y, c.2) ho (cell_of c.2 hy)) (intsK.ownKeep h1 ho hT1) (intsK.ownKeep h2 ho hT2) hnd

set_option maxHeartbeats 16000000 in
set_option maxRecDepth 100000 in
theorem implFlipSymbol_is : IFlipSymbol := by
  intro ga gb gr gd bx br bc ch u cs x w h hf
  obtain ⟨a0, n0, c0, a1, n1, c1, a2, n2, c2, rfl, h0, h1, h2⟩ := arr_rd h
  obtain ⟨w1, hw1⟩ : ∃ u, (((w.alloc (.cells #[.int .i64 ga, .int .i64 gb, .int .i64 gr, .int .i64 gd] 25)).alloc (.cells #[.slice a0 n0 c0, .slice a1 n1 c1, .slice a2 n2 c2] 31)).alloc (.cells #[.int .i64 bx, .int .i64 br, .int .i64 bc] 37)).alloc (.cells #[.slice none 0 0, .slice none 0 0, .slice none 0 0] 31) = u := ⟨_, rfl⟩
  obtain ⟨g1, p1, l1, r1, hb1⟩ := alloc4 hw1
  have HB1 := Lib.hid hb1
  have HF := Lib.hid hf
  have H := Lib.hid h
  have H1 := Lib.hid (arrK.below h HB1.out)
  clear h hf h0 h1 h2
  obtain ⟨x0, x1, x2, x3⟩ := cells4 g1
  obtain ⟨y0, y1, y2⟩ := cells3 p1
  go_enter Try.func21, Try.ntmps21
  go_wp2_with fail
  refine (implCopyA_is H1.out HF.out).mono ?_
  rintro e w2 ⟨cs2, S2, rfl, own2, hS2, hb2⟩
  obtain ⟨d0, m0, k0, d1, m1, k1, d2, m2, k2, S0, S1', S2', rfl, rfl, -⟩ := arr_own own2
  obtain ⟨w3, hw3⟩ : ∃ u, w2.alloc (.cells #[.slice d0 m0 k0, .slice d1 m1 k1, .slice d2 m2 k2] 31) = u := ⟨_, rfl⟩
  have hb3 : Below w2.heap.size w2 w3 := by subst hw3; exact (Below.refl _ _).alloc (Nat.le_refl _) _
  have q3 : w3.heap[w2.heap.size]? = some (.cells #[.slice d0 m0 k0, .slice d1 m1 k1, .slice d2 m2 k2] 31) := by subst hw3; exact heap_alloc_new _ _
  have HO3 := Lib.hid (arrK.ownBelow own2 hb3)
  have HB2 : Hid (Below w.heap.size w w2) := HB1.out.trans (hb2.mono HB1.out.size)
  have HB3 : Hid (Below w.heap.size w w3) := HB2.out.trans (hb3.mono HB2.out.size)
  have H3 := Lib.hid (arrK.below (arrK.below H1.out hb2) hb3)
  have hlt : ∀ b ∈ S0 ++ (S1' ++ S2'), b < w2.heap.size := fun b hb => arrK.lt own2 b hb
  have hge : ∀ b ∈ S0 ++ (S1' ++ S2'), w1.heap.size ≤ b := fun b hb => hS2 b hb
  generalize hU2 : S0 ++ (S1' ++ S2') = T2 at own2 hS2 HO3 hlt hge
  have HS2 : Hid (∀ b ∈ T2, w1.heap.size ≤ b) := hge
  have HNP : Hid (w2.heap.size ∉ T2) := fun hb => by have := hlt _ hb; omega
  have HNR : Hid (∀ b ∈ T2, b ≠ w.heap.size + 1 + 1 + 1) := fun b hb e => by have := hge b hb; have := lt_of_block r1; omega
  have HRR : Hid (w.heap.size ≤ w.heap.size + 1 + 1 + 1) := by show _ ≤ _; omega
  have HPR : Hid (w.heap.size + 1 + 1 + 1 ≠ w2.heap.size) := fun e => by have := lt_of_block r1; have := hb2.size; omega
  have HPW : Hid (w.heap.size ≤ w2.heap.size) := HB2.out.size
  have g3 := keep_block hb3 (keep_block hb2 g1 (lt_of_block g1)) (Nat.lt_of_lt_of_le (lt_of_block g1) hb2.size)
  have l3 := keep_block hb3 (keep_block hb2 l1 (lt_of_block l1)) (Nat.lt_of_lt_of_le (lt_of_block l1) hb2.size)
  have p3 := keep_block hb3 (keep_block hb2 p1 (lt_of_block p1)) (Nat.lt_of_lt_of_le (lt_of_block p1) hb2.size)
  have r3 := keep_block hb3 (keep_block hb2 r1 (lt_of_block r1)) (Nat.lt_of_lt_of_le (lt_of_block r1) hb2.size)
  clear own2 hS2 hb2 hb3 g1 l1 p1 r1 x0 x1 x2 x3 y0 y1 y2 hlt hge hU2
  obtain ⟨x0, x1, x2, x3⟩ := cells4 g3
  obtain ⟨y0, y1, y2⟩ := cells3 p3
  obtain ⟨z0, z1, z2⟩ := cells3 q3
  go_wp2_with fail
  by_cases ha : ArrOk ga gb gr gd x
  case neg =>
    have KA := Lib.hid (decide_eq_false ha)
    have HE : Hid (flippedF ga gb gr gd x bx br bc ch u = x) := if_neg (fun h => ha h.1)
    clear ha
    refine (implArrayOk_is ga gb gr gd _ _ false KA.out _ H3.out HF.out).mono ?_
    rintro e w4 ⟨rfl, hb4⟩
    have HBQ : Hid (Below w.heap.size w w4) := HB3.out.trans (hb4.mono HB3.out.size)
    have qq := keep_block hb4 q3 (lt_of_block q3)
    have rr := keep_block hb4 r3 (lt_of_block r3)
    have gg := keep_block hb4 g3 (lt_of_block g3)
    have ll := keep_block hb4 l3 (lt_of_block l3)
    have HO4 := Lib.hid (arrK.ownBelow HO3.out hb4)
    clear hb4 g3 l3 p3 q3 r3 x0 x1 x2 x3 y0 y1 y2 z0 z1 z2
    obtain ⟨x0, x1, x2, x3⟩ := cells4 gg
    obtain ⟨y0, y1, y2⟩ := cells3 ll
    obtain ⟨v0, v1, v2⟩ := cells3 rr
    have f0 := thawed rr 0
    have f1 := thawed rr 1
    have f2 := thawed rr 2
    obtain ⟨u0, u1, u2⟩ := cells3 qq
    have o5 := set_cells (set_cells (set_cells rr 0 (.slice d0 m0 k0)) 1 (.slice d1 m1 k1)) 2 (.slice d2 m2 k2)
    obtain ⟨t0, t1, t2⟩ := cells3 o5
    go_wp2_with fail
    (try simp only [Exit.inBlock, Exit.then])
    refine bodyPost_ret (v := .agg #[.slice d0 m0 k0, .slice d1 m1 k1, .slice d2 m2 k2]) ?_ rfl ⟨_, T2, rfl, ?_, fun b hb => ?_, ?_⟩
    · simp [results, Try.results21, go_sem, t0, t1, t2]
    · rw [HE.out]
      exact arrK.ownSet (arrK.ownSet (arrK.ownSet HO4.out (fun b hb => HNR.out b hb) _) (fun b hb => HNR.out b hb) _) (fun b hb => HNR.out b hb) _
    · have := HS2.out b hb; have := HB1.out.size; omega
    · exact ((HBQ.out.setCell HRR.out _).setCell HRR.out _).setCell HRR.out _
  have KA := Lib.hid (decide_eq_true ha)
  by_cases hn : AdOk ga gb gr gd bx br bc
  case neg =>
    have KN := Lib.hid (decide_eq_false hn)
    have HE : Hid (flippedF ga gb gr gd x bx br bc ch u = x) := if_neg (fun h => hn h.2.1)
    clear ha hn
    refine (implArrayOk_is ga gb gr gd _ _ true KA.out _ H3.out HF.out).mono ?_
    rintro e w4 ⟨rfl, hb4⟩
    have HBQ : Hid (Below w.heap.size w w4) := HB3.out.trans (hb4.mono HB3.out.size)
    have qq := keep_block hb4 q3 (lt_of_block q3)
    have rr := keep_block hb4 r3 (lt_of_block r3)
    have gg := keep_block hb4 g3 (lt_of_block g3)
    have ll := keep_block hb4 l3 (lt_of_block l3)
    have HO4 := Lib.hid (arrK.ownBelow HO3.out hb4)
    clear hb4 g3 l3 p3 q3 r3 x0 x1 x2 x3 y0 y1 y2 z0 z1 z2
    obtain ⟨x0, x1, x2, x3⟩ := cells4 gg
    obtain ⟨y0, y1, y2⟩ := cells3 ll
    go_wp2_with fail
    refine (implAddrOk_is ga gb gr gd bx br bc false KN.out _).mono ?_
    rintro e w5 ⟨rfl, hb5⟩
    have HBR : Hid (Below w.heap.size w w5) := HBQ.out.trans (hb5.mono HBQ.out.size)
    have q5 := keep_block hb5 qq (lt_of_block qq)
    have r5 := keep_block hb5 rr (lt_of_block rr)
    have g5 := keep_block hb5 gg (lt_of_block gg)
    have l5 := keep_block hb5 ll (lt_of_block ll)
    have HO5 := Lib.hid (arrK.ownBelow HO4.out hb5)
    clear HBQ HO4 qq rr gg ll hb5 x0 x1 x2 x3 y0 y1 y2
    have HBQ := HBR
    have qq := q5
    have rr := r5
    have gg := g5
    have ll := l5
    clear HBR q5 r5 g5 l5
    obtain ⟨v0, v1, v2⟩ := cells3 rr
    have f0 := thawed rr 0
    have f1 := thawed rr 1
    have f2 := thawed rr 2
    obtain ⟨u0, u1, u2⟩ := cells3 qq
    have o5 := set_cells (set_cells (set_cells rr 0 (.slice d0 m0 k0)) 1 (.slice d1 m1 k1)) 2 (.slice d2 m2 k2)
    obtain ⟨t0, t1, t2⟩ := cells3 o5
    go_wp2_with fail
    (try simp only [Exit.inBlock, Exit.then])
    refine bodyPost_ret (v := .agg #[.slice d0 m0 k0, .slice d1 m1 k1, .slice d2 m2 k2]) ?_ rfl ⟨_, T2, rfl, ?_, fun b hb => ?_, ?_⟩
    · simp [results, Try.results21, go_sem, t0, t1, t2]
    · rw [HE.out]
      exact arrK.ownSet (arrK.ownSet (arrK.ownSet HO5.out (fun b hb => HNR.out b hb) _) (fun b hb => HNR.out b hb) _) (fun b hb => HNR.out b hb) _
    · have := HS2.out b hb; have := HB1.out.size; omega
    · exact ((HBQ.out.setCell HRR.out _).setCell HRR.out _).setCell HRR.out _
  have KN := Lib.hid (decide_eq_true hn)
  by_cases hc : 0 ≤ ch ∧ ch ≤ 10
  case neg =>
    have HE : Hid (flippedF ga gb gr gd x bx br bc ch u = x) := if_neg (fun h => hc h.2.2.1)
    by_cases hc0 : 0 ≤ ch
    case neg =>
      have tc0 : decide (0 ≤ ch) = false := decide_eq_false hc0
      clear ha hn hc hc0
      refine (implArrayOk_is ga gb gr gd _ _ true KA.out _ H3.out HF.out).mono ?_
      rintro e w4 ⟨rfl, hb4⟩
      have HBQ : Hid (Below w.heap.size w w4) := HB3.out.trans (hb4.mono HB3.out.size)
      have qq := keep_block hb4 q3 (lt_of_block q3)
      have rr := keep_block hb4 r3 (lt_of_block r3)
      have gg := keep_block hb4 g3 (lt_of_block g3)
      have ll := keep_block hb4 l3 (lt_of_block l3)
      have HO4 := Lib.hid (arrK.ownBelow HO3.out hb4)
      clear hb4 g3 l3 p3 q3 r3 x0 x1 x2 x3 y0 y1 y2 z0 z1 z2
      obtain ⟨x0, x1, x2, x3⟩ := cells4 gg
      obtain ⟨y0, y1, y2⟩ := cells3 ll
      go_wp2_with fail
      refine (implAddrOk_is ga gb gr gd bx br bc true KN.out _).mono ?_
      rintro e w5 ⟨rfl, hb5⟩
      have HBR : Hid (Below w.heap.size w w5) := HBQ.out.trans (hb5.mono HBQ.out.size)
      have q5 := keep_block hb5 qq (lt_of_block qq)
      have r5 := keep_block hb5 rr (lt_of_block rr)
      have g5 := keep_block hb5 gg (lt_of_block gg)
      have l5 := keep_block hb5 ll (lt_of_block ll)
      have HO5 := Lib.hid (arrK.ownBelow HO4.out hb5)
      clear HBQ HO4 qq rr gg ll hb5 x0 x1 x2 x3 y0 y1 y2
      have HBQ := HBR
      have qq := q5
      have rr := r5
      have gg := g5
      have ll := l5
      clear HBR q5 r5 g5 l5
      obtain ⟨v0, v1, v2⟩ := cells3 rr
      have f0 := thawed rr 0
      have f1 := thawed rr 1
      have f2 := thawed rr 2
      obtain ⟨u0, u1, u2⟩ := cells3 qq
      have o5 := set_cells (set_cells (set_cells rr 0 (.slice d0 m0 k0)) 1 (.slice d1 m1 k1)) 2 (.slice d2 m2 k2)
      obtain ⟨t0, t1, t2⟩ := cells3 o5
      go_wp2_with fail
      (try simp only [Exit.inBlock, Exit.then])
      refine bodyPost_ret (v := .agg #[.slice d0 m0 k0, .slice d1 m1 k1, .slice d2 m2 k2]) ?_ rfl ⟨_, T2, rfl, ?_, fun b hb => ?_, ?_⟩
      · simp [results, Try.results21, go_sem, t0, t1, t2]
      · rw [HE.out]
        exact arrK.ownSet (arrK.ownSet (arrK.ownSet HO5.out (fun b hb => HNR.out b hb) _) (fun b hb => HNR.out b hb) _) (fun b hb => HNR.out b hb) _
      · have := HS2.out b hb; have := HB1.out.size; omega
      · exact ((HBQ.out.setCell HRR.out _).setCell HRR.out _).setCell HRR.out _
    case pos =>
      have tc0 : decide (0 ≤ ch) = true := decide_eq_true hc0
      have tc1 : decide (ch < 11) = false := decide_eq_false (by omega)
      clear ha hn hc hc0
      refine (implArrayOk_is ga gb gr gd _ _ true KA.out _ H3.out HF.out).mono ?_
      rintro e w4 ⟨rfl, hb4⟩
      have HBQ : Hid (Below w.heap.size w w4) := HB3.out.trans (hb4.mono HB3.out.size)
      have qq := keep_block hb4 q3 (lt_of_block q3)
      have rr := keep_block hb4 r3 (lt_of_block r3)
      have gg := keep_block hb4 g3 (lt_of_block g3)
      have ll := keep_block hb4 l3 (lt_of_block l3)
      have HO4 := Lib.hid (arrK.ownBelow HO3.out hb4)
      clear hb4 g3 l3 p3 q3 r3 x0 x1 x2 x3 y0 y1 y2 z0 z1 z2
      obtain ⟨x0, x1, x2, x3⟩ := cells4 gg
      obtain ⟨y0, y1, y2⟩ := cells3 ll
      go_wp2_with fail
      refine (implAddrOk_is ga gb gr gd bx br bc true KN.out _).mono ?_
      rintro e w5 ⟨rfl, hb5⟩
      have HBR : Hid (Below w.heap.size w w5) := HBQ.out.trans (hb5.mono HBQ.out.size)
      have q5 := keep_block hb5 qq (lt_of_block qq)
      have r5 := keep_block hb5 rr (lt_of_block rr)
      have g5 := keep_block hb5 gg (lt_of_block gg)
      have l5 := keep_block hb5 ll (lt_of_block ll)
      have HO5 := Lib.hid (arrK.ownBelow HO4.out hb5)
      clear HBQ HO4 qq rr gg ll hb5 x0 x1 x2 x3 y0 y1 y2
      have HBQ := HBR
      have qq := q5
      have rr := r5
      have gg := g5
      have ll := l5
      clear HBR q5 r5 g5 l5
      obtain ⟨v0, v1, v2⟩ := cells3 rr
      have f0 := thawed rr 0
      have f1 := thawed rr 1
      have f2 := thawed rr 2
      obtain ⟨u0, u1, u2⟩ := cells3 qq
      have o5 := set_cells (set_cells (set_cells rr 0 (.slice d0 m0 k0)) 1 (.slice d1 m1 k1)) 2 (.slice d2 m2 k2)
      obtain ⟨t0, t1, t2⟩ := cells3 o5
      go_wp2_with fail
      (try simp only [Exit.inBlock, Exit.then])
      refine bodyPost_ret (v := .agg #[.slice d0 m0 k0, .slice d1 m1 k1, .slice d2 m2 k2]) ?_ rfl ⟨_, T2, rfl, ?_, fun b hb => ?_, ?_⟩
      · simp [results, Try.results21, go_sem, t0, t1, t2]
      · rw [HE.out]
        exact arrK.ownSet (arrK.ownSet (arrK.ownSet HO5.out (fun b hb => HNR.out b hb) _) (fun b hb => HNR.out b hb) _) (fun b hb => HNR.out b hb) _
      · have := HS2.out b hb; have := HB1.out.size; omega
      · exact ((HBQ.out.setCell HRR.out _).setCell HRR.out _).setCell HRR.out _
  have tc0 : decide (0 ≤ ch) = true := decide_eq_true hc.1
  have tc1 : decide (ch < 11) = true := decide_eq_true (by omega)
  by_cases hu : El u
  case neg =>
    have KU := Lib.hid (decide_eq_false hu)
    have HE : Hid (flippedF ga gb gr gd x bx br bc ch u = x) := if_neg (fun h => hu h.2.2.2)
    clear ha hn hc hu
    refine (implArrayOk_is ga gb gr gd _ _ true KA.out _ H3.out HF.out).mono ?_
    rintro e w4 ⟨rfl, hb4⟩
    have HBQ : Hid (Below w.heap.size w w4) := HB3.out.trans (hb4.mono HB3.out.size)
    have qq := keep_block hb4 q3 (lt_of_block q3)
    have rr := keep_block hb4 r3 (lt_of_block r3)
    have gg := keep_block hb4 g3 (lt_of_block g3)
    have ll := keep_block hb4 l3 (lt_of_block l3)
    have HO4 := Lib.hid (arrK.ownBelow HO3.out hb4)
    clear hb4 g3 l3 p3 q3 r3 x0 x1 x2 x3 y0 y1 y2 z0 z1 z2
    obtain ⟨x0, x1, x2, x3⟩ := cells4 gg
    obtain ⟨y0, y1, y2⟩ := cells3 ll
    go_wp2_with fail
    refine (implAddrOk_is ga gb gr gd bx br bc true KN.out _).mono ?_
    rintro e w5 ⟨rfl, hb5⟩
    have HBR : Hid (Below w.heap.size w w5) := HBQ.out.trans (hb5.mono HBQ.out.size)
    have q5 := keep_block hb5 qq (lt_of_block qq)
    have r5 := keep_block hb5 rr (lt_of_block rr)
    have g5 := keep_block hb5 gg (lt_of_block gg)
    have l5 := keep_block hb5 ll (lt_of_block ll)
    have HO5 := Lib.hid (arrK.ownBelow HO4.out hb5)
    clear HBQ HO4 qq rr gg ll hb5 x0 x1 x2 x3 y0 y1 y2
    have HBQ := HBR
    have qq := q5
    have rr := r5
    have gg := g5
    have ll := l5
    clear HBR q5 r5 g5 l5
    go_wp2_with fail
    refine (implIsEl_is u false KU.out _).mono ?_
    rintro e w7 ⟨rfl, rfl⟩
    obtain ⟨v0, v1, v2⟩ := cells3 rr
    have f0 := thawed rr 0
    have f1 := thawed rr 1
    have f2 := thawed rr 2
    obtain ⟨u0, u1, u2⟩ := cells3 qq
    have o5 := set_cells (set_cells (set_cells rr 0 (.slice d0 m0 k0)) 1 (.slice d1 m1 k1)) 2 (.slice d2 m2 k2)
    obtain ⟨t0, t1, t2⟩ := cells3 o5
    go_wp2_with fail
    (try simp only [Exit.inBlock, Exit.then])
    refine bodyPost_ret (v := .agg #[.slice d0 m0 k0, .slice d1 m1 k1, .slice d2 m2 k2]) ?_ rfl ⟨_, T2, rfl, ?_, fun b hb => ?_, ?_⟩
    · simp [results, Try.results21, go_sem, t0, t1, t2]
    · rw [HE.out]
      exact arrK.ownSet (arrK.ownSet (arrK.ownSet HO5.out (fun b hb => HNR.out b hb) _) (fun b hb => HNR.out b hb) _) (fun b hb => HNR.out b hb) _
    · have := HS2.out b hb; have := HB1.out.size; omega
    · exact ((HBQ.out.setCell HRR.out _).setCell HRR.out _).setCell HRR.out _
  have KU := Lib.hid (decide_eq_true hu)
  obtain ⟨j, hj, hjl⟩ := cell_index ha hn
  obtain ⟨t, rfl⟩ : ∃ t : Nat, ch = t := ⟨ch.toNat, by omega⟩
  clear tc0 tc1
  have tc0 : decide ((0 : Int) ≤ (t : Int)) = true := decide_eq_true (by omega)
  have tc1 : decide ((t : Int) < 11) = true := decide_eq_true (by omega)
  obtain ⟨U, rfl⟩ : ∃ U : Nat, u = U := ⟨u.toNat, by have := hu.1; omega⟩
  have hU : U < 16 := by have := hu.2; omega
  have HE : Hid (flippedF ga gb gr gd x bx br bc (t : Int) (U : Int) = flipC x j t U) := by
    show _ = _
    unfold flippedF
    rw [if_pos ⟨ha, hn, hc, hu⟩, hj]
    rfl
  have HJ := Lib.hid hj
  have HJL := Lib.hid hjl
  have ht : t < 11 := by omega
  have HSY : Hid (∀ c ∈ x.1, SymOk c.1 11) := ha.2.2.2.2.1
  clear ha hn hc hu hj hjl
  refine (implArrayOk_is ga gb gr gd _ _ true KA.out _ H3.out HF.out).mono ?_
  rintro e w4 ⟨rfl, hb4⟩
  have HBQ : Hid (Below w.heap.size w w4) := HB3.out.trans (hb4.mono HB3.out.size)
  have qq := keep_block hb4 q3 (lt_of_block q3)
  have rr := keep_block hb4 r3 (lt_of_block r3)
  have gg := keep_block hb4 g3 (lt_of_block g3)
  have ll := keep_block hb4 l3 (lt_of_block l3)
  have HO4 := Lib.hid (arrK.ownBelow HO3.out hb4)
  clear hb4 g3 l3 p3 q3 r3 x0 x1 x2 x3 y0 y1 y2 z0 z1 z2
  obtain ⟨x0, x1, x2, x3⟩ := cells4 gg
  obtain ⟨y0, y1, y2⟩ := cells3 ll
  go_wp2_with fail
  refine (implAddrOk_is ga gb gr gd bx br bc true KN.out _).mono ?_
  rintro e w5 ⟨rfl, hb5⟩
  have HBR : Hid (Below w.heap.size w w5) := HBQ.out.trans (hb5.mono HBQ.out.size)
  have q5 := keep_block hb5 qq (lt_of_block qq)
  have r5 := keep_block hb5 rr (lt_of_block rr)
  have g5 := keep_block hb5 gg (lt_of_block gg)
  have l5 := keep_block hb5 ll (lt_of_block ll)
  have HO5 := Lib.hid (arrK.ownBelow HO4.out hb5)
  clear HBQ HO4 qq rr gg ll hb5 x0 x1 x2 x3 y0 y1 y2
  have HBQ := HBR
  have qq := q5
  have rr := r5
  have gg := g5
  have ll := l5
  clear HBR q5 r5 g5 l5
  go_wp2_with fail
  refine (implIsEl_is (U : Int) true KU.out _).mono ?_
  rintro e w7 ⟨rfl, rfl⟩
  obtain ⟨c, hc⟩ : ∃ c, x.1.getD j ([], false) = c := ⟨_, rfl⟩
  have hcm : c ∈ x.1 := by rw [← hc, List.getD_eq_getElem?_getD, List.getElem?_eq_getElem HJL.out]; exact List.getElem_mem _
  have hsym := HSY.out c hcm
  obtain ⟨s, pz⟩ := c
  have hs11 : (s.length : Int) = 11 := hsym.2
  obtain ⟨gA, oA, nA, cA, _, _, aS, nS, kS, T, eA, hjn, hgA, hnm, hnS, hcell, hcellb, hT, hoS, hback⟩ := cell_place2 HO5.out HJL.out hc
  cases eA
  have hel : El (s.getD t 0) := els_getD hsym.1 t
  obtain ⟨p0, p1, p2⟩ := cells3 qq
  obtain ⟨x0, x1, x2, x3⟩ := cells4 gg
  obtain ⟨y0, y1, y2⟩ := cells3 ll
  have z0 := fun q : Later w5 => q.cell p0
  have z3 := fun q : Later w5 => q.cell hcell
  have z4 := fun q : Later w5 => q.cell hcellb
  have zx0 := fun q : Later w5 => q.cell x0
  have zx1 := fun q : Later w5 => q.cell x1
  have zx2 := fun q : Later w5 => q.cell x2
  have zx3 := fun q : Later w5 => q.cell x3
  have zy0 := fun q : Later w5 => q.cell y0
  have zy1 := fun q : Later w5 => q.cell y1
  have zy2 := fun q : Later w5 => q.cell y2
  have HOS := Lib.hid hoS
  have HT := Lib.hid hT
  have HBK := Lib.hid hback
  have HC := Lib.hid hc
  have HEL := Lib.hid hel
  have hnS' : nS ≤ 1000000 := by have : nS = s.length := hnS; omega
  have hts : t < s.length := by omega
  have HTS := Lib.hid hts
  unfold maxLen at hnm
  clear hback hoS hT hsym hcell hcellb hcm hc hel hts hnS p0 p1 p2 x0 x1 x2 x3 y0 y1 y2
  go_wp2_with fail
  refine wp_region_later_tail 9 (by kernel_rfl) (by kernel_rfl) ?_
  simp only [List.take_succ_cons, List.take_zero, List.drop_succ_cons, List.drop_zero]
  repeat (go_big_quiet_step (first | (go_at_call 55; exact Gives.later _ (implIndex_is ga gb gr gd bx br bc (j : Int) HJ.out _))))
  refine wpQuiet_nil ?_
  rintro R0 ⟨zz, hz⟩
  have hbR : Below w5.heap.size w5 R0 := hz ▸ zz.ok
  clear z0 z3 z4 zx0 zx1 zx2 zx3 zy0 zy1 zy2 hz zz
  have HOS2 := Lib.hid (intsK.ownBelow HOS.out hbR)
  have HBR := Lib.hid hbR
  have qR := keep_block hbR qq (lt_of_block qq)
  have rR := keep_block hbR rr (lt_of_block rr)
  have HBX : Hid (Below w.heap.size w R0) := HBQ.out.trans (hbR.mono HBQ.out.size)
  clear hbR qq rr HBQ gg ll
  go_wp2_with fail
  refine (implFlip_is (p := pz) HOS2.out HTS.out hnS' HEL.out hU).mono ?_
  rintro e R1 ⟨rfl, ho1, hn1⟩
  have HO6 : Hid (arrK.own R1 T2 [.slice (some ⟨gA, oA, none⟩) m0 k0, .slice d1 m1 k1, .slice d2 m2 k2] (flipC x j t U)) := by
    have := HBK.out R1 _ ((Below.onlyS HBR.out).trans hn1) ho1
    show arrK.own R1 T2 [.slice (some ⟨gA, oA, none⟩) m0 k0, .slice d1 m1 k1, .slice d2 m2 k2] (x.1.set j ((x.1.getD j ([], false)).1.set t (xr ((x.1.getD j ([], false)).1.getD t 0) U), (x.1.getD j ([], false)).2), x.2)
    rw [HC.out]
    exact this
  have hgT : ∀ b ∈ T, b ∈ T2 := fun b hb => (HT.out b hb).1
  have qq : R1.heap[w2.heap.size]? = _ := (hn1.block _ (lt_of_block qR) (fun hb => HNP.out (hgT _ hb))).trans qR
  have rr : R1.heap[w.heap.size + 1 + 1 + 1]? = _ := (hn1.block _ (lt_of_block rR) (fun hb => HNR.out _ (hgT _ hb) rfl)).trans rR
  have HBQ : Hid (Below w.heap.size w R1) := HBX.out.trans (hn1.below (fun b hb => by have := HS2.out b (hgT b hb); have := HB1.out.size; omega) HBX.out.size)
  clear ho1 hn1 qR rR HBX hgT HOS2 HBR
  obtain ⟨v0, v1, v2⟩ := cells3 rr
  have f0 := thawed rr 0
  have f1 := thawed rr 1
  have f2 := thawed rr 2
  obtain ⟨u0, u1, u2⟩ := cells3 qq
  have o5 := set_cells (set_cells (set_cells rr 0 (.slice (some ⟨gA, oA, none⟩) m0 k0)) 1 (.slice d1 m1 k1)) 2 (.slice d2 m2 k2)
  obtain ⟨t0, t1, t2⟩ := cells3 o5
  go_wp2_with fail
  (try simp only [Exit.inBlock, Exit.then])
  refine bodyPost_ret (v := .agg #[.slice (some ⟨gA, oA, none⟩) m0 k0, .slice d1 m1 k1, .slice d2 m2 k2]) ?_ rfl ⟨_, T2, rfl, ?_, fun b hb => ?_, ?_⟩
  · simp [results, Try.results21, go_sem, t0, t1, t2]
  · rw [HE.out]
    exact arrK.ownSet (arrK.ownSet (arrK.ownSet HO6.out (fun b hb => HNR.out b hb) _) (fun b hb => HNR.out b hb) _) (fun b hb => HNR.out b hb) _
  · have := HS2.out b hb; have := HB1.out.size; omega
  · exact ((HBQ.out.setCell HRR.out _).setCell HRR.out _).setCell HRR.out _

end Go.Proofs.Ytfpfgaifhmgpiaa

namespace Go.Proofs.Ytfpfgaifhmgpiaa
open Go.RowKit

set_option linter.unusedVariables false

theorem exFlipSymbol_walk (ea eb ec ed : Int) (lx : List Value) (bx br bc : Int) (ch : Int) (fu : Int) (w : World) (_ : (Lit.int .i64 ea).wf = true) (_ : (Lit.int .i64 eb).wf = true) (_ : (Lit.int .i64 ec).wf = true) (_ : (Lit.int .i64 ed).wf = true) (s : Sh.Fits w (.and (.row (.and (.row (.num .i64)) (.and .flag .fin))) (.and (.row (.num .i64)) (.and (.row (.num .i64)) .fin))) lx) (_ : (Lit.int .i64 bx).wf = true) (_ : (Lit.int .i64 br).wf = true) (_ : (Lit.int .i64 bc).wf = true) (_ : (Lit.int .i64 ch).wf = true) (_ : (Lit.int .i64 fu).wf = true) :
    Calls Try.prog 8 #[.agg #[.int .i64 ea, .int .i64 eb, .int .i64 ec, .int .i64 ed], .agg lx.toArray, .agg #[.int .i64 bx, .int .i64 br, .int .i64 bc], .int .i64 ch, .int .i64 fu] w fun e w' => e = .returned (.bool true) ∧ Below w.heap.size w w' := exFlipSymbol_of (Lib.hid implFlipSymbol_is) ea eb ec ed lx bx br bc ch fu w s

end Go.Proofs.Ytfpfgaifhmgpiaa
