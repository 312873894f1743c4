/-
  Texts of one proof, merged: ArrQ, ArrR, ArrO, ArrO2, CodU, LinW, CodS, ArrW1, ArrYA, ArrYB, CodQ, ArrYC, ArrYP, ArrYQ, ArrYR.
-/
import Derived.Test.YtfpfgaifhmgpiaaDoorQL142
import Derived.Test.YtfpfgaifhmgpiaaDoorQL143
import Derived.Test.YtfpfgaifhmgpiaaDoorQL145
import Derived.Test.YtfpfgaifhmgpiaaDoorQL146
import Derived.Test.YtfpfgaifhmgpiaaDoorQL1410
import Derived.Test.YtfpfgaifhmgpiaaDoorQL1411
import Derived.Test.YtfpfgaifhmgpiaaDoorQL1418
import Derived.Laws.AppendOwnNone
namespace Go.Proofs.YtfpfgaifhmgpiaaDoor
open Go.RowKit Go.PlainAid

set_option linter.unusedVariables false

theorem newA_ok {ga gb gr gd : Int} (hg : GeoOk ga gb gr gd) : ArrOk ga gb gr gd (newA ga gb gr gd) := by
  have h1 := lineN_range ga gb gr gd
  have h2 := rowsN_range hg
  refine ⟨hg, ?_, ?_, ?_, ?_, ?_, ?_⟩
  · unfold newA; simp only [List.length_replicate]; omega
  · unfold newA; simp only [List.length_replicate]; exact Int.toNat_of_nonneg h2.1
  · unfold newA; simp
  · intro c hc
    unfold newA at hc
    rw [List.mem_replicate] at hc
    rw [hc.2]
    decide
  · intro v hv
    unfold newA at hv
    rw [List.mem_replicate] at hv
    rw [hv.2]
    exact ⟨by decide, by decide⟩
  · intro v hv
    unfold newA at hv
    rw [List.mem_replicate] at hv
    rw [hv.2]
    exact ⟨by decide, by decide⟩

theorem mem_getDI {l : List Int} {P : Int → Prop} : (∀ v ∈ l, P v) ↔ ∀ m, m < l.length → P (l.getD m 0) := by
  constructor
  · intro h m hm
    rw [getD_get hm]
    exact h _ (List.getElem_mem _)
  · intro h v hv
    obtain ⟨m, hm, rfl⟩ := List.getElem_of_mem hv
    have := h m hm
    rwa [getD_get hm] at this

theorem getD_setI (l : List Int) (i m : Nat) (v : Int) (hm : m < l.length) : (l.set i v).getD m 0 = if i = m then v else l.getD m 0 := by
  rw [List.getD_eq_getElem?_getD, List.getElem?_set]
  by_cases e : i = m
  · subst e
    rw [if_pos rfl, if_pos rfl, if_pos hm]
    rfl
  · rw [if_neg e, if_neg e, List.getD_eq_getElem?_getD]

theorem ageP_le (v : Int) : ageP 1 v ≤ v + 1 := by unfold ageP; split <;> omega

theorem hitF_le (z : List Int) (j m : Nat) (hm : m < z.length) : (hitF z j).getD m 0 ≤ z.getD m 0 + (if j = m then 1 else 0) := by
  unfold hitF
  rw [getD_setI _ _ _ _ hm]
  by_cases e : j = m
  · subst e
    rw [if_pos rfl, if_pos rfl]
    exact ageP_le _
  · rw [if_neg e, if_neg e]
    omega

theorem hits_le {gr rw : Int} {z : List Int} {i k : Nat} (h : ∀ v ∈ z, v ≤ (k : Int)) : ∀ v ∈ hitsF gr z i rw, v ≤ ((k + 1 : Nat) : Int) := by
  rw [mem_getDI] at h ⊢
  intro m hm
  rw [hitsF_length] at hm
  have h0 : (z.set i 0).getD m 0 ≤ (k : Int) := by
    rw [getD_setI _ _ _ _ hm]
    split
    · omega
    · exact h m hm
  have hm1 : m < (z.set i 0).length := by rw [List.length_set]; exact hm
  have h1 := hitF_le (z.set i 0) (i - 1) m hm1
  have h2 := hitF_le (z.set i 0) (i + 1) m hm1
  have h3 := hitF_le (hitF (z.set i 0) (i - 1)) (i + 1) m (by rw [hitF_length]; exact hm1)
  unfold hitsF
  simp only
  split <;> split <;> (split at h1 <;> split at h2 <;> omega)

theorem sense_age {gr gd la lh rw : Int} {x : Arr} {i : Nat} {n : Int} (h0 : 0 ≤ n) (h : ∀ v ∈ x.2.1, v ≤ n) : ∀ v ∈ (senseF gr gd la lh x i rw).2.1, v ≤ n := by
  intro v hv
  rcases List.mem_or_eq_of_mem_set hv with h1 | h1
  · exact h v h1
  · omega

theorem time_ok {ga gb gr gd n : Int} {x : Arr} (h : ArrOk ga gb gr gd x) (hn : 0 ≤ n) : ArrOk ga gb gr gd (timeF n x) := by
  obtain ⟨h1, h2, h3, h4, h5, h6, h7⟩ := h
  refine ⟨h1, h2, ?_, ?_, h5, ?_, h7⟩
  · show ((x.2.1.map (ageP n)).length : Int) = _
    rw [List.length_map]; exact h3
  · show _ = (x.2.1.map (ageP n)).length
    rw [List.length_map]; exact h4
  · intro v hv
    obtain ⟨u, hu, rfl⟩ := List.mem_map.1 (show v ∈ x.2.1.map (ageP n) from hv)
    have := h6 u hu
    unfold AgeOk at this ⊢
    unfold ageP
    split <;> omega

theorem time_age {n : Int} {x : Arr} {k : Int} (hn : 0 ≤ n ∧ n ≤ 29) (h : ∀ v ∈ x.2.1, v ≤ 30 * k) : ∀ v ∈ (timeF n x).2.1, v ≤ 30 * (k + 1) := by
  intro v hv
  obtain ⟨u, hu, rfl⟩ := List.mem_map.1 (show v ∈ x.2.1.map (ageP n) from hv)
  have := h u hu
  unfold ageP
  split <;> omega

theorem put_ok {ga gb gr gd : Int} {x : Arr} (h : ArrOk ga gb gr gd x) {y : List Int × Bool} (hy : SymOk y.1 11) (j : Nat) : ArrOk ga gb gr gd (x.1.set j y, x.2) := by
  obtain ⟨h1, h2, h3, h4, h5, h6, h7⟩ := h
  refine ⟨h1, by rw [List.length_set]; exact h2, h3, h4, fun c hc => ?_, h6, h7⟩
  rcases List.mem_or_eq_of_mem_set hc with q | q
  · exact h5 c q
  · subst q; exact hy

/-- A drawn case. -/
def DrewC (c B : Nat) (w : World) (e : Ending) (w' : World) : Prop :=
  ∃ (b r d la lh : Int) (cs : List Value) (S : List Nat) (x : Arr), e = .returned (.tuple #[.agg #[.int .i64 1, .int .i64 b, .int .i64 r, .int .i64 d], .agg #[.int .i64 la, .int .i64 lh], .agg cs.toArray]) ∧
    ((1 ≤ b ∧ b ≤ 2) ∧ (2 ≤ r ∧ r ≤ 4) ∧ (1 ≤ d ∧ d ≤ 2)) ∧ ((0 ≤ la ∧ la ≤ 100) ∧ (0 ≤ lh ∧ lh ≤ 20)) ∧ ArrOk 1 b r d x ∧ (∀ v ∈ x.2.1, v ≤ 600) ∧ (∀ v ∈ x.2.2, v ≤ 20) ∧
    arrK.own w' S cs x ∧ (∀ g ∈ S, w.heap.size ≤ g) ∧ Cur c B w' ∧ Only c w w'

/-- What holds between two rounds. -/
structure CaseAt (c B : Nat) (w : World) (gP lP aP : Nat) (b r d la lh : Int) (cs : List Value) (k : Nat) (S : List Nat) (x : Arr) (u : World) : Prop where
  r0 : u.heap[w.heap.size]? = some (.cells #[.int .i64 0, .int .i64 0, .int .i64 0, .int .i64 0] 25)
  r1 : u.heap[w.heap.size + 1]? = some (.cells #[.int .i64 0, .int .i64 0] 27)
  r2 : u.heap[w.heap.size + 1 + 1]? = some (.cells #[.slice none 0 0, .slice none 0 0, .slice none 0 0] 31)
  g : u.heap[gP]? = some (.cells #[.int .i64 1, .int .i64 b, .int .i64 r, .int .i64 d] 25)
  l : u.heap[lP]? = some (.cells #[.int .i64 la, .int .i64 lh] 27)
  a : u.heap[aP]? = some (.cells cs.toArray 31)
  pos : w.heap.size + 3 ≤ gP ∧ w.heap.size + 3 ≤ lP ∧ w.heap.size + 3 ≤ aP ∧ c < w.heap.size ∧ B ≤ c
  out : gP ∉ S ∧ lP ∉ S ∧ aP ∉ S ∧ w.heap.size ∉ S ∧ w.heap.size + 1 ∉ S ∧ w.heap.size + 1 + 1 ∉ S
  own : arrK.own u S cs x
  base : ∀ g ∈ S, w.heap.size ≤ g
  ok : ArrOk 1 b r d x
  age : ∀ v ∈ x.2.1, v ≤ 30 * (k : Int)
  hit : ∀ v ∈ x.2.2, v ≤ (k : Int)
  cur : Cur c B u
  only : Only c w u

variable {c B : Nat} {w : World} {gP lP aP : Nat} {b r d la lh : Int} {cs : List Value} {k : Nat} {S : List Nat} {x : Arr} {u u' : World}

theorem CaseAt.later (h : CaseAt c B w gP lP aP b r d la lh cs k S x u) (hb : Below u.heap.size u u') : CaseAt c B w gP lP aP b r d la lh cs k S x u' :=
  ⟨keep_block hb h.r0 (lt_of_block h.r0), keep_block hb h.r1 (lt_of_block h.r1), keep_block hb h.r2 (lt_of_block h.r2), keep_block hb h.g (lt_of_block h.g), keep_block hb h.l (lt_of_block h.l), keep_block hb h.a (lt_of_block h.a), h.pos, h.out, arrK.ownBelow h.own hb, h.base, h.ok, h.age, h.hit,
   h.cur.keep (hb.block c h.cur.lt) (hb.mono (by have := h.pos; have := h.cur.lt; omega)), h.only.later hb⟩

theorem CaseAt.draw (h : CaseAt c B w gP lP aP b r d la lh cs k S x u) (hc : Cur c B u') (ho : Only c u u') : CaseAt c B w gP lP aP b r d la lh cs k S x u' := by
  have hp := h.pos
  refine ⟨(ho.block _ (lt_of_block h.r0) (by omega)).trans h.r0, (ho.block _ (lt_of_block h.r1) (by omega)).trans h.r1, (ho.block _ (lt_of_block h.r2) (by omega)).trans h.r2, (ho.block _ (lt_of_block h.g) (by omega)).trans h.g, (ho.block _ (lt_of_block h.l) (by omega)).trans h.l, (ho.block _ (lt_of_block h.a) (by omega)).trans h.a, h.pos, h.out, arrK.ownKeep h.own ho.onlyS (fun b hb => ?_), h.base, h.ok, h.age, h.hit, hc, h.only.trans ho⟩
  rw [List.mem_singleton]
  have := h.base b hb
  omega

theorem CaseAt.turn (h : CaseAt c B w gP lP aP b r d la lh cs k S x u) {y : Arr} (ho : OnlyS S u u') (hw : arrK.own u' S cs y) (hy : ArrOk 1 b r d y) (ha : ∀ v ∈ y.2.1, v ≤ 30 * ((k + 1 : Nat) : Int)) (hh : ∀ v ∈ y.2.2, v ≤ ((k + 1 : Nat) : Int)) :
    CaseAt c B w gP lP aP b r d la lh cs (k + 1) S y u' := by
  have hp := h.pos
  have hcS : c ∉ S := fun hc => by have := h.base c hc; omega
  refine ⟨(ho.block _ (lt_of_block h.r0) h.out.2.2.2.1).trans h.r0, (ho.block _ (lt_of_block h.r1) h.out.2.2.2.2.1).trans h.r1, (ho.block _ (lt_of_block h.r2) h.out.2.2.2.2.2).trans h.r2, (ho.block _ (lt_of_block h.g) h.out.1).trans h.g, (ho.block _ (lt_of_block h.l) h.out.2.1).trans h.l, (ho.block _ (lt_of_block h.a) h.out.2.2.1).trans h.a, h.pos, h.out, hw, h.base, hy, ha, hh, ?_, ?_⟩
  · exact h.cur.keep (ho.block c h.cur.lt hcS) (ho.below (fun g hg => by have := h.base g hg; omega) (by have := h.cur.lt; omega))
  · exact h.only.trans' ⟨ho.os, ho.tape, ho.output, ho.size⟩ (fun i hi _ => ho.block i (Nat.lt_of_lt_of_le hi h.only.size) (fun hS => by have := h.base i hS; omega))

theorem CaseAt.swap (h : CaseAt c B w gP lP aP b r d la lh cs k S x u) {y : Arr} {S' : List Nat} (N : Nat) (hN : gP < N ∧ lP < N ∧ aP < N ∧ w.heap.size + 3 ≤ N) (ho : OnlyS S u u') (hw : arrK.own u' S' cs y) (hS : ∀ g ∈ S', g ∈ S ∨ N ≤ g) (hy : ArrOk 1 b r d y) (ha : ∀ v ∈ y.2.1, v ≤ 30 * ((k + 1 : Nat) : Int)) (hh : ∀ v ∈ y.2.2, v ≤ ((k + 1 : Nat) : Int)) :
    CaseAt c B w gP lP aP b r d la lh cs (k + 1) S' y u' := by
  have hp := h.pos
  have hcS : c ∉ S := fun hc => by have := h.base c hc; omega
  have ne : ∀ {g : Nat}, g ∉ S → g < N → g ∉ S' := fun h1 h2 h3 => by
    rcases hS _ h3 with q | q
    · exact h1 q
    · omega
  obtain ⟨o1, o2, o3, o4, o5, o6⟩ := h.out
  refine ⟨(ho.block _ (lt_of_block h.r0) o4).trans h.r0, (ho.block _ (lt_of_block h.r1) o5).trans h.r1, (ho.block _ (lt_of_block h.r2) o6).trans h.r2, (ho.block _ (lt_of_block h.g) o1).trans h.g, (ho.block _ (lt_of_block h.l) o2).trans h.l, (ho.block _ (lt_of_block h.a) o3).trans h.a, h.pos, ⟨ne o1 hN.1, ne o2 hN.2.1, ne o3 hN.2.2.1, ne o4 (by omega), ne o5 (by omega), ne o6 (by omega)⟩, hw, fun g hg => ?_, hy, ha, hh, ?_, ?_⟩
  · rcases hS g hg with q | q
    · exact h.base g q
    · omega
  · exact h.cur.keep (ho.block c h.cur.lt hcS) (ho.below (fun g hg => by have := h.base g hg; omega) (by have := h.cur.lt; omega))
  · exact h.only.trans' ⟨ho.os, ho.tape, ho.output, ho.size⟩ (fun i hi _ => ho.block i (Nat.lt_of_lt_of_le hi h.only.size) (fun hS => by have := h.base i hS; omega))

/-- What holds while the results are stored. -/
structure FinAt (c B : Nat) (w : World) (gP lP aP : Nat) (b r d la lh : Int) (cs : List Value) (S : List Nat) (x : Arr) (v0 v1 v2 : Array Value) (u : World) : Prop where
  r0 : u.heap[w.heap.size]? = some (.cells v0 25)
  r1 : u.heap[w.heap.size + 1]? = some (.cells v1 27)
  r2 : u.heap[w.heap.size + 1 + 1]? = some (.cells v2 31)
  g : u.heap[gP]? = some (.cells #[.int .i64 1, .int .i64 b, .int .i64 r, .int .i64 d] 25)
  l : u.heap[lP]? = some (.cells #[.int .i64 la, .int .i64 lh] 27)
  a : u.heap[aP]? = some (.cells cs.toArray 31)
  pos : w.heap.size + 3 ≤ gP ∧ w.heap.size + 3 ≤ lP ∧ w.heap.size + 3 ≤ aP ∧ c < w.heap.size ∧ B ≤ c
  out : w.heap.size ∉ S ∧ w.heap.size + 1 ∉ S ∧ w.heap.size + 1 + 1 ∉ S
  own : arrK.own u S cs x
  cur : Cur c B u
  only : Only c w u

theorem CaseAt.fin (h : CaseAt c B w gP lP aP b r d la lh cs k S x u) : FinAt c B w gP lP aP b r d la lh cs S x #[.int .i64 0, .int .i64 0, .int .i64 0, .int .i64 0] #[.int .i64 0, .int .i64 0] #[.slice none 0 0, .slice none 0 0, .slice none 0 0] u :=
  ⟨h.r0, h.r1, h.r2, h.g, h.l, h.a, h.pos, h.out.2.2.2, h.own, h.cur, h.only⟩

theorem FinAt.set0 {v0 v1 v2 : Array Value} (h : FinAt c B w gP lP aP b r d la lh cs S x v0 v1 v2 u) (i : Nat) (v : Value) : FinAt c B w gP lP aP b r d la lh cs S x (v0.setIfInBounds i v) v1 v2 (u.setCell ⟨w.heap.size, i, none⟩ v) := by
  have hp := h.pos
  have hne : ∀ {q : Nat}, q ≠ w.heap.size → (u.setCell ⟨w.heap.size, i, none⟩ v).heap[q]? = u.heap[q]? := fun e => Below.heap_setCell _ _ _ _ e
  exact ⟨set_cells h.r0 i v, (hne (by omega)).trans h.r1, (hne (by omega)).trans h.r2, (hne (by omega)).trans h.g, (hne (by omega)).trans h.l, (hne (by omega)).trans h.a, h.pos, h.out, Kn.ownSet arrK h.own (p := ⟨w.heap.size, i, none⟩) (fun q hq e => h.out.1 ((show q = w.heap.size from e) ▸ hq)) v, h.cur.setNew (by show B ≤ w.heap.size; omega) (by show w.heap.size ≠ c; omega) v, h.only.setNew (Nat.le_refl _) v⟩

theorem FinAt.set1 {v0 v1 v2 : Array Value} (h : FinAt c B w gP lP aP b r d la lh cs S x v0 v1 v2 u) (i : Nat) (v : Value) : FinAt c B w gP lP aP b r d la lh cs S x v0 (v1.setIfInBounds i v) v2 (u.setCell ⟨w.heap.size + 1, i, none⟩ v) := by
  have hp := h.pos
  have hne : ∀ {q : Nat}, q ≠ w.heap.size + 1 → (u.setCell ⟨w.heap.size + 1, i, none⟩ v).heap[q]? = u.heap[q]? := fun e => Below.heap_setCell _ _ _ _ e
  exact ⟨(hne (by omega)).trans h.r0, set_cells h.r1 i v, (hne (by omega)).trans h.r2, (hne (by omega)).trans h.g, (hne (by omega)).trans h.l, (hne (by omega)).trans h.a, h.pos, h.out, Kn.ownSet arrK h.own (p := ⟨w.heap.size + 1, i, none⟩) (fun q hq e => h.out.2.1 ((show q = w.heap.size + 1 from e) ▸ hq)) v, h.cur.setNew (by show B ≤ w.heap.size + 1; omega) (by show w.heap.size + 1 ≠ c; omega) v, h.only.setNew (by show w.heap.size ≤ w.heap.size + 1; omega) v⟩

theorem FinAt.set2 {v0 v1 v2 : Array Value} (h : FinAt c B w gP lP aP b r d la lh cs S x v0 v1 v2 u) (i : Nat) (v : Value) : FinAt c B w gP lP aP b r d la lh cs S x v0 v1 (v2.setIfInBounds i v) (u.setCell ⟨w.heap.size + 1 + 1, i, none⟩ v) := by
  have hp := h.pos
  have hne : ∀ {q : Nat}, q ≠ w.heap.size + 1 + 1 → (u.setCell ⟨w.heap.size + 1 + 1, i, none⟩ v).heap[q]? = u.heap[q]? := fun e => Below.heap_setCell _ _ _ _ e
  exact ⟨(hne (by omega)).trans h.r0, (hne (by omega)).trans h.r1, set_cells h.r2 i v, (hne (by omega)).trans h.g, (hne (by omega)).trans h.l, (hne (by omega)).trans h.a, h.pos, h.out, Kn.ownSet arrK h.own (p := ⟨w.heap.size + 1 + 1, i, none⟩) (fun q hq e => h.out.2.2 ((show q = w.heap.size + 1 + 1 from e) ▸ hq)) v, h.cur.setNew (by show B ≤ w.heap.size + 1 + 1; omega) (by show w.heap.size + 1 + 1 ≠ c; omega) v, h.only.setNew (by show w.heap.size ≤ w.heap.size + 1 + 1; omega) v⟩

theorem FinAt.drew {v0 v1 v2 : Array Value} (h : FinAt c B w gP lP aP b r d la lh cs S x v0 v1 v2 u) : FinAt c B w gP lP aP b r d la lh cs S x v0 v1 v2 u.drew :=
  ⟨h.r0, h.r1, h.r2, h.g, h.l, h.a, h.pos, h.out, arrK.same h.own (fun _ _ => rfl), h.cur, h.only.drew⟩

theorem sense_near {ga gb gr gd bk rw : Int} {x : Arr} (h : ArrOk ga gb gr gd x) (hr : AdOk ga gb gr gd bk rw 0) (la lh : Int) :
    ∃ i : Nat, bk * gr + rw = i ∧ ArrOk ga gb gr gd (senseF gr gd la lh x i rw) := by
  obtain ⟨i, D, h1, h2, _, h4, _⟩ := row_near h hr
  refine ⟨i, h1, sense_ok h ?_⟩
  rw [h2, Int.toNat_natCast]
  exact h4

set_option maxHeartbeats 16000000 in
set_option maxRecDepth 100000 in
theorem l14Case_any {c B : Nat} {w : World} (hc : Cur c B w) : Calls Tryd.prog 32 #[.pointer (some ⟨c, 0, none⟩)] w (DrewC c B w) := by
  have hcl := hc.lt
  have hBc : B ≤ c := by obtain ⟨_, _, _, _, _, _, _, h, _⟩ := hc; exact h
  obtain ⟨w1, hw1⟩ : ∃ u, ((w.alloc (.cells #[.int .i64 0, .int .i64 0, .int .i64 0, .int .i64 0] 25)).alloc (.cells #[.int .i64 0, .int .i64 0] 27)).alloc (.cells #[.slice none 0 0, .slice none 0 0, .slice none 0 0] 31) = u := ⟨_, rfl⟩
  obtain ⟨r01, r11, r21, hb1⟩ := alloc3 hw1
  have HC1 : Hid (Cur c B w1) := by subst hw1; exact ((hc.alloc _).alloc _).alloc _
  have HO1 : Hid (Only c w w1) := by subst hw1; exact (((Only.refl c w).alloc _).alloc _).alloc _
  have hs1 : w.heap.size + 3 ≤ w1.heap.size := by subst hw1; simp
  clear hc hb1
  go_enter Tryd.func32, Tryd.ntmps32
  go_wp2_with fail
  clear hw1
  refine (l14Small_any HC1.out).mono ?_
  rintro e w2 ⟨b, r, d, rfl, hb, hr, hd, hc2, ho2⟩
  have HG : Hid ((1 ≤ b ∧ b ≤ 2) ∧ (2 ≤ r ∧ r ≤ 4) ∧ (1 ≤ d ∧ d ≤ 2)) := ⟨hb, hr, hd⟩
  have HGO : Hid (GeoOk 1 b r d) := ⟨by omega, by omega, by omega, by omega⟩
  have r02 := (ho2.block _ (lt_of_block r01) (by omega)).trans r01
  have r12 := (ho2.block _ (lt_of_block r11) (by omega)).trans r11
  have r22 := (ho2.block _ (lt_of_block r21) (by omega)).trans r21
  have hs2 : w.heap.size + 3 ≤ w2.heap.size := Nat.le_trans hs1 ho2.size
  have hb3 : Below w2.heap.size w2 (w2.alloc (.cells #[.int .i64 1, .int .i64 b, .int .i64 r, .int .i64 d] 25)) := (Below.refl _ _).alloc (Nat.le_refl _) _
  have HC3 : Hid (Cur c B (w2.alloc (.cells #[.int .i64 1, .int .i64 b, .int .i64 r, .int .i64 d] 25))) := hc2.alloc _
  have HO3 : Hid (Only c w (w2.alloc (.cells #[.int .i64 1, .int .i64 b, .int .i64 r, .int .i64 d] 25))) := (HO1.out.trans ho2).alloc _
  have r03 := keep_block hb3 r02 (lt_of_block r02)
  have r13 := keep_block hb3 r12 (lt_of_block r12)
  have r23 := keep_block hb3 r22 (lt_of_block r22)
  have g3 := heap_alloc_new w2 (.cells #[.int .i64 1, .int .i64 b, .int .i64 r, .int .i64 d] 25)
  have HGP : Hid (w.heap.size + 3 ≤ w2.heap.size) := hs2
  clear hb hr hd hc2 ho2 r01 r11 r21 r02 r12 r22 HC1 HO1 hs1 hb3
  go_wp2_with fail
  generalize w2.alloc (.cells #[.int .i64 1, .int .i64 b, .int .i64 r, .int .i64 d] 25) = w3 at HC3 HO3 r03 r13 r23 g3 ⊢
  generalize w2.heap.size = gP at g3 HGP hs2 ⊢
  clear hs2
  refine (l14Limits_any HC3.out).mono ?_
  rintro e w4 ⟨la, lh, rfl, hla, hlh, hc4, ho4⟩
  have HL : Hid ((0 ≤ la ∧ la ≤ 100) ∧ (0 ≤ lh ∧ lh ≤ 20)) := ⟨hla, hlh⟩
  have hgl : gP < w3.heap.size := lt_of_block g3
  have hgp := HGP.out
  have r04 := (ho4.block _ (lt_of_block r03) (by omega)).trans r03
  have r14 := (ho4.block _ (lt_of_block r13) (by omega)).trans r13
  have r24 := (ho4.block _ (lt_of_block r23) (by omega)).trans r23
  have g4 := (ho4.block _ (lt_of_block g3) (by omega)).trans g3
  have hs4 : w.heap.size + 3 ≤ w4.heap.size := by have := ho4.size; omega
  have hb5 : Below w4.heap.size w4 (w4.alloc (.cells #[.int .i64 la, .int .i64 lh] 27)) := (Below.refl _ _).alloc (Nat.le_refl _) _
  have HC5 : Hid (Cur c B (w4.alloc (.cells #[.int .i64 la, .int .i64 lh] 27))) := hc4.alloc _
  have HO5 : Hid (Only c w (w4.alloc (.cells #[.int .i64 la, .int .i64 lh] 27))) := (HO3.out.trans ho4).alloc _
  have r05 := keep_block hb5 r04 (lt_of_block r04)
  have r15 := keep_block hb5 r14 (lt_of_block r14)
  have r25 := keep_block hb5 r24 (lt_of_block r24)
  have g5 := keep_block hb5 g4 (lt_of_block g4)
  have l5 := heap_alloc_new w4 (.cells #[.int .i64 la, .int .i64 lh] 27)
  have HLP : Hid (w.heap.size + 3 ≤ w4.heap.size) := hs4
  obtain ⟨x0, x1, x2, x3⟩ := cells4 g5
  clear hla hlh hc4 ho4 r03 r13 r23 r04 r14 r24 g3 g4 HC3 HO3 hb5 hgl hgp
  go_wp2_with fail
  clear x0 x1 x2 x3
  generalize w4.alloc (.cells #[.int .i64 la, .int .i64 lh] 27) = w5 at HC5 HO5 r05 r15 r25 g5 l5 ⊢
  generalize w4.heap.size = lP at l5 HLP hs4 ⊢
  clear hs4
  refine (specArrayNew_is 1 b r d _).mono ?_
  rintro e w6 ⟨cs, S, rfl, own6, hS6, hb6⟩
  obtain ⟨a0, n0, c0, a1, n1, c1, a2, n2, c2, rfl, _, _, _⟩ := arr_rd (arrK.read own6)
  have HS6 : Hid (∀ g ∈ S, w5.heap.size ≤ g) := hS6
  have HC6 : Hid (Cur c B w6) := HC5.out.keep (hb6.block c HC5.out.lt) (hb6.mono (by have := HC5.out.lt; omega))
  have HO6 : Hid (Only c w w6) := HO5.out.later hb6
  have r06 := keep_block hb6 r05 (lt_of_block r05)
  have r16 := keep_block hb6 r15 (lt_of_block r15)
  have r26 := keep_block hb6 r25 (lt_of_block r25)
  have g6 := keep_block hb6 g5 (lt_of_block g5)
  have l6 := keep_block hb6 l5 (lt_of_block l5)
  have hO6 : arrK.own w6 S [.slice a0 n0 c0, .slice a1 n1 c1, .slice a2 n2 c2] (newA 1 b r d) := own6
  have hb7 : Below w6.heap.size w6 (w6.alloc (.cells #[.slice a0 n0 c0, .slice a1 n1 c1, .slice a2 n2 c2] 31)) := (Below.refl _ _).alloc (Nat.le_refl _) _
  have a7 := heap_alloc_new w6 (.cells #[.slice a0 n0 c0, .slice a1 n1 c1, .slice a2 n2 c2] 31)
  have D7 : Hid (CaseAt c B w gP lP w6.heap.size b r d la lh [.slice a0 n0 c0, .slice a1 n1 c1, .slice a2 n2 c2] 0 S (newA 1 b r d) (w6.alloc (.cells #[.slice a0 n0 c0, .slice a1 n1 c1, .slice a2 n2 c2] 31))) := by
    have hlt := arrK.lt own6
    have e1 := lt_of_block g5
    have e2 := lt_of_block l5
    have e3 := lt_of_block r25
    have e4 := lt_of_block r05
    have e5 := hb6.size
    have e6 := HGP.out
    have e7 := HLP.out
    have e8 := HO5.out.size
    refine ⟨keep_block hb7 r06 (lt_of_block r06), keep_block hb7 r16 (lt_of_block r16), keep_block hb7 r26 (lt_of_block r26), keep_block hb7 g6 (lt_of_block g6), keep_block hb7 l6 (lt_of_block l6), a7, ⟨e6, e7, by omega, hcl, hBc⟩, ⟨fun h => ?_, fun h => ?_, fun h => ?_, fun h => ?_, fun h => ?_, fun h => ?_⟩, arrK.ownBelow hO6 hb7, fun g hg => by have := hS6 g hg; omega, newA_ok HGO.out, ?_, ?_, HC6.out.alloc _, HO6.out.alloc _⟩
    · have := hS6 _ h; omega
    · have := hS6 _ h; omega
    · have := hlt _ h; omega
    · have := hS6 _ h; omega
    · have := hS6 _ h; omega
    · have := hS6 _ h; omega
    · intro v hv
      unfold newA at hv
      rw [List.mem_replicate] at hv
      omega
    · intro v hv
      unfold newA at hv
      rw [List.mem_replicate] at hv
      omega
  clear own6 hS6 hb6 r05 r15 r25 g5 l5 r06 r16 r26 g6 l6 hO6 hb7 a7 HC5 HO5 HC6 HO6 HS6
  go_wp2_with fail
  generalize w6.alloc (.cells #[.slice a0 n0 c0, .slice a1 n1 c1, .slice a2 n2 c2] 31) = w7 at D7 ⊢
  generalize w6.heap.size = aP at D7 ⊢
  go_loopw [8] (fun i wr => ∃ (k : Nat) (S : List Nat) (x : Arr), k ≤ 20 ∧ i = .int .i64 (k : Int) ∧ CaseAt c B w gP lP aP b r d la lh [.slice a0 n0 c0, .slice a1 n1 c1, .slice a2 n2 c2] k S x wr) (fun i _ => 21 - (intOf i).toNat)
  case atStart => exact ⟨0, S, _, by decide, rfl, D7.out⟩
  case round =>
    obtain ⟨k, T, x, hk, rfl, hD⟩ := hrel
    have D := Lib.hid hD
    clear hD D7
    go_wp2_with fail
    refine (l01Below_any D.out.cur 20 (by omega)).mono ?_
    rintro e w8 ⟨y, rfl, hy0, hy1, hc8, ho8⟩
    rw [topOf_pos (by omega)] at hy1
    have D8 := Lib.hid (D.out.draw hc8 ho8)
    clear hc8 ho8 D
    by_cases hlt : (k : Int) < y
    case neg =>
      have t0 : decide ((k : Int) < y) = false := decide_eq_false hlt
      have hk20 : Hid (k ≤ 20) := hk
      clear hlt hy0 hy1
      go_wp2_with fail
      have HBASE := Lib.hid D8.out.base
      have HOK := Lib.hid D8.out.ok
      have HAGE : Hid (∀ v ∈ x.2.1, v ≤ 600) := fun v hv => by have := D8.out.age v hv; have := hk20.out; omega
      have HHIT : Hid (∀ v ∈ x.2.2, v ≤ 20) := fun v hv => by have := D8.out.hit v hv; have := hk20.out; omega
      refine wp_region_float (A := ?A) [.h, .h, .h, .t, .t, .e] (by kernel_rfl) (by kernel_rfl) (fun u => u.heap[gP]? = some (.cells #[.int .i64 1, .int .i64 b, .int .i64 r, .int .i64 d] 25) ∧ u.heap[lP]? = some (.cells #[.int .i64 la, .int .i64 lh] 27) ∧ u.heap[aP]? = some (.cells #[.slice a0 n0 c0, .slice a1 n1 c1, .slice a2 n2 c2] 31)) ?hC ?hH ?hT
      case hC => exact ⟨D8.out.g, D8.out.l, D8.out.a⟩
      case hH =>
        rintro u ⟨hu0, hu1, hu2⟩
        obtain ⟨p0, p1, p2, p3⟩ := cells4 hu0
        obtain ⟨q0, q1⟩ := cells2 hu1
        obtain ⟨s0, s1, s2⟩ := cells3 hu2
        have y0 := fun q : Same u => q.cell p0
        have y1 := fun q : Same u => q.cell p1
        have y2 := fun q : Same u => q.cell p2
        have y3 := fun q : Same u => q.cell p3
        have y4 := fun q : Same u => q.cell q0
        have y5 := fun q : Same u => q.cell q1
        have y6 := fun q : Same u => q.cell s0
        have y7 := fun q : Same u => q.cell s1
        have y8 := fun q : Same u => q.cell s2
        simp only [headsOf]
        repeat (go_big_quiet_step (fail))
        refine wpQuiet_nil ?_
        exact rfl
      case hT =>
        simp only [chainT]
        have F0 := D8.out.fin
        have F1 := Lib.hid (((((F0.set0 0 (.int .i64 1)).set0 1 (.int .i64 b)).set0 2 (.int .i64 r)).set0 3 (.int .i64 d)).drew)
        obtain ⟨u1, hu1⟩ : ∃ u, ((((w8.setCell ⟨w.heap.size, 0, none⟩ (.int .i64 1)).setCell ⟨w.heap.size, 1, none⟩ (.int .i64 b)).setCell ⟨w.heap.size, 2, none⟩ (.int .i64 r)).setCell ⟨w.heap.size, 3, none⟩ (.int .i64 d)).drew = u := ⟨_, rfl⟩
        rw [hu1] at F1
        obtain ⟨z0, z1, z2, z3⟩ := cells4 D8.out.r0
        have fz0 := thawed D8.out.r0 0
        have fz1 := thawed D8.out.r0 1
        have fz2 := thawed D8.out.r0 2
        have fz3 := thawed D8.out.r0 3
        clear F0 D8
        go_wp2_with fail
        clear z0 z1 z2 z3 fz0 fz1 fz2 fz3
        refine stepQ_normal ⟨And.intro F1.out.g (And.intro F1.out.l F1.out.a), ?_⟩
        clear hu1
        have F2 := Lib.hid ((F1.out.set1 0 (.int .i64 la)).set1 1 (.int .i64 lh))
        obtain ⟨y0, y1⟩ := cells2 F1.out.r1
        have f0 := thawed F1.out.r1 0
        have f1 := thawed F1.out.r1 1
        obtain ⟨u2, hu2⟩ : ∃ u, (u1.setCell ⟨w.heap.size + 1, 0, none⟩ (.int .i64 la)).setCell ⟨w.heap.size + 1, 1, none⟩ (.int .i64 lh) = u := ⟨_, rfl⟩
        rw [hu2] at F2
        clear F1
        go_wp2_with fail
        refine stepQ_normal ⟨And.intro F2.out.g (And.intro F2.out.l F2.out.a), ?_⟩
        clear y0 y1 f0 f1
        clear hu2
        have F3 := Lib.hid (((F2.out.set2 0 (.slice a0 n0 c0)).set2 1 (.slice a1 n1 c1)).set2 2 (.slice a2 n2 c2))
        obtain ⟨y0, y1, y2⟩ := cells3 F2.out.r2
        have f0 := thawed F2.out.r2 0
        have f1 := thawed F2.out.r2 1
        have f2 := thawed F2.out.r2 2
        obtain ⟨u3, hu3⟩ : ∃ u, ((u2.setCell ⟨w.heap.size + 1 + 1, 0, none⟩ (.slice a0 n0 c0)).setCell ⟨w.heap.size + 1 + 1, 1, none⟩ (.slice a1 n1 c1)).setCell ⟨w.heap.size + 1 + 1, 2, none⟩ (.slice a2 n2 c2) = u := ⟨_, rfl⟩
        rw [hu3] at F3
        clear F2
        go_wp2_with fail
        refine stepQ_normal ⟨trivial, ?_⟩
        clear y0 y1 y2 f0 f1 f2
        clear hu3
        have p0 : u3.heap[w.heap.size]? = some (.cells #[.int .i64 1, .int .i64 b, .int .i64 r, .int .i64 d] 25) := F3.out.r0
        have p1 : u3.heap[w.heap.size + 1]? = some (.cells #[.int .i64 la, .int .i64 lh] 27) := F3.out.r1
        have p2 : u3.heap[w.heap.size + 1 + 1]? = some (.cells #[.slice a0 n0 c0, .slice a1 n1 c1, .slice a2 n2 c2] 31) := F3.out.r2
        obtain ⟨y0, y1, y2, y3⟩ := cells4 p0
        obtain ⟨y4, y5⟩ := cells2 p1
        obtain ⟨y6, y7, y8⟩ := cells3 p2
        go_wp2
        (try simp only [Exit.inBlock, Exit.then])
        refine bodyPost_ret (v := .tuple #[.agg #[.int .i64 1, .int .i64 b, .int .i64 r, .int .i64 d], .agg #[.int .i64 la, .int .i64 lh], .agg #[.slice a0 n0 c0, .slice a1 n1 c1, .slice a2 n2 c2]]) ?_ rfl ⟨b, r, d, la, lh, _, T, x, rfl, HG.out, HL.out, HOK.out, HAGE.out, HHIT.out, F3.out.own, HBASE.out, F3.out.cur, F3.out.only⟩
        simp [results, Tryd.results32, go_sem, y0, y1, y2, y3, y4, y5, y6, y7, y8]
    have t0 : decide ((k : Int) < y) = true := decide_eq_true hlt
    have hk19 : k ≤ 18 := by omega
    have wk : IntKind.i64.wrap ((k : Int) + 1) = (k : Int) + 1 := IntWalk.i64_in _ (by omega)
    obtain ⟨x0, x1, x2, x3⟩ := cells4 D8.out.g
    clear hlt hy0 hy1
    go_wp2_with fail
    clear x0 x1 x2 x3
    refine (l03Addr_any D8.out.cur 1 b r d HGO.out).mono ?_
    rintro e w9 ⟨ax, ay, az, rfl, hao, hc9, ho9⟩
    have D9 := D8.out.draw hc9 ho9
    have HAO := Lib.hid hao
    have hb10 : Below w9.heap.size w9 (w9.alloc (.cells #[.int .i64 ax, .int .i64 ay, .int .i64 az] 45)) := (Below.refl _ _).alloc (Nat.le_refl _) _
    have D10 := Lib.hid (D9.later hb10)
    have t10 := heap_alloc_new w9 (.cells #[.int .i64 ax, .int .i64 ay, .int .i64 az] 45)
    have htc : c < w9.heap.size := hc9.lt
    have hTT : ∀ g ∈ T, g < w9.heap.size := arrK.lt D9.own
    have HTT := Lib.hid hTT
    clear hc9 ho9 D9 hb10 D8 hao hTT
    go_wp2_with fail
    generalize w9.alloc (.cells #[.int .i64 ax, .int .i64 ay, .int .i64 az] 45) = w10 at D10 t10 ⊢
    generalize w9.heap.size = tP at t10 htc HTT ⊢
    have HTC := Lib.hid htc
    refine (l01Below_any D10.out.cur 4 (by omega)).mono ?_
    rintro e w11 ⟨q, rfl, hq0, hq1, hc11, ho11⟩
    rw [topOf_pos (by omega)] at hq1
    have D11 := Lib.hid (D10.out.draw hc11 ho11)
    have t11 := (ho11.block _ (lt_of_block t10) (by omega)).trans t10
    clear hc11 ho11 D10 t10
    by_cases hqa : q = 0
    · subst hqa
      clear hq0 hq1
      go_wp2_with fail
      refine (l01Below_any D11.out.cur 30 (by omega)).mono ?_
      rintro e w12 ⟨n, rfl, hn0, hn1, hc12, ho12⟩
      rw [topOf_pos (by omega)] at hn1
      have D12 := Lib.hid (D11.out.draw hc12 ho12)
      clear hc12 ho12 D11 t11
      go_wp2_with fail
      refine (specTime_is (n := n) D12.out.a D12.out.own D12.out.out.2.2.1 ⟨hn0, by omega⟩ D12.out.ok.2.2.2.2.2.1).mono ?_
      rintro e w13 ⟨rfl, own13, ho13⟩
      have D13 := Lib.hid (D12.out.turn ho13 own13 (time_ok D12.out.ok hn0) (fun v hv => by have := time_age (n := n) (k := (k : Int)) ⟨hn0, by omega⟩ D12.out.age v hv; omega) (fun v hv => by have := D12.out.hit v hv; omega))
      clear own13 ho13 D12
      go_wp2_with fail
      go_roundw
      case rel => exact ⟨k + 1, _, _, by omega, by go_num, D13.out⟩
      case measure => simp [intOf]; omega
    · have tq0 : (q == 0) = false := by simpa using hqa
      by_cases hqb : q = 1
      · subst hqb
        clear hq0 hq1 tq0 hqa
        obtain ⟨j, hj, hjl⟩ := cell_index D11.out.ok HAO.out
        have HJ := Lib.hid hj
        have HJL := Lib.hid hjl
        obtain ⟨gA, oA, nA, cA, _, _, eA, hjn, hnm, hgA, _, _, _, _⟩ := cell_put D11.out.own hjl
        cases eA
        unfold maxLen at hnm
        have HGA := Lib.hid hgA
        have hjn' : (j : Int) < (n0 : Int) := by omega
        clear hj hjl
        go_wp2_with fail
        refine wp_region_float (A := ?A2) [.h, .h, .h, .h, .t, .h, .t, .h, .t, .t, .t, .e] (by kernel_rfl) (by kernel_rfl) (fun q => q.heap[aP]? = some (.cells #[.slice (some ⟨gA, oA, none⟩) n0 c0, .slice a1 n1 c1, .slice a2 n2 c2] 31 (0, 0)) ∧ q.heap[gP]? = some (.cells #[.int .i64 1, .int .i64 b, .int .i64 r, .int .i64 d] 25 (0, 0)) ∧ q.heap[tP]? = some (.cells #[.int .i64 ax, .int .i64 ay, .int .i64 az] 45 (0, 0))) ?hC2 ?hH2 ?hT2
        case hC2 => exact ⟨D11.out.a, D11.out.g, t11⟩
        case hH2 =>
          intro q hq
          obtain ⟨h0, h1, h2⟩ := hq
          obtain ⟨p0, p1, p2⟩ := cells3 h0
          obtain ⟨x0, x1, x2, x3⟩ := cells4 h1
          obtain ⟨y0, y1, y2⟩ := cells3 h2
          have z0 := fun t : Same q => t.cell p0
          have z1 := fun t : Same q => t.cell x0
          have z2 := fun t : Same q => t.cell x1
          have z3 := fun t : Same q => t.cell x2
          have z4 := fun t : Same q => t.cell x3
          have z5 := fun t : Same q => t.cell y0
          have z6 := fun t : Same q => t.cell y1
          have z7 := fun t : Same q => t.cell y2
          simp only [headsOf]
          repeat (go_big_quiet_step (fail))
          refine wpQuiet_nil ?_
          exact rfl
        case hT2 =>
          simp only [chainT]
          have hdr : Below w11.heap.size w11 w11.drew := ⟨rfl, rfl, rfl, Nat.le_refl _, fun _ _ => rfl⟩
          have DD := Lib.hid (D11.out.later hdr)
          have td : w11.drew.heap[tP]? = some (.cells #[.int .i64 ax, .int .i64 ay, .int .i64 az] 45 (0, 0)) := t11
          clear D11 t11 hdr
          generalize w11.drew = w6 at *
          go_wp2_with fail
          refine (specIndex_is 1 b r d ax ay az (j : Int) HJ.out _).mono ?_
          rintro e w12 ⟨rfl, hb12⟩
          have D12 := Lib.hid (DD.out.later hb12)
          have t12 := keep_block hb12 td (lt_of_block td)
          have k12 := And.intro D12.out.a (And.intro D12.out.g t12)
          clear hb12 DD td
          go_wp2_with fail
          refine stepQ_normal ⟨k12, ?_⟩
          go_wp2_with fail
          refine (l12Bent_any D12.out.cur).mono ?_
          rintro e w13 ⟨ba, bcap, bl, rfl, hcap, hsym, hown, hc13, ho13⟩
          have D13 := Lib.hid (D12.out.draw hc13 ho13)
          have t13 := (ho13.block _ (lt_of_block t12) (by have := HTC.out; omega)).trans t12
          have k13 := And.intro D13.out.a (And.intro D13.out.g t13)
          have hcw : c < w12.heap.size := D12.out.cur.lt
          have hTw : ∀ g ∈ T, g < w12.heap.size := arrK.lt D12.out.own
          have HSYM := Lib.hid hsym
          have HOW := Lib.hid hown
          have HCAP := Lib.hid hcap
          have HNW : Hid (gP < w12.heap.size ∧ lP < w12.heap.size ∧ aP < w12.heap.size ∧ w.heap.size + 3 ≤ w12.heap.size) := ⟨lt_of_block D12.out.g, lt_of_block D12.out.l, lt_of_block D12.out.a, by have := lt_of_block D12.out.g; have := D12.out.pos; omega⟩
          have HTW := Lib.hid hTw
          have HCW := Lib.hid hcw
          clear hc13 ho13 D12 t12 k12 hsym hown hcap hTw hcw
          go_wp2_with fail
          refine stepQ_normal ⟨k13, ?_⟩
          go_wp2_with fail
          refine (l01Once_any D13.out.cur 5 (by omega)).mono ?_
          rintro e w14 ⟨pb, rfl, hc14, ho14⟩
          have D14 := Lib.hid (D13.out.draw hc14 ho14)
          have t14 := (ho14.block _ (lt_of_block t13) (by have := HTC.out; omega)).trans t13
          have k14 := And.intro D14.out.a (And.intro D14.out.g t14)
          have hbl : bl.length = 11 := by have := HSYM.out.2; omega
          have hOW14 := HOW.out.only ho14 HCW.out
          obtain ⟨TB, hTB, hTB2⟩ := ints_of_own (hOW14.toJ hbl) HCAP.out (by unfold maxLen; omega)
          have hTBN : ∀ g ∈ TB, w12.heap.size ≤ g := fun g hg => by
            rcases hTB2 with ⟨_, h⟩ | ⟨_, g', o', _, h, hB⟩
            · rw [h] at hg; cases hg
            · rw [h, List.mem_singleton] at hg; omega
          obtain ⟨_, _, _, _, _, _, e8, _, _, _, ⟨o8, hc8⟩, ⟨o8', hc8'⟩, hf8, hput⟩ := cell_put D14.out.own HJL.out
          cases e8
          obtain ⟨S9, hS9, own9⟩ := hput TB ba 11 bcap (bl, pb) pb (cell_of pb hTB) (fun g hg hg' => by have := hTBN g hg; have := HTW.out g hg'; omega)
          have f80 := hf8 (oA + j * 2)
          have f81 := hf8 (oA + j * 2 + 1)
          have ho9 : OnlyS T w14 ((w14.setCell ⟨gA, oA + j * 2, none⟩ (.slice ba 11 bcap)).setCell ⟨gA, oA + j * 2 + 1, none⟩ (.bool pb)) := ((OnlyS.refl T w14).setCell (p := ⟨gA, oA + j * 2, none⟩) HGA.out _).setCell (p := ⟨gA, oA + j * 2 + 1, none⟩) HGA.out _
          have D15 := Lib.hid (D14.out.swap w12.heap.size HNW.out ho9 own9 (fun g hg => by
            rcases hS9 g hg with h | h
            · exact .inl h
            · exact .inr (hTBN g h)) (put_ok D14.out.ok HSYM.out j) (fun v hv => by have := D14.out.age v hv; omega) (fun v hv => by have := D14.out.hit v hv; omega))
          clear hTB hTB2 hTBN hput hf8 own9 hS9 ho9 hOW14 hc14 ho14 D13 t13 k13 D14 t14
          go_wp2_with fail
          refine stepQ_normal ⟨k14, ?_⟩
          go_wp2_with fail
          refine stepQ_normal ⟨k14, ?_⟩
          go_wp2_with fail
          refine stepQ_normal ⟨k14, ?_⟩
          go_wp2_with fail
          refine stepQ_normal ⟨trivial, ?_⟩
          clear k14 hc8 hc8' f80 f81
          go_wp2_with fail
          go_roundw
          case rel => exact ⟨k + 1, _, _, by omega, by go_num, D15.out⟩
          case measure => simp [intOf]; omega
      · have tq1 : (q == 1) = false := by simpa using hqb
        clear hq0 hq1 hqa hqb
        have had0 : AdOk 1 b r d ax ay 0 := ⟨HAO.out.1, HAO.out.2.1, by have := HG.out; omega⟩
        obtain ⟨i, hi, hok⟩ := sense_near D11.out.ok had0 la lh
        have HI := Lib.hid hi
        have HOK := Lib.hid hok
        have HAD := Lib.hid had0
        obtain ⟨p0, p1, p2, p3⟩ := cells4 D11.out.g
        obtain ⟨q0, q1⟩ := cells2 D11.out.l
        obtain ⟨s0, s1, s2⟩ := cells3 t11
        clear hi hok had0
        go_wp2_with fail
        clear p0 p1 p2 p3 q0 q1 s0 s1 s2
        refine (specSense_is 1 b r d la lh ax ay D11.out.a D11.out.own D11.out.out.2.2.1 D11.out.ok HAD.out HI.out).mono ?_
        rintro e w13 ⟨rfl, own13, ho13⟩
        have D13 := Lib.hid (D11.out.turn ho13 own13 HOK.out (fun v hv => by have := sense_age (n := 30 * (k : Int)) (by omega) D11.out.age v hv; omega) (hits_le D11.out.hit))
        clear own13 ho13 D11 t11
        go_wp2_with fail
        go_roundw
        case rel => exact ⟨k + 1, _, _, by omega, by go_num, D13.out⟩
        case measure => simp [intOf]; omega

end Go.Proofs.YtfpfgaifhmgpiaaDoor

namespace Go.Proofs.YtfpfgaifhmgpiaaDoor
open Go.RowKit Go.PlainAid

set_option linter.unusedVariables false

/-- A drawn geometry, its limits and a valid array whose ages and hits are small. -/
def DrewA (w : World) (e : Ending) (w' : World) : Prop :=
  ∃ (b r d la lh : Int) (cs : List Value) (S : List Nat) (x : Arr), e = .returned (.tuple #[.agg #[.int .i64 1, .int .i64 b, .int .i64 r, .int .i64 d], .agg #[.int .i64 la, .int .i64 lh], .agg cs.toArray]) ∧
    ((1 ≤ b ∧ b ≤ 2) ∧ (2 ≤ r ∧ r ≤ 4) ∧ (1 ≤ d ∧ d ≤ 2)) ∧ ((0 ≤ la ∧ la ≤ 100) ∧ (0 ≤ lh ∧ lh ≤ 20)) ∧ ArrOk 1 b r d x ∧ (∀ v ∈ x.2.1, v ≤ 600) ∧ (∀ v ∈ x.2.2, v ≤ 20) ∧
    arrK.own w' S cs x ∧ (∀ g ∈ S, w.heap.size ≤ g) ∧ Below w.heap.size w w'

/-- What holds while a drawn array's results are stored: m is where the results lie. -/
structure EndD (m : Nat) (cs : List Value) (S : List Nat) (x : Arr) (w : World) (v0 v1 v2 : Array Value) (u : World) : Prop where
  r0 : u.heap[m]? = some (.cells v0 25)
  r1 : u.heap[m + 1]? = some (.cells v1 27)
  r2 : u.heap[m + 1 + 1]? = some (.cells v2 31)
  out : m ∉ S ∧ m + 1 ∉ S ∧ m + 1 + 1 ∉ S
  own : arrK.own u S cs x
  below : Below m w u

variable {m : Nat} {cs : List Value} {S : List Nat} {x : Arr} {w : World} {v0 v1 v2 : Array Value} {u : World}

theorem EndD.set0 (h : EndD m cs S x w v0 v1 v2 u) (i : Nat) (v : Value) : EndD m cs S x w (v0.setIfInBounds i v) v1 v2 (u.setCell ⟨m, i, none⟩ v) := by
  have hne : ∀ {q : Nat}, q ≠ m → (u.setCell ⟨m, i, none⟩ v).heap[q]? = u.heap[q]? := fun e => Below.heap_setCell _ _ _ _ e
  exact ⟨set_cells h.r0 i v, (hne (by omega)).trans h.r1, (hne (by omega)).trans h.r2, h.out, Kn.ownSet arrK h.own (p := ⟨m, i, none⟩) (fun q hq e => h.out.1 ((show q = m from e) ▸ hq)) v, h.below.setCell (Nat.le_refl _) _⟩

theorem EndD.set1 (h : EndD m cs S x w v0 v1 v2 u) (i : Nat) (v : Value) : EndD m cs S x w v0 (v1.setIfInBounds i v) v2 (u.setCell ⟨m + 1, i, none⟩ v) := by
  have hne : ∀ {q : Nat}, q ≠ m + 1 → (u.setCell ⟨m + 1, i, none⟩ v).heap[q]? = u.heap[q]? := fun e => Below.heap_setCell _ _ _ _ e
  exact ⟨(hne (by omega)).trans h.r0, set_cells h.r1 i v, (hne (by omega)).trans h.r2, h.out, Kn.ownSet arrK h.own (p := ⟨m + 1, i, none⟩) (fun q hq e => h.out.2.1 ((show q = m + 1 from e) ▸ hq)) v, h.below.setCell (by show m ≤ m + 1; omega) _⟩

theorem EndD.set2 (h : EndD m cs S x w v0 v1 v2 u) (i : Nat) (v : Value) : EndD m cs S x w v0 v1 (v2.setIfInBounds i v) (u.setCell ⟨m + 1 + 1, i, none⟩ v) := by
  have hne : ∀ {q : Nat}, q ≠ m + 1 + 1 → (u.setCell ⟨m + 1 + 1, i, none⟩ v).heap[q]? = u.heap[q]? := fun e => Below.heap_setCell _ _ _ _ e
  exact ⟨(hne (by omega)).trans h.r0, (hne (by omega)).trans h.r1, set_cells h.r2 i v, h.out, Kn.ownSet arrK h.own (p := ⟨m + 1 + 1, i, none⟩) (fun q hq e => h.out.2.2 ((show q = m + 1 + 1 from e) ▸ hq)) v, h.below.setCell (by show m ≤ m + 1 + 1; omega) _⟩

theorem EndD.drew (h : EndD m cs S x w v0 v1 v2 u) : EndD m cs S x w v0 v1 v2 u.drew :=
  ⟨h.r0, h.r1, h.r2, h.out, arrK.same h.own (fun _ _ => rfl), h.below.drew⟩

set_option maxHeartbeats 8000000 in
set_option maxRecDepth 100000 in
theorem drawArray_any {a : Option Addr} {len cap cs : Nat} {zs : List Int} {w : World} (hr : IsRow .u8 w a len cap zs) :
    Calls Tryd.prog 10 #[.slice a len cs] w (DrewA w) := by
  obtain ⟨w1, hw1⟩ : ∃ u, ((w.alloc (.cells #[.int .i64 0, .int .i64 0, .int .i64 0, .int .i64 0] 25)).alloc (.cells #[.int .i64 0, .int .i64 0] 27)).alloc (.cells #[.slice none 0 0, .slice none 0 0, .slice none 0 0] 31) = u := ⟨_, rfl⟩
  obtain ⟨r01, r11, r21, hb1⟩ := alloc3 hw1
  have HB1 := Lib.hid hb1
  have HR1 := Lib.hid (hr.below (fun x h => hr.lt h) hb1)
  clear hb1 hr
  go_enter Tryd.func10, Tryd.ntmps10
  go_wp2_with fail
  clear hw1
  refine (l01New_any HR1.out).mono ?_
  rintro e w2 ⟨c, rfl, hBc, hc2, hb2⟩
  have r02 := keep_block hb2 r01 (lt_of_block r01)
  have r12 := keep_block hb2 r11 (lt_of_block r11)
  have r22 := keep_block hb2 r21 (lt_of_block r21)
  have e1 := lt_of_block r21
  have HB2 : Hid (Below w.heap.size w w2) := HB1.out.trans (hb2.mono HB1.out.size)
  have HC2 := Lib.hid hc2
  have hc0 : w.heap.size + 1 + 1 < c := by omega
  have HCW : Hid (w1.heap.size ≤ c) := hBc
  have hs2 := hb2.size
  clear hc2 hb2 r01 r11 r21 hBc
  go_wp2_with fail
  refine (l14Case_any HC2.out).mono ?_
  rintro e w3 ⟨b, r, d, la, lh, ls, S, x, rfl, hg, hl, hok, hage, hhit, own3, hS3, _, ho3⟩
  have r03 := (ho3.block _ (lt_of_block r02) (by omega)).trans r02
  have r13 := (ho3.block _ (lt_of_block r12) (by omega)).trans r12
  have r23 := (ho3.block _ (lt_of_block r22) (by omega)).trans r22
  have HB3 : Hid (Below w.heap.size w w3) := HB2.out.trans (ho3.below (by omega) (by have := HB2.out.size; omega))
  have HS3 : Hid (∀ g ∈ S, w2.heap.size ≤ g) := hS3
  have HS2 : Hid (w1.heap.size ≤ w2.heap.size ∧ w.heap.size + 1 + 1 < w1.heap.size) := ⟨hs2, e1⟩
  obtain ⟨a0, n0, c0, a1, n1, c1, a2, n2, c2, rfl, _, _, _⟩ := arr_rd (arrK.read own3)
  have HG := Lib.hid hg
  have HL := Lib.hid hl
  have HOK := Lib.hid hok
  have HAGE := Lib.hid hage
  have HHIT := Lib.hid hhit
  have hS0 : ∀ g ∈ S, w.heap.size + 1 + 1 < g := fun g hg => by have := HS3.out g hg; have := HS2.out; omega
  have HW3 := Lib.hid (fun g (hg : g ∈ S) => Nat.le_of_lt (Nat.lt_of_le_of_lt (by omega : w.heap.size ≤ w.heap.size + 1 + 1) (hS0 g hg)))
  have F0 : EndD w.heap.size [.slice a0 n0 c0, .slice a1 n1 c1, .slice a2 n2 c2] S x w #[.int .i64 0, .int .i64 0, .int .i64 0, .int .i64 0] #[.int .i64 0, .int .i64 0] #[.slice none 0 0, .slice none 0 0, .slice none 0 0] w3 :=
    ⟨r03, r13, r23, ⟨fun h => by have := hS0 _ h; omega, fun h => by have := hS0 _ h; omega, fun h => by have := hS0 _ h; omega⟩, own3, HB3.out⟩
  have F1 := Lib.hid (((((((((F0.set0 0 (.int .i64 1)).set0 1 (.int .i64 b)).set0 2 (.int .i64 r)).set0 3 (.int .i64 d)).set1 0 (.int .i64 la)).set1 1 (.int .i64 lh)).set2 0 (.slice a0 n0 c0)).set2 1 (.slice a1 n1 c1)).set2 2 (.slice a2 n2 c2))
  obtain ⟨u3, hu3⟩ : ∃ u, ((((((((w3.setCell ⟨w.heap.size, 0, none⟩ (.int .i64 1)).setCell ⟨w.heap.size, 1, none⟩ (.int .i64 b)).setCell ⟨w.heap.size, 2, none⟩ (.int .i64 r)).setCell ⟨w.heap.size, 3, none⟩ (.int .i64 d)).setCell ⟨w.heap.size + 1, 0, none⟩ (.int .i64 la)).setCell ⟨w.heap.size + 1, 1, none⟩ (.int .i64 lh)).setCell ⟨w.heap.size + 1 + 1, 0, none⟩ (.slice a0 n0 c0)).setCell ⟨w.heap.size + 1 + 1, 1, none⟩ (.slice a1 n1 c1)).setCell ⟨w.heap.size + 1 + 1, 2, none⟩ (.slice a2 n2 c2) = u := ⟨_, rfl⟩
  rw [hu3] at F1
  have hn : ∀ (u : World) {k m i : Nat} (v : Value), k ≠ m → (u.setCell ⟨m, i, none⟩ v).heap[k]? = u.heap[k]? := fun u k m i v e => Below.heap_setCell _ _ _ _ e
  obtain ⟨z0, z1, z2, z3⟩ := cells4 r03
  obtain ⟨z4, z5⟩ := cells2 r13
  obtain ⟨z6, z7, z8⟩ := cells3 r23
  have f0 := thawed r03 0
  have f1 := thawed r03 1
  have f2 := thawed r03 2
  have f3 := thawed r03 3
  have f4 := thawed r13 0
  have f5 := thawed r13 1
  have f6 := thawed r23 0
  have f7 := thawed r23 1
  have f8 := thawed r23 2
  clear F0 own3 r03 r13 r23 hS0 hS3 ho3 hc0 hs2 e1 hg hl hok hage hhit hn
  go_wp2_with fail
  clear z0 z1 z2 z3 z4 z5 z6 z7 z8 f0 f1 f2 f3 f4 f5 f6 f7 f8 hu3
  have p0 : u3.heap[w.heap.size]? = some (.cells #[.int .i64 1, .int .i64 b, .int .i64 r, .int .i64 d] 25) := F1.out.r0
  have p1 : u3.heap[w.heap.size + 1]? = some (.cells #[.int .i64 la, .int .i64 lh] 27) := F1.out.r1
  have p2 : u3.heap[w.heap.size + 1 + 1]? = some (.cells #[.slice a0 n0 c0, .slice a1 n1 c1, .slice a2 n2 c2] 31) := F1.out.r2
  obtain ⟨y0, y1, y2, y3⟩ := cells4 p0
  obtain ⟨y4, y5⟩ := cells2 p1
  obtain ⟨y6, y7, y8⟩ := cells3 p2
  go_wp2
  (try simp only [Exit.inBlock, Exit.then])
  refine bodyPost_ret (v := .tuple #[.agg #[.int .i64 1, .int .i64 b, .int .i64 r, .int .i64 d], .agg #[.int .i64 la, .int .i64 lh], .agg #[.slice a0 n0 c0, .slice a1 n1 c1, .slice a2 n2 c2]]) ?_ rfl ⟨b, r, d, la, lh, _, S, x, rfl, HG.out, HL.out, HOK.out, HAGE.out, HHIT.out, F1.out.own, HW3.out, F1.out.below⟩
  simp [results, Tryd.results10, go_sem, y0, y1, y2, y3, y4, y5, y6, y7, y8]

end Go.Proofs.YtfpfgaifhmgpiaaDoor

namespace Go.Proofs.YtfpfgaifhmgpiaaDoor
open Go.RowKit Go.PlainAid

set_option linter.unusedVariables false

theorem getD_setC {α : Type} (l : List α) (i m : Nat) (v d : α) (hm : m < l.length) : (l.set i v).getD m d = if i = m then v else l.getD m d := by
  rw [List.getD_eq_getElem?_getD, List.getElem?_set]
  by_cases e : i = m
  · subst e
    rw [if_pos rfl, if_pos rfl, if_pos hm]
    rfl
  · rw [if_neg e, if_neg e, List.getD_eq_getElem?_getD]

theorem hitF_at (z : List Int) (j m : Nat) (hm : m < z.length) : (hitF z j).getD m 0 = if j = m then ageP 1 (z.getD m 0) else z.getD m 0 := by
  unfold hitF
  rw [getD_setI _ _ _ _ hm]
  by_cases e : j = m
  · subst e; simp
  · rw [if_neg e, if_neg e]

theorem ageP_small {v : Int} (h : v ≤ 99999) : ageP 1 v = v + 1 := by unfold ageP; rw [if_neg (by omega)]

/-- A row sensed, place by place. -/
theorem sense_place {gr gd la lh rw : Int} {x : Arr} {i m : Nat} (hm : m < x.2.1.length) (hl : x.2.2.length = x.2.1.length) (hi : 0 < rw → 1 ≤ i) (hh : ∀ v ∈ x.2.2, v ≤ 20) :
    (senseF gr gd la lh x i rw).2.1.getD m 0 = (if m = i then 0 else x.2.1.getD m 0) ∧
    (senseF gr gd la lh x i rw).2.2.getD m 0 = (if m = i then 0 else if (m + 1 = i ∧ 0 < rw) ∨ (m = i + 1 ∧ rw < gr - 1) then x.2.2.getD m 0 + 1 else x.2.2.getD m 0) := by
  have hm2 : m < x.2.2.length := by omega
  have h20 := (mem_getDI (P := fun v => v ≤ 20)).1 hh m hm2
  have hp : ageP 1 (x.2.2.getD m 0) = x.2.2.getD m 0 + 1 := by unfold ageP; rw [if_neg (by omega)]
  have hs : m < (x.2.2.set i 0).length := by rw [List.length_set]; exact hm2
  have hs2 : m < (hitF (x.2.2.set i 0) (i - 1)).length := by rw [hitF_length]; exact hs
  constructor
  · show (x.2.1.set i 0).getD m 0 = _
    rw [getD_setI _ _ _ _ hm]
    by_cases e : i = m
    · rw [if_pos e, if_pos e.symm]
    · rw [if_neg e, if_neg (fun h => e h.symm)]
  · show (hitsF gr x.2.2 i rw).getD m 0 = _
    obtain ⟨A, hA⟩ : ∃ A, (x.2.2.set i 0).getD m 0 = A := ⟨_, rfl⟩
    obtain ⟨B, hB⟩ : ∃ B, (hitF (x.2.2.set i 0) (i - 1)).getD m 0 = B := ⟨_, rfl⟩
    obtain ⟨V, hV⟩ : ∃ V, x.2.2.getD m 0 = V := ⟨_, rfl⟩
    have q0 := getD_setI x.2.2 i m 0 hm2
    have q1 := hitF_at (x.2.2.set i 0) (i - 1) m hs
    have q2 := hitF_at (hitF (x.2.2.set i 0) (i - 1)) (i + 1) m hs2
    have q3 := hitF_at (x.2.2.set i 0) (i + 1) m hs
    rw [hA, hV] at q0
    rw [hV] at h20
    have A20 : A ≤ 20 := by rw [q0]; split <;> omega
    rw [hB, hA, ageP_small (by omega)] at q1
    have B21 : B ≤ 21 := by rw [q1]; split <;> omega
    rw [hB, ageP_small (by omega)] at q2
    rw [hA, ageP_small (by omega)] at q3
    unfold hitsF
    simp only
    rw [hV]
    clear hV hh hp
    by_cases h0 : 0 < rw <;> by_cases h1 : rw < gr - 1
    · have := hi h0
      rw [if_pos h0, if_pos h1, q2]
      clear q2 q3 hA hB
      (repeat' split at q0) <;> (repeat' split at q1) <;> (repeat' split) <;> omega
    · have := hi h0
      rw [if_pos h0, if_neg h1, hB]
      clear q2 q3 hA hB
      (repeat' split at q0) <;> (repeat' split at q1) <;> (repeat' split) <;> omega
    · rw [if_neg h0, if_pos h1, q3]
      clear q1 q2 q3 hA hB
      (repeat' split at q0) <;> (repeat' split) <;> omega
    · rw [if_neg h0, if_neg h1, hA]
      clear q1 q2 q3 hA hB
      (repeat' split at q0) <;> (repeat' split) <;> omega

/-- A sensed row: its place, what it gives, that it has not decayed behind it. -/
theorem sensed_math {ga gb gr gd la lh bk rw : Int} {x : Arr} (h : ArrOk ga gb gr gd x) (hr : AdOk ga gb gr gd bk rw 0) (hla : 0 ≤ la) (hlh : 0 ≤ lh) (hh : ∀ v ∈ x.2.2, v ≤ 20) :
    ∃ i : Nat, bk * gr + rw = i ∧ i < x.2.1.length ∧ (0 < rw → 1 ≤ i) ∧ sensedF ga gb gr gd la lh x bk rw = senseF gr gd la lh x i rw ∧ ArrOk ga gb gr gd (senseF gr gd la lh x i rw) ∧ ¬ decF ga gb gr gd la lh (senseF gr gd la lh x i rw) bk rw := by
  obtain ⟨i, e1, hi, _, _, _, _⟩ := row_place h hr
  obtain ⟨i', D, e1', h2, _, h4, h5, h6, _⟩ := row_near h hr
  obtain rfl : i' = i := by omega
  have hok : ArrOk ga gb gr gd (senseF gr gd la lh x i' rw) := sense_ok h (by rw [h2, Int.toNat_natCast]; exact h4)
  refine ⟨i', e1, hi, h5, ?_, hok, ?_⟩
  · unfold sensedF
    rw [if_pos ⟨h, hr⟩, e1, Int.toNat_natCast]
  · rintro ⟨_, _, hg⟩
    rw [e1, Int.toNat_natCast] at hg
    obtain ⟨s1, s2⟩ := sense_place (gr := gr) (gd := gd) (la := la) (lh := lh) (rw := rw) hi h.2.2.2.1 h5 hh
    rw [if_pos rfl] at s1 s2
    unfold goneF at hg
    rw [s1, s2] at hg
    omega

theorem time_place {n : Int} {x : Arr} {m : Nat} (hm : m < x.2.1.length) (hn : 0 ≤ n ∧ n ≤ 49) (ha : ∀ v ∈ x.2.1, v ≤ 600) : (timeF n x).2.1.getD m 0 = x.2.1.getD m 0 + n := by
  have h6 := (mem_getDI (P := fun v => v ≤ 600)).1 ha m hm
  show (x.2.1.map (ageP n)).getD m 0 = _
  rw [List.getD_eq_getElem?_getD, List.getElem?_map, List.getElem?_eq_getElem hm]
  rw [getD_get hm] at h6 ⊢
  show ageP n x.2.1[m] = _
  unfold ageP
  rw [if_neg (by omega)]

/-- A bank sensed, row by row: the rows behind have age 0 and at most one hit, the last one none. -/
theorem bank_place {gr gd la lh : Int} {x : Arr} {b : Nat} (hl : x.2.2.length = x.2.1.length) : ∀ k, b + k ≤ x.2.1.length → (bankF gr gd la lh x b k).2.1.length = x.2.1.length ∧ (bankF gr gd la lh x b k).2.2.length = x.2.1.length ∧
    ∀ m, b ≤ m → m < b + k → (bankF gr gd la lh x b k).2.1.getD m 0 = 0 ∧ (bankF gr gd la lh x b k).2.2.getD m 0 ≤ 1 ∧ (m + 1 = b + k → (bankF gr gd la lh x b k).2.2.getD m 0 ≤ 0)
  | 0, _ => ⟨rfl, hl, fun m h1 h2 => by omega⟩
  | k + 1, hk => by
    obtain ⟨l1, l2, ih⟩ := bank_place (gr := gr) (gd := gd) (la := la) (lh := lh) (x := x) (b := b) hl k (by omega)
    obtain ⟨y, hy⟩ : ∃ y, bankF gr gd la lh x b k = y := ⟨_, rfl⟩
    have e : bankF gr gd la lh x b (k + 1) = senseF gr gd la lh y (b + k) k := by rw [bankF, hy]
    rw [hy] at l1 l2 ih
    rw [e]
    refine ⟨by show (y.2.1.set _ _).length = _; rw [List.length_set, l1], by show (hitsF _ _ _ _).length = _; rw [hitsF_length, l2], fun m h1 h2 => ?_⟩
    have hm : m < y.2.1.length := by omega
    have hm2 : m < y.2.2.length := by omega
    have hs : m < (y.2.2.set (b + k) 0).length := by rw [List.length_set]; exact hm2
    have hs2 : m < (hitF (y.2.2.set (b + k) 0) (b + k - 1)).length := by rw [hitF_length]; exact hs
    have a1 : (senseF gr gd la lh y (b + k) k).2.1.getD m 0 = if b + k = m then 0 else y.2.1.getD m 0 := getD_setI _ _ _ _ hm
    have a2 : (hitsF gr y.2.2 (b + k) k).getD m 0 ≤ (if b + k = m then 0 else y.2.2.getD m 0) + (if m + 1 = b + k then 1 else 0) := by
      have q0 := getD_setI y.2.2 (b + k) m 0 hm2
      have q1 := hitF_le (y.2.2.set (b + k) 0) (b + k - 1) m hs
      unfold hitsF
      simp only
      by_cases h0 : 0 < (k : Int) <;> by_cases h3 : (k : Int) < gr - 1
      · rw [if_pos h0, if_pos h3, hitF_at _ _ _ hs2, if_neg (by omega)]
        rw [q0] at q1
        by_cases e1 : b + k - 1 = m
        · rw [if_pos e1] at q1; rw [if_pos (show m + 1 = b + k by omega)]; exact q1
        · rw [if_neg e1] at q1; rw [if_neg (show ¬ m + 1 = b + k by omega)]; exact q1
      · rw [if_pos h0, if_neg h3]
        rw [q0] at q1
        by_cases e1 : b + k - 1 = m
        · rw [if_pos e1] at q1; rw [if_pos (show m + 1 = b + k by omega)]; exact q1
        · rw [if_neg e1] at q1; rw [if_neg (show ¬ m + 1 = b + k by omega)]; exact q1
      · rw [if_neg h0, if_pos h3, hitF_at _ _ _ hs, if_neg (by omega), q0]
        split <;> split <;> omega
      · rw [if_neg h0, if_neg h3, q0]
        split <;> split <;> omega
    rw [a1]
    show _ ∧ (hitsF gr y.2.2 (b + k) k).getD m 0 ≤ 1 ∧ (_ → (hitsF gr y.2.2 (b + k) k).getD m 0 ≤ 0)
    by_cases hlast : b + k = m
    · rw [if_pos hlast] at a2 ⊢
      rw [if_neg (by omega)] at a2
      exact ⟨rfl, by omega, fun _ => by omega⟩
    · obtain ⟨i1, i2, i3⟩ := ih m h1 (by omega)
      rw [if_neg hlast] at a2 ⊢
      refine ⟨i1, ?_, fun h => by omega⟩
      by_cases e1 : m + 1 = b + k
      · have := i3 e1
        rw [if_pos e1] at a2
        omega
      · rw [if_neg e1] at a2
        omega

/-- Cells spoiled, at a place among them. -/
theorem spoilN_near {X : List (List Int × Bool)} {b j : Nat} : ∀ k, b ≤ j → j < b + k → b + k ≤ X.length → (spoilN X b k).getD j ([], false) = (spoil (X.getD j ([], false)).1, (X.getD j ([], false)).2)
  | 0, h1, h2, _ => by omega
  | k + 1, h1, h2, h3 => by
    rw [spoilN, getD_setC _ _ _ _ _ (by rw [spoilN_length]; omega)]
    by_cases e : b + k = j
    · rw [if_pos e, ← e, spoilN_far _ (by omega)]
    · rw [if_neg e]
      exact spoilN_near k h1 (by omega) (by omega)

end Go.Proofs.YtfpfgaifhmgpiaaDoor

namespace Go.Proofs.YtfpfgaifhmgpiaaDoor
open Go.RowKit Go.PlainAid

set_option linter.unusedVariables false

theorem geo_small {b r d : Int} (hg : (1 ≤ b ∧ b ≤ 2) ∧ (2 ≤ r ∧ r ≤ 4) ∧ (1 ≤ d ∧ d ≤ 2)) : GeoOk 1 b r d := ⟨by decide, by omega, by omega, by omega⟩

theorem bank_small {b r d : Int} (hg : (1 ≤ b ∧ b ≤ 2) ∧ (2 ≤ r ∧ r ≤ 4) ∧ (1 ≤ d ∧ d ≤ 2)) : bankN 1 b r d = b := by
  unfold bankN
  rw [if_pos (geo_small hg), Int.one_mul]

theorem arr_fit {ga gb gr gd : Int} {x : Arr} (h : ArrOk ga gb gr gd x) : ArrFit x := by
  obtain ⟨hg, h0, h1, h2, h3, _⟩ := h
  have q1 := lineN_range ga gb gr gd
  have q2 := rowsN_range hg
  exact ⟨by omega, fun c hc => by have := (h3 c hc).2; omega, by omega, by omega⟩

theorem sensed_ok {ga gb gr gd la lh bk rw : Int} {x : Arr} (h : ArrOk ga gb gr gd x) : ArrOk ga gb gr gd (sensedF ga gb gr gd la lh x bk rw) := by
  unfold sensedF
  split
  · rename_i hc
    obtain ⟨i, D, e1, h2, _, h4, _⟩ := row_near h hc.2
    refine sense_ok h ?_
    rw [e1, h2, Int.toNat_natCast, Int.toNat_natCast]
    exact h4
  · exact h

/-- A fresh array whose first row was hit so often. -/
def hitA (b r d h : Int) : Arr := ((newA 1 b r d).1, (newA 1 b r d).2.1, (newA 1 b r d).2.2.set 0 h)

theorem rep_getD {α : Type} (n m : Nat) (v d : α) (h : m < n) : (List.replicate n v).getD m d = v := by
  rw [List.getD_eq_getElem?_getD, List.getElem?_replicate, if_pos h]
  rfl

/-- What the law asks of a fresh array whose first row was hit so often. -/
theorem decay_math {b r d la lh e c : Int} (hg : (1 ≤ b ∧ b ≤ 2) ∧ (2 ≤ r ∧ r ≤ 4) ∧ (1 ≤ d ∧ d ≤ 2)) (hl : (0 ≤ la ∧ la ≤ 100) ∧ (0 ≤ lh ∧ lh ≤ 20)) (he : e = 0 ∨ e = 1) (hc : 0 ≤ c ∧ c ≤ d - 1) :
    ArrOk 1 b r d (hitA b r d (lh + e)) ∧ (decF 1 b r d la lh (hitA b r d (lh + e)) 0 0 ↔ e = 1) ∧
    ∃ s p, loadF 1 b r d (sensedF 1 b r d la lh (hitA b r d (lh + e)) 0 0) 0 0 c = ((s, p), true) ∧ s.length = 11 ∧ ((decW s).2.1 = 2 ↔ e = 1) := by
  have hG := geo_small hg
  have hB := bank_small hg
  have hr : AdOk 1 b r d 0 0 0 := ⟨by rw [hB]; omega, by omega, by omega⟩
  have hrc : AdOk 1 b r d 0 0 c := ⟨by rw [hB]; omega, by omega, hc⟩
  obtain ⟨g0, g1, g2, g3, g4, g5, g6⟩ := newA_ok hG
  have hok : ArrOk 1 b r d (hitA b r d (lh + e)) := by
    refine ⟨g0, g1, g2, ?_, g4, g5, ?_⟩
    · show ((newA 1 b r d).2.2.set 0 _).length = _
      rw [List.length_set]
      exact g3
    · intro v hv
      rcases List.mem_or_eq_of_mem_set hv with h | rfl
      · exact g6 v h
      · exact ⟨by omega, by omega⟩
  have hn : 2 ≤ bankN 1 b r d * r := by
    rw [hB]
    have := Int.mul_le_mul hg.1.1 hg.2.1.1 (by decide) (by omega)
    omega
  obtain ⟨N, hN⟩ : ∃ N : Nat, bankN 1 b r d * r = N := ⟨(bankN 1 b r d * r).toNat, by omega⟩
  have a0 : (hitA b r d (lh + e)).2.1.getD 0 0 = 0 := by
    show (List.replicate (bankN 1 b r d * r).toNat 0).getD 0 0 = (0 : Int)
    exact rep_getD _ _ _ _ (by omega)
  have h0 : (hitA b r d (lh + e)).2.2.getD 0 0 = lh + e := by
    show ((List.replicate (bankN 1 b r d * r).toNat (0 : Int)).set 0 _).getD 0 0 = _
    rw [getD_setI _ _ _ _ (by rw [List.length_replicate]; omega), if_pos rfl]
  have hgone : goneF la lh (hitA b r d (lh + e)) 0 ↔ e = 1 := by
    unfold goneF
    rw [a0, h0]
    omega
  have hz : (0 * r + 0 : Int).toNat = 0 := by rw [Int.zero_mul]; rfl
  refine ⟨hok, ⟨fun h => ?_, fun h => ⟨hok, hr, ?_⟩⟩, ?_⟩
  · have := h.2.2
    rw [hz] at this
    exact hgone.1 this
  · rw [hz]
    exact hgone.2 h
  · obtain ⟨D, hD⟩ : ∃ D : Nat, d = D := ⟨d.toNat, by omega⟩
    obtain ⟨k, hk⟩ : ∃ k : Nat, c = k := ⟨c.toNat, by omega⟩
    obtain ⟨i', D', e1', h2, _, h4, h5, h6, _⟩ := row_near hok hr
    obtain rfl : i' = 0 := by rw [Int.zero_mul] at e1'; omega
    obtain rfl : D' = D := by omega
    have hdt : d.toNat = D' := by omega
    have hlen : D' ≤ (hitA b r d (lh + e)).1.length := by omega
    have hs : sensedF 1 b r d la lh (hitA b r d (lh + e)) 0 0 = senseF r d la lh (hitA b r d (lh + e)) 0 0 := by
      unfold sensedF
      rw [if_pos ⟨hok, hr⟩, hz]
    have hok2 : ArrOk 1 b r d (senseF r d la lh (hitA b r d (lh + e)) 0 0) := sense_ok hok (by rw [hdt]; omega)
    have hidx : idxF 1 b r d 0 0 c = k := by
      unfold idxF
      rw [if_pos hrc, Int.zero_mul, Int.zero_add, Int.zero_mul, Int.zero_add, hk]
    have hcell : (hitA b r d (lh + e)).1.getD k ([], false) = (List.replicate 11 0, false) := by
      show (List.replicate _ _).getD k _ = _
      refine rep_getD _ _ _ _ ?_
      have : (hitA b r d (lh + e)).1.length = (lineN 1 b r d).toNat := List.length_replicate ..
      omega
    rw [hs]
    unfold loadF
    rw [if_pos ⟨hok2, hrc⟩, hidx, Int.toNat_natCast]
    by_cases h : e = 1
    · have e2 : (senseF r d la lh (hitA b r d (lh + e)) 0 0).1.getD k ([], false) = (spoil (List.replicate 11 0), false) := by
        show (if goneF la lh (hitA b r d (lh + e)) 0 then _ else _ : List (List Int × Bool)).getD k _ = _
        rw [if_pos (hgone.2 h), spoilN_near _ (by omega) (by rw [hdt]; omega) (by rw [hdt]; omega), hcell]
      rw [e2]
      exact ⟨_, _, rfl, by decide, ⟨fun _ => h, fun _ => by decide +kernel⟩⟩
    · have e2 : (senseF r d la lh (hitA b r d (lh + e)) 0 0).1.getD k ([], false) = (List.replicate 11 0, false) := by
        show (if goneF la lh (hitA b r d (lh + e)) 0 then _ else _ : List (List Int × Bool)).getD k _ = _
        rw [if_neg (fun q => h (hgone.1 q)), hcell]
      rw [e2]
      exact ⟨_, _, rfl, by decide, ⟨fun q => absurd q (by decide +kernel), fun q => absurd q h⟩⟩

end Go.Proofs.YtfpfgaifhmgpiaaDoor

namespace Go.Proofs.YtfpfgaifhmgpiaaDoor
open Go.RowKit Go.PlainAid

set_option linter.unusedVariables false

/-- A row of the call's own and two numbers. -/
def GivesW (t : List Int × Int × Int) (w : World) (e : Ending) (w' : World) : Prop :=
  ∃ a n cap, t.1.length = n ∧ e = .returned (.tuple #[.slice a n cap, .int .i64 t.2.1, .int .i64 t.2.2]) ∧ OwnI w.heap.size (.slice a n cap) t.1 w' ∧ Below w.heap.size w w'

set_option maxHeartbeats 4000000 in
set_option maxRecDepth 100000 in
theorem specCorrectWord_is {a : Option Addr} {c n : Nat} {l : List Int} (hn : l.length = n) {w : World} (h : RowI w a l) (v : List Int × Int × Int) (hv : corW l = v) (hl : (n : Int) ≤ 9223372036854775807) :
    Calls Tryd.prog 48 #[.slice a n c] w (GivesW v w) := by
  have HN := Lib.hid hn
  have HA := Lib.hid h
  have HV := Lib.hid hv
  clear hn h hv
  by_cases hok : SymOk l 11
  case neg =>
    have KA := Lib.hid (decide_eq_false hok)
    obtain rfl : v = ([], 2, -1) := by rw [← HV.out]; exact corW_no hok
    clear hok
    go_enter Tryd.func48, Tryd.ntmps48
    go_wp2_with fail
    refine (specSymbolsOk_is HN.out HA.out false KA.out hl).mono ?_
    rintro e w2 ⟨rfl, rfl⟩
    go_wp2_with fail
    (try simp only [Exit.inBlock, Exit.then])
    refine bodyPost_ret (v := .tuple #[.slice (some ⟨w.heap.size, 0, none⟩) 0 0, .int .i64 2, .int .i64 (-1)]) (by simp [results, Tryd.results48, go_sem]) rfl ?_
    exact ⟨some ⟨w.heap.size, 0, none⟩, 0, 0, rfl, rfl, World.ownsRow_made (base := w.heap.size) (e := 3) (size := 1) w #[] 0 (Nat.le_refl _) (by decide) rfl, (Below.refl _ _).alloc (Nat.le_refl _) _⟩
  have KA := Lib.hid (decide_eq_true hok)
  obtain rfl : n = 11 := by have := hok.2; have := HN.out; omega
  obtain ⟨g, o, rfl, _⟩ := HA.out.at (k := 0) (by rw [HN.out]; omega)
  obtain ⟨u, hu⟩ : ∃ u, nats l = u := ⟨_, rfl⟩
  have HLT : Hid (Lt16 u) := by show Lt16 u; rw [← hu]; exact nats_lt hok.1
  have HSY : Hid (syns l = [((syn 0 u : Nat) : Int), ((syn 1 u : Nat) : Int), ((syn 2 u : Nat) : Int)]) := by show _ = _; rw [← hu]; exact if_pos hok
  have HCZ : Hid (Zero3 u → v = (l, 0, -1)) := by show Zero3 u → _; rw [← hu, ← HV.out]; exact corW_zero hok
  have HCN : Hid (¬ Zero3 u → (∀ m < 11, ¬ Hit (syn 0 u) (syn 1 u) (syn 2 u) m) → v = (l, 2, -1)) := by show ¬ _ → _; rw [← hu, ← HV.out]; exact corW_none hok
  have HCH : Hid (¬ Zero3 u → ∀ k, k < 11 → Hit (syn 0 u) (syn 1 u) (syn 2 u) k → (∀ m < k, ¬ Hit (syn 0 u) (syn 1 u) (syn 2 u) m) → v = (l.set k (bits .xor .i64 (l.getD k 0) ((syn 0 u : Nat) : Int)), 1, (k : Int))) := by
    show ¬ _ → _
    rw [← hu, ← HV.out]
    exact fun hz k hk hh hm => corW_hit hok hz hk hh hm
  clear hok hu HV
  obtain ⟨S0, hS0⟩ : ∃ S, syn 0 u = S := ⟨_, rfl⟩
  obtain ⟨S1, hS1⟩ : ∃ S, syn 1 u = S := ⟨_, rfl⟩
  obtain ⟨S2, hS2⟩ : ∃ S, syn 2 u = S := ⟨_, rfl⟩
  have L0 : Hid (S0 < 16) := by show S0 < 16; rw [← hS0]; exact syn_lt 0 HLT.out
  have L1 : Hid (S1 < 16) := by show S1 < 16; rw [← hS1]; exact syn_lt 1 HLT.out
  have HZD : Hid (decide ((S0 : Int) = 0 ∧ (S1 : Int) = 0 ∧ (S2 : Int) = 0) = decide (Zero3 u)) := by show _ = _; rw [← hS0, ← hS1, ← hS2]; exact zero_syns
  rw [hS0, hS1, hS2] at HSY HCN HCH
  clear hS0 hS1 hS2
  obtain ⟨zb, hzb⟩ : ∃ z, decide (Zero3 u) = z := ⟨_, rfl⟩
  have HZB := Lib.hid hzb
  clear hzb
  go_enter Tryd.func48, Tryd.ntmps48
  go_wp2_with fail
  refine (specSymbolsOk_is HN.out HA.out true KA.out hl).mono ?_
  rintro e w2 ⟨rfl, rfl⟩
  have hb3 : Below w.heap.size w (w.alloc (.cells #[] 3)) := (Below.refl _ _).alloc (Nat.le_refl _) _
  have own3 : OwnI w.heap.size (.slice (some ⟨w.heap.size, 0, none⟩) 0 0) [] (w.alloc (.cells #[] 3)) := World.ownsRow_made (base := w.heap.size) (e := 3) (size := 1) w #[] 0 (Nat.le_refl _) (by decide) rfl
  have HR3 := Lib.hid (HA.out.below hb3)
  have hS3 : w.heap.size ≤ (w.alloc (.cells #[] 3)).heap.size := by simp
  go_wp2_with (at_builtin; refine append_int rfl _ _ rfl w.heap.size _ 0 [] rfl own3 rfl (some ⟨g, o, none⟩) 11 c l rfl HN.out (fun h => by cases h) HR3.out (by omega) hS3 ?_)
  intro v' w4 hown4 hgrow _
  (try rw [List.nil_append] at hown4)
  have HB4 : Hid (Below w.heap.size w w4) := hb3.grown hgrow hS3 (fun j hj => by have := Option.some.inj hj; have h2 : w.heap.size = j := this; omega)
  obtain ⟨aa, cc, hv⟩ := hown4.shape
  subst hv
  rw [HN.out] at hown4
  obtain ⟨P, rfl, _, _, hBP, hPS⟩ := hown4.at (k := 0) (by rw [HN.out]; omega)
  have HO4 := Lib.hid hown4
  have HPS := Lib.hid hPS
  have HBP := Lib.hid hBP
  rw [HN.out]
  clear hown4 hgrow own3 hb3 hBP hPS HR3 hS3
  go_wp2_with fail
  refine (specSyndromes_is HN.out (HA.out.below HB4.out) _ HSY.out hl).mono ?_
  rintro e w5 ⟨b, cap, rfl, hown, hb⟩
  obtain ⟨R, rfl, _, _, hBR, hRS⟩ := hown.at (k := 0) (by simp)
  have HB5 : Hid (Below w.heap.size w w5) := HB4.out.trans (hb.mono HB4.out.size)
  have HO5 : Hid (OwnI w.heap.size (.slice (some ⟨P, 0, none⟩) 11 cc) l w5) := HO4.out.below hb
  have HR5 := Lib.hid hown.row
  have HPR : Hid (P < R) := Nat.lt_of_lt_of_le HPS.out hBR
  have HRL : Hid (w.heap.size ≤ R) := Nat.le_of_lt (Nat.lt_of_le_of_lt HBP.out HPR.out)
  have HRS := Lib.hid hRS
  clear hown hb HB4 HO4 hBR hRS HPS
  go_wp2_with fail
  refine (specZero_is HR5.out zb (HZD.out.trans HZB.out)).mono ?_
  rintro e w6 ⟨rfl, rfl⟩
  cases zb with
  | true =>
    obtain rfl := HCZ.out (of_decide_eq_true HZB.out)
    go_wp2_with fail
    (try simp only [Exit.inBlock, Exit.then])
    refine bodyPost_ret (v := .tuple #[.slice (some ⟨P, 0, none⟩) 11 cc, .int .i64 0, .int .i64 (-1)]) (by simp [results, Tryd.results48, go_sem]) rfl ?_
    exact ⟨_, 11, cc, HN.out, rfl, HO5.out, HB5.out⟩
  | false =>
  have HNZ : Hid (¬ Zero3 u) := of_decide_eq_false HZB.out
  go_wp2_with fail
  go_loopw [7] (fun i wr => ∃ k : Nat, k ≤ 11 ∧ i = .int .i64 k ∧ (∀ m < k, ¬ Hit S0 S1 S2 m) ∧ OwnI w.heap.size (.slice (some ⟨P, 0, none⟩) 11 cc) l wr ∧ RowI wr (some ⟨R, 0, none⟩) [(S0 : Int), (S1 : Int), (S2 : Int)] ∧ Below w.heap.size w wr ∧ R < wr.heap.size) (fun i _ => 11 - (intOf i).toNat)
  case atStart => exact ⟨0, Nat.zero_le _, rfl, fun m hm => absurd hm (Nat.not_lt_zero _), HO5.out, HR5.out, HB5.out, HRS.out⟩
  case round =>
    obtain ⟨k, hk, rfl, hno, hown, hrow, hbr, hrs⟩ := hrel
    have HNO := Lib.hid hno
    have HO := Lib.hid hown
    have HR := Lib.hid hrow
    have HBR := Lib.hid hbr
    have HRW := Lib.hid hrs
    clear hno hown hrow hbr hrs
    by_cases hlt : k < 11
    case neg =>
      obtain rfl : k = 11 := by omega
      obtain rfl := HCN.out HNZ.out HNO.out
      go_wp2_with fail
      (try simp only [Exit.inBlock, Exit.then])
      refine bodyPost_ret (v := .tuple #[.slice (some ⟨P, 0, none⟩) 11 cc, .int .i64 2, .int .i64 (-1)]) (by simp [results, Tryd.results48, go_sem]) rfl ?_
      exact ⟨_, 11, cc, HN.out, rfl, HO.out, HBR.out⟩
    have HP : Hid (gfPow 2 (k : Int) = ((gp 2 k : Nat) : Int)) := gfPow_nat (a := 2) (by omega) (by omega)
    have hyl : gp 2 k < 16 := gp_lt (by omega) k
    have hm0 : gfMul (S0 : Int) ((gp 2 k : Nat) : Int) = ((gm S0 (gp 2 k) : Nat) : Int) := gfMul_nat L0.out hyl
    have hm1 : gfMul (S1 : Int) ((gp 2 k : Nat) : Int) = ((gm S1 (gp 2 k) : Nat) : Int) := gfMul_nat L1.out hyl
    have HH : Hid (Hit S0 S1 S2 k ↔ (S0 : Int) ≠ 0 ∧ ((gm S0 (gp 2 k) : Nat) : Int) = (S1 : Int) ∧ ((gm S1 (gp 2 k) : Nat) : Int) = (S2 : Int)) := by
      show Hit _ _ _ _ ↔ _
      unfold Hit
      omega
    obtain ⟨g2, o2, he2, d0⟩ := HR.out.at (k := 0) (by simp)
    cases he2
    obtain ⟨_, _, he2, d1⟩ := HR.out.at (k := 1) (by simp)
    cases he2
    obtain ⟨_, _, he2, d2⟩ := HR.out.at (k := 2) (by simp)
    cases he2
    have e0 : wr.cell? ⟨R, 0, none⟩ = some (.int .i64 (S0 : Int)) := d0
    have e1 : wr.cell? ⟨R, 1, none⟩ = some (.int .i64 (S1 : Int)) := d1
    have e2 : wr.cell? ⟨R, 2, none⟩ = some (.int .i64 (S2 : Int)) := d2
    clear d0 d1 d2
    obtain ⟨y, hy⟩ : ∃ y, ((gp 2 k : Nat) : Int) = y := ⟨_, rfl⟩
    obtain ⟨A, hA⟩ : ∃ y, ((gm S0 (gp 2 k) : Nat) : Int) = y := ⟨_, rfl⟩
    obtain ⟨B, hB⟩ : ∃ y, ((gm S1 (gp 2 k) : Nat) : Int) = y := ⟨_, rfl⟩
    rw [hA, hB] at HH
    rw [hy] at HP
    rw [hy, hA] at hm0
    rw [hy, hB] at hm1
    obtain ⟨x0, h0⟩ : ∃ y, (S0 : Int) = y := ⟨_, rfl⟩
    obtain ⟨x1, h1⟩ : ∃ y, (S1 : Int) = y := ⟨_, rfl⟩
    obtain ⟨x2, h2⟩ : ∃ y, (S2 : Int) = y := ⟨_, rfl⟩
    rw [h0] at e0 hm0
    rw [h1] at e1 hm1
    rw [h2] at e2
    rw [h0, h1, h2] at HH
    have HCK : Hid (Hit S0 S1 S2 k → v = (l.set k (bits .xor .i64 (l.getD k 0) x0), 1, (k : Int))) := by
      show _ → _
      rw [← h0]
      exact fun q => HCH.out HNZ.out k hlt q HNO.out
    have HNX : Hid (¬ Hit S0 S1 S2 k → ∀ m < k + 1, ¬ Hit S0 S1 S2 m) := by
      intro q m hm
      by_cases e : m = k
      · exact e ▸ q
      · exact HNO.out m (by omega)
    have HM0 := Lib.hid hm0
    have HM1 := Lib.hid hm1
    have z0 := fun q : Later wr => q.cell e0
    have z1 := fun q : Later wr => q.cell e1
    have z2 := fun q : Later wr => q.cell e2
    clear hy hA hB h0 h1 h2 hm0 hm1 hyl
    go_wp2_with fail
    refine (specGfPow_is 2 (k : Int) _ HP.out _).mono ?_
    rintro e w7 ⟨rfl, rfl⟩
    clear e0 e1 e2
    by_cases q0 : x0 = 0
    · have t0 : (x0 == 0) = true := by simpa using q0
      have t0' : (x0 != 0) = false := by simpa using q0
      have HF : Hid (∀ m < k + 1, ¬ Hit S0 S1 S2 m) := HNX.out (fun q => (HH.out.mp q).1 q0)
      go_wp2_with fail
      refine wp_region_later (by kernel_rfl) (by kernel_rfl) ?_
      repeat (go_big_quiet_step (first | (go_at_call_of 89 x0; exact Gives.later_same _ (specGfMul_is _ _ _ HM0.out _)) | (go_at_call_of 89 x1; exact Gives.later_same _ (specGfMul_is _ _ _ HM1.out _))))
      refine wpQuiet_nil ?_
      rintro w3 ⟨zz, hz⟩
      have hb3 : Below wr.heap.size wr w3 := hz ▸ zz.ok
      have O3 := Lib.hid (HO.out.below hb3)
      have R3 := Lib.hid (HR.out.below hb3)
      have HB3 : Hid (Below w.heap.size w w3) := HBR.out.trans (hb3.mono HBR.out.size)
      have HS3 : Hid (R < w3.heap.size) := Nat.lt_of_lt_of_le HRW.out hb3.size
      clear z0 z1 z2 hz zz hb3
      go_wp2_with fail
      go_roundw
      case rel => exact ⟨k + 1, by omega, by go_num, HF.out, O3.out, R3.out, HB3.out, HS3.out⟩
      case measure => simp [intOf]; omega
    by_cases q1 : A = x1
    case neg =>
      have t0 : (x0 == 0) = false := by simpa using q0
      have t0' : (x0 != 0) = true := by simpa using q0
      have t1 : (A == x1) = false := by simpa using q1
      have HF : Hid (∀ m < k + 1, ¬ Hit S0 S1 S2 m) := HNX.out (fun q => q1 (HH.out.mp q).2.1)
      go_wp2_with fail
      refine wp_region_later (by kernel_rfl) (by kernel_rfl) ?_
      repeat (go_big_quiet_step (first | (go_at_call_of 89 x0; exact Gives.later_same _ (specGfMul_is _ _ _ HM0.out _)) | (go_at_call_of 89 x1; exact Gives.later_same _ (specGfMul_is _ _ _ HM1.out _))))
      refine wpQuiet_nil ?_
      rintro w3 ⟨zz, hz⟩
      have hb3 : Below wr.heap.size wr w3 := hz ▸ zz.ok
      have O3 := Lib.hid (HO.out.below hb3)
      have R3 := Lib.hid (HR.out.below hb3)
      have HB3 : Hid (Below w.heap.size w w3) := HBR.out.trans (hb3.mono HBR.out.size)
      have HS3 : Hid (R < w3.heap.size) := Nat.lt_of_lt_of_le HRW.out hb3.size
      clear z0 z1 z2 hz zz hb3
      go_wp2_with fail
      go_roundw
      case rel => exact ⟨k + 1, by omega, by go_num, HF.out, O3.out, R3.out, HB3.out, HS3.out⟩
      case measure => simp [intOf]; omega
    by_cases q2 : B = x2
    case neg =>
      have t0 : (x0 == 0) = false := by simpa using q0
      have t0' : (x0 != 0) = true := by simpa using q0
      have t1 : (A == x1) = true := by simpa using q1
      have t2 : (B == x2) = false := by simpa using q2
      have HF : Hid (∀ m < k + 1, ¬ Hit S0 S1 S2 m) := HNX.out (fun q => q2 (HH.out.mp q).2.2)
      go_wp2_with fail
      refine wp_region_later (by kernel_rfl) (by kernel_rfl) ?_
      repeat (go_big_quiet_step (first | (go_at_call_of 89 x0; exact Gives.later_same _ (specGfMul_is _ _ _ HM0.out _)) | (go_at_call_of 89 x1; exact Gives.later_same _ (specGfMul_is _ _ _ HM1.out _))))
      refine wpQuiet_nil ?_
      rintro w3 ⟨zz, hz⟩
      have hb3 : Below wr.heap.size wr w3 := hz ▸ zz.ok
      have O3 := Lib.hid (HO.out.below hb3)
      have R3 := Lib.hid (HR.out.below hb3)
      have HB3 : Hid (Below w.heap.size w w3) := HBR.out.trans (hb3.mono HBR.out.size)
      have HS3 : Hid (R < w3.heap.size) := Nat.lt_of_lt_of_le HRW.out hb3.size
      clear z0 z1 z2 hz zz hb3
      go_wp2_with fail
      go_roundw
      case rel => exact ⟨k + 1, by omega, by go_num, HF.out, O3.out, R3.out, HB3.out, HS3.out⟩
      case measure => simp [intOf]; omega
    have t0 : (x0 == 0) = false := by simpa using q0
    have t0' : (x0 != 0) = true := by simpa using q0
    have t1 : (A == x1) = true := by simpa using q1
    have t2 : (B == x2) = true := by simpa using q2
    have hve := HCK.out (HH.out.mpr ⟨q0, q1, q2⟩)
    go_wp2_with fail
    refine wp_region_later (by kernel_rfl) (by kernel_rfl) ?_
    repeat (go_big_quiet_step (first | (go_at_call_of 89 x0; exact Gives.later_same _ (specGfMul_is _ _ _ HM0.out _)) | (go_at_call_of 89 x1; exact Gives.later_same _ (specGfMul_is _ _ _ HM1.out _))))
    refine wpQuiet_nil ?_
    rintro w3 ⟨zz, hz⟩
    have hb3 : Below wr.heap.size wr w3 := hz ▸ zz.ok
    have O3 := Lib.hid (HO.out.below hb3)
    have R3 := Lib.hid (HR.out.below hb3)
    have HB3 : Hid (Below w.heap.size w w3) := HBR.out.trans (hb3.mono HBR.out.size)
    have HS3 : Hid (R < w3.heap.size) := Nat.lt_of_lt_of_le HRW.out hb3.size
    obtain ⟨g', hg', hc3, hf3, _, _⟩ := O3.out.at (k := k) (by rw [HN.out]; exact hlt)
    obtain rfl : P = g' := by simpa using hg'
    have hc4 : w3.cell? ⟨P, k, none⟩ = some (.int .i64 (l.getD k 0)) := by
      rw [hc3, List.getD_eq_getElem?_getD, List.getElem?_eq_getElem (by rw [HN.out]; exact hlt)]
      rfl
    have e0 := z0 zz
    rw [← hz] at e0
    clear z0 z1 z2 hz zz hb3 hc3
    obtain ⟨X, hX⟩ : ∃ X, l.getD k 0 = X := ⟨_, rfl⟩
    rw [hX] at hc4 hve
    have z0 := fun q : Later w3 => q.cell e0
    have z1 := fun q : Later w3 => q.cell hc4
    obtain ⟨Y, hY⟩ : ∃ Y, bits .xor .i64 X x0 = Y := ⟨_, rfl⟩
    rw [hY] at hve
    have HVE := Lib.hid hve
    clear hX hve
    go_wp2_with fail
    refine wp_region_later_tail 11 (by kernel_rfl) (by kernel_rfl) ?_
    simp only [List.take_succ_cons, List.take_zero, List.drop_succ_cons, List.drop_zero]
    repeat (go_big_quiet_step (fail))
    refine wpQuiet_nil ?_
    rintro w8 ⟨zz, hz⟩
    have hb8 : Below w3.heap.size w3 w8 := hz ▸ zz.ok
    have O8 := Lib.hid (O3.out.below hb8)
    have HB8 : Hid (Below w.heap.size w w8) := HB3.out.trans (hb8.mono HB3.out.size)
    obtain ⟨g', hg', hc8, hf8, _, _⟩ := O8.out.at (k := k) (by rw [HN.out]; exact hlt)
    obtain rfl : P = g' := by simpa using hg'
    obtain ⟨old, hco⟩ : ∃ u, w8.cell? ⟨P, k, none⟩ = some u := ⟨_, hc8⟩
    clear z0 z1 hz zz hb8 hc4 hc8 e0
    go_wp2_with fail
    (try simp only [Exit.inBlock, Exit.then])
    refine bodyPost_ret (v := .tuple #[.slice (some ⟨P, 0, none⟩) 11 cc, .int .i64 1, .int .i64 (k : Int)]) (by simp [results, Tryd.results48, go_sem]) rfl ?_
    obtain rfl := HVE.out
    exact ⟨_, 11, cc, by rw [List.length_set]; exact HN.out, rfl, O8.out.stored HN.out k _, HB8.out.setCell HBP.out _⟩

end Go.Proofs.YtfpfgaifhmgpiaaDoor

namespace Go.Proofs.YtfpfgaifhmgpiaaDoor
open Go.RowKit Go.PlainAid

set_option linter.unusedVariables false

set_option maxHeartbeats 4000000 in
set_option maxRecDepth 100000 in
theorem specWordOfSymbols_is {a : Option Addr} {c n : Nat} {l : List Int} (hn : l.length = n) {w : World} (h : RowI w a l) (v : Int) (b : Bool) (hv : wordS l = (v, b)) (hl : (n : Int) ≤ 9223372036854775807) :
    Calls Tryd.prog 49 #[.slice a n c] w (Gives (.tuple #[.int .i64 v, .bool b]) w) := by
  have HN := Lib.hid hn
  have HA := Lib.hid h
  clear hn h
  by_cases hok : SymOk l 8
  case neg =>
    have KA := Lib.hid (decide_eq_false hok)
    rw [wordS_no hok] at hv
    cases hv
    clear hok
    go_enter Tryd.func49, Tryd.ntmps49
    go_wp2_with fail
    refine (specSymbolsOk_is HN.out HA.out false KA.out hl).mono ?_
    rintro e w2 ⟨rfl, rfl⟩
    go_wp2_with fail
    go_ret2
    exact ⟨rfl, Below.refl _ _⟩
  have KA := Lib.hid (decide_eq_true hok)
  obtain rfl : n = 8 := by have := hok.2; have := HN.out; omega
  rw [wordS_yes hok] at hv
  have hLT := nats_lt hok.1
  have HEL : Hid (∀ k, k < 8 → l.getD k 0 = (((nats l).getD k 0 : Nat) : Int)) := fun k hk => nats_getD hok.1 (by have := HN.out; omega)
  have hul : (nats l).length = 8 := by rw [nats_length]; exact HN.out
  generalize nats l = u at hLT HEL hul hv
  have HV : Hid (((wordN (u.take 8) : Nat) : Int) = v ∧ true = b) := by
    have h1 := congrArg Prod.fst hv
    have h2 := congrArg Prod.snd hv
    refine ⟨?_, h2⟩
    rw [List.take_of_length_le (by omega)]
    exact h1
  have HLT := Lib.hid hLT
  have HUL := Lib.hid hul
  clear hok hv hLT hul
  go_enter Tryd.func49, Tryd.ntmps49
  go_wp2_with fail
  refine (specSymbolsOk_is HN.out HA.out true KA.out hl).mono ?_
  rintro e w2 ⟨rfl, rfl⟩
  go_wp2_with fail
  go_loopw [4, 5] (fun x i wr => ∃ k : Nat, k ≤ 8 ∧ i = .int .i64 k ∧ x = .int .i64 ((wordN (u.take k) : Nat) : Int) ∧ wr = w) (fun _ i _ => 9 - (intOf i).toNat)
  case atStart => exact ⟨0, by omega, rfl, rfl, by trivial⟩
  case round =>
    obtain ⟨k, hk, rfl, rfl, rfl⟩ := hrel
    by_cases hlt : k < 8
    case neg =>
      obtain rfl : k = 8 := by omega
      (try rw [show ((8 : Nat) : Int) = 8 from rfl])
      obtain ⟨hv1, hv2⟩ := HV.out
      rw [hv1]
      subst hv2
      clear hv1
      go_wp2_with fail
      go_ret2
      exact ⟨rfl, Below.refl _ _⟩
    have hI : decide ((k : Int) < 8) = true := decide_eq_true (by omega)
    have hI' : (k : Int) < 8 := by omega
    have wk : IntKind.i64.wrap ((k : Int) + 1) = (k : Int) + 1 := IntWalk.i64_in _ (by omega)
    have w4 : IntKind.i64.wrap (4 * (k : Int)) = 4 * (k : Int) := IntWalk.i64_in _ (by omega)
    obtain ⟨g, o, rfl, ca⟩ := HA.out.at (k := k) (by rw [HN.out]; exact hlt)
    rw [HEL.out k hlt] at ca
    have hb : u.getD k 0 < 16 := getDn_lt HLT.out k
    have HW : Hid (wordN (u.take k) ||| (u.getD k 0 <<< (4 * k)) = wordN (u.take (k + 1))) := word_step HLT.out (by rw [HUL.out]; exact hlt)
    have hx := word_lt HLT.out hk
    have hs := shl_lt hb hlt
    generalize u.getD k 0 = y at ca hb HW hs
    have hsy : (y : Int) * 2 ^ (4 * k) = ((y <<< (4 * k) : Nat) : Int) := by rw [Nat.shiftLeft_eq]; simp
    generalize y <<< (4 * k) = sh at HW hs hsy
    have e1 : wrap64 ((y : Int) * 2 ^ (4 * k)) = (sh : Int) := by rw [hsy, ← IntWalk.i64_left]; exact IntWalk.i64_in _ (by omega)
    generalize wordN (u.take k) = X at HW hx
    have e2 : bits .or .i64 (X : Int) (sh : Int) = ((X ||| sh : Nat) : Int) := i64_or_nat _ _ (by omega) (by omega)
    generalize X ||| sh = Y at HW e2
    clear hsy
    go_wp2_with fail
    go_roundw
    case rel => exact ⟨k + 1, by omega, by go_num, by rw [← HW.out], by trivial⟩
    case measure => simp [intOf]; omega

theorem specDecodeLine_is {a : Option Addr} {c n : Nat} {l : List Int} (hn : l.length = n) {w : World} (h : RowI w a l) (x cd at' : Int) (hv : decW l = (x, cd, at')) (hl : (n : Int) ≤ 9223372036854775807) :
    Calls Tryd.prog 18 #[.slice a n c] w (Gives (.tuple #[.int .i64 x, .int .i64 cd, .int .i64 at']) w) := by
  have HN := Lib.hid hn
  have HA := Lib.hid h
  obtain ⟨⟨r, c1, a1⟩, hc⟩ : ∃ v, corW l = v := ⟨_, rfl⟩
  have HC := Lib.hid hc
  have hr11 : r.length ≤ 11 := by have := corW_le l; rw [hc] at this; exact this
  unfold decW at hv
  rw [hc] at hv
  have HV : Hid ((if c1 = 2 then ((0 : Int), (2 : Int), a1) else ((wordS (dataI r)).1, c1, a1)) = (x, cd, at')) := hv
  clear hn h hc hv
  go_enter Tryd.func18, Tryd.ntmps18
  go_wp2_with fail
  refine (specCorrectWord_is HN.out HA.out (r, c1, a1) HC.out hl).mono ?_
  rintro e w2 ⟨b1, m, d1, hm, rfl, own2, hb2⟩
  have HM : Hid (r.length = m) := hm
  have HR : Hid (RowI w2 b1 r) := own2.row
  have HD : Hid (m ≤ d1) := own2.cap_le hm
  have HB2 := Lib.hid hb2
  have hm11 : m ≤ 11 := by rw [← hm]; exact hr11
  clear hm own2 hb2 hr11
  by_cases h2 : c1 = 2
  case pos =>
    have HV2 : Hid (0 = x ∧ 2 = cd ∧ a1 = at') := by
      have := HV.out
      rw [if_pos h2] at this
      cases this
      exact ⟨rfl, rfl, rfl⟩
    subst h2
    go_wp2_with fail
    (try simp only [Exit.inBlock, Exit.then])
    refine bodyPost_ret (v := .tuple #[.int .i64 0, .int .i64 2, .int .i64 a1]) (by simp [results, Tryd.results18, go_sem]) rfl ?_
    obtain ⟨e1, e2, e3⟩ := HV2.out
    subst e1; subst e2; subst e3
    exact ⟨rfl, HB2.out⟩
  have t2 : (c1 == 2) = false := beq_eq_false_iff_ne.2 h2
  obtain ⟨dd, hdd⟩ : ∃ d, dataI r = d := ⟨_, rfl⟩
  have hd11 : dd.length ≤ 11 := by rw [← hdd]; exact dataI_le r
  have HDD := Lib.hid hdd
  obtain ⟨⟨xv, bv⟩, hxv⟩ : ∃ v, wordS dd = v := ⟨_, rfl⟩
  have HXV := Lib.hid hxv
  obtain ⟨k, hk⟩ : ∃ k, dd.length = k := ⟨_, rfl⟩
  have HK := Lib.hid hk
  have HV2 : Hid (xv = x ∧ c1 = cd ∧ a1 = at') := by
    have := HV.out
    rw [if_neg h2, hdd, hxv] at this
    cases this
    exact ⟨rfl, rfl, rfl⟩
  rw [hk] at hd11
  clear h2 hdd hxv hk HV
  go_wp2_with fail
  refine (specDataOf_is HM.out HD.out HR.out dd HDD.out (by omega)).mono ?_
  rintro e w3 ⟨b2, d2, rfl, own3, hb3⟩
  rw [HK.out] at own3
  (try rw [HK.out])
  have HR3 : Hid (RowI w3 b2 dd) := own3.row
  have HB3 : Hid (Below w.heap.size w w3) := HB2.out.trans (hb3.mono HB2.out.size)
  clear own3 hb3
  go_wp2_with fail
  refine (specWordOfSymbols_is HK.out HR3.out xv bv HXV.out (by omega)).mono ?_
  rintro e w4 ⟨rfl, hb4⟩
  have HB4 : Hid (Below w.heap.size w w4) := HB3.out.trans (hb4.mono HB3.out.size)
  clear hb4
  go_wp2_with fail
  (try simp only [Exit.inBlock, Exit.then])
  refine bodyPost_ret (v := .tuple #[.int .i64 xv, .int .i64 c1, .int .i64 a1]) (by simp [results, Tryd.results18, go_sem]) rfl ?_
  obtain ⟨e1, e2, e3⟩ := HV2.out
  subst e1; subst e2; subst e3
  exact ⟨rfl, HB4.out⟩

end Go.Proofs.YtfpfgaifhmgpiaaDoor

namespace Go.Proofs.YtfpfgaifhmgpiaaDoor
open Go.RowKit Go.PlainAid

set_option linter.unusedVariables false

set_option maxHeartbeats 2000000 in
theorem sameIntsC_is {a b : Option Addr} {ca cb : Nat} {l : List Int} {w : World} {n : Nat} (hn : l.length = n) (ha : RowI w a l) (hb : RowI w b l) (hl : (n : Int) ≤ 9223372036854775807) :
    Calls Tryd.prog 21 #[.slice a n ca, .slice b n cb] w (Gives (.bool true) w) := by
  have HN := Lib.hid hn
  have HA := Lib.hid ha
  have HB := Lib.hid hb
  clear hn ha hb
  go_enter Tryd.func21, Tryd.ntmps21
  go_wp2_with fail
  go_loopw [5] (fun i wr => ∃ k : Nat, k ≤ n ∧ i = .int .i64 k ∧ Below w.heap.size w wr) (fun i _ => n - (intOf i).toNat)
  case atStart => exact ⟨0, Nat.zero_le _, rfl, Below.refl _ _⟩
  case round =>
    obtain ⟨k, hk, rfl, hbr⟩ := hrel
    have HBR := Lib.hid hbr
    clear hbr
    by_cases hlt : k < n
    · obtain ⟨ba, oa, rfl, ha0⟩ := (HA.out.below HBR.out).at (k := k) (by rw [HN.out]; exact hlt)
      obtain ⟨bb, ob, rfl, hb0⟩ := (HB.out.below HBR.out).at (k := k) (by rw [HN.out]; exact hlt)
      generalize l.getD k 0 = r at ha0 hb0
      have za0 := fun q : Later wr => q.cell ha0
      have zb0 := fun q : Later wr => q.cell hb0
      have te : (r != r) = false := by simp
      clear ha0 hb0
      go_wp2_with fail
      refine wp_region_later (by kernel_rfl) (by kernel_rfl) ?_
      repeat (go_big_quiet_step (fail))
      refine wpQuiet_nil ?_
      rintro w2 ⟨zz, hz⟩
      have HB2 : Hid (Below w.heap.size w w2) := HBR.out.trans ((hz ▸ zz.ok : Below wr.heap.size wr w2).mono HBR.out.size)
      clear za0 zb0 hz zz
      go_wp2
      go_roundw
      case rel => exact ⟨k + 1, by omega, by go_num, HB2.out⟩
      case measure => simp [intOf]; omega
    · go_wp2_with fail
      go_ret
      exact ⟨rfl, HBR.out⟩

theorem OwnJ.at0 {B n c g : Nat} {l : List Int} {w : World} (h : OwnJ B (.slice (some ⟨g, 0, none⟩) n c) l w) {k : Nat} (hk : k < l.length) :
    w.cell? ⟨g, k, none⟩ = some (.int .i64 (l.getD k 0)) ∧ w.frozen? ⟨g, k, none⟩ = false ∧ B ≤ g ∧ g < w.heap.size := by
  obtain ⟨g', o, e, h1, h2, h3, h4⟩ := h.at hk
  cases e
  rw [Nat.zero_add] at h1 h2
  exact ⟨h1, h2, h3, h4⟩

theorem place_in {l : List Int} (hl : l.length = 12) (hp : ∀ x ∈ l, 0 ≤ x ∧ x ≤ 9999) (k : Nat) (hk : k < 12) : 0 ≤ l.getD k 0 ∧ l.getD k 0 ≤ 9999 := by
  rw [List.getD_eq_getElem?_getD, List.getElem?_eq_getElem (show k < l.length by omega)]
  exact hp _ (List.getElem_mem _)

theorem tmodN {p : Int} (h : 0 ≤ p) (m : Nat) (hm : 0 < m) : ∃ n : Nat, p.tmod (m : Int) = (n : Int) ∧ n < m := by
  rw [Int.tmod_eq_emod_of_nonneg h]
  have h1 := Int.emod_nonneg p (show (m : Int) ≠ 0 by omega)
  have h2 := Int.emod_lt_of_pos p (show (0 : Int) < (m : Int) by omega)
  exact ⟨(p % (m : Int)).toNat, by omega, by omega⟩

end Go.Proofs.YtfpfgaifhmgpiaaDoor

namespace Go.Proofs.YtfpfgaifhmgpiaaDoor
open Go.RowKit Go.PlainAid

set_option linter.unusedVariables false

theorem loadC_at (H : ILoadCell) {ga gb gr gd bx br bc : Int} {cs : List Value} {x : Arr} {c : List Int × Bool} {ok : Bool} {w : World} (hv : loadF ga gb gr gd x bx br bc = (c, ok)) (h : arrK.rd w cs x) (hf : ArrFit x) :
    Calls Tryd.prog 17 #[.agg #[.int .i64 ga, .int .i64 gb, .int .i64 gr, .int .i64 gd], .agg cs.toArray, .agg #[.int .i64 bx, .int .i64 br, .int .i64 bc]] w (GivesC c ok w) := by
  have := H ga gb gr gd bx br bc cs x w h hf
  rwa [hv] at this

set_option maxHeartbeats 8000000 in
set_option maxRecDepth 100000 in
theorem fnDecay_of (Gv : World → Prop) (DEC : Hid IRowDecayed) (SEN : Hid (ISenseRow Gv)) (LOAD : Hid ILoadCell) (a0 : Option Addr) (len cap : Nat) (zs : List Int) (w : World) (hr : IsRow .u8 w a0 len cap zs) (GK : Hid (∀ u : World, Below w.heap.size w u → Gv u)) :
    Calls Tryd.prog 4 #[.slice a0 len cap] w fun e w' => e = .returned (.bool true) ∧ Below w.heap.size w w' := by
  have hl := hr.len_le
  unfold maxLen at hl
  by_cases hbig : (1048576 : Int) < (len : Int)
  · go_enter Tryd.func4, Tryd.ntmps4
    go_wp2_with (go_at_call 9; refine (big_any _ _ _ _ (by omega)).mono ?_; rintro e w' ⟨rfl, rfl⟩)
    go_ret
    exact ⟨rfl, Below.refl _ _⟩
  have HR := Lib.hid hr
  clear hr
  go_enter Tryd.func4, Tryd.ntmps4
  go_wp2_with (go_at_call 9; refine (big_any _ _ _ _ (by omega)).mono ?_; rintro e w' ⟨rfl, rfl⟩)
  refine (drawArray_any HR.out).mono ?_
  rintro e w1 ⟨b, r, d, la, lh, cs, S, xx, rfl, hg, hlm, hok, hage, hhit, own1, hs1, hb1⟩
  have HG := Lib.hid hg
  have HLM := Lib.hid hlm
  obtain ⟨xa0, xn0, xc0, xa1, xn1, xc1, xa2, xn2, xc2, rfl, _, _, _⟩ := arr_rd (arrK.read own1)
  have HR1 := Lib.hid (HR.out.below (fun x h => HR.out.lt h) hb1)
  have HB1 := Lib.hid hb1
  have HOK := Lib.hid hok
  have HAGE := Lib.hid hage
  have HHIT := Lib.hid hhit
  clear hb1 hg hlm hok hage hhit
  go_wp2_with fail
  obtain ⟨w2, hw2⟩ : ∃ u, ((w1.alloc (.cells #[.int .i64 1, .int .i64 b, .int .i64 r, .int .i64 d] 25)).alloc (.cells #[.int .i64 la, .int .i64 lh] 27)).alloc (.cells #[.slice xa0 xn0 xc0, .slice xa1 xn1 xc1, .slice xa2 xn2 xc2] 31) = u := ⟨_, rfl⟩
  obtain ⟨gg2, ll2, qx2, hb2⟩ := alloc3 hw2
  have X2 : Hid (arrK.own w2 S [.slice xa0 xn0 xc0, .slice xa1 xn1 xc1, .slice xa2 xn2 xc2] xx) := arrK.ownBelow own1 hb2
  have BX : Hid (∀ g ∈ S, w.heap.size ≤ g) := hs1
  obtain ⟨PG, hPG⟩ : ∃ P, w1.heap.size = P := ⟨_, rfl⟩
  have hlt1 : ∀ g ∈ S, g < PG := fun g hg => by rw [← hPG]; exact arrK.lt own1 g hg
  have HXN : Hid (PG ∉ S ∧ PG + 1 ∉ S ∧ PG + 1 + 1 ∉ S) := ⟨fun h => by have := hlt1 _ h; omega, fun h => by have := hlt1 _ h; omega, fun h => by have := hlt1 _ h; omega⟩
  have HR2 := Lib.hid (HR1.out.below (fun x h => HR1.out.lt h) hb2)
  have HB2 : Hid (Below w.heap.size w w2) := HB1.out.trans (hb2.mono HB1.out.size)
  rw [hw2]
  clear hb2 hw2 HB1 HR1 HR own1 hs1 hlt1
  rw [hPG] at gg2 ll2 qx2
  simp only [hPG]
  clear hPG
  refine (drawPlaces_any HR2.out).mono ?_
  rintro e w3 ⟨Pg, Pc, lp, rfl, hlp, hpo, own3, hb3⟩
  obtain ⟨op, pp3⟩ : ∃ o, w3.heap[Pg]? = some o := by
    obtain ⟨g', e', _, _, _, hlt⟩ := own3.at (k := 0) (by rw [hlp]; decide)
    cases e'
    exact ⟨_, Array.getElem?_eq_getElem hlt⟩
  have hpc : ∀ i (hi : i < 12), ∀ u : World, u.heap[Pg]? = some op → u.cell? ⟨Pg, i, none⟩ = some (.int .i64 (lp.getD i 0)) := by
    intro i hi u hu
    obtain ⟨g', e', hc', _, _, _⟩ := own3.at (k := i) (by rw [hlp]; exact hi)
    cases e'
    rw [getD_get (by omega), ← hc']
    simp only [World.cell?, hu, pp3]
  have hpp : ∀ i (hi : i < 12), 0 ≤ lp.getD i 0 ∧ lp.getD i 0 ≤ 9999 := fun i hi => place_in hlp hpo i hi
  obtain ⟨p0, hp0⟩ : ∃ p, lp.getD 0 0 = p := ⟨_, rfl⟩
  obtain ⟨p1, hp1⟩ : ∃ p, lp.getD 1 0 = p := ⟨_, rfl⟩
  obtain ⟨p2, hp2⟩ : ∃ p, lp.getD 2 0 = p := ⟨_, rfl⟩
  obtain ⟨p3, hp3⟩ : ∃ p, lp.getD 3 0 = p := ⟨_, rfl⟩
  have HPC0 := Lib.hid (hp0 ▸ hpc 0 (by decide))
  have HPC1 := Lib.hid (hp1 ▸ hpc 1 (by decide))
  have HPC2 := Lib.hid (hp2 ▸ hpc 2 (by decide))
  have HPC3 := Lib.hid (hp3 ▸ hpc 3 (by decide))
  have HP0 := Lib.hid (hp0 ▸ hpp 0 (by decide))
  have HP1 := Lib.hid (hp1 ▸ hpp 1 (by decide))
  have HP2 := Lib.hid (hp2 ▸ hpp 2 (by decide))
  have HP3 := Lib.hid (hp3 ▸ hpp 3 (by decide))
  clear hlp hpo hpc hpp hp0 hp1 hp2 hp3 own3
  have gg3 := keep_block hb3 gg2 (lt_of_block gg2)
  have ll3 := keep_block hb3 ll2 (lt_of_block ll2)
  have qX3 := keep_block hb3 qx2 (lt_of_block qx2)
  have X3 : Hid (arrK.own w3 S [.slice xa0 xn0 xc0, .slice xa1 xn1 xc1, .slice xa2 xn2 xc2] xx) := arrK.ownBelow X2.out hb3
  have HB3 : Hid (Below w.heap.size w w3) := HB2.out.trans (hb3.mono HB2.out.size)
  clear hb3 gg2 ll2 qx2 X2 HB2 HR2
  clear X3 qX3 BX HXN HOK HAGE HHIT HP2 HP3 HPC2 HPC3
  obtain ⟨ev, ee, he⟩ := tmodN HP0.out.1 2 (by decide)
  obtain ⟨cv, ec, hcv⟩ := tmodN HP1.out.1 d.toNat (by have := HG.out.2.2.1; omega)
  rw [Int.toNat_of_nonneg (by have := HG.out.2.2.1; omega)] at ec
  have ee : p0.tmod 2 = (ev : Int) := ee
  have wadd : IntKind.i64.wrap (lh + (ev : Int)) = lh + (ev : Int) := IntWalk.i64_in _ (by have := HLM.out.2; omega)
  have HE : Hid (ev < 2) := he
  have HCV : Hid ((cv : Int) ≤ d - 1) := by show _ ≤ _; have := HG.out.2.2.1; omega
  clear he hcv
  have SZV : Hid (w.heap.size ≤ w3.heap.size) := HB3.out.size
  obtain ⟨kgg0, kgg1, kgg2, kgg3⟩ := cells4 gg3
  go_wp2_with fail
  refine (specArrayNew_is _ _ _ _ _).mono ?_
  rintro e w4 ⟨cs, SV, rfl, own4, hs4, hb4⟩
  clear kgg0 kgg1 kgg2 kgg3
  have gg4 := keep_block hb4 gg3 (lt_of_block gg3)
  have ll4 := keep_block hb4 ll3 (lt_of_block ll3)
  have pp4 := keep_block hb4 pp3 (lt_of_block pp3)
  have HB4 : Hid (Below w.heap.size w w4) := HB3.out.trans (hb4.mono HB3.out.size)
  have BV : Hid (∀ b ∈ SV, w3.heap.size ≤ b) := hs4
  clear hs4
  obtain ⟨Va0, Vn0, Vc0, Va1, Vn1, Vc1, Va2, Vn2, Vc2, rfl, _, _, _⟩ := arr_rd (arrK.read own4)
  have V4 : Hid (arrK.own w4 SV [.slice Va0 Vn0 Vc0, .slice Va1 Vn1 Vc1, .slice Va2 Vn2 Vc2] (newA 1 b r d)) := own4
  have NVgg : Hid (PG ∉ SV) := fun h => by have h1 := lt_of_block gg3; have h2 := BV.out _ h; omega
  have NVll : Hid ((PG + 1) ∉ SV) := fun h => by have h1 := lt_of_block ll3; have h2 := BV.out _ h; omega
  have NVpp : Hid (Pg ∉ SV) := fun h => by have h1 := lt_of_block pp3; have h2 := BV.out _ h; omega
  clear own4 hb4
  clear gg3 ll3 pp3 HB3
  obtain ⟨PV, hPV⟩ : ∃ P, w4.heap.size = P := ⟨_, rfl⟩
  have NVqV : Hid (PV ∉ SV) := fun h => by have h1 := arrK.lt V4.out _ h; omega
  have HPV := Lib.hid hPV
  clear hPV
  have hb5 : Below w4.heap.size w4 (w4.alloc (.cells #[.slice Va0 Vn0 Vc0, .slice Va1 Vn1 Vc1, .slice Va2 Vn2 Vc2] 31)) := (Below.refl _ _).alloc (Nat.le_refl _) _
  have gg5 := keep_block hb5 gg4 (lt_of_block gg4)
  have ll5 := keep_block hb5 ll4 (lt_of_block ll4)
  have pp5 := keep_block hb5 pp4 (lt_of_block pp4)
  have V5 : Hid (arrK.own (w4.alloc (.cells #[.slice Va0 Vn0 Vc0, .slice Va1 Vn1 Vc1, .slice Va2 Vn2 Vc2] 31)) SV [.slice Va0 Vn0 Vc0, .slice Va1 Vn1 Vc1, .slice Va2 Vn2 Vc2] (newA 1 b r d)) := arrK.ownBelow V4.out hb5
  have qV5 := heap_alloc_new w4 (.cells #[.slice Va0 Vn0 Vc0, .slice Va1 Vn1 Vc1, .slice Va2 Vn2 Vc2] 31)
  have HB5 : Hid (Below w.heap.size w (w4.alloc (.cells #[.slice Va0 Vn0 Vc0, .slice Va1 Vn1 Vc1, .slice Va2 Vn2 Vc2] 31))) := HB4.out.trans (hb5.mono HB4.out.size)
  go_wp2_with fail
  clear hb5
  clear gg4 ll4 pp4 V4 HB4
  generalize (w4.alloc (.cells #[.slice Va0 Vn0 Vc0, .slice Va1 Vn1 Vc1, .slice Va2 Vn2 Vc2] 31)) = w5 at gg5 ll5 pp5 V5 qV5 HB5 ⊢
  rw [HPV.out] at qV5
  (try simp only [HPV.out])
  clear HPV
  have hn2 : 0 < (newA 1 b r d).2.2.length := by
    have h1 := bank_small HG.out
    have h2 := Int.mul_le_mul HG.out.1.1 HG.out.2.1.1 (by decide) (by have := HG.out.1; omega)
    show 0 < (List.replicate (bankN 1 b r d * r).toNat 0).length
    rw [List.length_replicate, h1]
    omega
  obtain ⟨g, off, v0, v1, n, c, e0, hkn, hm, hgS, hcell, hfr, hset⟩ := hit_place V5.out hn2
  simp only [List.cons.injEq, Value.slice.injEq, and_true] at e0
  obtain ⟨u1, u2, rfl, en, u5⟩ := e0
  rw [← en] at hkn
  clear hcell hfr hset hm hgS en u1 u2 u5
  obtain ⟨kl0, kl1⟩ := cells2 ll5
  obtain ⟨kv0, kv1, kv2⟩ := cells3 qV5
  have ce0 := HPC0.out w5 pp5
  have z0 := fun q : Later w5 => q.cell kl0
  have z1 := fun q : Later w5 => q.cell kl1
  have z2 := fun q : Later w5 => q.cell kv0
  have z3 := fun q : Later w5 => q.cell kv1
  have z4 := fun q : Later w5 => q.cell kv2
  have z5 := fun q : Later w5 => q.cell ce0
  refine wp_region_later_tail 10 (by kernel_rfl) (by kernel_rfl) ?_
  simp only [List.take_succ_cons, List.take_zero, List.drop_succ_cons, List.drop_zero]
  repeat (go_big_quiet_step (fail))
  refine wpQuiet_nil ?_
  rintro w6 ⟨zz, rfl⟩
  have hb6 := zz.ok
  clear z0 z1 z2 z3 z4 z5 kl0 kl1 kv0 kv1 kv2 ce0
  have gg6 := keep_block hb6 gg5 (lt_of_block gg5)
  have ll6 := keep_block hb6 ll5 (lt_of_block ll5)
  have pp6 := keep_block hb6 pp5 (lt_of_block pp5)
  have qV6 := keep_block hb6 qV5 (lt_of_block qV5)
  have V6 : Hid (arrK.own zz.to SV [.slice Va0 Vn0 Vc0, .slice Va1 Vn1 Vc1, .slice (some ⟨g, off, none⟩) Vn2 Vc2] (newA 1 b r d)) := arrK.ownBelow V5.out hb6
  have HB6 : Hid (Below w.heap.size w zz.to) := HB5.out.trans (hb6.mono HB5.out.size)
  clear gg5 ll5 pp5 qV5 V5 HB5
  clear hb6
  generalize zz.to = w6 at gg6 ll6 pp6 qV6 V6 HB6 ⊢
  obtain ⟨g', off', v0', v1', n', c', e0, hkn', hm, hgS, hcell, hfr, hset⟩ := hit_place V6.out hn2
  simp only [List.cons.injEq, Value.slice.injEq, Option.some.injEq, Addr.mk.injEq, and_true] at e0
  obtain ⟨u1, u2, ⟨rfl, rfl⟩, u4, u5⟩ := e0
  clear u1 u2 u4 u5
  simp only [Nat.add_zero] at hcell hfr hset
  have hne : ∀ {q : Nat} (v : Value), q ∉ SV → (w6.setCell ⟨g, off, none⟩ v).heap[q]? = w6.heap[q]? := fun v hq => Below.heap_setCell _ _ _ _ (fun e => hq (by rw [e]; exact hgS))
  have V7 : Hid (arrK.own (w6.setCell ⟨g, off, none⟩ (.int .i64 (lh + (ev : Int)))) SV [.slice Va0 Vn0 Vc0, .slice Va1 Vn1 Vc1, .slice (some ⟨g, off, none⟩) Vn2 Vc2] (hitA b r d (lh + (ev : Int)))) := hset _
  have gg7 := (hne (.int .i64 (lh + (ev : Int))) NVgg.out).trans gg6
  have ll7 := (hne (.int .i64 (lh + (ev : Int))) NVll.out).trans ll6
  have pp7 := (hne (.int .i64 (lh + (ev : Int))) NVpp.out).trans pp6
  have qV7 := (hne (.int .i64 (lh + (ev : Int))) NVqV.out).trans qV6
  have HB7 : Hid (Below w.heap.size w (w6.setCell ⟨g, off, none⟩ (.int .i64 (lh + (ev : Int))))) := HB6.out.setCell (Nat.le_trans SZV.out (BV.out g hgS)) _
  clear hset hne V6 HB6 gg6 ll6 pp6 qV6 hn2 hkn' hm hgS
  obtain ⟨egg0, egg1, egg2, egg3⟩ := cells4 gg7
  obtain ⟨ell0, ell1⟩ := cells2 ll7
  obtain ⟨eqV0, eqV1, eqV2⟩ := cells3 qV7
  go_wp2_with fail
  clear hcell hfr egg0 egg1 egg2 egg3 ell0 ell1 eqV0 eqV1 eqV2
  generalize (w6.setCell ⟨g, off, none⟩ (.int .i64 (lh + (ev : Int)))) = w7 at gg7 ll7 pp7 qV7 V7 HB7 ⊢
  obtain ⟨hok, hdec, s, pz, hload, hsl, hcode⟩ := decay_math (e := (ev : Int)) (c := (cv : Int)) HG.out HLM.out (by have := HE.out; omega) ⟨by omega, HCV.out⟩
  obtain ⟨gone, hgone⟩ : ∃ v, decide (decF 1 b r d la lh (hitA b r d (lh + (ev : Int))) 0 0) = v := ⟨_, rfl⟩
  obtain ⟨⟨x0, kc, at0⟩, hdw⟩ : ∃ v, decW s = v := ⟨_, rfl⟩
  rw [hdw] at hcode
  have HGO := Lib.hid hgone
  have HDW := Lib.hid hdw
  have HCODE := Lib.hid hcode
  have HLOAD := Lib.hid hload
  have HSL := Lib.hid hsl
  have hgone1 : gone = true ↔ (ev : Int) = 1 := by rw [← hgone]; exact decide_eq_true_iff.trans hdec
  have HGONE := Lib.hid hgone1
  have hfit := arr_fit hok
  have HFIT := Lib.hid hfit
  have HFIT2 := Lib.hid (arr_fit (sensed_ok (la := la) (lh := lh) (bk := 0) (rw := 0) hok))
  clear hok hdec hload hsl hcode hdw hgone hgone1 hfit
  refine (DEC.out 1 b r d la lh 0 0 _ _ gone HGO.out _ (arrK.read V7.out) HFIT.out).mono ?_
  rintro e w8 ⟨rfl, hb8⟩
  have gg8 := keep_block hb8 gg7 (lt_of_block gg7)
  have ll8 := keep_block hb8 ll7 (lt_of_block ll7)
  have pp8 := keep_block hb8 pp7 (lt_of_block pp7)
  have qV8 := keep_block hb8 qV7 (lt_of_block qV7)
  have V8 : Hid (arrK.own w8 SV [.slice Va0 Vn0 Vc0, .slice Va1 Vn1 Vc1, .slice (some ⟨g, off, none⟩) Vn2 Vc2] (hitA b r d (lh + (ev : Int)))) := arrK.ownBelow V7.out hb8
  have HB8 : Hid (Below w.heap.size w w8) := HB7.out.trans (hb8.mono HB7.out.size)
  clear gg7 ll7 pp7 qV7 V7 HB7
  clear hb8
  obtain ⟨kgg0, kgg1, kgg2, kgg3⟩ := cells4 gg8
  obtain ⟨kll0, kll1⟩ := cells2 ll8
  obtain ⟨kqV0, kqV1, kqV2⟩ := cells3 qV8
  go_wp2_with fail
  have SZY : Hid (w.heap.size ≤ w8.heap.size) := HB8.out.size
  refine (SEN.out 1 b r d la lh 0 0 _ _ _ (arrK.read V8.out) HFIT.out (GK.out _ HB8.out)).mono ?_
  rintro e w9 ⟨cs, SY, rfl, own9, hs9, hb9⟩
  have gg9 := keep_block hb9 gg8 (lt_of_block gg8)
  have ll9 := keep_block hb9 ll8 (lt_of_block ll8)
  have pp9 := keep_block hb9 pp8 (lt_of_block pp8)
  have qV9 := keep_block hb9 qV8 (lt_of_block qV8)
  have V9 : Hid (arrK.own w9 SV [.slice Va0 Vn0 Vc0, .slice Va1 Vn1 Vc1, .slice (some ⟨g, off, none⟩) Vn2 Vc2] (hitA b r d (lh + (ev : Int)))) := arrK.ownBelow V8.out hb9
  have HB9 : Hid (Below w.heap.size w w9) := HB8.out.trans (hb9.mono HB8.out.size)
  have BY : Hid (∀ b ∈ SY, w8.heap.size ≤ b) := hs9
  clear hs9
  obtain ⟨Ya0, Yn0, Yc0, Ya1, Yn1, Yc1, Ya2, Yn2, Yc2, rfl, _, _, _⟩ := arr_rd (arrK.read own9)
  have Y9 : Hid (arrK.own w9 SY [.slice Ya0 Yn0 Yc0, .slice Ya1 Yn1 Yc1, .slice Ya2 Yn2 Yc2] (sensedF 1 b r d la lh (hitA b r d (lh + (ev : Int))) 0 0)) := own9
  have DVY : Hid (∀ b ∈ SV, b ∉ SY) := fun b h1 h2 => by have h3 := arrK.lt V8.out b h1; have h4 := BY.out b h2; omega
  have NYgg : Hid (PG ∉ SY) := fun h => by have h1 := lt_of_block gg8; have h2 := BY.out _ h; omega
  have NYll : Hid ((PG + 1) ∉ SY) := fun h => by have h1 := lt_of_block ll8; have h2 := BY.out _ h; omega
  have NYpp : Hid (Pg ∉ SY) := fun h => by have h1 := lt_of_block pp8; have h2 := BY.out _ h; omega
  have NYqV : Hid (PV ∉ SY) := fun h => by have h1 := lt_of_block qV8; have h2 := BY.out _ h; omega
  clear own9 hb9
  clear gg8 ll8 pp8 qV8 V8 HB8
  obtain ⟨PY, hPY⟩ : ∃ P, w9.heap.size = P := ⟨_, rfl⟩
  have NVqY : Hid (PY ∉ SV) := fun h => by have h1 := arrK.lt V9.out _ h; omega
  have NYqY : Hid (PY ∉ SY) := fun h => by have h1 := arrK.lt Y9.out _ h; omega
  have HPY := Lib.hid hPY
  clear hPY
  have hb10 : Below w9.heap.size w9 (w9.alloc (.cells #[.slice Ya0 Yn0 Yc0, .slice Ya1 Yn1 Yc1, .slice Ya2 Yn2 Yc2] 31)) := (Below.refl _ _).alloc (Nat.le_refl _) _
  have gg10 := keep_block hb10 gg9 (lt_of_block gg9)
  have ll10 := keep_block hb10 ll9 (lt_of_block ll9)
  have pp10 := keep_block hb10 pp9 (lt_of_block pp9)
  have qV10 := keep_block hb10 qV9 (lt_of_block qV9)
  have V10 : Hid (arrK.own (w9.alloc (.cells #[.slice Ya0 Yn0 Yc0, .slice Ya1 Yn1 Yc1, .slice Ya2 Yn2 Yc2] 31)) SV [.slice Va0 Vn0 Vc0, .slice Va1 Vn1 Vc1, .slice (some ⟨g, off, none⟩) Vn2 Vc2] (hitA b r d (lh + (ev : Int)))) := arrK.ownBelow V9.out hb10
  have Y10 : Hid (arrK.own (w9.alloc (.cells #[.slice Ya0 Yn0 Yc0, .slice Ya1 Yn1 Yc1, .slice Ya2 Yn2 Yc2] 31)) SY [.slice Ya0 Yn0 Yc0, .slice Ya1 Yn1 Yc1, .slice Ya2 Yn2 Yc2] (sensedF 1 b r d la lh (hitA b r d (lh + (ev : Int))) 0 0)) := arrK.ownBelow Y9.out hb10
  have qY10 := heap_alloc_new w9 (.cells #[.slice Ya0 Yn0 Yc0, .slice Ya1 Yn1 Yc1, .slice Ya2 Yn2 Yc2] 31)
  have HB10 : Hid (Below w.heap.size w (w9.alloc (.cells #[.slice Ya0 Yn0 Yc0, .slice Ya1 Yn1 Yc1, .slice Ya2 Yn2 Yc2] 31))) := HB9.out.trans (hb10.mono HB9.out.size)
  go_wp2_with fail
  clear hb10
  clear gg9 ll9 pp9 qV9 V9 Y9 HB9
  generalize (w9.alloc (.cells #[.slice Ya0 Yn0 Yc0, .slice Ya1 Yn1 Yc1, .slice Ya2 Yn2 Yc2] 31)) = w10 at gg10 ll10 pp10 qV10 V10 Y10 qY10 HB10 ⊢
  rw [HPY.out] at qY10
  (try simp only [HPY.out])
  clear HPY
  clear kgg0 kgg1 kgg2 kgg3 kll0 kll1 kqV0 kqV1 kqV2
  have hd0 : ¬ (d = 0) := by have := HG.out.2.2.1; omega
  go_wp2_with fail
  refine wp_region_flowV (fun k => match k with | 0 => some (.agg #[.int .i64 1, .int .i64 b, .int .i64 r, .int .i64 d]) | 1 => some (.agg #[.slice Ya0 Yn0 Yc0, .slice Ya1 Yn1 Yc1, .slice Ya2 Yn2 Yc2]) | 2 => some (.slice (some ⟨Pg, 0, none⟩) 12 Pc) | 3 => some (.pointer (some ⟨Pg, 1, none⟩)) | 4 => some (.int .i64 p1) | 5 => some (.pointer (some ⟨PG, 3, none⟩)) | 6 => some (.int .i64 d) | 7 => some (.int .i64 (cv : Int)) | 8 => some (.agg #[.int .i64 0, .int .i64 0, .int .i64 (cv : Int)]) | 12 => some (.bool true) | 15 => some (.bool true) | _ => none) (fun listed x u => FactW 9 10 (HasT cellK (s, pz) (.bool true) w10.heap.size) listed x u ∧ FactW 10 11 (HasT cellK (s, pz) (.bool true) w10.heap.size) listed x u ∧ Fact 10 (fun q => ∃ cs : List Value, q = .tuple #[.agg cs.toArray, .bool true]) listed x ∧ FactW 11 14 (HasK cellK (s, pz) w10.heap.size) listed x u ∧ MadeK cellK 41 #[.slice none 0 0, .bool false] 13 14 w10.heap.size (s, pz) listed x u) (fun _ => undef) (by kernel_rfl) (by kernel_rfl) ?hxR1 ?hSR1 ?hsR1 ?heR1
  case hxR1 => simp only [putsX, Act.put, List.setIfInBounds_toArray, List.set_cons_zero, List.set_cons_succ]
  case hSR1 => exact ⟨FactW.zero _ _ _ _ _ _, FactW.zero _ _ _ _ _ _, Fact.zero _ _ _ _, FactW.zero _ _ _ _ _ _, MadeK.zero _ _ _ _ _ _ _ _ _ _⟩
  case hsR1 =>
    simp only [flowSteps]
    refine ⟨?sR1_0, ?sR1_1, ?sR1_2, ?sR1_3, ?sR1_4, ?sR1_5, ?sR1_6, ?sR1_7, ?sR1_8, ?sR1_9, ?sR1_10, ?sR1_11, ?sR1_12, ?sR1_13, ?sR1_14, ?sR1_15, trivial⟩
    case sR1_0 =>
      intro listed bb u hsz hn hwt hinv
      obtain ⟨x, rfl, hC, hU, hT, hV, hP, hO, hM⟩ := hinv
      simp only [putsX, Act.put, List.setIfInBounds_toArray, List.set_cons_zero, List.set_cons_succ]
      obtain ⟨d0, d1, d2, d3⟩ := cells4 (keep_block hC gg10 (lt_of_block gg10))
      go_wp2_with fail
      refine stepQ_normal ⟨trivial, upd x 0 (.agg #[.int .i64 1, .int .i64 b, .int .i64 r, .int .i64 d]), ?_, hC, hU.step (fun _ h => Option.some.inj h), hT.keep (by decide) (by decide) _ id, hV.keep (by decide) (by decide) _ id, hP.keep (by decide) _, hO.keep (by decide) (by decide) _ id, hM.keep (by decide) (by decide) _ (Below.refl _ _)⟩
      simp only [upd]
      rfl
    case sR1_1 =>
      intro listed bb u hsz hn hwt hinv
      obtain ⟨x, rfl, hC, hU, hT, hV, hP, hO, hM⟩ := hinv
      simp only [putsX, Act.put, List.setIfInBounds_toArray, List.set_cons_zero, List.set_cons_succ]
      obtain ⟨d0, d1, d2⟩ := cells3 (keep_block hC qY10 (lt_of_block qY10))
      go_wp2_with fail
      refine stepQ_normal ⟨trivial, upd x 1 (.agg #[.slice Ya0 Yn0 Yc0, .slice Ya1 Yn1 Yc1, .slice Ya2 Yn2 Yc2]), ?_, hC, hU.step (fun _ h => Option.some.inj h), hT.keep (by decide) (by decide) _ id, hV.keep (by decide) (by decide) _ id, hP.keep (by decide) _, hO.keep (by decide) (by decide) _ id, hM.keep (by decide) (by decide) _ (Below.refl _ _)⟩
      simp only [upd]
      rfl
    case sR1_2 =>
      intro listed bb u hsz hn hwt hinv
      obtain ⟨x, rfl, hC, hU, hT, hV, hP, hO, hM⟩ := hinv
      simp only [putsX, Act.put, List.setIfInBounds_toArray, List.set_cons_zero, List.set_cons_succ]
      go_wp2_with fail
      refine stepQ_normal ⟨trivial, upd x 2 (.slice (some ⟨Pg, 0, none⟩) 12 Pc), ?_, hC, hU.step (fun _ h => Option.some.inj h), hT.keep (by decide) (by decide) _ id, hV.keep (by decide) (by decide) _ id, hP.keep (by decide) _, hO.keep (by decide) (by decide) _ id, hM.keep (by decide) (by decide) _ (Below.refl _ _)⟩
      simp only [upd]
      rfl
    case sR1_3 =>
      intro listed bb u hsz hn hwt hinv
      obtain ⟨x, rfl, hC, hU, hT, hV, hP, hO, hM⟩ := hinv
      have f2 := Lib.hid (hU 2 _ rfl (hwt 2 (by kernel_rfl)))
      simp only [putsX, Act.put, List.setIfInBounds_toArray, List.set_cons_zero, List.set_cons_succ]
      rw [f2.out]
      go_wp2_with fail
      refine stepQ_normal ⟨trivial, upd x 3 (.pointer (some ⟨Pg, 1, none⟩)), ?_, hC, hU.step (fun _ h => Option.some.inj h), hT.keep (by decide) (by decide) _ id, hV.keep (by decide) (by decide) _ id, hP.keep (by decide) _, hO.keep (by decide) (by decide) _ id, hM.keep (by decide) (by decide) _ (Below.refl _ _)⟩
      simp only [upd]
      simp only [f2.out]
      (try rfl)
    case sR1_4 =>
      intro listed bb u hsz hn hwt hinv
      obtain ⟨x, rfl, hC, hU, hT, hV, hP, hO, hM⟩ := hinv
      have f3 := Lib.hid (hU 3 _ rfl (hwt 3 (by kernel_rfl)))
      simp only [putsX, Act.put, List.setIfInBounds_toArray, List.set_cons_zero, List.set_cons_succ]
      rw [f3.out]
      have d0 := HPC1.out u (keep_block hC pp10 (lt_of_block pp10))
      go_wp2_with fail
      refine stepQ_normal ⟨trivial, upd x 4 (.int .i64 p1), ?_, hC, hU.step (fun _ h => Option.some.inj h), hT.keep (by decide) (by decide) _ id, hV.keep (by decide) (by decide) _ id, hP.keep (by decide) _, hO.keep (by decide) (by decide) _ id, hM.keep (by decide) (by decide) _ (Below.refl _ _)⟩
      simp only [upd]
      simp only [f3.out]
      (try rfl)
    case sR1_5 =>
      intro listed bb u hsz hn hwt hinv
      obtain ⟨x, rfl, hC, hU, hT, hV, hP, hO, hM⟩ := hinv
      simp only [putsX, Act.put, List.setIfInBounds_toArray, List.set_cons_zero, List.set_cons_succ]
      go_wp2_with fail
      refine stepQ_normal ⟨trivial, upd x 5 (.pointer (some ⟨PG, 3, none⟩)), ?_, hC, hU.step (fun _ h => Option.some.inj h), hT.keep (by decide) (by decide) _ id, hV.keep (by decide) (by decide) _ id, hP.keep (by decide) _, hO.keep (by decide) (by decide) _ id, hM.keep (by decide) (by decide) _ (Below.refl _ _)⟩
      simp only [upd]
      rfl
    case sR1_6 =>
      intro listed bb u hsz hn hwt hinv
      obtain ⟨x, rfl, hC, hU, hT, hV, hP, hO, hM⟩ := hinv
      have f5 := Lib.hid (hU 5 _ rfl (hwt 5 (by kernel_rfl)))
      simp only [putsX, Act.put, List.setIfInBounds_toArray, List.set_cons_zero, List.set_cons_succ]
      rw [f5.out]
      obtain ⟨d0, d1, d2, d3⟩ := cells4 (keep_block hC gg10 (lt_of_block gg10))
      go_wp2_with fail
      refine stepQ_normal ⟨trivial, upd x 6 (.int .i64 d), ?_, hC, hU.step (fun _ h => Option.some.inj h), hT.keep (by decide) (by decide) _ id, hV.keep (by decide) (by decide) _ id, hP.keep (by decide) _, hO.keep (by decide) (by decide) _ id, hM.keep (by decide) (by decide) _ (Below.refl _ _)⟩
      simp only [upd]
      simp only [f5.out]
      (try rfl)
    case sR1_7 =>
      intro listed bb u hsz hn hwt hinv
      obtain ⟨x, rfl, hC, hU, hT, hV, hP, hO, hM⟩ := hinv
      have f4 := Lib.hid (hU 4 _ rfl (hwt 4 (by kernel_rfl)))
      have f6 := Lib.hid (hU 6 _ rfl (hwt 6 (by kernel_rfl)))
      simp only [putsX, Act.put, List.setIfInBounds_toArray, List.set_cons_zero, List.set_cons_succ]
      rw [f4.out]
      rw [f6.out]
      go_wp2_with fail
      refine stepQ_normal ⟨trivial, upd x 7 (.int .i64 (cv : Int)), ?_, hC, hU.step (fun _ h => Option.some.inj h), hT.keep (by decide) (by decide) _ id, hV.keep (by decide) (by decide) _ id, hP.keep (by decide) _, hO.keep (by decide) (by decide) _ id, hM.keep (by decide) (by decide) _ (Below.refl _ _)⟩
      simp only [upd]
      simp only [f4.out, f6.out]
      (try rfl)
    case sR1_8 =>
      intro listed bb u hsz hn hwt hinv
      obtain ⟨x, rfl, hC, hU, hT, hV, hP, hO, hM⟩ := hinv
      have f7 := Lib.hid (hU 7 _ rfl (hwt 7 (by kernel_rfl)))
      simp only [putsX, Act.put, List.setIfInBounds_toArray, List.set_cons_zero, List.set_cons_succ]
      rw [f7.out]
      go_wp2_with fail
      refine stepQ_normal ⟨trivial, upd x 8 (.agg #[.int .i64 0, .int .i64 0, .int .i64 (cv : Int)]), ?_, hC, hU.step (fun _ h => Option.some.inj h), hT.keep (by decide) (by decide) _ id, hV.keep (by decide) (by decide) _ id, hP.keep (by decide) _, hO.keep (by decide) (by decide) _ id, hM.keep (by decide) (by decide) _ (Below.refl _ _)⟩
      simp only [upd]
      simp only [f7.out]
      (try rfl)
    case sR1_9 =>
      intro listed bb u hsz hn hwt hinv
      obtain ⟨x, rfl, hC, hU, hT, hV, hP, hO, hM⟩ := hinv
      have f0 := Lib.hid (hU 0 _ rfl (hwt 0 (by kernel_rfl)))
      have f1 := Lib.hid (hU 1 _ rfl (hwt 1 (by kernel_rfl)))
      have f8 := Lib.hid (hU 8 _ rfl (hwt 8 (by kernel_rfl)))
      simp only [putsX, Act.put, List.setIfInBounds_toArray, List.set_cons_zero, List.set_cons_succ]
      have hcall : Calls Tryd.prog 17 #[x 0, x 1, x 8] u (GivesC (s, pz) true u) := by rw [f0.out, f1.out, f8.out]; exact (loadC_at LOAD.out HLOAD.out (arrK.read (arrK.ownBelow Y10.out hC)) HFIT2.out)
      go_wp2_with fail
      refine hcall.mono ?_
      rintro e' u' ⟨cs, SS, rfl, own, hss, hb⟩
      go_wp2_with fail
      refine stepQ_normal ⟨trivial, upd x 9 (.tuple #[.agg cs.toArray, .bool true]), ?_, hC.trans (hb.mono hC.size), hU.step (fun _ h => by cases h), FactW.new ⟨cs, SS, rfl, own, fun b h => Nat.le_trans hC.size (hss b h)⟩, hV.keep (by decide) (by decide) _ (fun h => HasT.below h (hb)), hP.keep (by decide) _, hO.keep (by decide) (by decide) _ (fun h => HasK.below h (hb)), hM.keep (by decide) (by decide) _ (hb)⟩
      simp only [upd]
      rfl
    case sR1_10 =>
      intro listed bb u hsz hn hwt hinv
      obtain ⟨x, rfl, hC, hU, hT, hV, hP, hO, hM⟩ := hinv
      simp only [putsX, Act.put, List.setIfInBounds_toArray, List.set_cons_zero, List.set_cons_succ]
      obtain ⟨cs, SS, fp, own, hss⟩ := hT (hwt 9 (by kernel_rfl)) hn
      have FP := Lib.hid fp
      rw [FP.out]
      clear fp
      go_wp2_with fail
      refine stepQ_normal ⟨trivial, upd x 10 (.tuple #[.agg cs.toArray, .bool true]), ?_, hC, hU.step (fun _ h => by cases h), FactW.call (by rw [hsz]; decide), FactW.new ⟨cs, SS, rfl, own, hss⟩, Fact.new ⟨cs, rfl⟩, hO.keep (by decide) (by decide) _ id, hM.keep (by decide) (by decide) _ (Below.refl _ _)⟩
      simp only [upd]
      simp only [FP.out]
      (try rfl)
    case sR1_11 =>
      intro listed bb u hsz hn hwt hinv
      obtain ⟨x, rfl, hC, hU, hT, hV, hP, hO, hM⟩ := hinv
      simp only [putsX, Act.put, List.setIfInBounds_toArray, List.set_cons_zero, List.set_cons_succ]
      obtain ⟨cs, SS, fp, own, hss⟩ := hV (hwt 10 (by kernel_rfl)) hn
      have FP := Lib.hid fp
      rw [FP.out]
      clear fp
      go_wp2_with fail
      refine stepQ_normal ⟨trivial, upd x 11 (.agg cs.toArray), ?_, hC, hU.step (fun _ h => by cases h), hT.keep (by decide) (by decide) _ id, FactW.call (by rw [hsz]; decide), hP.keep (by decide) _, FactW.new ⟨cs, SS, rfl, own, hss⟩, hM.keep (by decide) (by decide) _ (Below.refl _ _)⟩
      simp only [upd]
      simp only [FP.out]
      (try rfl)
    case sR1_12 =>
      intro listed bb u hsz hn hwt hinv
      obtain ⟨x, rfl, hC, hU, hT, hV, hP, hO, hM⟩ := hinv
      simp only [putsX, Act.put, List.setIfInBounds_toArray, List.set_cons_zero, List.set_cons_succ]
      obtain ⟨cs, fp⟩ := hP (hwt 10 (by kernel_rfl))
      have FP := Lib.hid fp
      rw [FP.out]
      clear fp
      go_wp2_with fail
      refine stepQ_normal ⟨trivial, upd x 12 (.bool true), ?_, hC, hU.step (fun _ h => Option.some.inj h), hT.keep (by decide) (by decide) _ id, hV.keep (by decide) (by decide) _ id, hP.keep (by decide) _, hO.keep (by decide) (by decide) _ id, hM.keep (by decide) (by decide) _ (Below.refl _ _)⟩
      simp only [upd]
      simp only [FP.out]
      (try rfl)
    case sR1_13 =>
      intro listed bb u hsz hn hwt hinv
      obtain ⟨x, rfl, hC, hU, hT, hV, hP, hO, hM⟩ := hinv
      simp only [putsX, Act.put, List.setIfInBounds_toArray, List.set_cons_zero, List.set_cons_succ]
      go_wp2_with fail
      refine stepQ_normal ⟨trivial, upd x 13 (.pointer (some ⟨u.heap.size, 0, none⟩)), ?_, hC.alloc hC.size _, hU.step (fun _ h => by cases h), hT.keep (by decide) (by decide) _ (fun h => HasT.below h (below_allocK _ _)), hV.keep (by decide) (by decide) _ (fun h => HasT.below h (below_allocK _ _)), hP.keep (by decide) _, hO.keep (by decide) (by decide) _ (fun h => HasK.below h (below_allocK _ _)), hM.new (by decide) hn hC.size⟩
      simp only [upd]
      rfl
    case sR1_14 =>
      intro listed bb u hsz hn hwt hinv
      obtain ⟨x, rfl, hC, hU, hT, hV, hP, hO, hM⟩ := hinv
      simp only [putsX, Act.put, List.setIfInBounds_toArray, List.set_cons_zero, List.set_cons_succ]
      obtain ⟨g, fg, hg, hh⟩ := hM.there (hwt 13 (by kernel_rfl)) hn
      obtain ⟨cs, SS, fp, own, hss⟩ := hO (hwt 11 (by kernel_rfl)) hn
      obtain ⟨a0, n0, c0, rfl, _⟩ := cell_rd (cellK.read own)
      have FG := Lib.hid fg
      have FP := Lib.hid fp
      rw [FG.out, FP.out]
      obtain ⟨y0, y1⟩ := cells2 hh
      have t0 := thawed hh 0
      have t1 := thawed hh 1
      have hng : g ∉ SS := cellTy.notin own hh (by decide)
      have own0 := own
      have hfin := set_cells (set_cells (hh) 0 (.slice a0 n0 c0)) 1 (.bool pz)
      have OW := Lib.hid (Kn.ownSet cellK (Kn.ownSet cellK own0 (p := ⟨g, 0, none⟩) (fun b h e => hng ((show b = g from e) ▸ h)) (.slice a0 n0 c0)) (p := ⟨g, 1, none⟩) (fun b h e => hng ((show b = g from e) ▸ h)) (.bool pz))
      have HSS := Lib.hid hss
      have HNG := Lib.hid hng
      clear hh fg fp own own0 hss hng
      go_wp2_with fail
      refine stepQ_normal ⟨trivial, upd x 14 undef, ?_, ((hC).setCell (by exact hg) _).setCell (by exact hg) _, hU.step (fun _ h => by cases h), FactW.gone (hwt 10 (by kernel_rfl)), FactW.gone (hwt 11 (by kernel_rfl)), hP.keep (by decide) _, FactW.call (by rw [hsz]; decide), MadeK.fill (by decide) (hwt 13 (by kernel_rfl)) (by rw [hsz]; decide) FG.out hg hfin OW.out HNG.out HSS.out⟩
      simp only [upd]
      simp only [FG.out, FP.out]
      (try rfl)
    case sR1_15 =>
      intro listed bb u hsz hn hwt hinv
      obtain ⟨x, rfl, hC, hU, hT, hV, hP, hO, hM⟩ := hinv
      have f12 := Lib.hid (hU 12 _ rfl (hwt 12 (by kernel_rfl)))
      simp only [putsX, Act.put, List.setIfInBounds_toArray, List.set_cons_zero, List.set_cons_succ]
      rw [f12.out]
      go_wp2_with fail
      refine stepQ_normal ⟨trivial, upd x 15 (.bool true), ?_, hC, hU.step (fun _ h => Option.some.inj h), hT.keep (by decide) (by decide) _ id, hV.keep (by decide) (by decide) _ id, hP.keep (by decide) _, hO.keep (by decide) (by decide) _ id, hM.keep (by decide) (by decide) _ (Below.refl _ _)⟩
      simp only [upd]
      simp only [f12.out]
      (try rfl)
  case heR1 =>
    intro listed q w11 hall hC hU hS
    obtain ⟨hT, hV, hP, hO, hM⟩ := hS
    obtain ⟨PC, cs, SC, fg, hgP, hh, own, hng, hss⟩ := hM.full (hall 13 (by decide)) (hall 14 (by decide))
    obtain ⟨Ca0, Cn0, Cc0, rfl, _⟩ := cell_rd (cellK.read own)
    simp only [putsX, Act.put, List.setIfInBounds_toArray, List.set_cons_zero, List.set_cons_succ]
    rw [fg]
    have fa := hU 15 _ rfl (hall 15 (by decide))
    rw [fa]
    clear fa
    clear hall hU fg hT hV hP hO hM
    generalize q 0 = _q0, q 1 = _q1, q 2 = _q2, q 3 = _q3, q 4 = _q4, q 5 = _q5, q 6 = _q6, q 7 = _q7, q 8 = _q8, q 9 = _q9, q 10 = _q10, q 11 = _q11, q 12 = _q12
    have gg11 := keep_block hC gg10 (lt_of_block gg10)
    have ll11 := keep_block hC ll10 (lt_of_block ll10)
    have pp11 := keep_block hC pp10 (lt_of_block pp10)
    have qV11 := keep_block hC qV10 (lt_of_block qV10)
    have qY11 := keep_block hC qY10 (lt_of_block qY10)
    have V11 : Hid (arrK.own w11 SV [.slice Va0 Vn0 Vc0, .slice Va1 Vn1 Vc1, .slice (some ⟨g, off, none⟩) Vn2 Vc2] (hitA b r d (lh + (ev : Int)))) := arrK.ownBelow V10.out hC
    have Y11 : Hid (arrK.own w11 SY [.slice Ya0 Yn0 Yc0, .slice Ya1 Yn1 Yc1, .slice Ya2 Yn2 Yc2] (sensedF 1 b r d la lh (hitA b r d (lh + (ev : Int))) 0 0)) := arrK.ownBelow Y10.out hC
    have HB11 : Hid (Below w.heap.size w w11) := HB10.out.trans (hC.mono HB10.out.size)
    have BC : Hid (∀ b ∈ SC, w10.heap.size ≤ b) := hss
    have C11 : Hid (cellK.own w11 SC [.slice Ca0 Cn0 Cc0, .bool pz] (s, pz)) := own
    have qC11 := hh
    have NVqC : Hid (PC ∉ SV) := fun h => by have h1 := arrK.lt V10.out _ h; omega
    have NYqC : Hid (PC ∉ SY) := fun h => by have h1 := arrK.lt Y10.out _ h; omega
    have DVC : Hid (∀ b ∈ SV, b ∉ SC) := fun b h1 h2 => by have h3 := arrK.lt V10.out b h1; have h4 := BC.out b h2; omega
    have DYC : Hid (∀ b ∈ SY, b ∉ SC) := fun b h1 h2 => by have h3 := arrK.lt Y10.out b h1; have h4 := BC.out b h2; omega
    have NCgg : Hid (PG ∉ SC) := fun h => by have h1 := lt_of_block gg10; have h2 := BC.out _ h; omega
    have NCll : Hid ((PG + 1) ∉ SC) := fun h => by have h1 := lt_of_block ll10; have h2 := BC.out _ h; omega
    have NCpp : Hid (Pg ∉ SC) := fun h => by have h1 := lt_of_block pp10; have h2 := BC.out _ h; omega
    have NCqV : Hid (PV ∉ SC) := fun h => by have h1 := lt_of_block qV10; have h2 := BC.out _ h; omega
    have NCqY : Hid (PY ∉ SC) := fun h => by have h1 := lt_of_block qY10; have h2 := BC.out _ h; omega
    have NCqC : Hid (PC ∉ SC) := hng
    clear own hss hh hC hng hgP
    clear gg10 ll10 pp10 qV10 qY10 V10 Y10 HB10
    have hCi : intsK.rd w11 [.slice Ca0 Cn0 Cc0] s := by
      obtain ⟨a, n, c, e, h⟩ := cell_rd (cellK.read C11.out)
      rw [← (List.cons.inj e).1] at h
      exact h
    have hCl := (Kn.row_len hCi).1
    have HCI := Lib.hid hCi
    have HCL := Lib.hid hCl
    clear hCi hCl hd0
    obtain ⟨kqC0, kqC1⟩ := cells2 qC11
    go_wp2_with fail
    refine (specDecodeLine_is HCL.out (ints_row HCI.out) x0 kc at0 HDW.out (by have := HCL.out; have := HSL.out; omega)).mono ?_
    rintro e w12 ⟨rfl, hb12⟩
    clear kqC0 kqC1
    have gg12 := keep_block hb12 gg11 (lt_of_block gg11)
    have ll12 := keep_block hb12 ll11 (lt_of_block ll11)
    have pp12 := keep_block hb12 pp11 (lt_of_block pp11)
    have qV12 := keep_block hb12 qV11 (lt_of_block qV11)
    have qY12 := keep_block hb12 qY11 (lt_of_block qY11)
    have qC12 := keep_block hb12 qC11 (lt_of_block qC11)
    have V12 : Hid (arrK.own w12 SV [.slice Va0 Vn0 Vc0, .slice Va1 Vn1 Vc1, .slice (some ⟨g, off, none⟩) Vn2 Vc2] (hitA b r d (lh + (ev : Int)))) := arrK.ownBelow V11.out hb12
    have Y12 : Hid (arrK.own w12 SY [.slice Ya0 Yn0 Yc0, .slice Ya1 Yn1 Yc1, .slice Ya2 Yn2 Yc2] (sensedF 1 b r d la lh (hitA b r d (lh + (ev : Int))) 0 0)) := arrK.ownBelow Y11.out hb12
    have C12 : Hid (cellK.own w12 SC [.slice Ca0 Cn0 Cc0, .bool pz] (s, pz)) := cellK.ownBelow C11.out hb12
    have HB12 : Hid (Below w.heap.size w w12) := HB11.out.trans (hb12.mono HB11.out.size)
    clear gg11 ll11 pp11 qV11 qY11 qC11 V11 Y11 C11 HB11
    clear hb12
    have ce0 := HPC0.out w12 pp12
    have hev : ev = 0 ∨ ev = 1 := by have := HE.out; omega
    rcases hev with rfl | rfl
    · have hg : gone = false := by
        cases hgo : gone
        · rfl
        · exact absurd (HGONE.out.1 hgo) (by decide)
      subst hg
      have tk : (kc == 2) = false := by
        rw [beq_eq_false_iff_ne]
        exact fun h => absurd (HCODE.out.1 h) (by decide)
      have ee0 : p0.tmod 2 = 0 := ee
      clear ee
      go_wp2_with fail
      go_ret
      exact ⟨rfl, HB12.out⟩
    · have hg : gone = true := HGONE.out.2 rfl
      subst hg
      have tk : (kc == 2) = true := by
        rw [beq_iff_eq]
        have h := HCODE.out.2 rfl
        exact h
      have ee0 : p0.tmod 2 = 1 := ee
      clear ee
      go_wp2_with fail
      go_ret
      exact ⟨rfl, HB12.out⟩

end Go.Proofs.YtfpfgaifhmgpiaaDoor

namespace Go.Proofs.YtfpfgaifhmgpiaaDoor
open Go.RowKit Go.PlainAid

set_option linter.unusedVariables false

/-- A call that answers a row of ints of the call's own, so long. -/
def GivesN (n : Nat) (l : List Int) (w : World) (e : Ending) (w' : World) : Prop := ∃ a c S, e = .returned (.slice a n c) ∧ intsK.own w' S [.slice a n c] l ∧ (∀ b ∈ S, w.heap.size ≤ b) ∧ Below w.heap.size w w'

set_option maxHeartbeats 4000000 in
theorem implCloneN_is {a : Option Addr} {n c : Nat} {l : List Int} {w : World} (h : intsK.rd w [.slice a n c] l) (hl : l.length ≤ 4000000) :
    Calls Tryd.prog 54 #[.slice a n c] w (GivesN n l w) := by
  have q0 : ∀ (w : World) (a : Option Addr) (n c n' c' : Nat), (Go.binOp .eql 29 (.slice a n c) (.slice none n' c')).run Tryd.prog w = .ok (.bool a.isNone) w := fun w a n c n' c' => Lib.run_eql_slice_nil w _ _ a n c n' c' Tryd.underlying29
  obtain ⟨h1, h2, h3, h4⟩ := Kn.row_len h
  rcases a with _ | ad
  · obtain rfl : c = 0 := h4 rfl
    obtain rfl : n = 0 := by omega
    obtain rfl : l = [] := List.length_eq_zero_iff.1 h1
    clear h h1 h2 h3 h4 hl
    go_enter Tryd.func54, Tryd.ntmps54
    go_wp2
    go_ret
    exact ⟨none, 0, [], rfl, ints_none _, (fun b hb => by cases hb), Below.refl _ _⟩
  · have hbA : Below w.heap.size w (w.alloc (.cells #[] 3)) := (Below.refl _ _).alloc (Nat.le_refl _) _
    have HR : Hid (intsK.rd (w.alloc (.cells #[] 3)) [.slice (some ad) n c] l) := intsK.below h hbA
    have hgA : (w.alloc (.cells #[] 3)).heap[w.heap.size]? = some (.cells #[] 3 (0, 0)) := heap_alloc_new _ _
    have hSA : w.heap.size ≤ (w.alloc (.cells #[] 3)).heap.size := by simp
    clear h h1 h2 h3 h4
    go_enter Tryd.func54, Tryd.ntmps54
    go_wp2_with (at_builtin; refine copy_ints rfl _ _ rfl w.heap.size w.heap.size rfl (Nat.le_refl _) hgA (some ad) n c l rfl HR.out hl hSA ?_)
    intro ab cb w3 S own3 hS3 hb3
    have HO := Lib.hid own3
    have HS : Hid (∀ b ∈ S, w.heap.size ≤ b) := fun b hb => by have := hS3 b hb; omega
    have HB : Hid (Below w.heap.size w w3) := hbA.trans (hb3.mono (by simp))
    clear own3 hS3 hb3 hbA hgA hSA
    go_wp2_with fail
    go_ret
    exact ⟨ab, cb, S, rfl, HO.out, HS.out, HB.out⟩

theorem cell_one {w : World} : ∀ {x : List (List Int × Bool)} {xs : List Value}, cellK.rds w xs x → ∀ u ∈ xs, u.oneCell' = true
  | [], xs, h, u, hu => by rw [show xs = [] from h] at hu; cases hu
  | y :: x, xs, ⟨c1, c2, e, h1, h2⟩, u, hu => by
    obtain ⟨a, n, c, rfl, _⟩ := cell_rd h1
    rw [e] at hu
    rcases List.mem_append.1 hu with h | h
    · simp only [List.mem_cons, List.not_mem_nil, or_false] at h
      rcases h with rfl | rfl <;> rfl
    · exact cell_one h2 u h

set_option maxHeartbeats 4000000 in
theorem implCloneC_is {a : Option Addr} {n c : Nat} {x : List (List Int × Bool)} {w : World} (h : cellsK.rd w [.slice a n c] x) (hl : x.length ≤ 3000000) :
    Calls Tryd.prog 79 #[.slice a n c] w fun e w' => ∃ va vc xs, e = .returned (.slice va n vc) ∧ w'.ownsRow w.heap.size 41 2 (.slice va n vc) n xs ∧ cellK.rds w xs x ∧ Below w.heap.size w w' := by
  have q0 : ∀ (w : World) (a : Option Addr) (n c n' c' : Nat), (Go.binOp .eql 28 (.slice a n c) (.slice none n' c')).run Tryd.prog w = .ok (.bool a.isNone) w := fun w a n c n' c' => Lib.run_eql_slice_nil w _ _ a n c n' c' Tryd.underlying28
  obtain ⟨a', n', c', xs, e, h1, h2, h3, h4, h5⟩ := h
  simp only [List.cons.injEq, Value.slice.injEq, and_true] at e
  obtain ⟨rfl, rfl, rfl⟩ := e
  have hxl : xs.length = n * 2 := by rw [← h1]; exact cellK.rds_len h4
  rcases a with _ | ad
  · obtain rfl : c = 0 := h3 rfl
    obtain rfl : n = 0 := by omega
    obtain rfl : x = [] := List.length_eq_zero_iff.1 h1
    clear h1 h2 h3 h5 hl
    have HX := Lib.hid h4
    clear h4 hxl
    go_enter Tryd.func79, Tryd.ntmps79
    go_wp2
    go_ret
    exact ⟨none, 0, [], rfl, World.ownsRow_nil _ _ _ _, rfl, Below.refl _ _⟩
  · obtain ⟨i0, hi, hz0, hz1, hz2⟩ := info_parts infoCell
    have hbA : Below w.heap.size w (w.alloc (.cells #[] 41)) := (Below.refl _ _).alloc (Nat.le_refl _) _
    have HX := Lib.hid h4
    have HON := Lib.hid (cell_one h4)
    have HN : Hid (∀ j u, xs[j]? = some u → (w.alloc (.cells #[] 41)).cell? (ad.add j) = some u) := fun j u hu => by
      rcases h5 with h5 | ⟨g, off, ha, hc⟩
      · subst h5
        rw [show xs = [] from h4] at hu
        cases hu
      · cases ha
        have hj : j < xs.length := by
          by_cases hlt : j < xs.length
          · exact hlt
          · rw [List.getElem?_eq_none (by omega)] at hu; cases hu
        have := (hc j hj).trans hu
        rw [Addr.add_lit]
        exact (hbA.cell (World.block_lt_of_cell? _ _ this)).trans this
    have own3 : (w.alloc (.cells #[] 41)).ownsRow w.heap.size 41 2 (.slice (some ⟨w.heap.size, 0, none⟩) 0 0) 0 [] := World.ownsRow_made (base := w.heap.size) (e := 41) (size := 2) w #[] 0 (Nat.le_refl _) (by decide) rfl
    have hS3 : w.heap.size ≤ (w.alloc (.cells #[] 41)).heap.size := by simp
    have hnm : n ≤ 3000000 := by omega
    clear h1 h2 h3 h4 h5 hl
    go_enter Tryd.func79, Tryd.ntmps79
    go_wp2_with (at_builtin; refine wpList_append_own_at _ rfl _ _ 28 rfl w.heap.size 41 i0 (.agg #[.slice none 0 0, .bool false]) 2 32 Tryd.underlying28 hi hz0 hz1 hz2 rfl (by decide) _ 0 [] rfl own3 ad n c xs rfl hxl HN.out HON.out (by unfold maxLen; omega) (by omega) hS3 ?_)
    intro v' w4 hown4 hgrow _ _
    have HB4 : Hid (Below w.heap.size w w4) := hbA.grown hgrow hS3 (fun j hj => by have := Option.some.inj hj; have h2 : w.heap.size = j := this; omega)
    have hsh : ∃ va vc, v' = .slice va n vc := by
      rcases hown4.2 with ⟨rfl, h0⟩ | ⟨g, cap, cur, rfl, _⟩
      · exact ⟨none, 0, by rw [h0]⟩
      · exact ⟨_, cap, rfl⟩
    obtain ⟨va, vc, rfl⟩ := hsh
    have HO4 := Lib.hid hown4
    clear hown4 hgrow own3 hbA hS3
    go_wp2_with fail
    go_ret
    exact ⟨va, vc, xs, rfl, HO4.out, HX.out, HB4.out⟩

set_option maxHeartbeats 8000000 in
theorem implCell_k {a : Option Addr} {n c : Nat} {s : List Int} {p : Bool} {w : World} (h : intsK.rd w [.slice a n c] s) (hl : s.length ≤ 4000000) :
    Calls Tryd.prog 47 #[.agg #[.slice a n c, .bool p]] w (GivesS cellK (s, p) w) := by
  obtain ⟨w1, hw1⟩ : ∃ u, (w.alloc (.cells #[.slice a n c, .bool p] 41)).alloc (.cells #[.slice none 0 0, .bool false] 41) = u := ⟨_, rfl⟩
  have HB1 : Hid (Below w.heap.size w w1) := by subst hw1; exact ((Below.refl _ _).alloc (Nat.le_refl _) _).alloc (by simp) _
  have p1 : w1.heap[w.heap.size]? = some (.cells #[.slice a n c, .bool p] 41) := by subst hw1; exact heap_alloc2_old _ _ _
  have r1 : w1.heap[w.heap.size + 1]? = some (.cells #[.slice none 0 0, .bool false] 41) := by subst hw1; exact heap_alloc2_new _ _ _
  have HR : Hid (intsK.rd w1 [.slice a n c] s) := intsK.below h HB1.out
  obtain ⟨x0, x1⟩ := cells2 p1
  clear h
  go_enter Tryd.func47, Tryd.ntmps47
  go_wp2_with fail
  refine wp_region_float (A := ?A) [.h, .h, .t, .h, .h, .t, .e] (by kernel_rfl) (by kernel_rfl) (fun q => q.cell? ⟨w.heap.size, 0, none⟩ = some (.slice a n c) ∧ q.cell? ⟨w.heap.size, 1, none⟩ = some (.bool p)) ?hC ?hH ?hT
  case hC => exact ⟨x0, x1⟩
  case hH =>
    intro q hq
    obtain ⟨h0, h1⟩ := hq
    have z0 := fun t : Same q => t.cell h0
    have z1 := fun t : Same q => t.cell h1
    simp only [headsOf]
    repeat (go_big_quiet_step (fail))
    refine wpQuiet_nil ?_
    exact rfl
  case hT =>
    simp only [chainT]
    have hdr : Below w1.heap.size w1 w1.drew := ⟨rfl, rfl, rfl, Nat.le_refl _, fun _ _ => rfl⟩
    have HRD : Hid (intsK.rd w1.drew [.slice a n c] s) := intsK.below HR.out hdr
    have HBD : Hid (Below w.heap.size w w1.drew) := HB1.out.trans (hdr.mono HB1.out.size)
    have pd : w1.drew.heap[w.heap.size]? = _ := p1
    have rd : w1.drew.heap[w.heap.size + 1]? = _ := r1
    clear p1 r1 HR HB1 hdr x0 x1
    generalize w1.drew = w2 at *
    go_wp2_with fail
    refine (implCloneN_is HRD.out hl).mono ?_
    rintro e w3 ⟨ya, yc, S, rfl, own3, hS3, hb3⟩
    have HO3 := Lib.hid own3
    have p3 := keep_block hb3 pd (lt_of_block pd)
    have r3 := keep_block hb3 rd (lt_of_block rd)
    have HB3 : Hid (Below w.heap.size w w3) := HBD.out.trans (hb3.mono HBD.out.size)
    have HNR : Hid (∀ b ∈ S, b ≠ w.heap.size + 1 ∧ w.heap.size ≤ b) := fun b hb => by have := hS3 b hb; have := lt_of_block rd; omega
    clear own3 hS3 hb3 pd rd HBD HRD
    obtain ⟨x0, x1⟩ := cells2 p3
    go_wp2_with fail
    refine stepQ_normal ⟨⟨x0, x1⟩, ?_⟩
    go_wp2_with fail
    refine stepQ_normal ⟨⟨x0, x1⟩, ?_⟩
    clear x0 x1
    obtain ⟨y0, y1⟩ := cells2 r3
    have f0 := thawed r3 0
    have f1 := thawed r3 1
    have o4 := set_cells (set_cells r3 0 (.slice ya n yc)) 1 (.bool p)
    obtain ⟨t0, t1⟩ := cells2 o4
    go_wp2_with fail
    refine stepQ_normal ⟨trivial, ?_⟩
    go_wp2_with fail
    (try simp only [Exit.inBlock, Exit.then])
    refine bodyPost_ret (v := .agg #[.slice ya n yc, .bool p]) ?_ rfl ⟨[.slice ya n yc, .bool p], S, rfl, cell_of p ?_, fun b hb => (HNR.out b hb).2, ?_⟩
    · simp [results, Tryd.results47, go_sem, t0, t1]
    · exact intsK.ownSet (intsK.ownSet HO3.out (fun b hb => (HNR.out b hb).1) _) (fun b hb => (HNR.out b hb).1) _
    · exact (HB3.out.setCell (by simp) _).setCell (by simp) _

set_option maxHeartbeats 8000000 in
set_option maxRecDepth 100000 in
theorem implFlip_is {S : List Nat} {a : Option Addr} {n c t U : Nat} {s : List Int} {p : Bool} {w : World} (h : intsK.own w S [.slice a n c] s) (ht : t < s.length) (hn : n ≤ 1000000) (he : El (s.getD t 0)) (hU : U < 16) :
    Calls Tryd.prog 102 #[.agg #[.slice a n c, .bool p], .int .i64 t, .int .i64 U] w fun e w' => e = .returned (.tuple #[]) ∧ intsK.own w' S [.slice a n c] (s.set t (xr (s.getD t 0) U)) ∧ OnlyS S w w' := by
  obtain ⟨l1, _, _, _⟩ := Kn.row_len (intsK.read h)
  obtain ⟨Y0, hY0, hY1⟩ : ∃ Y0 : Nat, s.getD t 0 = (Y0 : Int) ∧ Y0 < 16 := ⟨(s.getD t 0).toNat, by have h1 := he.1; omega, by have h1 := he.1; have h2 := he.2; omega⟩
  obtain ⟨w1, hw1⟩ : ∃ u, w.alloc (.cells #[.slice a n c, .bool p] 41) = u := ⟨_, rfl⟩
  have hb1 : Below w.heap.size w w1 := by subst hw1; exact (Below.refl _ _).alloc (Nat.le_refl _) _
  have p1 : w1.heap[w.heap.size]? = some (.cells #[.slice a n c, .bool p] 41) := hw1 ▸ heap_alloc_new w _
  have O1 := intsK.ownBelow h hb1
  have HO1 := Lib.hid O1
  have HN1 : Hid (OnlyS S w w1) := Below.onlyS hb1
  obtain ⟨gs, os, rfl, hgs, hc, _, _, _⟩ := ints_place O1 ht
  rw [hY0] at hc
  have HADD : Hid (gfAdd (Y0 : Int) (U : Int) = xr (Y0 : Int) U) := by
    show _ = _
    rw [gfAdd_nat hY1 hU]
    rfl
  have hlt : t < n := by omega
  have HYY := Lib.hid hY0
  have HTL := Lib.hid ht
  obtain ⟨x0, x1⟩ := cells2 p1
  have z0 := fun q : Later w1 => q.cell x0
  have z1 := fun q : Later w1 => q.cell x1
  have z2 := fun q : Later w1 => q.cell hc
  clear h O1 hb1 x0 x1 hc p1 l1 he ht hY0
  go_enter Tryd.func102, Tryd.ntmps102
  go_wp2_with fail
  refine wp_region_later_tail 11 (by kernel_rfl) (by kernel_rfl) ?_
  simp only [List.take_succ_cons, List.take_zero, List.drop_succ_cons, List.drop_zero]
  repeat (go_big_quiet_step (first | (go_at_call 111; exact Gives.later _ (implGfAdd_is _ _ _ HADD.out _))))
  refine wpQuiet_nil ?_
  rintro R0 ⟨zz, hz⟩
  have hbR : Below w1.heap.size w1 R0 := hz ▸ zz.ok
  have O2 := intsK.ownBelow HO1.out hbR
  obtain ⟨_, _, e0, _, hc0, hf0, _, hset0⟩ := ints_place O2 HTL.out
  cases e0
  have hR := hset0 (xr (Y0 : Int) U)
  have HR := Lib.hid hR
  have HN2 : Hid (OnlyS S w R0) := HN1.out.trans (Below.onlyS hbR)
  clear z0 z1 z2 hz zz hbR O2 hset0 hR
  go_wp2_with fail
  (try simp only [Exit.inBlock, Exit.then])
  refine bodyPost_end (v := .tuple #[]) (by simp [results, Tryd.results102]) rfl ⟨rfl, by rw [HYY.out]; exact HR.out, HN2.out.setCell hgs _⟩

end Go.Proofs.YtfpfgaifhmgpiaaDoor

namespace Go.Proofs.YtfpfgaifhmgpiaaDoor
open Go.RowKit Go.PlainAid

set_option linter.unusedVariables false

theorem ownsRow_at {w : World} {B n K g cap : Nat} {T : TypeId} {a : Option Addr} {xs : List Value} (h : w.ownsRow B T K (.slice a n cap) n xs) (hn : 0 < n) :
    ∃ g, a = some ⟨g, 0, none⟩ ∧ B ≤ g ∧ g < w.heap.size ∧ (∀ j, w.frozen? ⟨g, j, none⟩ = false) ∧ n ≤ maxLen := by
  rcases h.2 with ⟨hv, h0⟩ | ⟨g, cap', cur, hv, hB, hh, h1, h2, _⟩
  · omega
  · cases hv
    exact ⟨g, rfl, hB, lt_of_block hh, fun j => by simp [World.frozen?, hh], by omega⟩

/-- Two neighbouring cells of a list replaced. -/
theorem set_two {A B : List Value} {c0 c1 u0 u1 : Value} {m : Nat} (hm : A.length = m) : ((A ++ ([c0, c1] ++ B)).set m u0).set (m + 1) u1 = (A ++ [u0, u1]) ++ B := by
  subst hm
  rw [List.set_append_right _ _ (Nat.le_refl _), Nat.sub_self, List.set_append_right _ _ (by omega), Nat.add_sub_cancel_left]
  simp

/-- A row some of whose cells are copies already (blocks S), the others still those of w1. -/
def MixC (w1 wr : World) (B : Nat) (v : Value) (n k : Nat) (x : List (List Int × Bool)) : Prop :=
  ∃ xs1 xs2 S, wr.ownsRow B 41 2 v n (xs1 ++ xs2) ∧ cellK.owns wr S xs1 (x.take k) ∧ cellK.rds w1 xs2 (x.drop k) ∧ S.Nodup ∧ (∀ b ∈ S, B ≤ b) ∧ ∀ g, v.ownBlock = some g → g ∉ S

theorem MixC.below {w1 wr wq : World} {B n k : Nat} {v : Value} {x : List (List Int × Bool)} (h : MixC w1 wr B v n k x) (hb : Below wr.heap.size wr wq) : MixC w1 wq B v n k x := by
  obtain ⟨xs1, xs2, S, h1, h2, h3, h4, h5, h6⟩ := h
  exact ⟨xs1, xs2, S, ownsRow_below h1 hb, cellK.owns_same h2 (fun b hm => hb.block b (cellK.owns_lt h2 b hm)), h3, h4, h5, h6⟩

/-- The place of the next cell. -/
theorem MixC.at {w1 wr : World} {B n k : Nat} {v : Value} {x : List (List Int × Bool)} (h : MixC w1 wr B v n k x) (hx : x.length = n) (hk : k < n) :
    ∃ g cap a m c, v = .slice (some ⟨g, 0, none⟩) n cap ∧ B ≤ g ∧ g < wr.heap.size ∧ (∀ j, wr.frozen? ⟨g, j, none⟩ = false) ∧ wr.cell? ⟨g, k * 2, none⟩ = some (.slice a m c) ∧ wr.cell? ⟨g, k * 2 + 1, none⟩ = some (.bool (x.getD k ([], false)).2) ∧ intsK.rd w1 [.slice a m c] (x.getD k ([], false)).1 := by
  obtain ⟨xs1, xs2, S, h1, h2, h3, h4, h5, h6⟩ := h
  have hc := fun g hg => World.ownsRow.cells h1 (g := g) hg
  have l1 : xs1.length = k * 2 := by
    have := cellK.rds_len (cellK.owns_rds h2)
    rw [List.length_take, Nat.min_eq_left (by omega)] at this
    exact this
  rw [List.drop_eq_getElem_cons (by omega)] at h3
  obtain ⟨c1, c2, rfl, hr, _⟩ := h3
  have e : x.getD k ([], false) = x[k] := by rw [List.getD_eq_getElem?_getD, List.getElem?_eq_getElem (by omega)]; rfl
  rw [e]
  obtain ⟨a, m, c, rfl, hi⟩ := cell_rd hr
  rcases h1.2 with ⟨_, h0⟩ | ⟨g, cap, cur, hv, hB, hh, _⟩
  · omega
  · subst hv
    refine ⟨g, cap, a, m, c, rfl, hB, lt_of_block hh, fun j => by simp [World.frozen?, hh], ?_, ?_, hi⟩
    · have := hc g rfl (k * 2) (.slice a m c) (by rw [List.getElem?_append_right (by omega), l1, Nat.sub_self]; rfl)
      rw [Addr.add_lit, Nat.zero_add] at this
      exact this
    · have := hc g rfl (k * 2 + 1) (.bool x[k].2) (by rw [List.getElem?_append_right (by omega), l1, Nat.add_sub_cancel_left]; rfl)
      rw [Addr.add_lit, Nat.zero_add] at this
      exact this

/-- One cell more copied. -/
theorem MixC.step {w1 w3 wr : World} {B n k g cap m c : Nat} {a : Option Addr} {T : List Nat} {x : List (List Int × Bool)} (h : MixC w1 w3 B (.slice (some ⟨g, 0, none⟩) n cap) n k x) (hb : Below w3.heap.size w3 wr) (hx : x.length = n) (hk : k < n)
    (ho : cellK.own wr T [.slice a m c, .bool (x.getD k ([], false)).2] (x.getD k ([], false))) (hT : ∀ b ∈ T, w3.heap.size ≤ b) (hB : B ≤ w3.heap.size) :
    MixC w1 ((wr.setCell ⟨g, k * 2, none⟩ (.slice a m c)).setCell ⟨g, k * 2 + 1, none⟩ (.bool (x.getD k ([], false)).2)) B (.slice (some ⟨g, 0, none⟩) n cap) n (k + 1) x := by
  obtain ⟨xs1, xs2, S, h1, h2, h3, h4, h5, h6⟩ := h
  have hlt := cellK.owns_lt h2
  have hg3 : g < w3.heap.size := (World.ownsRow.lt h1 g rfl).2
  have hTS : ∀ b ∈ T, b ∉ S := fun b hb hb' => by have := hT b hb; have := hlt b hb'; omega
  have hg : g ∉ T := fun hm => by have := hT g hm; omega
  have h2 := cellK.owns_same h2 (fun b hm => hb.block b (hlt b hm))
  have h1 := ownsRow_below h1 hb
  have e : x.getD k ([], false) = x[k] := by rw [List.getD_eq_getElem?_getD, List.getElem?_eq_getElem (by omega)]; rfl
  rw [e] at ho ⊢
  have l1 : xs1.length = k * 2 := by
    have := cellK.rds_len (cellK.owns_rds h2)
    rw [List.length_take, Nat.min_eq_left (by omega)] at this
    exact this
  rw [List.drop_eq_getElem_cons (by omega)] at h3
  obtain ⟨c1, c2, rfl, hr, h3⟩ := h3
  obtain ⟨a', m', c', rfl, _⟩ := cell_rd hr
  have hgS : g ∉ S := h6 g rfl
  have hne : ∀ b, b ≠ g → ((wr.setCell ⟨g, k * 2, none⟩ (.slice a m c)).setCell ⟨g, k * 2 + 1, none⟩ (.bool x[k].2)).heap[b]? = wr.heap[b]? := fun b hb => (Below.heap_setCell _ _ _ _ hb).trans (Below.heap_setCell _ _ _ _ hb)
  have o1 := (World.ownsRow.stored (World.ownsRow.stored h1 (k * 2) (.slice a m c)).1 (k * 2 + 1) (.bool x[k].2)).1
  rw [set_two l1] at o1
  refine ⟨xs1 ++ [.slice a m c, .bool x[k].2], c2, S ++ T, o1, ?_, h3, ?_, fun b hb => ?_, fun g' hg' => ?_⟩
  · rw [List.take_succ_eq_append_getElem (by omega)]
    refine cellK.owns_same (cellK.owns_snoc ho h2) (fun b hb => hne b (fun e => ?_))
    rcases List.mem_append.1 hb with h | h
    · exact hgS (e ▸ h)
    · exact hg (e ▸ h)
  · rw [List.nodup_append]
    exact ⟨h4, cellK.nodup ho, fun a ha b hb e => hTS b hb (e ▸ ha)⟩
  · rcases List.mem_append.1 hb with h | h
    · exact h5 b h
    · have := hT b h; omega
  · have e2 : g = g' := Option.some.inj hg'
    subst e2
    intro hm
    rcases List.mem_append.1 hm with h | h
    · exact hgS h
    · exact hg h

theorem MixC.start {w1 wr : World} {B n : Nat} {v : Value} {xs : List Value} {x : List (List Int × Bool)} (h : wr.ownsRow B 41 2 v n xs) (hr : cellK.rds w1 xs x) : MixC w1 wr B v n 0 x :=
  ⟨[], xs, [], h, ⟨rfl, rfl⟩, hr, List.nodup_nil, (fun b hb => by cases hb), fun g _ hm => by cases hm⟩

theorem MixC.stop {w1 wr : World} {B n : Nat} {v : Value} {x : List (List Int × Bool)} (h : MixC w1 wr B v n n x) (hx : x.length = n) : ∃ S, cellsK.own wr S [v] x ∧ ∀ b ∈ S, B ≤ b := by
  obtain ⟨xs1, xs2, S, h1, h2, h3, h4, h5, h6⟩ := h
  rw [List.drop_of_length_le (by omega)] at h3
  obtain rfl : xs2 = [] := h3
  rw [List.append_nil] at h1
  rw [List.take_of_length_le (by omega)] at h2
  have hb : cellK.Bld 41 B wr S v x := ⟨xs1, by rw [hx]; exact h1, h2, h4, h5, h6⟩
  exact hb.own

set_option maxHeartbeats 16000000 in
set_option maxRecDepth 100000 in
theorem implCopyA_is {cs : List Value} {x : Arr} {w : World} (h : arrK.rd w cs x) (hf : ArrFit x) :
    Calls Tryd.prog 36 #[.agg cs.toArray] w (GivesS arrK x w) := by
  obtain ⟨a0, n0, c0, a1, n1, c1, a2, n2, c2, rfl, h0, h1, h2⟩ := arr_rd h
  obtain ⟨xl, y, z⟩ := x
  obtain ⟨w1, hw1⟩ : ∃ u, (w.alloc (.cells #[.slice a0 n0 c0, .slice a1 n1 c1, .slice a2 n2 c2] 31)).alloc (.cells #[.slice none 0 0, .slice none 0 0, .slice none 0 0] 31) = u := ⟨_, rfl⟩
  have HB1 : Hid (Below w.heap.size w w1) := by subst hw1; exact ((Below.refl _ _).alloc (Nat.le_refl _) _).alloc (by simp) _
  have p1 : w1.heap[w.heap.size]? = some (.cells #[.slice a0 n0 c0, .slice a1 n1 c1, .slice a2 n2 c2] 31) := by subst hw1; exact heap_alloc2_old _ _ _
  have r1 : w1.heap[w.heap.size + 1]? = some (.cells #[.slice none 0 0, .slice none 0 0, .slice none 0 0] 31) := by subst hw1; exact heap_alloc2_new _ _ _
  have H0 : Hid (cellsK.rd w1 [.slice a0 n0 c0] xl) := cellsK.below h0 HB1.out
  have H1 : Hid (intsK.rd w1 [.slice a1 n1 c1] y) := intsK.below h1 HB1.out
  have H2 : Hid (intsK.rd w1 [.slice a2 n2 c2] z) := intsK.below h2 HB1.out
  have HF : Hid (xl.length ≤ 3000000 ∧ (∀ c ∈ xl, c.1.length ≤ 4000000) ∧ y.length ≤ 4000000 ∧ z.length ≤ 4000000) := hf
  obtain ⟨hnl, _, hnm, _⟩ := Kn.row_len h0
  have HNL : Hid (xl.length = n0) := hnl
  have hn0 : n0 ≤ 3000000 := by have : xl.length = n0 := hnl; have := HF.out.1; omega
  obtain ⟨x0, x1, x2⟩ := cells3 p1
  clear h h0 h1 h2 hf hnl hnm
  go_enter Tryd.func36, Tryd.ntmps36
  go_wp2_with fail
  refine (implCloneC_is H0.out HF.out.1).mono ?_
  rintro e w2 ⟨va, vc, xs, rfl, hown, hrds, hb2⟩
  have HB2 : Hid (Below w.heap.size w w2) := HB1.out.trans (hb2.mono HB1.out.size)
  have p2 := keep_block hb2 p1 (lt_of_block p1)
  have r2 := keep_block hb2 r1 (lt_of_block r1)
  have HM0 : Hid (MixC w1 w2 w1.heap.size (.slice va n0 vc) n0 0 xl) := MixC.start hown hrds
  have HS12 : Hid (w1.heap.size ≤ w2.heap.size) := hb2.size
  have HW1 : Hid (Below w1.heap.size w1 w2) := hb2
  have HS1 : Hid (w.heap.size + 1 < w1.heap.size) := lt_of_block r1
  clear x0 x1 x2 p1 r1 hown hrds hb2 HB1
  go_wp2_with fail
  go_loopw [11] (fun i wr => ∃ k : Nat, k ≤ n0 ∧ i = .int .i64 k ∧ MixC w1 wr w1.heap.size (.slice va n0 vc) n0 k xl ∧ Below w1.heap.size w1 wr ∧ wr.heap[w.heap.size]? = some (.cells #[.slice a0 n0 c0, .slice a1 n1 c1, .slice a2 n2 c2] 31 (0, 0)) ∧ wr.heap[w.heap.size + 1]? = some (.cells #[.slice none 0 0, .slice none 0 0, .slice none 0 0] 31 (0, 0)) ∧ Below w.heap.size w wr) (fun i _ => n0 + 1 - (intOf i).toNat)
  case atStart => exact ⟨0, Nat.zero_le _, rfl, HM0.out, HW1.out, p2, r2, HB2.out⟩
  case round =>
    obtain ⟨k, hk, rfl, hmix, hbw, pr, rr, hbb⟩ := hrel
    have HMX := Lib.hid hmix
    have HBW := Lib.hid hbw
    have HBB := Lib.hid hbb
    clear hmix hbw hbb p2 r2 HM0 HB2 HW1
    by_cases hlt : k < n0
    case pos =>
      have hI : decide ((k : Int) < (n0 : Int)) = true := decide_eq_true (by omega)
      have wk : IntKind.i64.wrap ((k : Int) + 1) = (k : Int) + 1 := IntWalk.i64_in _ (by omega)
      obtain ⟨g, cap, xa, xn, xc, hv, hg1, hg2, hfr, hc0, hc1, hrd⟩ := HMX.out.at HNL.out hlt
      simp only [Value.slice.injEq] at hv
      obtain ⟨rfl, _, rfl⟩ := hv
      have hcm : (xl.getD k ([], false)).1.length ≤ 4000000 := by
        rw [List.getD_eq_getElem?_getD, List.getElem?_eq_getElem (by rw [HNL.out]; exact hlt)]
        exact HF.out.2.1 _ (List.getElem_mem _)
      have HEP : Hid (((xl.getD k ([], false)).1, (xl.getD k ([], false)).2) = xl.getD k ([], false)) := rfl
      obtain ⟨s, hs⟩ : ∃ s, (xl.getD k ([], false)).1 = s := ⟨_, rfl⟩
      obtain ⟨pz, hpz⟩ : ∃ pz, (xl.getD k ([], false)).2 = pz := ⟨_, rfl⟩
      rw [hs] at hcm hrd
      rw [hpz] at hc1
      have HE : Hid (xl.getD k ([], false) = (s, pz)) := by show _ = _; rw [← hs, ← hpz]
      have HGB : Hid (w1.heap.size ≤ g ∧ g < wr.heap.size) := ⟨hg1, hg2⟩
      obtain ⟨w3, hw3⟩ : ∃ u, wr.alloc (.cells #[.slice xa xn xc, .bool pz] 41) = u := ⟨_, rfl⟩
      have hbA : Below wr.heap.size wr w3 := by subst hw3; exact (Below.refl _ _).alloc (Nat.le_refl _) _
      have q3 : w3.heap[wr.heap.size]? = some (.cells #[.slice xa xn xc, .bool pz] 41) := hw3 ▸ heap_alloc_new wr _
      have HRS : Hid (intsK.rd w3 [.slice xa xn xc] s) := intsK.below (intsK.below hrd HBW.out) hbA
      have HM3 := Lib.hid (HMX.out.below hbA)
      have p3 := keep_block hbA pr (lt_of_block pr)
      have r3 := keep_block hbA rr (lt_of_block rr)
      have HB3 : Hid (Below w1.heap.size w1 w3) := HBW.out.trans (hbA.mono HBW.out.size)
      have HC3 : Hid (Below w.heap.size w w3) := HBB.out.trans (hbA.mono HBB.out.size)
      have HG3 : Hid (wr.heap.size ≤ w3.heap.size) := hbA.size
      clear HBW HBB HMX pr rr hs hpz HEP hg1 hg2 hrd hbA
      obtain ⟨e0, e1⟩ := cells2 q3
      go_wp2_with fail
      refine (implCell_k (p := pz) HRS.out hcm).mono ?_
      rintro e w4 ⟨cs4, T4, rfl, own4, hT4, hb4⟩
      obtain ⟨ya, yn, yc, rfl, hi4⟩ := cell_own own4
      have HM4 := HM3.out.below hb4
      obtain ⟨_, _, _, _, _, hv, _, _, hfr4, hd0, hd1, _⟩ := HM4.at HNL.out hlt
      cases hv
      have hpe : (xl.getD k ([], false)).2 = pz := by rw [HE.out]
      have own4' : cellK.own w4 T4 [.slice ya yn yc, .bool pz] (xl.getD k ([], false)) := by rw [HE.out]; exact own4
      have hst : MixC w1 ((w4.setCell ⟨g, k * 2, none⟩ (.slice ya yn yc)).setCell ⟨g, k * 2 + 1, none⟩ (.bool pz)) w1.heap.size (.slice (some ⟨g, 0, none⟩) n0 vc) n0 (k + 1) xl := by
        have := HM3.out.step (a := ya) (m := yn) (c := yc) (T := T4) hb4 HNL.out hlt (by rw [hpe]; exact own4') (fun b hb => hT4 b hb) HB3.out.size
        rw [hpe] at this
        exact this
      have p4 := keep_block hb4 p3 (lt_of_block p3)
      have r4 := keep_block hb4 r3 (lt_of_block r3)
      have HB4 : Below w1.heap.size w1 w4 := HB3.out.trans (hb4.mono HB3.out.size)
      have HC4 : Below w.heap.size w w4 := HC3.out.trans (hb4.mono HC3.out.size)
      have hgp : g ≠ w.heap.size ∧ g ≠ w.heap.size + 1 := by have := HGB.out.1; have := HS1.out; omega
      have HST := Lib.hid hst
      have hb5 : Below w1.heap.size w1 ((w4.setCell ⟨g, k * 2, none⟩ (.slice ya yn yc)).setCell ⟨g, k * 2 + 1, none⟩ (.bool pz)) := (HB4.setCell HGB.out.1 _).setCell HGB.out.1 _
      have HB5 := Lib.hid hb5
      have HC5 : Hid (Below w.heap.size w ((w4.setCell ⟨g, k * 2, none⟩ (.slice ya yn yc)).setCell ⟨g, k * 2 + 1, none⟩ (.bool pz))) := (HC4.setCell (by have := HGB.out.1; have := HS1.out; show _ ≤ g; omega) _).setCell (by have := HGB.out.1; have := HS1.out; show _ ≤ g; omega) _
      have p5 := Lib.hid (keep_set (p := ⟨g, k * 2 + 1, none⟩) (v := .bool pz) (keep_set (p := ⟨g, k * 2, none⟩) (v := .slice ya yn yc) p4 (fun e => hgp.1 e.symm)) (fun e => hgp.1 e.symm))
      have r5 := Lib.hid (keep_set (p := ⟨g, k * 2 + 1, none⟩) (v := .bool pz) (keep_set (p := ⟨g, k * 2, none⟩) (v := .slice ya yn yc) r4 (fun e => hgp.2 e.symm)) (fun e => hgp.2 e.symm))
      have f0 := hfr4 (k * 2)
      have f1 := hfr4 (k * 2 + 1)
      clear p4 r4 p3 r3 HB4 HC4 hgp hst hb5 HM4 HM3 HB3 HC3 hfr4 hfr hi4 own4 own4' hT4 hb4 q3 e0 e1 hc0 hc1
      go_wp2_with fail
      go_roundw
      case rel => exact ⟨k + 1, by omega, by go_num, HST.out, HB5.out, p5.out, r5.out, HC5.out⟩
      case measure => simp [intOf]; omega
    obtain rfl : k = n0 := by omega
    have hI : decide ((k : Int) < (k : Int)) = false := decide_eq_false (by omega)
    obtain ⟨S0, own0, hS0⟩ := HMX.out.stop HNL.out
    have HO := Lib.hid own0
    have HS := Lib.hid hS0
    have Hr1 : Hid (intsK.rd wr [.slice a1 n1 c1] y) := intsK.below H1.out HBW.out
    have Hr2 : Hid (intsK.rd wr [.slice a2 n2 c2] z) := intsK.below H2.out HBW.out
    have HSZ : Hid (w1.heap.size ≤ wr.heap.size) := HBW.out.size
    clear own0 hS0 HMX HBW H1 H2
    obtain ⟨x0, x1, x2⟩ := cells3 pr
    go_wp2_with fail
    refine wp_region_float (A := ?A) [.h, .h, .h, .t, .h, .h, .t, .t, .e] (by kernel_rfl) (by kernel_rfl) (fun q => q.cell? ⟨w.heap.size, 0, none⟩ = some (.slice a0 k c0) ∧ q.cell? ⟨w.heap.size, 1, none⟩ = some (.slice a1 n1 c1) ∧ q.cell? ⟨w.heap.size, 2, none⟩ = some (.slice a2 n2 c2)) ?hC ?hH ?hT
    case hC => exact ⟨x0, x1, x2⟩
    case hH =>
      intro q hq
      obtain ⟨h0, h1, h2⟩ := hq
      have z0 := fun t : Same q => t.cell h0
      have z1 := fun t : Same q => t.cell h1
      have z2 := fun t : Same q => t.cell h2
      simp only [headsOf]
      repeat (go_big_quiet_step (fail))
      refine wpQuiet_nil ?_
      exact rfl
    case hT =>
      simp only [chainT]
      have hdr : Below wr.heap.size wr wr.drew := ⟨rfl, rfl, rfl, Nat.le_refl _, fun _ _ => rfl⟩
      have HO2 := Lib.hid (cellsK.ownBelow HO.out hdr)
      have Hd1 := Lib.hid (intsK.below Hr1.out hdr)
      have Hd2 := Lib.hid (intsK.below Hr2.out hdr)
      have HBD : Hid (Below w.heap.size w wr.drew) := HBB.out.trans (hdr.mono HBB.out.size)
      have HZD : Hid (w1.heap.size ≤ wr.drew.heap.size) := HSZ.out
      have pd : wr.drew.heap[w.heap.size]? = _ := pr
      have rd : wr.drew.heap[w.heap.size + 1]? = _ := rr
      clear pr rr HO Hr1 Hr2 HBB HSZ hdr x0 x1 x2
      generalize wr.drew = u0 at *
      go_wp2_with fail
      refine (implCloneN_is Hd1.out HF.out.2.2.1).mono ?_
      rintro e u1 ⟨ya, yc, S1, rfl, own1, hS1, hb1⟩
      have O0 := Lib.hid (cellsK.ownBelow HO2.out hb1)
      have O1 := Lib.hid own1
      have E2 := Lib.hid (intsK.below Hd2.out hb1)
      have p3 := keep_block hb1 pd (lt_of_block pd)
      have r3 := keep_block hb1 rd (lt_of_block rd)
      have HB3 : Hid (Below w.heap.size w u1) := HBD.out.trans (hb1.mono HBD.out.size)
      have HL0 : Hid (∀ b ∈ S0, b < u0.heap.size) := fun b hb => cellsK.lt HO2.out b hb
      have HL1 : Hid (∀ b ∈ S1, u0.heap.size ≤ b ∧ b < u1.heap.size) := fun b hb => ⟨hS1 b hb, intsK.lt own1 b hb⟩
      have HU1 : Hid (u0.heap.size ≤ u1.heap.size) := hb1.size
      clear own1 hS1 hb1 pd rd HBD HO2 Hd1 Hd2
      obtain ⟨x0, x1, x2⟩ := cells3 p3
      go_wp2_with fail
      refine stepQ_normal ⟨⟨x0, x1, x2⟩, ?_⟩
      go_wp2_with fail
      refine (implCloneN_is E2.out HF.out.2.2.2).mono ?_
      rintro e u2 ⟨za, zc, S2, rfl, own2, hS2, hb2⟩
      have Q0 := Lib.hid (cellsK.ownBelow O0.out hb2)
      have Q1 := Lib.hid (intsK.ownBelow O1.out hb2)
      have Q2 := Lib.hid own2
      have p4 := keep_block hb2 p3 (lt_of_block p3)
      have r4 := keep_block hb2 r3 (lt_of_block r3)
      have HB4 : Hid (Below w.heap.size w u2) := HB3.out.trans (hb2.mono HB3.out.size)
      have HL2 : Hid (∀ b ∈ S2, u1.heap.size ≤ b) := hS2
      clear own2 hS2 hb2 p3 r3 HB3 O0 O1 E2 x0 x1 x2
      have HND : Hid ((S0 ++ (S1 ++ S2)).Nodup) := nodup_of (cellsK.nodup Q0.out) (intsK.nodup Q1.out) (intsK.nodup Q2.out) (fun b hb hb' => by have := HL0.out b hb'; have := (HL1.out b hb).1; omega) (fun b hb hb' => by have := HL0.out b hb'; have := HL2.out b hb; have := HU1.out; omega) (fun b hb hb' => by have := HL2.out b hb; have := (HL1.out b hb').2; omega)
      have HGE : Hid (∀ b ∈ S0 ++ (S1 ++ S2), w1.heap.size ≤ b) := fun b hb => by
        rcases List.mem_append.1 hb with h | h
        · exact HS.out b h
        · rcases List.mem_append.1 h with h | h
          · have := (HL1.out b h).1; have := HZD.out; omega
          · have := HL2.out b h; have := HU1.out; have := HZD.out; omega
      have HOA : Hid (arrK.own u2 (S0 ++ (S1 ++ S2)) [.slice va k vc, .slice ya n1 yc, .slice za n2 zc] (xl, y, z)) := arr_of Q0.out Q1.out Q2.out HND.out
      generalize S0 ++ (S1 ++ S2) = T at HOA HGE
      obtain ⟨x0, x1, x2⟩ := cells3 p4
      go_wp2_with fail
      refine stepQ_normal ⟨⟨x0, x1, x2⟩, ?_⟩
      go_wp2_with fail
      refine stepQ_normal ⟨⟨x0, x1, x2⟩, ?_⟩
      clear x0 x1 x2
      obtain ⟨y0, y1, y2⟩ := cells3 r4
      have f0 := thawed r4 0
      have f1 := thawed r4 1
      have f2 := thawed r4 2
      have o5 := set_cells (set_cells (set_cells r4 0 (.slice va k vc)) 1 (.slice ya n1 yc)) 2 (.slice za n2 zc)
      obtain ⟨t0, t1, t2⟩ := cells3 o5
      have HNR : Hid (∀ b ∈ T, b ≠ w.heap.size + 1) := fun b hb => by have := HGE.out b hb; have := HS1.out; omega
      go_wp2_with fail
      refine stepQ_normal ⟨trivial, ?_⟩
      go_wp2_with fail
      (try simp only [Exit.inBlock, Exit.then])
      refine bodyPost_ret (v := .agg #[.slice va k vc, .slice ya n1 yc, .slice za n2 zc]) ?_ rfl ⟨_, T, rfl, ?_, fun b hb => ?_, ?_⟩
      · simp [results, Tryd.results36, go_sem, t0, t1, t2]
      · exact arrK.ownSet (arrK.ownSet (arrK.ownSet HOA.out (fun b hb => HNR.out b hb) _) (fun b hb => HNR.out b hb) _) (fun b hb => HNR.out b hb) _
      · have := HGE.out b hb; have := HS1.out; omega
      · exact ((HB4.out.setCell (by simp) _).setCell (by simp) _).setCell (by simp) _

end Go.Proofs.YtfpfgaifhmgpiaaDoor

namespace Go.Proofs.YtfpfgaifhmgpiaaDoor
open Go.RowKit Go.PlainAid

set_option linter.unusedVariables false

theorem implBad_is (a : Int) (v : Bool) (hv : (!decide (El a)) = v) (w : World) :
    Calls Tryd.prog 104 #[.int .i64 a] w (Says (.bool v) w) := by
  obtain ⟨u, hu⟩ : ∃ u, decide (El a) = u := ⟨_, rfl⟩
  have HE : Hid ((!u) = v) := by show _ = _; rw [← hu]; exact hv
  have HU := Lib.hid hu
  clear hu hv
  go_enter Tryd.func104, Tryd.ntmps104
  go_wp2_with fail
  refine (implIsEl_is a u HU.out _).mono ?_
  rintro e w2 ⟨rfl, rfl⟩
  go_wp2_with fail
  go_ret
  exact ⟨ret_b HE.out, rfl⟩

set_option maxHeartbeats 1000000 in
set_option maxRecDepth 100000 in
theorem implIndexBad_is {a : Option Addr} {n c : Nat} {l : List Int} (hn : l.length = n) (hl : n ≤ 3000000) {w : World} (h : RowI w a l) (v : Bool) (hv : decide (Els l) = v) :
    Calls Tryd.prog 112 #[.slice a n c, .func (.func 104) #[] #[]] w fun e w' => ∃ i : Int, e = .returned (.int .i64 i) ∧ decide (0 ≤ i) = (!v) ∧ w = w' := by
  have HN := Lib.hid hn
  have HA := Lib.hid h
  have HV := Lib.hid hv
  have hl2 : (n : Int) ≤ 9223372036854775807 := by omega
  clear hn h hv
  go_enter Tryd.func112, Tryd.ntmps112
  go_wp2_with fail
  go_loopw [8] (fun i wr => ∃ k : Nat, k ≤ n ∧ i = .int .i64 k ∧ Els (l.take k) ∧ wr = w) (fun i _ => n - (intOf i).toNat)
  case atStart => exact ⟨0, Nat.zero_le _, rfl, (fun v hv => by cases hv), rfl⟩
  case round =>
    obtain ⟨k, hk, rfl, hels, rfl⟩ := hrel
    have HE := Lib.hid hels
    clear hels
    by_cases hlt : k < n
    · obtain ⟨ga, oa, rfl, hca⟩ := HA.out.at (k := k) (by rw [HN.out]; exact hlt)
      obtain ⟨x, hx⟩ : ∃ x, l.getD k 0 = x := ⟨_, rfl⟩
      rw [hx] at hca
      by_cases he : El x
      · have HS := Lib.hid (els_take (by rw [HN.out]; exact hlt) HE.out (hx ▸ he))
        have KA : Hid ((!decide (El x)) = false) := by show _ = _; rw [decide_eq_true he]; rfl
        clear hx he
        go_wp2_with fail
        refine (implBad_is x false KA.out _).mono ?_
        rintro e w2 ⟨rfl, rfl⟩
        go_wp2_with fail
        go_roundw
        case rel => exact ⟨k + 1, by omega, by go_num, HS.out, by trivial⟩
        case measure => simp [intOf]; omega
      · have HF : Hid (false = v) := by show _ = _; rw [← HV.out]; exact (decide_eq_false (fun q => he (hx ▸ el_getD q (by rw [HN.out]; exact hlt)))).symm
        have KA : Hid ((!decide (El x)) = true) := by show _ = _; rw [decide_eq_false he]; rfl
        clear hx he
        go_wp2_with fail
        refine (implBad_is x true KA.out _).mono ?_
        rintro e w2 ⟨rfl, rfl⟩
        go_wp2_with fail
        go_ret
        exact ⟨_, rfl, by rw [← HF.out]; exact decide_eq_true (by omega), rfl⟩
    · obtain rfl : k = n := by omega
      have HF : Hid (true = v) := by
        show _ = _
        rw [← HV.out]
        have := HE.out
        rw [List.take_of_length_le (by rw [HN.out]; omega)] at this
        exact (decide_eq_true this).symm
      go_wp2_with fail
      go_ret
      exact ⟨_, rfl, by rw [← HF.out]; rfl, rfl⟩

theorem implContainsBad_is {a : Option Addr} {n c : Nat} {l : List Int} (hn : l.length = n) (hl : n ≤ 3000000) {w : World} (h : RowI w a l) (v : Bool) (hv : decide (Els l) = v) :
    Calls Tryd.prog 103 #[.slice a n c, .func (.func 104) #[] #[]] w (Says (.bool (!v)) w) := by
  have HN := Lib.hid hn
  have HA := Lib.hid h
  have HV := Lib.hid hv
  clear hn h hv
  go_enter Tryd.func103, Tryd.ntmps103
  go_wp2_with fail
  refine (implIndexBad_is HN.out hl HA.out v HV.out).mono ?_
  rintro e w2 ⟨i, rfl, hi, rfl⟩
  have HI := Lib.hid hi
  clear hi
  go_wp2_with fail
  go_ret
  exact ⟨ret_b HI.out, rfl⟩

theorem implSymbolsOk_is : ISymbolsOk := by
  intro a n c l m v hv hn hl hc w h
  by_cases hm : (n : Int) = m
  case neg =>
    have tm : ((n : Int) == m) = false := by simpa using hm
    obtain rfl : v = false := by rw [← hv]; exact decide_eq_false fun q => hm (by rw [← hn]; exact q.2)
    clear hv h hm hn
    go_enter Tryd.func83, Tryd.ntmps83
    go_wp2_with fail
    go_ret
    exact ⟨rfl, Below.refl _ _⟩
  have HE : Hid (decide (Els l) = v) := by
    show _ = _
    rw [← hv]
    exact decide_eq_decide.mpr ⟨fun q => ⟨q, by rw [hn]; exact hm⟩, fun q => q.1⟩
  have HN := Lib.hid hn
  have HA := Lib.hid h
  clear hv hn h
  subst hm
  have tm : ((n : Int) == (n : Int)) = true := by simp
  go_enter Tryd.func83, Tryd.ntmps83
  go_wp2_with fail
  refine (implContainsBad_is HN.out hl HA.out v HE.out).mono ?_
  rintro e w2 ⟨rfl, rfl⟩
  go_wp2_with fail
  go_ret
  exact ⟨rfl, Below.refl _ _⟩

end Go.Proofs.YtfpfgaifhmgpiaaDoor

namespace Go.Proofs.YtfpfgaifhmgpiaaDoor
open Go.RowKit Go.PlainAid

set_option linter.unusedVariables false

theorem implSym11_is {a : Option Addr} {n c : Nat} {l : List Int} {w : World} (h : intsK.rd w [.slice a n c] l) (v : Bool) (hv : decide (SymOk l 11) = v) :
    Calls Tryd.prog 83 #[.slice a n c, .int .i64 11] w (Gives (.bool v) w) := by
  obtain ⟨h1, h2, h3, h4⟩ := Kn.row_len h
  unfold maxLen at h3
  by_cases hm : n = 11
  · exact implSymbolsOk_is a n c l 11 v hv h1 (by omega) h2 w (ints_row h)
  · have tm : ((n : Int) == 11) = false := by rw [beq_eq_false_iff_ne]; omega
    obtain rfl : v = false := by rw [← hv]; exact decide_eq_false fun q => hm (by have : (l.length : Int) = 11 := q.2; omega)
    clear hv h hm h1 h2 h4
    go_enter Tryd.func83, Tryd.ntmps83
    go_wp2_with fail
    go_ret
    exact ⟨rfl, Below.refl _ _⟩

set_option maxHeartbeats 4000000 in
set_option maxRecDepth 100000 in
theorem implCellsFit_is (ga gb gr gd : Int) {a : Option Addr} {n c : Nat} {x : List (List Int × Bool)} {w : World} (h : cellsK.rd w [.slice a n c] x) (v : Bool) (hv : decide ((x.length : Int) = lineN ga gb gr gd ∧ ∀ q ∈ x, SymOk q.1 11) = v) :
    Calls Tryd.prog 41 #[.agg #[.int .i64 ga, .int .i64 gb, .int .i64 gr, .int .i64 gd], .slice a n c] w (Gives (.bool v) w) := by
  obtain ⟨l0, _, m0, _⟩ := Kn.row_len h
  unfold maxLen at m0
  obtain ⟨w1, hw1⟩ : ∃ u, w.alloc (.cells #[.int .i64 ga, .int .i64 gb, .int .i64 gr, .int .i64 gd] 25) = u := ⟨_, rfl⟩
  have HB1 : Hid (Below w.heap.size w w1) := by subst hw1; exact (Below.refl _ _).alloc (Nat.le_refl _) _
  have g1 : w1.heap[w.heap.size]? = some (.cells #[.int .i64 ga, .int .i64 gb, .int .i64 gr, .int .i64 gd] 25) := hw1 ▸ heap_alloc_new w _
  have H1 : Hid (cellsK.rd w1 [.slice a n c] x) := cellsK.below h HB1.out
  have HL0 : Hid (x.length = n) := l0
  obtain ⟨L, hL⟩ : ∃ L, lineN ga gb gr gd = L := ⟨_, rfl⟩
  have HLN := Lib.hid hL
  rw [hL, l0] at hv
  have HV := Lib.hid hv
  have hLr := lineN_range ga gb gr gd
  rw [hL] at hLr
  clear h hv l0 hL
  obtain ⟨x0, x1, x2, x3⟩ := cells4 g1
  by_cases hn : (n : Int) = L
  case neg =>
    have t0 : ((n : Int) != L) = true := by rw [bne_iff_ne]; exact hn
    have HE : Hid (false = v) := by show _ = _; rw [← HV.out]; exact (decide_eq_false (fun h => hn h.1)).symm
    clear hn hLr
    go_enter Tryd.func41, Tryd.ntmps41
    go_wp2_with fail
    refine (implLine_is ga gb gr gd L HLN.out _).mono ?_
    rintro e w2 ⟨rfl, hb2⟩
    have HB2 : Hid (Below w.heap.size w w2) := HB1.out.trans (hb2.mono HB1.out.size)
    clear hb2 x0 x1 x2 x3 g1
    go_wp2_with fail
    go_ret
    exact ⟨ret_b HE.out, HB2.out⟩
  have t0 : ((n : Int) != L) = false := by rw [bne_eq_false_iff_eq]; exact hn
  have hn0 : (n : Int) ≤ 1024 := by omega
  have HV2 : Hid (decide (∀ q ∈ x, SymOk q.1 11) = v) := by
    show _ = _
    rw [← HV.out]
    exact decide_eq_decide.2 ⟨fun h => ⟨hn, h⟩, fun h => h.2⟩
  clear hn hLr HV
  go_enter Tryd.func41, Tryd.ntmps41
  go_wp2_with fail
  refine (implLine_is ga gb gr gd L HLN.out _).mono ?_
  rintro e w2 ⟨rfl, hb2⟩
  have HB2 : Hid (Below w.heap.size w w2) := HB1.out.trans (hb2.mono HB1.out.size)
  have H2 : Hid (cellsK.rd w2 [.slice a n c] x) := cellsK.below H1.out hb2
  clear hb2 x0 x1 x2 x3 g1 H1 HB1
  go_wp2_with fail
  go_loopw [14] (fun i wr => ∃ k : Nat, k ≤ n ∧ i = .int .i64 k ∧ (∀ q ∈ x.take k, SymOk q.1 11) ∧ Below w2.heap.size w2 wr) (fun i _ => n + 1 - (intOf i).toNat)
  case atStart => exact ⟨0, Nat.zero_le _, rfl, by simp, Below.refl _ _⟩
  case round =>
    obtain ⟨k, hk, rfl, hall, hbw⟩ := hrel
    have HALL := Lib.hid hall
    have HBW := Lib.hid hbw
    have HBX : Hid (Below w.heap.size w wr) := HB2.out.trans (hbw.mono HB2.out.size)
    clear hall hbw
    by_cases hlt : k < n
    case neg =>
      obtain rfl : k = n := by omega
      have hI : decide ((k : Int) < (k : Int)) = false := decide_eq_false (by omega)
      have HE : Hid (true = v) := by
        show _ = _
        rw [← HV2.out]
        have := HALL.out
        rw [List.take_of_length_le (by rw [HL0.out]; exact Nat.le_refl _)] at this
        exact (decide_eq_true this).symm
      go_wp2_with fail
      go_ret
      exact ⟨ret_b HE.out, HBX.out⟩
    have hI : decide ((k : Int) < (n : Int)) = true := decide_eq_true (by omega)
    have wk : IntKind.i64.wrap ((k : Int) + 1) = (k : Int) + 1 := IntWalk.i64_in _ (by omega)
    have hkl : k < x.length := by rw [HL0.out]; exact hlt
    obtain ⟨g, off, ds, rfl, hcell, hel⟩ := Kn.row_at (cellsK.below H2.out HBW.out) hkl
    have HNX : Hid (SymOk x[k].1 11 → ∀ q ∈ x.take (k + 1), SymOk q.1 11) := fun h => all_take hkl HALL.out h
    have HNO : Hid (¬ SymOk x[k].1 11 → false = v) := fun h => by rw [← HV2.out]; exact (decide_eq_false (fun hh => h (hh _ (List.getElem_mem _)))).symm
    generalize x[k] = xk at hel HNX HNO
    obtain ⟨s, p⟩ := xk
    obtain ⟨xa, xn, xc, rfl, hs⟩ := cell_rd hel
    have b0 : wr.cell? ⟨g, off + k * 2, none⟩ = some (.slice xa xn xc) := hcell 0 (by decide)
    have b1 : wr.cell? ⟨g, off + k * 2 + 1, none⟩ = some (.bool p) := hcell 1 (by decide)
    obtain ⟨w3, hw3⟩ : ∃ u, wr.alloc (.cells #[.slice xa xn xc, .bool p] 41) = u := ⟨_, rfl⟩
    have hbA : Below wr.heap.size wr w3 := by subst hw3; exact (Below.refl _ _).alloc (Nat.le_refl _) _
    have q3 : w3.heap[wr.heap.size]? = some (.cells #[.slice xa xn xc, .bool p] 41) := hw3 ▸ heap_alloc_new wr _
    have HSR : Hid (intsK.rd w3 [.slice xa xn xc] s) := intsK.below hs hbA
    have HB3 : Hid (Below w2.heap.size w2 w3) := HBW.out.trans (hbA.mono HBW.out.size)
    have HB4 : Hid (Below w.heap.size w w3) := HBX.out.trans (hbA.mono HBX.out.size)
    clear hcell hel hs hbA HBX HBW
    obtain ⟨e0, e1⟩ := cells2 q3
    by_cases hok : SymOk s 11
    case neg =>
      have KS := Lib.hid (decide_eq_false hok)
      have HE := Lib.hid (HNO.out hok)
      clear hok
      go_wp2_with fail
      refine (implSym11_is HSR.out false KS.out).mono ?_
      rintro e w5 ⟨rfl, hb5⟩
      have HB5 : Hid (Below w.heap.size w w5) := HB4.out.trans (hb5.mono HB4.out.size)
      clear hb5 e0 e1 q3
      go_wp2_with fail
      go_ret
      exact ⟨ret_b HE.out, HB5.out⟩
    have KS := Lib.hid (decide_eq_true hok)
    have HNX2 := Lib.hid (HNX.out hok)
    clear hok
    go_wp2_with fail
    refine (implSym11_is HSR.out true KS.out).mono ?_
    rintro e w5 ⟨rfl, hb5⟩
    have HB5 : Hid (Below w2.heap.size w2 w5) := HB3.out.trans (hb5.mono HB3.out.size)
    clear hb5 e0 e1 q3
    go_wp2_with fail
    go_roundw
    case rel => exact ⟨k + 1, by omega, by go_num, HNX2.out, HB5.out⟩
    case measure => simp [intOf]; omega

set_option maxHeartbeats 1000000 in
theorem implRowCount_is (ga gb gr gd v : Int) (hv : bankN ga gb gr gd * gr = v) (hr : 0 ≤ v ∧ v ≤ 128) (w : World) :
    Calls Tryd.prog 52 #[.agg #[.int .i64 ga, .int .i64 gb, .int .i64 gr, .int .i64 gd]] w (Gives (.int .i64 v) w) := by
  obtain ⟨w1, hw1⟩ : ∃ u, w.alloc (.cells #[.int .i64 ga, .int .i64 gb, .int .i64 gr, .int .i64 gd] 25) = u := ⟨_, rfl⟩
  have HB1 : Hid (Below w.heap.size w w1) := by subst hw1; exact (Below.refl _ _).alloc (Nat.le_refl _) _
  have g1 : w1.heap[w.heap.size]? = some (.cells #[.int .i64 ga, .int .i64 gb, .int .i64 gr, .int .i64 gd] 25) := hw1 ▸ heap_alloc_new w _
  obtain ⟨N, hN⟩ : ∃ N, bankN ga gb gr gd = N := ⟨_, rfl⟩
  have HN := Lib.hid hN
  rw [hN] at hv
  have wR : IntKind.i64.wrap (N * gr) = v := by rw [hv]; exact IntWalk.i64_in _ (by omega)
  obtain ⟨x0, x1, x2, x3⟩ := cells4 g1
  have z0 := fun q : Later w1 => q.cell x0
  have z1 := fun q : Later w1 => q.cell x1
  have z2 := fun q : Later w1 => q.cell x2
  have z3 := fun q : Later w1 => q.cell x3
  clear hN hv x0 x1 x2 x3
  go_enter Tryd.func52, Tryd.ntmps52
  go_wp2_with fail
  refine wp_region_later (by kernel_rfl) (by kernel_rfl) ?_
  repeat (go_big_quiet_step (first | (go_at_call 90; exact Gives.later _ (implBank_is _ _ _ _ _ HN.out _))))
  refine wpQuiet_nil ?_
  rintro w2 ⟨zz, hz⟩
  have hb2 : Below w1.heap.size w1 w2 := hz ▸ zz.ok
  have HB2 : Hid (Below w.heap.size w w2) := HB1.out.trans (hb2.mono HB1.out.size)
  clear hb2 hz zz z0 z1 z2 z3
  go_wp2_with fail
  go_ret
  exact ⟨rfl, HB2.out⟩

set_option maxHeartbeats 4000000 in
set_option maxRecDepth 100000 in
theorem implNumbersFit_is (ga gb gr gd R : Int) (hR : bankN ga gb gr gd * gr = R) (hRr : 0 ≤ R ∧ R ≤ 128) {a : Option Addr} {n c : Nat} {x : List Int} {w : World} (h : intsK.rd w [.slice a n c] x) (v : Bool) (hv : decide ((x.length : Int) = R ∧ ∀ q ∈ x, AgeOk q) = v) :
    Calls Tryd.prog 42 #[.agg #[.int .i64 ga, .int .i64 gb, .int .i64 gr, .int .i64 gd], .slice a n c] w (Gives (.bool v) w) := by
  obtain ⟨l0, _, m0, _⟩ := Kn.row_len h
  unfold maxLen at m0
  obtain ⟨w1, hw1⟩ : ∃ u, w.alloc (.cells #[.int .i64 ga, .int .i64 gb, .int .i64 gr, .int .i64 gd] 25) = u := ⟨_, rfl⟩
  have HB1 : Hid (Below w.heap.size w w1) := by subst hw1; exact (Below.refl _ _).alloc (Nat.le_refl _) _
  have g1 : w1.heap[w.heap.size]? = some (.cells #[.int .i64 ga, .int .i64 gb, .int .i64 gr, .int .i64 gd] 25) := hw1 ▸ heap_alloc_new w _
  have H1 : Hid (intsK.rd w1 [.slice a n c] x) := intsK.below h HB1.out
  have HL0 : Hid (x.length = n) := l0
  rw [l0] at hv
  have HV := Lib.hid hv
  have HRR := Lib.hid hR
  clear h hv l0 hR
  obtain ⟨x0, x1, x2, x3⟩ := cells4 g1
  by_cases hn : (n : Int) = R
  case neg =>
    have t0 : ((n : Int) != R) = true := by rw [bne_iff_ne]; exact hn
    have HE : Hid (false = v) := by show _ = _; rw [← HV.out]; exact (decide_eq_false (fun h => hn h.1)).symm
    clear hn
    go_enter Tryd.func42, Tryd.ntmps42
    go_wp2_with fail
    refine (implRowCount_is ga gb gr gd R HRR.out hRr _).mono ?_
    rintro e w2 ⟨rfl, hb2⟩
    have HB2 : Hid (Below w.heap.size w w2) := HB1.out.trans (hb2.mono HB1.out.size)
    clear hb2 x0 x1 x2 x3 g1
    go_wp2_with fail
    go_ret
    exact ⟨ret_b HE.out, HB2.out⟩
  have t0 : ((n : Int) != R) = false := by rw [bne_eq_false_iff_eq]; exact hn
  have hn0 : (n : Int) ≤ 128 := by omega
  have HV2 : Hid (decide (∀ q ∈ x, AgeOk q) = v) := by
    show _ = _
    rw [← HV.out]
    exact decide_eq_decide.2 ⟨fun h => ⟨hn, h⟩, fun h => h.2⟩
  clear hn HV
  go_enter Tryd.func42, Tryd.ntmps42
  go_wp2_with fail
  refine (implRowCount_is ga gb gr gd R HRR.out hRr _).mono ?_
  rintro e w2 ⟨rfl, hb2⟩
  have HB2 : Hid (Below w.heap.size w w2) := HB1.out.trans (hb2.mono HB1.out.size)
  have H2 : Hid (intsK.rd w2 [.slice a n c] x) := intsK.below H1.out hb2
  clear hb2 x0 x1 x2 x3 g1 H1 HB1
  go_wp2_with fail
  go_loopw [14] (fun i wr => ∃ k : Nat, k ≤ n ∧ i = .int .i64 k ∧ (∀ q ∈ x.take k, AgeOk q) ∧ wr = w2) (fun i _ => n + 1 - (intOf i).toNat)
  case atStart => exact ⟨0, Nat.zero_le _, rfl, by simp, by trivial⟩
  case round =>
    obtain ⟨k, hk, rfl, hall, rfl⟩ := hrel
    have HALL := Lib.hid hall
    clear hall
    by_cases hlt : k < n
    case neg =>
      obtain rfl : k = n := by omega
      have hI : decide ((k : Int) < (k : Int)) = false := decide_eq_false (by omega)
      have HE : Hid (true = v) := by
        show _ = _
        rw [← HV2.out]
        have := HALL.out
        rw [List.take_of_length_le (by rw [HL0.out]; exact Nat.le_refl _)] at this
        exact (decide_eq_true this).symm
      go_wp2_with fail
      go_ret
      exact ⟨ret_b HE.out, HB2.out⟩
    have hI : decide ((k : Int) < (n : Int)) = true := decide_eq_true (by omega)
    have wk : IntKind.i64.wrap ((k : Int) + 1) = (k : Int) + 1 := IntWalk.i64_in _ (by omega)
    have hkl : k < x.length := by rw [HL0.out]; exact hlt
    obtain ⟨g, off, rfl, hc⟩ := (ints_row H2.out).at hkl
    have ey : x.getD k 0 = x[k] := by rw [List.getD_eq_getElem?_getD, List.getElem?_eq_getElem hkl]; rfl
    rw [ey] at hc
    have HNX : Hid (AgeOk x[k] → ∀ q ∈ x.take (k + 1), AgeOk q) := fun h => all_take hkl HALL.out h
    have HNO : Hid (¬ AgeOk x[k] → false = v) := fun h => by rw [← HV2.out]; exact (decide_eq_false (fun hh => h (hh _ (List.getElem_mem _)))).symm
    generalize x[k] = q at hc HNX HNO
    clear ey
    by_cases h0 : q < 0
    case pos =>
      have d0 : decide (q < 0) = true := decide_eq_true h0
      have HE := Lib.hid (HNO.out (fun h => absurd h.1 (by omega)))
      clear h0
      go_wp2_with fail
      go_ret
      exact ⟨ret_b HE.out, HB2.out⟩
    have d0 : decide (q < 0) = false := decide_eq_false h0
    by_cases h1 : 100000 < q
    case pos =>
      have d1 : decide (100000 < q) = true := decide_eq_true h1
      have HE := Lib.hid (HNO.out (fun h => absurd h.2 (by omega)))
      clear h0 h1
      go_wp2_with fail
      go_ret
      exact ⟨ret_b HE.out, HB2.out⟩
    have d1 : decide (100000 < q) = false := decide_eq_false h1
    have HNX2 := Lib.hid (HNX.out ⟨by omega, by omega⟩)
    clear h0 h1
    go_wp2_with fail
    go_roundw
    case rel => exact ⟨k + 1, by omega, by go_num, HNX2.out, by trivial⟩
    case measure => simp [intOf]; omega

set_option maxHeartbeats 8000000 in
set_option maxRecDepth 100000 in
theorem implArrayOk_is : IArrayOk := by
  intro ga gb gr gd cs x v hv w h hf
  obtain ⟨a0, n0, c0, a1, n1, c1, a2, n2, c2, rfl, h0, h1, h2⟩ := arr_rd h
  obtain ⟨x, y, z⟩ := x
  obtain ⟨w1, hw1⟩ : ∃ u, (w.alloc (.cells #[.int .i64 ga, .int .i64 gb, .int .i64 gr, .int .i64 gd] 25)).alloc (.cells #[.slice a0 n0 c0, .slice a1 n1 c1, .slice a2 n2 c2] 31) = u := ⟨_, rfl⟩
  have HB1 : Hid (Below w.heap.size w w1) := by subst hw1; exact ((Below.refl _ _).alloc (Nat.le_refl _) _).alloc (by simp) _
  have g1 : w1.heap[w.heap.size]? = some (.cells #[.int .i64 ga, .int .i64 gb, .int .i64 gr, .int .i64 gd] 25) := by subst hw1; exact heap_alloc2_old _ _ _
  have p1 : w1.heap[w.heap.size + 1]? = some (.cells #[.slice a0 n0 c0, .slice a1 n1 c1, .slice a2 n2 c2] 31) := by subst hw1; exact heap_alloc2_new _ _ _
  have H0 : Hid (cellsK.rd w1 [.slice a0 n0 c0] x) := cellsK.below h0 HB1.out
  have H1 : Hid (intsK.rd w1 [.slice a1 n1 c1] y) := intsK.below h1 HB1.out
  have H2 : Hid (intsK.rd w1 [.slice a2 n2 c2] z) := intsK.below h2 HB1.out
  have HV : Hid (decide (GeoOk ga gb gr gd ∧ (x.length : Int) = lineN ga gb gr gd ∧ (y.length : Int) = bankN ga gb gr gd * gr ∧ z.length = y.length ∧ (∀ c ∈ x, SymOk c.1 11) ∧ (∀ v ∈ y, AgeOk v) ∧ (∀ v ∈ z, AgeOk v)) = v) := hv
  clear h h0 h1 h2 hv hf
  obtain ⟨x0, x1, x2, x3⟩ := cells4 g1
  obtain ⟨R, hR⟩ : ∃ R, bankN ga gb gr gd * gr = R := ⟨_, rfl⟩
  have HRR := Lib.hid hR
  by_cases hg : GeoOk ga gb gr gd
  case neg =>
    have KG := Lib.hid (decide_eq_false hg)
    have HE : Hid (false = v) := by show _ = _; rw [← HV.out]; exact (decide_eq_false (fun h => hg h.1)).symm
    clear hg hR
    go_enter Tryd.func14, Tryd.ntmps14
    go_wp2_with fail
    refine (implGeoOk_is ga gb gr gd false KG.out _).mono ?_
    rintro e w2 ⟨rfl, hb2⟩
    have HB2 : Hid (Below w.heap.size w w2) := HB1.out.trans (hb2.mono HB1.out.size)
    clear hb2 x0 x1 x2 x3 g1 p1
    go_wp2_with fail
    go_ret
    exact ⟨ret_b HE.out, HB2.out⟩
  have KG := Lib.hid (decide_eq_true hg)
  have hrr := rowsN_range hg
  rw [hR] at hrr
  have HGG := Lib.hid hg
  clear hg hR
  go_enter Tryd.func14, Tryd.ntmps14
  go_wp2_with fail
  refine (implGeoOk_is ga gb gr gd true KG.out _).mono ?_
  rintro e w2 ⟨rfl, hb2⟩
  have HB2 : Hid (Below w.heap.size w w2) := HB1.out.trans (hb2.mono HB1.out.size)
  have g2 := keep_block hb2 g1 (lt_of_block g1)
  have p2 := keep_block hb2 p1 (lt_of_block p1)
  have J0 := Lib.hid (cellsK.below H0.out hb2)
  have J1 := Lib.hid (intsK.below H1.out hb2)
  have J2 := Lib.hid (intsK.below H2.out hb2)
  clear hb2 x0 x1 x2 x3 g1 p1 H0 H1 H2 HB1
  obtain ⟨x0, x1, x2, x3⟩ := cells4 g2
  obtain ⟨y0, y1, y2⟩ := cells3 p2
  obtain ⟨b0, hb0⟩ : ∃ b, decide ((x.length : Int) = lineN ga gb gr gd ∧ ∀ q ∈ x, SymOk q.1 11) = b := ⟨_, rfl⟩
  have HC0 := Lib.hid hb0
  clear hb0
  go_wp2_with fail
  refine (implCellsFit_is ga gb gr gd J0.out b0 HC0.out).mono ?_
  rintro e w3 ⟨rfl, hb3⟩
  have HB3 : Hid (Below w.heap.size w w3) := HB2.out.trans (hb3.mono HB2.out.size)
  have g3 := keep_block hb3 g2 (lt_of_block g2)
  have p3 := keep_block hb3 p2 (lt_of_block p2)
  have K1 := Lib.hid (intsK.below J1.out hb3)
  have K2 := Lib.hid (intsK.below J2.out hb3)
  clear hb3 x0 x1 x2 x3 y0 y1 y2 g2 p2 J0 J1 J2 HB2
  cases b0
  case false =>
    have HE : Hid (false = v) := by
      show _ = _
      rw [← HV.out]
      exact (decide_eq_false (fun h => of_decide_eq_false HC0.out ⟨h.2.1, h.2.2.2.2.1⟩)).symm
    go_wp2_with fail
    go_ret
    exact ⟨ret_b HE.out, HB3.out⟩
  obtain ⟨x0, x1, x2, x3⟩ := cells4 g3
  obtain ⟨y0, y1, y2⟩ := cells3 p3
  obtain ⟨b1, hb1⟩ : ∃ b, decide ((y.length : Int) = R ∧ ∀ q ∈ y, AgeOk q) = b := ⟨_, rfl⟩
  have HC1 := Lib.hid hb1
  clear hb1
  go_wp2_with fail
  refine (implNumbersFit_is ga gb gr gd R HRR.out hrr K1.out b1 HC1.out).mono ?_
  rintro e w4 ⟨rfl, hb4⟩
  have HB4 : Hid (Below w.heap.size w w4) := HB3.out.trans (hb4.mono HB3.out.size)
  have g4 := keep_block hb4 g3 (lt_of_block g3)
  have p4 := keep_block hb4 p3 (lt_of_block p3)
  have L2 := Lib.hid (intsK.below K2.out hb4)
  clear hb4 x0 x1 x2 x3 y0 y1 y2 g3 p3 K1 K2 HB3
  cases b1
  case false =>
    have HE : Hid (false = v) := by
      show _ = _
      rw [← HV.out]
      exact (decide_eq_false (fun h => of_decide_eq_false HC1.out ⟨h.2.2.1.trans HRR.out, h.2.2.2.2.2.1⟩)).symm
    go_wp2_with fail
    go_ret
    exact ⟨ret_b HE.out, HB4.out⟩
  obtain ⟨x0, x1, x2, x3⟩ := cells4 g4
  obtain ⟨y0, y1, y2⟩ := cells3 p4
  have HC2 : Hid (decide ((z.length : Int) = R ∧ ∀ q ∈ z, AgeOk q) = v) := by
    show _ = _
    rw [← HV.out]
    have c0 := of_decide_eq_true HC0.out
    have c1 := of_decide_eq_true HC1.out
    refine decide_eq_decide.2 ⟨fun h => ⟨HGG.out, c0.1, c1.1.trans HRR.out.symm, by have := h.1; have := c1.1; omega, c0.2, c1.2, h.2⟩, fun h => ⟨?_, h.2.2.2.2.2.2⟩⟩
    have := h.2.2.2.1
    have := c1.1
    omega
  go_wp2_with fail
  refine (implNumbersFit_is ga gb gr gd R HRR.out hrr L2.out v HC2.out).mono ?_
  rintro e w5 ⟨rfl, hb5⟩
  have HB5 : Hid (Below w.heap.size w w5) := HB4.out.trans (hb5.mono HB4.out.size)
  clear hb5 x0 x1 x2 x3 y0 y1 y2 g4 p4
  go_wp2_with fail
  go_ret
  exact ⟨rfl, HB5.out⟩

set_option maxHeartbeats 1000000 in
theorem implRowExists_is (a b c d x y : Int) (v : Bool) (hv : decide (AdOk a b c d x y 0) = v) (w : World) :
    Calls Tryd.prog 37 #[.agg #[.int .i64 a, .int .i64 b, .int .i64 c, .int .i64 d], .int .i64 x, .int .i64 y] w (Gives (.bool v) w) := by
  have HV := Lib.hid hv
  clear hv
  obtain ⟨w1, hw1⟩ : ∃ w1, w.alloc (.cells #[.int .i64 a, .int .i64 b, .int .i64 c, .int .i64 d] 25) = w1 := ⟨_, rfl⟩
  have HB : Hid (Below w.heap.size w w1) := by subst hw1; exact (Below.refl _ _).alloc (Nat.le_refl _) _
  have hA : w1.heap[w.heap.size]? = some (.cells #[.int .i64 a, .int .i64 b, .int .i64 c, .int .i64 d] 25) := hw1 ▸ heap_alloc_new w _
  obtain ⟨a0, a1, a2, a3⟩ := cells4 hA
  go_enter Tryd.func37, Tryd.ntmps37
  go_wp2_with fail
  refine (implAddrOk_is a b c d x y 0 v HV.out _).mono ?_
  rintro e w2 ⟨rfl, hb2⟩
  have HB2 : Hid (Below w.heap.size w w2) := HB.out.trans (hb2.mono HB.out.size)
  clear hb2 a0 a1 a2 a3 hA
  go_wp2_with fail
  go_ret
  exact ⟨rfl, HB2.out⟩

end Go.Proofs.YtfpfgaifhmgpiaaDoor

namespace Go.Proofs.YtfpfgaifhmgpiaaDoor
open Go.RowKit Go.PlainAid

set_option linter.unusedVariables false

def ptrV (q : Nat) : Value := .pointer (some ⟨q, 0, none⟩)

theorem infoP : (Tryd.prog.info? 72).map (fun i => (i.zero, i.size, i.bytes)) = some (some (.pointer none), 1, 8) := by kernel_rfl

theorem ownsRow_same {w w' : World} {B n K : Nat} {T : TypeId} {v : Value} {xs : List Value} (h : w.ownsRow B T K v n xs) (hs : ∀ g, v.ownBlock = some g → w'.heap[g]? = w.heap[g]?) : w'.ownsRow B T K v n xs := by
  refine ⟨h.1, ?_⟩
  rcases h.2 with hv | ⟨b, cap, cur, hv, hB, hh, r⟩
  · exact .inl hv
  · exact .inr ⟨b, cap, cur, hv, hB, by rw [hs b (by rw [hv]; rfl)]; exact hh, r⟩

/-- A block of another type is no block of a row. -/
theorem ownsRow_ne {w : World} {B n K g : Nat} {T T' : TypeId} {v : Value} {xs : List Value} {vs : Array Value} (h : w.ownsRow B T K v n xs) (hg : w.heap[g]? = some (.cells vs T' (0, 0))) (hT : T' ≠ T) : v.ownBlock ≠ some g := by
  intro e
  rcases h.2 with ⟨hv, _⟩ | ⟨b, cap, cur, hv, hB, hh, r⟩
  · rw [hv] at e; cases e
  · rw [hv] at e
    have e2 : b = g := Option.some.inj e
    subst e2
    rw [hg] at hh
    injection hh with hh
    injection hh with _ e3
    exact hT e3

/-- The neighbours of a row, of which the first j are linked. -/
def nbrs (q : Nat → Nat) (j i : Nat) : List Value := (if 0 < i ∧ i < j then [ptrV (q (i - 1))] else []) ++ (if i + 1 < j then [ptrV (q (i + 1))] else [])

theorem nbrs_length (q : Nat → Nat) (j i : Nat) : (nbrs q j i).length ≤ 2 := by
  unfold nbrs
  rw [List.length_append]
  split <;> split <;> simp

theorem nbrs_cong {q q' : Nat → Nat} {j i : Nat} (h : ∀ l, l < j → q l = q' l) (hi : i ≤ j) : nbrs q j i = nbrs q' j i := by
  unfold nbrs
  by_cases h0 : 0 < i ∧ i < j
  · rw [if_pos h0, if_pos h0, h (i - 1) (by omega)]
    by_cases h1 : i + 1 < j
    · rw [if_pos h1, if_pos h1, h _ h1]
    · rw [if_neg h1, if_neg h1]
  · rw [if_neg h0, if_neg h0]
    by_cases h1 : i + 1 < j
    · rw [if_pos h1, if_pos h1, h _ h1]
    · rw [if_neg h1, if_neg h1]

def upf {α : Type} (f : Nat → α) (k : Nat) (x : α) : Nat → α := fun i => if i = k then x else f i

theorem upf_same {α : Type} (f : Nat → α) (k : Nat) (x : α) : upf f k x k = x := if_pos rfl

theorem upf_ne {α : Type} (f : Nat → α) {k i : Nat} (x : α) (h : i ≠ k) : upf f k x i = f i := if_neg h

def rowsL (m k : Nat) (q : Nat → Nat) : List Value := (List.range m).map fun i => if i < k then ptrV (q i) else .pointer none

theorem rowsL_length (m k : Nat) (q : Nat → Nat) : (rowsL m k q).length = m := by simp [rowsL]

theorem rowsL_get {m k i : Nat} (q : Nat → Nat) (hi : i < m) : (rowsL m k q)[i]? = some (if i < k then ptrV (q i) else .pointer none) := by
  unfold rowsL
  rw [List.getElem?_map, List.getElem?_range hi]
  rfl

theorem rowsL_set {m k : Nat} (q : Nat → Nat) (g : Nat) (hk : k < m) : (rowsL m k q).set k (ptrV g) = rowsL m (k + 1) (upf q k g) := by
  apply List.ext_getElem?
  intro i
  by_cases hi : i < m
  · rw [rowsL_get _ hi]
    by_cases hik : k = i
    · subst hik
      rw [List.getElem?_set_self (by rw [rowsL_length]; exact hi), if_pos (by omega), upf_same]
    · rw [List.getElem?_set_ne hik, rowsL_get _ hi]
      by_cases h1 : i < k
      · rw [if_pos h1, if_pos (by omega), upf_ne _ _ (fun e => hik e.symm)]
      · rw [if_neg h1, if_neg (by omega)]
  · rw [List.getElem?_eq_none (by rw [List.length_set, rowsL_length]; omega), List.getElem?_eq_none (by rw [rowsL_length]; omega)]

/-- The first k rows of a bank have been made, the first j of them linked. -/
structure RowsT (w : World) (B m : Nat) (F : Nat → Value → Array Value) (R k j : Nat) (q : Nat → Nat) (v : Nat → Value) : Prop where
  rb : w.ownsRow B 72 1 (.slice (some ⟨R, 0, none⟩) m m) m (rowsL m k q)
  qb : ∀ i, i < k → B ≤ q i ∧ w.heap[q i]? = some (.cells (F i (v i)) 110 (0, 0))
  vb : ∀ i, i < k → w.ownsRow B 72 1 (v i) (nbrs q j i).length (nbrs q j i)
  vv : ∀ i l, i < k → l < k → i ≠ l → ∀ g, (v i).ownBlock = some g → (v l).ownBlock ≠ some g
  vR : ∀ i, i < k → (v i).ownBlock ≠ some R
  qq : ∀ i l, i < k → l < k → i ≠ l → q i ≠ q l

theorem RowsT.same {w w' : World} {B m R k j : Nat} {F : Nat → Value → Array Value} {q : Nat → Nat} {v : Nat → Value} (h : RowsT w B m F R k j q v) (hs : ∀ g, B ≤ g → g < w.heap.size → w'.heap[g]? = w.heap[g]?) : RowsT w' B m F R k j q v := by
  have hr : ∀ {v : Value} {n : Nat} {xs : List Value}, w.ownsRow B 72 1 v n xs → w'.ownsRow B 72 1 v n xs := fun ho => ownsRow_same ho (fun g hg => by have := World.ownsRow.lt ho g hg; exact hs g this.1 this.2)
  exact ⟨hr h.rb, fun i hi => ⟨(h.qb i hi).1, (hs _ (h.qb i hi).1 (lt_of_block (h.qb i hi).2)).trans (h.qb i hi).2⟩, fun i hi => hr (h.vb i hi), h.vv, h.vR, h.qq⟩

theorem RowsT.below {w w' : World} {B m R k j : Nat} {F : Nat → Value → Array Value} {q : Nat → Nat} {v : Nat → Value} (h : RowsT w B m F R k j q v) (hb : Below w.heap.size w w') : RowsT w' B m F R k j q v :=
  h.same (fun g _ hg => hb.block g hg)

theorem RowsT.keep {w w' : World} {B m R k j : Nat} {F : Nat → Value → Array Value} {q : Nat → Nat} {v : Nat → Value} (h : RowsT w B m F R k j q v) {S : List Nat} (ho : OnlyS S w w') (hS : ∀ b ∈ S, b < B) : RowsT w' B m F R k j q v :=
  h.same (fun g hB hg => ho.block g hg (fun hm => by have := hS g hm; omega))

theorem RowsT.start {w : World} {B m R : Nat} {F : Nat → Value → Array Value} (h : w.ownsRow B 72 1 (.slice (some ⟨R, 0, none⟩) m m) m (madeCells #[.pointer none] m).toList) (q : Nat → Nat) (v : Nat → Value) : RowsT w B m F R 0 0 q v := by
  refine ⟨?_, fun i hi => absurd hi (Nat.not_lt_zero _), fun i hi => absurd hi (Nat.not_lt_zero _), fun i l hi => absurd hi (Nat.not_lt_zero _), fun i hi => absurd hi (Nat.not_lt_zero _), fun i l hi => absurd hi (Nat.not_lt_zero _)⟩
  have e : (madeCells #[.pointer none] m).toList = rowsL m 0 q := by
    have h1 := made_flat [.pointer none] 1 m rfl (by decide)
    rw [Nat.mul_one] at h1
    refine h1.trans ?_
    apply List.ext_getElem?
    intro i
    by_cases hi : i < m
    · rw [rowsL_get _ hi, if_neg (Nat.not_lt_zero _)]
      clear h h1
      induction m generalizing i with
      | zero => omega
      | succ m ih =>
        rw [List.replicate_succ, List.flatten_cons]
        cases i with
        | zero => rfl
        | succ i => exact ih i (by omega)
    · rw [List.getElem?_eq_none (by simp; omega), List.getElem?_eq_none (by rw [rowsL_length]; omega)]
  rw [← e]
  exact h

/-- One row more, not yet linked. -/
theorem RowsT.add {w : World} {B m R k j : Nat} {F : Nat → Value → Array Value} {q : Nat → Nat} {v : Nat → Value} (h : RowsT w B m F R k j q v) (hk : k < m) (hj : j ≤ k) (hB : B ≤ w.heap.size) :
    RowsT ((w.alloc (.cells (F k (.slice none 0 0)) 110)).setCell ⟨R, k, none⟩ (ptrV w.heap.size)) B m F R (k + 1) j (upf q k w.heap.size) (upf v k (.slice none 0 0)) := by
  have hbA : Below w.heap.size w (w.alloc (.cells (F k (.slice none 0 0)) 110)) := (Below.refl _ _).alloc (Nat.le_refl _) _
  have h' := h.below hbA
  have hRlt : R < w.heap.size := (World.ownsRow.lt h.rb R rfl).2
  have hne : ∀ b, b ≠ R → ((w.alloc (.cells (F k (.slice none 0 0)) 110)).setCell ⟨R, k, none⟩ (ptrV w.heap.size)).heap[b]? = (w.alloc (.cells (F k (.slice none 0 0)) 110)).heap[b]? := fun b hb => Below.heap_setCell _ _ _ _ hb
  have hqR : ∀ i, i < k → q i ≠ R := fun i hi e => ownsRow_ne h.rb (h.qb i hi).2 (by decide) (by rw [e]; rfl)
  have hqlt : ∀ i, i < k → q i < w.heap.size := fun i hi => lt_of_block (h.qb i hi).2
  refine ⟨?_, fun i hi => ?_, fun i hi => ?_, fun i l hi hl hil g hg => ?_, fun i hi => ?_, fun i l hi hl hil => ?_⟩
  · have := (World.ownsRow.stored h'.rb k (ptrV w.heap.size)).1
    rw [rowsL_set q _ hk] at this
    exact this
  · by_cases hik : i = k
    · subst hik
      rw [upf_same, upf_same]
      exact ⟨hB, (hne _ (by omega)).trans (heap_alloc_new _ _)⟩
    · rw [upf_ne _ _ hik, upf_ne _ _ hik]
      have hi' : i < k := by omega
      exact ⟨(h'.qb i hi').1, (hne _ (hqR i hi')).trans (h'.qb i hi').2⟩
  · have e : nbrs (upf q k w.heap.size) j i = nbrs q j i := by
      by_cases hij : i ≤ j
      · exact nbrs_cong (fun l hl => upf_ne _ _ (by omega)) hij
      · unfold nbrs
        rw [if_neg (by omega), if_neg (by omega), if_neg (by omega), if_neg (by omega)]
    rw [e]
    by_cases hik : i = k
    · subst hik
      rw [upf_same]
      have e2 : nbrs q j i = [] := by
        unfold nbrs
        rw [if_neg (by omega), if_neg (by omega)]
        rfl
      rw [e2]
      exact World.ownsRow_nil _ _ _ _
    · rw [upf_ne _ _ hik]
      have hi' : i < k := by omega
      exact ownsRow_same (h'.vb i hi') (fun g hg => hne g (fun e => h.vR i hi' (by rw [hg, e])))
  · by_cases hik : i = k
    · subst hik
      rw [upf_same] at hg
      cases hg
    · rw [upf_ne _ _ hik] at hg
      by_cases hlk : l = k
      · subst hlk
        rw [upf_same]
        intro e; cases e
      · rw [upf_ne _ _ hlk]
        exact h.vv i l (by omega) (by omega) hil g hg
  · by_cases hik : i = k
    · subst hik
      rw [upf_same]
      intro e; cases e
    · rw [upf_ne _ _ hik]
      exact h.vR i (by omega)
  · by_cases hik : i = k
    · subst hik
      rw [upf_same, upf_ne _ _ (fun e => hil e.symm)]
      have := hqlt l (by omega)
      omega
    · rw [upf_ne _ _ hik]
      by_cases hlk : l = k
      · subst hlk
        rw [upf_same]
        have := hqlt i (by omega)
        omega
      · rw [upf_ne _ _ hlk]
        exact h.qq i l (by omega) (by omega) hil

/-- What the link of two rows leaves. -/
structure Linked (w w' : World) (B Qa Qb na nb : Nat) (Fa Fb : Value → Array Value) (va vb va' vb' : Value) (xa xb : List Value) : Prop where
  os : w'.os = w.os
  tape : w'.tape = w.tape
  output : w'.output = w.output
  size : w.heap.size ≤ w'.heap.size
  rest : ∀ b, b < w.heap.size → b ≠ Qa → b ≠ Qb → va.ownBlock ≠ some b → vb.ownBlock ≠ some b → w'.heap[b]? = w.heap[b]?
  ba : w'.heap[Qa]? = some (.cells (Fa va') 110 (0, 0))
  bb : w'.heap[Qb]? = some (.cells (Fb vb') 110 (0, 0))
  oa : w'.ownsRow B 72 1 va' (na + 1) (xa ++ [ptrV Qb])
  ob : w'.ownsRow B 72 1 vb' (nb + 1) (xb ++ [ptrV Qa])
  na' : va'.ownBlock = va.ownBlock ∨ ∃ g, va'.ownBlock = some g ∧ w.heap.size ≤ g
  nb' : vb'.ownBlock = vb.ownBlock ∨ ∃ g, vb'.ownBlock = some g ∧ w.heap.size ≤ g
  ab : ∀ g, va'.ownBlock = some g → vb'.ownBlock ≠ some g

/-- Two rows more are linked. -/
theorem RowsT.link {w w' : World} {B m R k : Nat} {F : Nat → Value → Array Value} {q : Nat → Nat} {v : Nat → Value} {va' vb' : Value} (h : RowsT w B m F R (k + 1 + 1) (k + 1) q v)
    (hL : Linked w w' B (q k) (q (k + 1)) (nbrs q (k + 1) k).length (nbrs q (k + 1) (k + 1)).length (F k) (F (k + 1)) (v k) (v (k + 1)) va' vb' (nbrs q (k + 1) k) (nbrs q (k + 1) (k + 1))) :
    RowsT w' B m F R (k + 1 + 1) (k + 1 + 1) q (upf (upf v k va') (k + 1) vb') := by
  have hRlt : R < w.heap.size := (World.ownsRow.lt h.rb R rfl).2
  have hqR : ∀ i, i < k + 1 + 1 → q i ≠ R := fun i hi e => ownsRow_ne h.rb (h.qb i hi).2 (by decide) (by rw [e]; rfl)
  have hR' : w'.heap[R]? = w.heap[R]? := hL.rest R hRlt (fun e => hqR k (by omega) e.symm) (fun e => hqR (k + 1) (by omega) e.symm) (h.vR k (by omega)) (h.vR (k + 1) (by omega))
  have hvq : ∀ i l, i < k + 1 + 1 → l < k + 1 + 1 → (v i).ownBlock ≠ some (q l) := fun i l hi hl => ownsRow_ne (h.vb i hi) (h.qb l hl).2 (by decide)
  have hk1 : ∀ i, i < k + 1 + 1 → i ≠ k → i ≠ k + 1 → i < k := fun i h1 h2 h3 => by omega
  have g1 : upf (upf v k va') (k + 1) vb' k = va' := by rw [upf_ne _ _ (by omega), upf_same]
  have g2 : upf (upf v k va') (k + 1) vb' (k + 1) = vb' := upf_same _ _ _
  have g3 : ∀ i, i < k → upf (upf v k va') (k + 1) vb' i = v i := fun i hi => by rw [upf_ne _ _ (by omega), upf_ne _ _ (by omega)]
  have n1 : nbrs q (k + 1 + 1) k = nbrs q (k + 1) k ++ [ptrV (q (k + 1))] := by
    unfold nbrs
    rw [if_neg (show ¬ k + 1 < k + 1 by omega), if_pos (show k + 1 < k + 1 + 1 by omega), List.append_nil]
    by_cases h0 : 0 < k
    · rw [if_pos ⟨h0, by omega⟩, if_pos ⟨h0, by omega⟩]
    · rw [if_neg (fun q => h0 q.1), if_neg (fun q => h0 q.1)]
  have n2 : nbrs q (k + 1 + 1) (k + 1) = nbrs q (k + 1) (k + 1) ++ [ptrV (q k)] := by
    unfold nbrs
    rw [if_neg (show ¬ (0 < k + 1 ∧ k + 1 < k + 1) by omega), if_neg (show ¬ k + 1 + 1 < k + 1 by omega), if_pos (show 0 < k + 1 ∧ k + 1 < k + 1 + 1 by omega), if_neg (show ¬ k + 1 + 1 < k + 1 + 1 by omega)]
    rfl
  have n3 : ∀ i, i < k → nbrs q (k + 1 + 1) i = nbrs q (k + 1) i := fun i hi => by
    unfold nbrs
    rw [if_pos (show i + 1 < k + 1 + 1 by omega), if_pos (show i + 1 < k + 1 by omega)]
    by_cases h0 : 0 < i
    · rw [if_pos ⟨h0, by omega⟩, if_pos ⟨h0, by omega⟩]
    · rw [if_neg (fun q => h0 q.1), if_neg (fun q => h0 q.1)]
  have hlt : ∀ i, i < k + 1 + 1 → ∀ g, (v i).ownBlock = some g → g < w.heap.size := fun i hi g hg => (World.ownsRow.lt (h.vb i hi) g hg).2
  refine ⟨ownsRow_same h.rb (fun g hg => by have e : R = g := Option.some.inj hg; rw [← e]; exact hR'), fun i hi => ?_, fun i hi => ?_, fun i l hi hl hil g hg => ?_, fun i hi => ?_, h.qq⟩
  · refine ⟨(h.qb i hi).1, ?_⟩
    by_cases h1 : i = k
    · subst h1; rw [g1]; exact hL.ba
    · by_cases h2 : i = k + 1
      · subst h2; rw [g2]; exact hL.bb
      · rw [g3 i (hk1 i hi h1 h2)]
        exact (hL.rest _ (lt_of_block (h.qb i hi).2) (h.qq i k hi (by omega) h1) (h.qq i (k + 1) hi (by omega) h2) (hvq k i (by omega) hi) (hvq (k + 1) i (by omega) hi)).trans (h.qb i hi).2
  · by_cases h1 : i = k
    · subst h1; rw [g1, n1, List.length_append]; exact hL.oa
    · by_cases h2 : i = k + 1
      · subst h2; rw [g2, n2, List.length_append]; exact hL.ob
      · have hik := hk1 i hi h1 h2
        rw [g3 i hik, n3 i hik]
        refine ownsRow_same (h.vb i hi) (fun g hg => hL.rest g (hlt i hi g hg) (fun e => hvq i k hi (by omega) (by rw [hg, e])) (fun e => hvq i (k + 1) hi (by omega) (by rw [hg, e])) (fun e => h.vv i k hi (by omega) h1 g hg e) (fun e => h.vv i (k + 1) hi (by omega) h2 g hg e))
  · have hnew : ∀ l, l < k → ∀ g, (v l).ownBlock = some g → va'.ownBlock ≠ some g ∧ vb'.ownBlock ≠ some g := fun l hl g hg => by
      have hgl := hlt l (by omega) g hg
      constructor
      · rcases hL.na' with e | ⟨g', e, hge⟩
        · rw [e]; exact fun e2 => h.vv l k (by omega) (by omega) (by omega) g hg e2
        · rw [e]; intro e2; have := Option.some.inj e2; omega
      · rcases hL.nb' with e | ⟨g', e, hge⟩
        · rw [e]; exact fun e2 => h.vv l (k + 1) (by omega) (by omega) (by omega) g hg e2
        · rw [e]; intro e2; have := Option.some.inj e2; omega
    by_cases h1 : i = k
    · subst h1
      rw [g1] at hg
      by_cases h2 : l = i + 1
      · subst h2; rw [g2]; exact hL.ab g hg
      · rw [g3 l (by omega)]
        exact fun e => (hnew l (by omega) g e).1 hg
    · by_cases h2 : i = k + 1
      · subst h2
        rw [g2] at hg
        by_cases h3 : l = k
        · subst h3; rw [g1]; exact fun e => hL.ab g e hg
        · rw [g3 l (by omega)]
          exact fun e => (hnew l (by omega) g e).2 hg
      · have hik := hk1 i hi h1 h2
        rw [g3 i hik] at hg
        by_cases h3 : l = k
        · subst h3; rw [g1]; exact (hnew i hik g hg).1
        · by_cases h4 : l = k + 1
          · subst h4; rw [g2]; exact (hnew i hik g hg).2
          · rw [g3 l (by omega)]
            exact h.vv i l hi hl hil g hg
  · by_cases h1 : i = k
    · subst h1
      rw [g1]
      rcases hL.na' with e | ⟨g', e, hge⟩
      · rw [e]; exact h.vR i (by omega)
      · rw [e]; intro e2; have := Option.some.inj e2; omega
    · by_cases h2 : i = k + 1
      · subst h2
        rw [g2]
        rcases hL.nb' with e | ⟨g', e, hge⟩
        · rw [e]; exact h.vR (k + 1) (by omega)
        · rw [e]; intro e2; have := Option.some.inj e2; omega
      · rw [g3 i (hk1 i hi h1 h2)]
        exact h.vR i hi

end Go.Proofs.YtfpfgaifhmgpiaaDoor

namespace Go.Proofs.YtfpfgaifhmgpiaaDoor
open Go.RowKit Go.PlainAid

set_option linter.unusedVariables false

theorem ownsRow_shape {w : World} {B n K : Nat} {T : TypeId} {v : Value} {xs : List Value} (h : w.ownsRow B T K v n xs) : ∃ a c, v = .slice a n c := by
  rcases h.2 with ⟨rfl, h0⟩ | ⟨g, cap, cur, rfl, _⟩
  · exact ⟨none, 0, by rw [h0]⟩
  · exact ⟨_, cap, rfl⟩

set_option maxHeartbeats 8000000 in
set_option maxRecDepth 100000 in
theorem implBecome_is {B Qa Qb na nb : Nat} {a0 a1 a2 b0 b1 b2 va vb : Value} {xa xb : List Value} {w : World} (hne : Qa ≠ Qb)
    (ha : w.heap[Qa]? = some (.cells #[a0, a1, a2, va] 110 (0, 0))) (hb : w.heap[Qb]? = some (.cells #[b0, b1, b2, vb] 110 (0, 0)))
    (oa : w.ownsRow B 72 1 va na xa) (ob : w.ownsRow B 72 1 vb nb xb) (hab : ∀ g, va.ownBlock = some g → vb.ownBlock ≠ some g) (hna : na ≤ 2) (hnb : nb ≤ 2) (hB : B ≤ w.heap.size) :
    Calls Tryd.prog 80 #[.pointer (some ⟨Qa, 0, none⟩), .pointer (some ⟨Qb, 0, none⟩)] w fun e w' => e = .returned (.tuple #[]) ∧ ∃ va' vb', Linked w w' B Qa Qb na nb (fun v => #[a0, a1, a2, v]) (fun v => #[b0, b1, b2, v]) va vb va' vb' xa xb := by
  obtain ⟨i0, hi, hz0, hz1, hz2⟩ := info_parts infoP
  have hva : va.ownBlock ≠ some Qa ∧ va.ownBlock ≠ some Qb := ⟨ownsRow_ne oa ha (by decide), ownsRow_ne oa hb (by decide)⟩
  have hvb : vb.ownBlock ≠ some Qa ∧ vb.ownBlock ≠ some Qb := ⟨ownsRow_ne ob ha (by decide), ownsRow_ne ob hb (by decide)⟩
  obtain ⟨aa, ac, hva0⟩ := ownsRow_shape oa
  obtain ⟨ba, bc, hvb0⟩ := ownsRow_shape ob
  have hla : ∀ g, va.ownBlock = some g → g < w.heap.size := fun g hg => (World.ownsRow.lt oa g hg).2
  have hlb : ∀ g, vb.ownBlock = some g → g < w.heap.size := fun g hg => (World.ownsRow.lt ob g hg).2
  subst hva0
  subst hvb0
  have hqa := lt_of_block ha
  have hqb := lt_of_block hb
  have hw1 : (w.alloc (.cells #[.pointer (some ⟨Qb, 0, none⟩)] 72)).heap.size = w.heap.size + 1 := size_alloc _ _
  have OA := Lib.hid (World.ownsRow.alloc oa (.cells #[.pointer (some ⟨Qb, 0, none⟩)] 72))
  have OB := Lib.hid (World.ownsRow.alloc ob (.cells #[.pointer (some ⟨Qb, 0, none⟩)] 72))
  have A1 := Lib.hid ((heap_alloc_old w (.cells #[.pointer (some ⟨Qb, 0, none⟩)] 72) hqa).trans ha)
  have B1 := Lib.hid ((heap_alloc_old w (.cells #[.pointer (some ⟨Qb, 0, none⟩)] 72) hqb).trans hb)
  have HW1 := Lib.hid hw1
  have HVA := Lib.hid hva
  have HVB := Lib.hid hvb
  have HAB := Lib.hid hab
  have HLA := Lib.hid hla
  have HLB := Lib.hid hlb
  obtain ⟨x0, x1, x2, x3⟩ := cells4 ha
  have hB1 : B ≤ (w.alloc (.cells #[.pointer (some ⟨Qb, 0, none⟩)] 72)).heap.size := by rw [hw1]; omega
  clear oa ob hva hvb hab hla hlb ha hb hw1
  go_enter Tryd.func80, Tryd.ntmps80
  go_wp2_with (at_builtin; refine wpList_append_own_at _ rfl _ _ 73 rfl B 72 i0 (.pointer none) 1 8 Tryd.underlying73 hi hz0 hz1 hz2 rfl (by decide) _ na xa rfl OA.out ⟨w.heap.size, 0, none⟩ 1 1 [.pointer (some ⟨Qb, 0, none⟩)] rfl rfl (World.news_of_block (heap_alloc_new w _)) (by intro q hq; rw [List.mem_singleton.1 hq]; rfl) (by unfold maxLen; omega) (by omega) hB1 ?_)
  intro v3 w3 hown3 hgrow3 _ hat3
  obtain ⟨ca, cc, hv3⟩ := ownsRow_shape hown3
  subst hv3
  have A3 : w3.heap[Qa]? = _ := (hgrow3.block Qa (by rw [HW1.out]; omega) (fun e => HVA.out.1 e.symm)).trans A1.out
  have B3 : w3.heap[Qb]? = _ := (hgrow3.block Qb (by rw [HW1.out]; omega) (fun e => HVA.out.2 e.symm)).trans B1.out
  have OB3 := ownsRow_same OB.out (fun g hg => hgrow3.block g (by rw [HW1.out]; have := HLB.out g hg; omega) (fun e => HAB.out g e.symm hg))
  have hs3 : w.heap.size + 1 ≤ w3.heap.size := by have := hgrow3.size; rw [HW1.out] at this; exact this
  have B4 : (w3.setCell ⟨Qa, 3, none⟩ (.slice ca (na + 1) cc)).heap[Qb]? = _ := keep_set B3 (fun e => hne e.symm)
  have hs4 : (w3.setCell ⟨Qa, 3, none⟩ (.slice ca (na + 1) cc)).heap.size = w3.heap.size := by simp [World.setCell]
  have HA4 : Hid ((w3.setCell ⟨Qa, 3, none⟩ (.slice ca (na + 1) cc)).heap[Qa]? = some (.cells #[a0, a1, a2, .slice ca (na + 1) cc] 110 (0, 0))) := set_cells A3 3 _
  have HB4 := Lib.hid B4
  have h3A : (Value.slice ca (na + 1) cc).ownBlock ≠ some Qa := ownsRow_ne hown3 A3 (by decide)
  have OA4 := Lib.hid (ownsRow_same (w' := w3.setCell ⟨Qa, 3, none⟩ (.slice ca (na + 1) cc)) hown3 (fun g hg => Below.heap_setCell _ _ _ _ (fun e => h3A (by rw [hg]; exact congrArg some e))))
  have OB4 := Lib.hid (World.ownsRow.alloc (ownsRow_same (w' := w3.setCell ⟨Qa, 3, none⟩ (.slice ca (na + 1) cc)) OB3 (fun g hg => Below.heap_setCell _ _ _ _ (fun e => HVB.out.1 (by rw [hg]; exact congrArg some e)))) (.cells #[.pointer (some ⟨Qa, 0, none⟩)] 72))
  have HR3 : Hid (∀ b, b < w.heap.size → (Value.slice aa na ac).ownBlock ≠ some b → w3.heap[b]? = w.heap[b]?) := fun b hb hn => (hgrow3.block b (by rw [HW1.out]; omega) (fun e => hn e.symm)).trans (heap_alloc_old _ _ hb)
  have HO3 : Hid (w3.os = w.os ∧ w3.tape = w.tape ∧ w3.output = w.output) := ⟨hgrow3.os, hgrow3.tape, hgrow3.output⟩
  have HN3 : Hid ((Value.slice ca (na + 1) cc).ownBlock = (Value.slice aa na ac).ownBlock ∨ ∃ g, (Value.slice ca (na + 1) cc).ownBlock = some g ∧ w.heap.size ≤ g) := by
    rcases hat3 with h | h
    · exact .inl h
    · exact .inr ⟨_, h, by first | omega | (rw [HW1.out]; omega)⟩
  have HL3 : Hid (∀ g, (Value.slice ca (na + 1) cc).ownBlock = some g → g < w3.heap.size) := fun g hg => (World.ownsRow.lt hown3 g hg).2
  have HS3 := Lib.hid hs3
  have HS4 := Lib.hid hs4
  have hw5 : ((w3.setCell ⟨Qa, 3, none⟩ (.slice ca (na + 1) cc)).alloc (.cells #[.pointer (some ⟨Qa, 0, none⟩)] 72)).heap.size = w3.heap.size + 1 := (size_alloc _ _).trans (by rw [hs4])
  have HW5 := Lib.hid hw5
  have hB5 : B ≤ ((w3.setCell ⟨Qa, 3, none⟩ (.slice ca (na + 1) cc)).alloc (.cells #[.pointer (some ⟨Qa, 0, none⟩)] 72)).heap.size := by rw [hw5]; omega
  have hx5 := World.news_of_block (heap_alloc_new (w3.setCell ⟨Qa, 3, none⟩ (.slice ca (na + 1) cc)) (.cells #[.pointer (some ⟨Qa, 0, none⟩)] 72))
  rw [hs4] at hx5
  have HX5 := Lib.hid hx5
  clear hx5
  have f3 := thawed A3 3
  obtain ⟨y0, y1, y2, y3⟩ := cells4 A3
  obtain ⟨z0, z1, z2, z3⟩ := cells4 B4
  clear hown3 hgrow3 hat3 OA OB A1 B1 OB3 hs3 hs4 h3A B3 A3 B4 hw5 x0 x1 x2 x3
  go_wp2_with (at_builtin; refine wpList_append_own_at _ rfl _ _ 73 rfl B 72 i0 (.pointer none) 1 8 Tryd.underlying73 hi hz0 hz1 hz2 rfl (by decide) _ nb xb rfl OB4.out ⟨_, 0, none⟩ 1 1 [.pointer (some ⟨Qa, 0, none⟩)] rfl rfl HX5.out (by intro q hq; rw [List.mem_singleton.1 hq]; rfl) (by unfold maxLen; omega) (by omega) hB5 ?_)
  intro v6 w6 hown6 hgrow6 _ hat6
  obtain ⟨da, dc, hv6⟩ := ownsRow_shape hown6
  subst hv6
  have hqa5 : Qa < w3.heap.size := by have := HS3.out; omega
  have hqb5 : Qb < w3.heap.size := by have := HS3.out; omega
  have A6 : w6.heap[Qa]? = some (.cells #[a0, a1, a2, .slice ca (na + 1) cc] 110 (0, 0)) := (hgrow6.block Qa (by rw [HW5.out]; omega) (fun e => HVB.out.1 e.symm)).trans ((heap_alloc_old _ _ (by rw [HS4.out]; omega)).trans HA4.out)
  have B6 : w6.heap[Qb]? = some (.cells #[b0, b1, b2, .slice ba nb bc] 110 (0, 0)) := (hgrow6.block Qb (by rw [HW5.out]; omega) (fun e => HVB.out.2 e.symm)).trans ((heap_alloc_old _ _ (by rw [HS4.out]; omega)).trans HB4.out)
  have hca : ∀ g, (Value.slice ca (na + 1) cc).ownBlock = some g → (Value.slice ba nb bc).ownBlock ≠ some g := fun g hg e => by
    rcases HN3.out with h | ⟨g', h, hge⟩
    · exact HAB.out g (h.symm.trans hg) e
    · have e2 : g' = g := Option.some.inj (h.symm.trans hg)
      have := HLB.out g e
      omega
  have OA6 := ownsRow_same OA4.out (fun g hg => (hgrow6.block g (by rw [HW5.out]; have := HL3.out g hg; omega) (fun e => hca g hg e.symm)).trans (heap_alloc_old _ _ (by rw [HS4.out]; exact HL3.out g hg)))
  have h6B : (Value.slice da (nb + 1) dc).ownBlock ≠ some Qb := ownsRow_ne hown6 B6 (by decide)
  have h6A : (Value.slice ca (na + 1) cc).ownBlock ≠ some Qb := ownsRow_ne OA6 B6 (by decide)
  have HLK : Hid (Linked w (w6.setCell ⟨Qb, 3, none⟩ (.slice da (nb + 1) dc)) B Qa Qb na nb (fun v => #[a0, a1, a2, v]) (fun v => #[b0, b1, b2, v]) (.slice aa na ac) (.slice ba nb bc) (.slice ca (na + 1) cc) (.slice da (nb + 1) dc) xa xb) := by
    refine ⟨?_, ?_, ?_, ?_, fun b hb h1 h2 h3 h4 => ?_, keep_set A6 hne, set_cells B6 3 _, ?_, ?_, HN3.out, ?_, fun g hg e => ?_⟩
    · exact hgrow6.os.trans HO3.out.1
    · exact hgrow6.tape.trans HO3.out.2.1
    · exact hgrow6.output.trans HO3.out.2.2
    · have h1 := hgrow6.size
      rw [HW5.out] at h1
      have h2 := HS3.out
      have h3 : (w6.setCell ⟨Qb, 3, none⟩ (.slice da (nb + 1) dc)).heap.size = w6.heap.size := by simp [World.setCell]
      omega
    · have hb3 : b < w3.heap.size := by have := HS3.out; omega
      exact (Below.heap_setCell _ _ _ _ h2).trans ((hgrow6.block b (by rw [HW5.out]; omega) (fun e => h4 e.symm)).trans ((heap_alloc_old _ _ (by rw [HS4.out]; exact hb3)).trans ((Below.heap_setCell _ _ _ _ h1).trans (HR3.out b hb h3))))
    · exact ownsRow_same OA6 (fun g hg => Below.heap_setCell _ _ _ _ (fun e => h6A (by rw [hg]; exact congrArg some e)))
    · exact ownsRow_same hown6 (fun g hg => Below.heap_setCell _ _ _ _ (fun e => h6B (by rw [hg]; exact congrArg some e)))
    · rcases hat6 with h | h
      · exact .inl h
      · exact .inr ⟨_, h, by have := HS3.out; first | omega | (rw [HW5.out]; omega)⟩
    · rcases hat6 with h | h
      · exact hca g hg (h.symm.trans e)
      · have e2 := Option.some.inj (h.symm.trans e)
        have := HL3.out g hg
        (try rw [HW5.out] at e2)
        omega
  have g3 := thawed B6 3
  obtain ⟨u0, u1, u2, u3⟩ := cells4 B6
  clear hown6 hgrow6 hat6 A6 B6 OA6 hca h6A h6B y0 y1 y2 y3 z0 z1 z2 z3 f3
  go_wp2_with fail
  (try simp only [Exit.inBlock, Exit.then])
  exact bodyPost_end (v := .tuple #[]) (by simp [results, Tryd.results80]) rfl ⟨rfl, _, _, HLK.out⟩

set_option maxHeartbeats 4000000 in
set_option maxRecDepth 100000 in
theorem implGone_is {Q : Nat} {a0 v : Value} {pa ph : Addr} {la lh ua uh : Int} {w : World} (hq : w.heap[Q]? = some (.cells #[a0, .pointer (some pa), .pointer (some ph), v] 110 (0, 0))) (ha : w.cell? pa = some (.int .i64 ua)) (hh : w.cell? ph = some (.int .i64 uh)) (b : Bool) (hb : decide (la < ua ∨ lh < uh) = b) :
    Calls Tryd.prog 43 #[.pointer (some ⟨Q, 0, none⟩), .agg #[.int .i64 la, .int .i64 lh]] w (Gives (.bool b) w) := by
  obtain ⟨w1, hw1⟩ : ∃ u, w.alloc (.cells #[.int .i64 la, .int .i64 lh] 27) = u := ⟨_, rfl⟩
  have hb1 : Below w.heap.size w w1 := by subst hw1; exact (Below.refl _ _).alloc (Nat.le_refl _) _
  have l1 : w1.heap[w.heap.size]? = some (.cells #[.int .i64 la, .int .i64 lh] 27) := hw1 ▸ heap_alloc_new w _
  have HB1 := Lib.hid hb1
  have HV := Lib.hid hb
  obtain ⟨x0, x1⟩ := cells2 l1
  obtain ⟨y0, y1, y2, y3⟩ := cells4 (keep_block hb1 hq (lt_of_block hq))
  have c0 := (hb1.cell (World.block_lt_of_cell? _ _ ha)).trans ha
  have c1 := (hb1.cell (World.block_lt_of_cell? _ _ hh)).trans hh
  have z0 := fun q : Later w1 => q.cell x0
  have z1 := fun q : Later w1 => q.cell x1
  have z2 := fun q : Later w1 => q.cell y1
  have z3 := fun q : Later w1 => q.cell y2
  have z4 := fun q : Later w1 => q.cell c0
  have z5 := fun q : Later w1 => q.cell c1
  clear hq ha hh hb hb1 l1 x0 x1 y0 y1 y2 y3 c0 c1
  by_cases k1 : la < ua
  case pos =>
    have d1 : decide (la < ua) = true := decide_eq_true k1
    have HE : Hid (true = b) := by rw [← HV.out]; exact (decide_eq_true (Or.inl k1)).symm
    clear k1
    go_enter Tryd.func43, Tryd.ntmps43
    go_wp2_with fail
    refine wp_region_later (by kernel_rfl) (by kernel_rfl) ?_
    repeat (go_big_quiet_step (fail))
    refine wpQuiet_nil ?_
    rintro w2 ⟨zz, hz⟩
    have HB2 : Hid (Below w.heap.size w w2) := HB1.out.trans ((hz ▸ zz.ok : Below w1.heap.size w1 w2).mono HB1.out.size)
    clear z0 z1 z2 z3 z4 z5 hz zz
    go_wp2_with fail
    go_ret
    exact ⟨ret_b HE.out, HB2.out⟩
  case neg =>
    have d1 : decide (la < ua) = false := decide_eq_false k1
    obtain ⟨bb, hbb⟩ : ∃ bb, decide (lh < uh) = bb := ⟨_, rfl⟩
    have HE : Hid (bb = b) := by rw [← HV.out, ← hbb]; exact decide_eq_decide.2 ⟨Or.inr, fun h => h.resolve_left k1⟩
    clear k1
    go_enter Tryd.func43, Tryd.ntmps43
    go_wp2_with fail
    refine wp_region_later (by kernel_rfl) (by kernel_rfl) ?_
    repeat (go_big_quiet_step (fail))
    refine wpQuiet_nil ?_
    rintro w2 ⟨zz, hz⟩
    have HB2 : Hid (Below w.heap.size w w2) := HB1.out.trans ((hz ▸ zz.ok : Below w1.heap.size w1 w2).mono HB1.out.size)
    clear z0 z1 z2 z3 z4 z5 hz zz
    go_wp2_with fail
    go_ret
    exact ⟨ret_b HE.out, HB2.out⟩

end Go.Proofs.YtfpfgaifhmgpiaaDoor

namespace Go.Proofs.YtfpfgaifhmgpiaaDoor
open Go.RowKit Go.PlainAid

set_option linter.unusedVariables false

/-- What a row's variable holds. -/
def rowF (g0 o0 c0 g1 o1 g2 o2 D B0 : Nat) (i : Nat) (v : Value) : Array Value :=
  #[.slice (some ⟨g0, o0 + (B0 + i) * D * 2, none⟩) D (c0 - (B0 + i) * D), .pointer (some ⟨g1, o1 + (B0 + i), none⟩), .pointer (some ⟨g2, o2 + (B0 + i), none⟩), v]

theorem RowsT.one {w : World} {B m R : Nat} {F : Nat → Value → Array Value} {q : Nat → Nat} {v : Nat → Value} (h : RowsT w B m F R 1 0 q v) : RowsT w B m F R 1 1 q v := by
  refine ⟨h.rb, h.qb, fun i hi => ?_, h.vv, h.vR, h.qq⟩
  have := h.vb i hi
  have e : nbrs q 1 i = nbrs q 0 i := by
    unfold nbrs
    rw [if_neg (by omega), if_neg (by omega), if_neg (by omega), if_neg (by omega)]
  rw [e]
  exact this

theorem RowsT.cell {w : World} {B m R k j i : Nat} {F : Nat → Value → Array Value} {q : Nat → Nat} {v : Nat → Value} (h : RowsT w B m F R k j q v) (hi : i < m) :
    w.cell? ⟨R, i, none⟩ = some (if i < k then ptrV (q i) else .pointer none) ∧ w.frozen? ⟨R, i, none⟩ = false := by
  have hc := World.ownsRow.cells h.rb (g := R) rfl i _ (rowsL_get q hi)
  rw [Addr.add_lit, Nat.zero_add] at hc
  refine ⟨hc, ?_⟩
  rcases h.rb.2 with ⟨hv, _⟩ | ⟨b, cap, cur, hv, hB, hh, r⟩
  · cases hv
  · cases hv
    simp [World.frozen?, hh]

theorem cells_slice (gc oc n0 c0 L D : Nat) (hD : 0 < D) (h : L + D ≤ c0) (u : World) :
    (Instr.slice 28 (.slice (some ⟨gc, oc, none⟩) n0 c0) (some (.int .i64 (L : Int))) (some (.int .i64 ((L + D : Nat) : Int))) none).run Tryd.prog u = .ok (.slice (some ⟨gc, oc + L * 2, none⟩) D (c0 - L)) u := by
  have h1 : ¬ (c0 - L = 0) := by omega
  have h2 : ¬ (c0 = L) := by omega
  have h3 : (L : Int) ≤ ((L + D : Nat) : Int) := by omega
  have h4 : ((L + D : Nat) : Int) ≤ (c0 : Int) := by omega
  have ht : Tryd.prog.underlying 28 = some (.slice (Tryd.prog.elem 28)) := by kernel_rfl
  have hs : ∀ u : World, (sizeOf (Tryd.prog.elem 28)).run Tryd.prog u = .ok 2 u := fun u => by kernel_rfl
  rw [run_slice_lh (ht := ht) (h0 := by omega) (h1 := h3) (h2 := h4), hs]
  simp [sliced, h2, Result.andThen, Addr.add_lit]
  omega

theorem Linked.below {w w' : World} {B Qa Qb na nb : Nat} {Fa Fb : Value → Array Value} {va vb va' vb' : Value} {xa xb : List Value} (h : Linked w w' B Qa Qb na nb Fa Fb va vb va' vb' xa xb)
    (ha : B ≤ Qa) (hb : B ≤ Qb) (oa : ∀ g, va.ownBlock = some g → B ≤ g) (ob : ∀ g, vb.ownBlock = some g → B ≤ g) (hs : B ≤ w.heap.size) : Below B w w' :=
  ⟨h.os, h.tape, h.output, h.size, fun k hk => h.rest k (by omega) (by omega) (by omega) (fun e => by have := oa k e; omega) (fun e => by have := ob k e; omega)⟩

/-- A row of cells, a row of ints that is not empty lies at an address. -/
theorem row_addr {α : Type} {k : Kn α} {T : TypeId} {w : World} {a : Option Addr} {n c : Nat} {l : List α} (h : (k.row T).rd w [.slice a n c] l) (hl : 0 < l.length) : ∃ g off, a = some ⟨g, off, none⟩ := by
  obtain ⟨g, off, _, e, _⟩ := Kn.row_at h hl
  exact ⟨g, off, e⟩

set_option maxHeartbeats 16000000 in
set_option maxRecDepth 100000 in
theorem implRows_is (ga gb bk : Int) {m D B0 : Nat} {cs : List Value} {x : Arr} {w : World} (h : arrK.rd w cs x) (ha : ArrOk ga gb (m : Int) (D : Int) x) (hr : AdOk ga gb (m : Int) (D : Int) bk 0 0) (hB0 : bk * (m : Int) = B0) :
    Calls Tryd.prog 38 #[.agg #[.int .i64 ga, .int .i64 gb, .int .i64 (m : Int), .int .i64 (D : Int)], .agg cs.toArray, .int .i64 bk] w fun e w' => ∃ g0 o0 n0 c0 g1 o1 n1 c1 g2 o2 n2 c2 R q v B, cs = [.slice (some ⟨g0, o0, none⟩) n0 c0, .slice (some ⟨g1, o1, none⟩) n1 c1, .slice (some ⟨g2, o2, none⟩) n2 c2] ∧ e = .returned (.slice (some ⟨R, 0, none⟩) m m) ∧ w.heap.size ≤ B ∧ RowsT w' B m (rowF g0 o0 c0 g1 o1 g2 o2 D B0) R m m q v ∧ Below w.heap.size w w' := by
  obtain ⟨a0, n0, c0, a1, n1, c1, a2, n2, c2, rfl, h0, h1, h2⟩ := arr_rd h
  obtain ⟨l0, lc0, lm0, _⟩ := Kn.row_len h0
  obtain ⟨l1, _, lm1, _⟩ := Kn.row_len h1
  obtain ⟨l2, _, lm2, _⟩ := Kn.row_len h2
  unfold maxLen at lm0 lm1 lm2
  have hgeo := ha.1
  have hm16 : 2 ≤ m ∧ m ≤ 16 := by have := hgeo.2.2.1; omega
  have hD8 : 1 ≤ D ∧ D ≤ 8 := by have := hgeo.2.2.2; omega
  have HPL : Hid (∀ k, k < m → B0 + k < n1 ∧ B0 + k < n2 ∧ B0 + k < 128 ∧ (B0 + k) * D + D ≤ c0) := fun k hk => by
    have hak : AdOk ga gb (m : Int) (D : Int) bk (k : Int) 0 := ⟨hr.1, ⟨by omega, by omega⟩, hr.2.2⟩
    obtain ⟨i, hi, hi1, hi2, hi3, _⟩ := row_place ha hak
    obtain ⟨i', D', hi', hD', _, hic, _⟩ := row_near ha hak
    have e1 : i = B0 + k := by omega
    have e2 : i' = B0 + k := by omega
    have e3 : D' = D := by omega
    subst e1 e2 e3
    exact ⟨by omega, by omega, hi3, by omega⟩
  have hp0 := HPL.out 0 (by omega)
  have hx0 : 0 < x.1.length := by
    obtain ⟨i', D', _, hD', _, hic, _⟩ := row_near ha hr
    have e3 : D' = D := by omega
    subst e3
    omega
  obtain ⟨g0, o0, rfl⟩ := row_addr h0 hx0
  obtain ⟨g1, o1, rfl⟩ := row_addr h1 (by have : x.2.1.length = n1 := l1; omega)
  obtain ⟨g2, o2, rfl⟩ := row_addr h2 (by have : x.2.2.length = n2 := l2; omega)
  obtain ⟨w1, hw1⟩ : ∃ u, (w.alloc (.cells #[.int .i64 ga, .int .i64 gb, .int .i64 (m : Int), .int .i64 (D : Int)] 25)).alloc (.cells #[.slice (some ⟨g0, o0, none⟩) n0 c0, .slice (some ⟨g1, o1, none⟩) n1 c1, .slice (some ⟨g2, o2, none⟩) n2 c2] 31) = u := ⟨_, rfl⟩
  have HB1 : Hid (Below w.heap.size w w1) := by subst hw1; exact ((Below.refl _ _).alloc (Nat.le_refl _) _).alloc (by simp) _
  have gg1 : w1.heap[w.heap.size]? = some (.cells #[.int .i64 ga, .int .i64 gb, .int .i64 (m : Int), .int .i64 (D : Int)] 25) := by subst hw1; exact heap_alloc2_old _ _ _
  have pp1 : w1.heap[w.heap.size + 1]? = some (.cells #[.slice (some ⟨g0, o0, none⟩) n0 c0, .slice (some ⟨g1, o1, none⟩) n1 c1, .slice (some ⟨g2, o2, none⟩) n2 c2] 31) := by subst hw1; exact heap_alloc2_new _ _ _
  obtain ⟨i0, hi, hz0, hz1, hz2⟩ := info_parts infoP
  have w0 : IntKind.i64.wrap (B0 : Int) = (B0 : Int) := IntWalk.i64_in _ (by have := hp0.2.2.1; omega)
  clear h h0 h1 h2 ha hr l0 l1 l2 hgeo hp0 hx0
  obtain ⟨x0, x1, x2, x3⟩ := cells4 gg1
  go_enter Tryd.func38, Tryd.ntmps38
  go_wp2_with (at_make; refine wpList_make_full _ rfl _ _ 73 rfl w1.heap.size 72 i0 (.pointer none) 1 Tryd.underlying73 hi hz0 hz1 _ _ _ _ m rfl rfl rfl rfl (by rw [hz2]; omega) (by unfold maxLen; omega) (Nat.le_refl _) ?_)
  intro w2 hown hgr
  have hb2 : Below w1.heap.size w1 w2 := (Below.refl _ _).grown hgr (Nat.le_refl _) (fun k hk => by cases hk)
  have HR0 : Hid (RowsT w2 w1.heap.size m (rowF g0 o0 c0 g1 o1 g2 o2 D B0) w1.heap.size 0 0 (fun _ => 0) (fun _ => undef)) := RowsT.start hown _ _
  have HB2 := Lib.hid hb2
  clear hown hgr hb2 x0 x1 x2 x3
  obtain ⟨R, hRR⟩ : ∃ R, w1.heap.size = R := ⟨_, rfl⟩
  simp only [hRR] at HR0 HB2 ⊢
  have HRR := Lib.hid hRR
  clear hRR
  go_wp2_with fail
  go_loopw [15] (fun i wr => ∃ (k : Nat) (q : Nat → Nat) (v : Nat → Value), k ≤ m ∧ i = .int .i64 k ∧ RowsT wr R m (rowF g0 o0 c0 g1 o1 g2 o2 D B0) R k k q v ∧ Below R w1 wr) (fun i _ => m + 1 - (intOf i).toNat)
  case atStart => exact ⟨0, _, _, Nat.zero_le _, rfl, HR0.out, HB2.out⟩
  case round =>
    obtain ⟨k, q, v, hk, rfl, hrows, hbw⟩ := hrel
    have HRW := Lib.hid hrows
    have HBW := Lib.hid hbw
    have HS1 : Hid (w.heap.size + 1 < R) := by have := lt_of_block pp1; rw [HRR.out] at this; exact this
    have HBB : Hid (Below w.heap.size w wr) := HB1.out.trans (hbw.mono (by have := HS1.out; omega))
    have gr' : wr.heap[w.heap.size]? = _ := (hbw.block _ (by have := HS1.out; omega)).trans gg1
    have pr' : wr.heap[w.heap.size + 1]? = _ := (hbw.block _ HS1.out).trans pp1
    clear hrows hbw
    by_cases hlt : k < m
    case neg =>
      obtain rfl : k = m := by omega
      have hI : decide ((k : Int) < (k : Int)) = false := decide_eq_false (by omega)
      go_wp2_with fail
      go_ret
      exact ⟨g0, o0, n0, c0, g1, o1, n1, c1, g2, o2, n2, c2, R, q, v, R, rfl, rfl, by have := HS1.out; omega, HRW.out, HBB.out⟩
    have hI : decide ((k : Int) < (m : Int)) = true := decide_eq_true (by omega)
    have wk : IntKind.i64.wrap ((k : Int) + 1) = (k : Int) + 1 := IntWalk.i64_in _ (by omega)
    obtain ⟨P, hP⟩ : ∃ P, B0 + k = P := ⟨_, rfl⟩
    obtain ⟨L, hL⟩ : ∃ L, P * D = L := ⟨_, rfl⟩
    obtain ⟨U, hU⟩ : ∃ U, L + D = U := ⟨_, rfl⟩
    obtain ⟨P1, hP1⟩ : ∃ P1, P + 1 = P1 := ⟨_, rfl⟩
    have hpl := HPL.out k hlt
    rw [hP] at hpl
    rw [hL] at hpl
    obtain ⟨hp1, hp2, hp3, hp4⟩ := hpl
    have hLs : L ≤ 1024 := by rw [← hL]; have : P * D ≤ 128 * 8 := Nat.mul_le_mul (by omega) (by omega); omega
    have e1 : (B0 : Int) + (k : Int) = (P : Int) := by omega
    have w2' : IntKind.i64.wrap (P : Int) = (P : Int) := IntWalk.i64_in _ (by omega)
    have e2 : (P : Int) * (D : Int) = (L : Int) := by rw [← hL]; exact (Int.natCast_mul P D).symm
    have w3' : IntKind.i64.wrap (L : Int) = (L : Int) := IntWalk.i64_in _ (by omega)
    have e3 : (P : Int) + 1 = (P1 : Int) := by omega
    have w4' : IntKind.i64.wrap (P1 : Int) = (P1 : Int) := IntWalk.i64_in _ (by omega)
    have e4 : (P1 : Int) * (D : Int) = (U : Int) := by rw [← hP1, ← hU, ← hL]; push_cast; rw [Int.add_mul, Int.one_mul]
    have w5' : IntKind.i64.wrap (U : Int) = (U : Int) := IntWalk.i64_in _ (by omega)
    have sl : ∀ u : World, (Instr.slice 28 (.slice (some ⟨g0, o0, none⟩) n0 c0) (some (.int .i64 (L : Int))) (some (.int .i64 (U : Int))) none).run Tryd.prog u = .ok (.slice (some ⟨g0, o0 + L * 2, none⟩) D (c0 - L)) u := fun u => by rw [← hU]; exact cells_slice g0 o0 n0 c0 L D (by omega) hp4 u
    have hi1 : (P : Int) < (n1 : Int) := by omega
    have hi2 : (P : Int) < (n2 : Int) := by omega
    have hFk : Hid (rowF g0 o0 c0 g1 o1 g2 o2 D B0 k (.slice none 0 0) = #[.slice (some ⟨g0, o0 + L * 2, none⟩) D (c0 - L), .pointer (some ⟨g1, o1 + P, none⟩), .pointer (some ⟨g2, o2 + P, none⟩), .slice none 0 0]) := by
      show rowF _ _ _ _ _ _ _ _ _ _ _ = _
      unfold rowF
      rw [hP, hL]
    have HP := Lib.hid hP
    clear hL hU hP1 hP
    obtain ⟨x0, x1, x2, x3⟩ := cells4 gr'
    obtain ⟨y0, y1, y2⟩ := cells3 pr'
    go_wp2_with fail
    refine wp_region_float (A := ?A) [.h, .h, .h, .h, .h, .h, .h, .h, .h, .h, .h, .h, .h, .h, .h, .h, .h, .h, .h, .h, .h, .h, .h, .t, .h, .e] (by kernel_rfl) (by kernel_rfl) (fun u => u.cell? ⟨w.heap.size, 3, none⟩ = some (.int .i64 (D : Int)) ∧ u.cell? ⟨w.heap.size + 1, 0, none⟩ = some (.slice (some ⟨g0, o0, none⟩) n0 c0) ∧ u.cell? ⟨w.heap.size + 1, 1, none⟩ = some (.slice (some ⟨g1, o1, none⟩) n1 c1) ∧ u.cell? ⟨w.heap.size + 1, 2, none⟩ = some (.slice (some ⟨g2, o2, none⟩) n2 c2)) ?hC ?hH ?hT
    case hC => exact ⟨x3, y0, y1, y2⟩
    case hH =>
      intro u hu
      obtain ⟨t0, t1, t2, t3⟩ := hu
      have z0 := fun t : Same u => t.cell t0
      have z1 := fun t : Same u => t.cell t1
      have z2 := fun t : Same u => t.cell t2
      have z3 := fun t : Same u => t.cell t3
      simp only [headsOf]
      repeat (go_big_quiet_step (fail))
      refine wpQuiet_nil ?_
      exact rfl
    case hT =>
      simp only [chainT]
      have hdr : Below wr.heap.size wr wr.drew := ⟨rfl, rfl, rfl, Nat.le_refl _, fun _ _ => rfl⟩
      have hRs : R ≤ wr.heap.size := by have := HBW.out.size; rw [HRR.out] at this; exact this
      have HRD := Lib.hid (HRW.out.below hdr)
      have HBD : Hid (Below R w1 wr.drew) := HBW.out.trans (hdr.mono hRs)
      have HRS : Hid (R ≤ wr.drew.heap.size) := hRs
      have x3' : wr.drew.cell? ⟨w.heap.size, 3, none⟩ = some (.int .i64 (D : Int)) := x3
      have y0' : wr.drew.cell? ⟨w.heap.size + 1, 0, none⟩ = some (.slice (some ⟨g0, o0, none⟩) n0 c0) := y0
      have y1' : wr.drew.cell? ⟨w.heap.size + 1, 1, none⟩ = some (.slice (some ⟨g1, o1, none⟩) n1 c1) := y1
      have y2' : wr.drew.cell? ⟨w.heap.size + 1, 2, none⟩ = some (.slice (some ⟨g2, o2, none⟩) n2 c2) := y2
      clear x0 x1 x2 x3 y0 y1 y2 HRW HBW HBB gr' pr' hdr hRs sl
      generalize wr.drew = u0 at *
      have hbA : Below u0.heap.size u0 (u0.alloc (.cells #[.slice (some ⟨g0, o0 + L * 2, none⟩) D (c0 - L), .pointer (some ⟨g1, o1 + P, none⟩), .pointer (some ⟨g2, o2 + P, none⟩), .slice none 0 0] 110)) := (Below.refl _ _).alloc (Nat.le_refl _) _
      have C3 := (hbA.cell (World.block_lt_of_cell? _ _ x3')).trans x3'
      have C0 := (hbA.cell (World.block_lt_of_cell? _ _ y0')).trans y0'
      have C1 := (hbA.cell (World.block_lt_of_cell? _ _ y1')).trans y1'
      have C2 := (hbA.cell (World.block_lt_of_cell? _ _ y2')).trans y2'
      obtain ⟨hrc, hrf⟩ := (HRD.out.below hbA).cell hlt
      rw [if_neg (Nat.lt_irrefl k)] at hrc
      have hadd := HRD.out.add hlt (Nat.le_refl k) HRS.out
      rw [hFk.out] at hadd
      have HAD := Lib.hid hadd
      have HBN : Hid (Below R w1 ((u0.alloc (.cells #[.slice (some ⟨g0, o0 + L * 2, none⟩) D (c0 - L), .pointer (some ⟨g1, o1 + P, none⟩), .pointer (some ⟨g2, o2 + P, none⟩), .slice none 0 0] 110)).setCell ⟨R, k, none⟩ (ptrV u0.heap.size))) := (HBD.out.trans (hbA.mono HRS.out)).setCell (Nat.le_refl _) _
      clear x3' y0' y1' y2' hadd HRD HBD hbA
      go_wp2_with fail
      refine stepQ_normal ⟨⟨C3, C0, C1, C2⟩, ?_⟩
      clear C3 C0 C1 C2
      go_wp2_with fail
      refine stepQ_normal ⟨trivial, ?_⟩
      clear hrc hrf
      obtain ⟨q', hq'⟩ : ∃ f, upf q k u0.heap.size = f := ⟨_, rfl⟩
      obtain ⟨v', hv'⟩ : ∃ f, upf v k (.slice none 0 0) = f := ⟨_, rfl⟩
      rw [hq', hv'] at HAD
      unfold ptrV at HAD HBN
      generalize ((u0.alloc (.cells #[.slice (some ⟨g0, o0 + L * 2, none⟩) D (c0 - L), .pointer (some ⟨g1, o1 + P, none⟩), .pointer (some ⟨g2, o2 + P, none⟩), .slice none 0 0] 110)).setCell ⟨R, k, none⟩ (.pointer (some ⟨u0.heap.size, 0, none⟩))) = w6 at HAD HBN ⊢
      clear hq' hv' hFk e1 e2 e3 e4 w2' w3' w4' w5' hi1 hi2 HRS
      rcases Nat.eq_zero_or_pos k with hk0 | hk0
      · subst hk0
        go_wp2_with fail
        go_roundw
        case rel => exact ⟨1, q', v', by omega, by go_num, HAD.out.one, HBN.out⟩
        case measure => simp [intOf] <;> omega
      · obtain ⟨l, hl⟩ : ∃ l, k = l + 1 := ⟨k - 1, by omega⟩
        have HK := Lib.hid hl
        have tp : decide ((0 : Int) < (k : Int)) = true := decide_eq_true (by omega)
        have tp' : decide (0 < k) = true := decide_eq_true hk0
        have ek : (k : Int) - 1 = (l : Int) := by omega
        have wl : IntKind.i64.wrap (l : Int) = (l : Int) := IntWalk.i64_in _ (by omega)
        have hlm : l < m := by omega
        have hl1 : (l : Int) < (m : Int) := by omega
        obtain ⟨hcl, _⟩ := HAD.out.cell hlm
        obtain ⟨hck, _⟩ := HAD.out.cell hlt
        rw [if_pos (by omega)] at hcl hck
        have hne : q' l ≠ q' k := HAD.out.qq l k (by omega) (by omega) (by omega)
        have hqa := HAD.out.qb l (by omega)
        have hqb := HAD.out.qb k (by omega)
        have hva := HAD.out.vb l (by omega)
        have hvb := HAD.out.vb k (by omega)
        have hvv := HAD.out.vv l k (by omega) (by omega) (by omega)
        have hna := nbrs_length q' k l
        have hnb := nbrs_length q' k k
        have hcl' : w6.cell? ⟨R, l, none⟩ = some (.pointer (some ⟨q' l, 0, none⟩)) := hcl
        have hck' : w6.cell? ⟨R, k, none⟩ = some (.pointer (some ⟨q' k, 0, none⟩)) := hck
        have hR6 : R ≤ w6.heap.size := by have := HBN.out.size; rw [HRR.out] at this; exact this
        have hLK : ∀ (w7 w8 : World), Below w6.heap.size w6 w7 → ∀ va' vb', Linked w7 w8 R (q' l) (q' k) (nbrs q' k l).length (nbrs q' k k).length (fun v => #[.slice (some ⟨g0, o0 + (B0 + l) * D * 2, none⟩) D (c0 - (B0 + l) * D), .pointer (some ⟨g1, o1 + (B0 + l), none⟩), .pointer (some ⟨g2, o2 + (B0 + l), none⟩), v]) (fun v => #[.slice (some ⟨g0, o0 + (B0 + k) * D * 2, none⟩) D (c0 - (B0 + k) * D), .pointer (some ⟨g1, o1 + (B0 + k), none⟩), .pointer (some ⟨g2, o2 + (B0 + k), none⟩), v]) (v' l) (v' k) va' vb' (nbrs q' k l) (nbrs q' k k) →
            RowsT w8 R m (rowF g0 o0 c0 g1 o1 g2 o2 D B0) R (k + 1) (k + 1) q' (upf (upf v' l va') k vb') ∧ Below R w1 w8 := by
          intro w7 w8 hb7 va' vb' hL
          have hB8 : Below R w1 w8 := (HBN.out.trans (hb7.mono hR6)).trans (hL.below hqa.1 hqb.1 (fun g hg => (World.ownsRow.lt hva g hg).1) (fun g hg => (World.ownsRow.lt hvb g hg).1) (Nat.le_trans hR6 hb7.size))
          refine ⟨?_, hB8⟩
          have h6 := HAD.out.below hb7
          clear hcl hck hcl' hck' hqa hqb hva hvb hvv
          subst hl
          exact h6.link hL
        have HLK := Lib.hid hLK
        have HNE := Lib.hid hne
        have HQA := Lib.hid hqa.2
        have HQB := Lib.hid hqb.2
        have HVA := Lib.hid hva
        have HVB := Lib.hid hvb
        have HVV := Lib.hid hvv
        have HNA := Lib.hid hna
        have HNB := Lib.hid hnb
        have HR6 := Lib.hid hR6
        have z0 := fun q : Later w6 => q.cell hcl'
        have z1 := fun q : Later w6 => q.cell hck'
        clear hLK hne hqa hqb hva hvb hvv hna hnb hR6 hcl hck hcl' hck' hl
        go_wp2_with fail
        refine wp_region_later_tail 9 (by kernel_rfl) (by kernel_rfl) ?_
        simp only [List.take_succ_cons, List.take_zero, List.drop_succ_cons, List.drop_zero]
        repeat (go_big_quiet_step (fail))
        refine wpQuiet_nil ?_
        rintro w7 ⟨zz, hz⟩
        have hb7 : Below w6.heap.size w6 w7 := hz ▸ zz.ok
        have HB7 := Lib.hid hb7
        clear z0 z1 hz zz
        have hr7 := fun {n : Nat} {v : Value} {xs : List Value} (h : w6.ownsRow R 72 1 v n xs) => ownsRow_below h hb7
        have hqa7 := keep_block hb7 HQA.out (lt_of_block HQA.out)
        have hqb7 := keep_block hb7 HQB.out (lt_of_block HQB.out)
        have HQA7 := Lib.hid hqa7
        have HQB7 := Lib.hid hqb7
        have HVA7 := Lib.hid (hr7 HVA.out)
        have HVB7 := Lib.hid (hr7 HVB.out)
        have HR7 : Hid (R ≤ w7.heap.size) := Nat.le_trans HR6.out hb7.size
        clear hb7 hr7 hqa7 hqb7
        go_wp2_with fail
        refine (implBecome_is HNE.out HQA7.out HQB7.out HVA7.out HVB7.out HVV.out HNA.out HNB.out HR7.out).mono ?_
        rintro e w8 ⟨rfl, va', vb', hL⟩
        obtain ⟨hrow, hbel⟩ := HLK.out w7 w8 HB7.out va' vb' hL
        have HROW := Lib.hid hrow
        have HBEL := Lib.hid hbel
        clear hrow hbel hL
        go_wp2_with fail
        go_roundw
        case rel => exact ⟨k + 1, q', _, by omega, by go_num, HROW.out, HBEL.out⟩
        case measure => simp [intOf]; omega

end Go.Proofs.YtfpfgaifhmgpiaaDoor
