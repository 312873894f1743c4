/-
  Texts of one proof, merged: ArrQ, ArrR, ArrO, ArrO2, LinW, CodS, ArrW1, ArrW2, ArrW4, ArrYA, ArrYB, CodQ, ArrYC, ArrYJ, ArrYL, ArrZ12.
-/
import Derived.Test.YtfpfgaifhmgpiaaQL142
import Derived.Test.YtfpfgaifhmgpiaaQL143
import Derived.Test.YtfpfgaifhmgpiaaQL145
import Derived.Test.YtfpfgaifhmgpiaaQL146
import Derived.Test.YtfpfgaifhmgpiaaQL1410
import Derived.Test.YtfpfgaifhmgpiaaQL1411
import Derived.Test.YtfpfgaifhmgpiaaQL1418
import Derived.Test.YtfpfgaifhmgpiaaQL1419
import Derived.Laws.AppendOwnNone
namespace Go.Proofs.Ytfpfgaifhmgpiaa
open Go.RowKit Go.PlainAid

set_option linter.unusedVariables false

theorem newA_ok {ga gb gr gd : Int} (hg : GeoOk ga gb gr gd) : ArrOk ga gb gr gd (newA ga gb gr gd) := by
  have h1 := lineN_range ga gb gr gd
  have h2 := rowsN_range hg
  refine ⟨hg, ?_, ?_, ?_, ?_, ?_, ?_⟩
  · unfold newA; simp only [List.length_replicate]; omega
  · unfold newA; simp only [List.length_replicate]; exact Int.toNat_of_nonneg h2.1
  · unfold newA; simp
  · intro c hc
    unfold newA at hc
    rw [List.mem_replicate] at hc
    rw [hc.2]
    decide
  · intro v hv
    unfold newA at hv
    rw [List.mem_replicate] at hv
    rw [hv.2]
    exact ⟨by decide, by decide⟩
  · intro v hv
    unfold newA at hv
    rw [List.mem_replicate] at hv
    rw [hv.2]
    exact ⟨by decide, by decide⟩

theorem mem_getDI {l : List Int} {P : Int → Prop} : (∀ v ∈ l, P v) ↔ ∀ m, m < l.length → P (l.getD m 0) := by
  constructor
  · intro h m hm
    rw [getD_get hm]
    exact h _ (List.getElem_mem _)
  · intro h v hv
    obtain ⟨m, hm, rfl⟩ := List.getElem_of_mem hv
    have := h m hm
    rwa [getD_get hm] at this

theorem getD_setI (l : List Int) (i m : Nat) (v : Int) (hm : m < l.length) : (l.set i v).getD m 0 = if i = m then v else l.getD m 0 := by
  rw [List.getD_eq_getElem?_getD, List.getElem?_set]
  by_cases e : i = m
  · subst e
    rw [if_pos rfl, if_pos rfl, if_pos hm]
    rfl
  · rw [if_neg e, if_neg e, List.getD_eq_getElem?_getD]

theorem ageP_le (v : Int) : ageP 1 v ≤ v + 1 := by unfold ageP; split <;> omega

theorem hitF_le (z : List Int) (j m : Nat) (hm : m < z.length) : (hitF z j).getD m 0 ≤ z.getD m 0 + (if j = m then 1 else 0) := by
  unfold hitF
  rw [getD_setI _ _ _ _ hm]
  by_cases e : j = m
  · subst e
    rw [if_pos rfl, if_pos rfl]
    exact ageP_le _
  · rw [if_neg e, if_neg e]
    omega

theorem hits_le {gr rw : Int} {z : List Int} {i k : Nat} (h : ∀ v ∈ z, v ≤ (k : Int)) : ∀ v ∈ hitsF gr z i rw, v ≤ ((k + 1 : Nat) : Int) := by
  rw [mem_getDI] at h ⊢
  intro m hm
  rw [hitsF_length] at hm
  have h0 : (z.set i 0).getD m 0 ≤ (k : Int) := by
    rw [getD_setI _ _ _ _ hm]
    split
    · omega
    · exact h m hm
  have hm1 : m < (z.set i 0).length := by rw [List.length_set]; exact hm
  have h1 := hitF_le (z.set i 0) (i - 1) m hm1
  have h2 := hitF_le (z.set i 0) (i + 1) m hm1
  have h3 := hitF_le (hitF (z.set i 0) (i - 1)) (i + 1) m (by rw [hitF_length]; exact hm1)
  unfold hitsF
  simp only
  split <;> split <;> (split at h1 <;> split at h2 <;> omega)

theorem sense_age {gr gd la lh rw : Int} {x : Arr} {i : Nat} {n : Int} (h0 : 0 ≤ n) (h : ∀ v ∈ x.2.1, v ≤ n) : ∀ v ∈ (senseF gr gd la lh x i rw).2.1, v ≤ n := by
  intro v hv
  rcases List.mem_or_eq_of_mem_set hv with h1 | h1
  · exact h v h1
  · omega

theorem time_ok {ga gb gr gd n : Int} {x : Arr} (h : ArrOk ga gb gr gd x) (hn : 0 ≤ n) : ArrOk ga gb gr gd (timeF n x) := by
  obtain ⟨h1, h2, h3, h4, h5, h6, h7⟩ := h
  refine ⟨h1, h2, ?_, ?_, h5, ?_, h7⟩
  · show ((x.2.1.map (ageP n)).length : Int) = _
    rw [List.length_map]; exact h3
  · show _ = (x.2.1.map (ageP n)).length
    rw [List.length_map]; exact h4
  · intro v hv
    obtain ⟨u, hu, rfl⟩ := List.mem_map.1 (show v ∈ x.2.1.map (ageP n) from hv)
    have := h6 u hu
    unfold AgeOk at this ⊢
    unfold ageP
    split <;> omega

theorem time_age {n : Int} {x : Arr} {k : Int} (hn : 0 ≤ n ∧ n ≤ 29) (h : ∀ v ∈ x.2.1, v ≤ 30 * k) : ∀ v ∈ (timeF n x).2.1, v ≤ 30 * (k + 1) := by
  intro v hv
  obtain ⟨u, hu, rfl⟩ := List.mem_map.1 (show v ∈ x.2.1.map (ageP n) from hv)
  have := h u hu
  unfold ageP
  split <;> omega

theorem put_ok {ga gb gr gd : Int} {x : Arr} (h : ArrOk ga gb gr gd x) {y : List Int × Bool} (hy : SymOk y.1 11) (j : Nat) : ArrOk ga gb gr gd (x.1.set j y, x.2) := by
  obtain ⟨h1, h2, h3, h4, h5, h6, h7⟩ := h
  refine ⟨h1, by rw [List.length_set]; exact h2, h3, h4, fun c hc => ?_, h6, h7⟩
  rcases List.mem_or_eq_of_mem_set hc with q | q
  · exact h5 c q
  · subst q; exact hy

/-- A drawn case. -/
def DrewC (c B : Nat) (w : World) (e : Ending) (w' : World) : Prop :=
  ∃ (b r d la lh : Int) (cs : List Value) (S : List Nat) (x : Arr), e = .returned (.tuple #[.agg #[.int .i64 1, .int .i64 b, .int .i64 r, .int .i64 d], .agg #[.int .i64 la, .int .i64 lh], .agg cs.toArray]) ∧
    ((1 ≤ b ∧ b ≤ 2) ∧ (2 ≤ r ∧ r ≤ 4) ∧ (1 ≤ d ∧ d ≤ 2)) ∧ ((0 ≤ la ∧ la ≤ 100) ∧ (0 ≤ lh ∧ lh ≤ 20)) ∧ ArrOk 1 b r d x ∧ (∀ v ∈ x.2.1, v ≤ 600) ∧ (∀ v ∈ x.2.2, v ≤ 20) ∧
    arrK.own w' S cs x ∧ (∀ g ∈ S, w.heap.size ≤ g) ∧ Cur c B w' ∧ Only c w w'

/-- What holds between two rounds. -/
structure CaseAt (c B : Nat) (w : World) (gP lP aP : Nat) (b r d la lh : Int) (cs : List Value) (k : Nat) (S : List Nat) (x : Arr) (u : World) : Prop where
  r0 : u.heap[w.heap.size]? = some (.cells #[.int .i64 0, .int .i64 0, .int .i64 0, .int .i64 0] 25)
  r1 : u.heap[w.heap.size + 1]? = some (.cells #[.int .i64 0, .int .i64 0] 27)
  r2 : u.heap[w.heap.size + 1 + 1]? = some (.cells #[.slice none 0 0, .slice none 0 0, .slice none 0 0] 31)
  g : u.heap[gP]? = some (.cells #[.int .i64 1, .int .i64 b, .int .i64 r, .int .i64 d] 25)
  l : u.heap[lP]? = some (.cells #[.int .i64 la, .int .i64 lh] 27)
  a : u.heap[aP]? = some (.cells cs.toArray 31)
  pos : w.heap.size + 3 ≤ gP ∧ w.heap.size + 3 ≤ lP ∧ w.heap.size + 3 ≤ aP ∧ c < w.heap.size ∧ B ≤ c
  out : gP ∉ S ∧ lP ∉ S ∧ aP ∉ S ∧ w.heap.size ∉ S ∧ w.heap.size + 1 ∉ S ∧ w.heap.size + 1 + 1 ∉ S
  own : arrK.own u S cs x
  base : ∀ g ∈ S, w.heap.size ≤ g
  ok : ArrOk 1 b r d x
  age : ∀ v ∈ x.2.1, v ≤ 30 * (k : Int)
  hit : ∀ v ∈ x.2.2, v ≤ (k : Int)
  cur : Cur c B u
  only : Only c w u

variable {c B : Nat} {w : World} {gP lP aP : Nat} {b r d la lh : Int} {cs : List Value} {k : Nat} {S : List Nat} {x : Arr} {u u' : World}

theorem CaseAt.later (h : CaseAt c B w gP lP aP b r d la lh cs k S x u) (hb : Below u.heap.size u u') : CaseAt c B w gP lP aP b r d la lh cs k S x u' :=
  ⟨keep_block hb h.r0 (lt_of_block h.r0), keep_block hb h.r1 (lt_of_block h.r1), keep_block hb h.r2 (lt_of_block h.r2), keep_block hb h.g (lt_of_block h.g), keep_block hb h.l (lt_of_block h.l), keep_block hb h.a (lt_of_block h.a), h.pos, h.out, arrK.ownBelow h.own hb, h.base, h.ok, h.age, h.hit,
   h.cur.keep (hb.block c h.cur.lt) (hb.mono (by have := h.pos; have := h.cur.lt; omega)), h.only.later hb⟩

theorem CaseAt.draw (h : CaseAt c B w gP lP aP b r d la lh cs k S x u) (hc : Cur c B u') (ho : Only c u u') : CaseAt c B w gP lP aP b r d la lh cs k S x u' := by
  have hp := h.pos
  refine ⟨(ho.block _ (lt_of_block h.r0) (by omega)).trans h.r0, (ho.block _ (lt_of_block h.r1) (by omega)).trans h.r1, (ho.block _ (lt_of_block h.r2) (by omega)).trans h.r2, (ho.block _ (lt_of_block h.g) (by omega)).trans h.g, (ho.block _ (lt_of_block h.l) (by omega)).trans h.l, (ho.block _ (lt_of_block h.a) (by omega)).trans h.a, h.pos, h.out, arrK.ownKeep h.own ho.onlyS (fun b hb => ?_), h.base, h.ok, h.age, h.hit, hc, h.only.trans ho⟩
  rw [List.mem_singleton]
  have := h.base b hb
  omega

theorem CaseAt.turn (h : CaseAt c B w gP lP aP b r d la lh cs k S x u) {y : Arr} (ho : OnlyS S u u') (hw : arrK.own u' S cs y) (hy : ArrOk 1 b r d y) (ha : ∀ v ∈ y.2.1, v ≤ 30 * ((k + 1 : Nat) : Int)) (hh : ∀ v ∈ y.2.2, v ≤ ((k + 1 : Nat) : Int)) :
    CaseAt c B w gP lP aP b r d la lh cs (k + 1) S y u' := by
  have hp := h.pos
  have hcS : c ∉ S := fun hc => by have := h.base c hc; omega
  refine ⟨(ho.block _ (lt_of_block h.r0) h.out.2.2.2.1).trans h.r0, (ho.block _ (lt_of_block h.r1) h.out.2.2.2.2.1).trans h.r1, (ho.block _ (lt_of_block h.r2) h.out.2.2.2.2.2).trans h.r2, (ho.block _ (lt_of_block h.g) h.out.1).trans h.g, (ho.block _ (lt_of_block h.l) h.out.2.1).trans h.l, (ho.block _ (lt_of_block h.a) h.out.2.2.1).trans h.a, h.pos, h.out, hw, h.base, hy, ha, hh, ?_, ?_⟩
  · exact h.cur.keep (ho.block c h.cur.lt hcS) (ho.below (fun g hg => by have := h.base g hg; omega) (by have := h.cur.lt; omega))
  · exact h.only.trans' ⟨ho.os, ho.tape, ho.output, ho.size⟩ (fun i hi _ => ho.block i (Nat.lt_of_lt_of_le hi h.only.size) (fun hS => by have := h.base i hS; omega))

theorem CaseAt.swap (h : CaseAt c B w gP lP aP b r d la lh cs k S x u) {y : Arr} {S' : List Nat} (N : Nat) (hN : gP < N ∧ lP < N ∧ aP < N ∧ w.heap.size + 3 ≤ N) (ho : OnlyS S u u') (hw : arrK.own u' S' cs y) (hS : ∀ g ∈ S', g ∈ S ∨ N ≤ g) (hy : ArrOk 1 b r d y) (ha : ∀ v ∈ y.2.1, v ≤ 30 * ((k + 1 : Nat) : Int)) (hh : ∀ v ∈ y.2.2, v ≤ ((k + 1 : Nat) : Int)) :
    CaseAt c B w gP lP aP b r d la lh cs (k + 1) S' y u' := by
  have hp := h.pos
  have hcS : c ∉ S := fun hc => by have := h.base c hc; omega
  have ne : ∀ {g : Nat}, g ∉ S → g < N → g ∉ S' := fun h1 h2 h3 => by
    rcases hS _ h3 with q | q
    · exact h1 q
    · omega
  obtain ⟨o1, o2, o3, o4, o5, o6⟩ := h.out
  refine ⟨(ho.block _ (lt_of_block h.r0) o4).trans h.r0, (ho.block _ (lt_of_block h.r1) o5).trans h.r1, (ho.block _ (lt_of_block h.r2) o6).trans h.r2, (ho.block _ (lt_of_block h.g) o1).trans h.g, (ho.block _ (lt_of_block h.l) o2).trans h.l, (ho.block _ (lt_of_block h.a) o3).trans h.a, h.pos, ⟨ne o1 hN.1, ne o2 hN.2.1, ne o3 hN.2.2.1, ne o4 (by omega), ne o5 (by omega), ne o6 (by omega)⟩, hw, fun g hg => ?_, hy, ha, hh, ?_, ?_⟩
  · rcases hS g hg with q | q
    · exact h.base g q
    · omega
  · exact h.cur.keep (ho.block c h.cur.lt hcS) (ho.below (fun g hg => by have := h.base g hg; omega) (by have := h.cur.lt; omega))
  · exact h.only.trans' ⟨ho.os, ho.tape, ho.output, ho.size⟩ (fun i hi _ => ho.block i (Nat.lt_of_lt_of_le hi h.only.size) (fun hS => by have := h.base i hS; omega))

/-- What holds while the results are stored. -/
structure FinAt (c B : Nat) (w : World) (gP lP aP : Nat) (b r d la lh : Int) (cs : List Value) (S : List Nat) (x : Arr) (v0 v1 v2 : Array Value) (u : World) : Prop where
  r0 : u.heap[w.heap.size]? = some (.cells v0 25)
  r1 : u.heap[w.heap.size + 1]? = some (.cells v1 27)
  r2 : u.heap[w.heap.size + 1 + 1]? = some (.cells v2 31)
  g : u.heap[gP]? = some (.cells #[.int .i64 1, .int .i64 b, .int .i64 r, .int .i64 d] 25)
  l : u.heap[lP]? = some (.cells #[.int .i64 la, .int .i64 lh] 27)
  a : u.heap[aP]? = some (.cells cs.toArray 31)
  pos : w.heap.size + 3 ≤ gP ∧ w.heap.size + 3 ≤ lP ∧ w.heap.size + 3 ≤ aP ∧ c < w.heap.size ∧ B ≤ c
  out : w.heap.size ∉ S ∧ w.heap.size + 1 ∉ S ∧ w.heap.size + 1 + 1 ∉ S
  own : arrK.own u S cs x
  cur : Cur c B u
  only : Only c w u

theorem CaseAt.fin (h : CaseAt c B w gP lP aP b r d la lh cs k S x u) : FinAt c B w gP lP aP b r d la lh cs S x #[.int .i64 0, .int .i64 0, .int .i64 0, .int .i64 0] #[.int .i64 0, .int .i64 0] #[.slice none 0 0, .slice none 0 0, .slice none 0 0] u :=
  ⟨h.r0, h.r1, h.r2, h.g, h.l, h.a, h.pos, h.out.2.2.2, h.own, h.cur, h.only⟩

theorem FinAt.set0 {v0 v1 v2 : Array Value} (h : FinAt c B w gP lP aP b r d la lh cs S x v0 v1 v2 u) (i : Nat) (v : Value) : FinAt c B w gP lP aP b r d la lh cs S x (v0.setIfInBounds i v) v1 v2 (u.setCell ⟨w.heap.size, i, none⟩ v) := by
  have hp := h.pos
  have hne : ∀ {q : Nat}, q ≠ w.heap.size → (u.setCell ⟨w.heap.size, i, none⟩ v).heap[q]? = u.heap[q]? := fun e => Below.heap_setCell _ _ _ _ e
  exact ⟨set_cells h.r0 i v, (hne (by omega)).trans h.r1, (hne (by omega)).trans h.r2, (hne (by omega)).trans h.g, (hne (by omega)).trans h.l, (hne (by omega)).trans h.a, h.pos, h.out, Kn.ownSet arrK h.own (p := ⟨w.heap.size, i, none⟩) (fun q hq e => h.out.1 ((show q = w.heap.size from e) ▸ hq)) v, h.cur.setNew (by show B ≤ w.heap.size; omega) (by show w.heap.size ≠ c; omega) v, h.only.setNew (Nat.le_refl _) v⟩

theorem FinAt.set1 {v0 v1 v2 : Array Value} (h : FinAt c B w gP lP aP b r d la lh cs S x v0 v1 v2 u) (i : Nat) (v : Value) : FinAt c B w gP lP aP b r d la lh cs S x v0 (v1.setIfInBounds i v) v2 (u.setCell ⟨w.heap.size + 1, i, none⟩ v) := by
  have hp := h.pos
  have hne : ∀ {q : Nat}, q ≠ w.heap.size + 1 → (u.setCell ⟨w.heap.size + 1, i, none⟩ v).heap[q]? = u.heap[q]? := fun e => Below.heap_setCell _ _ _ _ e
  exact ⟨(hne (by omega)).trans h.r0, set_cells h.r1 i v, (hne (by omega)).trans h.r2, (hne (by omega)).trans h.g, (hne (by omega)).trans h.l, (hne (by omega)).trans h.a, h.pos, h.out, Kn.ownSet arrK h.own (p := ⟨w.heap.size + 1, i, none⟩) (fun q hq e => h.out.2.1 ((show q = w.heap.size + 1 from e) ▸ hq)) v, h.cur.setNew (by show B ≤ w.heap.size + 1; omega) (by show w.heap.size + 1 ≠ c; omega) v, h.only.setNew (by show w.heap.size ≤ w.heap.size + 1; omega) v⟩

theorem FinAt.set2 {v0 v1 v2 : Array Value} (h : FinAt c B w gP lP aP b r d la lh cs S x v0 v1 v2 u) (i : Nat) (v : Value) : FinAt c B w gP lP aP b r d la lh cs S x v0 v1 (v2.setIfInBounds i v) (u.setCell ⟨w.heap.size + 1 + 1, i, none⟩ v) := by
  have hp := h.pos
  have hne : ∀ {q : Nat}, q ≠ w.heap.size + 1 + 1 → (u.setCell ⟨w.heap.size + 1 + 1, i, none⟩ v).heap[q]? = u.heap[q]? := fun e => Below.heap_setCell _ _ _ _ e
  exact ⟨(hne (by omega)).trans h.r0, (hne (by omega)).trans h.r1, set_cells h.r2 i v, (hne (by omega)).trans h.g, (hne (by omega)).trans h.l, (hne (by omega)).trans h.a, h.pos, h.out, Kn.ownSet arrK h.own (p := ⟨w.heap.size + 1 + 1, i, none⟩) (fun q hq e => h.out.2.2 ((show q = w.heap.size + 1 + 1 from e) ▸ hq)) v, h.cur.setNew (by show B ≤ w.heap.size + 1 + 1; omega) (by show w.heap.size + 1 + 1 ≠ c; omega) v, h.only.setNew (by show w.heap.size ≤ w.heap.size + 1 + 1; omega) v⟩

theorem FinAt.drew {v0 v1 v2 : Array Value} (h : FinAt c B w gP lP aP b r d la lh cs S x v0 v1 v2 u) : FinAt c B w gP lP aP b r d la lh cs S x v0 v1 v2 u.drew :=
  ⟨h.r0, h.r1, h.r2, h.g, h.l, h.a, h.pos, h.out, arrK.same h.own (fun _ _ => rfl), h.cur, h.only.drew⟩

theorem sense_near {ga gb gr gd bk rw : Int} {x : Arr} (h : ArrOk ga gb gr gd x) (hr : AdOk ga gb gr gd bk rw 0) (la lh : Int) :
    ∃ i : Nat, bk * gr + rw = i ∧ ArrOk ga gb gr gd (senseF gr gd la lh x i rw) := by
  obtain ⟨i, D, h1, h2, _, h4, _⟩ := row_near h hr
  refine ⟨i, h1, sense_ok h ?_⟩
  rw [h2, Int.toNat_natCast]
  exact h4

set_option maxHeartbeats 16000000 in
set_option maxRecDepth 100000 in
theorem l14Case_any {c B : Nat} {w : World} (hc : Cur c B w) : Calls Try.prog 43 #[.pointer (some ⟨c, 0, none⟩)] w (DrewC c B w) := by
  have hcl := hc.lt
  have hBc : B ≤ c := by obtain ⟨_, _, _, _, _, _, _, h, _⟩ := hc; exact h
  obtain ⟨w1, hw1⟩ : ∃ u, ((w.alloc (.cells #[.int .i64 0, .int .i64 0, .int .i64 0, .int .i64 0] 25)).alloc (.cells #[.int .i64 0, .int .i64 0] 27)).alloc (.cells #[.slice none 0 0, .slice none 0 0, .slice none 0 0] 31) = u := ⟨_, rfl⟩
  obtain ⟨r01, r11, r21, hb1⟩ := alloc3 hw1
  have HC1 : Hid (Cur c B w1) := by subst hw1; exact ((hc.alloc _).alloc _).alloc _
  have HO1 : Hid (Only c w w1) := by subst hw1; exact (((Only.refl c w).alloc _).alloc _).alloc _
  have hs1 : w.heap.size + 3 ≤ w1.heap.size := by subst hw1; simp
  clear hc hb1
  go_enter Try.func43, Try.ntmps43
  go_wp2_with fail
  clear hw1
  refine (l14Small_any HC1.out).mono ?_
  rintro e w2 ⟨b, r, d, rfl, hb, hr, hd, hc2, ho2⟩
  have HG : Hid ((1 ≤ b ∧ b ≤ 2) ∧ (2 ≤ r ∧ r ≤ 4) ∧ (1 ≤ d ∧ d ≤ 2)) := ⟨hb, hr, hd⟩
  have HGO : Hid (GeoOk 1 b r d) := ⟨by omega, by omega, by omega, by omega⟩
  have r02 := (ho2.block _ (lt_of_block r01) (by omega)).trans r01
  have r12 := (ho2.block _ (lt_of_block r11) (by omega)).trans r11
  have r22 := (ho2.block _ (lt_of_block r21) (by omega)).trans r21
  have hs2 : w.heap.size + 3 ≤ w2.heap.size := Nat.le_trans hs1 ho2.size
  have hb3 : Below w2.heap.size w2 (w2.alloc (.cells #[.int .i64 1, .int .i64 b, .int .i64 r, .int .i64 d] 25)) := (Below.refl _ _).alloc (Nat.le_refl _) _
  have HC3 : Hid (Cur c B (w2.alloc (.cells #[.int .i64 1, .int .i64 b, .int .i64 r, .int .i64 d] 25))) := hc2.alloc _
  have HO3 : Hid (Only c w (w2.alloc (.cells #[.int .i64 1, .int .i64 b, .int .i64 r, .int .i64 d] 25))) := (HO1.out.trans ho2).alloc _
  have r03 := keep_block hb3 r02 (lt_of_block r02)
  have r13 := keep_block hb3 r12 (lt_of_block r12)
  have r23 := keep_block hb3 r22 (lt_of_block r22)
  have g3 := heap_alloc_new w2 (.cells #[.int .i64 1, .int .i64 b, .int .i64 r, .int .i64 d] 25)
  have HGP : Hid (w.heap.size + 3 ≤ w2.heap.size) := hs2
  clear hb hr hd hc2 ho2 r01 r11 r21 r02 r12 r22 HC1 HO1 hs1 hb3
  go_wp2_with fail
  generalize w2.alloc (.cells #[.int .i64 1, .int .i64 b, .int .i64 r, .int .i64 d] 25) = w3 at HC3 HO3 r03 r13 r23 g3 ⊢
  generalize w2.heap.size = gP at g3 HGP hs2 ⊢
  clear hs2
  refine (l14Limits_any HC3.out).mono ?_
  rintro e w4 ⟨la, lh, rfl, hla, hlh, hc4, ho4⟩
  have HL : Hid ((0 ≤ la ∧ la ≤ 100) ∧ (0 ≤ lh ∧ lh ≤ 20)) := ⟨hla, hlh⟩
  have hgl : gP < w3.heap.size := lt_of_block g3
  have hgp := HGP.out
  have r04 := (ho4.block _ (lt_of_block r03) (by omega)).trans r03
  have r14 := (ho4.block _ (lt_of_block r13) (by omega)).trans r13
  have r24 := (ho4.block _ (lt_of_block r23) (by omega)).trans r23
  have g4 := (ho4.block _ (lt_of_block g3) (by omega)).trans g3
  have hs4 : w.heap.size + 3 ≤ w4.heap.size := by have := ho4.size; omega
  have hb5 : Below w4.heap.size w4 (w4.alloc (.cells #[.int .i64 la, .int .i64 lh] 27)) := (Below.refl _ _).alloc (Nat.le_refl _) _
  have HC5 : Hid (Cur c B (w4.alloc (.cells #[.int .i64 la, .int .i64 lh] 27))) := hc4.alloc _
  have HO5 : Hid (Only c w (w4.alloc (.cells #[.int .i64 la, .int .i64 lh] 27))) := (HO3.out.trans ho4).alloc _
  have r05 := keep_block hb5 r04 (lt_of_block r04)
  have r15 := keep_block hb5 r14 (lt_of_block r14)
  have r25 := keep_block hb5 r24 (lt_of_block r24)
  have g5 := keep_block hb5 g4 (lt_of_block g4)
  have l5 := heap_alloc_new w4 (.cells #[.int .i64 la, .int .i64 lh] 27)
  have HLP : Hid (w.heap.size + 3 ≤ w4.heap.size) := hs4
  obtain ⟨x0, x1, x2, x3⟩ := cells4 g5
  clear hla hlh hc4 ho4 r03 r13 r23 r04 r14 r24 g3 g4 HC3 HO3 hb5 hgl hgp
  go_wp2_with fail
  clear x0 x1 x2 x3
  generalize w4.alloc (.cells #[.int .i64 la, .int .i64 lh] 27) = w5 at HC5 HO5 r05 r15 r25 g5 l5 ⊢
  generalize w4.heap.size = lP at l5 HLP hs4 ⊢
  clear hs4
  refine (specArrayNew_is 1 b r d _).mono ?_
  rintro e w6 ⟨cs, S, rfl, own6, hS6, hb6⟩
  obtain ⟨a0, n0, c0, a1, n1, c1, a2, n2, c2, rfl, _, _, _⟩ := arr_rd (arrK.read own6)
  have HS6 : Hid (∀ g ∈ S, w5.heap.size ≤ g) := hS6
  have HC6 : Hid (Cur c B w6) := HC5.out.keep (hb6.block c HC5.out.lt) (hb6.mono (by have := HC5.out.lt; omega))
  have HO6 : Hid (Only c w w6) := HO5.out.later hb6
  have r06 := keep_block hb6 r05 (lt_of_block r05)
  have r16 := keep_block hb6 r15 (lt_of_block r15)
  have r26 := keep_block hb6 r25 (lt_of_block r25)
  have g6 := keep_block hb6 g5 (lt_of_block g5)
  have l6 := keep_block hb6 l5 (lt_of_block l5)
  have hO6 : arrK.own w6 S [.slice a0 n0 c0, .slice a1 n1 c1, .slice a2 n2 c2] (newA 1 b r d) := own6
  have hb7 : Below w6.heap.size w6 (w6.alloc (.cells #[.slice a0 n0 c0, .slice a1 n1 c1, .slice a2 n2 c2] 31)) := (Below.refl _ _).alloc (Nat.le_refl _) _
  have a7 := heap_alloc_new w6 (.cells #[.slice a0 n0 c0, .slice a1 n1 c1, .slice a2 n2 c2] 31)
  have D7 : Hid (CaseAt c B w gP lP w6.heap.size b r d la lh [.slice a0 n0 c0, .slice a1 n1 c1, .slice a2 n2 c2] 0 S (newA 1 b r d) (w6.alloc (.cells #[.slice a0 n0 c0, .slice a1 n1 c1, .slice a2 n2 c2] 31))) := by
    have hlt := arrK.lt own6
    have e1 := lt_of_block g5
    have e2 := lt_of_block l5
    have e3 := lt_of_block r25
    have e4 := lt_of_block r05
    have e5 := hb6.size
    have e6 := HGP.out
    have e7 := HLP.out
    have e8 := HO5.out.size
    refine ⟨keep_block hb7 r06 (lt_of_block r06), keep_block hb7 r16 (lt_of_block r16), keep_block hb7 r26 (lt_of_block r26), keep_block hb7 g6 (lt_of_block g6), keep_block hb7 l6 (lt_of_block l6), a7, ⟨e6, e7, by omega, hcl, hBc⟩, ⟨fun h => ?_, fun h => ?_, fun h => ?_, fun h => ?_, fun h => ?_, fun h => ?_⟩, arrK.ownBelow hO6 hb7, fun g hg => by have := hS6 g hg; omega, newA_ok HGO.out, ?_, ?_, HC6.out.alloc _, HO6.out.alloc _⟩
    · have := hS6 _ h; omega
    · have := hS6 _ h; omega
    · have := hlt _ h; omega
    · have := hS6 _ h; omega
    · have := hS6 _ h; omega
    · have := hS6 _ h; omega
    · intro v hv
      unfold newA at hv
      rw [List.mem_replicate] at hv
      omega
    · intro v hv
      unfold newA at hv
      rw [List.mem_replicate] at hv
      omega
  clear own6 hS6 hb6 r05 r15 r25 g5 l5 r06 r16 r26 g6 l6 hO6 hb7 a7 HC5 HO5 HC6 HO6 HS6
  go_wp2_with fail
  generalize w6.alloc (.cells #[.slice a0 n0 c0, .slice a1 n1 c1, .slice a2 n2 c2] 31) = w7 at D7 ⊢
  generalize w6.heap.size = aP at D7 ⊢
  go_loopw [8] (fun i wr => ∃ (k : Nat) (S : List Nat) (x : Arr), k ≤ 20 ∧ i = .int .i64 (k : Int) ∧ CaseAt c B w gP lP aP b r d la lh [.slice a0 n0 c0, .slice a1 n1 c1, .slice a2 n2 c2] k S x wr) (fun i _ => 21 - (intOf i).toNat)
  case atStart => exact ⟨0, S, _, by decide, rfl, D7.out⟩
  case round =>
    obtain ⟨k, T, x, hk, rfl, hD⟩ := hrel
    have D := Lib.hid hD
    clear hD D7
    go_wp2_with fail
    refine (l01Below_any D.out.cur 20 (by omega)).mono ?_
    rintro e w8 ⟨y, rfl, hy0, hy1, hc8, ho8⟩
    rw [topOf_pos (by omega)] at hy1
    have D8 := Lib.hid (D.out.draw hc8 ho8)
    clear hc8 ho8 D
    by_cases hlt : (k : Int) < y
    case neg =>
      have t0 : decide ((k : Int) < y) = false := decide_eq_false hlt
      have hk20 : Hid (k ≤ 20) := hk
      clear hlt hy0 hy1
      go_wp2_with fail
      have HBASE := Lib.hid D8.out.base
      have HOK := Lib.hid D8.out.ok
      have HAGE : Hid (∀ v ∈ x.2.1, v ≤ 600) := fun v hv => by have := D8.out.age v hv; have := hk20.out; omega
      have HHIT : Hid (∀ v ∈ x.2.2, v ≤ 20) := fun v hv => by have := D8.out.hit v hv; have := hk20.out; omega
      refine wp_region_float (A := ?A) [.h, .h, .h, .t, .t, .e] (by kernel_rfl) (by kernel_rfl) (fun u => u.heap[gP]? = some (.cells #[.int .i64 1, .int .i64 b, .int .i64 r, .int .i64 d] 25) ∧ u.heap[lP]? = some (.cells #[.int .i64 la, .int .i64 lh] 27) ∧ u.heap[aP]? = some (.cells #[.slice a0 n0 c0, .slice a1 n1 c1, .slice a2 n2 c2] 31)) ?hC ?hH ?hT
      case hC => exact ⟨D8.out.g, D8.out.l, D8.out.a⟩
      case hH =>
        rintro u ⟨hu0, hu1, hu2⟩
        obtain ⟨p0, p1, p2, p3⟩ := cells4 hu0
        obtain ⟨q0, q1⟩ := cells2 hu1
        obtain ⟨s0, s1, s2⟩ := cells3 hu2
        have y0 := fun q : Same u => q.cell p0
        have y1 := fun q : Same u => q.cell p1
        have y2 := fun q : Same u => q.cell p2
        have y3 := fun q : Same u => q.cell p3
        have y4 := fun q : Same u => q.cell q0
        have y5 := fun q : Same u => q.cell q1
        have y6 := fun q : Same u => q.cell s0
        have y7 := fun q : Same u => q.cell s1
        have y8 := fun q : Same u => q.cell s2
        simp only [headsOf]
        repeat (go_big_quiet_step (fail))
        refine wpQuiet_nil ?_
        exact rfl
      case hT =>
        simp only [chainT]
        have F0 := D8.out.fin
        have F1 := Lib.hid (((((F0.set0 0 (.int .i64 1)).set0 1 (.int .i64 b)).set0 2 (.int .i64 r)).set0 3 (.int .i64 d)).drew)
        obtain ⟨u1, hu1⟩ : ∃ u, ((((w8.setCell ⟨w.heap.size, 0, none⟩ (.int .i64 1)).setCell ⟨w.heap.size, 1, none⟩ (.int .i64 b)).setCell ⟨w.heap.size, 2, none⟩ (.int .i64 r)).setCell ⟨w.heap.size, 3, none⟩ (.int .i64 d)).drew = u := ⟨_, rfl⟩
        rw [hu1] at F1
        obtain ⟨z0, z1, z2, z3⟩ := cells4 D8.out.r0
        have fz0 := thawed D8.out.r0 0
        have fz1 := thawed D8.out.r0 1
        have fz2 := thawed D8.out.r0 2
        have fz3 := thawed D8.out.r0 3
        clear F0 D8
        go_wp2_with fail
        clear z0 z1 z2 z3 fz0 fz1 fz2 fz3
        refine stepQ_normal ⟨And.intro F1.out.g (And.intro F1.out.l F1.out.a), ?_⟩
        clear hu1
        have F2 := Lib.hid ((F1.out.set1 0 (.int .i64 la)).set1 1 (.int .i64 lh))
        obtain ⟨y0, y1⟩ := cells2 F1.out.r1
        have f0 := thawed F1.out.r1 0
        have f1 := thawed F1.out.r1 1
        obtain ⟨u2, hu2⟩ : ∃ u, (u1.setCell ⟨w.heap.size + 1, 0, none⟩ (.int .i64 la)).setCell ⟨w.heap.size + 1, 1, none⟩ (.int .i64 lh) = u := ⟨_, rfl⟩
        rw [hu2] at F2
        clear F1
        go_wp2_with fail
        refine stepQ_normal ⟨And.intro F2.out.g (And.intro F2.out.l F2.out.a), ?_⟩
        clear y0 y1 f0 f1
        clear hu2
        have F3 := Lib.hid (((F2.out.set2 0 (.slice a0 n0 c0)).set2 1 (.slice a1 n1 c1)).set2 2 (.slice a2 n2 c2))
        obtain ⟨y0, y1, y2⟩ := cells3 F2.out.r2
        have f0 := thawed F2.out.r2 0
        have f1 := thawed F2.out.r2 1
        have f2 := thawed F2.out.r2 2
        obtain ⟨u3, hu3⟩ : ∃ u, ((u2.setCell ⟨w.heap.size + 1 + 1, 0, none⟩ (.slice a0 n0 c0)).setCell ⟨w.heap.size + 1 + 1, 1, none⟩ (.slice a1 n1 c1)).setCell ⟨w.heap.size + 1 + 1, 2, none⟩ (.slice a2 n2 c2) = u := ⟨_, rfl⟩
        rw [hu3] at F3
        clear F2
        go_wp2_with fail
        refine stepQ_normal ⟨trivial, ?_⟩
        clear y0 y1 y2 f0 f1 f2
        clear hu3
        have p0 : u3.heap[w.heap.size]? = some (.cells #[.int .i64 1, .int .i64 b, .int .i64 r, .int .i64 d] 25) := F3.out.r0
        have p1 : u3.heap[w.heap.size + 1]? = some (.cells #[.int .i64 la, .int .i64 lh] 27) := F3.out.r1
        have p2 : u3.heap[w.heap.size + 1 + 1]? = some (.cells #[.slice a0 n0 c0, .slice a1 n1 c1, .slice a2 n2 c2] 31) := F3.out.r2
        obtain ⟨y0, y1, y2, y3⟩ := cells4 p0
        obtain ⟨y4, y5⟩ := cells2 p1
        obtain ⟨y6, y7, y8⟩ := cells3 p2
        go_wp2
        (try simp only [Exit.inBlock, Exit.then])
        refine bodyPost_ret (v := .tuple #[.agg #[.int .i64 1, .int .i64 b, .int .i64 r, .int .i64 d], .agg #[.int .i64 la, .int .i64 lh], .agg #[.slice a0 n0 c0, .slice a1 n1 c1, .slice a2 n2 c2]]) ?_ rfl ⟨b, r, d, la, lh, _, T, x, rfl, HG.out, HL.out, HOK.out, HAGE.out, HHIT.out, F3.out.own, HBASE.out, F3.out.cur, F3.out.only⟩
        simp [results, Try.results43, go_sem, y0, y1, y2, y3, y4, y5, y6, y7, y8]
    have t0 : decide ((k : Int) < y) = true := decide_eq_true hlt
    have hk19 : k ≤ 18 := by omega
    have wk : IntKind.i64.wrap ((k : Int) + 1) = (k : Int) + 1 := IntWalk.i64_in _ (by omega)
    obtain ⟨x0, x1, x2, x3⟩ := cells4 D8.out.g
    clear hlt hy0 hy1
    go_wp2_with fail
    clear x0 x1 x2 x3
    refine (l03Addr_any D8.out.cur 1 b r d HGO.out).mono ?_
    rintro e w9 ⟨ax, ay, az, rfl, hao, hc9, ho9⟩
    have D9 := D8.out.draw hc9 ho9
    have HAO := Lib.hid hao
    have hb10 : Below w9.heap.size w9 (w9.alloc (.cells #[.int .i64 ax, .int .i64 ay, .int .i64 az] 37)) := (Below.refl _ _).alloc (Nat.le_refl _) _
    have D10 := Lib.hid (D9.later hb10)
    have t10 := heap_alloc_new w9 (.cells #[.int .i64 ax, .int .i64 ay, .int .i64 az] 37)
    have htc : c < w9.heap.size := hc9.lt
    have hTT : ∀ g ∈ T, g < w9.heap.size := arrK.lt D9.own
    have HTT := Lib.hid hTT
    clear hc9 ho9 D9 hb10 D8 hao hTT
    go_wp2_with fail
    generalize w9.alloc (.cells #[.int .i64 ax, .int .i64 ay, .int .i64 az] 37) = w10 at D10 t10 ⊢
    generalize w9.heap.size = tP at t10 htc HTT ⊢
    have HTC := Lib.hid htc
    refine (l01Below_any D10.out.cur 4 (by omega)).mono ?_
    rintro e w11 ⟨q, rfl, hq0, hq1, hc11, ho11⟩
    rw [topOf_pos (by omega)] at hq1
    have D11 := Lib.hid (D10.out.draw hc11 ho11)
    have t11 := (ho11.block _ (lt_of_block t10) (by omega)).trans t10
    clear hc11 ho11 D10 t10
    by_cases hqa : q = 0
    · subst hqa
      clear hq0 hq1
      go_wp2_with fail
      refine (l01Below_any D11.out.cur 30 (by omega)).mono ?_
      rintro e w12 ⟨n, rfl, hn0, hn1, hc12, ho12⟩
      rw [topOf_pos (by omega)] at hn1
      have D12 := Lib.hid (D11.out.draw hc12 ho12)
      clear hc12 ho12 D11 t11
      go_wp2_with fail
      refine (specTime_is (n := n) D12.out.a D12.out.own D12.out.out.2.2.1 ⟨hn0, by omega⟩ D12.out.ok.2.2.2.2.2.1).mono ?_
      rintro e w13 ⟨rfl, own13, ho13⟩
      have D13 := Lib.hid (D12.out.turn ho13 own13 (time_ok D12.out.ok hn0) (fun v hv => by have := time_age (n := n) (k := (k : Int)) ⟨hn0, by omega⟩ D12.out.age v hv; omega) (fun v hv => by have := D12.out.hit v hv; omega))
      clear own13 ho13 D12
      go_wp2_with fail
      go_roundw
      case rel => exact ⟨k + 1, _, _, by omega, by go_num, D13.out⟩
      case measure => simp [intOf]; omega
    · have tq0 : (q == 0) = false := by simpa using hqa
      by_cases hqb : q = 1
      · subst hqb
        clear hq0 hq1 tq0 hqa
        obtain ⟨j, hj, hjl⟩ := cell_index D11.out.ok HAO.out
        have HJ := Lib.hid hj
        have HJL := Lib.hid hjl
        obtain ⟨gA, oA, nA, cA, _, _, eA, hjn, hnm, hgA, _, _, _, _⟩ := cell_put D11.out.own hjl
        cases eA
        unfold maxLen at hnm
        have HGA := Lib.hid hgA
        have hjn' : (j : Int) < (n0 : Int) := by omega
        clear hj hjl
        go_wp2_with fail
        refine wp_region_float (A := ?A2) [.h, .h, .h, .h, .t, .h, .t, .h, .t, .t, .t, .e] (by kernel_rfl) (by kernel_rfl) (fun q => q.heap[aP]? = some (.cells #[.slice (some ⟨gA, oA, none⟩) n0 c0, .slice a1 n1 c1, .slice a2 n2 c2] 31 (0, 0)) ∧ q.heap[gP]? = some (.cells #[.int .i64 1, .int .i64 b, .int .i64 r, .int .i64 d] 25 (0, 0)) ∧ q.heap[tP]? = some (.cells #[.int .i64 ax, .int .i64 ay, .int .i64 az] 37 (0, 0))) ?hC2 ?hH2 ?hT2
        case hC2 => exact ⟨D11.out.a, D11.out.g, t11⟩
        case hH2 =>
          intro q hq
          obtain ⟨h0, h1, h2⟩ := hq
          obtain ⟨p0, p1, p2⟩ := cells3 h0
          obtain ⟨x0, x1, x2, x3⟩ := cells4 h1
          obtain ⟨y0, y1, y2⟩ := cells3 h2
          have z0 := fun t : Same q => t.cell p0
          have z1 := fun t : Same q => t.cell x0
          have z2 := fun t : Same q => t.cell x1
          have z3 := fun t : Same q => t.cell x2
          have z4 := fun t : Same q => t.cell x3
          have z5 := fun t : Same q => t.cell y0
          have z6 := fun t : Same q => t.cell y1
          have z7 := fun t : Same q => t.cell y2
          simp only [headsOf]
          repeat (go_big_quiet_step (fail))
          refine wpQuiet_nil ?_
          exact rfl
        case hT2 =>
          simp only [chainT]
          have hdr : Below w11.heap.size w11 w11.drew := ⟨rfl, rfl, rfl, Nat.le_refl _, fun _ _ => rfl⟩
          have DD := Lib.hid (D11.out.later hdr)
          have td : w11.drew.heap[tP]? = some (.cells #[.int .i64 ax, .int .i64 ay, .int .i64 az] 37 (0, 0)) := t11
          clear D11 t11 hdr
          generalize w11.drew = w6 at *
          go_wp2_with fail
          refine (specIndex_is 1 b r d ax ay az (j : Int) HJ.out _).mono ?_
          rintro e w12 ⟨rfl, hb12⟩
          have D12 := Lib.hid (DD.out.later hb12)
          have t12 := keep_block hb12 td (lt_of_block td)
          have k12 := And.intro D12.out.a (And.intro D12.out.g t12)
          clear hb12 DD td
          go_wp2_with fail
          refine stepQ_normal ⟨k12, ?_⟩
          go_wp2_with fail
          refine (l12Bent_any D12.out.cur).mono ?_
          rintro e w13 ⟨ba, bcap, bl, rfl, hcap, hsym, hown, hc13, ho13⟩
          have D13 := Lib.hid (D12.out.draw hc13 ho13)
          have t13 := (ho13.block _ (lt_of_block t12) (by have := HTC.out; omega)).trans t12
          have k13 := And.intro D13.out.a (And.intro D13.out.g t13)
          have hcw : c < w12.heap.size := D12.out.cur.lt
          have hTw : ∀ g ∈ T, g < w12.heap.size := arrK.lt D12.out.own
          have HSYM := Lib.hid hsym
          have HOW := Lib.hid hown
          have HCAP := Lib.hid hcap
          have HNW : Hid (gP < w12.heap.size ∧ lP < w12.heap.size ∧ aP < w12.heap.size ∧ w.heap.size + 3 ≤ w12.heap.size) := ⟨lt_of_block D12.out.g, lt_of_block D12.out.l, lt_of_block D12.out.a, by have := lt_of_block D12.out.g; have := D12.out.pos; omega⟩
          have HTW := Lib.hid hTw
          have HCW := Lib.hid hcw
          clear hc13 ho13 D12 t12 k12 hsym hown hcap hTw hcw
          go_wp2_with fail
          refine stepQ_normal ⟨k13, ?_⟩
          go_wp2_with fail
          refine (l01Once_any D13.out.cur 5 (by omega)).mono ?_
          rintro e w14 ⟨pb, rfl, hc14, ho14⟩
          have D14 := Lib.hid (D13.out.draw hc14 ho14)
          have t14 := (ho14.block _ (lt_of_block t13) (by have := HTC.out; omega)).trans t13
          have k14 := And.intro D14.out.a (And.intro D14.out.g t14)
          have hbl : bl.length = 11 := by have := HSYM.out.2; omega
          have hOW14 := HOW.out.only ho14 HCW.out
          obtain ⟨TB, hTB, hTB2⟩ := ints_of_own (hOW14.toJ hbl) HCAP.out (by unfold maxLen; omega)
          have hTBN : ∀ g ∈ TB, w12.heap.size ≤ g := fun g hg => by
            rcases hTB2 with ⟨_, h⟩ | ⟨_, g', o', _, h, hB⟩
            · rw [h] at hg; cases hg
            · rw [h, List.mem_singleton] at hg; omega
          obtain ⟨_, _, _, _, _, _, e8, _, _, _, ⟨o8, hc8⟩, ⟨o8', hc8'⟩, hf8, hput⟩ := cell_put D14.out.own HJL.out
          cases e8
          obtain ⟨S9, hS9, own9⟩ := hput TB ba 11 bcap (bl, pb) pb (cell_of pb hTB) (fun g hg hg' => by have := hTBN g hg; have := HTW.out g hg'; omega)
          have f80 := hf8 (oA + j * 2)
          have f81 := hf8 (oA + j * 2 + 1)
          have ho9 : OnlyS T w14 ((w14.setCell ⟨gA, oA + j * 2, none⟩ (.slice ba 11 bcap)).setCell ⟨gA, oA + j * 2 + 1, none⟩ (.bool pb)) := ((OnlyS.refl T w14).setCell (p := ⟨gA, oA + j * 2, none⟩) HGA.out _).setCell (p := ⟨gA, oA + j * 2 + 1, none⟩) HGA.out _
          have D15 := Lib.hid (D14.out.swap w12.heap.size HNW.out ho9 own9 (fun g hg => by
            rcases hS9 g hg with h | h
            · exact .inl h
            · exact .inr (hTBN g h)) (put_ok D14.out.ok HSYM.out j) (fun v hv => by have := D14.out.age v hv; omega) (fun v hv => by have := D14.out.hit v hv; omega))
          clear hTB hTB2 hTBN hput hf8 own9 hS9 ho9 hOW14 hc14 ho14 D13 t13 k13 D14 t14
          go_wp2_with fail
          refine stepQ_normal ⟨k14, ?_⟩
          go_wp2_with fail
          refine stepQ_normal ⟨k14, ?_⟩
          go_wp2_with fail
          refine stepQ_normal ⟨k14, ?_⟩
          go_wp2_with fail
          refine stepQ_normal ⟨trivial, ?_⟩
          clear k14 hc8 hc8' f80 f81
          go_wp2_with fail
          go_roundw
          case rel => exact ⟨k + 1, _, _, by omega, by go_num, D15.out⟩
          case measure => simp [intOf]; omega
      · have tq1 : (q == 1) = false := by simpa using hqb
        clear hq0 hq1 hqa hqb
        have had0 : AdOk 1 b r d ax ay 0 := ⟨HAO.out.1, HAO.out.2.1, by have := HG.out; omega⟩
        obtain ⟨i, hi, hok⟩ := sense_near D11.out.ok had0 la lh
        have HI := Lib.hid hi
        have HOK := Lib.hid hok
        have HAD := Lib.hid had0
        obtain ⟨p0, p1, p2, p3⟩ := cells4 D11.out.g
        obtain ⟨q0, q1⟩ := cells2 D11.out.l
        obtain ⟨s0, s1, s2⟩ := cells3 t11
        clear hi hok had0
        go_wp2_with fail
        clear p0 p1 p2 p3 q0 q1 s0 s1 s2
        refine (specSense_is 1 b r d la lh ax ay D11.out.a D11.out.own D11.out.out.2.2.1 D11.out.ok HAD.out HI.out).mono ?_
        rintro e w13 ⟨rfl, own13, ho13⟩
        have D13 := Lib.hid (D11.out.turn ho13 own13 HOK.out (fun v hv => by have := sense_age (n := 30 * (k : Int)) (by omega) D11.out.age v hv; omega) (hits_le D11.out.hit))
        clear own13 ho13 D11 t11
        go_wp2_with fail
        go_roundw
        case rel => exact ⟨k + 1, _, _, by omega, by go_num, D13.out⟩
        case measure => simp [intOf]; omega

end Go.Proofs.Ytfpfgaifhmgpiaa

namespace Go.Proofs.Ytfpfgaifhmgpiaa
open Go.RowKit Go.PlainAid

set_option linter.unusedVariables false

/-- A drawn geometry, its limits and a valid array whose ages and hits are small. -/
def DrewA (w : World) (e : Ending) (w' : World) : Prop :=
  ∃ (b r d la lh : Int) (cs : List Value) (S : List Nat) (x : Arr), e = .returned (.tuple #[.agg #[.int .i64 1, .int .i64 b, .int .i64 r, .int .i64 d], .agg #[.int .i64 la, .int .i64 lh], .agg cs.toArray]) ∧
    ((1 ≤ b ∧ b ≤ 2) ∧ (2 ≤ r ∧ r ≤ 4) ∧ (1 ≤ d ∧ d ≤ 2)) ∧ ((0 ≤ la ∧ la ≤ 100) ∧ (0 ≤ lh ∧ lh ≤ 20)) ∧ ArrOk 1 b r d x ∧ (∀ v ∈ x.2.1, v ≤ 600) ∧ (∀ v ∈ x.2.2, v ≤ 20) ∧
    arrK.own w' S cs x ∧ (∀ g ∈ S, w.heap.size ≤ g) ∧ Below w.heap.size w w'

/-- What holds while a drawn array's results are stored: m is where the results lie. -/
structure EndD (m : Nat) (cs : List Value) (S : List Nat) (x : Arr) (w : World) (v0 v1 v2 : Array Value) (u : World) : Prop where
  r0 : u.heap[m]? = some (.cells v0 25)
  r1 : u.heap[m + 1]? = some (.cells v1 27)
  r2 : u.heap[m + 1 + 1]? = some (.cells v2 31)
  out : m ∉ S ∧ m + 1 ∉ S ∧ m + 1 + 1 ∉ S
  own : arrK.own u S cs x
  below : Below m w u

variable {m : Nat} {cs : List Value} {S : List Nat} {x : Arr} {w : World} {v0 v1 v2 : Array Value} {u : World}

theorem EndD.set0 (h : EndD m cs S x w v0 v1 v2 u) (i : Nat) (v : Value) : EndD m cs S x w (v0.setIfInBounds i v) v1 v2 (u.setCell ⟨m, i, none⟩ v) := by
  have hne : ∀ {q : Nat}, q ≠ m → (u.setCell ⟨m, i, none⟩ v).heap[q]? = u.heap[q]? := fun e => Below.heap_setCell _ _ _ _ e
  exact ⟨set_cells h.r0 i v, (hne (by omega)).trans h.r1, (hne (by omega)).trans h.r2, h.out, Kn.ownSet arrK h.own (p := ⟨m, i, none⟩) (fun q hq e => h.out.1 ((show q = m from e) ▸ hq)) v, h.below.setCell (Nat.le_refl _) _⟩

theorem EndD.set1 (h : EndD m cs S x w v0 v1 v2 u) (i : Nat) (v : Value) : EndD m cs S x w v0 (v1.setIfInBounds i v) v2 (u.setCell ⟨m + 1, i, none⟩ v) := by
  have hne : ∀ {q : Nat}, q ≠ m + 1 → (u.setCell ⟨m + 1, i, none⟩ v).heap[q]? = u.heap[q]? := fun e => Below.heap_setCell _ _ _ _ e
  exact ⟨(hne (by omega)).trans h.r0, set_cells h.r1 i v, (hne (by omega)).trans h.r2, h.out, Kn.ownSet arrK h.own (p := ⟨m + 1, i, none⟩) (fun q hq e => h.out.2.1 ((show q = m + 1 from e) ▸ hq)) v, h.below.setCell (by show m ≤ m + 1; omega) _⟩

theorem EndD.set2 (h : EndD m cs S x w v0 v1 v2 u) (i : Nat) (v : Value) : EndD m cs S x w v0 v1 (v2.setIfInBounds i v) (u.setCell ⟨m + 1 + 1, i, none⟩ v) := by
  have hne : ∀ {q : Nat}, q ≠ m + 1 + 1 → (u.setCell ⟨m + 1 + 1, i, none⟩ v).heap[q]? = u.heap[q]? := fun e => Below.heap_setCell _ _ _ _ e
  exact ⟨(hne (by omega)).trans h.r0, (hne (by omega)).trans h.r1, set_cells h.r2 i v, h.out, Kn.ownSet arrK h.own (p := ⟨m + 1 + 1, i, none⟩) (fun q hq e => h.out.2.2 ((show q = m + 1 + 1 from e) ▸ hq)) v, h.below.setCell (by show m ≤ m + 1 + 1; omega) _⟩

theorem EndD.drew (h : EndD m cs S x w v0 v1 v2 u) : EndD m cs S x w v0 v1 v2 u.drew :=
  ⟨h.r0, h.r1, h.r2, h.out, arrK.same h.own (fun _ _ => rfl), h.below.drew⟩

set_option maxHeartbeats 8000000 in
set_option maxRecDepth 100000 in
theorem drawArray_any {a : Option Addr} {len cap cs : Nat} {zs : List Int} {w : World} (hr : IsRow .u8 w a len cap zs) :
    Calls Try.prog 12 #[.slice a len cs] w (DrewA w) := by
  obtain ⟨w1, hw1⟩ : ∃ u, ((w.alloc (.cells #[.int .i64 0, .int .i64 0, .int .i64 0, .int .i64 0] 25)).alloc (.cells #[.int .i64 0, .int .i64 0] 27)).alloc (.cells #[.slice none 0 0, .slice none 0 0, .slice none 0 0] 31) = u := ⟨_, rfl⟩
  obtain ⟨r01, r11, r21, hb1⟩ := alloc3 hw1
  have HB1 := Lib.hid hb1
  have HR1 := Lib.hid (hr.below (fun x h => hr.lt h) hb1)
  clear hb1 hr
  go_enter Try.func12, Try.ntmps12
  go_wp2_with fail
  clear hw1
  refine (l01New_any HR1.out).mono ?_
  rintro e w2 ⟨c, rfl, hBc, hc2, hb2⟩
  have r02 := keep_block hb2 r01 (lt_of_block r01)
  have r12 := keep_block hb2 r11 (lt_of_block r11)
  have r22 := keep_block hb2 r21 (lt_of_block r21)
  have e1 := lt_of_block r21
  have HB2 : Hid (Below w.heap.size w w2) := HB1.out.trans (hb2.mono HB1.out.size)
  have HC2 := Lib.hid hc2
  have hc0 : w.heap.size + 1 + 1 < c := by omega
  have HCW : Hid (w1.heap.size ≤ c) := hBc
  have hs2 := hb2.size
  clear hc2 hb2 r01 r11 r21 hBc
  go_wp2_with fail
  refine (l14Case_any HC2.out).mono ?_
  rintro e w3 ⟨b, r, d, la, lh, ls, S, x, rfl, hg, hl, hok, hage, hhit, own3, hS3, _, ho3⟩
  have r03 := (ho3.block _ (lt_of_block r02) (by omega)).trans r02
  have r13 := (ho3.block _ (lt_of_block r12) (by omega)).trans r12
  have r23 := (ho3.block _ (lt_of_block r22) (by omega)).trans r22
  have HB3 : Hid (Below w.heap.size w w3) := HB2.out.trans (ho3.below (by omega) (by have := HB2.out.size; omega))
  have HS3 : Hid (∀ g ∈ S, w2.heap.size ≤ g) := hS3
  have HS2 : Hid (w1.heap.size ≤ w2.heap.size ∧ w.heap.size + 1 + 1 < w1.heap.size) := ⟨hs2, e1⟩
  obtain ⟨a0, n0, c0, a1, n1, c1, a2, n2, c2, rfl, _, _, _⟩ := arr_rd (arrK.read own3)
  have HG := Lib.hid hg
  have HL := Lib.hid hl
  have HOK := Lib.hid hok
  have HAGE := Lib.hid hage
  have HHIT := Lib.hid hhit
  have hS0 : ∀ g ∈ S, w.heap.size + 1 + 1 < g := fun g hg => by have := HS3.out g hg; have := HS2.out; omega
  have HW3 := Lib.hid (fun g (hg : g ∈ S) => Nat.le_of_lt (Nat.lt_of_le_of_lt (by omega : w.heap.size ≤ w.heap.size + 1 + 1) (hS0 g hg)))
  have F0 : EndD w.heap.size [.slice a0 n0 c0, .slice a1 n1 c1, .slice a2 n2 c2] S x w #[.int .i64 0, .int .i64 0, .int .i64 0, .int .i64 0] #[.int .i64 0, .int .i64 0] #[.slice none 0 0, .slice none 0 0, .slice none 0 0] w3 :=
    ⟨r03, r13, r23, ⟨fun h => by have := hS0 _ h; omega, fun h => by have := hS0 _ h; omega, fun h => by have := hS0 _ h; omega⟩, own3, HB3.out⟩
  have F1 := Lib.hid (((((((((F0.set0 0 (.int .i64 1)).set0 1 (.int .i64 b)).set0 2 (.int .i64 r)).set0 3 (.int .i64 d)).set1 0 (.int .i64 la)).set1 1 (.int .i64 lh)).set2 0 (.slice a0 n0 c0)).set2 1 (.slice a1 n1 c1)).set2 2 (.slice a2 n2 c2))
  obtain ⟨u3, hu3⟩ : ∃ u, ((((((((w3.setCell ⟨w.heap.size, 0, none⟩ (.int .i64 1)).setCell ⟨w.heap.size, 1, none⟩ (.int .i64 b)).setCell ⟨w.heap.size, 2, none⟩ (.int .i64 r)).setCell ⟨w.heap.size, 3, none⟩ (.int .i64 d)).setCell ⟨w.heap.size + 1, 0, none⟩ (.int .i64 la)).setCell ⟨w.heap.size + 1, 1, none⟩ (.int .i64 lh)).setCell ⟨w.heap.size + 1 + 1, 0, none⟩ (.slice a0 n0 c0)).setCell ⟨w.heap.size + 1 + 1, 1, none⟩ (.slice a1 n1 c1)).setCell ⟨w.heap.size + 1 + 1, 2, none⟩ (.slice a2 n2 c2) = u := ⟨_, rfl⟩
  rw [hu3] at F1
  have hn : ∀ (u : World) {k m i : Nat} (v : Value), k ≠ m → (u.setCell ⟨m, i, none⟩ v).heap[k]? = u.heap[k]? := fun u k m i v e => Below.heap_setCell _ _ _ _ e
  obtain ⟨z0, z1, z2, z3⟩ := cells4 r03
  obtain ⟨z4, z5⟩ := cells2 r13
  obtain ⟨z6, z7, z8⟩ := cells3 r23
  have f0 := thawed r03 0
  have f1 := thawed r03 1
  have f2 := thawed r03 2
  have f3 := thawed r03 3
  have f4 := thawed r13 0
  have f5 := thawed r13 1
  have f6 := thawed r23 0
  have f7 := thawed r23 1
  have f8 := thawed r23 2
  clear F0 own3 r03 r13 r23 hS0 hS3 ho3 hc0 hs2 e1 hg hl hok hage hhit hn
  go_wp2_with fail
  clear z0 z1 z2 z3 z4 z5 z6 z7 z8 f0 f1 f2 f3 f4 f5 f6 f7 f8 hu3
  have p0 : u3.heap[w.heap.size]? = some (.cells #[.int .i64 1, .int .i64 b, .int .i64 r, .int .i64 d] 25) := F1.out.r0
  have p1 : u3.heap[w.heap.size + 1]? = some (.cells #[.int .i64 la, .int .i64 lh] 27) := F1.out.r1
  have p2 : u3.heap[w.heap.size + 1 + 1]? = some (.cells #[.slice a0 n0 c0, .slice a1 n1 c1, .slice a2 n2 c2] 31) := F1.out.r2
  obtain ⟨y0, y1, y2, y3⟩ := cells4 p0
  obtain ⟨y4, y5⟩ := cells2 p1
  obtain ⟨y6, y7, y8⟩ := cells3 p2
  go_wp2
  (try simp only [Exit.inBlock, Exit.then])
  refine bodyPost_ret (v := .tuple #[.agg #[.int .i64 1, .int .i64 b, .int .i64 r, .int .i64 d], .agg #[.int .i64 la, .int .i64 lh], .agg #[.slice a0 n0 c0, .slice a1 n1 c1, .slice a2 n2 c2]]) ?_ rfl ⟨b, r, d, la, lh, _, S, x, rfl, HG.out, HL.out, HOK.out, HAGE.out, HHIT.out, F1.out.own, HW3.out, F1.out.below⟩
  simp [results, Try.results12, go_sem, y0, y1, y2, y3, y4, y5, y6, y7, y8]

end Go.Proofs.Ytfpfgaifhmgpiaa

namespace Go.Proofs.Ytfpfgaifhmgpiaa
open Go.RowKit Go.PlainAid

set_option linter.unusedVariables false

theorem getD_setC {α : Type} (l : List α) (i m : Nat) (v d : α) (hm : m < l.length) : (l.set i v).getD m d = if i = m then v else l.getD m d := by
  rw [List.getD_eq_getElem?_getD, List.getElem?_set]
  by_cases e : i = m
  · subst e
    rw [if_pos rfl, if_pos rfl, if_pos hm]
    rfl
  · rw [if_neg e, if_neg e, List.getD_eq_getElem?_getD]

theorem xr_xr {v : Int} (h : 0 ≤ v) (m : Nat) : xr (xr v m) m = v := by
  unfold xr
  rw [Int.toNat_natCast, Nat.xor_assoc, Nat.xor_self, Nat.xor_zero, Int.toNat_of_nonneg h]

end Go.Proofs.Ytfpfgaifhmgpiaa

namespace Go.Proofs.Ytfpfgaifhmgpiaa
open Go.RowKit Go.PlainAid

set_option linter.unusedVariables false

theorem geo_small {b r d : Int} (hg : (1 ≤ b ∧ b ≤ 2) ∧ (2 ≤ r ∧ r ≤ 4) ∧ (1 ≤ d ∧ d ≤ 2)) : GeoOk 1 b r d := ⟨by decide, by omega, by omega, by omega⟩

theorem bank_small {b r d : Int} (hg : (1 ≤ b ∧ b ≤ 2) ∧ (2 ≤ r ∧ r ≤ 4) ∧ (1 ≤ d ∧ d ≤ 2)) : bankN 1 b r d = b := by
  unfold bankN
  rw [if_pos (geo_small hg), Int.one_mul]

theorem arr_fit {ga gb gr gd : Int} {x : Arr} (h : ArrOk ga gb gr gd x) : ArrFit x := by
  obtain ⟨hg, h0, h1, h2, h3, _⟩ := h
  have q1 := lineN_range ga gb gr gd
  have q2 := rowsN_range hg
  exact ⟨by omega, fun c hc => by have := (h3 c hc).2; omega, by omega, by omega⟩

/-- A symbol turned once and turned back, as the loads show it. -/
theorem flip_math {ga gb gr gd bx br bc ch u : Int} {x : Arr} (h : FlipOk ga gb gr gd x bx br bc ch u) :
    ∃ (s : List Int) (p : Bool) (k m : Nat), ch = k ∧ u = m ∧ k < 11 ∧ s.length = 11 ∧ Els s ∧ m < 16 ∧ ArrOk ga gb gr gd x ∧ AdOk ga gb gr gd bx br bc ∧
      loadF ga gb gr gd x bx br bc = ((s, p), true) ∧
      loadF ga gb gr gd (flippedF ga gb gr gd x bx br bc ch u) bx br bc = ((s.set k (xr (s.getD k 0) m), p), true) ∧
      loadF ga gb gr gd (flippedF ga gb gr gd (flippedF ga gb gr gd x bx br bc ch u) bx br bc ch u) bx br bc = ((s, p), true) := by
  have h' := h
  obtain ⟨hok, had, hch, hu⟩ := h'
  obtain ⟨j, hj, hjl⟩ := cell_index hok had
  obtain ⟨k, rfl⟩ : ∃ k : Nat, ch = k := ⟨ch.toNat, by omega⟩
  obtain ⟨m, rfl⟩ : ∃ m : Nat, u = m := ⟨u.toNat, by have := hu.1; omega⟩
  have hm : m < 16 := by have := hu.2; omega
  obtain ⟨⟨s, p⟩, hc⟩ : ∃ c, x.1.getD j ([], false) = c := ⟨_, rfl⟩
  have hmem : (s, p) ∈ x.1 := by
    rw [← hc, getD_get hjl]
    exact List.getElem_mem _
  obtain ⟨he, hl⟩ := hok.2.2.2.2.1 _ hmem
  have hl : s.length = 11 := by have : ((s.length : Nat) : Int) = 11 := hl; omega
  have hk : k < s.length := by omega
  have hL : ∀ y : Arr, ArrOk ga gb gr gd y → loadF ga gb gr gd y bx br bc = (y.1.getD j ([], false), true) := fun y hy => by
    unfold loadF
    rw [if_pos ⟨hy, had⟩, hj, Int.toNat_natCast]
  have hF : ∀ y : Arr, FlipOk ga gb gr gd y bx br bc (k : Int) (m : Int) → flippedF ga gb gr gd y bx br bc (k : Int) (m : Int) = flipC y j k m := fun y hy => by
    unfold flippedF
    rw [if_pos hy, hj, Int.toNat_natCast, Int.toNat_natCast, Int.toNat_natCast]
  have hflip : ∀ y : Arr, ArrOk ga gb gr gd y → ArrOk ga gb gr gd (flipC y j k m) := by
    intro y hy
    obtain ⟨j', hj', hjl'⟩ := cell_index hy had
    obtain rfl : j' = j := by omega
    obtain ⟨g0, g1, g2, g3, g4, g5, g6⟩ := hy
    refine ⟨g0, by show ((List.length (List.set _ _ _) : Nat) : Int) = _; rw [List.length_set]; exact g1, g2, g3, ?_, g5, g6⟩
    intro c hcm
    have hy0 : SymOk (y.1.getD j' ([], false)).1 11 := by
      rw [getD_get hjl']
      exact g4 _ (List.getElem_mem _)
    rcases List.mem_or_eq_of_mem_set hcm with q | rfl
    · exact g4 c q
    · exact ⟨els_setI hy0.1 _ (xr_el (els_getD hy0.1 _) hm), by rw [List.length_set]; exact hy0.2⟩
  have hok1 := hflip x hok
  have e1 : (flipC x j k m).1.getD j ([], false) = (s.set k (xr (s.getD k 0) m), p) := by
    show (x.1.set j _).getD j _ = _
    rw [getD_setC _ _ _ _ _ hjl, if_pos rfl, hc]
  have hjl1 : j < (flipC x j k m).1.length := by show j < (x.1.set _ _).length; rw [List.length_set]; exact hjl
  have e2 : (flipC (flipC x j k m) j k m).1.getD j ([], false) = (s, p) := by
    show ((flipC x j k m).1.set j _).getD j _ = _
    rw [getD_setC _ _ _ _ _ hjl1, if_pos rfl, e1]
    show ((s.set k _).set k (xr ((s.set k _).getD k 0) m), p) = (s, p)
    rw [getD_setI _ _ _ _ hk, if_pos rfl, xr_xr (els_getD he k).1, List.set_set]
    congr 1
    rw [getD_get hk]
    exact List.set_getElem_self hk
  refine ⟨s, p, k, m, rfl, rfl, by omega, hl, he, hm, hok, had, ?_, ?_, ?_⟩
  · rw [hL x hok, hc]
  · rw [hF x h, hL _ hok1, e1]
  · rw [hF x h, hF _ ⟨hok1, had, hch, hu⟩, hL _ (hflip _ hok1), e2]

/-- A stored cell as the loads show it, and another one. -/
theorem store_math {ga gb gr gd bx br bc ox oy oz : Int} {x : Arr} {c : List Int × Bool} (h : StoreOk ga gb gr gd x bx br bc c) (ho : AdOk ga gb gr gd ox oy oz) :
    loadF ga gb gr gd (storedF ga gb gr gd x bx br bc c) bx br bc = (c, true) ∧
    (idxF ga gb gr gd bx br bc ≠ idxF ga gb gr gd ox oy oz → loadF ga gb gr gd (storedF ga gb gr gd x bx br bc c) ox oy oz = loadF ga gb gr gd x ox oy oz) ∧
    (loadF ga gb gr gd (storedF ga gb gr gd x bx br bc c) ox oy oz).2 = true := by
  have h' := h
  obtain ⟨hok, had, hc⟩ := h'
  obtain ⟨j, hj, hjl⟩ := cell_index hok had
  obtain ⟨i, hi, hil⟩ := cell_index hok ho
  have hs : storedF ga gb gr gd x bx br bc c = (x.1.set j c, x.2) := by
    unfold storedF
    rw [if_pos h, hj, Int.toNat_natCast]
  have hok1 : ArrOk ga gb gr gd (x.1.set j c, x.2) := put_ok (y := c) hok hc j
  rw [hs]
  unfold loadF
  rw [if_pos ⟨hok1, had⟩, if_pos ⟨hok1, ho⟩, if_pos ⟨hok, ho⟩, hj, hi, Int.toNat_natCast, Int.toNat_natCast]
  refine ⟨?_, fun hne => ?_, rfl⟩
  · show ((x.1.set j c).getD j _, true) = _
    rw [getD_setC _ _ _ _ _ hjl, if_pos rfl]
  · show ((x.1.set j c).getD i _, true) = _
    rw [getD_setC _ _ _ _ _ hil, if_neg (fun e => hne (by rw [e]))]

end Go.Proofs.Ytfpfgaifhmgpiaa

namespace Go.Proofs.Ytfpfgaifhmgpiaa
open Go.RowKit Go.PlainAid

set_option linter.unusedVariables false

theorem and15_is {n k : Nat} (hn : n < 2 ^ 62) : bits .and .i64 ((n : Int) / 2 ^ k) 15 = ((n / 2 ^ k % 16 : Nat) : Int) := by
  have e : (n : Int) / 2 ^ k = ((n / 2 ^ k : Nat) : Int) := by simp
  have h : n / 2 ^ k < 2 ^ 63 := Nat.lt_of_le_of_lt (Nat.div_le_self _ _) (by omega)
  rw [e, show (15 : Int) = ((15 : Nat) : Int) from rfl, i64_and_nat _ 15 h (by decide)]
  congr 1
  exact Nat.and_two_pow_sub_one_eq_mod (n / 2 ^ k) 4

set_option maxHeartbeats 4000000 in
set_option maxRecDepth 100000 in
theorem specSymbolsOfWord_is (x : Int) (v : List Int) (hv : symW x = v) (w : World) :
    Calls Try.prog 50 #[.int .i64 x] w (GivesI v w) := by
  by_cases hx : Wd x
  case neg =>
    have KA := Lib.hid (decide_eq_false hx)
    obtain rfl : v = [] := by rw [← hv]; exact symW_no hx
    clear hx hv
    go_enter Try.func50, Try.ntmps50
    go_wp2_with fail
    go_loopw [3, 4] (fun u i wr => u = .slice (some ⟨w.heap.size, 0, none⟩) 0 0 ∧ i = .int .i64 0 ∧ wr = w.alloc (.cells #[] 3)) (fun _ _ _ => 0)
    case atStart => exact ⟨rfl, rfl, by trivial⟩
    case round =>
      obtain ⟨rfl, rfl, rfl⟩ := hrel
      go_wp2_with fail
      refine (specIsWord_is x false KA.out _).mono ?_
      rintro e w2 ⟨rfl, rfl⟩
      go_wp2_with fail
      go_ret
      exact ⟨_, _, rfl, World.ownsRow_made (base := w.heap.size) (e := 3) (size := 1) w #[] 0 (Nat.le_refl _) (by decide) rfl, (Below.refl _ _).alloc (Nat.le_refl _) _⟩
  have KA := Lib.hid (decide_eq_true hx)
  obtain ⟨n, rfl⟩ := Int.eq_ofNat_of_zero_le hx.1
  obtain rfl : v = ints (grp n 8) := by rw [← hv]; exact symW_nat hx
  have hn : n < 4294967296 := by have := hx.2; omega
  obtain ⟨i0, hi, hz0, hz1, hz2⟩ := info_parts infoI
  clear hx hv
  go_enter Try.func50, Try.ntmps50
  go_wp2_with fail
  go_loopw [3, 4] (fun u i wr => ∃ k : Nat, k ≤ 8 ∧ i = .int .i64 k ∧ OwnI w.heap.size u (ints (grp n k)) wr ∧ Below w.heap.size w wr) (fun _ i _ => 9 - (intOf i).toNat)
  case atStart => exact ⟨0, by omega, rfl, World.ownsRow_made (base := w.heap.size) (e := 3) (size := 1) w #[] 0 (Nat.le_refl _) (by decide) rfl, (Below.refl _ _).alloc (Nat.le_refl _) _⟩
  case round =>
    obtain ⟨k, hk, rfl, hown, hbr⟩ := hrel
    have hsr := hbr.size
    by_cases hlt : k < 8
    case neg =>
      obtain rfl : k = 8 := by omega
      (try rw [show ((8 : Nat) : Int) = 8 from rfl])
      obtain ⟨a, c, hv⟩ := hown.shape
      subst hv
      have HO := Lib.hid hown
      have HB := Lib.hid hbr
      clear hown hbr
      go_wp2_with fail
      go_ret
      exact ⟨a, c, rfl, HO.out, HB.out⟩
    have hI : decide ((k : Int) < 8) = true := decide_eq_true (by omega)
    have hI' : (k : Int) < 8 := by omega
    have wk : IntKind.i64.wrap ((k : Int) + 1) = (k : Int) + 1 := IntWalk.i64_in _ (by omega)
    have w4 : IntKind.i64.wrap (4 * (k : Int)) = 4 * (k : Int) := IntWalk.i64_in _ (by omega)
    have HL := Lib.hid (show (ints (grp n k)).length = k by rw [ints_length, grp_length])
    go_wp2_with fail
    refine (specIsWord_is (n : Int) true KA.out _).mono ?_
    rintro e w2 ⟨rfl, rfl⟩
    obtain ⟨g, hg⟩ : ∃ g, n / 16 ^ k % 16 = g := ⟨_, rfl⟩
    have e1 : bits .and .i64 ((n : Int) / 2 ^ (4 * k)) 15 = (g : Int) := by
      rw [← hg, and15_is (by omega), Nat.pow_mul]
    have HG : Hid (ints (grp n k) ++ [(g : Int)] = ints (grp n (k + 1))) := by show _ = _; rw [← hg]; exact grp_step n k
    generalize ints (grp n k) = l at hown HL HG
    clear hg
    go_wp2_with (at_builtin; refine wpList_append_own _ rfl _ _ 29 rfl w.heap.size 3 i0 (.int .i64 0) 1 8 Try.underlying29 hi hz0 hz1 hz2 rfl (by decide) _ _ _ rfl (World.ownsRow.alloc hown _) ⟨wr.heap.size, 0, none⟩ 1 1 [.int .i64 (g : Int)] rfl rfl (cell_one_new _ _ _) (by intro u hu; simp at hu; subst hu; rfl) (by rw [HL.out]; unfold maxLen; omega) (by rw [HL.out]; omega) (by rw [World.size_alloc]; omega) ?_)
    intro v' w3 hown3 hgrow _
    have R : Hid (OwnI w.heap.size v' (ints (grp n (k + 1))) w3) := by show OwnI _ _ _ _; rw [← HG.out]; exact ownI_more hown3
    have HB3 : Hid (Below w.heap.size w w3) := (hbr.alloc hsr _).grown hgrow (by simp; omega) (fun j hj => (World.ownsRow.lt hown j hj).1)
    clear hown3 hgrow hown hbr
    go_wp2_with fail
    go_roundw
    case rel => exact ⟨k + 1, by omega, by go_num, R.out, HB3.out⟩
    case measure => simp [intOf]; omega

theorem specEncodeLine_is (x : Int) (v : List Int) (hv : encI (symW x) = v) (w : World) :
    Calls Try.prog 16 #[.int .i64 x] w (GivesI v w) := by
  have HV := Lib.hid hv
  have hl8 := symW_le x
  obtain ⟨s, hs⟩ : ∃ s, symW x = s := ⟨_, rfl⟩
  rw [hs] at hl8
  have HS := Lib.hid hs
  obtain ⟨m, hm⟩ : ∃ m, s.length = m := ⟨_, rfl⟩
  have HM := Lib.hid hm
  have HV2 : Hid (encI s = v) := by show _ = _; rw [← hs]; exact hv
  rw [hm] at hl8
  clear hv hs hm
  go_enter Try.func16, Try.ntmps16
  go_wp2_with fail
  refine (specSymbolsOfWord_is x s HS.out _).mono ?_
  rintro e w2 ⟨a, c, rfl, own2, hb2⟩
  rw [HM.out] at own2
  (try rw [HM.out])
  have HO := Lib.hid own2.row
  have HB := Lib.hid hb2
  clear own2 hb2
  go_wp2_with fail
  refine (specEncodeSymbols_is HM.out HO.out v HV2.out (by omega)).mono ?_
  rintro e w3 ⟨a2, c2, rfl, own3, hb3⟩
  have HO3 := Lib.hid own3
  have HB3 := Lib.hid hb3
  have HSZ := Lib.hid HB.out.size
  clear own3 hb3
  go_wp2_with fail
  go_ret
  exact ⟨a2, c2, rfl, HO3.out.mono HSZ.out, HB.out.trans (HB3.out.mono HSZ.out)⟩

end Go.Proofs.Ytfpfgaifhmgpiaa

namespace Go.Proofs.Ytfpfgaifhmgpiaa
open Go.RowKit Go.PlainAid

set_option linter.unusedVariables false

set_option maxHeartbeats 2000000 in
theorem sameIntsC_is {a b : Option Addr} {ca cb : Nat} {l : List Int} {w : World} {n : Nat} (hn : l.length = n) (ha : RowI w a l) (hb : RowI w b l) (hl : (n : Int) ≤ 9223372036854775807) :
    Calls Try.prog 59 #[.slice a n ca, .slice b n cb] w (Gives (.bool true) w) := by
  have HN := Lib.hid hn
  have HA := Lib.hid ha
  have HB := Lib.hid hb
  clear hn ha hb
  go_enter Try.func59, Try.ntmps59
  go_wp2_with fail
  go_loopw [5] (fun i wr => ∃ k : Nat, k ≤ n ∧ i = .int .i64 k ∧ Below w.heap.size w wr) (fun i _ => n - (intOf i).toNat)
  case atStart => exact ⟨0, Nat.zero_le _, rfl, Below.refl _ _⟩
  case round =>
    obtain ⟨k, hk, rfl, hbr⟩ := hrel
    have HBR := Lib.hid hbr
    clear hbr
    by_cases hlt : k < n
    · obtain ⟨ba, oa, rfl, ha0⟩ := (HA.out.below HBR.out).at (k := k) (by rw [HN.out]; exact hlt)
      obtain ⟨bb, ob, rfl, hb0⟩ := (HB.out.below HBR.out).at (k := k) (by rw [HN.out]; exact hlt)
      generalize l.getD k 0 = r at ha0 hb0
      have za0 := fun q : Later wr => q.cell ha0
      have zb0 := fun q : Later wr => q.cell hb0
      have te : (r != r) = false := by simp
      clear ha0 hb0
      go_wp2_with fail
      refine wp_region_later (by kernel_rfl) (by kernel_rfl) ?_
      repeat (go_big_quiet_step (fail))
      refine wpQuiet_nil ?_
      rintro w2 ⟨zz, hz⟩
      have HB2 : Hid (Below w.heap.size w w2) := HBR.out.trans ((hz ▸ zz.ok : Below wr.heap.size wr w2).mono HBR.out.size)
      clear za0 zb0 hz zz
      go_wp2
      go_roundw
      case rel => exact ⟨k + 1, by omega, by go_num, HB2.out⟩
      case measure => simp [intOf]; omega
    · go_wp2_with fail
      go_ret
      exact ⟨rfl, HBR.out⟩

theorem place_in {l : List Int} (hl : l.length = 12) (hp : ∀ x ∈ l, 0 ≤ x ∧ x ≤ 9999) (k : Nat) (hk : k < 12) : 0 ≤ l.getD k 0 ∧ l.getD k 0 ≤ 9999 := by
  rw [List.getD_eq_getElem?_getD, List.getElem?_eq_getElem (show k < l.length by omega)]
  exact hp _ (List.getElem_mem _)

theorem tmodN {p : Int} (h : 0 ≤ p) (m : Nat) (hm : 0 < m) : ∃ n : Nat, p.tmod (m : Int) = (n : Int) ∧ n < m := by
  rw [Int.tmod_eq_emod_of_nonneg h]
  have h1 := Int.emod_nonneg p (show (m : Int) ≠ 0 by omega)
  have h2 := Int.emod_lt_of_pos p (show (0 : Int) < (m : Int) by omega)
  exact ⟨(p % (m : Int)).toNat, by omega, by omega⟩

end Go.Proofs.Ytfpfgaifhmgpiaa

namespace Go.Proofs.Ytfpfgaifhmgpiaa
open Go.RowKit Go.PlainAid

set_option linter.unusedVariables false

theorem loadC_at (H : ILoadCell) {ga gb gr gd bx br bc : Int} {cs : List Value} {x : Arr} {c : List Int × Bool} {ok : Bool} {w : World} (hv : loadF ga gb gr gd x bx br bc = (c, ok)) (h : arrK.rd w cs x) (hf : ArrFit x) :
    Calls Try.prog 18 #[.agg #[.int .i64 ga, .int .i64 gb, .int .i64 gr, .int .i64 gd], .agg cs.toArray, .agg #[.int .i64 bx, .int .i64 br, .int .i64 bc]] w (GivesC c ok w) := by
  have := H ga gb gr gd bx br bc cs x w h hf
  rwa [hv] at this

end Go.Proofs.Ytfpfgaifhmgpiaa

namespace Go.Proofs.Ytfpfgaifhmgpiaa
open Go.RowKit Go.PlainAid

set_option linter.unusedVariables false

theorem sameTwo_is {a b : Option Addr} {ca cb : Nat} {l : List Int} {w : World} {m n : Nat} (e : m = n) (hn : l.length = n) (ha : RowI w a l) (hb : RowI w b l) (hl : (n : Int) ≤ 9223372036854775807) :
    Calls Try.prog 59 #[.slice a m ca, .slice b n cb] w (Gives (.bool true) w) := by
  subst e
  exact sameIntsC_is hn ha hb hl

end Go.Proofs.Ytfpfgaifhmgpiaa

namespace Go.Proofs.Ytfpfgaifhmgpiaa
open Go.RowKit Go.PlainAid

set_option linter.unusedVariables false

theorem line_posA {b r d : Int} (hg : (1 ≤ b ∧ b ≤ 2) ∧ (2 ≤ r ∧ r ≤ 4) ∧ (1 ≤ d ∧ d ≤ 2)) : 1 ≤ lineN 1 b r d := by
  unfold lineN
  rw [bank_small hg]
  have h1 : 0 < b * r := Int.mul_pos (by omega) (by omega)
  have h2 : 0 < b * r * d := Int.mul_pos h1 (by omega)
  omega

theorem tmodI {p m : Int} (hp : 0 ≤ p) (hm : 1 ≤ m) : ∃ x : Int, p.tmod m = x ∧ 0 ≤ x ∧ x ≤ m - 1 := by
  obtain ⟨v, e, h⟩ := tmodN hp m.toNat (by omega)
  rw [Int.toNat_of_nonneg (by omega)] at e
  exact ⟨v, e, by omega, by omega⟩

theorem atF_place {b r d q : Int} (h : LnOk 1 b r d q) : ∃ x y z : Int, AdOk 1 b r d x y z ∧ idxF 1 b r d x y z = q ∧ (x, y, z) = (q / d / r, q / d % r, q % d) ∧ atF 1 b r d q = .tuple #[.agg #[.int .i64 x, .int .i64 y, .int .i64 z], .bool true] :=
  ⟨_, _, _, line_addr h, line_index h, rfl, if_pos h⟩

theorem cell_ints {w : World} {a : Option Addr} {n c : Nat} {p : Bool} {S : List Nat} {l : List Int} {p' : Bool} (h : cellK.own w S [.slice a n c, .bool p] (l, p')) : intsK.rd w [.slice a n c] l := by
  obtain ⟨a', n', c', e, h⟩ := cell_rd (cellK.read h)
  rw [← (List.cons.inj e).1] at h
  exact h

set_option maxHeartbeats 2000000 in
theorem sameCell_k {a b : Option Addr} {n ca m cb : Nat} {s : List Int} {p : Bool} {w : World} (ha : intsK.rd w [.slice a n ca] s) (hb : intsK.rd w [.slice b m cb] s) :
    Calls Try.prog 20 #[.agg #[.slice a n ca, .bool p], .agg #[.slice b m cb, .bool p]] w (Gives (.bool true) w) := by
  obtain ⟨w1, hw1⟩ : ∃ u, (w.alloc (.cells #[.slice a n ca, .bool p] 42)).alloc (.cells #[.slice b m cb, .bool p] 42) = u := ⟨_, rfl⟩
  have HB1 : Hid (Below w.heap.size w w1) := by subst hw1; exact ((Below.refl _ _).alloc (Nat.le_refl _) _).alloc (by simp) _
  have g1 : w1.heap[w.heap.size]? = some (.cells #[.slice a n ca, .bool p] 42) := by subst hw1; exact heap_alloc2_old _ _ _
  have p1 : w1.heap[w.heap.size + 1]? = some (.cells #[.slice b m cb, .bool p] 42) := by subst hw1; exact heap_alloc2_new _ _ _
  have la := (Kn.row_len ha).1
  have lb := (Kn.row_len hb).1
  have hml := (Kn.row_len ha).2.2.1
  unfold maxLen at hml
  have HNM : Hid (n = m) := by show _ = _; omega
  have HL : Hid (s.length = m) := lb
  have HML : Hid ((m : Int) ≤ 9223372036854775807) := by show _ ≤ _; omega
  have HA : Hid (RowI w1 a s) := ints_row (intsK.below ha HB1.out)
  have HC : Hid (RowI w1 b s) := ints_row (intsK.below hb HB1.out)
  obtain ⟨c0, c1⟩ := cells2 g1
  obtain ⟨d0, d1⟩ := cells2 p1
  have tpp : (p == p) = true := by simp
  clear ha hb la lb hml
  go_enter Try.func20, Try.ntmps20
  go_wp2_with fail
  refine (sameTwo_is HNM.out HL.out HA.out HC.out HML.out).mono ?_
  rintro e w2 ⟨rfl, hb2⟩
  have HB2 : Hid (Below w.heap.size w w2) := HB1.out.trans (hb2.mono HB1.out.size)
  clear hb2 c0 c1 d0 d1 g1 p1 hw1
  go_wp2_with fail
  go_ret
  exact ⟨rfl, HB2.out⟩

theorem loadS_at {ga gb gr gd bx br bc : Int} {cs : List Value} {x : Arr} {c : List Int × Bool} {ok : Bool} {w : World} (hv : loadF ga gb gr gd x bx br bc = (c, ok)) (h : arrK.rd w cs x) :
    Calls Try.prog 19 #[.agg #[.int .i64 ga, .int .i64 gb, .int .i64 gr, .int .i64 gd], .agg cs.toArray, .agg #[.int .i64 bx, .int .i64 br, .int .i64 bc]] w (GivesC c ok w) := by
  have := specLoadCell_is ga gb gr gd bx br bc h
  rwa [hv] at this

theorem flip_ok {ga gb gr gd bx br bc ch u : Int} {x : Arr} (h : FlipOk ga gb gr gd x bx br bc ch u) : ArrOk ga gb gr gd (flippedF ga gb gr gd x bx br bc ch u) := by
  obtain ⟨hok, had, hch, hu⟩ := id h
  obtain ⟨j, hj, hjl⟩ := cell_index hok had
  unfold flippedF
  rw [if_pos h, hj, Int.toNat_natCast]
  have hy0 : SymOk (x.1.getD j ([], false)).1 11 := by rw [getD_get hjl]; exact hok.2.2.2.2.1 _ (List.getElem_mem _)
  exact put_ok (y := ((x.1.getD j ([], false)).1.set ch.toNat (xr ((x.1.getD j ([], false)).1.getD ch.toNat 0) u.toNat), (x.1.getD j ([], false)).2)) hok ⟨els_setI hy0.1 _ (xr_el (els_getD hy0.1 _) (by have := hu.2; omega)), by rw [List.length_set]; exact hy0.2⟩ j

set_option maxHeartbeats 8000000 in
set_option maxRecDepth 100000 in
theorem fnFlipBack_of (FLIP : Hid IFlipSymbol) (LOAD : Hid ILoadCell) (a0 : Option Addr) (len cap : Nat) (zs : List Int) (w : World) (hr : IsRow .u8 w a0 len cap zs) :
    Calls Try.prog 4 #[.slice a0 len cap] w fun e w' => e = .returned (.bool true) ∧ Below w.heap.size w w' := by
  have hl := hr.len_le
  unfold maxLen at hl
  by_cases hbig : (1048576 : Int) < (len : Int)
  · go_enter Try.func4, Try.ntmps4
    go_wp2_with (go_at_call 11; refine (big_any _ _ _ _ (by omega)).mono ?_; rintro e w' ⟨rfl, rfl⟩)
    go_ret
    exact ⟨rfl, Below.refl _ _⟩
  have HR := Lib.hid hr
  clear hr
  go_enter Try.func4, Try.ntmps4
  go_wp2_with (go_at_call 11; refine (big_any _ _ _ _ (by omega)).mono ?_; rintro e w' ⟨rfl, rfl⟩)
  refine (drawArray_any HR.out).mono ?_
  rintro e w1 ⟨b, r, d, la, lh, cs, S, xx, rfl, hg, hlm, hok, hage, hhit, own1, hs1, hb1⟩
  have HG := Lib.hid hg
  have HLM := Lib.hid hlm
  obtain ⟨xa0, xn0, xc0, xa1, xn1, xc1, xa2, xn2, xc2, rfl, _, _, _⟩ := arr_rd (arrK.read own1)
  have HR1 := Lib.hid (HR.out.below (fun x h => HR.out.lt h) hb1)
  have HB1 := Lib.hid hb1
  have HOK := Lib.hid hok
  have HAGE := Lib.hid hage
  have HHIT := Lib.hid hhit
  clear hb1 hg hlm hok hage hhit
  go_wp2_with fail
  obtain ⟨w2, hw2⟩ : ∃ u, ((w1.alloc (.cells #[.int .i64 1, .int .i64 b, .int .i64 r, .int .i64 d] 25)).alloc (.cells #[.int .i64 la, .int .i64 lh] 27)).alloc (.cells #[.slice xa0 xn0 xc0, .slice xa1 xn1 xc1, .slice xa2 xn2 xc2] 31) = u := ⟨_, rfl⟩
  obtain ⟨gg2, ll2, qx2, hb2⟩ := alloc3 hw2
  have X2 : Hid (arrK.own w2 S [.slice xa0 xn0 xc0, .slice xa1 xn1 xc1, .slice xa2 xn2 xc2] xx) := arrK.ownBelow own1 hb2
  have BX : Hid (∀ g ∈ S, w.heap.size ≤ g) := hs1
  obtain ⟨PG, hPG⟩ : ∃ P, w1.heap.size = P := ⟨_, rfl⟩
  have hlt1 : ∀ g ∈ S, g < PG := fun g hg => by rw [← hPG]; exact arrK.lt own1 g hg
  have HXN : Hid (PG ∉ S ∧ PG + 1 ∉ S ∧ PG + 1 + 1 ∉ S) := ⟨fun h => by have := hlt1 _ h; omega, fun h => by have := hlt1 _ h; omega, fun h => by have := hlt1 _ h; omega⟩
  have HR2 := Lib.hid (HR1.out.below (fun x h => HR1.out.lt h) hb2)
  have HB2 : Hid (Below w.heap.size w w2) := HB1.out.trans (hb2.mono HB1.out.size)
  rw [hw2]
  clear hb2 hw2 HB1 HR1 HR own1 hs1 hlt1
  rw [hPG] at gg2 ll2 qx2
  simp only [hPG]
  clear hPG
  refine (drawPlaces_any HR2.out).mono ?_
  rintro e w3 ⟨Pg, Pc, lp, rfl, hlp, hpo, own3, hb3⟩
  obtain ⟨op, pp3⟩ : ∃ o, w3.heap[Pg]? = some o := by
    obtain ⟨g', e', _, _, _, hlt⟩ := own3.at (k := 0) (by rw [hlp]; decide)
    cases e'
    exact ⟨_, Array.getElem?_eq_getElem hlt⟩
  have hpc : ∀ i (hi : i < 12), ∀ u : World, u.heap[Pg]? = some op → u.cell? ⟨Pg, i, none⟩ = some (.int .i64 (lp.getD i 0)) := by
    intro i hi u hu
    obtain ⟨g', e', hc', _, _, _⟩ := own3.at (k := i) (by rw [hlp]; exact hi)
    cases e'
    rw [getD_get (by omega), ← hc']
    simp only [World.cell?, hu, pp3]
  have hpp : ∀ i (hi : i < 12), 0 ≤ lp.getD i 0 ∧ lp.getD i 0 ≤ 9999 := fun i hi => place_in hlp hpo i hi
  obtain ⟨p0, hp0⟩ : ∃ p, lp.getD 0 0 = p := ⟨_, rfl⟩
  obtain ⟨p1, hp1⟩ : ∃ p, lp.getD 1 0 = p := ⟨_, rfl⟩
  obtain ⟨p2, hp2⟩ : ∃ p, lp.getD 2 0 = p := ⟨_, rfl⟩
  obtain ⟨p3, hp3⟩ : ∃ p, lp.getD 3 0 = p := ⟨_, rfl⟩
  have HPC0 := Lib.hid (hp0 ▸ hpc 0 (by decide))
  have HPC1 := Lib.hid (hp1 ▸ hpc 1 (by decide))
  have HPC2 := Lib.hid (hp2 ▸ hpc 2 (by decide))
  have HPC3 := Lib.hid (hp3 ▸ hpc 3 (by decide))
  have HP0 := Lib.hid (hp0 ▸ hpp 0 (by decide))
  have HP1 := Lib.hid (hp1 ▸ hpp 1 (by decide))
  have HP2 := Lib.hid (hp2 ▸ hpp 2 (by decide))
  have HP3 := Lib.hid (hp3 ▸ hpp 3 (by decide))
  clear hlp hpo hpc hpp hp0 hp1 hp2 hp3 own3
  have gg3 := keep_block hb3 gg2 (lt_of_block gg2)
  have ll3 := keep_block hb3 ll2 (lt_of_block ll2)
  have qX3 := keep_block hb3 qx2 (lt_of_block qx2)
  have X3 : Hid (arrK.own w3 S [.slice xa0 xn0 xc0, .slice xa1 xn1 xc1, .slice xa2 xn2 xc2] xx) := arrK.ownBelow X2.out hb3
  have HB3 : Hid (Below w.heap.size w w3) := HB2.out.trans (hb3.mono HB2.out.size)
  clear hb3 gg2 ll2 qx2 X2 HB2 HR2
  clear BX HXN HP3 HPC3 HAGE HHIT
  obtain ⟨m, hm⟩ : ∃ m, lineN 1 b r d = m := ⟨_, rfl⟩
  have hm1 := line_posA HG.out
  rw [hm] at hm1
  obtain ⟨q, eq, hq0, hq1⟩ := tmodI HP0.out.1 hm1
  have hm0 : ¬ (m = 0) := by omega
  have hln : LnOk 1 b r d q := ⟨hq0, by rw [hm]; exact hq1⟩
  obtain ⟨ax, ay, az, had, _, _, hat⟩ := atF_place hln
  obtain ⟨kk, ek, hkk⟩ := tmodN HP1.out.1 11 (by decide)
  have ek : p1.tmod 11 = (kk : Int) := ek
  obtain ⟨vI, ev, hv0, hv1⟩ := tmodI (m := 15) HP2.out.1 (by decide)
  obtain ⟨uI, hu⟩ : ∃ u : Int, 1 + vI = u := ⟨_, rfl⟩
  have wu : IntKind.i64.wrap (1 + vI) = uI := by rw [hu]; exact IntWalk.i64_in _ (by omega)
  have hfl : FlipOk 1 b r d xx ax ay az (kk : Int) uI := ⟨HOK.out, had, ⟨by omega, by omega⟩, ⟨by omega, by omega⟩⟩
  obtain ⟨s, pz, k', mm, e1, e2, hk11, hsl, hse, hmm, _, _, hl1, hl2, hl3⟩ := flip_math hfl
  obtain rfl : k' = kk := by omega
  have hok1 := flip_ok hfl
  have hfl2 : FlipOk 1 b r d (flippedF 1 b r d xx ax ay az (k' : Int) uI) ax ay az (k' : Int) uI := ⟨hok1, had, hfl.2.2.1, hfl.2.2.2⟩
  have hok2 := flip_ok hfl2
  obtain ⟨x1, hx1⟩ : ∃ x, flippedF 1 b r d xx ax ay az (k' : Int) uI = x := ⟨_, rfl⟩
  rw [hx1] at hok1 hok2 hl2 hl3
  obtain ⟨x2, hx2⟩ : ∃ x, flippedF 1 b r d x1 ax ay az (k' : Int) uI = x := ⟨_, rfl⟩
  rw [hx2] at hok2 hl3
  have SL : Hid (∀ w, Calls Try.prog 14 #[.agg #[.int .i64 1, .int .i64 b, .int .i64 r, .int .i64 d]] w (Gives (.int .i64 m) w)) := fun w => specLine_is 1 b r d m hm w
  have SA : Hid (∀ w, Calls Try.prog 15 #[.agg #[.int .i64 1, .int .i64 b, .int .i64 r, .int .i64 d], .int .i64 q] w (Gives (.tuple #[.agg #[.int .i64 ax, .int .i64 ay, .int .i64 az], .bool true]) w)) := fun w => by have h := specAt_is 1 b r d q w; rwa [hat] at h
  have HFIT := Lib.hid (arr_fit HOK.out)
  have HFIT1 := Lib.hid (arr_fit hok1)
  have HFIT2 := Lib.hid (arr_fit hok2)
  have HX1 := Lib.hid hx1
  have HX2 := Lib.hid hx2
  have F1 : Hid (∀ (cs : List Value) (u : World), arrK.rd u cs xx → Calls Try.prog 21 #[.agg #[.int .i64 1, .int .i64 b, .int .i64 r, .int .i64 d], .agg cs.toArray, .agg #[.int .i64 ax, .int .i64 ay, .int .i64 az], .int .i64 (k' : Int), .int .i64 uI] u (GivesS arrK x1 u)) := fun cs u h => by rw [← HX1.out]; exact FLIP.out 1 b r d ax ay az (k' : Int) uI cs xx u h HFIT.out
  have F2 : Hid (∀ (cs : List Value) (u : World), arrK.rd u cs x1 → Calls Try.prog 21 #[.agg #[.int .i64 1, .int .i64 b, .int .i64 r, .int .i64 d], .agg cs.toArray, .agg #[.int .i64 ax, .int .i64 ay, .int .i64 az], .int .i64 (k' : Int), .int .i64 uI] u (GivesS arrK x2 u)) := fun cs u h => by rw [← HX2.out]; exact FLIP.out 1 b r d ax ay az (k' : Int) uI cs x1 u h HFIT1.out
  have HL1 := Lib.hid hl1
  have HL2 := Lib.hid hl2
  have HL3 := Lib.hid hl3
  have HSL := Lib.hid hsl
  have HK11 := Lib.hid hk11
  have HSE := Lib.hid hse
  have HMM : Hid (uI = (mm : Int) ∧ mm < 16) := ⟨e2, hmm⟩
  clear hm hm1 hq0 hq1 hln had hat hkk hv0 hv1 hu hfl e1 e2 hk11 hsl hse hmm hl1 hl2 hl3 hok1 hfl2 hok2 hx1 hx2
  have ce0 := HPC0.out w3 pp3
  go_wp2_with fail
  refine wp_region_made (A := ?AM1) (cells := ?cellsM1) 11 (by kernel_rfl) (by kernel_rfl) rfl rfl ?walkM1 ?hxM1 (by decide) ?sizeM1 ?allocM1 (zero := #[.int .i64 0, .int .i64 0, .int .i64 0]) ?infoM1 ?hoM1 ?honeM1 ?restM1
  case walkM1 =>
    intro F hF hN
    obtain ⟨kgg0, kgg1, kgg2, kgg3⟩ := cells4 gg3
    have z0 := fun q : LaterF w3 F => q.cell kgg0
    have z1 := fun q : LaterF w3 F => q.cell kgg1
    have z2 := fun q : LaterF w3 F => q.cell kgg2
    have z3 := fun q : LaterF w3 F => q.cell kgg3
    have z4 := fun q : LaterF w3 F => q.cell ce0
    simp only [List.take_succ_cons, List.take_zero]
    repeat (go_big_quiet_step (first | (go_at_call 14; exact Gives.laterF hF _ (SL.out _)) | (go_at_call 15; exact Gives.laterF hF _ (SA.out _))))
    refine wpQuiet_nil ?_
    exact rfl
  case hxM1 => rfl
  case sizeM1 => simp
  case hoM1 => rfl
  case honeM1 => simp [Value.oneCell']
  case infoM1 => kernel_rfl
  case allocM1 =>
    intro a w K hK
    go_simp
    exact hK
  case restM1 =>
    intro Pat w4 hb4 hg4 at4
    simp only [List.drop_succ_cons, List.drop_zero, Act.put, List.setIfInBounds_toArray, List.set_cons_zero, List.set_cons_succ]
    have gg4 := keep_block hb4 gg3 (lt_of_block gg3)
    have ll4 := keep_block hb4 ll3 (lt_of_block ll3)
    have pp4 := keep_block hb4 pp3 (lt_of_block pp3)
    have qX4 := keep_block hb4 qX3 (lt_of_block qX3)
    have X4 : Hid (arrK.own w4 S [.slice xa0 xn0 xc0, .slice xa1 xn1 xc1, .slice xa2 xn2 xc2] xx) := arrK.ownBelow X3.out hb4
    have HB4 : Hid (Below w.heap.size w w4) := HB3.out.trans (hb4.mono HB3.out.size)
    have NXat : Hid (Pat ∉ S) := fun h => by have h1 := arrK.lt X3.out _ h; omega
    clear gg3 ll3 pp3 qX3 X3 HB3
    clear hb4 hg4 ce0
    have ce1 := HPC1.out w4 pp4
    go_wp2_with fail
    refine wp_region_flowV (fun k => match k with | 0 => some (.agg #[.int .i64 1, .int .i64 b, .int .i64 r, .int .i64 d]) | 1 => some (.agg #[.slice xa0 xn0 xc0, .slice xa1 xn1 xc1, .slice xa2 xn2 xc2]) | 2 => some (.agg #[.int .i64 ax, .int .i64 ay, .int .i64 az]) | 3 => some (.int .i64 (k' : Int)) | 4 => some (.slice (some ⟨Pg, 0, none⟩) 12 Pc) | 5 => some (.pointer (some ⟨Pg, 2, none⟩)) | 6 => some (.int .i64 p2) | 7 => some (.int .i64 vI) | 8 => some (.int .i64 uI) | _ => none) (fun listed x u => FactW 9 11 (HasK arrK x1 w4.heap.size) listed x u ∧ MadeK arrK 31 #[.slice none 0 0, .slice none 0 0, .slice none 0 0] 10 11 w4.heap.size x1 listed x u) (fun _ => undef) (by kernel_rfl) (by kernel_rfl) ?hxR2 ?hSR2 ?hsR2 ?heR2
    case hxR2 => simp only [putsX, Act.put, List.setIfInBounds_toArray, List.set_cons_zero, List.set_cons_succ]
    case hSR2 => exact ⟨FactW.zero _ _ _ _ _ _, MadeK.zero _ _ _ _ _ _ _ _ _ _⟩
    case hsR2 =>
      simp only [flowSteps]
      refine ⟨?sR2_0, ?sR2_1, ?sR2_2, ?sR2_3, ?sR2_4, ?sR2_5, ?sR2_6, ?sR2_7, ?sR2_8, ?sR2_9, ?sR2_10, ?sR2_11, trivial⟩
      case sR2_0 =>
        intro listed bb u hsz hn hwt hinv
        obtain ⟨x, rfl, hC, hU, hO, hM⟩ := hinv
        simp only [putsX, Act.put, List.setIfInBounds_toArray, List.set_cons_zero, List.set_cons_succ]
        obtain ⟨d0, d1, d2, d3⟩ := cells4 (keep_block hC gg4 (lt_of_block gg4))
        go_wp2_with fail
        refine stepQ_normal ⟨trivial, upd x 0 (.agg #[.int .i64 1, .int .i64 b, .int .i64 r, .int .i64 d]), ?_, hC, hU.step (fun _ h => Option.some.inj h), hO.keep (by decide) (by decide) _ id, hM.keep (by decide) (by decide) _ (Below.refl _ _)⟩
        simp only [upd]
        rfl
      case sR2_1 =>
        intro listed bb u hsz hn hwt hinv
        obtain ⟨x, rfl, hC, hU, hO, hM⟩ := hinv
        simp only [putsX, Act.put, List.setIfInBounds_toArray, List.set_cons_zero, List.set_cons_succ]
        obtain ⟨d0, d1, d2⟩ := cells3 (keep_block hC qX4 (lt_of_block qX4))
        go_wp2_with fail
        refine stepQ_normal ⟨trivial, upd x 1 (.agg #[.slice xa0 xn0 xc0, .slice xa1 xn1 xc1, .slice xa2 xn2 xc2]), ?_, hC, hU.step (fun _ h => Option.some.inj h), hO.keep (by decide) (by decide) _ id, hM.keep (by decide) (by decide) _ (Below.refl _ _)⟩
        simp only [upd]
        rfl
      case sR2_2 =>
        intro listed bb u hsz hn hwt hinv
        obtain ⟨x, rfl, hC, hU, hO, hM⟩ := hinv
        simp only [putsX, Act.put, List.setIfInBounds_toArray, List.set_cons_zero, List.set_cons_succ]
        obtain ⟨d0, d1, d2⟩ := cells3 (keep_block hC at4 (lt_of_block at4))
        go_wp2_with fail
        refine stepQ_normal ⟨trivial, upd x 2 (.agg #[.int .i64 ax, .int .i64 ay, .int .i64 az]), ?_, hC, hU.step (fun _ h => Option.some.inj h), hO.keep (by decide) (by decide) _ id, hM.keep (by decide) (by decide) _ (Below.refl _ _)⟩
        simp only [upd]
        rfl
      case sR2_3 =>
        intro listed bb u hsz hn hwt hinv
        obtain ⟨x, rfl, hC, hU, hO, hM⟩ := hinv
        simp only [putsX, Act.put, List.setIfInBounds_toArray, List.set_cons_zero, List.set_cons_succ]
        go_wp2_with fail
        refine stepQ_normal ⟨trivial, upd x 3 (.int .i64 (k' : Int)), ?_, hC, hU.step (fun _ h => Option.some.inj h), hO.keep (by decide) (by decide) _ id, hM.keep (by decide) (by decide) _ (Below.refl _ _)⟩
        simp only [upd]
        rfl
      case sR2_4 =>
        intro listed bb u hsz hn hwt hinv
        obtain ⟨x, rfl, hC, hU, hO, hM⟩ := hinv
        simp only [putsX, Act.put, List.setIfInBounds_toArray, List.set_cons_zero, List.set_cons_succ]
        go_wp2_with fail
        refine stepQ_normal ⟨trivial, upd x 4 (.slice (some ⟨Pg, 0, none⟩) 12 Pc), ?_, hC, hU.step (fun _ h => Option.some.inj h), hO.keep (by decide) (by decide) _ id, hM.keep (by decide) (by decide) _ (Below.refl _ _)⟩
        simp only [upd]
        rfl
      case sR2_5 =>
        intro listed bb u hsz hn hwt hinv
        obtain ⟨x, rfl, hC, hU, hO, hM⟩ := hinv
        have f4 := Lib.hid (hU 4 _ rfl (hwt 4 (by kernel_rfl)))
        simp only [putsX, Act.put, List.setIfInBounds_toArray, List.set_cons_zero, List.set_cons_succ]
        rw [f4.out]
        go_wp2_with fail
        refine stepQ_normal ⟨trivial, upd x 5 (.pointer (some ⟨Pg, 2, none⟩)), ?_, hC, hU.step (fun _ h => Option.some.inj h), hO.keep (by decide) (by decide) _ id, hM.keep (by decide) (by decide) _ (Below.refl _ _)⟩
        simp only [upd]
        simp only [f4.out]
        (try rfl)
      case sR2_6 =>
        intro listed bb u hsz hn hwt hinv
        obtain ⟨x, rfl, hC, hU, hO, hM⟩ := hinv
        have f5 := Lib.hid (hU 5 _ rfl (hwt 5 (by kernel_rfl)))
        simp only [putsX, Act.put, List.setIfInBounds_toArray, List.set_cons_zero, List.set_cons_succ]
        rw [f5.out]
        have d0 := HPC2.out u (keep_block hC pp4 (lt_of_block pp4))
        go_wp2_with fail
        refine stepQ_normal ⟨trivial, upd x 6 (.int .i64 p2), ?_, hC, hU.step (fun _ h => Option.some.inj h), hO.keep (by decide) (by decide) _ id, hM.keep (by decide) (by decide) _ (Below.refl _ _)⟩
        simp only [upd]
        simp only [f5.out]
        (try rfl)
      case sR2_7 =>
        intro listed bb u hsz hn hwt hinv
        obtain ⟨x, rfl, hC, hU, hO, hM⟩ := hinv
        have f6 := Lib.hid (hU 6 _ rfl (hwt 6 (by kernel_rfl)))
        simp only [putsX, Act.put, List.setIfInBounds_toArray, List.set_cons_zero, List.set_cons_succ]
        rw [f6.out]
        go_wp2_with fail
        refine stepQ_normal ⟨trivial, upd x 7 (.int .i64 vI), ?_, hC, hU.step (fun _ h => Option.some.inj h), hO.keep (by decide) (by decide) _ id, hM.keep (by decide) (by decide) _ (Below.refl _ _)⟩
        simp only [upd]
        simp only [f6.out]
        (try rfl)
      case sR2_8 =>
        intro listed bb u hsz hn hwt hinv
        obtain ⟨x, rfl, hC, hU, hO, hM⟩ := hinv
        have f7 := Lib.hid (hU 7 _ rfl (hwt 7 (by kernel_rfl)))
        simp only [putsX, Act.put, List.setIfInBounds_toArray, List.set_cons_zero, List.set_cons_succ]
        rw [f7.out]
        go_wp2_with fail
        refine stepQ_normal ⟨trivial, upd x 8 (.int .i64 uI), ?_, hC, hU.step (fun _ h => Option.some.inj h), hO.keep (by decide) (by decide) _ id, hM.keep (by decide) (by decide) _ (Below.refl _ _)⟩
        simp only [upd]
        simp only [f7.out]
        (try rfl)
      case sR2_9 =>
        intro listed bb u hsz hn hwt hinv
        obtain ⟨x, rfl, hC, hU, hO, hM⟩ := hinv
        have f0 := Lib.hid (hU 0 _ rfl (hwt 0 (by kernel_rfl)))
        have f1 := Lib.hid (hU 1 _ rfl (hwt 1 (by kernel_rfl)))
        have f2 := Lib.hid (hU 2 _ rfl (hwt 2 (by kernel_rfl)))
        have f3 := Lib.hid (hU 3 _ rfl (hwt 3 (by kernel_rfl)))
        have f8 := Lib.hid (hU 8 _ rfl (hwt 8 (by kernel_rfl)))
        simp only [putsX, Act.put, List.setIfInBounds_toArray, List.set_cons_zero, List.set_cons_succ]
        have hcall : Calls Try.prog 21 #[x 0, x 1, x 2, x 3, x 8] u (GivesS arrK x1 u) := by rw [f0.out, f1.out, f2.out, f3.out, f8.out]; exact (F1.out _ _ (arrK.read (arrK.ownBelow X4.out hC)))
        go_wp2_with fail
        refine hcall.mono ?_
        rintro e' u' ⟨cs, SS, rfl, own, hss, hb⟩
        go_wp2_with fail
        refine stepQ_normal ⟨trivial, upd x 9 (.agg cs.toArray), ?_, hC.trans (hb.mono hC.size), hU.step (fun _ h => by cases h), FactW.new ⟨cs, SS, rfl, own, fun b h => Nat.le_trans hC.size (hss b h)⟩, hM.keep (by decide) (by decide) _ (hb)⟩
        simp only [upd]
        rfl
      case sR2_10 =>
        intro listed bb u hsz hn hwt hinv
        obtain ⟨x, rfl, hC, hU, hO, hM⟩ := hinv
        simp only [putsX, Act.put, List.setIfInBounds_toArray, List.set_cons_zero, List.set_cons_succ]
        go_wp2_with fail
        refine stepQ_normal ⟨trivial, upd x 10 (.pointer (some ⟨u.heap.size, 0, none⟩)), ?_, hC.alloc hC.size _, hU.step (fun _ h => by cases h), hO.keep (by decide) (by decide) _ (fun h => HasK.below h (below_allocK _ _)), hM.new (by decide) hn hC.size⟩
        simp only [upd]
        rfl
      case sR2_11 =>
        intro listed bb u hsz hn hwt hinv
        obtain ⟨x, rfl, hC, hU, hO, hM⟩ := hinv
        simp only [putsX, Act.put, List.setIfInBounds_toArray, List.set_cons_zero, List.set_cons_succ]
        obtain ⟨g, fg, hg, hh⟩ := hM.there (hwt 10 (by kernel_rfl)) hn
        obtain ⟨cs, SS, fp, own, hss⟩ := hO (hwt 9 (by kernel_rfl)) hn
        obtain ⟨a0, n0, c0, a1, n1, c1, a2, n2, c2, rfl, _, _, _⟩ := arr_rd (arrK.read own)
        have FG := Lib.hid fg
        have FP := Lib.hid fp
        rw [FG.out, FP.out]
        obtain ⟨y0, y1, y2⟩ := cells3 hh
        have t0 := thawed hh 0
        have t1 := thawed hh 1
        have t2 := thawed hh 2
        have hng : g ∉ SS := arrTy.notin own hh (by decide)
        have own0 := own
        have hfin := set_cells (set_cells (set_cells (hh) 0 (.slice a0 n0 c0)) 1 (.slice a1 n1 c1)) 2 (.slice a2 n2 c2)
        have OW := Lib.hid (Kn.ownSet arrK (Kn.ownSet arrK (Kn.ownSet arrK own0 (p := ⟨g, 0, none⟩) (fun b h e => hng ((show b = g from e) ▸ h)) (.slice a0 n0 c0)) (p := ⟨g, 1, none⟩) (fun b h e => hng ((show b = g from e) ▸ h)) (.slice a1 n1 c1)) (p := ⟨g, 2, none⟩) (fun b h e => hng ((show b = g from e) ▸ h)) (.slice a2 n2 c2))
        have HSS := Lib.hid hss
        have HNG := Lib.hid hng
        clear hh fg fp own own0 hss hng
        go_wp2_with fail
        refine stepQ_normal ⟨trivial, upd x 11 undef, ?_, (((hC).setCell (by exact hg) _).setCell (by exact hg) _).setCell (by exact hg) _, hU.step (fun _ h => by cases h), FactW.call (by rw [hsz]; decide), MadeK.fill (by decide) (hwt 10 (by kernel_rfl)) (by rw [hsz]; decide) FG.out hg hfin OW.out HNG.out HSS.out⟩
        simp only [upd]
        simp only [FG.out, FP.out]
        (try rfl)
    case heR2 =>
      intro listed q w5 hall hC hU hS
      obtain ⟨hO, hM⟩ := hS
      obtain ⟨PY, cs, SY, fg, hgP, hh, own, hng, hss⟩ := hM.full (hall 10 (by decide)) (hall 11 (by decide))
      obtain ⟨Ya0, Yn0, Yc0, Ya1, Yn1, Yc1, Ya2, Yn2, Yc2, rfl, _, _, _⟩ := arr_rd (arrK.read own)
      simp only [putsX, Act.put, List.setIfInBounds_toArray, List.set_cons_zero, List.set_cons_succ]
      rw [fg]
      clear hall hU fg hO hM
      generalize q 0 = _q0, q 1 = _q1, q 2 = _q2, q 3 = _q3, q 4 = _q4, q 5 = _q5, q 6 = _q6, q 7 = _q7, q 8 = _q8, q 9 = _q9
      have gg5 := keep_block hC gg4 (lt_of_block gg4)
      have ll5 := keep_block hC ll4 (lt_of_block ll4)
      have pp5 := keep_block hC pp4 (lt_of_block pp4)
      have qX5 := keep_block hC qX4 (lt_of_block qX4)
      have at5 := keep_block hC at4 (lt_of_block at4)
      have X5 : Hid (arrK.own w5 S [.slice xa0 xn0 xc0, .slice xa1 xn1 xc1, .slice xa2 xn2 xc2] xx) := arrK.ownBelow X4.out hC
      have HB5 : Hid (Below w.heap.size w w5) := HB4.out.trans (hC.mono HB4.out.size)
      have BY : Hid (∀ b ∈ SY, w4.heap.size ≤ b) := hss
      have Y5 : Hid (arrK.own w5 SY [.slice Ya0 Yn0 Yc0, .slice Ya1 Yn1 Yc1, .slice Ya2 Yn2 Yc2] x1) := own
      have qY5 := hh
      have NXqY : Hid (PY ∉ S) := fun h => by have h1 := arrK.lt X4.out _ h; omega
      have DXY : Hid (∀ b ∈ S, b ∉ SY) := fun b h1 h2 => by have h3 := arrK.lt X4.out b h1; have h4 := BY.out b h2; omega
      have NYgg : Hid (PG ∉ SY) := fun h => by have h1 := lt_of_block gg4; have h2 := BY.out _ h; omega
      have NYll : Hid ((PG + 1) ∉ SY) := fun h => by have h1 := lt_of_block ll4; have h2 := BY.out _ h; omega
      have NYpp : Hid (Pg ∉ SY) := fun h => by have h1 := lt_of_block pp4; have h2 := BY.out _ h; omega
      have NYqX : Hid ((PG + 1 + 1) ∉ SY) := fun h => by have h1 := lt_of_block qX4; have h2 := BY.out _ h; omega
      have NYat : Hid (Pat ∉ SY) := fun h => by have h1 := lt_of_block at4; have h2 := BY.out _ h; omega
      have NYqY : Hid (PY ∉ SY) := hng
      clear own hss hh hC hng hgP
      clear gg4 ll4 pp4 qX4 at4 X4 HB4
      go_wp2_with fail
      refine wp_region_flowV (fun k => match k with | 0 => some (.agg #[.int .i64 1, .int .i64 b, .int .i64 r, .int .i64 d]) | 1 => some (.agg #[.slice Ya0 Yn0 Yc0, .slice Ya1 Yn1 Yc1, .slice Ya2 Yn2 Yc2]) | 2 => some (.agg #[.int .i64 ax, .int .i64 ay, .int .i64 az]) | 3 => some (.int .i64 (k' : Int)) | 4 => some (.slice (some ⟨Pg, 0, none⟩) 12 Pc) | 5 => some (.pointer (some ⟨Pg, 2, none⟩)) | 6 => some (.int .i64 p2) | 7 => some (.int .i64 vI) | 8 => some (.int .i64 uI) | _ => none) (fun listed x u => FactW 9 11 (HasK arrK x2 w5.heap.size) listed x u ∧ MadeK arrK 31 #[.slice none 0 0, .slice none 0 0, .slice none 0 0] 10 11 w5.heap.size x2 listed x u) (fun _ => undef) (by kernel_rfl) (by kernel_rfl) ?hxR3 ?hSR3 ?hsR3 ?heR3
      case hxR3 => simp only [putsX, Act.put, List.setIfInBounds_toArray, List.set_cons_zero, List.set_cons_succ]
      case hSR3 => exact ⟨FactW.zero _ _ _ _ _ _, MadeK.zero _ _ _ _ _ _ _ _ _ _⟩
      case hsR3 =>
        simp only [flowSteps]
        refine ⟨?sR3_0, ?sR3_1, ?sR3_2, ?sR3_3, ?sR3_4, ?sR3_5, ?sR3_6, ?sR3_7, ?sR3_8, ?sR3_9, ?sR3_10, ?sR3_11, trivial⟩
        case sR3_0 =>
          intro listed bb u hsz hn hwt hinv
          obtain ⟨x, rfl, hC, hU, hO, hM⟩ := hinv
          simp only [putsX, Act.put, List.setIfInBounds_toArray, List.set_cons_zero, List.set_cons_succ]
          obtain ⟨d0, d1, d2, d3⟩ := cells4 (keep_block hC gg5 (lt_of_block gg5))
          go_wp2_with fail
          refine stepQ_normal ⟨trivial, upd x 0 (.agg #[.int .i64 1, .int .i64 b, .int .i64 r, .int .i64 d]), ?_, hC, hU.step (fun _ h => Option.some.inj h), hO.keep (by decide) (by decide) _ id, hM.keep (by decide) (by decide) _ (Below.refl _ _)⟩
          simp only [upd]
          rfl
        case sR3_1 =>
          intro listed bb u hsz hn hwt hinv
          obtain ⟨x, rfl, hC, hU, hO, hM⟩ := hinv
          simp only [putsX, Act.put, List.setIfInBounds_toArray, List.set_cons_zero, List.set_cons_succ]
          obtain ⟨d0, d1, d2⟩ := cells3 (keep_block hC qY5 (lt_of_block qY5))
          go_wp2_with fail
          refine stepQ_normal ⟨trivial, upd x 1 (.agg #[.slice Ya0 Yn0 Yc0, .slice Ya1 Yn1 Yc1, .slice Ya2 Yn2 Yc2]), ?_, hC, hU.step (fun _ h => Option.some.inj h), hO.keep (by decide) (by decide) _ id, hM.keep (by decide) (by decide) _ (Below.refl _ _)⟩
          simp only [upd]
          rfl
        case sR3_2 =>
          intro listed bb u hsz hn hwt hinv
          obtain ⟨x, rfl, hC, hU, hO, hM⟩ := hinv
          simp only [putsX, Act.put, List.setIfInBounds_toArray, List.set_cons_zero, List.set_cons_succ]
          obtain ⟨d0, d1, d2⟩ := cells3 (keep_block hC at5 (lt_of_block at5))
          go_wp2_with fail
          refine stepQ_normal ⟨trivial, upd x 2 (.agg #[.int .i64 ax, .int .i64 ay, .int .i64 az]), ?_, hC, hU.step (fun _ h => Option.some.inj h), hO.keep (by decide) (by decide) _ id, hM.keep (by decide) (by decide) _ (Below.refl _ _)⟩
          simp only [upd]
          rfl
        case sR3_3 =>
          intro listed bb u hsz hn hwt hinv
          obtain ⟨x, rfl, hC, hU, hO, hM⟩ := hinv
          simp only [putsX, Act.put, List.setIfInBounds_toArray, List.set_cons_zero, List.set_cons_succ]
          go_wp2_with fail
          refine stepQ_normal ⟨trivial, upd x 3 (.int .i64 (k' : Int)), ?_, hC, hU.step (fun _ h => Option.some.inj h), hO.keep (by decide) (by decide) _ id, hM.keep (by decide) (by decide) _ (Below.refl _ _)⟩
          simp only [upd]
          rfl
        case sR3_4 =>
          intro listed bb u hsz hn hwt hinv
          obtain ⟨x, rfl, hC, hU, hO, hM⟩ := hinv
          simp only [putsX, Act.put, List.setIfInBounds_toArray, List.set_cons_zero, List.set_cons_succ]
          go_wp2_with fail
          refine stepQ_normal ⟨trivial, upd x 4 (.slice (some ⟨Pg, 0, none⟩) 12 Pc), ?_, hC, hU.step (fun _ h => Option.some.inj h), hO.keep (by decide) (by decide) _ id, hM.keep (by decide) (by decide) _ (Below.refl _ _)⟩
          simp only [upd]
          rfl
        case sR3_5 =>
          intro listed bb u hsz hn hwt hinv
          obtain ⟨x, rfl, hC, hU, hO, hM⟩ := hinv
          have f4 := Lib.hid (hU 4 _ rfl (hwt 4 (by kernel_rfl)))
          simp only [putsX, Act.put, List.setIfInBounds_toArray, List.set_cons_zero, List.set_cons_succ]
          rw [f4.out]
          go_wp2_with fail
          refine stepQ_normal ⟨trivial, upd x 5 (.pointer (some ⟨Pg, 2, none⟩)), ?_, hC, hU.step (fun _ h => Option.some.inj h), hO.keep (by decide) (by decide) _ id, hM.keep (by decide) (by decide) _ (Below.refl _ _)⟩
          simp only [upd]
          simp only [f4.out]
          (try rfl)
        case sR3_6 =>
          intro listed bb u hsz hn hwt hinv
          obtain ⟨x, rfl, hC, hU, hO, hM⟩ := hinv
          have f5 := Lib.hid (hU 5 _ rfl (hwt 5 (by kernel_rfl)))
          simp only [putsX, Act.put, List.setIfInBounds_toArray, List.set_cons_zero, List.set_cons_succ]
          rw [f5.out]
          have d0 := HPC2.out u (keep_block hC pp5 (lt_of_block pp5))
          go_wp2_with fail
          refine stepQ_normal ⟨trivial, upd x 6 (.int .i64 p2), ?_, hC, hU.step (fun _ h => Option.some.inj h), hO.keep (by decide) (by decide) _ id, hM.keep (by decide) (by decide) _ (Below.refl _ _)⟩
          simp only [upd]
          simp only [f5.out]
          (try rfl)
        case sR3_7 =>
          intro listed bb u hsz hn hwt hinv
          obtain ⟨x, rfl, hC, hU, hO, hM⟩ := hinv
          have f6 := Lib.hid (hU 6 _ rfl (hwt 6 (by kernel_rfl)))
          simp only [putsX, Act.put, List.setIfInBounds_toArray, List.set_cons_zero, List.set_cons_succ]
          rw [f6.out]
          go_wp2_with fail
          refine stepQ_normal ⟨trivial, upd x 7 (.int .i64 vI), ?_, hC, hU.step (fun _ h => Option.some.inj h), hO.keep (by decide) (by decide) _ id, hM.keep (by decide) (by decide) _ (Below.refl _ _)⟩
          simp only [upd]
          simp only [f6.out]
          (try rfl)
        case sR3_8 =>
          intro listed bb u hsz hn hwt hinv
          obtain ⟨x, rfl, hC, hU, hO, hM⟩ := hinv
          have f7 := Lib.hid (hU 7 _ rfl (hwt 7 (by kernel_rfl)))
          simp only [putsX, Act.put, List.setIfInBounds_toArray, List.set_cons_zero, List.set_cons_succ]
          rw [f7.out]
          go_wp2_with fail
          refine stepQ_normal ⟨trivial, upd x 8 (.int .i64 uI), ?_, hC, hU.step (fun _ h => Option.some.inj h), hO.keep (by decide) (by decide) _ id, hM.keep (by decide) (by decide) _ (Below.refl _ _)⟩
          simp only [upd]
          simp only [f7.out]
          (try rfl)
        case sR3_9 =>
          intro listed bb u hsz hn hwt hinv
          obtain ⟨x, rfl, hC, hU, hO, hM⟩ := hinv
          have f0 := Lib.hid (hU 0 _ rfl (hwt 0 (by kernel_rfl)))
          have f1 := Lib.hid (hU 1 _ rfl (hwt 1 (by kernel_rfl)))
          have f2 := Lib.hid (hU 2 _ rfl (hwt 2 (by kernel_rfl)))
          have f3 := Lib.hid (hU 3 _ rfl (hwt 3 (by kernel_rfl)))
          have f8 := Lib.hid (hU 8 _ rfl (hwt 8 (by kernel_rfl)))
          simp only [putsX, Act.put, List.setIfInBounds_toArray, List.set_cons_zero, List.set_cons_succ]
          have hcall : Calls Try.prog 21 #[x 0, x 1, x 2, x 3, x 8] u (GivesS arrK x2 u) := by rw [f0.out, f1.out, f2.out, f3.out, f8.out]; exact (F2.out _ _ (arrK.read (arrK.ownBelow Y5.out hC)))
          go_wp2_with fail
          refine hcall.mono ?_
          rintro e' u' ⟨cs, SS, rfl, own, hss, hb⟩
          go_wp2_with fail
          refine stepQ_normal ⟨trivial, upd x 9 (.agg cs.toArray), ?_, hC.trans (hb.mono hC.size), hU.step (fun _ h => by cases h), FactW.new ⟨cs, SS, rfl, own, fun b h => Nat.le_trans hC.size (hss b h)⟩, hM.keep (by decide) (by decide) _ (hb)⟩
          simp only [upd]
          rfl
        case sR3_10 =>
          intro listed bb u hsz hn hwt hinv
          obtain ⟨x, rfl, hC, hU, hO, hM⟩ := hinv
          simp only [putsX, Act.put, List.setIfInBounds_toArray, List.set_cons_zero, List.set_cons_succ]
          go_wp2_with fail
          refine stepQ_normal ⟨trivial, upd x 10 (.pointer (some ⟨u.heap.size, 0, none⟩)), ?_, hC.alloc hC.size _, hU.step (fun _ h => by cases h), hO.keep (by decide) (by decide) _ (fun h => HasK.below h (below_allocK _ _)), hM.new (by decide) hn hC.size⟩
          simp only [upd]
          rfl
        case sR3_11 =>
          intro listed bb u hsz hn hwt hinv
          obtain ⟨x, rfl, hC, hU, hO, hM⟩ := hinv
          simp only [putsX, Act.put, List.setIfInBounds_toArray, List.set_cons_zero, List.set_cons_succ]
          obtain ⟨g, fg, hg, hh⟩ := hM.there (hwt 10 (by kernel_rfl)) hn
          obtain ⟨cs, SS, fp, own, hss⟩ := hO (hwt 9 (by kernel_rfl)) hn
          obtain ⟨a0, n0, c0, a1, n1, c1, a2, n2, c2, rfl, _, _, _⟩ := arr_rd (arrK.read own)
          have FG := Lib.hid fg
          have FP := Lib.hid fp
          rw [FG.out, FP.out]
          obtain ⟨y0, y1, y2⟩ := cells3 hh
          have t0 := thawed hh 0
          have t1 := thawed hh 1
          have t2 := thawed hh 2
          have hng : g ∉ SS := arrTy.notin own hh (by decide)
          have own0 := own
          have hfin := set_cells (set_cells (set_cells (hh) 0 (.slice a0 n0 c0)) 1 (.slice a1 n1 c1)) 2 (.slice a2 n2 c2)
          have OW := Lib.hid (Kn.ownSet arrK (Kn.ownSet arrK (Kn.ownSet arrK own0 (p := ⟨g, 0, none⟩) (fun b h e => hng ((show b = g from e) ▸ h)) (.slice a0 n0 c0)) (p := ⟨g, 1, none⟩) (fun b h e => hng ((show b = g from e) ▸ h)) (.slice a1 n1 c1)) (p := ⟨g, 2, none⟩) (fun b h e => hng ((show b = g from e) ▸ h)) (.slice a2 n2 c2))
          have HSS := Lib.hid hss
          have HNG := Lib.hid hng
          clear hh fg fp own own0 hss hng
          go_wp2_with fail
          refine stepQ_normal ⟨trivial, upd x 11 undef, ?_, (((hC).setCell (by exact hg) _).setCell (by exact hg) _).setCell (by exact hg) _, hU.step (fun _ h => by cases h), FactW.call (by rw [hsz]; decide), MadeK.fill (by decide) (hwt 10 (by kernel_rfl)) (by rw [hsz]; decide) FG.out hg hfin OW.out HNG.out HSS.out⟩
          simp only [upd]
          simp only [FG.out, FP.out]
          (try rfl)
      case heR3 =>
        intro listed q w6 hall hC hU hS
        obtain ⟨hO, hM⟩ := hS
        obtain ⟨PZ, cs, SZ, fg, hgP, hh, own, hng, hss⟩ := hM.full (hall 10 (by decide)) (hall 11 (by decide))
        obtain ⟨Za0, Zn0, Zc0, Za1, Zn1, Zc1, Za2, Zn2, Zc2, rfl, _, _, _⟩ := arr_rd (arrK.read own)
        simp only [putsX, Act.put, List.setIfInBounds_toArray, List.set_cons_zero, List.set_cons_succ]
        rw [fg]
        clear hall hU fg hO hM
        generalize q 0 = _q0, q 1 = _q1, q 2 = _q2, q 3 = _q3, q 4 = _q4, q 5 = _q5, q 6 = _q6, q 7 = _q7, q 8 = _q8, q 9 = _q9
        have gg6 := keep_block hC gg5 (lt_of_block gg5)
        have ll6 := keep_block hC ll5 (lt_of_block ll5)
        have pp6 := keep_block hC pp5 (lt_of_block pp5)
        have qX6 := keep_block hC qX5 (lt_of_block qX5)
        have at6 := keep_block hC at5 (lt_of_block at5)
        have qY6 := keep_block hC qY5 (lt_of_block qY5)
        have X6 : Hid (arrK.own w6 S [.slice xa0 xn0 xc0, .slice xa1 xn1 xc1, .slice xa2 xn2 xc2] xx) := arrK.ownBelow X5.out hC
        have Y6 : Hid (arrK.own w6 SY [.slice Ya0 Yn0 Yc0, .slice Ya1 Yn1 Yc1, .slice Ya2 Yn2 Yc2] x1) := arrK.ownBelow Y5.out hC
        have HB6 : Hid (Below w.heap.size w w6) := HB5.out.trans (hC.mono HB5.out.size)
        have BZ : Hid (∀ b ∈ SZ, w5.heap.size ≤ b) := hss
        have Z6 : Hid (arrK.own w6 SZ [.slice Za0 Zn0 Zc0, .slice Za1 Zn1 Zc1, .slice Za2 Zn2 Zc2] x2) := own
        have qZ6 := hh
        have NXqZ : Hid (PZ ∉ S) := fun h => by have h1 := arrK.lt X5.out _ h; omega
        have NYqZ : Hid (PZ ∉ SY) := fun h => by have h1 := arrK.lt Y5.out _ h; omega
        have DXZ : Hid (∀ b ∈ S, b ∉ SZ) := fun b h1 h2 => by have h3 := arrK.lt X5.out b h1; have h4 := BZ.out b h2; omega
        have DYZ : Hid (∀ b ∈ SY, b ∉ SZ) := fun b h1 h2 => by have h3 := arrK.lt Y5.out b h1; have h4 := BZ.out b h2; omega
        have NZgg : Hid (PG ∉ SZ) := fun h => by have h1 := lt_of_block gg5; have h2 := BZ.out _ h; omega
        have NZll : Hid ((PG + 1) ∉ SZ) := fun h => by have h1 := lt_of_block ll5; have h2 := BZ.out _ h; omega
        have NZpp : Hid (Pg ∉ SZ) := fun h => by have h1 := lt_of_block pp5; have h2 := BZ.out _ h; omega
        have NZqX : Hid ((PG + 1 + 1) ∉ SZ) := fun h => by have h1 := lt_of_block qX5; have h2 := BZ.out _ h; omega
        have NZat : Hid (Pat ∉ SZ) := fun h => by have h1 := lt_of_block at5; have h2 := BZ.out _ h; omega
        have NZqY : Hid (PY ∉ SZ) := fun h => by have h1 := lt_of_block qY5; have h2 := BZ.out _ h; omega
        have NZqZ : Hid (PZ ∉ SZ) := hng
        clear own hss hh hC hng hgP
        clear gg5 ll5 pp5 qX5 at5 qY5 X5 Y5 HB5
        obtain ⟨kgg0, kgg1, kgg2, kgg3⟩ := cells4 gg6
        obtain ⟨kqX0, kqX1, kqX2⟩ := cells3 qX6
        obtain ⟨kat0, kat1, kat2⟩ := cells3 at6
        go_wp2_with fail
        refine (loadS_at HL1.out (arrK.read X6.out)).mono ?_
        rintro e w7 ⟨cs, SB, rfl, own7, hs7, hb7⟩
        have gg7 := keep_block hb7 gg6 (lt_of_block gg6)
        have ll7 := keep_block hb7 ll6 (lt_of_block ll6)
        have pp7 := keep_block hb7 pp6 (lt_of_block pp6)
        have qX7 := keep_block hb7 qX6 (lt_of_block qX6)
        have at7 := keep_block hb7 at6 (lt_of_block at6)
        have qY7 := keep_block hb7 qY6 (lt_of_block qY6)
        have qZ7 := keep_block hb7 qZ6 (lt_of_block qZ6)
        have X7 : Hid (arrK.own w7 S [.slice xa0 xn0 xc0, .slice xa1 xn1 xc1, .slice xa2 xn2 xc2] xx) := arrK.ownBelow X6.out hb7
        have Y7 : Hid (arrK.own w7 SY [.slice Ya0 Yn0 Yc0, .slice Ya1 Yn1 Yc1, .slice Ya2 Yn2 Yc2] x1) := arrK.ownBelow Y6.out hb7
        have Z7 : Hid (arrK.own w7 SZ [.slice Za0 Zn0 Zc0, .slice Za1 Zn1 Zc1, .slice Za2 Zn2 Zc2] x2) := arrK.ownBelow Z6.out hb7
        have HB7 : Hid (Below w.heap.size w w7) := HB6.out.trans (hb7.mono HB6.out.size)
        have BB : Hid (∀ b ∈ SB, w6.heap.size ≤ b) := hs7
        clear hs7
        obtain ⟨Ba0, Bn0, Bc0, rfl, _⟩ := cell_rd (cellK.read own7)
        have B7 : Hid (cellK.own w7 SB [.slice Ba0 Bn0 Bc0, .bool pz] (s, pz)) := own7
        have DXB : Hid (∀ b ∈ S, b ∉ SB) := fun b h1 h2 => by have h3 := arrK.lt X6.out b h1; have h4 := BB.out b h2; omega
        have DYB : Hid (∀ b ∈ SY, b ∉ SB) := fun b h1 h2 => by have h3 := arrK.lt Y6.out b h1; have h4 := BB.out b h2; omega
        have DZB : Hid (∀ b ∈ SZ, b ∉ SB) := fun b h1 h2 => by have h3 := arrK.lt Z6.out b h1; have h4 := BB.out b h2; omega
        have NBgg : Hid (PG ∉ SB) := fun h => by have h1 := lt_of_block gg6; have h2 := BB.out _ h; omega
        have NBll : Hid ((PG + 1) ∉ SB) := fun h => by have h1 := lt_of_block ll6; have h2 := BB.out _ h; omega
        have NBpp : Hid (Pg ∉ SB) := fun h => by have h1 := lt_of_block pp6; have h2 := BB.out _ h; omega
        have NBqX : Hid ((PG + 1 + 1) ∉ SB) := fun h => by have h1 := lt_of_block qX6; have h2 := BB.out _ h; omega
        have NBat : Hid (Pat ∉ SB) := fun h => by have h1 := lt_of_block at6; have h2 := BB.out _ h; omega
        have NBqY : Hid (PY ∉ SB) := fun h => by have h1 := lt_of_block qY6; have h2 := BB.out _ h; omega
        have NBqZ : Hid (PZ ∉ SB) := fun h => by have h1 := lt_of_block qZ6; have h2 := BB.out _ h; omega
        clear own7 hb7
        clear gg6 ll6 pp6 qX6 at6 qY6 qZ6 X6 Y6 Z6 HB6
        obtain ⟨PB, hPB⟩ : ∃ P, w7.heap.size = P := ⟨_, rfl⟩
        have NXqB : Hid (PB ∉ S) := fun h => by have h1 := arrK.lt X7.out _ h; omega
        have NYqB : Hid (PB ∉ SY) := fun h => by have h1 := arrK.lt Y7.out _ h; omega
        have NZqB : Hid (PB ∉ SZ) := fun h => by have h1 := arrK.lt Z7.out _ h; omega
        have NBqB : Hid (PB ∉ SB) := fun h => by have h1 := cellK.lt B7.out _ h; omega
        have HPB := Lib.hid hPB
        clear hPB
        have hb8 : Below w7.heap.size w7 (w7.alloc (.cells #[.slice Ba0 Bn0 Bc0, .bool pz] 42)) := (Below.refl _ _).alloc (Nat.le_refl _) _
        have gg8 := keep_block hb8 gg7 (lt_of_block gg7)
        have ll8 := keep_block hb8 ll7 (lt_of_block ll7)
        have pp8 := keep_block hb8 pp7 (lt_of_block pp7)
        have qX8 := keep_block hb8 qX7 (lt_of_block qX7)
        have at8 := keep_block hb8 at7 (lt_of_block at7)
        have qY8 := keep_block hb8 qY7 (lt_of_block qY7)
        have qZ8 := keep_block hb8 qZ7 (lt_of_block qZ7)
        have X8 : Hid (arrK.own (w7.alloc (.cells #[.slice Ba0 Bn0 Bc0, .bool pz] 42)) S [.slice xa0 xn0 xc0, .slice xa1 xn1 xc1, .slice xa2 xn2 xc2] xx) := arrK.ownBelow X7.out hb8
        have Y8 : Hid (arrK.own (w7.alloc (.cells #[.slice Ba0 Bn0 Bc0, .bool pz] 42)) SY [.slice Ya0 Yn0 Yc0, .slice Ya1 Yn1 Yc1, .slice Ya2 Yn2 Yc2] x1) := arrK.ownBelow Y7.out hb8
        have Z8 : Hid (arrK.own (w7.alloc (.cells #[.slice Ba0 Bn0 Bc0, .bool pz] 42)) SZ [.slice Za0 Zn0 Zc0, .slice Za1 Zn1 Zc1, .slice Za2 Zn2 Zc2] x2) := arrK.ownBelow Z7.out hb8
        have B8 : Hid (cellK.own (w7.alloc (.cells #[.slice Ba0 Bn0 Bc0, .bool pz] 42)) SB [.slice Ba0 Bn0 Bc0, .bool pz] (s, pz)) := cellK.ownBelow B7.out hb8
        have qB8 := heap_alloc_new w7 (.cells #[.slice Ba0 Bn0 Bc0, .bool pz] 42)
        have HB8 : Hid (Below w.heap.size w (w7.alloc (.cells #[.slice Ba0 Bn0 Bc0, .bool pz] 42))) := HB7.out.trans (hb8.mono HB7.out.size)
        obtain ⟨egg0, egg1, egg2, egg3⟩ := cells4 gg8
        obtain ⟨eqY0, eqY1, eqY2⟩ := cells3 qY8
        obtain ⟨eat0, eat1, eat2⟩ := cells3 at8
        go_wp2_with fail
        clear hb8 egg0 egg1 egg2 egg3 eqY0 eqY1 eqY2 eat0 eat1 eat2
        clear gg7 ll7 pp7 qX7 at7 qY7 qZ7 X7 Y7 Z7 B7 HB7
        generalize (w7.alloc (.cells #[.slice Ba0 Bn0 Bc0, .bool pz] 42)) = w8 at gg8 ll8 pp8 qX8 at8 qY8 qZ8 X8 Y8 Z8 B8 qB8 HB8 ⊢
        rw [HPB.out] at qB8
        (try simp only [HPB.out])
        clear HPB
        clear kgg0 kgg1 kgg2 kgg3 kqX0 kqX1 kqX2 kat0 kat1 kat2
        refine (loadC_at LOAD.out HL2.out (arrK.read Y8.out) HFIT1.out).mono ?_
        rintro e w9 ⟨cs, SC, rfl, own9, hs9, hb9⟩
        have gg9 := keep_block hb9 gg8 (lt_of_block gg8)
        have ll9 := keep_block hb9 ll8 (lt_of_block ll8)
        have pp9 := keep_block hb9 pp8 (lt_of_block pp8)
        have qX9 := keep_block hb9 qX8 (lt_of_block qX8)
        have at9 := keep_block hb9 at8 (lt_of_block at8)
        have qY9 := keep_block hb9 qY8 (lt_of_block qY8)
        have qZ9 := keep_block hb9 qZ8 (lt_of_block qZ8)
        have qB9 := keep_block hb9 qB8 (lt_of_block qB8)
        have X9 : Hid (arrK.own w9 S [.slice xa0 xn0 xc0, .slice xa1 xn1 xc1, .slice xa2 xn2 xc2] xx) := arrK.ownBelow X8.out hb9
        have Y9 : Hid (arrK.own w9 SY [.slice Ya0 Yn0 Yc0, .slice Ya1 Yn1 Yc1, .slice Ya2 Yn2 Yc2] x1) := arrK.ownBelow Y8.out hb9
        have Z9 : Hid (arrK.own w9 SZ [.slice Za0 Zn0 Zc0, .slice Za1 Zn1 Zc1, .slice Za2 Zn2 Zc2] x2) := arrK.ownBelow Z8.out hb9
        have B9 : Hid (cellK.own w9 SB [.slice Ba0 Bn0 Bc0, .bool pz] (s, pz)) := cellK.ownBelow B8.out hb9
        have HB9 : Hid (Below w.heap.size w w9) := HB8.out.trans (hb9.mono HB8.out.size)
        have BC : Hid (∀ b ∈ SC, w8.heap.size ≤ b) := hs9
        clear hs9
        obtain ⟨Ca0, Cn0, Cc0, rfl, _⟩ := cell_rd (cellK.read own9)
        have C9 : Hid (cellK.own w9 SC [.slice Ca0 Cn0 Cc0, .bool pz] (s.set k' (xr (s.getD k' 0) mm), pz)) := own9
        have DXC : Hid (∀ b ∈ S, b ∉ SC) := fun b h1 h2 => by have h3 := arrK.lt X8.out b h1; have h4 := BC.out b h2; omega
        have DYC : Hid (∀ b ∈ SY, b ∉ SC) := fun b h1 h2 => by have h3 := arrK.lt Y8.out b h1; have h4 := BC.out b h2; omega
        have DZC : Hid (∀ b ∈ SZ, b ∉ SC) := fun b h1 h2 => by have h3 := arrK.lt Z8.out b h1; have h4 := BC.out b h2; omega
        have DBC : Hid (∀ b ∈ SB, b ∉ SC) := fun b h1 h2 => by have h3 := cellK.lt B8.out b h1; have h4 := BC.out b h2; omega
        have NCgg : Hid (PG ∉ SC) := fun h => by have h1 := lt_of_block gg8; have h2 := BC.out _ h; omega
        have NCll : Hid ((PG + 1) ∉ SC) := fun h => by have h1 := lt_of_block ll8; have h2 := BC.out _ h; omega
        have NCpp : Hid (Pg ∉ SC) := fun h => by have h1 := lt_of_block pp8; have h2 := BC.out _ h; omega
        have NCqX : Hid ((PG + 1 + 1) ∉ SC) := fun h => by have h1 := lt_of_block qX8; have h2 := BC.out _ h; omega
        have NCat : Hid (Pat ∉ SC) := fun h => by have h1 := lt_of_block at8; have h2 := BC.out _ h; omega
        have NCqY : Hid (PY ∉ SC) := fun h => by have h1 := lt_of_block qY8; have h2 := BC.out _ h; omega
        have NCqZ : Hid (PZ ∉ SC) := fun h => by have h1 := lt_of_block qZ8; have h2 := BC.out _ h; omega
        have NCqB : Hid (PB ∉ SC) := fun h => by have h1 := lt_of_block qB8; have h2 := BC.out _ h; omega
        clear own9 hb9
        clear gg8 ll8 pp8 qX8 at8 qY8 qZ8 qB8 X8 Y8 Z8 B8 HB8
        obtain ⟨PC, hPC⟩ : ∃ P, w9.heap.size = P := ⟨_, rfl⟩
        have NXqC : Hid (PC ∉ S) := fun h => by have h1 := arrK.lt X9.out _ h; omega
        have NYqC : Hid (PC ∉ SY) := fun h => by have h1 := arrK.lt Y9.out _ h; omega
        have NZqC : Hid (PC ∉ SZ) := fun h => by have h1 := arrK.lt Z9.out _ h; omega
        have NBqC : Hid (PC ∉ SB) := fun h => by have h1 := cellK.lt B9.out _ h; omega
        have NCqC : Hid (PC ∉ SC) := fun h => by have h1 := cellK.lt C9.out _ h; omega
        have HPC := Lib.hid hPC
        clear hPC
        have hb10 : Below w9.heap.size w9 (w9.alloc (.cells #[.slice Ca0 Cn0 Cc0, .bool pz] 42)) := (Below.refl _ _).alloc (Nat.le_refl _) _
        have gg10 := keep_block hb10 gg9 (lt_of_block gg9)
        have ll10 := keep_block hb10 ll9 (lt_of_block ll9)
        have pp10 := keep_block hb10 pp9 (lt_of_block pp9)
        have qX10 := keep_block hb10 qX9 (lt_of_block qX9)
        have at10 := keep_block hb10 at9 (lt_of_block at9)
        have qY10 := keep_block hb10 qY9 (lt_of_block qY9)
        have qZ10 := keep_block hb10 qZ9 (lt_of_block qZ9)
        have qB10 := keep_block hb10 qB9 (lt_of_block qB9)
        have X10 : Hid (arrK.own (w9.alloc (.cells #[.slice Ca0 Cn0 Cc0, .bool pz] 42)) S [.slice xa0 xn0 xc0, .slice xa1 xn1 xc1, .slice xa2 xn2 xc2] xx) := arrK.ownBelow X9.out hb10
        have Y10 : Hid (arrK.own (w9.alloc (.cells #[.slice Ca0 Cn0 Cc0, .bool pz] 42)) SY [.slice Ya0 Yn0 Yc0, .slice Ya1 Yn1 Yc1, .slice Ya2 Yn2 Yc2] x1) := arrK.ownBelow Y9.out hb10
        have Z10 : Hid (arrK.own (w9.alloc (.cells #[.slice Ca0 Cn0 Cc0, .bool pz] 42)) SZ [.slice Za0 Zn0 Zc0, .slice Za1 Zn1 Zc1, .slice Za2 Zn2 Zc2] x2) := arrK.ownBelow Z9.out hb10
        have B10 : Hid (cellK.own (w9.alloc (.cells #[.slice Ca0 Cn0 Cc0, .bool pz] 42)) SB [.slice Ba0 Bn0 Bc0, .bool pz] (s, pz)) := cellK.ownBelow B9.out hb10
        have C10 : Hid (cellK.own (w9.alloc (.cells #[.slice Ca0 Cn0 Cc0, .bool pz] 42)) SC [.slice Ca0 Cn0 Cc0, .bool pz] (s.set k' (xr (s.getD k' 0) mm), pz)) := cellK.ownBelow C9.out hb10
        have qC10 := heap_alloc_new w9 (.cells #[.slice Ca0 Cn0 Cc0, .bool pz] 42)
        have HB10 : Hid (Below w.heap.size w (w9.alloc (.cells #[.slice Ca0 Cn0 Cc0, .bool pz] 42))) := HB9.out.trans (hb10.mono HB9.out.size)
        obtain ⟨egg0, egg1, egg2, egg3⟩ := cells4 gg10
        obtain ⟨eqZ0, eqZ1, eqZ2⟩ := cells3 qZ10
        obtain ⟨eat0, eat1, eat2⟩ := cells3 at10
        go_wp2_with fail
        clear hb10 egg0 egg1 egg2 egg3 eqZ0 eqZ1 eqZ2 eat0 eat1 eat2
        clear gg9 ll9 pp9 qX9 at9 qY9 qZ9 qB9 X9 Y9 Z9 B9 C9 HB9
        generalize (w9.alloc (.cells #[.slice Ca0 Cn0 Cc0, .bool pz] 42)) = w10 at gg10 ll10 pp10 qX10 at10 qY10 qZ10 qB10 X10 Y10 Z10 B10 C10 qC10 HB10 ⊢
        rw [HPC.out] at qC10
        (try simp only [HPC.out])
        clear HPC
        refine (loadC_at LOAD.out HL3.out (arrK.read Z10.out) HFIT2.out).mono ?_
        rintro e w11 ⟨cs, SD, rfl, own11, hs11, hb11⟩
        have gg11 := keep_block hb11 gg10 (lt_of_block gg10)
        have ll11 := keep_block hb11 ll10 (lt_of_block ll10)
        have pp11 := keep_block hb11 pp10 (lt_of_block pp10)
        have qX11 := keep_block hb11 qX10 (lt_of_block qX10)
        have at11 := keep_block hb11 at10 (lt_of_block at10)
        have qY11 := keep_block hb11 qY10 (lt_of_block qY10)
        have qZ11 := keep_block hb11 qZ10 (lt_of_block qZ10)
        have qB11 := keep_block hb11 qB10 (lt_of_block qB10)
        have qC11 := keep_block hb11 qC10 (lt_of_block qC10)
        have X11 : Hid (arrK.own w11 S [.slice xa0 xn0 xc0, .slice xa1 xn1 xc1, .slice xa2 xn2 xc2] xx) := arrK.ownBelow X10.out hb11
        have Y11 : Hid (arrK.own w11 SY [.slice Ya0 Yn0 Yc0, .slice Ya1 Yn1 Yc1, .slice Ya2 Yn2 Yc2] x1) := arrK.ownBelow Y10.out hb11
        have Z11 : Hid (arrK.own w11 SZ [.slice Za0 Zn0 Zc0, .slice Za1 Zn1 Zc1, .slice Za2 Zn2 Zc2] x2) := arrK.ownBelow Z10.out hb11
        have B11 : Hid (cellK.own w11 SB [.slice Ba0 Bn0 Bc0, .bool pz] (s, pz)) := cellK.ownBelow B10.out hb11
        have C11 : Hid (cellK.own w11 SC [.slice Ca0 Cn0 Cc0, .bool pz] (s.set k' (xr (s.getD k' 0) mm), pz)) := cellK.ownBelow C10.out hb11
        have HB11 : Hid (Below w.heap.size w w11) := HB10.out.trans (hb11.mono HB10.out.size)
        have BD : Hid (∀ b ∈ SD, w10.heap.size ≤ b) := hs11
        clear hs11
        obtain ⟨Da0, Dn0, Dc0, rfl, _⟩ := cell_rd (cellK.read own11)
        have D11 : Hid (cellK.own w11 SD [.slice Da0 Dn0 Dc0, .bool pz] (s, pz)) := own11
        have DXD : Hid (∀ b ∈ S, b ∉ SD) := fun b h1 h2 => by have h3 := arrK.lt X10.out b h1; have h4 := BD.out b h2; omega
        have DYD : Hid (∀ b ∈ SY, b ∉ SD) := fun b h1 h2 => by have h3 := arrK.lt Y10.out b h1; have h4 := BD.out b h2; omega
        have DZD : Hid (∀ b ∈ SZ, b ∉ SD) := fun b h1 h2 => by have h3 := arrK.lt Z10.out b h1; have h4 := BD.out b h2; omega
        have DBD : Hid (∀ b ∈ SB, b ∉ SD) := fun b h1 h2 => by have h3 := cellK.lt B10.out b h1; have h4 := BD.out b h2; omega
        have DCD : Hid (∀ b ∈ SC, b ∉ SD) := fun b h1 h2 => by have h3 := cellK.lt C10.out b h1; have h4 := BD.out b h2; omega
        have NDgg : Hid (PG ∉ SD) := fun h => by have h1 := lt_of_block gg10; have h2 := BD.out _ h; omega
        have NDll : Hid ((PG + 1) ∉ SD) := fun h => by have h1 := lt_of_block ll10; have h2 := BD.out _ h; omega
        have NDpp : Hid (Pg ∉ SD) := fun h => by have h1 := lt_of_block pp10; have h2 := BD.out _ h; omega
        have NDqX : Hid ((PG + 1 + 1) ∉ SD) := fun h => by have h1 := lt_of_block qX10; have h2 := BD.out _ h; omega
        have NDat : Hid (Pat ∉ SD) := fun h => by have h1 := lt_of_block at10; have h2 := BD.out _ h; omega
        have NDqY : Hid (PY ∉ SD) := fun h => by have h1 := lt_of_block qY10; have h2 := BD.out _ h; omega
        have NDqZ : Hid (PZ ∉ SD) := fun h => by have h1 := lt_of_block qZ10; have h2 := BD.out _ h; omega
        have NDqB : Hid (PB ∉ SD) := fun h => by have h1 := lt_of_block qB10; have h2 := BD.out _ h; omega
        have NDqC : Hid (PC ∉ SD) := fun h => by have h1 := lt_of_block qC10; have h2 := BD.out _ h; omega
        clear own11 hb11
        clear gg10 ll10 pp10 qX10 at10 qY10 qZ10 qB10 qC10 X10 Y10 Z10 B10 C10 HB10
        obtain ⟨PD, hPD⟩ : ∃ P, w11.heap.size = P := ⟨_, rfl⟩
        have NXqD : Hid (PD ∉ S) := fun h => by have h1 := arrK.lt X11.out _ h; omega
        have NYqD : Hid (PD ∉ SY) := fun h => by have h1 := arrK.lt Y11.out _ h; omega
        have NZqD : Hid (PD ∉ SZ) := fun h => by have h1 := arrK.lt Z11.out _ h; omega
        have NBqD : Hid (PD ∉ SB) := fun h => by have h1 := cellK.lt B11.out _ h; omega
        have NCqD : Hid (PD ∉ SC) := fun h => by have h1 := cellK.lt C11.out _ h; omega
        have NDqD : Hid (PD ∉ SD) := fun h => by have h1 := cellK.lt D11.out _ h; omega
        have HPD := Lib.hid hPD
        clear hPD
        have hb12 : Below w11.heap.size w11 (w11.alloc (.cells #[.slice Da0 Dn0 Dc0, .bool pz] 42)) := (Below.refl _ _).alloc (Nat.le_refl _) _
        have gg12 := keep_block hb12 gg11 (lt_of_block gg11)
        have ll12 := keep_block hb12 ll11 (lt_of_block ll11)
        have pp12 := keep_block hb12 pp11 (lt_of_block pp11)
        have qX12 := keep_block hb12 qX11 (lt_of_block qX11)
        have at12 := keep_block hb12 at11 (lt_of_block at11)
        have qY12 := keep_block hb12 qY11 (lt_of_block qY11)
        have qZ12 := keep_block hb12 qZ11 (lt_of_block qZ11)
        have qB12 := keep_block hb12 qB11 (lt_of_block qB11)
        have qC12 := keep_block hb12 qC11 (lt_of_block qC11)
        have X12 : Hid (arrK.own (w11.alloc (.cells #[.slice Da0 Dn0 Dc0, .bool pz] 42)) S [.slice xa0 xn0 xc0, .slice xa1 xn1 xc1, .slice xa2 xn2 xc2] xx) := arrK.ownBelow X11.out hb12
        have Y12 : Hid (arrK.own (w11.alloc (.cells #[.slice Da0 Dn0 Dc0, .bool pz] 42)) SY [.slice Ya0 Yn0 Yc0, .slice Ya1 Yn1 Yc1, .slice Ya2 Yn2 Yc2] x1) := arrK.ownBelow Y11.out hb12
        have Z12 : Hid (arrK.own (w11.alloc (.cells #[.slice Da0 Dn0 Dc0, .bool pz] 42)) SZ [.slice Za0 Zn0 Zc0, .slice Za1 Zn1 Zc1, .slice Za2 Zn2 Zc2] x2) := arrK.ownBelow Z11.out hb12
        have B12 : Hid (cellK.own (w11.alloc (.cells #[.slice Da0 Dn0 Dc0, .bool pz] 42)) SB [.slice Ba0 Bn0 Bc0, .bool pz] (s, pz)) := cellK.ownBelow B11.out hb12
        have C12 : Hid (cellK.own (w11.alloc (.cells #[.slice Da0 Dn0 Dc0, .bool pz] 42)) SC [.slice Ca0 Cn0 Cc0, .bool pz] (s.set k' (xr (s.getD k' 0) mm), pz)) := cellK.ownBelow C11.out hb12
        have D12 : Hid (cellK.own (w11.alloc (.cells #[.slice Da0 Dn0 Dc0, .bool pz] 42)) SD [.slice Da0 Dn0 Dc0, .bool pz] (s, pz)) := cellK.ownBelow D11.out hb12
        have qD12 := heap_alloc_new w11 (.cells #[.slice Da0 Dn0 Dc0, .bool pz] 42)
        have HB12 : Hid (Below w.heap.size w (w11.alloc (.cells #[.slice Da0 Dn0 Dc0, .bool pz] 42))) := HB11.out.trans (hb12.mono HB11.out.size)
        go_wp2_with fail
        clear hb12
        clear gg11 ll11 pp11 qX11 at11 qY11 qZ11 qB11 qC11 X11 Y11 Z11 B11 C11 D11 HB11
        generalize (w11.alloc (.cells #[.slice Da0 Dn0 Dc0, .bool pz] 42)) = w12 at gg12 ll12 pp12 qX12 at12 qY12 qZ12 qB12 qC12 X12 Y12 Z12 B12 C12 D12 qD12 HB12 ⊢
        rw [HPD.out] at qD12
        (try simp only [HPD.out])
        clear HPD
        have hBi := cell_ints B12.out
        have hCi := cell_ints C12.out
        have hDi := cell_ints D12.out
        have lC := (Kn.row_len hCi).1
        have lB := (Kn.row_len hBi).1
        rw [List.length_set, HSL.out] at lC
        rw [HSL.out] at lB
        obtain ⟨g1, o1, exb, c1⟩ := (ints_row hBi).at (k := k') (by rw [HSL.out]; exact HK11.out)
        obtain ⟨g2, o2, exc, c2⟩ := (ints_row hCi).at (k := k') (by rw [List.length_set, HSL.out]; exact HK11.out)
        rw [getD_setI _ _ _ _ (by rw [HSL.out]; exact HK11.out), if_pos rfl] at c2
        obtain ⟨v, hv⟩ : ∃ v, s.getD k' 0 = v := ⟨_, rfl⟩
        rw [hv] at c1 c2
        have hve : El v := hv ▸ (mem_getDI (P := fun v => El v)).1 HSE.out k' (by rw [HSL.out]; exact HK11.out)
        obtain ⟨y, hy⟩ : ∃ y, xr v mm = y := ⟨_, rfl⟩
        have ex : bits .xor .i64 v uI = y := by
          rw [← hy, HMM.out.1]
          obtain ⟨vn, rfl⟩ := Int.eq_ofNat_of_zero_le hve.1
          rw [i64_xor_nat vn mm (by have := hve.2; omega) (by have := HMM.out.2; omega)]
          rfl
        rw [hy] at c2
        have tyy : (y == y) = true := by simp
        rw [exb, ← lB] at hBi
        have HBI := Lib.hid hBi
        have HDI := Lib.hid hDi
        have hk11 : (k' : Int) < 11 := by have := HK11.out; omega
        obtain ⟨kqB0, kqB1⟩ := cells2 qB12
        obtain ⟨kqC0, kqC1⟩ := cells2 qC12
        obtain ⟨kqD0, kqD1⟩ := cells2 qD12
        have ce2 := HPC2.out w12 pp12
        rw [exb, ← lB] at kqB0
        rw [exc, ← lC] at kqC0
        have z0 := fun q : Later w12 => q.cell kqB0
        have z1 := fun q : Later w12 => q.cell kqB1
        have z2 := fun q : Later w12 => q.cell kqC0
        have z3 := fun q : Later w12 => q.cell kqC1
        have z4 := fun q : Later w12 => q.cell kqD0
        have z5 := fun q : Later w12 => q.cell kqD1
        have z6 := fun q : Later w12 => q.cell c1
        have z7 := fun q : Later w12 => q.cell c2
        have z8 := fun q : Later w12 => q.cell ce2
        clear hBi hCi hDi lC lB exb exc hv hve hy
        go_wp2_with fail
        refine wp_region_later (by kernel_rfl) (by kernel_rfl) ?_
        repeat (go_big_quiet_step (first | (go_at_call 20; exact Gives.later _ (sameCell_k (intsK.below HBI.out (Later.ok _)) (intsK.below HDI.out (Later.ok _))))))
        refine wpQuiet_nil ?_
        rintro w2 ⟨zz, rfl⟩
        have HBE : Hid (Below w.heap.size w zz.to) := HB12.out.trans (zz.ok.mono HB12.out.size)
        clear z0 z1 z2 z3 z4 z5 z6 z7 z8 kqB0 kqB1 kqC0 kqC1 kqD0 kqD1 c1 c2 ce2
        go_wp2_with fail
        go_ret
        exact ⟨rfl, HBE.out⟩

end Go.Proofs.Ytfpfgaifhmgpiaa

namespace Go.Proofs.Ytfpfgaifhmgpiaa
open Go.RowKit Go.PlainAid

set_option linter.unusedVariables false

/-- A call that answers a row of ints of the call's own, so long. -/
def GivesN (n : Nat) (l : List Int) (w : World) (e : Ending) (w' : World) : Prop := ∃ a c S, e = .returned (.slice a n c) ∧ intsK.own w' S [.slice a n c] l ∧ (∀ b ∈ S, w.heap.size ≤ b) ∧ Below w.heap.size w w'

set_option maxHeartbeats 4000000 in
theorem implCloneN_is {a : Option Addr} {n c : Nat} {l : List Int} {w : World} (h : intsK.rd w [.slice a n c] l) (hl : l.length ≤ 4000000) :
    Calls Try.prog 96 #[.slice a n c] w (GivesN n l w) := by
  have q0 : ∀ (w : World) (a : Option Addr) (n c n' c' : Nat), (Go.binOp .eql 29 (.slice a n c) (.slice none n' c')).run Try.prog w = .ok (.bool a.isNone) w := fun w a n c n' c' => Lib.run_eql_slice_nil w _ _ a n c n' c' Try.underlying29
  obtain ⟨h1, h2, h3, h4⟩ := Kn.row_len h
  rcases a with _ | ad
  · obtain rfl : c = 0 := h4 rfl
    obtain rfl : n = 0 := by omega
    obtain rfl : l = [] := List.length_eq_zero_iff.1 h1
    clear h h1 h2 h3 h4 hl
    go_enter Try.func96, Try.ntmps96
    go_wp2
    go_ret
    exact ⟨none, 0, [], rfl, ints_none _, (fun b hb => by cases hb), Below.refl _ _⟩
  · have hbA : Below w.heap.size w (w.alloc (.cells #[] 3)) := (Below.refl _ _).alloc (Nat.le_refl _) _
    have HR : Hid (intsK.rd (w.alloc (.cells #[] 3)) [.slice (some ad) n c] l) := intsK.below h hbA
    have hgA : (w.alloc (.cells #[] 3)).heap[w.heap.size]? = some (.cells #[] 3 (0, 0)) := heap_alloc_new _ _
    have hSA : w.heap.size ≤ (w.alloc (.cells #[] 3)).heap.size := by simp
    clear h h1 h2 h3 h4
    go_enter Try.func96, Try.ntmps96
    go_wp2_with (at_builtin; refine copy_ints rfl _ _ rfl w.heap.size w.heap.size rfl (Nat.le_refl _) hgA (some ad) n c l rfl HR.out hl hSA ?_)
    intro ab cb w3 S own3 hS3 hb3
    have HO := Lib.hid own3
    have HS : Hid (∀ b ∈ S, w.heap.size ≤ b) := fun b hb => by have := hS3 b hb; omega
    have HB : Hid (Below w.heap.size w w3) := hbA.trans (hb3.mono (by simp))
    clear own3 hS3 hb3 hbA hgA hSA
    go_wp2_with fail
    go_ret
    exact ⟨ab, cb, S, rfl, HO.out, HS.out, HB.out⟩

theorem cell_one {w : World} : ∀ {x : List (List Int × Bool)} {xs : List Value}, cellK.rds w xs x → ∀ u ∈ xs, u.oneCell' = true
  | [], xs, h, u, hu => by rw [show xs = [] from h] at hu; cases hu
  | y :: x, xs, ⟨c1, c2, e, h1, h2⟩, u, hu => by
    obtain ⟨a, n, c, rfl, _⟩ := cell_rd h1
    rw [e] at hu
    rcases List.mem_append.1 hu with h | h
    · simp only [List.mem_cons, List.not_mem_nil, or_false] at h
      rcases h with rfl | rfl <;> rfl
    · exact cell_one h2 u h

set_option maxHeartbeats 4000000 in
theorem implCloneC_is {a : Option Addr} {n c : Nat} {x : List (List Int × Bool)} {w : World} (h : cellsK.rd w [.slice a n c] x) (hl : x.length ≤ 3000000) :
    Calls Try.prog 95 #[.slice a n c] w fun e w' => ∃ va vc xs, e = .returned (.slice va n vc) ∧ w'.ownsRow w.heap.size 42 2 (.slice va n vc) n xs ∧ cellK.rds w xs x ∧ Below w.heap.size w w' := by
  have q0 : ∀ (w : World) (a : Option Addr) (n c n' c' : Nat), (Go.binOp .eql 28 (.slice a n c) (.slice none n' c')).run Try.prog w = .ok (.bool a.isNone) w := fun w a n c n' c' => Lib.run_eql_slice_nil w _ _ a n c n' c' Try.underlying28
  obtain ⟨a', n', c', xs, e, h1, h2, h3, h4, h5⟩ := h
  simp only [List.cons.injEq, Value.slice.injEq, and_true] at e
  obtain ⟨rfl, rfl, rfl⟩ := e
  have hxl : xs.length = n * 2 := by rw [← h1]; exact cellK.rds_len h4
  rcases a with _ | ad
  · obtain rfl : c = 0 := h3 rfl
    obtain rfl : n = 0 := by omega
    obtain rfl : x = [] := List.length_eq_zero_iff.1 h1
    clear h1 h2 h3 h5 hl
    have HX := Lib.hid h4
    clear h4 hxl
    go_enter Try.func95, Try.ntmps95
    go_wp2
    go_ret
    exact ⟨none, 0, [], rfl, World.ownsRow_nil _ _ _ _, rfl, Below.refl _ _⟩
  · obtain ⟨i0, hi, hz0, hz1, hz2⟩ := info_parts infoCell
    have hbA : Below w.heap.size w (w.alloc (.cells #[] 42)) := (Below.refl _ _).alloc (Nat.le_refl _) _
    have HX := Lib.hid h4
    have HON := Lib.hid (cell_one h4)
    have HN : Hid (∀ j u, xs[j]? = some u → (w.alloc (.cells #[] 42)).cell? (ad.add j) = some u) := fun j u hu => by
      rcases h5 with h5 | ⟨g, off, ha, hc⟩
      · subst h5
        rw [show xs = [] from h4] at hu
        cases hu
      · cases ha
        have hj : j < xs.length := by
          by_cases hlt : j < xs.length
          · exact hlt
          · rw [List.getElem?_eq_none (by omega)] at hu; cases hu
        have := (hc j hj).trans hu
        rw [Addr.add_lit]
        exact (hbA.cell (World.block_lt_of_cell? _ _ this)).trans this
    have own3 : (w.alloc (.cells #[] 42)).ownsRow w.heap.size 42 2 (.slice (some ⟨w.heap.size, 0, none⟩) 0 0) 0 [] := World.ownsRow_made (base := w.heap.size) (e := 42) (size := 2) w #[] 0 (Nat.le_refl _) (by decide) rfl
    have hS3 : w.heap.size ≤ (w.alloc (.cells #[] 42)).heap.size := by simp
    have hnm : n ≤ 3000000 := by omega
    clear h1 h2 h3 h4 h5 hl
    go_enter Try.func95, Try.ntmps95
    go_wp2_with (at_builtin; refine wpList_append_own_at _ rfl _ _ 28 rfl w.heap.size 42 i0 (.agg #[.slice none 0 0, .bool false]) 2 32 Try.underlying28 hi hz0 hz1 hz2 rfl (by decide) _ 0 [] rfl own3 ad n c xs rfl hxl HN.out HON.out (by unfold maxLen; omega) (by omega) hS3 ?_)
    intro v' w4 hown4 hgrow _ _
    have HB4 : Hid (Below w.heap.size w w4) := hbA.grown hgrow hS3 (fun j hj => by have := Option.some.inj hj; have h2 : w.heap.size = j := this; omega)
    have hsh : ∃ va vc, v' = .slice va n vc := by
      rcases hown4.2 with ⟨rfl, h0⟩ | ⟨g, cap, cur, rfl, _⟩
      · exact ⟨none, 0, by rw [h0]⟩
      · exact ⟨_, cap, rfl⟩
    obtain ⟨va, vc, rfl⟩ := hsh
    have HO4 := Lib.hid hown4
    clear hown4 hgrow own3 hbA hS3
    go_wp2_with fail
    go_ret
    exact ⟨va, vc, xs, rfl, HO4.out, HX.out, HB4.out⟩

set_option maxHeartbeats 8000000 in
theorem implCell_k {a : Option Addr} {n c : Nat} {s : List Int} {p : Bool} {w : World} (h : intsK.rd w [.slice a n c] s) (hl : s.length ≤ 4000000) :
    Calls Try.prog 54 #[.agg #[.slice a n c, .bool p]] w (GivesS cellK (s, p) w) := by
  obtain ⟨w1, hw1⟩ : ∃ u, (w.alloc (.cells #[.slice a n c, .bool p] 42)).alloc (.cells #[.slice none 0 0, .bool false] 42) = u := ⟨_, rfl⟩
  have HB1 : Hid (Below w.heap.size w w1) := by subst hw1; exact ((Below.refl _ _).alloc (Nat.le_refl _) _).alloc (by simp) _
  have p1 : w1.heap[w.heap.size]? = some (.cells #[.slice a n c, .bool p] 42) := by subst hw1; exact heap_alloc2_old _ _ _
  have r1 : w1.heap[w.heap.size + 1]? = some (.cells #[.slice none 0 0, .bool false] 42) := by subst hw1; exact heap_alloc2_new _ _ _
  have HR : Hid (intsK.rd w1 [.slice a n c] s) := intsK.below h HB1.out
  obtain ⟨x0, x1⟩ := cells2 p1
  clear h
  go_enter Try.func54, Try.ntmps54
  go_wp2_with fail
  refine wp_region_float (A := ?A) [.h, .h, .t, .h, .h, .t, .e] (by kernel_rfl) (by kernel_rfl) (fun q => q.cell? ⟨w.heap.size, 0, none⟩ = some (.slice a n c) ∧ q.cell? ⟨w.heap.size, 1, none⟩ = some (.bool p)) ?hC ?hH ?hT
  case hC => exact ⟨x0, x1⟩
  case hH =>
    intro q hq
    obtain ⟨h0, h1⟩ := hq
    have z0 := fun t : Same q => t.cell h0
    have z1 := fun t : Same q => t.cell h1
    simp only [headsOf]
    repeat (go_big_quiet_step (fail))
    refine wpQuiet_nil ?_
    exact rfl
  case hT =>
    simp only [chainT]
    have hdr : Below w1.heap.size w1 w1.drew := ⟨rfl, rfl, rfl, Nat.le_refl _, fun _ _ => rfl⟩
    have HRD : Hid (intsK.rd w1.drew [.slice a n c] s) := intsK.below HR.out hdr
    have HBD : Hid (Below w.heap.size w w1.drew) := HB1.out.trans (hdr.mono HB1.out.size)
    have pd : w1.drew.heap[w.heap.size]? = _ := p1
    have rd : w1.drew.heap[w.heap.size + 1]? = _ := r1
    clear p1 r1 HR HB1 hdr x0 x1
    generalize w1.drew = w2 at *
    go_wp2_with fail
    refine (implCloneN_is HRD.out hl).mono ?_
    rintro e w3 ⟨ya, yc, S, rfl, own3, hS3, hb3⟩
    have HO3 := Lib.hid own3
    have p3 := keep_block hb3 pd (lt_of_block pd)
    have r3 := keep_block hb3 rd (lt_of_block rd)
    have HB3 : Hid (Below w.heap.size w w3) := HBD.out.trans (hb3.mono HBD.out.size)
    have HNR : Hid (∀ b ∈ S, b ≠ w.heap.size + 1 ∧ w.heap.size ≤ b) := fun b hb => by have := hS3 b hb; have := lt_of_block rd; omega
    clear own3 hS3 hb3 pd rd HBD HRD
    obtain ⟨x0, x1⟩ := cells2 p3
    go_wp2_with fail
    refine stepQ_normal ⟨⟨x0, x1⟩, ?_⟩
    go_wp2_with fail
    refine stepQ_normal ⟨⟨x0, x1⟩, ?_⟩
    clear x0 x1
    obtain ⟨y0, y1⟩ := cells2 r3
    have f0 := thawed r3 0
    have f1 := thawed r3 1
    have o4 := set_cells (set_cells r3 0 (.slice ya n yc)) 1 (.bool p)
    obtain ⟨t0, t1⟩ := cells2 o4
    go_wp2_with fail
    refine stepQ_normal ⟨trivial, ?_⟩
    go_wp2_with fail
    (try simp only [Exit.inBlock, Exit.then])
    refine bodyPost_ret (v := .agg #[.slice ya n yc, .bool p]) ?_ rfl ⟨[.slice ya n yc, .bool p], S, rfl, cell_of p ?_, fun b hb => (HNR.out b hb).2, ?_⟩
    · simp [results, Try.results54, go_sem, t0, t1]
    · exact intsK.ownSet (intsK.ownSet HO3.out (fun b hb => (HNR.out b hb).1) _) (fun b hb => (HNR.out b hb).1) _
    · exact (HB3.out.setCell (by simp) _).setCell (by simp) _

set_option maxHeartbeats 8000000 in
set_option maxRecDepth 100000 in
theorem implFlip_is {S : List Nat} {a : Option Addr} {n c t U : Nat} {s : List Int} {p : Bool} {w : World} (h : intsK.own w S [.slice a n c] s) (ht : t < s.length) (hn : n ≤ 1000000) (he : El (s.getD t 0)) (hU : U < 16) :
    Calls Try.prog 61 #[.agg #[.slice a n c, .bool p], .int .i64 t, .int .i64 U] w fun e w' => e = .returned (.tuple #[]) ∧ intsK.own w' S [.slice a n c] (s.set t (xr (s.getD t 0) U)) ∧ OnlyS S w w' := by
  obtain ⟨l1, _, _, _⟩ := Kn.row_len (intsK.read h)
  obtain ⟨Y0, hY0, hY1⟩ : ∃ Y0 : Nat, s.getD t 0 = (Y0 : Int) ∧ Y0 < 16 := ⟨(s.getD t 0).toNat, by have h1 := he.1; omega, by have h1 := he.1; have h2 := he.2; omega⟩
  obtain ⟨w1, hw1⟩ : ∃ u, w.alloc (.cells #[.slice a n c, .bool p] 42) = u := ⟨_, rfl⟩
  have hb1 : Below w.heap.size w w1 := by subst hw1; exact (Below.refl _ _).alloc (Nat.le_refl _) _
  have p1 : w1.heap[w.heap.size]? = some (.cells #[.slice a n c, .bool p] 42) := hw1 ▸ heap_alloc_new w _
  have O1 := intsK.ownBelow h hb1
  have HO1 := Lib.hid O1
  have HN1 : Hid (OnlyS S w w1) := Below.onlyS hb1
  obtain ⟨gs, os, rfl, hgs, hc, _, _, _⟩ := ints_place O1 ht
  rw [hY0] at hc
  have HADD : Hid (gfAdd (Y0 : Int) (U : Int) = xr (Y0 : Int) U) := by
    show _ = _
    rw [gfAdd_nat hY1 hU]
    rfl
  have hlt : t < n := by omega
  have HYY := Lib.hid hY0
  have HTL := Lib.hid ht
  obtain ⟨x0, x1⟩ := cells2 p1
  have z0 := fun q : Later w1 => q.cell x0
  have z1 := fun q : Later w1 => q.cell x1
  have z2 := fun q : Later w1 => q.cell hc
  clear h O1 hb1 x0 x1 hc p1 l1 he ht hY0
  go_enter Try.func61, Try.ntmps61
  go_wp2_with fail
  refine wp_region_later_tail 11 (by kernel_rfl) (by kernel_rfl) ?_
  simp only [List.take_succ_cons, List.take_zero, List.drop_succ_cons, List.drop_zero]
  repeat (go_big_quiet_step (first | (go_at_call 100; exact Gives.later _ (implGfAdd_is _ _ _ HADD.out _))))
  refine wpQuiet_nil ?_
  rintro R0 ⟨zz, hz⟩
  have hbR : Below w1.heap.size w1 R0 := hz ▸ zz.ok
  have O2 := intsK.ownBelow HO1.out hbR
  obtain ⟨_, _, e0, _, hc0, hf0, _, hset0⟩ := ints_place O2 HTL.out
  cases e0
  have hR := hset0 (xr (Y0 : Int) U)
  have HR := Lib.hid hR
  have HN2 : Hid (OnlyS S w R0) := HN1.out.trans (Below.onlyS hbR)
  clear z0 z1 z2 hz zz hbR O2 hset0 hR
  go_wp2_with fail
  (try simp only [Exit.inBlock, Exit.then])
  refine bodyPost_end (v := .tuple #[]) (by simp [results, Try.results61]) rfl ⟨rfl, by rw [HYY.out]; exact HR.out, HN2.out.setCell hgs _⟩

end Go.Proofs.Ytfpfgaifhmgpiaa

namespace Go.Proofs.Ytfpfgaifhmgpiaa
open Go.RowKit Go.PlainAid

set_option linter.unusedVariables false

/-- Two neighbouring cells of a list replaced. -/
theorem set_two {A B : List Value} {c0 c1 u0 u1 : Value} {m : Nat} (hm : A.length = m) : ((A ++ ([c0, c1] ++ B)).set m u0).set (m + 1) u1 = (A ++ [u0, u1]) ++ B := by
  subst hm
  rw [List.set_append_right _ _ (Nat.le_refl _), Nat.sub_self, List.set_append_right _ _ (by omega), Nat.add_sub_cancel_left]
  simp

/-- A row some of whose cells are copies already (blocks S), the others still those of w1. -/
def MixC (w1 wr : World) (B : Nat) (v : Value) (n k : Nat) (x : List (List Int × Bool)) : Prop :=
  ∃ xs1 xs2 S, wr.ownsRow B 42 2 v n (xs1 ++ xs2) ∧ cellK.owns wr S xs1 (x.take k) ∧ cellK.rds w1 xs2 (x.drop k) ∧ S.Nodup ∧ (∀ b ∈ S, B ≤ b) ∧ ∀ g, v.ownBlock = some g → g ∉ S

theorem MixC.below {w1 wr wq : World} {B n k : Nat} {v : Value} {x : List (List Int × Bool)} (h : MixC w1 wr B v n k x) (hb : Below wr.heap.size wr wq) : MixC w1 wq B v n k x := by
  obtain ⟨xs1, xs2, S, h1, h2, h3, h4, h5, h6⟩ := h
  exact ⟨xs1, xs2, S, ownsRow_below h1 hb, cellK.owns_same h2 (fun b hm => hb.block b (cellK.owns_lt h2 b hm)), h3, h4, h5, h6⟩

/-- The place of the next cell. -/
theorem MixC.at {w1 wr : World} {B n k : Nat} {v : Value} {x : List (List Int × Bool)} (h : MixC w1 wr B v n k x) (hx : x.length = n) (hk : k < n) :
    ∃ g cap a m c, v = .slice (some ⟨g, 0, none⟩) n cap ∧ B ≤ g ∧ g < wr.heap.size ∧ (∀ j, wr.frozen? ⟨g, j, none⟩ = false) ∧ wr.cell? ⟨g, k * 2, none⟩ = some (.slice a m c) ∧ wr.cell? ⟨g, k * 2 + 1, none⟩ = some (.bool (x.getD k ([], false)).2) ∧ intsK.rd w1 [.slice a m c] (x.getD k ([], false)).1 := by
  obtain ⟨xs1, xs2, S, h1, h2, h3, h4, h5, h6⟩ := h
  have hc := fun g hg => World.ownsRow.cells h1 (g := g) hg
  have l1 : xs1.length = k * 2 := by
    have := cellK.rds_len (cellK.owns_rds h2)
    rw [List.length_take, Nat.min_eq_left (by omega)] at this
    exact this
  rw [List.drop_eq_getElem_cons (by omega)] at h3
  obtain ⟨c1, c2, rfl, hr, _⟩ := h3
  have e : x.getD k ([], false) = x[k] := by rw [List.getD_eq_getElem?_getD, List.getElem?_eq_getElem (by omega)]; rfl
  rw [e]
  obtain ⟨a, m, c, rfl, hi⟩ := cell_rd hr
  rcases h1.2 with ⟨_, h0⟩ | ⟨g, cap, cur, hv, hB, hh, _⟩
  · omega
  · subst hv
    refine ⟨g, cap, a, m, c, rfl, hB, lt_of_block hh, fun j => by simp [World.frozen?, hh], ?_, ?_, hi⟩
    · have := hc g rfl (k * 2) (.slice a m c) (by rw [List.getElem?_append_right (by omega), l1, Nat.sub_self]; rfl)
      rw [Addr.add_lit, Nat.zero_add] at this
      exact this
    · have := hc g rfl (k * 2 + 1) (.bool x[k].2) (by rw [List.getElem?_append_right (by omega), l1, Nat.add_sub_cancel_left]; rfl)
      rw [Addr.add_lit, Nat.zero_add] at this
      exact this

/-- One cell more copied. -/
theorem MixC.step {w1 w3 wr : World} {B n k g cap m c : Nat} {a : Option Addr} {T : List Nat} {x : List (List Int × Bool)} (h : MixC w1 w3 B (.slice (some ⟨g, 0, none⟩) n cap) n k x) (hb : Below w3.heap.size w3 wr) (hx : x.length = n) (hk : k < n)
    (ho : cellK.own wr T [.slice a m c, .bool (x.getD k ([], false)).2] (x.getD k ([], false))) (hT : ∀ b ∈ T, w3.heap.size ≤ b) (hB : B ≤ w3.heap.size) :
    MixC w1 ((wr.setCell ⟨g, k * 2, none⟩ (.slice a m c)).setCell ⟨g, k * 2 + 1, none⟩ (.bool (x.getD k ([], false)).2)) B (.slice (some ⟨g, 0, none⟩) n cap) n (k + 1) x := by
  obtain ⟨xs1, xs2, S, h1, h2, h3, h4, h5, h6⟩ := h
  have hlt := cellK.owns_lt h2
  have hg3 : g < w3.heap.size := (World.ownsRow.lt h1 g rfl).2
  have hTS : ∀ b ∈ T, b ∉ S := fun b hb hb' => by have := hT b hb; have := hlt b hb'; omega
  have hg : g ∉ T := fun hm => by have := hT g hm; omega
  have h2 := cellK.owns_same h2 (fun b hm => hb.block b (hlt b hm))
  have h1 := ownsRow_below h1 hb
  have e : x.getD k ([], false) = x[k] := by rw [List.getD_eq_getElem?_getD, List.getElem?_eq_getElem (by omega)]; rfl
  rw [e] at ho ⊢
  have l1 : xs1.length = k * 2 := by
    have := cellK.rds_len (cellK.owns_rds h2)
    rw [List.length_take, Nat.min_eq_left (by omega)] at this
    exact this
  rw [List.drop_eq_getElem_cons (by omega)] at h3
  obtain ⟨c1, c2, rfl, hr, h3⟩ := h3
  obtain ⟨a', m', c', rfl, _⟩ := cell_rd hr
  have hgS : g ∉ S := h6 g rfl
  have hne : ∀ b, b ≠ g → ((wr.setCell ⟨g, k * 2, none⟩ (.slice a m c)).setCell ⟨g, k * 2 + 1, none⟩ (.bool x[k].2)).heap[b]? = wr.heap[b]? := fun b hb => (Below.heap_setCell _ _ _ _ hb).trans (Below.heap_setCell _ _ _ _ hb)
  have o1 := (World.ownsRow.stored (World.ownsRow.stored h1 (k * 2) (.slice a m c)).1 (k * 2 + 1) (.bool x[k].2)).1
  rw [set_two l1] at o1
  refine ⟨xs1 ++ [.slice a m c, .bool x[k].2], c2, S ++ T, o1, ?_, h3, ?_, fun b hb => ?_, fun g' hg' => ?_⟩
  · rw [List.take_succ_eq_append_getElem (by omega)]
    refine cellK.owns_same (cellK.owns_snoc ho h2) (fun b hb => hne b (fun e => ?_))
    rcases List.mem_append.1 hb with h | h
    · exact hgS (e ▸ h)
    · exact hg (e ▸ h)
  · rw [List.nodup_append]
    exact ⟨h4, cellK.nodup ho, fun a ha b hb e => hTS b hb (e ▸ ha)⟩
  · rcases List.mem_append.1 hb with h | h
    · exact h5 b h
    · have := hT b h; omega
  · have e2 : g = g' := Option.some.inj hg'
    subst e2
    intro hm
    rcases List.mem_append.1 hm with h | h
    · exact hgS h
    · exact hg h

theorem MixC.start {w1 wr : World} {B n : Nat} {v : Value} {xs : List Value} {x : List (List Int × Bool)} (h : wr.ownsRow B 42 2 v n xs) (hr : cellK.rds w1 xs x) : MixC w1 wr B v n 0 x :=
  ⟨[], xs, [], h, ⟨rfl, rfl⟩, hr, List.nodup_nil, (fun b hb => by cases hb), fun g _ hm => by cases hm⟩

theorem MixC.stop {w1 wr : World} {B n : Nat} {v : Value} {x : List (List Int × Bool)} (h : MixC w1 wr B v n n x) (hx : x.length = n) : ∃ S, cellsK.own wr S [v] x ∧ ∀ b ∈ S, B ≤ b := by
  obtain ⟨xs1, xs2, S, h1, h2, h3, h4, h5, h6⟩ := h
  rw [List.drop_of_length_le (by omega)] at h3
  obtain rfl : xs2 = [] := h3
  rw [List.append_nil] at h1
  rw [List.take_of_length_le (by omega)] at h2
  have hb : cellK.Bld 42 B wr S v x := ⟨xs1, by rw [hx]; exact h1, h2, h4, h5, h6⟩
  exact hb.own

set_option maxHeartbeats 16000000 in
set_option maxRecDepth 100000 in
theorem implCopyA_is {cs : List Value} {x : Arr} {w : World} (h : arrK.rd w cs x) (hf : ArrFit x) :
    Calls Try.prog 51 #[.agg cs.toArray] w (GivesS arrK x w) := by
  obtain ⟨a0, n0, c0, a1, n1, c1, a2, n2, c2, rfl, h0, h1, h2⟩ := arr_rd h
  obtain ⟨xl, y, z⟩ := x
  obtain ⟨w1, hw1⟩ : ∃ u, (w.alloc (.cells #[.slice a0 n0 c0, .slice a1 n1 c1, .slice a2 n2 c2] 31)).alloc (.cells #[.slice none 0 0, .slice none 0 0, .slice none 0 0] 31) = u := ⟨_, rfl⟩
  have HB1 : Hid (Below w.heap.size w w1) := by subst hw1; exact ((Below.refl _ _).alloc (Nat.le_refl _) _).alloc (by simp) _
  have p1 : w1.heap[w.heap.size]? = some (.cells #[.slice a0 n0 c0, .slice a1 n1 c1, .slice a2 n2 c2] 31) := by subst hw1; exact heap_alloc2_old _ _ _
  have r1 : w1.heap[w.heap.size + 1]? = some (.cells #[.slice none 0 0, .slice none 0 0, .slice none 0 0] 31) := by subst hw1; exact heap_alloc2_new _ _ _
  have H0 : Hid (cellsK.rd w1 [.slice a0 n0 c0] xl) := cellsK.below h0 HB1.out
  have H1 : Hid (intsK.rd w1 [.slice a1 n1 c1] y) := intsK.below h1 HB1.out
  have H2 : Hid (intsK.rd w1 [.slice a2 n2 c2] z) := intsK.below h2 HB1.out
  have HF : Hid (xl.length ≤ 3000000 ∧ (∀ c ∈ xl, c.1.length ≤ 4000000) ∧ y.length ≤ 4000000 ∧ z.length ≤ 4000000) := hf
  obtain ⟨hnl, _, hnm, _⟩ := Kn.row_len h0
  have HNL : Hid (xl.length = n0) := hnl
  have hn0 : n0 ≤ 3000000 := by have : xl.length = n0 := hnl; have := HF.out.1; omega
  obtain ⟨x0, x1, x2⟩ := cells3 p1
  clear h h0 h1 h2 hf hnl hnm
  go_enter Try.func51, Try.ntmps51
  go_wp2_with fail
  refine (implCloneC_is H0.out HF.out.1).mono ?_
  rintro e w2 ⟨va, vc, xs, rfl, hown, hrds, hb2⟩
  have HB2 : Hid (Below w.heap.size w w2) := HB1.out.trans (hb2.mono HB1.out.size)
  have p2 := keep_block hb2 p1 (lt_of_block p1)
  have r2 := keep_block hb2 r1 (lt_of_block r1)
  have HM0 : Hid (MixC w1 w2 w1.heap.size (.slice va n0 vc) n0 0 xl) := MixC.start hown hrds
  have HS12 : Hid (w1.heap.size ≤ w2.heap.size) := hb2.size
  have HW1 : Hid (Below w1.heap.size w1 w2) := hb2
  have HS1 : Hid (w.heap.size + 1 < w1.heap.size) := lt_of_block r1
  clear x0 x1 x2 p1 r1 hown hrds hb2 HB1
  go_wp2_with fail
  go_loopw [11] (fun i wr => ∃ k : Nat, k ≤ n0 ∧ i = .int .i64 k ∧ MixC w1 wr w1.heap.size (.slice va n0 vc) n0 k xl ∧ Below w1.heap.size w1 wr ∧ wr.heap[w.heap.size]? = some (.cells #[.slice a0 n0 c0, .slice a1 n1 c1, .slice a2 n2 c2] 31 (0, 0)) ∧ wr.heap[w.heap.size + 1]? = some (.cells #[.slice none 0 0, .slice none 0 0, .slice none 0 0] 31 (0, 0)) ∧ Below w.heap.size w wr) (fun i _ => n0 + 1 - (intOf i).toNat)
  case atStart => exact ⟨0, Nat.zero_le _, rfl, HM0.out, HW1.out, p2, r2, HB2.out⟩
  case round =>
    obtain ⟨k, hk, rfl, hmix, hbw, pr, rr, hbb⟩ := hrel
    have HMX := Lib.hid hmix
    have HBW := Lib.hid hbw
    have HBB := Lib.hid hbb
    clear hmix hbw hbb p2 r2 HM0 HB2 HW1
    by_cases hlt : k < n0
    case pos =>
      have hI : decide ((k : Int) < (n0 : Int)) = true := decide_eq_true (by omega)
      have wk : IntKind.i64.wrap ((k : Int) + 1) = (k : Int) + 1 := IntWalk.i64_in _ (by omega)
      obtain ⟨g, cap, xa, xn, xc, hv, hg1, hg2, hfr, hc0, hc1, hrd⟩ := HMX.out.at HNL.out hlt
      simp only [Value.slice.injEq] at hv
      obtain ⟨rfl, _, rfl⟩ := hv
      have hcm : (xl.getD k ([], false)).1.length ≤ 4000000 := by
        rw [List.getD_eq_getElem?_getD, List.getElem?_eq_getElem (by rw [HNL.out]; exact hlt)]
        exact HF.out.2.1 _ (List.getElem_mem _)
      have HEP : Hid (((xl.getD k ([], false)).1, (xl.getD k ([], false)).2) = xl.getD k ([], false)) := rfl
      obtain ⟨s, hs⟩ : ∃ s, (xl.getD k ([], false)).1 = s := ⟨_, rfl⟩
      obtain ⟨pz, hpz⟩ : ∃ pz, (xl.getD k ([], false)).2 = pz := ⟨_, rfl⟩
      rw [hs] at hcm hrd
      rw [hpz] at hc1
      have HE : Hid (xl.getD k ([], false) = (s, pz)) := by show _ = _; rw [← hs, ← hpz]
      have HGB : Hid (w1.heap.size ≤ g ∧ g < wr.heap.size) := ⟨hg1, hg2⟩
      obtain ⟨w3, hw3⟩ : ∃ u, wr.alloc (.cells #[.slice xa xn xc, .bool pz] 42) = u := ⟨_, rfl⟩
      have hbA : Below wr.heap.size wr w3 := by subst hw3; exact (Below.refl _ _).alloc (Nat.le_refl _) _
      have q3 : w3.heap[wr.heap.size]? = some (.cells #[.slice xa xn xc, .bool pz] 42) := hw3 ▸ heap_alloc_new wr _
      have HRS : Hid (intsK.rd w3 [.slice xa xn xc] s) := intsK.below (intsK.below hrd HBW.out) hbA
      have HM3 := Lib.hid (HMX.out.below hbA)
      have p3 := keep_block hbA pr (lt_of_block pr)
      have r3 := keep_block hbA rr (lt_of_block rr)
      have HB3 : Hid (Below w1.heap.size w1 w3) := HBW.out.trans (hbA.mono HBW.out.size)
      have HC3 : Hid (Below w.heap.size w w3) := HBB.out.trans (hbA.mono HBB.out.size)
      have HG3 : Hid (wr.heap.size ≤ w3.heap.size) := hbA.size
      clear HBW HBB HMX pr rr hs hpz HEP hg1 hg2 hrd hbA
      obtain ⟨e0, e1⟩ := cells2 q3
      go_wp2_with fail
      refine (implCell_k (p := pz) HRS.out hcm).mono ?_
      rintro e w4 ⟨cs4, T4, rfl, own4, hT4, hb4⟩
      obtain ⟨ya, yn, yc, rfl, hi4⟩ := cell_own own4
      have HM4 := HM3.out.below hb4
      obtain ⟨_, _, _, _, _, hv, _, _, hfr4, hd0, hd1, _⟩ := HM4.at HNL.out hlt
      cases hv
      have hpe : (xl.getD k ([], false)).2 = pz := by rw [HE.out]
      have own4' : cellK.own w4 T4 [.slice ya yn yc, .bool pz] (xl.getD k ([], false)) := by rw [HE.out]; exact own4
      have hst : MixC w1 ((w4.setCell ⟨g, k * 2, none⟩ (.slice ya yn yc)).setCell ⟨g, k * 2 + 1, none⟩ (.bool pz)) w1.heap.size (.slice (some ⟨g, 0, none⟩) n0 vc) n0 (k + 1) xl := by
        have := HM3.out.step (a := ya) (m := yn) (c := yc) (T := T4) hb4 HNL.out hlt (by rw [hpe]; exact own4') (fun b hb => hT4 b hb) HB3.out.size
        rw [hpe] at this
        exact this
      have p4 := keep_block hb4 p3 (lt_of_block p3)
      have r4 := keep_block hb4 r3 (lt_of_block r3)
      have HB4 : Below w1.heap.size w1 w4 := HB3.out.trans (hb4.mono HB3.out.size)
      have HC4 : Below w.heap.size w w4 := HC3.out.trans (hb4.mono HC3.out.size)
      have hgp : g ≠ w.heap.size ∧ g ≠ w.heap.size + 1 := by have := HGB.out.1; have := HS1.out; omega
      have HST := Lib.hid hst
      have hb5 : Below w1.heap.size w1 ((w4.setCell ⟨g, k * 2, none⟩ (.slice ya yn yc)).setCell ⟨g, k * 2 + 1, none⟩ (.bool pz)) := (HB4.setCell HGB.out.1 _).setCell HGB.out.1 _
      have HB5 := Lib.hid hb5
      have HC5 : Hid (Below w.heap.size w ((w4.setCell ⟨g, k * 2, none⟩ (.slice ya yn yc)).setCell ⟨g, k * 2 + 1, none⟩ (.bool pz))) := (HC4.setCell (by have := HGB.out.1; have := HS1.out; show _ ≤ g; omega) _).setCell (by have := HGB.out.1; have := HS1.out; show _ ≤ g; omega) _
      have p5 := Lib.hid (keep_set (p := ⟨g, k * 2 + 1, none⟩) (v := .bool pz) (keep_set (p := ⟨g, k * 2, none⟩) (v := .slice ya yn yc) p4 (fun e => hgp.1 e.symm)) (fun e => hgp.1 e.symm))
      have r5 := Lib.hid (keep_set (p := ⟨g, k * 2 + 1, none⟩) (v := .bool pz) (keep_set (p := ⟨g, k * 2, none⟩) (v := .slice ya yn yc) r4 (fun e => hgp.2 e.symm)) (fun e => hgp.2 e.symm))
      have f0 := hfr4 (k * 2)
      have f1 := hfr4 (k * 2 + 1)
      clear p4 r4 p3 r3 HB4 HC4 hgp hst hb5 HM4 HM3 HB3 HC3 hfr4 hfr hi4 own4 own4' hT4 hb4 q3 e0 e1 hc0 hc1
      go_wp2_with fail
      go_roundw
      case rel => exact ⟨k + 1, by omega, by go_num, HST.out, HB5.out, p5.out, r5.out, HC5.out⟩
      case measure => simp [intOf]; omega
    obtain rfl : k = n0 := by omega
    have hI : decide ((k : Int) < (k : Int)) = false := decide_eq_false (by omega)
    obtain ⟨S0, own0, hS0⟩ := HMX.out.stop HNL.out
    have HO := Lib.hid own0
    have HS := Lib.hid hS0
    have Hr1 : Hid (intsK.rd wr [.slice a1 n1 c1] y) := intsK.below H1.out HBW.out
    have Hr2 : Hid (intsK.rd wr [.slice a2 n2 c2] z) := intsK.below H2.out HBW.out
    have HSZ : Hid (w1.heap.size ≤ wr.heap.size) := HBW.out.size
    clear own0 hS0 HMX HBW H1 H2
    obtain ⟨x0, x1, x2⟩ := cells3 pr
    go_wp2_with fail
    refine wp_region_float (A := ?A) [.h, .h, .h, .t, .h, .h, .t, .t, .e] (by kernel_rfl) (by kernel_rfl) (fun q => q.cell? ⟨w.heap.size, 0, none⟩ = some (.slice a0 k c0) ∧ q.cell? ⟨w.heap.size, 1, none⟩ = some (.slice a1 n1 c1) ∧ q.cell? ⟨w.heap.size, 2, none⟩ = some (.slice a2 n2 c2)) ?hC ?hH ?hT
    case hC => exact ⟨x0, x1, x2⟩
    case hH =>
      intro q hq
      obtain ⟨h0, h1, h2⟩ := hq
      have z0 := fun t : Same q => t.cell h0
      have z1 := fun t : Same q => t.cell h1
      have z2 := fun t : Same q => t.cell h2
      simp only [headsOf]
      repeat (go_big_quiet_step (fail))
      refine wpQuiet_nil ?_
      exact rfl
    case hT =>
      simp only [chainT]
      have hdr : Below wr.heap.size wr wr.drew := ⟨rfl, rfl, rfl, Nat.le_refl _, fun _ _ => rfl⟩
      have HO2 := Lib.hid (cellsK.ownBelow HO.out hdr)
      have Hd1 := Lib.hid (intsK.below Hr1.out hdr)
      have Hd2 := Lib.hid (intsK.below Hr2.out hdr)
      have HBD : Hid (Below w.heap.size w wr.drew) := HBB.out.trans (hdr.mono HBB.out.size)
      have HZD : Hid (w1.heap.size ≤ wr.drew.heap.size) := HSZ.out
      have pd : wr.drew.heap[w.heap.size]? = _ := pr
      have rd : wr.drew.heap[w.heap.size + 1]? = _ := rr
      clear pr rr HO Hr1 Hr2 HBB HSZ hdr x0 x1 x2
      generalize wr.drew = u0 at *
      go_wp2_with fail
      refine (implCloneN_is Hd1.out HF.out.2.2.1).mono ?_
      rintro e u1 ⟨ya, yc, S1, rfl, own1, hS1, hb1⟩
      have O0 := Lib.hid (cellsK.ownBelow HO2.out hb1)
      have O1 := Lib.hid own1
      have E2 := Lib.hid (intsK.below Hd2.out hb1)
      have p3 := keep_block hb1 pd (lt_of_block pd)
      have r3 := keep_block hb1 rd (lt_of_block rd)
      have HB3 : Hid (Below w.heap.size w u1) := HBD.out.trans (hb1.mono HBD.out.size)
      have HL0 : Hid (∀ b ∈ S0, b < u0.heap.size) := fun b hb => cellsK.lt HO2.out b hb
      have HL1 : Hid (∀ b ∈ S1, u0.heap.size ≤ b ∧ b < u1.heap.size) := fun b hb => ⟨hS1 b hb, intsK.lt own1 b hb⟩
      have HU1 : Hid (u0.heap.size ≤ u1.heap.size) := hb1.size
      clear own1 hS1 hb1 pd rd HBD HO2 Hd1 Hd2
      obtain ⟨x0, x1, x2⟩ := cells3 p3
      go_wp2_with fail
      refine stepQ_normal ⟨⟨x0, x1, x2⟩, ?_⟩
      go_wp2_with fail
      refine (implCloneN_is E2.out HF.out.2.2.2).mono ?_
      rintro e u2 ⟨za, zc, S2, rfl, own2, hS2, hb2⟩
      have Q0 := Lib.hid (cellsK.ownBelow O0.out hb2)
      have Q1 := Lib.hid (intsK.ownBelow O1.out hb2)
      have Q2 := Lib.hid own2
      have p4 := keep_block hb2 p3 (lt_of_block p3)
      have r4 := keep_block hb2 r3 (lt_of_block r3)
      have HB4 : Hid (Below w.heap.size w u2) := HB3.out.trans (hb2.mono HB3.out.size)
      have HL2 : Hid (∀ b ∈ S2, u1.heap.size ≤ b) := hS2
      clear own2 hS2 hb2 p3 r3 HB3 O0 O1 E2 x0 x1 x2
      have HND : Hid ((S0 ++ (S1 ++ S2)).Nodup) := nodup_of (cellsK.nodup Q0.out) (intsK.nodup Q1.out) (intsK.nodup Q2.out) (fun b hb hb' => by have := HL0.out b hb'; have := (HL1.out b hb).1; omega) (fun b hb hb' => by have := HL0.out b hb'; have := HL2.out b hb; have := HU1.out; omega) (fun b hb hb' => by have := HL2.out b hb; have := (HL1.out b hb').2; omega)
      have HGE : Hid (∀ b ∈ S0 ++ (S1 ++ S2), w1.heap.size ≤ b) := fun b hb => by
        rcases List.mem_append.1 hb with h | h
        · exact HS.out b h
        · rcases List.mem_append.1 h with h | h
          · have := (HL1.out b h).1; have := HZD.out; omega
          · have := HL2.out b h; have := HU1.out; have := HZD.out; omega
      have HOA : Hid (arrK.own u2 (S0 ++ (S1 ++ S2)) [.slice va k vc, .slice ya n1 yc, .slice za n2 zc] (xl, y, z)) := arr_of Q0.out Q1.out Q2.out HND.out
      generalize S0 ++ (S1 ++ S2) = T at HOA HGE
      obtain ⟨x0, x1, x2⟩ := cells3 p4
      go_wp2_with fail
      refine stepQ_normal ⟨⟨x0, x1, x2⟩, ?_⟩
      go_wp2_with fail
      refine stepQ_normal ⟨⟨x0, x1, x2⟩, ?_⟩
      clear x0 x1 x2
      obtain ⟨y0, y1, y2⟩ := cells3 r4
      have f0 := thawed r4 0
      have f1 := thawed r4 1
      have f2 := thawed r4 2
      have o5 := set_cells (set_cells (set_cells r4 0 (.slice va k vc)) 1 (.slice ya n1 yc)) 2 (.slice za n2 zc)
      obtain ⟨t0, t1, t2⟩ := cells3 o5
      have HNR : Hid (∀ b ∈ T, b ≠ w.heap.size + 1) := fun b hb => by have := HGE.out b hb; have := HS1.out; omega
      go_wp2_with fail
      refine stepQ_normal ⟨trivial, ?_⟩
      go_wp2_with fail
      (try simp only [Exit.inBlock, Exit.then])
      refine bodyPost_ret (v := .agg #[.slice va k vc, .slice ya n1 yc, .slice za n2 zc]) ?_ rfl ⟨_, T, rfl, ?_, fun b hb => ?_, ?_⟩
      · simp [results, Try.results51, go_sem, t0, t1, t2]
      · exact arrK.ownSet (arrK.ownSet (arrK.ownSet HOA.out (fun b hb => HNR.out b hb) _) (fun b hb => HNR.out b hb) _) (fun b hb => HNR.out b hb) _
      · have := HGE.out b hb; have := HS1.out; omega
      · exact ((HB4.out.setCell (by simp) _).setCell (by simp) _).setCell (by simp) _

end Go.Proofs.Ytfpfgaifhmgpiaa

namespace Go.Proofs.Ytfpfgaifhmgpiaa
open Go.RowKit Go.PlainAid

set_option linter.unusedVariables false

theorem implBad_is (a : Int) (v : Bool) (hv : (!decide (El a)) = v) (w : World) :
    Calls Try.prog 99 #[.int .i64 a] w (Says (.bool v) w) := by
  obtain ⟨u, hu⟩ : ∃ u, decide (El a) = u := ⟨_, rfl⟩
  have HE : Hid ((!u) = v) := by show _ = _; rw [← hu]; exact hv
  have HU := Lib.hid hu
  clear hu hv
  go_enter Try.func99, Try.ntmps99
  go_wp2_with fail
  refine (implIsEl_is a u HU.out _).mono ?_
  rintro e w2 ⟨rfl, rfl⟩
  go_wp2_with fail
  go_ret
  exact ⟨ret_b HE.out, rfl⟩

set_option maxHeartbeats 1000000 in
set_option maxRecDepth 100000 in
theorem implIndexBad_is {a : Option Addr} {n c : Nat} {l : List Int} (hn : l.length = n) (hl : n ≤ 3000000) {w : World} (h : RowI w a l) (v : Bool) (hv : decide (Els l) = v) :
    Calls Try.prog 108 #[.slice a n c, .func (.func 99) #[] #[]] w fun e w' => ∃ i : Int, e = .returned (.int .i64 i) ∧ decide (0 ≤ i) = (!v) ∧ w = w' := by
  have HN := Lib.hid hn
  have HA := Lib.hid h
  have HV := Lib.hid hv
  have hl2 : (n : Int) ≤ 9223372036854775807 := by omega
  clear hn h hv
  go_enter Try.func108, Try.ntmps108
  go_wp2_with fail
  go_loopw [8] (fun i wr => ∃ k : Nat, k ≤ n ∧ i = .int .i64 k ∧ Els (l.take k) ∧ wr = w) (fun i _ => n - (intOf i).toNat)
  case atStart => exact ⟨0, Nat.zero_le _, rfl, (fun v hv => by cases hv), rfl⟩
  case round =>
    obtain ⟨k, hk, rfl, hels, rfl⟩ := hrel
    have HE := Lib.hid hels
    clear hels
    by_cases hlt : k < n
    · obtain ⟨ga, oa, rfl, hca⟩ := HA.out.at (k := k) (by rw [HN.out]; exact hlt)
      obtain ⟨x, hx⟩ : ∃ x, l.getD k 0 = x := ⟨_, rfl⟩
      rw [hx] at hca
      by_cases he : El x
      · have HS := Lib.hid (els_take (by rw [HN.out]; exact hlt) HE.out (hx ▸ he))
        have KA : Hid ((!decide (El x)) = false) := by show _ = _; rw [decide_eq_true he]; rfl
        clear hx he
        go_wp2_with fail
        refine (implBad_is x false KA.out _).mono ?_
        rintro e w2 ⟨rfl, rfl⟩
        go_wp2_with fail
        go_roundw
        case rel => exact ⟨k + 1, by omega, by go_num, HS.out, by trivial⟩
        case measure => simp [intOf]; omega
      · have HF : Hid (false = v) := by show _ = _; rw [← HV.out]; exact (decide_eq_false (fun q => he (hx ▸ el_getD q (by rw [HN.out]; exact hlt)))).symm
        have KA : Hid ((!decide (El x)) = true) := by show _ = _; rw [decide_eq_false he]; rfl
        clear hx he
        go_wp2_with fail
        refine (implBad_is x true KA.out _).mono ?_
        rintro e w2 ⟨rfl, rfl⟩
        go_wp2_with fail
        go_ret
        exact ⟨_, rfl, by rw [← HF.out]; exact decide_eq_true (by omega), rfl⟩
    · obtain rfl : k = n := by omega
      have HF : Hid (true = v) := by
        show _ = _
        rw [← HV.out]
        have := HE.out
        rw [List.take_of_length_le (by rw [HN.out]; omega)] at this
        exact (decide_eq_true this).symm
      go_wp2_with fail
      go_ret
      exact ⟨_, rfl, by rw [← HF.out]; rfl, rfl⟩

theorem implContainsBad_is {a : Option Addr} {n c : Nat} {l : List Int} (hn : l.length = n) (hl : n ≤ 3000000) {w : World} (h : RowI w a l) (v : Bool) (hv : decide (Els l) = v) :
    Calls Try.prog 98 #[.slice a n c, .func (.func 99) #[] #[]] w (Says (.bool (!v)) w) := by
  have HN := Lib.hid hn
  have HA := Lib.hid h
  have HV := Lib.hid hv
  clear hn h hv
  go_enter Try.func98, Try.ntmps98
  go_wp2_with fail
  refine (implIndexBad_is HN.out hl HA.out v HV.out).mono ?_
  rintro e w2 ⟨i, rfl, hi, rfl⟩
  have HI := Lib.hid hi
  clear hi
  go_wp2_with fail
  go_ret
  exact ⟨ret_b HI.out, rfl⟩

theorem implSymbolsOk_is : ISymbolsOk := by
  intro a n c l m v hv hn hl hc w h
  by_cases hm : (n : Int) = m
  case neg =>
    have tm : ((n : Int) == m) = false := by simpa using hm
    obtain rfl : v = false := by rw [← hv]; exact decide_eq_false fun q => hm (by rw [← hn]; exact q.2)
    clear hv h hm hn
    go_enter Try.func53, Try.ntmps53
    go_wp2_with fail
    go_ret
    exact ⟨rfl, Below.refl _ _⟩
  have HE : Hid (decide (Els l) = v) := by
    show _ = _
    rw [← hv]
    exact decide_eq_decide.mpr ⟨fun q => ⟨q, by rw [hn]; exact hm⟩, fun q => q.1⟩
  have HN := Lib.hid hn
  have HA := Lib.hid h
  clear hv hn h
  subst hm
  have tm : ((n : Int) == (n : Int)) = true := by simp
  go_enter Try.func53, Try.ntmps53
  go_wp2_with fail
  refine (implContainsBad_is HN.out hl HA.out v HE.out).mono ?_
  rintro e w2 ⟨rfl, rfl⟩
  go_wp2_with fail
  go_ret
  exact ⟨rfl, Below.refl _ _⟩

end Go.Proofs.Ytfpfgaifhmgpiaa

namespace Go.Proofs.Ytfpfgaifhmgpiaa
open Go.RowKit Go.PlainAid

set_option linter.unusedVariables false

theorem implSym11_is {a : Option Addr} {n c : Nat} {l : List Int} {w : World} (h : intsK.rd w [.slice a n c] l) (v : Bool) (hv : decide (SymOk l 11) = v) :
    Calls Try.prog 53 #[.slice a n c, .int .i64 11] w (Gives (.bool v) w) := by
  obtain ⟨h1, h2, h3, h4⟩ := Kn.row_len h
  unfold maxLen at h3
  by_cases hm : n = 11
  · exact implSymbolsOk_is a n c l 11 v hv h1 (by omega) h2 w (ints_row h)
  · have tm : ((n : Int) == 11) = false := by rw [beq_eq_false_iff_ne]; omega
    obtain rfl : v = false := by rw [← hv]; exact decide_eq_false fun q => hm (by have : (l.length : Int) = 11 := q.2; omega)
    clear hv h hm h1 h2 h4
    go_enter Try.func53, Try.ntmps53
    go_wp2_with fail
    go_ret
    exact ⟨rfl, Below.refl _ _⟩

set_option maxHeartbeats 4000000 in
set_option maxRecDepth 100000 in
theorem implCellsFit_is (ga gb gr gd : Int) {a : Option Addr} {n c : Nat} {x : List (List Int × Bool)} {w : World} (h : cellsK.rd w [.slice a n c] x) (v : Bool) (hv : decide ((x.length : Int) = lineN ga gb gr gd ∧ ∀ q ∈ x, SymOk q.1 11) = v) :
    Calls Try.prog 68 #[.agg #[.int .i64 ga, .int .i64 gb, .int .i64 gr, .int .i64 gd], .slice a n c] w (Gives (.bool v) w) := by
  obtain ⟨l0, _, m0, _⟩ := Kn.row_len h
  unfold maxLen at m0
  obtain ⟨w1, hw1⟩ : ∃ u, w.alloc (.cells #[.int .i64 ga, .int .i64 gb, .int .i64 gr, .int .i64 gd] 25) = u := ⟨_, rfl⟩
  have HB1 : Hid (Below w.heap.size w w1) := by subst hw1; exact (Below.refl _ _).alloc (Nat.le_refl _) _
  have g1 : w1.heap[w.heap.size]? = some (.cells #[.int .i64 ga, .int .i64 gb, .int .i64 gr, .int .i64 gd] 25) := hw1 ▸ heap_alloc_new w _
  have H1 : Hid (cellsK.rd w1 [.slice a n c] x) := cellsK.below h HB1.out
  have HL0 : Hid (x.length = n) := l0
  obtain ⟨L, hL⟩ : ∃ L, lineN ga gb gr gd = L := ⟨_, rfl⟩
  have HLN := Lib.hid hL
  rw [hL, l0] at hv
  have HV := Lib.hid hv
  have hLr := lineN_range ga gb gr gd
  rw [hL] at hLr
  clear h hv l0 hL
  obtain ⟨x0, x1, x2, x3⟩ := cells4 g1
  by_cases hn : (n : Int) = L
  case neg =>
    have t0 : ((n : Int) != L) = true := by rw [bne_iff_ne]; exact hn
    have HE : Hid (false = v) := by show _ = _; rw [← HV.out]; exact (decide_eq_false (fun h => hn h.1)).symm
    clear hn hLr
    go_enter Try.func68, Try.ntmps68
    go_wp2_with fail
    refine (implLine_is ga gb gr gd L HLN.out _).mono ?_
    rintro e w2 ⟨rfl, hb2⟩
    have HB2 : Hid (Below w.heap.size w w2) := HB1.out.trans (hb2.mono HB1.out.size)
    clear hb2 x0 x1 x2 x3 g1
    go_wp2_with fail
    go_ret
    exact ⟨ret_b HE.out, HB2.out⟩
  have t0 : ((n : Int) != L) = false := by rw [bne_eq_false_iff_eq]; exact hn
  have hn0 : (n : Int) ≤ 1024 := by omega
  have HV2 : Hid (decide (∀ q ∈ x, SymOk q.1 11) = v) := by
    show _ = _
    rw [← HV.out]
    exact decide_eq_decide.2 ⟨fun h => ⟨hn, h⟩, fun h => h.2⟩
  clear hn hLr HV
  go_enter Try.func68, Try.ntmps68
  go_wp2_with fail
  refine (implLine_is ga gb gr gd L HLN.out _).mono ?_
  rintro e w2 ⟨rfl, hb2⟩
  have HB2 : Hid (Below w.heap.size w w2) := HB1.out.trans (hb2.mono HB1.out.size)
  have H2 : Hid (cellsK.rd w2 [.slice a n c] x) := cellsK.below H1.out hb2
  clear hb2 x0 x1 x2 x3 g1 H1 HB1
  go_wp2_with fail
  go_loopw [14] (fun i wr => ∃ k : Nat, k ≤ n ∧ i = .int .i64 k ∧ (∀ q ∈ x.take k, SymOk q.1 11) ∧ Below w2.heap.size w2 wr) (fun i _ => n + 1 - (intOf i).toNat)
  case atStart => exact ⟨0, Nat.zero_le _, rfl, by simp, Below.refl _ _⟩
  case round =>
    obtain ⟨k, hk, rfl, hall, hbw⟩ := hrel
    have HALL := Lib.hid hall
    have HBW := Lib.hid hbw
    have HBX : Hid (Below w.heap.size w wr) := HB2.out.trans (hbw.mono HB2.out.size)
    clear hall hbw
    by_cases hlt : k < n
    case neg =>
      obtain rfl : k = n := by omega
      have hI : decide ((k : Int) < (k : Int)) = false := decide_eq_false (by omega)
      have HE : Hid (true = v) := by
        show _ = _
        rw [← HV2.out]
        have := HALL.out
        rw [List.take_of_length_le (by rw [HL0.out]; exact Nat.le_refl _)] at this
        exact (decide_eq_true this).symm
      go_wp2_with fail
      go_ret
      exact ⟨ret_b HE.out, HBX.out⟩
    have hI : decide ((k : Int) < (n : Int)) = true := decide_eq_true (by omega)
    have wk : IntKind.i64.wrap ((k : Int) + 1) = (k : Int) + 1 := IntWalk.i64_in _ (by omega)
    have hkl : k < x.length := by rw [HL0.out]; exact hlt
    obtain ⟨g, off, ds, rfl, hcell, hel⟩ := Kn.row_at (cellsK.below H2.out HBW.out) hkl
    have HNX : Hid (SymOk x[k].1 11 → ∀ q ∈ x.take (k + 1), SymOk q.1 11) := fun h => all_take hkl HALL.out h
    have HNO : Hid (¬ SymOk x[k].1 11 → false = v) := fun h => by rw [← HV2.out]; exact (decide_eq_false (fun hh => h (hh _ (List.getElem_mem _)))).symm
    generalize x[k] = xk at hel HNX HNO
    obtain ⟨s, p⟩ := xk
    obtain ⟨xa, xn, xc, rfl, hs⟩ := cell_rd hel
    have b0 : wr.cell? ⟨g, off + k * 2, none⟩ = some (.slice xa xn xc) := hcell 0 (by decide)
    have b1 : wr.cell? ⟨g, off + k * 2 + 1, none⟩ = some (.bool p) := hcell 1 (by decide)
    obtain ⟨w3, hw3⟩ : ∃ u, wr.alloc (.cells #[.slice xa xn xc, .bool p] 42) = u := ⟨_, rfl⟩
    have hbA : Below wr.heap.size wr w3 := by subst hw3; exact (Below.refl _ _).alloc (Nat.le_refl _) _
    have q3 : w3.heap[wr.heap.size]? = some (.cells #[.slice xa xn xc, .bool p] 42) := hw3 ▸ heap_alloc_new wr _
    have HSR : Hid (intsK.rd w3 [.slice xa xn xc] s) := intsK.below hs hbA
    have HB3 : Hid (Below w2.heap.size w2 w3) := HBW.out.trans (hbA.mono HBW.out.size)
    have HB4 : Hid (Below w.heap.size w w3) := HBX.out.trans (hbA.mono HBX.out.size)
    clear hcell hel hs hbA HBX HBW
    obtain ⟨e0, e1⟩ := cells2 q3
    by_cases hok : SymOk s 11
    case neg =>
      have KS := Lib.hid (decide_eq_false hok)
      have HE := Lib.hid (HNO.out hok)
      clear hok
      go_wp2_with fail
      refine (implSym11_is HSR.out false KS.out).mono ?_
      rintro e w5 ⟨rfl, hb5⟩
      have HB5 : Hid (Below w.heap.size w w5) := HB4.out.trans (hb5.mono HB4.out.size)
      clear hb5 e0 e1 q3
      go_wp2_with fail
      go_ret
      exact ⟨ret_b HE.out, HB5.out⟩
    have KS := Lib.hid (decide_eq_true hok)
    have HNX2 := Lib.hid (HNX.out hok)
    clear hok
    go_wp2_with fail
    refine (implSym11_is HSR.out true KS.out).mono ?_
    rintro e w5 ⟨rfl, hb5⟩
    have HB5 : Hid (Below w2.heap.size w2 w5) := HB3.out.trans (hb5.mono HB3.out.size)
    clear hb5 e0 e1 q3
    go_wp2_with fail
    go_roundw
    case rel => exact ⟨k + 1, by omega, by go_num, HNX2.out, HB5.out⟩
    case measure => simp [intOf]; omega

set_option maxHeartbeats 1000000 in
theorem implRowCount_is (ga gb gr gd v : Int) (hv : bankN ga gb gr gd * gr = v) (hr : 0 ≤ v ∧ v ≤ 128) (w : World) :
    Calls Try.prog 103 #[.agg #[.int .i64 ga, .int .i64 gb, .int .i64 gr, .int .i64 gd]] w (Gives (.int .i64 v) w) := by
  obtain ⟨w1, hw1⟩ : ∃ u, w.alloc (.cells #[.int .i64 ga, .int .i64 gb, .int .i64 gr, .int .i64 gd] 25) = u := ⟨_, rfl⟩
  have HB1 : Hid (Below w.heap.size w w1) := by subst hw1; exact (Below.refl _ _).alloc (Nat.le_refl _) _
  have g1 : w1.heap[w.heap.size]? = some (.cells #[.int .i64 ga, .int .i64 gb, .int .i64 gr, .int .i64 gd] 25) := hw1 ▸ heap_alloc_new w _
  obtain ⟨N, hN⟩ : ∃ N, bankN ga gb gr gd = N := ⟨_, rfl⟩
  have HN := Lib.hid hN
  rw [hN] at hv
  have wR : IntKind.i64.wrap (N * gr) = v := by rw [hv]; exact IntWalk.i64_in _ (by omega)
  obtain ⟨x0, x1, x2, x3⟩ := cells4 g1
  have z0 := fun q : Later w1 => q.cell x0
  have z1 := fun q : Later w1 => q.cell x1
  have z2 := fun q : Later w1 => q.cell x2
  have z3 := fun q : Later w1 => q.cell x3
  clear hN hv x0 x1 x2 x3
  go_enter Try.func103, Try.ntmps103
  go_wp2_with fail
  refine wp_region_later (by kernel_rfl) (by kernel_rfl) ?_
  repeat (go_big_quiet_step (first | (go_at_call 107; exact Gives.later _ (implBank_is _ _ _ _ _ HN.out _))))
  refine wpQuiet_nil ?_
  rintro w2 ⟨zz, hz⟩
  have hb2 : Below w1.heap.size w1 w2 := hz ▸ zz.ok
  have HB2 : Hid (Below w.heap.size w w2) := HB1.out.trans (hb2.mono HB1.out.size)
  clear hb2 hz zz z0 z1 z2 z3
  go_wp2_with fail
  go_ret
  exact ⟨rfl, HB2.out⟩

set_option maxHeartbeats 4000000 in
set_option maxRecDepth 100000 in
theorem implNumbersFit_is (ga gb gr gd R : Int) (hR : bankN ga gb gr gd * gr = R) (hRr : 0 ≤ R ∧ R ≤ 128) {a : Option Addr} {n c : Nat} {x : List Int} {w : World} (h : intsK.rd w [.slice a n c] x) (v : Bool) (hv : decide ((x.length : Int) = R ∧ ∀ q ∈ x, AgeOk q) = v) :
    Calls Try.prog 69 #[.agg #[.int .i64 ga, .int .i64 gb, .int .i64 gr, .int .i64 gd], .slice a n c] w (Gives (.bool v) w) := by
  obtain ⟨l0, _, m0, _⟩ := Kn.row_len h
  unfold maxLen at m0
  obtain ⟨w1, hw1⟩ : ∃ u, w.alloc (.cells #[.int .i64 ga, .int .i64 gb, .int .i64 gr, .int .i64 gd] 25) = u := ⟨_, rfl⟩
  have HB1 : Hid (Below w.heap.size w w1) := by subst hw1; exact (Below.refl _ _).alloc (Nat.le_refl _) _
  have g1 : w1.heap[w.heap.size]? = some (.cells #[.int .i64 ga, .int .i64 gb, .int .i64 gr, .int .i64 gd] 25) := hw1 ▸ heap_alloc_new w _
  have H1 : Hid (intsK.rd w1 [.slice a n c] x) := intsK.below h HB1.out
  have HL0 : Hid (x.length = n) := l0
  rw [l0] at hv
  have HV := Lib.hid hv
  have HRR := Lib.hid hR
  clear h hv l0 hR
  obtain ⟨x0, x1, x2, x3⟩ := cells4 g1
  by_cases hn : (n : Int) = R
  case neg =>
    have t0 : ((n : Int) != R) = true := by rw [bne_iff_ne]; exact hn
    have HE : Hid (false = v) := by show _ = _; rw [← HV.out]; exact (decide_eq_false (fun h => hn h.1)).symm
    clear hn
    go_enter Try.func69, Try.ntmps69
    go_wp2_with fail
    refine (implRowCount_is ga gb gr gd R HRR.out hRr _).mono ?_
    rintro e w2 ⟨rfl, hb2⟩
    have HB2 : Hid (Below w.heap.size w w2) := HB1.out.trans (hb2.mono HB1.out.size)
    clear hb2 x0 x1 x2 x3 g1
    go_wp2_with fail
    go_ret
    exact ⟨ret_b HE.out, HB2.out⟩
  have t0 : ((n : Int) != R) = false := by rw [bne_eq_false_iff_eq]; exact hn
  have hn0 : (n : Int) ≤ 128 := by omega
  have HV2 : Hid (decide (∀ q ∈ x, AgeOk q) = v) := by
    show _ = _
    rw [← HV.out]
    exact decide_eq_decide.2 ⟨fun h => ⟨hn, h⟩, fun h => h.2⟩
  clear hn HV
  go_enter Try.func69, Try.ntmps69
  go_wp2_with fail
  refine (implRowCount_is ga gb gr gd R HRR.out hRr _).mono ?_
  rintro e w2 ⟨rfl, hb2⟩
  have HB2 : Hid (Below w.heap.size w w2) := HB1.out.trans (hb2.mono HB1.out.size)
  have H2 : Hid (intsK.rd w2 [.slice a n c] x) := intsK.below H1.out hb2
  clear hb2 x0 x1 x2 x3 g1 H1 HB1
  go_wp2_with fail
  go_loopw [14] (fun i wr => ∃ k : Nat, k ≤ n ∧ i = .int .i64 k ∧ (∀ q ∈ x.take k, AgeOk q) ∧ wr = w2) (fun i _ => n + 1 - (intOf i).toNat)
  case atStart => exact ⟨0, Nat.zero_le _, rfl, by simp, by trivial⟩
  case round =>
    obtain ⟨k, hk, rfl, hall, rfl⟩ := hrel
    have HALL := Lib.hid hall
    clear hall
    by_cases hlt : k < n
    case neg =>
      obtain rfl : k = n := by omega
      have hI : decide ((k : Int) < (k : Int)) = false := decide_eq_false (by omega)
      have HE : Hid (true = v) := by
        show _ = _
        rw [← HV2.out]
        have := HALL.out
        rw [List.take_of_length_le (by rw [HL0.out]; exact Nat.le_refl _)] at this
        exact (decide_eq_true this).symm
      go_wp2_with fail
      go_ret
      exact ⟨ret_b HE.out, HB2.out⟩
    have hI : decide ((k : Int) < (n : Int)) = true := decide_eq_true (by omega)
    have wk : IntKind.i64.wrap ((k : Int) + 1) = (k : Int) + 1 := IntWalk.i64_in _ (by omega)
    have hkl : k < x.length := by rw [HL0.out]; exact hlt
    obtain ⟨g, off, rfl, hc⟩ := (ints_row H2.out).at hkl
    have ey : x.getD k 0 = x[k] := by rw [List.getD_eq_getElem?_getD, List.getElem?_eq_getElem hkl]; rfl
    rw [ey] at hc
    have HNX : Hid (AgeOk x[k] → ∀ q ∈ x.take (k + 1), AgeOk q) := fun h => all_take hkl HALL.out h
    have HNO : Hid (¬ AgeOk x[k] → false = v) := fun h => by rw [← HV2.out]; exact (decide_eq_false (fun hh => h (hh _ (List.getElem_mem _)))).symm
    generalize x[k] = q at hc HNX HNO
    clear ey
    by_cases h0 : q < 0
    case pos =>
      have d0 : decide (q < 0) = true := decide_eq_true h0
      have HE := Lib.hid (HNO.out (fun h => absurd h.1 (by omega)))
      clear h0
      go_wp2_with fail
      go_ret
      exact ⟨ret_b HE.out, HB2.out⟩
    have d0 : decide (q < 0) = false := decide_eq_false h0
    by_cases h1 : 100000 < q
    case pos =>
      have d1 : decide (100000 < q) = true := decide_eq_true h1
      have HE := Lib.hid (HNO.out (fun h => absurd h.2 (by omega)))
      clear h0 h1
      go_wp2_with fail
      go_ret
      exact ⟨ret_b HE.out, HB2.out⟩
    have d1 : decide (100000 < q) = false := decide_eq_false h1
    have HNX2 := Lib.hid (HNX.out ⟨by omega, by omega⟩)
    clear h0 h1
    go_wp2_with fail
    go_roundw
    case rel => exact ⟨k + 1, by omega, by go_num, HNX2.out, by trivial⟩
    case measure => simp [intOf]; omega

set_option maxHeartbeats 8000000 in
set_option maxRecDepth 100000 in
theorem implArrayOk_is : IArrayOk := by
  intro ga gb gr gd cs x v hv w h hf
  obtain ⟨a0, n0, c0, a1, n1, c1, a2, n2, c2, rfl, h0, h1, h2⟩ := arr_rd h
  obtain ⟨x, y, z⟩ := x
  obtain ⟨w1, hw1⟩ : ∃ u, (w.alloc (.cells #[.int .i64 ga, .int .i64 gb, .int .i64 gr, .int .i64 gd] 25)).alloc (.cells #[.slice a0 n0 c0, .slice a1 n1 c1, .slice a2 n2 c2] 31) = u := ⟨_, rfl⟩
  have HB1 : Hid (Below w.heap.size w w1) := by subst hw1; exact ((Below.refl _ _).alloc (Nat.le_refl _) _).alloc (by simp) _
  have g1 : w1.heap[w.heap.size]? = some (.cells #[.int .i64 ga, .int .i64 gb, .int .i64 gr, .int .i64 gd] 25) := by subst hw1; exact heap_alloc2_old _ _ _
  have p1 : w1.heap[w.heap.size + 1]? = some (.cells #[.slice a0 n0 c0, .slice a1 n1 c1, .slice a2 n2 c2] 31) := by subst hw1; exact heap_alloc2_new _ _ _
  have H0 : Hid (cellsK.rd w1 [.slice a0 n0 c0] x) := cellsK.below h0 HB1.out
  have H1 : Hid (intsK.rd w1 [.slice a1 n1 c1] y) := intsK.below h1 HB1.out
  have H2 : Hid (intsK.rd w1 [.slice a2 n2 c2] z) := intsK.below h2 HB1.out
  have HV : Hid (decide (GeoOk ga gb gr gd ∧ (x.length : Int) = lineN ga gb gr gd ∧ (y.length : Int) = bankN ga gb gr gd * gr ∧ z.length = y.length ∧ (∀ c ∈ x, SymOk c.1 11) ∧ (∀ v ∈ y, AgeOk v) ∧ (∀ v ∈ z, AgeOk v)) = v) := hv
  clear h h0 h1 h2 hv hf
  obtain ⟨x0, x1, x2, x3⟩ := cells4 g1
  obtain ⟨R, hR⟩ : ∃ R, bankN ga gb gr gd * gr = R := ⟨_, rfl⟩
  have HRR := Lib.hid hR
  by_cases hg : GeoOk ga gb gr gd
  case neg =>
    have KG := Lib.hid (decide_eq_false hg)
    have HE : Hid (false = v) := by show _ = _; rw [← HV.out]; exact (decide_eq_false (fun h => hg h.1)).symm
    clear hg hR
    go_enter Try.func26, Try.ntmps26
    go_wp2_with fail
    refine (implGeoOk_is ga gb gr gd false KG.out _).mono ?_
    rintro e w2 ⟨rfl, hb2⟩
    have HB2 : Hid (Below w.heap.size w w2) := HB1.out.trans (hb2.mono HB1.out.size)
    clear hb2 x0 x1 x2 x3 g1 p1
    go_wp2_with fail
    go_ret
    exact ⟨ret_b HE.out, HB2.out⟩
  have KG := Lib.hid (decide_eq_true hg)
  have hrr := rowsN_range hg
  rw [hR] at hrr
  have HGG := Lib.hid hg
  clear hg hR
  go_enter Try.func26, Try.ntmps26
  go_wp2_with fail
  refine (implGeoOk_is ga gb gr gd true KG.out _).mono ?_
  rintro e w2 ⟨rfl, hb2⟩
  have HB2 : Hid (Below w.heap.size w w2) := HB1.out.trans (hb2.mono HB1.out.size)
  have g2 := keep_block hb2 g1 (lt_of_block g1)
  have p2 := keep_block hb2 p1 (lt_of_block p1)
  have J0 := Lib.hid (cellsK.below H0.out hb2)
  have J1 := Lib.hid (intsK.below H1.out hb2)
  have J2 := Lib.hid (intsK.below H2.out hb2)
  clear hb2 x0 x1 x2 x3 g1 p1 H0 H1 H2 HB1
  obtain ⟨x0, x1, x2, x3⟩ := cells4 g2
  obtain ⟨y0, y1, y2⟩ := cells3 p2
  obtain ⟨b0, hb0⟩ : ∃ b, decide ((x.length : Int) = lineN ga gb gr gd ∧ ∀ q ∈ x, SymOk q.1 11) = b := ⟨_, rfl⟩
  have HC0 := Lib.hid hb0
  clear hb0
  go_wp2_with fail
  refine (implCellsFit_is ga gb gr gd J0.out b0 HC0.out).mono ?_
  rintro e w3 ⟨rfl, hb3⟩
  have HB3 : Hid (Below w.heap.size w w3) := HB2.out.trans (hb3.mono HB2.out.size)
  have g3 := keep_block hb3 g2 (lt_of_block g2)
  have p3 := keep_block hb3 p2 (lt_of_block p2)
  have K1 := Lib.hid (intsK.below J1.out hb3)
  have K2 := Lib.hid (intsK.below J2.out hb3)
  clear hb3 x0 x1 x2 x3 y0 y1 y2 g2 p2 J0 J1 J2 HB2
  cases b0
  case false =>
    have HE : Hid (false = v) := by
      show _ = _
      rw [← HV.out]
      exact (decide_eq_false (fun h => of_decide_eq_false HC0.out ⟨h.2.1, h.2.2.2.2.1⟩)).symm
    go_wp2_with fail
    go_ret
    exact ⟨ret_b HE.out, HB3.out⟩
  obtain ⟨x0, x1, x2, x3⟩ := cells4 g3
  obtain ⟨y0, y1, y2⟩ := cells3 p3
  obtain ⟨b1, hb1⟩ : ∃ b, decide ((y.length : Int) = R ∧ ∀ q ∈ y, AgeOk q) = b := ⟨_, rfl⟩
  have HC1 := Lib.hid hb1
  clear hb1
  go_wp2_with fail
  refine (implNumbersFit_is ga gb gr gd R HRR.out hrr K1.out b1 HC1.out).mono ?_
  rintro e w4 ⟨rfl, hb4⟩
  have HB4 : Hid (Below w.heap.size w w4) := HB3.out.trans (hb4.mono HB3.out.size)
  have g4 := keep_block hb4 g3 (lt_of_block g3)
  have p4 := keep_block hb4 p3 (lt_of_block p3)
  have L2 := Lib.hid (intsK.below K2.out hb4)
  clear hb4 x0 x1 x2 x3 y0 y1 y2 g3 p3 K1 K2 HB3
  cases b1
  case false =>
    have HE : Hid (false = v) := by
      show _ = _
      rw [← HV.out]
      exact (decide_eq_false (fun h => of_decide_eq_false HC1.out ⟨h.2.2.1.trans HRR.out, h.2.2.2.2.2.1⟩)).symm
    go_wp2_with fail
    go_ret
    exact ⟨ret_b HE.out, HB4.out⟩
  obtain ⟨x0, x1, x2, x3⟩ := cells4 g4
  obtain ⟨y0, y1, y2⟩ := cells3 p4
  have HC2 : Hid (decide ((z.length : Int) = R ∧ ∀ q ∈ z, AgeOk q) = v) := by
    show _ = _
    rw [← HV.out]
    have c0 := of_decide_eq_true HC0.out
    have c1 := of_decide_eq_true HC1.out
    refine decide_eq_decide.2 ⟨fun h => ⟨HGG.out, c0.1, c1.1.trans HRR.out.symm, by have := h.1; have := c1.1; omega, c0.2, c1.2, h.2⟩, fun h => ⟨?_, h.2.2.2.2.2.2⟩⟩
    have := h.2.2.2.1
    have := c1.1
    omega
  go_wp2_with fail
  refine (implNumbersFit_is ga gb gr gd R HRR.out hrr L2.out v HC2.out).mono ?_
  rintro e w5 ⟨rfl, hb5⟩
  have HB5 : Hid (Below w.heap.size w w5) := HB4.out.trans (hb5.mono HB4.out.size)
  clear hb5 x0 x1 x2 x3 y0 y1 y2 g4 p4
  go_wp2_with fail
  go_ret
  exact ⟨rfl, HB5.out⟩

end Go.Proofs.Ytfpfgaifhmgpiaa

namespace Go.Proofs.Ytfpfgaifhmgpiaa
open Go.RowKit Go.PlainAid

set_option linter.unusedVariables false

/-- A symbol of a cell of an array of the call's own, and the cell's mark. -/
theorem cell_place2 {w : World} {S : List Nat} {cs : List Value} {x : Arr} (h : arrK.own w S cs x) {j : Nat} (hj : j < x.1.length) {c : List Int × Bool} (hc : x.1.getD j ([], false) = c) :
    ∃ g off n0 c0 v1 v2 a n k S1, cs = [.slice (some ⟨g, off, none⟩) n0 c0, v1, v2] ∧ j < n0 ∧ g ∈ S ∧ n0 ≤ maxLen ∧ n = c.1.length ∧ w.cell? ⟨g, off + j * 2, none⟩ = some (.slice a n k) ∧ w.cell? ⟨g, off + j * 2 + 1, none⟩ = some (.bool c.2) ∧ (∀ b ∈ S1, b ∈ S ∧ b ≠ g) ∧ intsK.own w S1 [.slice a n k] c.1 ∧
      ∀ w' y, OnlyS S1 w w' → intsK.own w' S1 [.slice a n k] y → arrK.own w' S cs (x.1.set j (y, c.2), x.2) := by
  obtain ⟨a0, n0, c0, a1, n1, c1, a2, n2, c2, S0, S1, S2, rfl, rfl, hnd, h0, h1, h2⟩ := arr_own h
  obtain ⟨l0, _, m0, _⟩ := Kn.row_len (cellsK.read h0)
  obtain ⟨g, off, ds, T, rfl, hg, hT, hcell, _, hel, hin, _, _⟩ := Kn.own_at h0 hj
  have he : x.1[j] = c := by rw [← hc, List.getD_eq_getElem?_getD, List.getElem?_eq_getElem hj]; rfl
  rw [he] at hel
  obtain ⟨a, n, k, rfl, hi⟩ := cell_own hel
  obtain ⟨q1, _, _, _⟩ := Kn.row_len (intsK.read hi)
  obtain ⟨u0, u1, u2⟩ := nodup3 hnd
  have hT1 : ∀ b ∈ S1, b ∉ T := fun b hb hb' => (u1 b hb).1 (hT b hb').1
  have hT2 : ∀ b ∈ S2, b ∉ T := fun b hb hb' => (u2 b hb).1 (hT b hb').1
  refine ⟨g, off, n0, c0, _, _, a, n, k, T, rfl, by have : x.1.length = n0 := l0; omega, List.mem_append_left _ hg, m0, q1.symm, hcell 0 (by decide), hcell 1 (by decide), fun b hb => ⟨List.mem_append_left _ (hT b hb).1, (hT b hb).2⟩, hi, fun w' y ho hy => ?_⟩
  exact arr_of (hin w' (y, c.2) ho (cell_of c.2 hy)) (intsK.ownKeep h1 ho hT1) (intsK.ownKeep h2 ho hT2) hnd

set_option maxHeartbeats 16000000 in
set_option maxRecDepth 100000 in
theorem implFlipSymbol_is : IFlipSymbol := by
  intro ga gb gr gd bx br bc ch u cs x w h hf
  obtain ⟨a0, n0, c0, a1, n1, c1, a2, n2, c2, rfl, h0, h1, h2⟩ := arr_rd h
  obtain ⟨w1, hw1⟩ : ∃ u, (((w.alloc (.cells #[.int .i64 ga, .int .i64 gb, .int .i64 gr, .int .i64 gd] 25)).alloc (.cells #[.slice a0 n0 c0, .slice a1 n1 c1, .slice a2 n2 c2] 31)).alloc (.cells #[.int .i64 bx, .int .i64 br, .int .i64 bc] 37)).alloc (.cells #[.slice none 0 0, .slice none 0 0, .slice none 0 0] 31) = u := ⟨_, rfl⟩
  obtain ⟨g1, p1, l1, r1, hb1⟩ := alloc4 hw1
  have HB1 := Lib.hid hb1
  have HF := Lib.hid hf
  have H := Lib.hid h
  have H1 := Lib.hid (arrK.below h HB1.out)
  clear h hf h0 h1 h2
  obtain ⟨x0, x1, x2, x3⟩ := cells4 g1
  obtain ⟨y0, y1, y2⟩ := cells3 p1
  go_enter Try.func21, Try.ntmps21
  go_wp2_with fail
  refine (implCopyA_is H1.out HF.out).mono ?_
  rintro e w2 ⟨cs2, S2, rfl, own2, hS2, hb2⟩
  obtain ⟨d0, m0, k0, d1, m1, k1, d2, m2, k2, S0, S1', S2', rfl, rfl, -⟩ := arr_own own2
  obtain ⟨w3, hw3⟩ : ∃ u, w2.alloc (.cells #[.slice d0 m0 k0, .slice d1 m1 k1, .slice d2 m2 k2] 31) = u := ⟨_, rfl⟩
  have hb3 : Below w2.heap.size w2 w3 := by subst hw3; exact (Below.refl _ _).alloc (Nat.le_refl _) _
  have q3 : w3.heap[w2.heap.size]? = some (.cells #[.slice d0 m0 k0, .slice d1 m1 k1, .slice d2 m2 k2] 31) := by subst hw3; exact heap_alloc_new _ _
  have HO3 := Lib.hid (arrK.ownBelow own2 hb3)
  have HB2 : Hid (Below w.heap.size w w2) := HB1.out.trans (hb2.mono HB1.out.size)
  have HB3 : Hid (Below w.heap.size w w3) := HB2.out.trans (hb3.mono HB2.out.size)
  have H3 := Lib.hid (arrK.below (arrK.below H1.out hb2) hb3)
  have hlt : ∀ b ∈ S0 ++ (S1' ++ S2'), b < w2.heap.size := fun b hb => arrK.lt own2 b hb
  have hge : ∀ b ∈ S0 ++ (S1' ++ S2'), w1.heap.size ≤ b := fun b hb => hS2 b hb
  generalize hU2 : S0 ++ (S1' ++ S2') = T2 at own2 hS2 HO3 hlt hge
  have HS2 : Hid (∀ b ∈ T2, w1.heap.size ≤ b) := hge
  have HNP : Hid (w2.heap.size ∉ T2) := fun hb => by have := hlt _ hb; omega
  have HNR : Hid (∀ b ∈ T2, b ≠ w.heap.size + 1 + 1 + 1) := fun b hb e => by have := hge b hb; have := lt_of_block r1; omega
  have HRR : Hid (w.heap.size ≤ w.heap.size + 1 + 1 + 1) := by show _ ≤ _; omega
  have HPR : Hid (w.heap.size + 1 + 1 + 1 ≠ w2.heap.size) := fun e => by have := lt_of_block r1; have := hb2.size; omega
  have HPW : Hid (w.heap.size ≤ w2.heap.size) := HB2.out.size
  have g3 := keep_block hb3 (keep_block hb2 g1 (lt_of_block g1)) (Nat.lt_of_lt_of_le (lt_of_block g1) hb2.size)
  have l3 := keep_block hb3 (keep_block hb2 l1 (lt_of_block l1)) (Nat.lt_of_lt_of_le (lt_of_block l1) hb2.size)
  have p3 := keep_block hb3 (keep_block hb2 p1 (lt_of_block p1)) (Nat.lt_of_lt_of_le (lt_of_block p1) hb2.size)
  have r3 := keep_block hb3 (keep_block hb2 r1 (lt_of_block r1)) (Nat.lt_of_lt_of_le (lt_of_block r1) hb2.size)
  clear own2 hS2 hb2 hb3 g1 l1 p1 r1 x0 x1 x2 x3 y0 y1 y2 hlt hge hU2
  obtain ⟨x0, x1, x2, x3⟩ := cells4 g3
  obtain ⟨y0, y1, y2⟩ := cells3 p3
  obtain ⟨z0, z1, z2⟩ := cells3 q3
  go_wp2_with fail
  by_cases ha : ArrOk ga gb gr gd x
  case neg =>
    have KA := Lib.hid (decide_eq_false ha)
    have HE : Hid (flippedF ga gb gr gd x bx br bc ch u = x) := if_neg (fun h => ha h.1)
    clear ha
    refine (implArrayOk_is ga gb gr gd _ _ false KA.out _ H3.out HF.out).mono ?_
    rintro e w4 ⟨rfl, hb4⟩
    have HBQ : Hid (Below w.heap.size w w4) := HB3.out.trans (hb4.mono HB3.out.size)
    have qq := keep_block hb4 q3 (lt_of_block q3)
    have rr := keep_block hb4 r3 (lt_of_block r3)
    have gg := keep_block hb4 g3 (lt_of_block g3)
    have ll := keep_block hb4 l3 (lt_of_block l3)
    have HO4 := Lib.hid (arrK.ownBelow HO3.out hb4)
    clear hb4 g3 l3 p3 q3 r3 x0 x1 x2 x3 y0 y1 y2 z0 z1 z2
    obtain ⟨x0, x1, x2, x3⟩ := cells4 gg
    obtain ⟨y0, y1, y2⟩ := cells3 ll
    obtain ⟨v0, v1, v2⟩ := cells3 rr
    have f0 := thawed rr 0
    have f1 := thawed rr 1
    have f2 := thawed rr 2
    obtain ⟨u0, u1, u2⟩ := cells3 qq
    have o5 := set_cells (set_cells (set_cells rr 0 (.slice d0 m0 k0)) 1 (.slice d1 m1 k1)) 2 (.slice d2 m2 k2)
    obtain ⟨t0, t1, t2⟩ := cells3 o5
    go_wp2_with fail
    (try simp only [Exit.inBlock, Exit.then])
    refine bodyPost_ret (v := .agg #[.slice d0 m0 k0, .slice d1 m1 k1, .slice d2 m2 k2]) ?_ rfl ⟨_, T2, rfl, ?_, fun b hb => ?_, ?_⟩
    · simp [results, Try.results21, go_sem, t0, t1, t2]
    · rw [HE.out]
      exact arrK.ownSet (arrK.ownSet (arrK.ownSet HO4.out (fun b hb => HNR.out b hb) _) (fun b hb => HNR.out b hb) _) (fun b hb => HNR.out b hb) _
    · have := HS2.out b hb; have := HB1.out.size; omega
    · exact ((HBQ.out.setCell HRR.out _).setCell HRR.out _).setCell HRR.out _
  have KA := Lib.hid (decide_eq_true ha)
  by_cases hn : AdOk ga gb gr gd bx br bc
  case neg =>
    have KN := Lib.hid (decide_eq_false hn)
    have HE : Hid (flippedF ga gb gr gd x bx br bc ch u = x) := if_neg (fun h => hn h.2.1)
    clear ha hn
    refine (implArrayOk_is ga gb gr gd _ _ true KA.out _ H3.out HF.out).mono ?_
    rintro e w4 ⟨rfl, hb4⟩
    have HBQ : Hid (Below w.heap.size w w4) := HB3.out.trans (hb4.mono HB3.out.size)
    have qq := keep_block hb4 q3 (lt_of_block q3)
    have rr := keep_block hb4 r3 (lt_of_block r3)
    have gg := keep_block hb4 g3 (lt_of_block g3)
    have ll := keep_block hb4 l3 (lt_of_block l3)
    have HO4 := Lib.hid (arrK.ownBelow HO3.out hb4)
    clear hb4 g3 l3 p3 q3 r3 x0 x1 x2 x3 y0 y1 y2 z0 z1 z2
    obtain ⟨x0, x1, x2, x3⟩ := cells4 gg
    obtain ⟨y0, y1, y2⟩ := cells3 ll
    go_wp2_with fail
    refine (implAddrOk_is ga gb gr gd bx br bc false KN.out _).mono ?_
    rintro e w5 ⟨rfl, hb5⟩
    have HBR : Hid (Below w.heap.size w w5) := HBQ.out.trans (hb5.mono HBQ.out.size)
    have q5 := keep_block hb5 qq (lt_of_block qq)
    have r5 := keep_block hb5 rr (lt_of_block rr)
    have g5 := keep_block hb5 gg (lt_of_block gg)
    have l5 := keep_block hb5 ll (lt_of_block ll)
    have HO5 := Lib.hid (arrK.ownBelow HO4.out hb5)
    clear HBQ HO4 qq rr gg ll hb5 x0 x1 x2 x3 y0 y1 y2
    have HBQ := HBR
    have qq := q5
    have rr := r5
    have gg := g5
    have ll := l5
    clear HBR q5 r5 g5 l5
    obtain ⟨v0, v1, v2⟩ := cells3 rr
    have f0 := thawed rr 0
    have f1 := thawed rr 1
    have f2 := thawed rr 2
    obtain ⟨u0, u1, u2⟩ := cells3 qq
    have o5 := set_cells (set_cells (set_cells rr 0 (.slice d0 m0 k0)) 1 (.slice d1 m1 k1)) 2 (.slice d2 m2 k2)
    obtain ⟨t0, t1, t2⟩ := cells3 o5
    go_wp2_with fail
    (try simp only [Exit.inBlock, Exit.then])
    refine bodyPost_ret (v := .agg #[.slice d0 m0 k0, .slice d1 m1 k1, .slice d2 m2 k2]) ?_ rfl ⟨_, T2, rfl, ?_, fun b hb => ?_, ?_⟩
    · simp [results, Try.results21, go_sem, t0, t1, t2]
    · rw [HE.out]
      exact arrK.ownSet (arrK.ownSet (arrK.ownSet HO5.out (fun b hb => HNR.out b hb) _) (fun b hb => HNR.out b hb) _) (fun b hb => HNR.out b hb) _
    · have := HS2.out b hb; have := HB1.out.size; omega
    · exact ((HBQ.out.setCell HRR.out _).setCell HRR.out _).setCell HRR.out _
  have KN := Lib.hid (decide_eq_true hn)
  by_cases hc : 0 ≤ ch ∧ ch ≤ 10
  case neg =>
    have HE : Hid (flippedF ga gb gr gd x bx br bc ch u = x) := if_neg (fun h => hc h.2.2.1)
    by_cases hc0 : 0 ≤ ch
    case neg =>
      have tc0 : decide (0 ≤ ch) = false := decide_eq_false hc0
      clear ha hn hc hc0
      refine (implArrayOk_is ga gb gr gd _ _ true KA.out _ H3.out HF.out).mono ?_
      rintro e w4 ⟨rfl, hb4⟩
      have HBQ : Hid (Below w.heap.size w w4) := HB3.out.trans (hb4.mono HB3.out.size)
      have qq := keep_block hb4 q3 (lt_of_block q3)
      have rr := keep_block hb4 r3 (lt_of_block r3)
      have gg := keep_block hb4 g3 (lt_of_block g3)
      have ll := keep_block hb4 l3 (lt_of_block l3)
      have HO4 := Lib.hid (arrK.ownBelow HO3.out hb4)
      clear hb4 g3 l3 p3 q3 r3 x0 x1 x2 x3 y0 y1 y2 z0 z1 z2
      obtain ⟨x0, x1, x2, x3⟩ := cells4 gg
      obtain ⟨y0, y1, y2⟩ := cells3 ll
      go_wp2_with fail
      refine (implAddrOk_is ga gb gr gd bx br bc true KN.out _).mono ?_
      rintro e w5 ⟨rfl, hb5⟩
      have HBR : Hid (Below w.heap.size w w5) := HBQ.out.trans (hb5.mono HBQ.out.size)
      have q5 := keep_block hb5 qq (lt_of_block qq)
      have r5 := keep_block hb5 rr (lt_of_block rr)
      have g5 := keep_block hb5 gg (lt_of_block gg)
      have l5 := keep_block hb5 ll (lt_of_block ll)
      have HO5 := Lib.hid (arrK.ownBelow HO4.out hb5)
      clear HBQ HO4 qq rr gg ll hb5 x0 x1 x2 x3 y0 y1 y2
      have HBQ := HBR
      have qq := q5
      have rr := r5
      have gg := g5
      have ll := l5
      clear HBR q5 r5 g5 l5
      obtain ⟨v0, v1, v2⟩ := cells3 rr
      have f0 := thawed rr 0
      have f1 := thawed rr 1
      have f2 := thawed rr 2
      obtain ⟨u0, u1, u2⟩ := cells3 qq
      have o5 := set_cells (set_cells (set_cells rr 0 (.slice d0 m0 k0)) 1 (.slice d1 m1 k1)) 2 (.slice d2 m2 k2)
      obtain ⟨t0, t1, t2⟩ := cells3 o5
      go_wp2_with fail
      (try simp only [Exit.inBlock, Exit.then])
      refine bodyPost_ret (v := .agg #[.slice d0 m0 k0, .slice d1 m1 k1, .slice d2 m2 k2]) ?_ rfl ⟨_, T2, rfl, ?_, fun b hb => ?_, ?_⟩
      · simp [results, Try.results21, go_sem, t0, t1, t2]
      · rw [HE.out]
        exact arrK.ownSet (arrK.ownSet (arrK.ownSet HO5.out (fun b hb => HNR.out b hb) _) (fun b hb => HNR.out b hb) _) (fun b hb => HNR.out b hb) _
      · have := HS2.out b hb; have := HB1.out.size; omega
      · exact ((HBQ.out.setCell HRR.out _).setCell HRR.out _).setCell HRR.out _
    case pos =>
      have tc0 : decide (0 ≤ ch) = true := decide_eq_true hc0
      have tc1 : decide (ch < 11) = false := decide_eq_false (by omega)
      clear ha hn hc hc0
      refine (implArrayOk_is ga gb gr gd _ _ true KA.out _ H3.out HF.out).mono ?_
      rintro e w4 ⟨rfl, hb4⟩
      have HBQ : Hid (Below w.heap.size w w4) := HB3.out.trans (hb4.mono HB3.out.size)
      have qq := keep_block hb4 q3 (lt_of_block q3)
      have rr := keep_block hb4 r3 (lt_of_block r3)
      have gg := keep_block hb4 g3 (lt_of_block g3)
      have ll := keep_block hb4 l3 (lt_of_block l3)
      have HO4 := Lib.hid (arrK.ownBelow HO3.out hb4)
      clear hb4 g3 l3 p3 q3 r3 x0 x1 x2 x3 y0 y1 y2 z0 z1 z2
      obtain ⟨x0, x1, x2, x3⟩ := cells4 gg
      obtain ⟨y0, y1, y2⟩ := cells3 ll
      go_wp2_with fail
      refine (implAddrOk_is ga gb gr gd bx br bc true KN.out _).mono ?_
      rintro e w5 ⟨rfl, hb5⟩
      have HBR : Hid (Below w.heap.size w w5) := HBQ.out.trans (hb5.mono HBQ.out.size)
      have q5 := keep_block hb5 qq (lt_of_block qq)
      have r5 := keep_block hb5 rr (lt_of_block rr)
      have g5 := keep_block hb5 gg (lt_of_block gg)
      have l5 := keep_block hb5 ll (lt_of_block ll)
      have HO5 := Lib.hid (arrK.ownBelow HO4.out hb5)
      clear HBQ HO4 qq rr gg ll hb5 x0 x1 x2 x3 y0 y1 y2
      have HBQ := HBR
      have qq := q5
      have rr := r5
      have gg := g5
      have ll := l5
      clear HBR q5 r5 g5 l5
      obtain ⟨v0, v1, v2⟩ := cells3 rr
      have f0 := thawed rr 0
      have f1 := thawed rr 1
      have f2 := thawed rr 2
      obtain ⟨u0, u1, u2⟩ := cells3 qq
      have o5 := set_cells (set_cells (set_cells rr 0 (.slice d0 m0 k0)) 1 (.slice d1 m1 k1)) 2 (.slice d2 m2 k2)
      obtain ⟨t0, t1, t2⟩ := cells3 o5
      go_wp2_with fail
      (try simp only [Exit.inBlock, Exit.then])
      refine bodyPost_ret (v := .agg #[.slice d0 m0 k0, .slice d1 m1 k1, .slice d2 m2 k2]) ?_ rfl ⟨_, T2, rfl, ?_, fun b hb => ?_, ?_⟩
      · simp [results, Try.results21, go_sem, t0, t1, t2]
      · rw [HE.out]
        exact arrK.ownSet (arrK.ownSet (arrK.ownSet HO5.out (fun b hb => HNR.out b hb) _) (fun b hb => HNR.out b hb) _) (fun b hb => HNR.out b hb) _
      · have := HS2.out b hb; have := HB1.out.size; omega
      · exact ((HBQ.out.setCell HRR.out _).setCell HRR.out _).setCell HRR.out _
  have tc0 : decide (0 ≤ ch) = true := decide_eq_true hc.1
  have tc1 : decide (ch < 11) = true := decide_eq_true (by omega)
  by_cases hu : El u
  case neg =>
    have KU := Lib.hid (decide_eq_false hu)
    have HE : Hid (flippedF ga gb gr gd x bx br bc ch u = x) := if_neg (fun h => hu h.2.2.2)
    clear ha hn hc hu
    refine (implArrayOk_is ga gb gr gd _ _ true KA.out _ H3.out HF.out).mono ?_
    rintro e w4 ⟨rfl, hb4⟩
    have HBQ : Hid (Below w.heap.size w w4) := HB3.out.trans (hb4.mono HB3.out.size)
    have qq := keep_block hb4 q3 (lt_of_block q3)
    have rr := keep_block hb4 r3 (lt_of_block r3)
    have gg := keep_block hb4 g3 (lt_of_block g3)
    have ll := keep_block hb4 l3 (lt_of_block l3)
    have HO4 := Lib.hid (arrK.ownBelow HO3.out hb4)
    clear hb4 g3 l3 p3 q3 r3 x0 x1 x2 x3 y0 y1 y2 z0 z1 z2
    obtain ⟨x0, x1, x2, x3⟩ := cells4 gg
    obtain ⟨y0, y1, y2⟩ := cells3 ll
    go_wp2_with fail
    refine (implAddrOk_is ga gb gr gd bx br bc true KN.out _).mono ?_
    rintro e w5 ⟨rfl, hb5⟩
    have HBR : Hid (Below w.heap.size w w5) := HBQ.out.trans (hb5.mono HBQ.out.size)
    have q5 := keep_block hb5 qq (lt_of_block qq)
    have r5 := keep_block hb5 rr (lt_of_block rr)
    have g5 := keep_block hb5 gg (lt_of_block gg)
    have l5 := keep_block hb5 ll (lt_of_block ll)
    have HO5 := Lib.hid (arrK.ownBelow HO4.out hb5)
    clear HBQ HO4 qq rr gg ll hb5 x0 x1 x2 x3 y0 y1 y2
    have HBQ := HBR
    have qq := q5
    have rr := r5
    have gg := g5
    have ll := l5
    clear HBR q5 r5 g5 l5
    go_wp2_with fail
    refine (implIsEl_is u false KU.out _).mono ?_
    rintro e w7 ⟨rfl, rfl⟩
    obtain ⟨v0, v1, v2⟩ := cells3 rr
    have f0 := thawed rr 0
    have f1 := thawed rr 1
    have f2 := thawed rr 2
    obtain ⟨u0, u1, u2⟩ := cells3 qq
    have o5 := set_cells (set_cells (set_cells rr 0 (.slice d0 m0 k0)) 1 (.slice d1 m1 k1)) 2 (.slice d2 m2 k2)
    obtain ⟨t0, t1, t2⟩ := cells3 o5
    go_wp2_with fail
    (try simp only [Exit.inBlock, Exit.then])
    refine bodyPost_ret (v := .agg #[.slice d0 m0 k0, .slice d1 m1 k1, .slice d2 m2 k2]) ?_ rfl ⟨_, T2, rfl, ?_, fun b hb => ?_, ?_⟩
    · simp [results, Try.results21, go_sem, t0, t1, t2]
    · rw [HE.out]
      exact arrK.ownSet (arrK.ownSet (arrK.ownSet HO5.out (fun b hb => HNR.out b hb) _) (fun b hb => HNR.out b hb) _) (fun b hb => HNR.out b hb) _
    · have := HS2.out b hb; have := HB1.out.size; omega
    · exact ((HBQ.out.setCell HRR.out _).setCell HRR.out _).setCell HRR.out _
  have KU := Lib.hid (decide_eq_true hu)
  obtain ⟨j, hj, hjl⟩ := cell_index ha hn
  obtain ⟨t, rfl⟩ : ∃ t : Nat, ch = t := ⟨ch.toNat, by omega⟩
  clear tc0 tc1
  have tc0 : decide ((0 : Int) ≤ (t : Int)) = true := decide_eq_true (by omega)
  have tc1 : decide ((t : Int) < 11) = true := decide_eq_true (by omega)
  obtain ⟨U, rfl⟩ : ∃ U : Nat, u = U := ⟨u.toNat, by have := hu.1; omega⟩
  have hU : U < 16 := by have := hu.2; omega
  have HE : Hid (flippedF ga gb gr gd x bx br bc (t : Int) (U : Int) = flipC x j t U) := by
    show _ = _
    unfold flippedF
    rw [if_pos ⟨ha, hn, hc, hu⟩, hj]
    rfl
  have HJ := Lib.hid hj
  have HJL := Lib.hid hjl
  have ht : t < 11 := by omega
  have HSY : Hid (∀ c ∈ x.1, SymOk c.1 11) := ha.2.2.2.2.1
  clear ha hn hc hu hj hjl
  refine (implArrayOk_is ga gb gr gd _ _ true KA.out _ H3.out HF.out).mono ?_
  rintro e w4 ⟨rfl, hb4⟩
  have HBQ : Hid (Below w.heap.size w w4) := HB3.out.trans (hb4.mono HB3.out.size)
  have qq := keep_block hb4 q3 (lt_of_block q3)
  have rr := keep_block hb4 r3 (lt_of_block r3)
  have gg := keep_block hb4 g3 (lt_of_block g3)
  have ll := keep_block hb4 l3 (lt_of_block l3)
  have HO4 := Lib.hid (arrK.ownBelow HO3.out hb4)
  clear hb4 g3 l3 p3 q3 r3 x0 x1 x2 x3 y0 y1 y2 z0 z1 z2
  obtain ⟨x0, x1, x2, x3⟩ := cells4 gg
  obtain ⟨y0, y1, y2⟩ := cells3 ll
  go_wp2_with fail
  refine (implAddrOk_is ga gb gr gd bx br bc true KN.out _).mono ?_
  rintro e w5 ⟨rfl, hb5⟩
  have HBR : Hid (Below w.heap.size w w5) := HBQ.out.trans (hb5.mono HBQ.out.size)
  have q5 := keep_block hb5 qq (lt_of_block qq)
  have r5 := keep_block hb5 rr (lt_of_block rr)
  have g5 := keep_block hb5 gg (lt_of_block gg)
  have l5 := keep_block hb5 ll (lt_of_block ll)
  have HO5 := Lib.hid (arrK.ownBelow HO4.out hb5)
  clear HBQ HO4 qq rr gg ll hb5 x0 x1 x2 x3 y0 y1 y2
  have HBQ := HBR
  have qq := q5
  have rr := r5
  have gg := g5
  have ll := l5
  clear HBR q5 r5 g5 l5
  go_wp2_with fail
  refine (implIsEl_is (U : Int) true KU.out _).mono ?_
  rintro e w7 ⟨rfl, rfl⟩
  obtain ⟨c, hc⟩ : ∃ c, x.1.getD j ([], false) = c := ⟨_, rfl⟩
  have hcm : c ∈ x.1 := by rw [← hc, List.getD_eq_getElem?_getD, List.getElem?_eq_getElem HJL.out]; exact List.getElem_mem _
  have hsym := HSY.out c hcm
  obtain ⟨s, pz⟩ := c
  have hs11 : (s.length : Int) = 11 := hsym.2
  obtain ⟨gA, oA, nA, cA, _, _, aS, nS, kS, T, eA, hjn, hgA, hnm, hnS, hcell, hcellb, hT, hoS, hback⟩ := cell_place2 HO5.out HJL.out hc
  cases eA
  have hel : El (s.getD t 0) := els_getD hsym.1 t
  obtain ⟨p0, p1, p2⟩ := cells3 qq
  obtain ⟨x0, x1, x2, x3⟩ := cells4 gg
  obtain ⟨y0, y1, y2⟩ := cells3 ll
  have z0 := fun q : Later w5 => q.cell p0
  have z3 := fun q : Later w5 => q.cell hcell
  have z4 := fun q : Later w5 => q.cell hcellb
  have zx0 := fun q : Later w5 => q.cell x0
  have zx1 := fun q : Later w5 => q.cell x1
  have zx2 := fun q : Later w5 => q.cell x2
  have zx3 := fun q : Later w5 => q.cell x3
  have zy0 := fun q : Later w5 => q.cell y0
  have zy1 := fun q : Later w5 => q.cell y1
  have zy2 := fun q : Later w5 => q.cell y2
  have HOS := Lib.hid hoS
  have HT := Lib.hid hT
  have HBK := Lib.hid hback
  have HC := Lib.hid hc
  have HEL := Lib.hid hel
  have hnS' : nS ≤ 1000000 := by have : nS = s.length := hnS; omega
  have hts : t < s.length := by omega
  have HTS := Lib.hid hts
  unfold maxLen at hnm
  clear hback hoS hT hsym hcell hcellb hcm hc hel hts hnS p0 p1 p2 x0 x1 x2 x3 y0 y1 y2
  go_wp2_with fail
  refine wp_region_later_tail 9 (by kernel_rfl) (by kernel_rfl) ?_
  simp only [List.take_succ_cons, List.take_zero, List.drop_succ_cons, List.drop_zero]
  repeat (go_big_quiet_step (first | (go_at_call 55; exact Gives.later _ (implIndex_is ga gb gr gd bx br bc (j : Int) HJ.out _))))
  refine wpQuiet_nil ?_
  rintro R0 ⟨zz, hz⟩
  have hbR : Below w5.heap.size w5 R0 := hz ▸ zz.ok
  clear z0 z3 z4 zx0 zx1 zx2 zx3 zy0 zy1 zy2 hz zz
  have HOS2 := Lib.hid (intsK.ownBelow HOS.out hbR)
  have HBR := Lib.hid hbR
  have qR := keep_block hbR qq (lt_of_block qq)
  have rR := keep_block hbR rr (lt_of_block rr)
  have HBX : Hid (Below w.heap.size w R0) := HBQ.out.trans (hbR.mono HBQ.out.size)
  clear hbR qq rr HBQ gg ll
  go_wp2_with fail
  refine (implFlip_is (p := pz) HOS2.out HTS.out hnS' HEL.out hU).mono ?_
  rintro e R1 ⟨rfl, ho1, hn1⟩
  have HO6 : Hid (arrK.own R1 T2 [.slice (some ⟨gA, oA, none⟩) m0 k0, .slice d1 m1 k1, .slice d2 m2 k2] (flipC x j t U)) := by
    have := HBK.out R1 _ ((Below.onlyS HBR.out).trans hn1) ho1
    show arrK.own R1 T2 [.slice (some ⟨gA, oA, none⟩) m0 k0, .slice d1 m1 k1, .slice d2 m2 k2] (x.1.set j ((x.1.getD j ([], false)).1.set t (xr ((x.1.getD j ([], false)).1.getD t 0) U), (x.1.getD j ([], false)).2), x.2)
    rw [HC.out]
    exact this
  have hgT : ∀ b ∈ T, b ∈ T2 := fun b hb => (HT.out b hb).1
  have qq : R1.heap[w2.heap.size]? = _ := (hn1.block _ (lt_of_block qR) (fun hb => HNP.out (hgT _ hb))).trans qR
  have rr : R1.heap[w.heap.size + 1 + 1 + 1]? = _ := (hn1.block _ (lt_of_block rR) (fun hb => HNR.out _ (hgT _ hb) rfl)).trans rR
  have HBQ : Hid (Below w.heap.size w R1) := HBX.out.trans (hn1.below (fun b hb => by have := HS2.out b (hgT b hb); have := HB1.out.size; omega) HBX.out.size)
  clear ho1 hn1 qR rR HBX hgT HOS2 HBR
  obtain ⟨v0, v1, v2⟩ := cells3 rr
  have f0 := thawed rr 0
  have f1 := thawed rr 1
  have f2 := thawed rr 2
  obtain ⟨u0, u1, u2⟩ := cells3 qq
  have o5 := set_cells (set_cells (set_cells rr 0 (.slice (some ⟨gA, oA, none⟩) m0 k0)) 1 (.slice d1 m1 k1)) 2 (.slice d2 m2 k2)
  obtain ⟨t0, t1, t2⟩ := cells3 o5
  go_wp2_with fail
  (try simp only [Exit.inBlock, Exit.then])
  refine bodyPost_ret (v := .agg #[.slice (some ⟨gA, oA, none⟩) m0 k0, .slice d1 m1 k1, .slice d2 m2 k2]) ?_ rfl ⟨_, T2, rfl, ?_, fun b hb => ?_, ?_⟩
  · simp [results, Try.results21, go_sem, t0, t1, t2]
  · rw [HE.out]
    exact arrK.ownSet (arrK.ownSet (arrK.ownSet HO6.out (fun b hb => HNR.out b hb) _) (fun b hb => HNR.out b hb) _) (fun b hb => HNR.out b hb) _
  · have := HS2.out b hb; have := HB1.out.size; omega
  · exact ((HBQ.out.setCell HRR.out _).setCell HRR.out _).setCell HRR.out _

end Go.Proofs.Ytfpfgaifhmgpiaa

namespace Go.Proofs.Ytfpfgaifhmgpiaa
open Go.RowKit Go.PlainAid

set_option linter.unusedVariables false

set_option maxHeartbeats 8000000 in
set_option maxRecDepth 100000 in
theorem implLoadCell_is : ILoadCell := by
  intro ga gb gr gd bx br bc cs x w h hf
  have HF := Lib.hid hf
  clear hf
  obtain ⟨a0, n0, c0, a1, n1, c1, a2, n2, c2, rfl, h0, h1, h2⟩ := arr_rd h
  obtain ⟨w1, hw1⟩ : ∃ u, (((w.alloc (.cells #[.int .i64 ga, .int .i64 gb, .int .i64 gr, .int .i64 gd] 25)).alloc (.cells #[.slice a0 n0 c0, .slice a1 n1 c1, .slice a2 n2 c2] 31)).alloc (.cells #[.int .i64 bx, .int .i64 br, .int .i64 bc] 37)).alloc (.cells #[.slice none 0 0, .bool false] 42) = u := ⟨_, rfl⟩
  obtain ⟨g1, p1, l1, r1, hb1⟩ := alloc4 hw1
  have HB1 := Lib.hid hb1
  have H1 := Lib.hid (arrK.below h HB1.out)
  have HX := Lib.hid (cellsK.below h0 HB1.out)
  clear h h0 h1 h2
  obtain ⟨x0, x1, x2, x3⟩ := cells4 g1
  obtain ⟨y0, y1, y2⟩ := cells3 p1
  go_enter Try.func18, Try.ntmps18
  by_cases ha : ArrOk ga gb gr gd x
  case neg =>
    have KA := Lib.hid (decide_eq_false ha)
    have HE : Hid (loadF ga gb gr gd x bx br bc = (([], false), false)) := if_neg (fun h => ha h.1)
    clear ha
    go_wp2_with fail
    refine (implArrayOk_is ga gb gr gd _ _ false KA.out _ H1.out HF.out).mono ?_
    rintro e w4 ⟨rfl, hb4⟩
    have HBQ : Hid (Below w.heap.size w w4) := HB1.out.trans (hb4.mono HB1.out.size)
    have rr := keep_block hb4 r1 (lt_of_block r1)
    have gg := keep_block hb4 g1 (lt_of_block g1)
    have ll := keep_block hb4 l1 (lt_of_block l1)
    have pp := keep_block hb4 p1 (lt_of_block p1)
    have H4 := Lib.hid (cellsK.below HX.out hb4)
    clear hb4 g1 l1 p1 r1 x0 x1 x2 x3 y0 y1 y2
    obtain ⟨x0, x1, x2, x3⟩ := cells4 gg
    obtain ⟨y0, y1, y2⟩ := cells3 ll
    have f0 := thawed rr 0
    have f1 := thawed rr 1
    obtain ⟨s0, s1⟩ := cells2 rr
    go_wp2_with fail
    (try simp only [Exit.inBlock, Exit.then])
    refine bodyPost_ret (v := .tuple #[.agg #[.slice none 0 0, .bool false], .bool false]) ?_ rfl ⟨[.slice none 0 0, .bool false], [], ?_, ?_, fun b hb => (by cases hb), ?_⟩
    · simp [results, Try.results18, go_sem, s0, s1]
    · rw [HE.out]
    · rw [HE.out]
      exact cell_of false (ints_none _)
    · exact (HBQ.out.setCell (by show _ ≤ w.heap.size + 1 + 1 + 1; omega) _).setCell (by show _ ≤ w.heap.size + 1 + 1 + 1; omega) _
  have KA := Lib.hid (decide_eq_true ha)
  by_cases hn : AdOk ga gb gr gd bx br bc
  case neg =>
    have KN := Lib.hid (decide_eq_false hn)
    have HE : Hid (loadF ga gb gr gd x bx br bc = (([], false), false)) := if_neg (fun h => hn h.2)
    clear ha hn
    go_wp2_with fail
    refine (implArrayOk_is ga gb gr gd _ _ true KA.out _ H1.out HF.out).mono ?_
    rintro e w4 ⟨rfl, hb4⟩
    have HBQ : Hid (Below w.heap.size w w4) := HB1.out.trans (hb4.mono HB1.out.size)
    have rr := keep_block hb4 r1 (lt_of_block r1)
    have gg := keep_block hb4 g1 (lt_of_block g1)
    have ll := keep_block hb4 l1 (lt_of_block l1)
    have pp := keep_block hb4 p1 (lt_of_block p1)
    have H4 := Lib.hid (cellsK.below HX.out hb4)
    clear hb4 g1 l1 p1 r1 x0 x1 x2 x3 y0 y1 y2
    obtain ⟨x0, x1, x2, x3⟩ := cells4 gg
    obtain ⟨y0, y1, y2⟩ := cells3 ll
    go_wp2_with fail
    refine (implAddrOk_is ga gb gr gd bx br bc false KN.out _).mono ?_
    rintro e w5 ⟨rfl, hb5⟩
    have HBR : Hid (Below w.heap.size w w5) := HBQ.out.trans (hb5.mono HBQ.out.size)
    have r5 := keep_block hb5 rr (lt_of_block rr)
    have g5 := keep_block hb5 gg (lt_of_block gg)
    have l5 := keep_block hb5 ll (lt_of_block ll)
    have p5 := keep_block hb5 pp (lt_of_block pp)
    have H5 := Lib.hid (cellsK.below H4.out hb5)
    clear HBQ H4 rr gg ll pp hb5 x0 x1 x2 x3 y0 y1 y2
    have HBQ := HBR
    have rr := r5
    have gg := g5
    have ll := l5
    have pp := p5
    clear HBR r5 g5 l5 p5
    have f0 := thawed rr 0
    have f1 := thawed rr 1
    obtain ⟨s0, s1⟩ := cells2 rr
    go_wp2_with fail
    (try simp only [Exit.inBlock, Exit.then])
    refine bodyPost_ret (v := .tuple #[.agg #[.slice none 0 0, .bool false], .bool false]) ?_ rfl ⟨[.slice none 0 0, .bool false], [], ?_, ?_, fun b hb => (by cases hb), ?_⟩
    · simp [results, Try.results18, go_sem, s0, s1]
    · rw [HE.out]
    · rw [HE.out]
      exact cell_of false (ints_none _)
    · exact (HBQ.out.setCell (by show _ ≤ w.heap.size + 1 + 1 + 1; omega) _).setCell (by show _ ≤ w.heap.size + 1 + 1 + 1; omega) _
  have KN := Lib.hid (decide_eq_true hn)
  obtain ⟨j, hj, hjl⟩ := cell_index ha hn
  have HE : Hid (loadF ga gb gr gd x bx br bc = (x.1.getD j ([], false), true)) := by
    show _ = _
    unfold loadF
    rw [if_pos ⟨ha, hn⟩, hj]
    rfl
  have HJ := Lib.hid hj
  have HJL := Lib.hid hjl
  have HSY : Hid (∀ c ∈ x.1, SymOk c.1 11) := ha.2.2.2.2.1
  clear ha hn hj hjl
  go_wp2_with fail
  refine (implArrayOk_is ga gb gr gd _ _ true KA.out _ H1.out HF.out).mono ?_
  rintro e w4 ⟨rfl, hb4⟩
  have HBQ : Hid (Below w.heap.size w w4) := HB1.out.trans (hb4.mono HB1.out.size)
  have rr := keep_block hb4 r1 (lt_of_block r1)
  have gg := keep_block hb4 g1 (lt_of_block g1)
  have ll := keep_block hb4 l1 (lt_of_block l1)
  have pp := keep_block hb4 p1 (lt_of_block p1)
  have H4 := Lib.hid (cellsK.below HX.out hb4)
  clear hb4 g1 l1 p1 r1 x0 x1 x2 x3 y0 y1 y2
  obtain ⟨x0, x1, x2, x3⟩ := cells4 gg
  obtain ⟨y0, y1, y2⟩ := cells3 ll
  go_wp2_with fail
  refine (implAddrOk_is ga gb gr gd bx br bc true KN.out _).mono ?_
  rintro e w5 ⟨rfl, hb5⟩
  have HBR : Hid (Below w.heap.size w w5) := HBQ.out.trans (hb5.mono HBQ.out.size)
  have r5 := keep_block hb5 rr (lt_of_block rr)
  have g5 := keep_block hb5 gg (lt_of_block gg)
  have l5 := keep_block hb5 ll (lt_of_block ll)
  have p5 := keep_block hb5 pp (lt_of_block pp)
  have H5 := Lib.hid (cellsK.below H4.out hb5)
  clear HBQ H4 rr gg ll pp hb5 x0 x1 x2 x3 y0 y1 y2
  have HBQ := HBR
  have rr := r5
  have gg := g5
  have ll := l5
  have pp := p5
  clear HBR r5 g5 l5 p5
  obtain ⟨l0, _, m0, _⟩ := Kn.row_len H5.out
  have l0' : x.1.length = n0 := l0
  have hjn : j < n0 := by have := HJL.out; omega
  unfold maxLen at m0
  obtain ⟨gA, oA, ds, rfl, hcell, hel⟩ := Kn.row_at H5.out HJL.out
  have hgd : x.1.getD j ([], false) = x.1[j] := by rw [List.getD_eq_getElem?_getD, List.getElem?_eq_getElem HJL.out]; rfl
  have hsym := HSY.out x.1[j] (List.getElem_mem _)
  rw [hgd] at HE
  generalize x.1[j] = c at hel hsym HE
  obtain ⟨s, pz⟩ := c
  obtain ⟨xa, xn, xc, rfl, hs⟩ := cell_rd hel
  have b0 : w5.cell? ⟨gA, oA + j * 2, none⟩ = some (.slice xa xn xc) := hcell 0 (by decide)
  have b1 : w5.cell? ⟨gA, oA + j * 2 + 1, none⟩ = some (.bool pz) := hcell 1 (by decide)
  have hs11 : (s.length : Int) = 11 := hsym.2
  have HS : Hid (intsK.rd w5 [.slice xa xn xc] s) := hs
  obtain ⟨p0, p1, p2⟩ := cells3 pp
  obtain ⟨x0, x1, x2, x3⟩ := cells4 gg
  obtain ⟨y0, y1, y2⟩ := cells3 ll
  have z0 := fun q : Later w5 => q.cell p0
  have z3 := fun q : Later w5 => q.cell b0
  have z4 := fun q : Later w5 => q.cell b1
  have zx0 := fun q : Later w5 => q.cell x0
  have zx1 := fun q : Later w5 => q.cell x1
  have zx2 := fun q : Later w5 => q.cell x2
  have zx3 := fun q : Later w5 => q.cell x3
  have zy0 := fun q : Later w5 => q.cell y0
  have zy1 := fun q : Later w5 => q.cell y1
  have zy2 := fun q : Later w5 => q.cell y2
  clear hs hel hsym hcell hgd b0 b1 p0 p1 p2 x0 x1 x2 x3 y0 y1 y2 l0 l0'
  go_wp2_with fail
  refine wp_region_later_tail 7 (by kernel_rfl) (by kernel_rfl) ?_
  simp only [List.take_succ_cons, List.take_zero, List.drop_succ_cons, List.drop_zero]
  repeat (go_big_quiet_step (first | (go_at_call 55; exact Gives.later _ (implIndex_is ga gb gr gd bx br bc (j : Int) HJ.out _))))
  refine wpQuiet_nil ?_
  rintro R0 ⟨zz, hz⟩
  have hbR : Below w5.heap.size w5 R0 := hz ▸ zz.ok
  have HBX : Hid (Below w.heap.size w R0) := HBQ.out.trans (hbR.mono HBQ.out.size)
  have rR := keep_block hbR rr (lt_of_block rr)
  have HSR := Lib.hid (intsK.below HS.out hbR)
  clear z0 z3 z4 zx0 zx1 zx2 zx3 zy0 zy1 zy2 hz zz hbR gg ll pp rr
  go_wp2_with fail
  refine (implCell_k (p := pz) HSR.out (by omega)).mono ?_
  rintro e R1 ⟨cs6, S6, rfl, own6, hS6, hb6⟩
  obtain ⟨ya, yn, yc, rfl, hi6⟩ := cell_own own6
  have HB7 : Hid (Below w.heap.size w R1) := HBX.out.trans (hb6.mono HBX.out.size)
  have r7 := keep_block hb6 rR (lt_of_block rR)
  have HS6 : Hid (∀ b ∈ S6, w.heap.size + 1 + 1 + 1 < b) := fun b hb => by
    have := hS6 b hb
    have := lt_of_block rR
    show w.heap.size + 1 + 1 + 1 < b
    omega
  have HO7 := Lib.hid hi6
  clear own6 hS6 hb6 hi6 rR HBX
  have f0 := thawed r7 0
  have f1 := thawed r7 1
  have o8 := set_cells (set_cells r7 0 (.slice ya yn yc)) 1 (.bool pz)
  obtain ⟨t0, t1⟩ := cells2 o8
  obtain ⟨s0, s1⟩ := cells2 r7
  go_wp2_with fail
  (try simp only [Exit.inBlock, Exit.then])
  have q0 : ∀ b ∈ S6, b ≠ w.heap.size + 1 + 1 + 1 := fun b hb => by have := HS6.out b hb; omega
  refine bodyPost_ret (v := .tuple #[.agg #[.slice ya yn yc, .bool pz], .bool true]) ?_ rfl ⟨[.slice ya yn yc, .bool pz], S6, ?_, ?_, fun b hb => ?_, ?_⟩
  · simp [results, Try.results18, go_sem, t0, t1]
  · rw [HE.out]
  · rw [HE.out]
    exact cell_of pz (intsK.ownSet (intsK.ownSet HO7.out (fun b hb => q0 b hb) _) (fun b hb => q0 b hb) _)
  · have := HS6.out b hb; omega
  · exact (HB7.out.setCell (by show _ ≤ w.heap.size + 1 + 1 + 1; omega) _).setCell (by show _ ≤ w.heap.size + 1 + 1 + 1; omega) _

end Go.Proofs.Ytfpfgaifhmgpiaa

namespace Go.Proofs.Ytfpfgaifhmgpiaa
open Go.RowKit

set_option linter.unusedVariables false

theorem fnFlipBack_walk (a0 : Option Addr) (len cap : Nat) (zs : List Int) (w : World) (hr : IsRow .u8 w a0 len cap zs) :
    Calls Try.prog 4 #[.slice a0 len cap] w fun e w' => e = .returned (.bool true) ∧ Below w.heap.size w w' := fnFlipBack_of (Lib.hid implFlipSymbol_is) (Lib.hid implLoadCell_is) a0 len cap zs w hr

end Go.Proofs.Ytfpfgaifhmgpiaa
