/-
  The draws of lists of requests, of slots, and of a batch.
-/
import Derived.Test.YtdgaggcjimafbaaReqW
namespace Go.Proofs.Ytdgaggcjimafbaa
open Go.RowKit

set_option linter.unusedVariables false

/-- A row of the call's own that holds requests. -/
def OwnR (B : Nat) (v : Value) (l : List Rq) (w : World) : Prop := w.ownsRow B 81 6 v l.length (l.flatMap Rq.vs)

theorem infoR : (Try.prog.info? 81).map (fun i => (i.zero, i.size, i.bytes)) = some (some (.agg #[.int .i64 0, .int .i64 0, .int .i64 0, .bool false, .int .i64 0, .int .i64 0]), 6, 48) := by kernel_rfl

theorem ownR_more {B : Nat} {v : Value} {l : List Rq} {q : Rq} {w : World} (h : w.ownsRow B 81 6 v (l.length + 1) (l.flatMap Rq.vs ++ q.vs)) : OwnR B v (l ++ [q]) w := by
  unfold OwnR
  rw [show (l ++ [q]).length = l.length + 1 by simp, show (l ++ [q]).flatMap Rq.vs = l.flatMap Rq.vs ++ q.vs by simp]
  exact h

theorem OwnR.below {B : Nat} {v : Value} {l : List Rq} {w w' : World} (h : OwnR B v l w) (hb : Below w.heap.size w w') : OwnR B v l w' := by
  refine ⟨h.1, ?_⟩
  rcases h.2 with hv | ⟨b, cap, cur, hv, hB, hh, r⟩
  · exact .inl hv
  · exact .inr ⟨b, cap, cur, hv, hB, by rw [hb.block b (lt_of_block hh)]; exact hh, r⟩

theorem OwnR.only {B c : Nat} {v : Value} {l : List Rq} {w w' : World} (h : OwnR B v l w) (ho : Only c w w') (hc : c < B) : OwnR B v l w' := by
  refine ⟨h.1, ?_⟩
  rcases h.2 with hv | ⟨b, cap, cur, hv, hB, hh, r⟩
  · exact .inl hv
  · exact .inr ⟨b, cap, cur, hv, hB, by rw [ho.block b (lt_of_block hh) (by omega)]; exact hh, r⟩

theorem OwnR.mono {B C : Nat} {v : Value} {l : List Rq} {w : World} (h : OwnR B v l w) (hC : C ≤ B) : OwnR C v l w := by
  refine ⟨h.1, ?_⟩
  rcases h.2 with hv | ⟨b, cap, cur, hv, hB, r⟩
  · exact .inl hv
  · exact .inr ⟨b, cap, cur, hv, by omega, r⟩

theorem OwnR.shape {B : Nat} {v : Value} {l : List Rq} {w : World} (h : OwnR B v l w) : ∃ a cap, v = .slice a l.length cap := by
  rcases h.2 with ⟨rfl, h0⟩ | ⟨g, cap, cur, rfl, _⟩
  · exact ⟨none, 0, by rw [h0]⟩
  · exact ⟨_, cap, rfl⟩

theorem OwnI.only {B c : Nat} {v : Value} {l : List Int} {w w' : World} (h : OwnI B v l w) (ho : Only c w w') (hc : c < B) : OwnI B v l w' := by
  refine ⟨h.1, ?_⟩
  rcases h.2 with hv | ⟨b, cap, cur, hv, hB, hh, r⟩
  · exact .inl hv
  · exact .inr ⟨b, cap, cur, hv, hB, by rw [ho.block b (lt_of_block hh) (by omega)]; exact hh, r⟩

theorem only_grown {c : Nat} {a w w' : World} {row : Option Nat} (h : Only c a w) (hg : w.grownBy w' row) (hr : ∀ k, row = some k → a.heap.size ≤ k) : Only c a w' :=
  h.trans' ⟨hg.os, hg.tape, hg.output, hg.size⟩ (fun k hk hn => hg.block k (Nat.lt_of_lt_of_le hk h.size) (fun e => by have := hr k e.symm; omega))


/-- A drawn list of requests of a batch. -/
def DrewList (L : Int) (c B : Nat) (w : World) (e : Ending) (w' : World) : Prop :=
  ∃ (v : Value) (l : List Rq), e = .returned v ∧ OwnR w.heap.size v l w' ∧ l.length ≤ 13 ∧ (∀ (k : Nat) (q : Rq), l[k]? = some q → (1 + 3 * (k : Int) ≤ q.id ∧ q.id ≤ 3 + 3 * (k : Int)) ∧ (0 ≤ q.tn ∧ q.tn ≤ 2) ∧ (0 ≤ q.ln ∧ q.ln ≤ topOf L) ∧ (q.wr = false → q.dt = 0) ∧ (0 ≤ q.dt ∧ q.dt ≤ 4294967295) ∧ (0 ≤ q.tm ∧ q.tm ≤ 299)) ∧ Cur c B w' ∧ Only c w w'

set_option maxHeartbeats 4000000 in
set_option maxRecDepth 100000 in
theorem l23List_any {c B : Nat} {w : World} (hc : Cur c B w) (L : Int) (hL : L ≤ 1000000) :
    Calls Try.prog 35 #[.pointer (some ⟨c, 0, none⟩), .int .i64 L] w (DrewList L c B w) := by
  obtain ⟨i0, hi, hz0, hz1, hz2⟩ := info_parts infoR
  have hltc := hc.lt
  have hBc : B ≤ c := by obtain ⟨_, _, _, _, _, _, _, h, _⟩ := hc; exact h
  have HC := Lib.hid hc
  clear hc
  go_enter Try.func35, Try.ntmps35
  go_wp2_with fail
  go_loopw [5, 6] (fun v i wr => ∃ k : Nat, ∃ l : List Rq, k ≤ 13 ∧ i = .int .i64 k ∧ Hid (l.length = k) ∧ Hid (∀ (k : Nat) (q : Rq), l[k]? = some q → (1 + 3 * (k : Int) ≤ q.id ∧ q.id ≤ 3 + 3 * (k : Int)) ∧ (0 ≤ q.tn ∧ q.tn ≤ 2) ∧ (0 ≤ q.ln ∧ q.ln ≤ topOf L) ∧ (q.wr = false → q.dt = 0) ∧ (0 ≤ q.dt ∧ q.dt ≤ 4294967295) ∧ (0 ≤ q.tm ∧ q.tm ≤ 299)) ∧ OwnR w.heap.size v l wr ∧ Cur c B wr ∧ Only c w wr) (fun _ i _ => 13 - (intOf i).toNat)
  case atStart => exact ⟨0, [], Nat.zero_le _, rfl, rfl, fun k q h => by simp at h, World.ownsRow_made w #[] 0 (Nat.le_refl _) (by decide) rfl, HC.out.alloc _, (Only.refl _ _).alloc _⟩
  case round =>
    obtain ⟨k, l, hk, rfl, HL, HA, hown, hcr, hor⟩ := hrel
    have hsr := hor.size
    have HOR := Lib.hid hor
    have HOW := Lib.hid hown
    clear hor hown HC
    go_wp2_with fail
    refine (l01Below_any hcr 14 (by omega)).mono ?_
    rintro e w2 ⟨x, rfl, hx0, hx1, hc2, ho2⟩
    rw [topOf_pos (by omega)] at hx1
    have HO2 := Lib.hid (HOW.out.only ho2 hltc)
    have HOR2 := Lib.hid (HOR.out.trans ho2)
    have HC2 := Lib.hid hc2
    have hs2 : w.heap.size ≤ w2.heap.size := Nat.le_trans hsr ho2.size
    clear hcr ho2 HOR HOW hc2
    by_cases hlt : (k : Int) < x
    · go_wp2_with fail
      refine (l19Req_any HC2.out L hL).mono ?_
      rintro e w3 ⟨q, rfl, hq, hc3, ho3⟩
      have HQ := Lib.hid hq
      have HO3 := Lib.hid (HO2.out.only ho3 hltc)
      have HOR3 := Lib.hid (HOR2.out.trans ho3)
      have HC3 := Lib.hid hc3
      have hs3 : w.heap.size ≤ w3.heap.size := Nat.le_trans hs2 ho3.size
      clear hq ho3 hc3 HO2 HOR2 HC2
      obtain ⟨qid, qtn, qln, qwr, qdt, qtm⟩ := q
      obtain ⟨w4, hw4⟩ : ∃ u, w3.alloc (.cells #[.int .i64 qid, .int .i64 qtn, .int .i64 qln, .bool qwr, .int .i64 qdt, .int .i64 qtm] 81) = u := ⟨_, rfl⟩
      have r4 : w4.heap[w3.heap.size]? = some (.cells #[.int .i64 qid, .int .i64 qtn, .int .i64 qln, .bool qwr, .int .i64 qdt, .int .i64 qtm] 81) := by subst hw4; exact heap_alloc_new _ _
      have hb4 : Below w3.heap.size w3 w4 := by subst hw4; exact (Below.refl _ _).alloc (Nat.le_refl _) _
      have HC4 : Hid (Cur c B w4) := by subst hw4; exact HC3.out.alloc _
      have HOR4 : Hid (Only c w w4) := by subst hw4; exact HOR3.out.trans ((Only.refl c w3).alloc _)
      have HO4 := Lib.hid (HO3.out.below hb4)
      have hs4 : w.heap.size ≤ w4.heap.size := Nat.le_trans hs3 hb4.size
      have hcr3 := HC3.out.lt
      have own3 := fun j => (World.ownsRow.lt HO3.out j)
      obtain ⟨rb, hrb⟩ : ∃ u, w3.heap.size = u := ⟨_, rfl⟩
      rw [hrb] at r4 hcr3 hs3
      have hown3 : Hid (∀ j, Value.ownBlock u5 = some j → j < rb) := fun j hj => by have := (own3 j hj).2; omega
      clear hb4 HC3 HOR3 HO3 own3
      have e1 : IntKind.i64.wrap (3 * (k : Int)) = 3 * (k : Int) := IntWalk.i64_in _ ⟨by omega, by omega⟩
      have e2 : IntKind.i64.wrap (1 + 3 * (k : Int)) = 1 + 3 * (k : Int) := IntWalk.i64_in _ ⟨by omega, by omega⟩
      go_wp2_with fail
      clear hw4 hrb
      refine (l01Below_any HC4.out 3 (by omega)).mono ?_
      rintro e w5 ⟨y, rfl, hy0, hy1, hc5, ho5⟩
      rw [topOf_pos (by omega)] at hy1
      have r5 := (ho5.block _ (lt_of_block r4) (by omega)).trans r4
      have HC5 := Lib.hid hc5
      have HOR5 := Lib.hid (HOR4.out.trans ho5)
      have HO5 := Lib.hid (HO4.out.only ho5 hltc)
      have hs5 : w.heap.size ≤ w5.heap.size := Nat.le_trans hs4 ho5.size
      clear hc5 ho5 r4 HC4 HOR4 HO4
      have e3 : IntKind.i64.wrap (1 + 3 * (k : Int) + y) = 1 + 3 * (k : Int) + y := IntWalk.i64_in _ ⟨by omega, by omega⟩
      obtain ⟨nid, hnid⟩ : ∃ u, 1 + 3 * (k : Int) + y = u := ⟨_, rfl⟩
      obtain ⟨w6, hw6⟩ : ∃ u, w5.setCell ⟨rb, 0, none⟩ (.int .i64 nid) = u := ⟨_, rfl⟩
      have r6 : w6.heap[rb]? = some (.cells #[.int .i64 nid, .int .i64 qtn, .int .i64 qln, .bool qwr, .int .i64 qdt, .int .i64 qtm] 81) := by rw [← hw6]; exact set_cells r5 0 _
      have HC6 : Hid (Cur c B w6) := by show Cur c B w6; rw [← hw6]; exact HC5.out.setNew (by simp; omega) (by simp; omega) _
      have HOR6 : Hid (Only c w w6) := by show Only c w w6; rw [← hw6]; exact HOR5.out.setNew (by simp; omega) _
      have g56 : w5.grownBy w6 (some rb) := by rw [← hw6]; exact ⟨rfl, rfl, rfl, by simp [World.setCell], fun j hj hne => Below.heap_setCell _ _ _ _ (by simp; exact fun e => hne (by rw [e]))⟩
      have HO6 : Hid (OwnR w.heap.size u5 l w6) := World.ownsRow.kept HO5.out g56 (.inr fun h => by have := hown3.out _ h; omega)
      have hs6 : w.heap.size ≤ w6.heap.size := Nat.le_trans hs5 g56.size
      obtain ⟨b0, _, _, _, _, _⟩ := cells6 r5
      have f0 := thawed r5 0
      clear g56 r5 HC5 HOR5 HO5
      go_wp2_with fail
      clear hw6 b0 f0
      refine (l01Below_any HC6.out 300 (by omega)).mono ?_
      rintro e w7 ⟨z, rfl, hz0', hz1', hc7, ho7⟩
      rw [topOf_pos (by omega)] at hz1'
      have r7 := (ho7.block _ (lt_of_block r6) (by omega)).trans r6
      have HC7 := Lib.hid hc7
      have HOR7 := Lib.hid (HOR6.out.trans ho7)
      have HO7 := Lib.hid (HO6.out.only ho7 hltc)
      have hs7 : w.heap.size ≤ w7.heap.size := Nat.le_trans hs6 ho7.size
      clear hc7 ho7 r6 HC6 HOR6 HO6
      obtain ⟨w8, hw8⟩ : ∃ u, w7.setCell ⟨rb, 5, none⟩ (.int .i64 z) = u := ⟨_, rfl⟩
      have r8 : w8.heap[rb]? = some (.cells #[.int .i64 nid, .int .i64 qtn, .int .i64 qln, .bool qwr, .int .i64 qdt, .int .i64 z] 81) := by rw [← hw8]; exact set_cells r7 5 _
      have HC8 : Hid (Cur c B w8) := by show Cur c B w8; rw [← hw8]; exact HC7.out.setNew (by simp; omega) (by simp; omega) _
      have HOR8 : Hid (Only c w w8) := by show Only c w w8; rw [← hw8]; exact HOR7.out.setNew (by simp; omega) _
      have g78 : w7.grownBy w8 (some rb) := by rw [← hw8]; exact ⟨rfl, rfl, rfl, by simp [World.setCell], fun j hj hne => Below.heap_setCell _ _ _ _ (by simp; exact fun e => hne (by rw [e]))⟩
      have own8 : OwnR w.heap.size u5 l w8 := World.ownsRow.kept HO7.out g78 (.inr fun h => by have := hown3.out _ h; omega)
      have hs8 : w.heap.size ≤ w8.heap.size := Nat.le_trans hs7 g78.size
      obtain ⟨_, _, _, _, _, b5⟩ := cells6 r7
      have f5 := thawed r7 5
      obtain ⟨d0, d1, d2, d3, d4, d5⟩ := cells6 r8
      clear g78 r7 HC7 HOR7 HO7
      go_wp2_with (at_builtin; refine wpList_append_own _ rfl _ _ 31 rfl w.heap.size 81 i0 (.agg #[.int .i64 0, .int .i64 0, .int .i64 0, .bool false, .int .i64 0, .int .i64 0]) 6 48 Try.underlying31 hi hz0 hz1 hz2 rfl (by decide) _ _ _ rfl (World.ownsRow.alloc own8 _) ⟨w8.heap.size, 0, none⟩ 1 1 [.int .i64 nid, .int .i64 qtn, .int .i64 qln, .bool qwr, .int .i64 qdt, .int .i64 z] rfl rfl (World.news_of_block (t := 81) (fr := (0, 0)) (heap_alloc_new w8 _)) (by simp [Value.oneCell']) (by rw [HL.out]; unfold maxLen; omega) (by rw [HL.out]; omega) (by rw [World.size_alloc]; omega) ?_)
      intro v' w9 hown9 hgrow _
      have R : Hid (OwnR w.heap.size v' (l ++ [⟨nid, qtn, qln, qwr, qdt, z⟩]) w9) := ownR_more hown9
      have hrow : ∀ j, Value.ownBlock u5 = some j → w.heap.size ≤ j := fun j hj => (World.ownsRow.lt own8 j hj).1
      have HC9 : Hid (Cur c B w9) := (HC8.out.alloc _).grown hgrow (fun j hj => by have := hrow j hj; omega)
      have HOR9 : Hid (Only c w w9) := only_grown (HOR8.out.trans ((Only.refl c w8).alloc _)) hgrow hrow
      have HA2 : Hid (∀ (j : Nat) (q : Rq), (l ++ [⟨nid, qtn, qln, qwr, qdt, z⟩])[j]? = some q → (1 + 3 * (j : Int) ≤ q.id ∧ q.id ≤ 3 + 3 * (j : Int)) ∧ (0 ≤ q.tn ∧ q.tn ≤ 2) ∧ (0 ≤ q.ln ∧ q.ln ≤ topOf L) ∧ (q.wr = false → q.dt = 0) ∧ (0 ≤ q.dt ∧ q.dt ≤ 4294967295) ∧ (0 ≤ q.tm ∧ q.tm ≤ 299)) := by
        intro j q hj
        by_cases hjl : j < l.length
        · rw [List.getElem?_append_left hjl] at hj
          exact HA.out j q hj
        · rw [List.getElem?_append_right (by omega)] at hj
          have hj0 : j - l.length = 0 := by
            rcases Nat.eq_zero_or_pos (j - l.length) with h | h
            · exact h
            · rw [List.getElem?_eq_none (by simp; omega)] at hj; cases hj
          rw [hj0] at hj
          have hq : q = ⟨nid, qtn, qln, qwr, qdt, z⟩ := by simpa using hj.symm
          subst hq
          obtain ⟨_, a2, a3, a4, a5, _⟩ := HQ.out
          have hjk : (j : Int) = k := by have := HL.out; omega
          refine ⟨⟨?_, ?_⟩, a2, a3, a4, a5, ⟨hz0', ?_⟩⟩
          · show 1 + 3 * (j : Int) ≤ nid; omega
          · show nid ≤ 3 + 3 * (j : Int); omega
          · show z ≤ 299; omega
      have HL2 : Hid ((l ++ [(⟨nid, qtn, qln, qwr, qdt, z⟩ : Rq)]).length = k + 1) := by show _ = _; rw [List.length_append, HL.out]; rfl
      clear hown9 hgrow own8 hrow HC8 HOR8 HQ b5 f5 d0 d1 d2 d3 d4 d5 hw8
      go_wp2_with fail
      go_roundw
      case rel => exact ⟨k + 1, _, by omega, by go_num, HL2, HA2, R.out, HC9.out, HOR9.out⟩
      case measure => simp [intOf]; omega
    · go_wp2_with fail
      go_ret
      have hle := HL.out
      exact ⟨_, l, rfl, HO2.out, by omega, HA.out, HC2.out, HOR2.out⟩


theorem stepQ_normal {C : World → Prop} {K : Act → World → Prop} {a : Act} {w : World} (h : C w ∧ K a w) : stepQ C K .normal a w := h

theorem ownI_set {B : Nat} {v : Value} {l : List Int} {w : World} {p : Addr} (hp : p.block < B) (h : OwnI B v l w) (u : Value) : OwnI B v l (w.setCell p u) := by
  refine ⟨h.1, ?_⟩
  rcases h.2 with hv | ⟨b, cap, cur, hv, hB, hh, r⟩
  · exact .inl hv
  · exact .inr ⟨b, cap, cur, hv, hB, (Below.heap_setCell _ _ _ _ (by omega)).trans hh, r⟩


/-- Drawn slots. -/
def DrewSlots (c B : Nat) (w : World) (e : Ending) (w' : World) : Prop :=
  ∃ (v : Value) (l : List Int) (n : Int), e = .returned (.agg #[v, .int .i64 n]) ∧ OwnI w.heap.size v l w' ∧ (1 ≤ l.length ∧ l.length ≤ 6) ∧ (∀ x ∈ l, 0 ≤ x ∧ x ≤ 2) ∧ (16 ≤ n ∧ n ≤ 25) ∧ Cur c B w' ∧ Only c w w'

set_option maxHeartbeats 4000000 in
set_option maxRecDepth 100000 in
theorem l23Slots_any {c B : Nat} {w : World} (hc : Cur c B w) :
    Calls Try.prog 32 #[.pointer (some ⟨c, 0, none⟩)] w (DrewSlots c B w) := by
  obtain ⟨i0, hi, hz0, hz1, hz2⟩ := info_parts infoI
  have hltc := hc.lt
  have hBc : B ≤ c := by obtain ⟨_, _, _, _, _, _, _, h, _⟩ := hc; exact h
  have hcz := hc.alloc (.cells #[.slice none 0 0, .int .i64 0] 30)
  have HC := Lib.hid hcz
  clear hc hcz
  go_enter Try.func32, Try.ntmps32
  go_wp2_with fail
  refine (l01Below_any HC.out 10 (by omega)).mono ?_
  rintro e w1 ⟨x, rfl, hx0, hx1, hc1, ho1⟩
  rw [topOf_pos (by omega)] at hx1
  have z1 : w1.heap[w.heap.size]? = some (.cells #[.slice none 0 0, .int .i64 0] 30) := (ho1.block _ (by simp) (by omega)).trans (heap_alloc_new _ _)
  have hs1 : w.heap.size + 1 ≤ w1.heap.size := by have := ho1.size; simpa using this
  have HO1 : Hid (Only c w w1) := ((Only.refl c w).alloc _).trans ho1
  have HC1 := Lib.hid hc1
  have hcl1 := hc1.lt
  clear ho1 hc1 HC
  obtain ⟨n, hn⟩ : ∃ n, 16 + x = n := ⟨_, rfl⟩
  have e1 : IntKind.i64.wrap (16 + x) = n := by rw [hn]; exact IntWalk.i64_in _ ⟨by omega, by omega⟩
  have hn1 : 16 ≤ n ∧ n ≤ 25 := by omega
  clear hn hx0 hx1
  obtain ⟨w2, hw2⟩ : ∃ u, w1.alloc (.cells #[.slice none 0 0, .int .i64 n] 30) = u := ⟨_, rfl⟩
  have s2 : w2.heap[w1.heap.size]? = some (.cells #[.slice none 0 0, .int .i64 n] 30) := by subst hw2; exact heap_alloc_new _ _
  have z2 : w2.heap[w.heap.size]? = some (.cells #[.slice none 0 0, .int .i64 0] 30) := by subst hw2; exact keep_block ((Below.refl w1.heap.size w1).alloc (Nat.le_refl _) _) z1 (lt_of_block z1)
  have HC2 : Hid (Cur c B w2) := by subst hw2; exact HC1.out.alloc _
  have HO2 : Hid (Only c w w2) := by subst hw2; exact HO1.out.trans ((Only.refl c w1).alloc _)
  obtain ⟨sb, hsb⟩ : ∃ u, w1.heap.size = u := ⟨_, rfl⟩
  rw [hsb] at s2 hs1 hcl1
  clear z1 HC1 HO1
  go_wp2_with fail
  clear hw2 hsb
  go_loopw [4] (fun i wr => ∃ k : Nat, ∃ (l : List Int) (v : Value), k ≤ 6 ∧ i = .int .i64 k ∧ Hid (l.length = k) ∧ Hid (∀ x ∈ l, 0 ≤ x ∧ x ≤ 2) ∧ OwnI (sb + 1) v l wr ∧ wr.heap[sb]? = some (.cells #[v, .int .i64 n] 30) ∧ wr.heap[w.heap.size]? = some (.cells #[.slice none 0 0, .int .i64 0] 30) ∧ Cur c B wr ∧ Only c w wr) (fun i _ => 6 - (intOf i).toNat)
  case atStart => exact ⟨0, [], .slice none 0 0, Nat.zero_le _, rfl, rfl, fun x h => (by cases h), World.ownsRow_nil _ _ _ _, s2, z2, HC2.out, HO2.out⟩
  case round =>
    obtain ⟨k, l, v, hk, rfl, HL, HA, hown, hsb, hz, hcr, hor⟩ := hrel
    have HOR := Lib.hid hor
    have HOW := Lib.hid hown
    clear hor hown s2 z2 HC2 HO2
    go_wp2_with fail
    refine (l01Below_any hcr 6 (by omega)).mono ?_
    rintro e w3 ⟨y, rfl, hy0, hy1, hc3, ho3⟩
    rw [topOf_pos (by omega)] at hy1
    have s3 := (ho3.block _ (lt_of_block hsb) (by omega)).trans hsb
    have z3 := (ho3.block _ (lt_of_block hz) (by omega)).trans hz
    have HO3 := Lib.hid (HOW.out.only ho3 (by omega))
    have HOR3 := Lib.hid (HOR.out.trans ho3)
    have HC3 := Lib.hid hc3
    clear hcr ho3 HOR HOW hc3 hsb hz
    by_cases hlt : (k : Int) ≤ y
    · have d3 := (cells2 s3).1
      go_wp2_with fail
      refine wp_region_float (A := ?A) [.h, .h, .h, .t, .t, .t, .h, .e] (by kernel_rfl) (by kernel_rfl) (fun u => u.cell? ⟨sb, 0, none⟩ = some v) ?hC ?hH ?hT
      case hC => exact (cells2 s3).1
      case hH =>
        intro u hu
        have z0 := fun q : Same u => q.cell hu
        simp only [headsOf]
        repeat (go_big_quiet_step (fail))
        refine wpQuiet_nil ?_
        exact rfl
      case hT =>
        simp only [chainT]
        have HCd : Hid (Cur c B w3.drew) := HC3.out
        have HOd : Hid (Only c w w3.drew) := HOR3.out.drewN 1
        have HId : Hid (OwnI (sb + 1) v l w3.drew) := HO3.out
        have s3' : w3.drew.heap[sb]? = some (.cells #[v, .int .i64 n] 30) := s3
        have z3' : w3.drew.heap[w.heap.size]? = some (.cells #[.slice none 0 0, .int .i64 0] 30) := z3
        clear s3 z3 HO3 HOR3 HC3 d3
        go_wp2_with fail
        refine (l01Below_any HCd.out 3 (by omega)).mono ?_
        rintro e w4 ⟨q, rfl, hq0, hq1, hc4, ho4⟩
        rw [topOf_pos (by omega)] at hq1
        have s4 := (ho4.block _ (lt_of_block s3') (by omega)).trans s3'
        have z4 := (ho4.block _ (lt_of_block z3') (by omega)).trans z3'
        have own4 := HId.out.only ho4 (by omega)
        have HO4 := Lib.hid (HOd.out.trans ho4)
        have HC4 := Lib.hid hc4
        have hsl := lt_of_block s4
        clear ho4 hc4 s3' z3' HId HOd HCd
        go_wp2_with fail
        refine stepQ_normal ⟨(cells2 s4).1, ?_⟩
        go_wp2_with fail
        refine stepQ_normal ⟨(cells2 (keep_block ((Below.refl w4.heap.size w4).alloc (Nat.le_refl _) _) s4 hsl)).1, ?_⟩
        go_wp2_with (at_builtin; refine wpList_append_own _ rfl _ _ 28 rfl (sb + 1) 3 i0 (.int .i64 0) 1 8 Try.underlying28 hi hz0 hz1 hz2 rfl (by decide) _ _ _ rfl (World.ownsRow.alloc own4 _) ⟨w4.heap.size, 0, none⟩ 1 1 [.int .i64 q] rfl rfl (cell_one_new _ _ _) (by intro u hu; simp at hu; subst hu; rfl) (by rw [HL.out]; unfold maxLen; omega) (by rw [HL.out]; omega) (by rw [World.size_alloc]; omega) ?_)
        intro v' w5 hown5 hgrow _
        have R : Hid (OwnI (sb + 1) v' (l ++ [q]) w5) := ownI_more hown5
        have hrow : ∀ j, Value.ownBlock v = some j → sb + 1 ≤ j := fun j hj => (World.ownsRow.lt own4 j hj).1
        have hb5 : Below (sb + 1) w4 w5 := ((Below.refl (sb + 1) w4).alloc (by omega) _).grown hgrow (by rw [World.size_alloc]; omega) hrow
        have s5 := keep_block hb5 s4 (by omega)
        have z5 := keep_block hb5 z4 (by omega)
        have HC5 : Hid (Cur c B w5) := (HC4.out.alloc _).grown hgrow (fun j hj => by have := hrow j hj; omega)
        have HO5 : Hid (Only c w w5) := only_grown (HO4.out.trans ((Only.refl c w4).alloc _)) hgrow (fun j hj => by have := hrow j hj; omega)
        have hsl5 := lt_of_block s5
        have hshape : Hid (∃ aa cc, v' = .slice aa (l.length + 1) cc) := by
          obtain ⟨aa, cc, h⟩ := R.out.shape
          exact ⟨aa, cc, by rw [h, List.length_append]; rfl⟩
        clear hb5 hown5 hgrow own4 hrow HC4 HO4 s4 z4
        obtain ⟨aa, cc, rfl⟩ := hshape.out
        clear hshape
        go_wp2_with fail
        refine stepQ_normal ⟨(cells2 s5).1, ?_⟩
        obtain ⟨w6, hw6⟩ : ∃ u, w5.setCell ⟨sb, 0, none⟩ (.slice aa (l.length + 1) cc) = u := ⟨_, rfl⟩
        have s6 : w6.heap[sb]? = some (.cells #[.slice aa (l.length + 1) cc, .int .i64 n] 30) := by rw [← hw6]; exact set_cells s5 0 _
        have z6 : w6.heap[w.heap.size]? = some (.cells #[.slice none 0 0, .int .i64 0] 30) := by rw [← hw6]; exact (Below.heap_setCell _ _ _ _ (by simp; omega)).trans z5
        have HC6 : Hid (Cur c B w6) := by show Cur c B w6; rw [← hw6]; exact HC5.out.setNew (by simp; omega) (by simp; omega) _
        have HO6 : Hid (Only c w w6) := by show Only c w w6; rw [← hw6]; exact HO5.out.setNew (by simp; omega) _
        have g56 : w5.grownBy w6 (some sb) := by rw [← hw6]; exact ⟨rfl, rfl, rfl, by simp [World.setCell], fun j hj hne => Below.heap_setCell _ _ _ _ (by simp; exact fun e => hne (by rw [e]))⟩
        have HR6 : Hid (OwnI (sb + 1) (.slice aa (l.length + 1) cc) (l ++ [q]) w6) := World.ownsRow.kept R.out g56 (.inr fun h => by have := (World.ownsRow.lt R.out _ h).1; omega)
        have HA2 : Hid (∀ x ∈ l ++ [q], 0 ≤ x ∧ x ≤ 2) := fun x hx => by
          rcases List.mem_append.1 hx with h | h
          · exact HA.out x h
          · obtain rfl := List.mem_singleton.1 h
            omega
        have HL2 : Hid ((l ++ [q]).length = k + 1) := by show _ = _; rw [List.length_append, HL.out]; rfl
        have b5 := (cells2 s5).1
        have f5 := thawed s5 0
        clear g56 R HC5 HO5 z5 s5
        go_wp2_with fail
        refine stepQ_normal ⟨trivial, ?_⟩
        clear hw6 b5 f5
        go_wp2_with fail
        go_roundw
        case rel => exact ⟨k + 1, _, _, by omega, by go_num, HL2, HA2, HR6.out, s6, z6, HC6.out, HO6.out⟩
        case measure => simp [intOf]; omega
    · have hshape : Hid (∃ aa cc, v = .slice aa l.length cc) := HO3.out.shape
      obtain ⟨aa, cc, rfl⟩ := hshape.out
      clear hshape
      have hlen := HL.out
      rw [hlen] at s3
      obtain ⟨d0, d1⟩ := cells2 s3
      obtain ⟨y0, y1⟩ := cells2 z3
      have f0 := thawed z3 0
      have f1 := thawed z3 1
      have hk1 : 1 ≤ k := by omega
      have hle := HL.out
      go_wp2
      (try simp only [Exit.inBlock, Exit.then])
      refine bodyPost_ret (v := .agg #[.slice aa k cc, .int .i64 n]) ?_ rfl ⟨_, l, n, rfl, ?_, ⟨by omega, by omega⟩, HA.out, hn1, ?_, ?_⟩
      · rw [resCell1 rfl]
        go_simp
      · have h0 := HO3.out
        rw [hlen] at h0
        have hb : ∀ (u1 u2 : Value), Below (sb + 1) w3 w3 := fun _ _ => Below.refl _ _
        refine OwnI.mono (B := sb + 1) ?_ (by omega)
        repeat' (first | refine ownI_set (by simp; omega) ?_ _ | exact h0)
      · have h0 := HC3.out
        repeat' (first | refine Cur.setNew ?_ (by simp; omega) (by simp; omega) _ | exact h0)
      · have h0 := HOR3.out
        repeat' (first | refine Only.setNew ?_ (by simp) _ | exact h0)


end Go.Proofs.Ytdgaggcjimafbaa
