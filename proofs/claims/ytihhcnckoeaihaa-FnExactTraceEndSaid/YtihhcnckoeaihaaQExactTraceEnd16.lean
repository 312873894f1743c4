/-
  Texts of one proof, merged: TimC, TrcX, TrcV, TrcI, TrcE, TrcB.
-/
import Derived.Test.YtihhcnckoeaihaaQExactTraceEnd2
import Derived.Test.YtihhcnckoeaihaaQExactTraceEnd8
import Derived.Test.YtihhcnckoeaihaaQExactTraceEnd10
import Derived.Test.YtihhcnckoeaihaaQExactTraceEnd11
import Derived.Test.YtihhcnckoeaihaaQExactTraceEnd12
import Derived.Test.YtihhcnckoeaihaaQExactTraceEnd15
import Derived.Great.BuildSlice
import Derived.Laws.CopyOwn
namespace Go.Proofs.Ytihhcnckoeaihaa
open Go.RowKit

set_option linter.unusedVariables false

/-- A load of a whole struct, at the list of a plain region's operations. -/
theorem load_list {P : Program} {ops : Array Oper} {rest : List Oper} {a : Act} {w : World} {Q : Exit → Act → World → Prop} {d : Tmp} {T : TypeId} {x : Operand} {y : TypeId} {p : String} {af : Array Edge} {gd : Option (Nat × Bool)} {c : Nat} {cs : Array Value} {t : TypeId} {fr : Nat × Nat} {ds : TypeDesc}
    (hu : P.underlying T = some ds) (hd : (match ds with | .struct _ | .array _ _ => true | _ => false) = true) (hi : (P.info? T).map (·.size) = some cs.size)
    (hw : Region.wanted ⟨some d, .load T x, y, p, af, gd⟩ (yielded ops a.tmps) = true) (hx : a.eval x = .pointer (some ⟨c, 0, none⟩)) (h : w.heap[c]? = some (.cells cs t fr))
    (k : wpList P ops Q rest (a.put (some d) (.agg cs)) w) : wpList P ops Q (⟨some d, .load T x, y, p, af, gd⟩ :: rest) a w :=
  BigFrame.wpList_want hw fun _ hK => wp_load_row T x rfl c hx t cs fr ds h hu hd hi (hK _ _ k)

/-- A store of a whole row. -/
theorem store_list {P : Program} {ops : Array Oper} {rest : List Oper} {a : Act} {w : World} {Q : Exit → Act → World → Prop} {T : TypeId} {x v : Operand} {y : TypeId} {p : String} {af : Array Edge} {g : Nat} {cells old : Array Value} {t : TypeId}
    (h : w.heap[g]? = some (.cells old t (0, 0))) (hx : a.eval x = .pointer (some ⟨g, 0, none⟩)) (hy : a.eval v = .agg cells)
    (hi : (P.info? T).map (·.size) = some cells.size) (hold : old.size = cells.size) (h1 : cells.all (·.oneCell') = true)
    (k : wpList P ops Q rest a (w.setRow g cells)) : wpList P ops Q (⟨none, .store T x v, y, p, af, none⟩ :: rest) a w :=
  wpList_store_rowTo rfl T x v rfl rfl g cells hx hy t old h hi hold h1 k

end Go.Proofs.Ytihhcnckoeaihaa

namespace Go.Proofs.Ytihhcnckoeaihaa
open Go.RowKit Go.PlainAid

set_option linter.unusedVariables false

theorem cells5 {w : World} {c : Nat} {v0 v1 v2 v3 v4 : Value} {t : TypeId} {fr : Nat × Nat} (h : w.heap[c]? = some (.cells #[v0, v1, v2, v3, v4] t fr)) :
    w.cell? ⟨c, 0, none⟩ = some v0 ∧ w.cell? ⟨c, 1, none⟩ = some v1 ∧ w.cell? ⟨c, 2, none⟩ = some v2 ∧ w.cell? ⟨c, 3, none⟩ = some v3 ∧ w.cell? ⟨c, 4, none⟩ = some v4 := by
  simp [World.cell?, h]

/-- A whole event is loaded from a variable. -/
theorem ld_ev {ops : Array Oper} {rest : List Oper} {a : Act} {w : World} {Q : Exit → Act → World → Prop} {d : Tmp} {x : Operand} {y : TypeId} {p : String} {af : Array Edge} {gd : Option (Nat × Bool)} {c : Nat} {v0 v1 v2 v3 v4 : Value} {ty : TypeId} {fr : Nat × Nat}
    (hw : Region.wanted ⟨some d, .load 58 x, y, p, af, gd⟩ (yielded ops a.tmps) = true) (hx : a.eval x = .pointer (some ⟨c, 0, none⟩)) (h : w.heap[c]? = some (.cells #[v0, v1, v2, v3, v4] ty fr))
    (k : wpList Try.prog ops Q rest (a.put (some d) (.agg #[v0, v1, v2, v3, v4])) w) : wpList Try.prog ops Q (⟨some d, .load 58 x, y, p, af, gd⟩ :: rest) a w :=
  load_list Try.underlying58 rfl (by kernel_rfl) hw hx h k

set_option maxHeartbeats 2000000 in
theorem toEvent_is (t k x y z : Int) (w : World) :
    Calls Try.prog 32 #[.agg #[.int .i64 t, .int .i64 k, .int .i64 x, .int .i64 y, .int .i64 z]] w (Gives (.agg #[.int .i64 t, .int .i64 k, .int .i64 x, .int .i64 y, .int .i64 z]) w) := by
  obtain ⟨w1, hw1⟩ : ∃ u, ((w.alloc (.cells #[.int .i64 t, .int .i64 k, .int .i64 x, .int .i64 y, .int .i64 z] 68)).alloc (.cells #[.int .i64 0, .int .i64 0, .int .i64 0, .int .i64 0, .int .i64 0] 58)).alloc (.cells #[.int .i64 t, .int .i64 0, .int .i64 0, .int .i64 0, .int .i64 0] 58) = u := ⟨_, rfl⟩
  have HB1 : Hid (Below w.heap.size w w1) := by subst hw1; exact (((Below.refl _ _).alloc (Nat.le_refl _) _).alloc (by simp) _).alloc (by simp; omega) _
  have p1 : w1.heap[w.heap.size]? = some (.cells #[.int .i64 t, .int .i64 k, .int .i64 x, .int .i64 y, .int .i64 z] 68) := by subst hw1; exact box3_0 _ _ _ _
  have s1 : w1.heap[w.heap.size + 1]? = some (.cells #[.int .i64 0, .int .i64 0, .int .i64 0, .int .i64 0, .int .i64 0] 58) := by subst hw1; exact box3_1 _ _ _ _
  have o1 : w1.heap[w.heap.size + 1 + 1]? = some (.cells #[.int .i64 t, .int .i64 0, .int .i64 0, .int .i64 0, .int .i64 0] 58) := by subst hw1; exact box3_2 _ _ _ _
  obtain ⟨c0, c1, c2, c3, c4⟩ := cells5 p1
  go_enter Try.func32, Try.ntmps32
  go_wp2_with fail
  refine (toCommand_any _ _ _ _ _).mono ?_
  rintro e w2 ⟨rfl, hb2⟩
  have s2 := keep_block hb2 s1 (lt_of_block s1)
  have o2 := keep_block hb2 o1 (lt_of_block o1)
  have HB2 : Hid (Below w.heap.size w w2) := HB1.out.trans (hb2.mono HB1.out.size)
  clear hb2 s1 o1 p1 hw1 HB1 c0 c1 c2 c3 c4
  obtain ⟨x0, x1, x2, x3, x4⟩ := cells5 o2
  have f1 := thawed o2 1
  have f2 := thawed o2 2
  have f3 := thawed o2 3
  have f4 := thawed o2 4
  have o3 := set_cells (set_cells (set_cells (set_cells o2 1 (.int .i64 k)) 2 (.int .i64 x)) 3 (.int .i64 y)) 4 (.int .i64 z)
  have s3 := (Below.heap_setCell _ ⟨w.heap.size + 1 + 1, 4, none⟩ (.int .i64 z) (w.heap.size + 1) (by simp)).trans ((Below.heap_setCell _ ⟨w.heap.size + 1 + 1, 3, none⟩ (.int .i64 y) (w.heap.size + 1) (by simp)).trans ((Below.heap_setCell _ ⟨w.heap.size + 1 + 1, 2, none⟩ (.int .i64 x) (w.heap.size + 1) (by simp)).trans ((Below.heap_setCell w2 ⟨w.heap.size + 1 + 1, 1, none⟩ (.int .i64 k) (w.heap.size + 1) (by simp)).trans s2)))
  have HB3 : Hid (Below w.heap.size w ((((w2.setCell ⟨w.heap.size + 1 + 1, 1, none⟩ (.int .i64 k)).setCell ⟨w.heap.size + 1 + 1, 2, none⟩ (.int .i64 x)).setCell ⟨w.heap.size + 1 + 1, 3, none⟩ (.int .i64 y)).setCell ⟨w.heap.size + 1 + 1, 4, none⟩ (.int .i64 z))) :=
    (((HB2.out.setCell (by simp; omega) _).setCell (by simp; omega) _).setCell (by simp; omega) _).setCell (by simp; omega) _
  go_wp2_with (first | ((with_reducible refine ld_ev ?_ ?_ o3 ?_); kernel_rfl; kernel_rfl; go_simp) | ((with_reducible refine store_list (cells := #[.int .i64 t, .int .i64 k, .int .i64 x, .int .i64 y, .int .i64 z]) s3 ?_ ?_ ?_ ?_ ?_ ?_); kernel_rfl; kernel_rfl; kernel_rfl; kernel_rfl; kernel_rfl))
  have hr := setRow_same _ _ #[.int .i64 t, .int .i64 k, .int .i64 x, .int .i64 y, .int .i64 z] _ _ s3
  refine bodyPost_ret (v := .agg #[.int .i64 t, .int .i64 k, .int .i64 x, .int .i64 y, .int .i64 z]) (results_cell_row rfl _ _ (w.heap.size + 1) 58 #[.int .i64 t, .int .i64 k, .int .i64 x, .int .i64 y, .int .i64 z] (0, 0) _ rfl hr Try.underlying58 rfl (by kernel_rfl)) rfl ⟨rfl, ?_⟩
  exact below_setRow HB3.out (by omega) _

theorem szEventS_is (ad : Option Addr) (n cap : Nat) (k v : Int) (hn : n ≤ maxLen) (h0 : 0 ≤ k) (hk : k ≤ 1048576) (hv : (if k - n < 0 then -1 else k - n) = v) (w : World) :
    Calls Try.prog 6 #[.slice ad n cap, .int .i64 k] w (Gives (.int .i64 v) w) := by
  have HV := Lib.hid hv
  unfold maxLen at hn
  have e1 : IntKind.i64.wrap (k - (n : Int)) = k - (n : Int) := IntWalk.i64_in _ ⟨by omega, by omega⟩
  clear hv
  by_cases hlt : k - (n : Int) < 0
  · have HE : Hid (v = -1) := by show _ = _; rw [← HV.out]; exact if_pos hlt
    go_enter Try.func6, Try.ntmps6
    go_wp2
    go_ret
    exact ⟨ret_i HE.out.symm, Below.refl _ _⟩
  · have HE : Hid (v = k - n) := by show _ = _; rw [← HV.out]; exact if_neg hlt
    have hge : 0 ≤ k - (n : Int) := by omega
    go_enter Try.func6, Try.ntmps6
    go_wp2
    go_ret
    exact ⟨ret_i HE.out.symm, Below.refl _ _⟩

set_option maxHeartbeats 2000000 in
theorem eqEvent_is (t k x y z : Int) (w : World) :
    Calls Try.prog 38 #[.agg #[.int .i64 t, .int .i64 k, .int .i64 x, .int .i64 y, .int .i64 z], .agg #[.int .i64 t, .int .i64 k, .int .i64 x, .int .i64 y, .int .i64 z]] w (Gives (.bool true) w) := by
  obtain ⟨w1, hw1⟩ : ∃ u, (w.alloc (.cells #[.int .i64 t, .int .i64 k, .int .i64 x, .int .i64 y, .int .i64 z] 58)).alloc (.cells #[.int .i64 t, .int .i64 k, .int .i64 x, .int .i64 y, .int .i64 z] 58) = u := ⟨_, rfl⟩
  have HB1 : Hid (Below w.heap.size w w1) := by subst hw1; exact ((Below.refl _ _).alloc (Nat.le_refl _) _).alloc (by simp) _
  have p1 : w1.heap[w.heap.size]? = some (.cells #[.int .i64 t, .int .i64 k, .int .i64 x, .int .i64 y, .int .i64 z] 58) := by subst hw1; exact heap_alloc2_old _ _ _
  have s1 : w1.heap[w.heap.size + 1]? = some (.cells #[.int .i64 t, .int .i64 k, .int .i64 x, .int .i64 y, .int .i64 z] 58) := by subst hw1; exact heap_alloc2_new _ _ _
  obtain ⟨c0, c1, c2, c3, c4⟩ := cells5 p1
  obtain ⟨d0, d1, d2, d3, d4⟩ := cells5 s1
  have t1 : (t != t) = false := by simp
  go_enter Try.func38, Try.ntmps38
  go_wp2_with fail
  refine (eqCommand_same _ _ _ _ _).mono ?_
  rintro e w2 ⟨rfl, hb2⟩
  have HB2 : Hid (Below w.heap.size w w2) := HB1.out.trans (hb2.mono HB1.out.size)
  clear hb2
  go_wp2
  go_ret
  exact ⟨rfl, HB2.out⟩

set_option maxHeartbeats 2000000 in
/-- Two rows of events that are alike. -/
theorem eqEventS_is {a b : Option Addr} {ca cb : Nat} {l : List Ev} {w : World} {n : Nat} (hn : l.length = n) (ha : evK.Row w a l) (hb : evK.Row w b l) (hl : (n : Int) ≤ 9223372036854775807) :
    Calls Try.prog 12 #[.slice a n ca, .slice b n cb] w (Gives (.bool true) w) := by
  have HN := Lib.hid hn
  have HA := Lib.hid ha
  have HB := Lib.hid hb
  clear hn ha hb
  go_enter Try.func12, Try.ntmps12
  go_wp2_with fail
  go_loopw [5] (fun i wr => ∃ k : Nat, k ≤ n ∧ i = .int .i64 k ∧ Below w.heap.size w wr) (fun i _ => n - (intOf i).toNat)
  case atStart => exact ⟨0, Nat.zero_le _, rfl, Below.refl _ _⟩
  case round =>
    obtain ⟨m, hm, rfl, hbr⟩ := hrel
    have HBR := Lib.hid hbr
    clear hbr
    by_cases hlt : m < n
    · obtain ⟨ba, oa, rfl, a0, a1, a2, a3, a4⟩ := ev_at (HA.out.below HBR.out) (i := m) (by rw [HN.out]; exact hlt)
      obtain ⟨bb, ob, rfl, b0, b1, b2, b3, b4⟩ := ev_at (HB.out.below HBR.out) (i := m) (by rw [HN.out]; exact hlt)
      obtain ⟨e, he⟩ : ∃ e, l.getD m ev0 = e := ⟨_, rfl⟩
      rw [he] at a0 a1 a2 a3 a4 b0 b1 b2 b3 b4
      clear he
      have za0 := fun q : Later wr => q.cell a0
      have za1 := fun q : Later wr => q.cell a1
      have za2 := fun q : Later wr => q.cell a2
      have za3 := fun q : Later wr => q.cell a3
      have za4 := fun q : Later wr => q.cell a4
      have zb0 := fun q : Later wr => q.cell b0
      have zb1 := fun q : Later wr => q.cell b1
      have zb2 := fun q : Later wr => q.cell b2
      have zb3 := fun q : Later wr => q.cell b3
      have zb4 := fun q : Later wr => q.cell b4
      clear a0 a1 a2 a3 a4 b0 b1 b2 b3 b4
      go_wp2_with fail
      refine wp_region_later (by kernel_rfl) (by kernel_rfl) ?_
      repeat (go_big_quiet_step ((go_at_call 38; exact Gives.later _ (eqEvent_is _ _ _ _ _ _))))
      refine wpQuiet_nil ?_
      rintro w2 ⟨zz, hz⟩
      have HB2 : Hid (Below w.heap.size w w2) := HBR.out.trans ((hz ▸ zz.ok : Below wr.heap.size wr w2).mono HBR.out.size)
      clear za0 za1 za2 za3 za4 zb0 zb1 zb2 zb3 zb4 hz zz
      go_wp2
      go_roundw
      case rel => exact ⟨m + 1, by omega, by go_num, HB2.out⟩
      case measure => simp [intOf]; omega
    · go_wp2_with fail
      go_ret
      exact ⟨rfl, HBR.out⟩

set_option maxHeartbeats 2000000 in
set_option maxRecDepth 100000 in
theorem toEventS_is (ad : Option Addr) (n cap : Nat) (zs : List Ev) (hz : zs.length = n) (h1 : n ≤ 3000000) (w : World) (hr : evK.Row w ad zs) :
    Calls Try.prog 10 #[.slice ad n cap] w fun e w' => ∃ a c, e = .returned (.slice a n c) ∧ evK.Own 58 w.heap.size (.slice a n c) zs w' ∧ Below w.heap.size w w' := by
  have HZ := Lib.hid hz
  have HR := Lib.hid hr
  clear hz hr
  obtain ⟨i0, hi, hz0, hz1, hz2⟩ := info_parts infoE
  go_enter Try.func10, Try.ntmps10
  go_wp2_with (at_make; refine wpList_make_full _ rfl _ _ 34 rfl w.heap.size 58 i0 (.agg #[.int .i64 0, .int .i64 0, .int .i64 0, .int .i64 0, .int .i64 0]) 5 Try.underlying34 hi hz0 hz1 _ _ _ _ n rfl rfl rfl rfl (by rw [hz2]; omega) (by unfold maxLen; omega) (Nat.le_refl _) ?_)
  intro w1 hown hgr
  have hb1 : Below w.heap.size w w1 := (Below.refl _ _).grown hgr (Nat.le_refl _) (fun k hk => by cases hk)
  have hO : Hid (evK.Own 58 w.heap.size (.slice (some ⟨w.heap.size, 0, none⟩) n n) (zs.take 0 ++ List.replicate (n - 0) ev0) w1) := by
    show World.ownsRow _ _ _ _ _ _ _
    have hmd : (madeCells #[.int .i64 0, .int .i64 0, .int .i64 0, .int .i64 0, .int .i64 0] (n * 5)).toList = (List.replicate n ev0).flatMap evK.vs := evK.made n
    rw [show (zs.take 0 ++ List.replicate (n - 0) ev0 : List Ev) = List.replicate n ev0 by simp, List.length_replicate, ← hmd]
    exact hown
  have HB1 := Lib.hid hb1
  clear hgr hown hb1
  go_wp2_with fail
  go_loopw [4] (fun i wr => ∃ k : Nat, k ≤ n ∧ i = .int .i64 k ∧ evK.Own 58 w.heap.size (.slice (some ⟨w.heap.size, 0, none⟩) n n) (zs.take k ++ List.replicate (n - k) ev0) wr ∧ Below w.heap.size w wr) (fun i _ => n - (intOf i).toNat)
  case atStart => exact ⟨0, Nat.zero_le _, rfl, hO.out, HB1.out⟩
  case round =>
    obtain ⟨m, hm, rfl, hown, hbk⟩ := hrel
    have HB2 := Lib.hid hbk
    have HO2 := Lib.hid hown
    clear hbk hO HB1 hown
    by_cases hlt : m < n
    · have hlen : (zs.take m ++ List.replicate (n - m) ev0).length = n := by have := HZ.out; simp; omega
      have HL := Lib.hid hlen
      have HST := Lib.hid (take_setG ev0 zs n m HZ.out hlt)
      obtain ⟨pb, off, rfl, a0, a1, a2, a3, a4⟩ := ev_at (HR.out.below HB2.out) (i := m) (by rw [HZ.out]; exact hlt)
      obtain ⟨e, he⟩ : ∃ e, zs.getD m ev0 = e := ⟨_, rfl⟩
      rw [he] at a0 a1 a2 a3 a4 HST
      clear hlen he
      go_wp2_with fail
      refine (toEvent_is e.t e.k e.x e.y e.z _).mono ?_
      rintro e' w3 ⟨rfl, hb3⟩
      have HO3 : Hid (evK.Own 58 w.heap.size (.slice (some ⟨w.heap.size, 0, none⟩) n n) (zs.take m ++ List.replicate (n - m) ev0) w3) := HO2.out.below hb3
      have HB3 : Hid (Below w.heap.size w w3) := HB2.out.trans (hb3.mono HB2.out.size)
      obtain ⟨g, hg, hc, hf, hB, hgl⟩ := HO3.out.at (i := m) (by rw [HL.out]; exact hlt)
      obtain rfl : w.heap.size = g := by simpa using hg
      obtain ⟨c0, c1, c2, c3, c4⟩ := ev_cells hc
      have f0 := hf (m * 5)
      have f1 := hf (m * 5 + 1)
      have f2 := hf (m * 5 + 2)
      have f3 := hf (m * 5 + 3)
      have f4 := hf (m * 5 + 4)
      obtain ⟨u0, k0⟩ : ∃ u, w3.cell? ⟨w.heap.size, m * 5, none⟩ = some u := ⟨_, c0⟩
      obtain ⟨u1, k1⟩ : ∃ u, w3.cell? ⟨w.heap.size, m * 5 + 1, none⟩ = some u := ⟨_, c1⟩
      obtain ⟨u2, k2⟩ : ∃ u, w3.cell? ⟨w.heap.size, m * 5 + 2, none⟩ = some u := ⟨_, c2⟩
      obtain ⟨u3, k3⟩ : ∃ u, w3.cell? ⟨w.heap.size, m * 5 + 3, none⟩ = some u := ⟨_, c3⟩
      obtain ⟨u4, k4⟩ : ∃ u, w3.cell? ⟨w.heap.size, m * 5 + 4, none⟩ = some u := ⟨_, c4⟩
      clear c0 c1 c2 c3 c4 hf hc a0 a1 a2 a3 a4 hb3 HB2 HO2 hg
      go_wp2_with fail
      have R : evK.Own 58 w.heap.size (.slice (some ⟨w.heap.size, 0, none⟩) n n) (zs.take (m + 1) ++ List.replicate (n - (m + 1)) ev0) (putW w3 w.heap.size (m * 5) (evK.vs e)) := by
        rw [← HST.out]
        exact HO3.out.put HL.out hlt e
      go_roundw
      case rel => exact ⟨m + 1, by omega, by go_num, R, putW_below (Nat.le_refl _) (evK.vs e) _ _ (m * 5) HB3.out⟩
      case measure => simp [intOf]; omega
    · obtain rfl : m = n := by omega
      go_wp2_with fail
      go_ret
      have hO2 := HO2.out
      have hzk := HZ.out
      rw [Nat.sub_self, List.replicate_zero, List.append_nil, List.take_of_length_le (by omega)] at hO2
      exact ⟨_, _, rfl, hO2, HB2.out⟩

set_option maxHeartbeats 4000000 in
set_option maxRecDepth 100000 in
/-- Marks are written over a row of the call's own: only its block turns. -/
theorem markEventS_is {B : Nat} {a : Option Addr} {c : Nat} {l : List Ev} {w : World} {n : Nat} (hn : l.length = n) (h : evK.Own 58 B (.slice a n c) l w) (k0 : Nat) (h1 : k0 + n ≤ 1000000000) (g0 : Nat) (hg0 : ∀ x, a = some x → x.block = g0) :
    Calls Try.prog 16 #[.slice a n c, .int .i64 k0] w fun e w' => e = .returned (.int .i64 ((k0 + 5 * n : Nat) : Int)) ∧ Only g0 w w' := by
  have HN := Lib.hid hn
  have HO := Lib.hid h
  have HG0 := Lib.hid hg0
  clear hn h hg0
  go_enter Try.func16, Try.ntmps16
  go_wp2_with fail
  go_loopw [1, 5] (fun q i wr => ∃ k : Nat, k ≤ n ∧ i = .int .i64 k ∧ q = .int .i64 ((k0 + 5 * k : Nat) : Int) ∧ (∃ l' : List Ev, l'.length = n ∧ evK.Own 58 B (.slice a n c) l' wr) ∧ Only g0 w wr) (fun _ i _ => n - (intOf i).toNat)
  case atStart => exact ⟨0, Nat.zero_le _, rfl, rfl, ⟨l, HN.out, HO.out⟩, Only.refl _ _⟩
  case round =>
    obtain ⟨m, hm, rfl, rfl, ⟨l', hl', hown⟩, hok⟩ := hrel
    have HO2 := Lib.hid hown
    have HK2 := Lib.hid hok
    have HL := Lib.hid hl'
    clear hown hok hl' HO
    by_cases hlt : m < n
    · obtain ⟨g, rfl, hc, hf, hB, hgl⟩ := HO2.out.at (i := m) (by rw [HL.out]; exact hlt)
      have HGG : Hid (g = g0) := HG0.out _ rfl
      obtain ⟨q, hq⟩ : ∃ q : Int, ((k0 + 5 * m : Nat) : Int) = q := ⟨_, rfl⟩
      have HS : Hid (((k0 + 5 * (m + 1) : Nat) : Int) = q + 1 + 1 + 1 + 1 + 1) := by show _ = _; omega
      have hq0 : 0 ≤ q ∧ q ≤ 8000000000 := by omega
      have e1 : IntKind.i64.wrap (q + 1) = q + 1 := IntWalk.i64_in _ (by omega)
      have e2 : IntKind.i64.wrap (q + 1 + 1) = q + 1 + 1 := IntWalk.i64_in _ (by omega)
      have e3 : IntKind.i64.wrap (q + 1 + 1 + 1) = q + 1 + 1 + 1 := IntWalk.i64_in _ (by omega)
      have e4 : IntKind.i64.wrap (q + 1 + 1 + 1 + 1) = q + 1 + 1 + 1 + 1 := IntWalk.i64_in _ (by omega)
      have e5 : IntKind.i64.wrap (q + 1 + 1 + 1 + 1 + 1) = q + 1 + 1 + 1 + 1 + 1 := IntWalk.i64_in _ (by omega)
      rw [hq]
      clear hq
      obtain ⟨c0, c1, c2, c3, c4⟩ := ev_cells hc
      have f0 := hf (m * 5)
      have f1 := hf (m * 5 + 1)
      have f2 := hf (m * 5 + 2)
      have f3 := hf (m * 5 + 3)
      have f4 := hf (m * 5 + 4)
      obtain ⟨v0, k0'⟩ : ∃ u, wr.cell? ⟨g, m * 5, none⟩ = some u := ⟨_, c0⟩
      obtain ⟨v1, k1⟩ : ∃ u, wr.cell? ⟨g, m * 5 + 1, none⟩ = some u := ⟨_, c1⟩
      obtain ⟨v2, k2⟩ : ∃ u, wr.cell? ⟨g, m * 5 + 2, none⟩ = some u := ⟨_, c2⟩
      obtain ⟨v3, k3⟩ : ∃ u, wr.cell? ⟨g, m * 5 + 3, none⟩ = some u := ⟨_, c3⟩
      obtain ⟨v4, k4⟩ : ∃ u, wr.cell? ⟨g, m * 5 + 4, none⟩ = some u := ⟨_, c4⟩
      clear c0 c1 c2 c3 c4 hf hc
      go_wp2_with fail
      have R2 : Hid (evK.Own 58 B (.slice (some ⟨g, 0, none⟩) n c) (l'.set m ⟨q, q + 1, q + 1 + 1, q + 1 + 1 + 1, q + 1 + 1 + 1 + 1⟩) (putW wr g (m * 5) (evK.vs ⟨q, q + 1, q + 1 + 1, q + 1 + 1 + 1, q + 1 + 1 + 1 + 1⟩))) :=
        HO2.out.put HL.out hlt _
      have HK3 : Hid (Only g0 w (putW wr g (m * 5) (evK.vs ⟨q, q + 1, q + 1 + 1, q + 1 + 1 + 1, q + 1 + 1 + 1 + 1⟩))) :=
        ((((HK2.out.setCell (p := ⟨g, m * 5, none⟩) HGG.out _).setCell (p := ⟨g, m * 5 + 1, none⟩) HGG.out _).setCell (p := ⟨g, m * 5 + 2, none⟩) HGG.out _).setCell (p := ⟨g, m * 5 + 3, none⟩) HGG.out _).setCell (p := ⟨g, m * 5 + 4, none⟩) HGG.out _
      go_roundw
      case rel => exact ⟨m + 1, by omega, by go_num, by rw [HS.out], ⟨_, by rw [List.length_set]; exact HL.out, R2.out⟩, HK3.out⟩
      case measure => simp [intOf]; omega
    · obtain rfl : m = n := by omega
      go_wp2_with fail
      go_ret
      exact ⟨rfl, HK2.out⟩

end Go.Proofs.Ytihhcnckoeaihaa

namespace Go.Proofs.Ytihhcnckoeaihaa
open Go.RowKit Go.PlainAid

set_option linter.unusedVariables false

/-- What spec.TraceEnd answers. -/
def EndL (g0 B g2 g3 : Int) (N : Nat) (L : List Ev) : List Bk := if endOk g0 B g2 g3 N L = true then stL N L else []

def EndP (g0 B g2 g3 : Int) (N : Nat) (L : List Ev) : Int := if endOk g0 B g2 g3 N L = true then stP L else 0

def SEnd : Prop := ∀ (g0 B g2 g3 : Int) (a : Option Addr) (n c : Nat) (L : List Ev) (N : Nat) (hN : bankN g0 B g2 g3 = (N : Int)) (n' : Nat) (l' : List Bk) (pw' : Int) (v : Bool) (hn' : l'.length = n') (hl' : EndL g0 B g2 g3 N L = l') (hp' : EndP g0 B g2 g3 N L = pw') (hv : (endOk g0 B g2 g3 N L && decide (GeoOk g0 B g2 g3)) = v) (hl : L.length = n) (h1 : n ≤ 3000000) (w : World) (hr : evK.Row w a L),
    Calls Try.prog 13 #[.agg #[.int .i64 g0, .int .i64 B, .int .i64 g2, .int .i64 g3], .slice a n c] w (GivesA n' l' pw' v w)

end Go.Proofs.Ytihhcnckoeaihaa

namespace Go.Proofs.Ytihhcnckoeaihaa

set_option linter.unusedVariables false

def IEnd : Prop := ∀ (g0 B g2 g3 : Int) (a : Option Addr) (n c : Nat) (L : List Ev) (N : Nat) (hN : bankN g0 B g2 g3 = (N : Int)) (n' : Nat) (l' : List Bk) (pw' : Int) (v : Bool) (hn' : l'.length = n') (hl' : EndL g0 B g2 g3 N L = l') (hp' : EndP g0 B g2 g3 N L = pw') (hv : (endOk g0 B g2 g3 N L && decide (GeoOk g0 B g2 g3)) = v) (hl : L.length = n) (h1 : n ≤ 3000000) (hc : n ≤ c) (hnc : a = none → c = 0) (w : World) (hr : evK.Row w a L), Calls Try.prog 14 #[.agg #[.int .i64 g0, .int .i64 B, .int .i64 g2, .int .i64 g3], .slice a n c] w (GivesA n' l' pw' v w)

end Go.Proofs.Ytihhcnckoeaihaa

namespace Go.Proofs.Ytihhcnckoeaihaa
open Go.RowKit Go.PlainAid

set_option linter.unusedVariables false

theorem below_allocT {w : World} (o : Obj) : Below w.heap.size w (w.alloc o) := (Below.refl _ _).alloc (Nat.le_refl _) _

set_option maxHeartbeats 16000000 in
set_option maxRecDepth 100000 in
theorem specEnd_is : SEnd := by
  intro g0 B g2 g3 a n c L N hN n' le pwe vv hn' hl' hp' hv hl h1 w hr
  obtain ⟨w1, hw1⟩ : ∃ u, (w.alloc (.cells #[.int .i64 g0, .int .i64 B, .int .i64 g2, .int .i64 g3] 30)).alloc (.cells #[.slice none 0 0, .int .i64 0] 40) = u := ⟨_, rfl⟩
  have HB1 : Hid (Below w.heap.size w w1) := by subst hw1; exact ((Below.refl _ _).alloc (Nat.le_refl _) _).alloc (by simp) _
  have g1 : w1.heap[w.heap.size]? = some (.cells #[.int .i64 g0, .int .i64 B, .int .i64 g2, .int .i64 g3] 30) := by subst hw1; exact heap_alloc2_old _ _ _
  have s1 : w1.heap[w.heap.size + 1]? = some (.cells #[.slice none 0 0, .int .i64 0] 40) := by subst hw1; exact heap_alloc2_new _ _ _
  have HS1 : Hid (w.heap.size + 1 < w1.heap.size) := lt_of_block s1
  have HR := Lib.hid (hr.below HB1.out)
  have HL := Lib.hid hl
  have HNN := Lib.hid hN
  have HNP := Lib.hid hn'
  have HLE := Lib.hid hl'
  have HPE := Lib.hid hp'
  have HVV := Lib.hid hv
  have hN8 : N ≤ 8 := by have := bankN_range g0 B g2 g3; omega
  obtain ⟨c0, c1, c2, c3⟩ := cells4 g1
  clear hr hl hN hn' hl' hp' hv
  go_enter Try.func13, Try.ntmps13
  go_wp2_with fail
  refine (specRankNew_is _ _ _ _ N HNN.out _).mono ?_
  rintro e w2 ⟨ao, co, rfl, own2, hb2⟩
  have gb2 := keep_block hb2 g1 (lt_of_block g1)
  have s2 := keep_block hb2 s1 (lt_of_block s1)
  have HB2 : Hid (Below w1.heap.size w1 w2) := hb2
  have HS2 : Hid (w1.heap.size ≤ w2.heap.size) := hb2.size
  have HAA : Hid (∀ x, ao = some x → x.block < w2.heap.size) := fun x hx => (own2.lo x hx).2
  clear hb2 c0 c1 c2 c3
  have hb3 : Below w2.heap.size w2 (w2.alloc (.cells #[.slice ao N co, .int .i64 0] 40)) := (Below.refl _ _).alloc (Nat.le_refl _) _
  have ST : Hid ((w2.alloc (.cells #[.slice ao N co, .int .i64 0] 40)).heap[w.heap.size]? = some (.cells #[.int .i64 g0, .int .i64 B, .int .i64 g2, .int .i64 g3] 30) ∧ (w2.alloc (.cells #[.slice ao N co, .int .i64 0] 40)).heap[w.heap.size + 1]? = some (.cells #[.slice none 0 0, .int .i64 0] 40) ∧
      (w2.alloc (.cells #[.slice ao N co, .int .i64 0] 40)).heap[w2.heap.size]? = some (.cells #[.slice ao N co, .int .i64 0] 40) ∧ OwnK w1.heap.size (.slice ao N co) (List.replicate N bk0) (w2.alloc (.cells #[.slice ao N co, .int .i64 0] 40)) ∧ Below w1.heap.size w1 (w2.alloc (.cells #[.slice ao N co, .int .i64 0] 40)) ∧ ∀ x, ao = some x → x.block ≠ w2.heap.size) :=
    ⟨keep_block hb3 gb2 (lt_of_block gb2), keep_block hb3 s2 (lt_of_block s2), heap_alloc_new _ _, own2.below hb3, HB2.out.trans (hb3.mono HB2.out.size), fun x hx => by have := HAA.out x hx; omega⟩
  clear hb3 own2 gb2 s2 HB2
  go_wp2_with fail
  generalize (w2.alloc (.cells #[.slice ao N co, .int .i64 0] 40)) = w3 at ST ⊢
  go_loopw [7] (fun i wr => ∃ k : Nat, k ≤ n ∧ i = .int .i64 k ∧ endOk g0 B g2 g3 N (L.take k) = true ∧ wr.heap[w.heap.size]? = some (.cells #[.int .i64 g0, .int .i64 B, .int .i64 g2, .int .i64 g3] 30) ∧ wr.heap[w.heap.size + 1]? = some (.cells #[.slice none 0 0, .int .i64 0] 40) ∧
      (∃ (aa : Option Addr) (cc : Nat), wr.heap[w2.heap.size]? = some (.cells #[.slice aa N cc, .int .i64 (stP (L.take k))] 40) ∧ OwnK w1.heap.size (.slice aa N cc) (stL N (L.take k)) wr ∧ (∀ x, aa = some x → x.block ≠ w2.heap.size)) ∧ Below w1.heap.size w1 wr) (fun i _ => n - (intOf i).toNat)
  case atStart => exact ⟨0, Nat.zero_le _, rfl, rfl, ST.out.1, ST.out.2.1, ⟨ao, co, ST.out.2.2.1, ST.out.2.2.2.1, ST.out.2.2.2.2.2⟩, ST.out.2.2.2.2.1⟩
  case round =>
    clear ST HAA
    obtain ⟨m, hm, rfl, hend, gr, sr, ⟨aa, cc, rr, ownr, hne⟩, hbr⟩ := hrel
    have HEND := Lib.hid hend
    have HON := Lib.hid ownr
    have HBR := Lib.hid hbr
    have HNE := Lib.hid hne
    clear hend ownr hbr hne
    by_cases hlt : m < n
    case pos =>
      have hml : m < L.length := by rw [HL.out]; exact hlt
      have HT := Lib.hid (take_snoc hml)
      have HD := Lib.hid (drop_cons hml)
      obtain ⟨b, off, rfl, a0, a1, a2, a3, a4⟩ := ev_at (HR.out.below HBR.out) (i := m) hml
      obtain ⟨e, he⟩ : ∃ e, L.getD m ev0 = e := ⟨_, rfl⟩
      rw [he] at a0 a1 a2 a3 a4 HT HD
      clear he a0
      obtain ⟨v, hv⟩ : ∃ v, allowR g0 B g2 g3 (stL N (L.take m)) (stP (L.take m)) e.k e.x e.y e.z = v := ⟨_, rfl⟩
      obtain ⟨l', hl'⟩ : ∃ l', afterL g0 B g2 g3 (stL N (L.take m)) (stP (L.take m)) e.k e.x e.y e.z = l' := ⟨_, rfl⟩
      obtain ⟨pw', hp'⟩ : ∃ pw', afterP g0 B g2 g3 (stL N (L.take m)) (stP (L.take m)) e.k e.x e.y e.z = pw' := ⟨_, rfl⟩
      have HV := Lib.hid hv
      have HLP := Lib.hid hl'
      have HPP := Lib.hid hp'
      have NEXT : Hid (allowR g0 B g2 g3 (stL N (L.take m)) (stP (L.take m)) e.k e.x e.y e.z = true → l' = stL N (L.take (m + 1)) ∧ pw' = stP (L.take (m + 1))) := fun h => by
        rw [HT.out, stL_snoc, stP_snoc, ← hl', ← hp']
        exact ⟨if_pos h, if_pos h⟩
      have STOP : Hid (allowR g0 B g2 g3 (stL N (L.take m)) (stP (L.take m)) e.k e.x e.y e.z = false → le = [] ∧ pwe = 0 ∧ vv = false ∧ n' = 0) := fun h => by
        have hno : endOk g0 B g2 g3 N L = false := by
          have h1 := HEND.out
          unfold endOk at h1 ⊢
          have h2 : L = L.take m ++ (e :: L.drop (m + 1)) := by rw [← HD.out, List.take_append_drop]
          rw [h2, endF_append, h1]
          show (true && (allowR g0 B g2 g3 (stL N ([] ++ L.take m)) (stP ([] ++ L.take m)) e.k e.x e.y e.z && _)) = false
          rw [List.nil_append, h]
          rfl
        have h1 : le = [] := by rw [← HLE.out]; exact if_neg (by rw [hno]; simp)
        have h2 : pwe = 0 := by rw [← HPE.out]; exact if_neg (by rw [hno]; simp)
        refine ⟨h1, h2, by rw [← HVV.out, hno]; rfl, by rw [← HNP.out, h1]; rfl⟩
      have GO : Hid (allowR g0 B g2 g3 (stL N (L.take m)) (stP (L.take m)) e.k e.x e.y e.z = true → endOk g0 B g2 g3 N (L.take (m + 1)) = true) := fun h => by
        have h1 := HEND.out
        rw [HT.out]
        unfold endOk at h1 ⊢
        rw [endF_append, h1]
        show (true && (allowR g0 B g2 g3 (stL N ([] ++ L.take m)) (stP ([] ++ L.take m)) e.k e.x e.y e.z && true)) = true
        rw [List.nil_append, h]
        rfl
      clear hv hl' hp' HD
      replace a1 := Lib.hid a1
      replace a2 := Lib.hid a2
      replace a3 := Lib.hid a3
      replace a4 := Lib.hid a4
      go_wp2_with fail
      refine wp_region_flowV (fun k => match k with | 0 => some (.agg #[.int .i64 g0, .int .i64 B, .int .i64 g2, .int .i64 g3]) | 1 => some (.agg #[.slice aa N cc, .int .i64 (stP (L.take m))]) | 2 => some (.slice (some ⟨b, off, none⟩) n c) | 3 => some (.int .i64 (m : Int)) | 4 => some (.pointer (some ⟨b, off + m * 5, none⟩)) | 5 => some (.pointer (some ⟨b, off + m * 5 + 1, none⟩)) | 6 => some (.agg #[.int .i64 e.k, .int .i64 e.x, .int .i64 e.y, .int .i64 e.z]) | 10 => some (.bool v) | 13 => some (.bool v) | _ => none) (fun listed x u => FactW 7 8 (fun q u => ∃ ab cb, q = .tuple #[.agg #[.slice ab N cb, .int .i64 pw'], .bool v] ∧ OwnK (wr.heap.size) (.slice ab N cb) l' u) listed x u ∧ FactW 8 9 (fun q u => ∃ ab cb, q = .tuple #[.agg #[.slice ab N cb, .int .i64 pw'], .bool v] ∧ OwnK (wr.heap.size) (.slice ab N cb) l' u) listed x u ∧ Fact 8 (fun q => ∃ (ab : Option Addr) (cb : Nat), q = .tuple #[.agg #[.slice ab N cb, .int .i64 pw'], .bool v]) listed x ∧ FactW 9 12 (fun q u => ∃ ab cb, q = .agg #[.slice ab N cb, .int .i64 pw'] ∧ OwnK (wr.heap.size) (.slice ab N cb) l' u) listed x u ∧ MadeR 11 12 (wr.heap.size) N l' pw' listed x u) (upd (upd (upd (upd (upd (upd (upd (upd (upd (upd (upd (upd (upd (fun _ => undef) 0 u19) 1 u20) 2 u21) 3 u22) 4 u23) 5 u24) 6 u25) 7 u26) 8 u18) 9 u27) 10 u28) 11 u8) 13 u9) (by kernel_rfl) (by kernel_rfl) ?hx ?hS ?hs ?he
      case hx => simp only [putsX, Act.put, List.setIfInBounds_toArray, List.set_cons_zero, List.set_cons_succ, upd, Nat.reduceEqDiff, reduceIte]
      case hS => exact ⟨FactW.zero _ _ _ _ _ _, FactW.zero _ _ _ _ _ _, Fact.zero _ _ _ _, FactW.zero _ _ _ _ _ _, MadeR.zero _ _ _ _ _ _ _ _ _⟩
      case hs =>
        simp only [flowSteps]
        refine ⟨?s0, ?s1, ?s2, ?s3, ?s4, ?s5, ?s6, ?s7, ?s8, ?s9, ?s10, ?s11, ?s12, ?s13, trivial⟩
        case s0 =>
          intro listed bb u hsz hn hwt hinv
          obtain ⟨x, rfl, hC, hU, h7, h8, p8, h9, hM⟩ := hinv
          simp only [putsX, Act.put, List.setIfInBounds_toArray, List.set_cons_zero, List.set_cons_succ]
          obtain ⟨c0, c1, c2, c3⟩ := cells4 (keep_block hC gr (lt_of_block gr))
          go_wp2_with fail
          refine stepQ_normal ⟨trivial, upd x 0 (.agg #[.int .i64 g0, .int .i64 B, .int .i64 g2, .int .i64 g3]), ?_, hC, hU.step (fun _ h => Option.some.inj h), h7.keep (by decide) (by decide) _ id, h8.keep (by decide) (by decide) _ id, p8.keep (by decide) _, h9.keep (by decide) (by decide) _ id, hM.keep (by decide) (by decide) _ (Below.refl _ _)⟩
          simp only [upd]
          rfl
        case s1 =>
          intro listed bb u hsz hn hwt hinv
          obtain ⟨x, rfl, hC, hU, h7, h8, p8, h9, hM⟩ := hinv
          simp only [putsX, Act.put, List.setIfInBounds_toArray, List.set_cons_zero, List.set_cons_succ]
          obtain ⟨d0, d1⟩ := cells2 (keep_block hC rr (lt_of_block rr))
          go_wp2_with fail
          refine stepQ_normal ⟨trivial, upd x 1 (.agg #[.slice aa N cc, .int .i64 (stP (L.take m))]), ?_, hC, hU.step (fun _ h => Option.some.inj h), h7.keep (by decide) (by decide) _ id, h8.keep (by decide) (by decide) _ id, p8.keep (by decide) _, h9.keep (by decide) (by decide) _ id, hM.keep (by decide) (by decide) _ (Below.refl _ _)⟩
          simp only [upd]
          rfl
        case s2 =>
          intro listed bb u hsz hn hwt hinv
          obtain ⟨x, rfl, hC, hU, h7, h8, p8, h9, hM⟩ := hinv
          simp only [putsX, Act.put, List.setIfInBounds_toArray, List.set_cons_zero, List.set_cons_succ]
          go_wp2_with fail
          refine stepQ_normal ⟨trivial, upd x 2 (.slice (some ⟨b, off, none⟩) n c), ?_, hC, hU.step (fun _ h => Option.some.inj h), h7.keep (by decide) (by decide) _ id, h8.keep (by decide) (by decide) _ id, p8.keep (by decide) _, h9.keep (by decide) (by decide) _ id, hM.keep (by decide) (by decide) _ (Below.refl _ _)⟩
          simp only [upd]
          rfl
        case s3 =>
          intro listed bb u hsz hn hwt hinv
          obtain ⟨x, rfl, hC, hU, h7, h8, p8, h9, hM⟩ := hinv
          simp only [putsX, Act.put, List.setIfInBounds_toArray, List.set_cons_zero, List.set_cons_succ]
          go_wp2_with fail
          refine stepQ_normal ⟨trivial, upd x 3 (.int .i64 (m : Int)), ?_, hC, hU.step (fun _ h => Option.some.inj h), h7.keep (by decide) (by decide) _ id, h8.keep (by decide) (by decide) _ id, p8.keep (by decide) _, h9.keep (by decide) (by decide) _ id, hM.keep (by decide) (by decide) _ (Below.refl _ _)⟩
          simp only [upd]
          rfl
        case s4 =>
          intro listed bb u hsz hn hwt hinv
          obtain ⟨x, rfl, hC, hU, h7, h8, p8, h9, hM⟩ := hinv
          have f2 := Lib.hid (hU 2 _ rfl (hwt 2 (by kernel_rfl)))
          have f3 := Lib.hid (hU 3 _ rfl (hwt 3 (by kernel_rfl)))
          simp only [putsX, Act.put, List.setIfInBounds_toArray, List.set_cons_zero, List.set_cons_succ]
          rw [f2.out]
          rw [f3.out]
          go_wp2_with fail
          refine stepQ_normal ⟨trivial, upd x 4 (.pointer (some ⟨b, off + m * 5, none⟩)), ?_, hC, hU.step (fun _ h => Option.some.inj h), h7.keep (by decide) (by decide) _ id, h8.keep (by decide) (by decide) _ id, p8.keep (by decide) _, h9.keep (by decide) (by decide) _ id, hM.keep (by decide) (by decide) _ (Below.refl _ _)⟩
          simp only [upd]
          simp only [f2.out, f3.out]
          (try rfl)
        case s5 =>
          intro listed bb u hsz hn hwt hinv
          obtain ⟨x, rfl, hC, hU, h7, h8, p8, h9, hM⟩ := hinv
          have f4 := Lib.hid (hU 4 _ rfl (hwt 4 (by kernel_rfl)))
          simp only [putsX, Act.put, List.setIfInBounds_toArray, List.set_cons_zero, List.set_cons_succ]
          rw [f4.out]
          go_wp2_with fail
          refine stepQ_normal ⟨trivial, upd x 5 (.pointer (some ⟨b, off + m * 5 + 1, none⟩)), ?_, hC, hU.step (fun _ h => Option.some.inj h), h7.keep (by decide) (by decide) _ id, h8.keep (by decide) (by decide) _ id, p8.keep (by decide) _, h9.keep (by decide) (by decide) _ id, hM.keep (by decide) (by decide) _ (Below.refl _ _)⟩
          simp only [upd]
          simp only [f4.out]
          (try rfl)
        case s6 =>
          intro listed bb u hsz hn hwt hinv
          obtain ⟨x, rfl, hC, hU, h7, h8, p8, h9, hM⟩ := hinv
          have f5 := Lib.hid (hU 5 _ rfl (hwt 5 (by kernel_rfl)))
          simp only [putsX, Act.put, List.setIfInBounds_toArray, List.set_cons_zero, List.set_cons_succ]
          rw [f5.out]
          have e1 := (hC.cell (World.block_lt_of_cell? _ _ a1.out)).trans a1.out
          have e2 := (hC.cell (World.block_lt_of_cell? _ _ a2.out)).trans a2.out
          have e3 := (hC.cell (World.block_lt_of_cell? _ _ a3.out)).trans a3.out
          have e4 := (hC.cell (World.block_lt_of_cell? _ _ a4.out)).trans a4.out
          go_wp2_with fail
          refine stepQ_normal ⟨trivial, upd x 6 (.agg #[.int .i64 e.k, .int .i64 e.x, .int .i64 e.y, .int .i64 e.z]), ?_, hC, hU.step (fun _ h => Option.some.inj h), h7.keep (by decide) (by decide) _ id, h8.keep (by decide) (by decide) _ id, p8.keep (by decide) _, h9.keep (by decide) (by decide) _ id, hM.keep (by decide) (by decide) _ (Below.refl _ _)⟩
          simp only [upd]
          simp only [f5.out]
          (try rfl)
        case s7 =>
          intro listed bb u hsz hn hwt hinv
          obtain ⟨x, rfl, hC, hU, h7, h8, p8, h9, hM⟩ := hinv
          have f0 := Lib.hid (hU 0 _ rfl (hwt 0 (by kernel_rfl)))
          have f1 := Lib.hid (hU 1 _ rfl (hwt 1 (by kernel_rfl)))
          have f6 := Lib.hid (hU 6 _ rfl (hwt 6 (by kernel_rfl)))
          simp only [putsX, Act.put, List.setIfInBounds_toArray, List.set_cons_zero, List.set_cons_succ]
          have hcall : Calls Try.prog 39 #[x 0, x 1, x 6] u (GivesA N l' pw' v u) := by rw [f0.out, f1.out, f6.out]; exact specAfter_is g0 B g2 g3 aa N cc (stL N (L.take m)) (stP (L.take m)) e.k e.x e.y e.z v l' pw' HV.out HLP.out HPP.out (stL_length _ _) (by omega) (HON.out.none) _ (HON.out.row.below hC)
          go_wp2_with fail
          refine hcall.mono ?_
          rintro e' u' ⟨ab, cb, rfl, own, hb⟩
          go_wp2_with fail
          refine stepQ_normal ⟨trivial, upd x 7 (.tuple #[.agg #[.slice ab N cb, .int .i64 pw'], .bool v]), ?_, hC.trans (hb.mono hC.size), hU.step (fun _ h => by cases h), FactW.new ⟨ab, cb, rfl, own.mono hC.size⟩, h8.keep (by decide) (by decide) _ (fun ⟨b1, b2, b3, b4⟩ => ⟨b1, b2, b3, b4.below (hb)⟩), p8.keep (by decide) _, h9.keep (by decide) (by decide) _ (fun ⟨b1, b2, b3, b4⟩ => ⟨b1, b2, b3, b4.below (hb)⟩), hM.keep (by decide) (by decide) _ (hb)⟩
          simp only [upd]
          rfl
        case s8 =>
          intro listed bb u hsz hn hwt hinv
          obtain ⟨x, rfl, hC, hU, h7, h8, p8, h9, hM⟩ := hinv
          simp only [putsX, Act.put, List.setIfInBounds_toArray, List.set_cons_zero, List.set_cons_succ]
          obtain ⟨ab, cb, fp, hown⟩ := h7 (hwt 7 (by kernel_rfl)) hn
          go_wp2_with fail
          refine stepQ_normal ⟨trivial, upd x 8 (x 7), ?_, hC, hU.step (fun _ h => by cases h), FactW.call (by rw [hsz]; decide), FactW.new ⟨ab, cb, fp, hown⟩, Fact.new ⟨ab, cb, fp⟩, h9.keep (by decide) (by decide) _ id, hM.keep (by decide) (by decide) _ (Below.refl _ _)⟩
          simp only [upd]
          rfl
        case s9 =>
          intro listed bb u hsz hn hwt hinv
          obtain ⟨x, rfl, hC, hU, h7, h8, p8, h9, hM⟩ := hinv
          simp only [putsX, Act.put, List.setIfInBounds_toArray, List.set_cons_zero, List.set_cons_succ]
          obtain ⟨ab, cb, fp, hown⟩ := h8 (hwt 8 (by kernel_rfl)) hn
          have FP := Lib.hid fp
          rw [FP.out]
          clear fp
          go_wp2_with fail
          refine stepQ_normal ⟨trivial, upd x 9 (.agg #[.slice ab N cb, .int .i64 pw']), ?_, hC, hU.step (fun _ h => by cases h), h7.keep (by decide) (by decide) _ id, FactW.call (by rw [hsz]; decide), p8.keep (by decide) _, FactW.new ⟨ab, cb, rfl, hown⟩, hM.keep (by decide) (by decide) _ (Below.refl _ _)⟩
          simp only [upd]
          simp only [FP.out]
          (try rfl)
        case s10 =>
          intro listed bb u hsz hn hwt hinv
          obtain ⟨x, rfl, hC, hU, h7, h8, p8, h9, hM⟩ := hinv
          simp only [putsX, Act.put, List.setIfInBounds_toArray, List.set_cons_zero, List.set_cons_succ]
          obtain ⟨ab, cb, fp⟩ := p8 (hwt 8 (by kernel_rfl))
          have FP := Lib.hid fp
          rw [FP.out]
          clear fp
          go_wp2_with fail
          refine stepQ_normal ⟨trivial, upd x 10 (.bool v), ?_, hC, hU.step (fun _ h => Option.some.inj h), h7.keep (by decide) (by decide) _ id, h8.keep (by decide) (by decide) _ id, p8.keep (by decide) _, h9.keep (by decide) (by decide) _ id, hM.keep (by decide) (by decide) _ (Below.refl _ _)⟩
          simp only [upd]
          simp only [FP.out]
          (try rfl)
        case s11 =>
          intro listed bb u hsz hn hwt hinv
          obtain ⟨x, rfl, hC, hU, h7, h8, p8, h9, hM⟩ := hinv
          simp only [putsX, Act.put, List.setIfInBounds_toArray, List.set_cons_zero, List.set_cons_succ]
          go_wp2_with fail
          refine stepQ_normal ⟨trivial, upd x 11 (.pointer (some ⟨u.heap.size, 0, none⟩)), ?_, hC.alloc hC.size _, hU.step (fun _ h => by cases h), h7.keep (by decide) (by decide) _ (fun ⟨b1, b2, b3, b4⟩ => ⟨b1, b2, b3, b4.below (below_allocT _)⟩), h8.keep (by decide) (by decide) _ (fun ⟨b1, b2, b3, b4⟩ => ⟨b1, b2, b3, b4.below (below_allocT _)⟩), p8.keep (by decide) _, h9.keep (by decide) (by decide) _ (fun ⟨b1, b2, b3, b4⟩ => ⟨b1, b2, b3, b4.below (below_allocT _)⟩), hM.new (by decide) hn hC.size⟩
          simp only [upd]
          rfl
        case s12 =>
          intro listed bb u hsz hn hwt hinv
          obtain ⟨x, rfl, hC, hU, h7, h8, p8, h9, hM⟩ := hinv
          simp only [putsX, Act.put, List.setIfInBounds_toArray, List.set_cons_zero, List.set_cons_succ]
          obtain ⟨g, fg, hg, hh⟩ := hM.there (hwt 11 (by kernel_rfl)) hn
          obtain ⟨ab, cb, fp, hown⟩ := h9 (hwt 9 (by kernel_rfl)) hn
          have FG := Lib.hid fg
          have FP := Lib.hid fp
          rw [FG.out, FP.out]
          obtain ⟨y0, y1⟩ := cells2 hh
          have t0 := thawed hh 0
          have t1 := thawed hh 1
          have hne := hown.apart hh
          have hfin := set_cells (set_cells hh 0 (.slice ab N cb)) 1 (.int .i64 pw')
          have hown2 := (hown.setCell (p := ⟨g, 0, none⟩) hne (.slice ab N cb)).setCell (p := ⟨g, 1, none⟩) hne (.int .i64 pw')
          clear hh fg fp hown hne
          go_wp2_with fail
          refine stepQ_normal ⟨trivial, upd x 12 undef, ?_, (hC.setCell (by exact hg) _).setCell (by exact hg) _, hU.step (fun _ h => by cases h), FactW.gone (hwt 8 (by kernel_rfl)), FactW.gone (hwt 9 (by kernel_rfl)), p8.keep (by decide) _, FactW.call (by rw [hsz]; decide), MadeR.fill (by decide) (hwt 11 (by kernel_rfl)) (by rw [hsz]; decide) FG.out hg hfin hown2⟩
          simp only [upd]
          simp only [FG.out, FP.out]
          (try rfl)
        case s13 =>
          intro listed bb u hsz hn hwt hinv
          obtain ⟨x, rfl, hC, hU, h7, h8, p8, h9, hM⟩ := hinv
          have f10 := Lib.hid (hU 10 _ rfl (hwt 10 (by kernel_rfl)))
          simp only [putsX, Act.put, List.setIfInBounds_toArray, List.set_cons_zero, List.set_cons_succ]
          rw [f10.out]
          go_wp2_with fail
          refine stepQ_normal ⟨trivial, upd x 13 (.bool v), ?_, hC, hU.step (fun _ h => Option.some.inj h), h7.keep (by decide) (by decide) _ id, h8.keep (by decide) (by decide) _ id, p8.keep (by decide) _, h9.keep (by decide) (by decide) _ id, hM.keep (by decide) (by decide) _ (Below.refl _ _)⟩
          simp only [upd]
          simp only [f10.out]
          (try rfl)
      case he =>
        intro listed q u hall hC hU hS
        obtain ⟨h7, h8, p8, h9, hM⟩ := hS
        obtain ⟨sP, ab, cb, fg, hg, hh, hown⟩ := hM.full (hall 11 (by decide)) (hall 12 (by decide))
        have fb := hU 13 _ rfl (hall 13 (by decide))
        simp only [putsX, Act.put, List.setIfInBounds_toArray, List.set_cons_zero, List.set_cons_succ]
        rw [fg, fb]
        clear hall hU h7 h8 p8 h9 hM fg fb
        generalize q 0 = _q0, q 1 = _q1, q 2 = _q2, q 3 = _q3, q 4 = _q4, q 5 = _q5, q 6 = _q6, q 7 = _q7, q 8 = _q8, q 9 = _q9, q 10 = _q10
        have g6 := keep_block hC gr (lt_of_block gr)
        have r6 := keep_block hC rr (lt_of_block rr)
        have s6 := keep_block hC sr (lt_of_block sr)
        have HB6 : Hid (Below w1.heap.size w1 u) := HBR.out.trans (hC.mono HBR.out.size)
        have HB6' : Hid (Below w.heap.size w u) := HB1.out.trans (HB6.out.mono HB1.out.size)
        have HOW := Lib.hid hown
        have HSP : Hid (wr.heap.size ≤ sP) := hg
        have HSZ : Hid (wr.heap.size ≤ u.heap.size) := hC.size
        clear hown hg hC
        cases v
        case false =>
          have HNO := Lib.hid (STOP.out HV.out)
          obtain ⟨y0, y1⟩ := cells2 s6
          have f0 := thawed s6 0
          have f1 := thawed s6 1
          go_wp2_with fail
          (try simp only [Exit.inBlock, Exit.then])
          obtain ⟨rfl, rfl, rfl, rfl⟩ := HNO.out
          refine bodyPost_ret (v := .tuple #[.agg #[.slice none 0 0, .int .i64 0], .bool false]) (by simp [results, Try.results13, go_sem, y0, y1]) rfl ⟨none, 0, rfl, World.ownsRow_nil _ _ _ _, (HB6'.out.setCell (by simp) _).setCell (by simp) _⟩
        case true =>
          obtain ⟨rfl, rfl⟩ := NEXT.out HV.out
          obtain ⟨y0, y1⟩ := cells2 hh
          obtain ⟨x0, x1⟩ := cells2 r6
          have f0 := thawed r6 0
          have f1 := thawed r6 1
          have G1 := (Below.heap_setCell (u.setCell ⟨w2.heap.size, 0, none⟩ (.slice ab N cb)) ⟨w2.heap.size, 1, none⟩ (.int .i64 (stP (L.take (m + 1)))) w.heap.size (by have := HS1.out; have := HS2.out; simp; omega)).trans ((Below.heap_setCell u ⟨w2.heap.size, 0, none⟩ (.slice ab N cb) w.heap.size (by have := HS1.out; have := HS2.out; simp; omega)).trans g6)
          have G2 := (Below.heap_setCell (u.setCell ⟨w2.heap.size, 0, none⟩ (.slice ab N cb)) ⟨w2.heap.size, 1, none⟩ (.int .i64 (stP (L.take (m + 1)))) (w.heap.size + 1) (by have := HS1.out; have := HS2.out; simp; omega)).trans ((Below.heap_setCell u ⟨w2.heap.size, 0, none⟩ (.slice ab N cb) (w.heap.size + 1) (by have := HS1.out; have := HS2.out; simp; omega)).trans s6)
          have G3 := set_cells (set_cells r6 0 (.slice ab N cb)) 1 (.int .i64 (stP (L.take (m + 1))))
          have hwr := lt_of_block rr
          have hab : ∀ x, ab = some x → x.block ≠ w2.heap.size := fun x hx => by have := (HOW.out.lo x hx).1; omega
          have G4 := ((HOW.out.mono (C := w1.heap.size) HBR.out.size).setCell (p := ⟨w2.heap.size, 0, none⟩) hab (.slice ab N cb)).setCell (p := ⟨w2.heap.size, 1, none⟩) hab (.int .i64 (stP (L.take (m + 1))))
          have G5 := (HB6.out.setCell (p := ⟨w2.heap.size, 0, none⟩) HS2.out (.slice ab N cb)).setCell (p := ⟨w2.heap.size, 1, none⟩) HS2.out (.int .i64 (stP (L.take (m + 1))))
          have GG := Lib.hid (And.intro G1 (And.intro G2 (And.intro G3 (And.intro G4 G5))))
          have HAB := Lib.hid hab
          clear G1 G2 G3 G4 G5 hab hwr
          go_wp2_with fail
          go_roundw
          case rel => exact ⟨m + 1, by omega, by go_num, GO.out HV.out, GG.out.1, GG.out.2.1, ⟨ab, cb, GG.out.2.2.1, GG.out.2.2.2.1, HAB.out⟩, GG.out.2.2.2.2⟩
          case measure => simp [intOf]; omega
    case neg =>
      obtain rfl : m = n := by omega
      have htk : L.take m = L := List.take_of_length_le (by rw [HL.out]; exact Nat.le_refl _)
      rw [htk] at rr HEND HON
      have hend := HEND.out
      have hle : le = stL N L := by rw [← HLE.out]; exact if_pos hend
      have hpe : pwe = stP L := by rw [← HPE.out]; exact if_pos hend
      have hne' : n' = N := by rw [← HNP.out, hle, stL_length]
      obtain ⟨gv, hgv⟩ : ∃ gv, decide (GeoOk g0 B g2 g3) = gv := ⟨_, rfl⟩
      have K := Lib.hid hgv
      have hvg : vv = gv := by rw [← HVV.out, hend, hgv]; rfl
      subst hle
      subst hpe
      subst hne'
      subst hvg
      have HBW : Hid (Below w.heap.size w wr) := HB1.out.trans (HBR.out.mono HB1.out.size)
      have HWR : Hid (w.heap.size + 1 < wr.heap.size) := lt_of_block sr
      have HSA : Hid (∀ x, aa = some x → x.block ≠ w.heap.size + 1) := fun x hx => by have := (HON.out.lo x hx).1; have := HS1.out; omega
      clear hend hgv
      go_wp2_with fail
      refine wp_region_float (A := ?A) [.h, .h, .t, .e, .e] (by kernel_rfl) (by kernel_rfl) (fun u => u.heap[w.heap.size]? = some (.cells #[.int .i64 g0, .int .i64 B, .int .i64 g2, .int .i64 g3] 30) ∧ u.heap[w2.heap.size]? = some (.cells #[.slice aa n' cc, .int .i64 (stP L)] 40)) ?hC ?hH ?hT
      case hC => exact ⟨gr, rr⟩
      case hH =>
        intro u hu
        obtain ⟨c0, c1, c2, c3⟩ := cells4 hu.1
        obtain ⟨d0, d1⟩ := cells2 hu.2
        have z0 := fun q : Same u => q.cell c0
        have z1 := fun q : Same u => q.cell c1
        have z2 := fun q : Same u => q.cell c2
        have z3 := fun q : Same u => q.cell c3
        have z4 := fun q : Same u => q.cell d0
        have z5 := fun q : Same u => q.cell d1
        simp only [headsOf]
        repeat (go_big_quiet_step (fail))
        refine wpQuiet_nil ?_
        exact rfl
      case hT =>
        simp only [chainT]
        have hgd : wr.drew.heap[w.heap.size]? = some (.cells #[.int .i64 g0, .int .i64 B, .int .i64 g2, .int .i64 g3] 30) := gr
        have hrd : wr.drew.heap[w2.heap.size]? = some (.cells #[.slice aa n' cc, .int .i64 (stP L)] 40) := rr
        have hsd : wr.drew.heap[w.heap.size + 1]? = some (.cells #[.slice none 0 0, .int .i64 0] 40) := sr
        have HOD : Hid (OwnK w1.heap.size (.slice aa n' cc) (stL n' L) wr.drew) := HON.out
        have HBD : Hid (Below w.heap.size w wr.drew) := Below.drew HBW.out
        clear gr rr sr HON HBW
        generalize wr.drew = w5 at hgd hrd hsd HOD HBD ⊢
        go_wp2_with fail
        refine (specGeoOk_is _ _ _ _ _ K.out _).mono ?_
        rintro e w6 ⟨rfl, hb6⟩
        have g6 := keep_block hb6 hgd (lt_of_block hgd)
        have r6 := keep_block hb6 hrd (lt_of_block hrd)
        have s6 := keep_block hb6 hsd (lt_of_block hsd)
        have HO6 := Lib.hid (HOD.out.below hb6)
        have HB6 : Hid (Below w.heap.size w w6) := HBD.out.trans (hb6.mono HBD.out.size)
        clear hb6 hgd hrd hsd HOD HBD
        go_wp2_with fail
        refine stepQ_normal ⟨⟨g6, r6⟩, ?_⟩
        obtain ⟨y0, y1⟩ := cells2 s6
        have f0 := thawed s6 0
        have f1 := thawed s6 1
        have fin : Hid (OwnK w.heap.size (.slice aa n' cc) (stL n' L) ((w6.setCell ⟨w.heap.size + 1, 0, none⟩ (.slice aa n' cc)).setCell ⟨w.heap.size + 1, 1, none⟩ (.int .i64 (stP L))) ∧ Below w.heap.size w ((w6.setCell ⟨w.heap.size + 1, 0, none⟩ (.slice aa n' cc)).setCell ⟨w.heap.size + 1, 1, none⟩ (.int .i64 (stP L)))) :=
          ⟨((HO6.out.setCell HSA.out _).setCell HSA.out _).mono (by have := HS1.out; omega), (HB6.out.setCell (by simp) _).setCell (by simp) _⟩
        go_wp2_with fail
        refine stepQ_normal ⟨trivial, ?_⟩
        go_wp2_with fail
        refine stepQ_normal ⟨trivial, ?_⟩
        go_wp2_with fail
        (try simp only [Exit.inBlock, Exit.then])
        refine bodyPost_ret (v := .tuple #[.agg #[.slice aa n' cc, .int .i64 (stP L)], .bool vv]) ?_ rfl ⟨_, _, rfl, fin.out.1, fin.out.2⟩
        simp [results, Try.results13, go_sem, y0, y1]

end Go.Proofs.Ytihhcnckoeaihaa

namespace Go.Proofs.Ytihhcnckoeaihaa
open Go.RowKit Go.PlainAid

set_option linter.unusedVariables false

set_option maxHeartbeats 16000000 in
set_option maxRecDepth 100000 in
theorem implEnd_is : IEnd := by
  intro g0 B g2 g3 a n c L N hN n' le pwe vv hn' hl' hp' hv hl h1 hc hnc w hr
  obtain ⟨w1, hw1⟩ : ∃ u, (w.alloc (.cells #[.int .i64 g0, .int .i64 B, .int .i64 g2, .int .i64 g3] 30)).alloc (.cells #[.slice none 0 0, .int .i64 0] 40) = u := ⟨_, rfl⟩
  have HB1 : Hid (Below w.heap.size w w1) := by subst hw1; exact ((Below.refl _ _).alloc (Nat.le_refl _) _).alloc (by simp) _
  have g1 : w1.heap[w.heap.size]? = some (.cells #[.int .i64 g0, .int .i64 B, .int .i64 g2, .int .i64 g3] 30) := by subst hw1; exact heap_alloc2_old _ _ _
  have s1 : w1.heap[w.heap.size + 1]? = some (.cells #[.slice none 0 0, .int .i64 0] 40) := by subst hw1; exact heap_alloc2_new _ _ _
  have HS1 : Hid (w.heap.size + 1 < w1.heap.size) := lt_of_block s1
  have HR := Lib.hid (hr.below HB1.out)
  have HL := Lib.hid hl
  have HNN := Lib.hid hN
  have HNP := Lib.hid hn'
  have HLE := Lib.hid hl'
  have HPE := Lib.hid hp'
  have HVV := Lib.hid hv
  have hN8 : N ≤ 8 := by have := bankN_range g0 B g2 g3; omega
  obtain ⟨c0, c1, c2, c3⟩ := cells4 g1
  clear hr hl hN hn' hl' hp' hv hnc
  by_cases hg : GeoOk g0 B g2 g3
  case neg =>
    have K := Lib.hid (decide_eq_false hg)
    have STOP : Hid (le = [] ∧ pwe = 0 ∧ vv = false ∧ n' = 0) := by
      have hb0 : N = 0 := by
        have h := HNN.out
        unfold bankN at h
        rw [if_neg hg] at h
        omega
      have h1 : le = [] := by
        rw [← HLE.out]
        unfold EndL
        split
        · have h2 := stL_length N L
          rw [hb0] at h2 ⊢
          exact List.length_eq_zero_iff.1 h2
        · rfl
      have h2 : pwe = 0 := by
        rw [← HPE.out]
        unfold EndP
        split
        · rename_i hend
          cases L with
          | nil => rfl
          | cons e L' =>
            exfalso
            have h3 : (allowR g0 B g2 g3 (stL N []) (stP []) e.k e.x e.y e.z && endF (fun P e => allowR g0 B g2 g3 (stL N P) (stP P) e.k e.x e.y e.z) ([] ++ [e]) L') = true := hend
            rw [Bool.and_eq_true] at h3
            exact hg (allow_parts h3.1).1.1
        · rfl
      exact ⟨h1, h2, by rw [← HVV.out, K.out, Bool.and_false], by rw [← HNP.out, h1]; rfl⟩
    clear hg
    go_enter Try.func14, Try.ntmps14
    go_wp2_with fail
    refine (implGeoOk_is _ _ _ _ _ K.out _).mono ?_
    rintro e w2 ⟨rfl, hb2⟩
    have s2 := keep_block hb2 s1 (lt_of_block s1)
    have HB2 : Hid (Below w.heap.size w w2) := HB1.out.trans (hb2.mono HB1.out.size)
    clear hb2 c0 c1 c2 c3
    obtain ⟨y0, y1⟩ := cells2 s2
    have f0 := thawed s2 0
    have f1 := thawed s2 1
    go_wp2_with fail
    (try simp only [Exit.inBlock, Exit.then])
    obtain ⟨rfl, rfl, rfl, rfl⟩ := STOP.out
    refine bodyPost_ret (v := .tuple #[.agg #[.slice none 0 0, .int .i64 0], .bool false]) (by simp [results, Try.results14, go_sem, y0, y1]) rfl ⟨none, 0, rfl, World.ownsRow_nil _ _ _ _, (HB2.out.setCell (by simp) _).setCell (by simp) _⟩
  have K := Lib.hid (decide_eq_true hg)
  go_enter Try.func14, Try.ntmps14
  go_wp2_with fail
  refine (implGeoOk_is _ _ _ _ _ K.out _).mono ?_
  rintro e w2' ⟨rfl, hb2'⟩
  have gb2' := keep_block hb2' g1 (lt_of_block g1)
  have s2' := keep_block hb2' s1 (lt_of_block s1)
  have HB2' : Hid (Below w1.heap.size w1 w2') := hb2'
  clear hb2' c0 c1 c2 c3
  obtain ⟨c0, c1, c2, c3⟩ := cells4 gb2'
  go_wp2_with fail
  refine (implRankNew_is _ _ _ _ N HNN.out _).mono ?_
  rintro e w2 ⟨ao, co, rfl, own2', hb2⟩
  have gb2 := keep_block hb2 gb2' (lt_of_block gb2')
  have s2 := keep_block hb2 s2' (lt_of_block s2')
  have HB2 : Hid (Below w1.heap.size w1 w2) := HB2'.out.trans (hb2.mono HB2'.out.size)
  have own2 : OwnK w1.heap.size (.slice ao N co) (List.replicate N bk0) w2 := own2'.mono HB2'.out.size
  have HS2 : Hid (w1.heap.size ≤ w2.heap.size) := HB2.out.size
  have HAA : Hid (∀ x, ao = some x → x.block < w2.heap.size) := fun x hx => (own2.lo x hx).2
  clear hb2 c0 c1 c2 c3 own2' HB2' gb2' s2'
  have hb3 : Below w2.heap.size w2 (w2.alloc (.cells #[.slice ao N co, .int .i64 0] 40)) := (Below.refl _ _).alloc (Nat.le_refl _) _
  have ST : Hid ((w2.alloc (.cells #[.slice ao N co, .int .i64 0] 40)).heap[w.heap.size]? = some (.cells #[.int .i64 g0, .int .i64 B, .int .i64 g2, .int .i64 g3] 30) ∧ (w2.alloc (.cells #[.slice ao N co, .int .i64 0] 40)).heap[w.heap.size + 1]? = some (.cells #[.slice none 0 0, .int .i64 0] 40) ∧
      (w2.alloc (.cells #[.slice ao N co, .int .i64 0] 40)).heap[w2.heap.size]? = some (.cells #[.slice ao N co, .int .i64 0] 40) ∧ OwnK w1.heap.size (.slice ao N co) (List.replicate N bk0) (w2.alloc (.cells #[.slice ao N co, .int .i64 0] 40)) ∧ Below w1.heap.size w1 (w2.alloc (.cells #[.slice ao N co, .int .i64 0] 40)) ∧ ∀ x, ao = some x → x.block ≠ w2.heap.size) :=
    ⟨keep_block hb3 gb2 (lt_of_block gb2), keep_block hb3 s2 (lt_of_block s2), heap_alloc_new _ _, own2.below hb3, HB2.out.trans (hb3.mono HB2.out.size), fun x hx => by have := HAA.out x hx; omega⟩
  clear hb3 own2 gb2 s2 HB2
  go_wp2_with fail
  generalize (w2.alloc (.cells #[.slice ao N co, .int .i64 0] 40)) = w3 at ST ⊢
  go_loopw [18] (fun i wr => ∃ k : Nat, k ≤ n ∧ i = .int .i64 k ∧ endOk g0 B g2 g3 N (L.take k) = true ∧ wr.heap[w.heap.size]? = some (.cells #[.int .i64 g0, .int .i64 B, .int .i64 g2, .int .i64 g3] 30) ∧ wr.heap[w.heap.size + 1]? = some (.cells #[.slice none 0 0, .int .i64 0] 40) ∧
      (∃ (aa : Option Addr) (cc : Nat), wr.heap[w2.heap.size]? = some (.cells #[.slice aa N cc, .int .i64 (stP (L.take k))] 40) ∧ OwnK w1.heap.size (.slice aa N cc) (stL N (L.take k)) wr ∧ (∀ x, aa = some x → x.block ≠ w2.heap.size)) ∧ Below w1.heap.size w1 wr) (fun i _ => n - (intOf i).toNat)
  case atStart => exact ⟨0, Nat.zero_le _, rfl, rfl, ST.out.1, ST.out.2.1, ⟨ao, co, ST.out.2.2.1, ST.out.2.2.2.1, ST.out.2.2.2.2.2⟩, ST.out.2.2.2.2.1⟩
  case round =>
    clear ST HAA
    obtain ⟨m, hm, rfl, hend, gr, sr, ⟨aa, cc, rr, ownr, hne⟩, hbr⟩ := hrel
    have HEND := Lib.hid hend
    have HON := Lib.hid ownr
    have HBR := Lib.hid hbr
    have HNE := Lib.hid hne
    clear hend ownr hbr hne
    by_cases hlt : m < n
    case pos =>
      have hml : m < L.length := by rw [HL.out]; exact hlt
      have HT := Lib.hid (take_snoc hml)
      have HD := Lib.hid (drop_cons hml)
      obtain ⟨b, off, rfl, a0, a1, a2, a3, a4⟩ := ev_at (HR.out.below HBR.out) (i := m) hml
      obtain ⟨e, he⟩ : ∃ e, L.getD m ev0 = e := ⟨_, rfl⟩
      rw [he] at a0 a1 a2 a3 a4 HT HD
      clear he a0
      obtain ⟨v, hv⟩ : ∃ v, allowR g0 B g2 g3 (stL N (L.take m)) (stP (L.take m)) e.k e.x e.y e.z = v := ⟨_, rfl⟩
      obtain ⟨l', hl'⟩ : ∃ l', afterL g0 B g2 g3 (stL N (L.take m)) (stP (L.take m)) e.k e.x e.y e.z = l' := ⟨_, rfl⟩
      obtain ⟨pw', hp'⟩ : ∃ pw', afterP g0 B g2 g3 (stL N (L.take m)) (stP (L.take m)) e.k e.x e.y e.z = pw' := ⟨_, rfl⟩
      have HV := Lib.hid hv
      have HLP := Lib.hid hl'
      have HPP := Lib.hid hp'
      have NEXT : Hid (allowR g0 B g2 g3 (stL N (L.take m)) (stP (L.take m)) e.k e.x e.y e.z = true → l' = stL N (L.take (m + 1)) ∧ pw' = stP (L.take (m + 1))) := fun h => by
        rw [HT.out, stL_snoc, stP_snoc, ← hl', ← hp']
        exact ⟨if_pos h, if_pos h⟩
      have STOP : Hid (allowR g0 B g2 g3 (stL N (L.take m)) (stP (L.take m)) e.k e.x e.y e.z = false → le = [] ∧ pwe = 0 ∧ vv = false ∧ n' = 0) := fun h => by
        have hno : endOk g0 B g2 g3 N L = false := by
          have h1 := HEND.out
          unfold endOk at h1 ⊢
          have h2 : L = L.take m ++ (e :: L.drop (m + 1)) := by rw [← HD.out, List.take_append_drop]
          rw [h2, endF_append, h1]
          show (true && (allowR g0 B g2 g3 (stL N ([] ++ L.take m)) (stP ([] ++ L.take m)) e.k e.x e.y e.z && _)) = false
          rw [List.nil_append, h]
          rfl
        have h1 : le = [] := by rw [← HLE.out]; exact if_neg (by rw [hno]; simp)
        have h2 : pwe = 0 := by rw [← HPE.out]; exact if_neg (by rw [hno]; simp)
        refine ⟨h1, h2, by rw [← HVV.out, hno]; rfl, by rw [← HNP.out, h1]; rfl⟩
      have GO : Hid (allowR g0 B g2 g3 (stL N (L.take m)) (stP (L.take m)) e.k e.x e.y e.z = true → endOk g0 B g2 g3 N (L.take (m + 1)) = true) := fun h => by
        have h1 := HEND.out
        rw [HT.out]
        unfold endOk at h1 ⊢
        rw [endF_append, h1]
        show (true && (allowR g0 B g2 g3 (stL N ([] ++ L.take m)) (stP ([] ++ L.take m)) e.k e.x e.y e.z && true)) = true
        rw [List.nil_append, h]
        rfl
      clear hv hl' hp' HD
      replace a1 := Lib.hid a1
      replace a2 := Lib.hid a2
      replace a3 := Lib.hid a3
      replace a4 := Lib.hid a4
      go_wp2_with fail
      refine wp_region_flowV (fun k => match k with | 0 => some (.agg #[.int .i64 g0, .int .i64 B, .int .i64 g2, .int .i64 g3]) | 1 => some (.agg #[.slice aa N cc, .int .i64 (stP (L.take m))]) | 2 => some (.slice (some ⟨b, off, none⟩) n c) | 3 => some (.int .i64 (m : Int)) | 4 => some (.pointer (some ⟨b, off + m * 5, none⟩)) | 5 => some (.pointer (some ⟨b, off + m * 5 + 1, none⟩)) | 6 => some (.agg #[.int .i64 e.k, .int .i64 e.x, .int .i64 e.y, .int .i64 e.z]) | 10 => some (.bool v) | 13 => some (.bool v) | _ => none) (fun listed x u => FactW 7 8 (fun q u => ∃ ab cb, q = .tuple #[.agg #[.slice ab N cb, .int .i64 pw'], .bool v] ∧ OwnK (wr.heap.size) (.slice ab N cb) l' u) listed x u ∧ FactW 8 9 (fun q u => ∃ ab cb, q = .tuple #[.agg #[.slice ab N cb, .int .i64 pw'], .bool v] ∧ OwnK (wr.heap.size) (.slice ab N cb) l' u) listed x u ∧ Fact 8 (fun q => ∃ (ab : Option Addr) (cb : Nat), q = .tuple #[.agg #[.slice ab N cb, .int .i64 pw'], .bool v]) listed x ∧ FactW 9 12 (fun q u => ∃ ab cb, q = .agg #[.slice ab N cb, .int .i64 pw'] ∧ OwnK (wr.heap.size) (.slice ab N cb) l' u) listed x u ∧ MadeR 11 12 (wr.heap.size) N l' pw' listed x u) (upd (upd (upd (upd (upd (upd (upd (upd (upd (upd (upd (upd (upd (fun _ => undef) 0 u22) 1 u23) 2 u24) 3 u25) 4 u26) 5 u27) 6 u28) 7 u29) 8 u21) 9 u30) 10 u31) 11 u8) 13 u9) (by kernel_rfl) (by kernel_rfl) ?hx ?hS ?hs ?he
      case hx => simp only [putsX, Act.put, List.setIfInBounds_toArray, List.set_cons_zero, List.set_cons_succ, upd, Nat.reduceEqDiff, reduceIte]
      case hS => exact ⟨FactW.zero _ _ _ _ _ _, FactW.zero _ _ _ _ _ _, Fact.zero _ _ _ _, FactW.zero _ _ _ _ _ _, MadeR.zero _ _ _ _ _ _ _ _ _⟩
      case hs =>
        simp only [flowSteps]
        refine ⟨?s0, ?s1, ?s2, ?s3, ?s4, ?s5, ?s6, ?s7, ?s8, ?s9, ?s10, ?s11, ?s12, ?s13, trivial⟩
        case s0 =>
          intro listed bb u hsz hn hwt hinv
          obtain ⟨x, rfl, hC, hU, h7, h8, p8, h9, hM⟩ := hinv
          simp only [putsX, Act.put, List.setIfInBounds_toArray, List.set_cons_zero, List.set_cons_succ]
          obtain ⟨c0, c1, c2, c3⟩ := cells4 (keep_block hC gr (lt_of_block gr))
          go_wp2_with fail
          refine stepQ_normal ⟨trivial, upd x 0 (.agg #[.int .i64 g0, .int .i64 B, .int .i64 g2, .int .i64 g3]), ?_, hC, hU.step (fun _ h => Option.some.inj h), h7.keep (by decide) (by decide) _ id, h8.keep (by decide) (by decide) _ id, p8.keep (by decide) _, h9.keep (by decide) (by decide) _ id, hM.keep (by decide) (by decide) _ (Below.refl _ _)⟩
          simp only [upd]
          rfl
        case s1 =>
          intro listed bb u hsz hn hwt hinv
          obtain ⟨x, rfl, hC, hU, h7, h8, p8, h9, hM⟩ := hinv
          simp only [putsX, Act.put, List.setIfInBounds_toArray, List.set_cons_zero, List.set_cons_succ]
          obtain ⟨d0, d1⟩ := cells2 (keep_block hC rr (lt_of_block rr))
          go_wp2_with fail
          refine stepQ_normal ⟨trivial, upd x 1 (.agg #[.slice aa N cc, .int .i64 (stP (L.take m))]), ?_, hC, hU.step (fun _ h => Option.some.inj h), h7.keep (by decide) (by decide) _ id, h8.keep (by decide) (by decide) _ id, p8.keep (by decide) _, h9.keep (by decide) (by decide) _ id, hM.keep (by decide) (by decide) _ (Below.refl _ _)⟩
          simp only [upd]
          rfl
        case s2 =>
          intro listed bb u hsz hn hwt hinv
          obtain ⟨x, rfl, hC, hU, h7, h8, p8, h9, hM⟩ := hinv
          simp only [putsX, Act.put, List.setIfInBounds_toArray, List.set_cons_zero, List.set_cons_succ]
          go_wp2_with fail
          refine stepQ_normal ⟨trivial, upd x 2 (.slice (some ⟨b, off, none⟩) n c), ?_, hC, hU.step (fun _ h => Option.some.inj h), h7.keep (by decide) (by decide) _ id, h8.keep (by decide) (by decide) _ id, p8.keep (by decide) _, h9.keep (by decide) (by decide) _ id, hM.keep (by decide) (by decide) _ (Below.refl _ _)⟩
          simp only [upd]
          rfl
        case s3 =>
          intro listed bb u hsz hn hwt hinv
          obtain ⟨x, rfl, hC, hU, h7, h8, p8, h9, hM⟩ := hinv
          simp only [putsX, Act.put, List.setIfInBounds_toArray, List.set_cons_zero, List.set_cons_succ]
          go_wp2_with fail
          refine stepQ_normal ⟨trivial, upd x 3 (.int .i64 (m : Int)), ?_, hC, hU.step (fun _ h => Option.some.inj h), h7.keep (by decide) (by decide) _ id, h8.keep (by decide) (by decide) _ id, p8.keep (by decide) _, h9.keep (by decide) (by decide) _ id, hM.keep (by decide) (by decide) _ (Below.refl _ _)⟩
          simp only [upd]
          rfl
        case s4 =>
          intro listed bb u hsz hn hwt hinv
          obtain ⟨x, rfl, hC, hU, h7, h8, p8, h9, hM⟩ := hinv
          have f2 := Lib.hid (hU 2 _ rfl (hwt 2 (by kernel_rfl)))
          have f3 := Lib.hid (hU 3 _ rfl (hwt 3 (by kernel_rfl)))
          simp only [putsX, Act.put, List.setIfInBounds_toArray, List.set_cons_zero, List.set_cons_succ]
          rw [f2.out]
          rw [f3.out]
          go_wp2_with fail
          refine stepQ_normal ⟨trivial, upd x 4 (.pointer (some ⟨b, off + m * 5, none⟩)), ?_, hC, hU.step (fun _ h => Option.some.inj h), h7.keep (by decide) (by decide) _ id, h8.keep (by decide) (by decide) _ id, p8.keep (by decide) _, h9.keep (by decide) (by decide) _ id, hM.keep (by decide) (by decide) _ (Below.refl _ _)⟩
          simp only [upd]
          simp only [f2.out, f3.out]
          (try rfl)
        case s5 =>
          intro listed bb u hsz hn hwt hinv
          obtain ⟨x, rfl, hC, hU, h7, h8, p8, h9, hM⟩ := hinv
          have f4 := Lib.hid (hU 4 _ rfl (hwt 4 (by kernel_rfl)))
          simp only [putsX, Act.put, List.setIfInBounds_toArray, List.set_cons_zero, List.set_cons_succ]
          rw [f4.out]
          go_wp2_with fail
          refine stepQ_normal ⟨trivial, upd x 5 (.pointer (some ⟨b, off + m * 5 + 1, none⟩)), ?_, hC, hU.step (fun _ h => Option.some.inj h), h7.keep (by decide) (by decide) _ id, h8.keep (by decide) (by decide) _ id, p8.keep (by decide) _, h9.keep (by decide) (by decide) _ id, hM.keep (by decide) (by decide) _ (Below.refl _ _)⟩
          simp only [upd]
          simp only [f4.out]
          (try rfl)
        case s6 =>
          intro listed bb u hsz hn hwt hinv
          obtain ⟨x, rfl, hC, hU, h7, h8, p8, h9, hM⟩ := hinv
          have f5 := Lib.hid (hU 5 _ rfl (hwt 5 (by kernel_rfl)))
          simp only [putsX, Act.put, List.setIfInBounds_toArray, List.set_cons_zero, List.set_cons_succ]
          rw [f5.out]
          have e1 := (hC.cell (World.block_lt_of_cell? _ _ a1.out)).trans a1.out
          have e2 := (hC.cell (World.block_lt_of_cell? _ _ a2.out)).trans a2.out
          have e3 := (hC.cell (World.block_lt_of_cell? _ _ a3.out)).trans a3.out
          have e4 := (hC.cell (World.block_lt_of_cell? _ _ a4.out)).trans a4.out
          go_wp2_with fail
          refine stepQ_normal ⟨trivial, upd x 6 (.agg #[.int .i64 e.k, .int .i64 e.x, .int .i64 e.y, .int .i64 e.z]), ?_, hC, hU.step (fun _ h => Option.some.inj h), h7.keep (by decide) (by decide) _ id, h8.keep (by decide) (by decide) _ id, p8.keep (by decide) _, h9.keep (by decide) (by decide) _ id, hM.keep (by decide) (by decide) _ (Below.refl _ _)⟩
          simp only [upd]
          simp only [f5.out]
          (try rfl)
        case s7 =>
          intro listed bb u hsz hn hwt hinv
          obtain ⟨x, rfl, hC, hU, h7, h8, p8, h9, hM⟩ := hinv
          have f0 := Lib.hid (hU 0 _ rfl (hwt 0 (by kernel_rfl)))
          have f1 := Lib.hid (hU 1 _ rfl (hwt 1 (by kernel_rfl)))
          have f6 := Lib.hid (hU 6 _ rfl (hwt 6 (by kernel_rfl)))
          simp only [putsX, Act.put, List.setIfInBounds_toArray, List.set_cons_zero, List.set_cons_succ]
          have hcall : Calls Try.prog 40 #[x 0, x 1, x 6] u (GivesA N l' pw' v u) := by rw [f0.out, f1.out, f6.out]; exact implAfter_is g0 B g2 g3 aa N cc (stL N (L.take m)) (stP (L.take m)) e.k e.x e.y e.z v l' pw' HV.out HLP.out HPP.out (stL_length _ _) (by omega) (HON.out.none) _ (HON.out.row.below hC)
          go_wp2_with fail
          refine hcall.mono ?_
          rintro e' u' ⟨ab, cb, rfl, own, hb⟩
          go_wp2_with fail
          refine stepQ_normal ⟨trivial, upd x 7 (.tuple #[.agg #[.slice ab N cb, .int .i64 pw'], .bool v]), ?_, hC.trans (hb.mono hC.size), hU.step (fun _ h => by cases h), FactW.new ⟨ab, cb, rfl, own.mono hC.size⟩, h8.keep (by decide) (by decide) _ (fun ⟨b1, b2, b3, b4⟩ => ⟨b1, b2, b3, b4.below (hb)⟩), p8.keep (by decide) _, h9.keep (by decide) (by decide) _ (fun ⟨b1, b2, b3, b4⟩ => ⟨b1, b2, b3, b4.below (hb)⟩), hM.keep (by decide) (by decide) _ (hb)⟩
          simp only [upd]
          rfl
        case s8 =>
          intro listed bb u hsz hn hwt hinv
          obtain ⟨x, rfl, hC, hU, h7, h8, p8, h9, hM⟩ := hinv
          simp only [putsX, Act.put, List.setIfInBounds_toArray, List.set_cons_zero, List.set_cons_succ]
          obtain ⟨ab, cb, fp, hown⟩ := h7 (hwt 7 (by kernel_rfl)) hn
          go_wp2_with fail
          refine stepQ_normal ⟨trivial, upd x 8 (x 7), ?_, hC, hU.step (fun _ h => by cases h), FactW.call (by rw [hsz]; decide), FactW.new ⟨ab, cb, fp, hown⟩, Fact.new ⟨ab, cb, fp⟩, h9.keep (by decide) (by decide) _ id, hM.keep (by decide) (by decide) _ (Below.refl _ _)⟩
          simp only [upd]
          rfl
        case s9 =>
          intro listed bb u hsz hn hwt hinv
          obtain ⟨x, rfl, hC, hU, h7, h8, p8, h9, hM⟩ := hinv
          simp only [putsX, Act.put, List.setIfInBounds_toArray, List.set_cons_zero, List.set_cons_succ]
          obtain ⟨ab, cb, fp, hown⟩ := h8 (hwt 8 (by kernel_rfl)) hn
          have FP := Lib.hid fp
          rw [FP.out]
          clear fp
          go_wp2_with fail
          refine stepQ_normal ⟨trivial, upd x 9 (.agg #[.slice ab N cb, .int .i64 pw']), ?_, hC, hU.step (fun _ h => by cases h), h7.keep (by decide) (by decide) _ id, FactW.call (by rw [hsz]; decide), p8.keep (by decide) _, FactW.new ⟨ab, cb, rfl, hown⟩, hM.keep (by decide) (by decide) _ (Below.refl _ _)⟩
          simp only [upd]
          simp only [FP.out]
          (try rfl)
        case s10 =>
          intro listed bb u hsz hn hwt hinv
          obtain ⟨x, rfl, hC, hU, h7, h8, p8, h9, hM⟩ := hinv
          simp only [putsX, Act.put, List.setIfInBounds_toArray, List.set_cons_zero, List.set_cons_succ]
          obtain ⟨ab, cb, fp⟩ := p8 (hwt 8 (by kernel_rfl))
          have FP := Lib.hid fp
          rw [FP.out]
          clear fp
          go_wp2_with fail
          refine stepQ_normal ⟨trivial, upd x 10 (.bool v), ?_, hC, hU.step (fun _ h => Option.some.inj h), h7.keep (by decide) (by decide) _ id, h8.keep (by decide) (by decide) _ id, p8.keep (by decide) _, h9.keep (by decide) (by decide) _ id, hM.keep (by decide) (by decide) _ (Below.refl _ _)⟩
          simp only [upd]
          simp only [FP.out]
          (try rfl)
        case s11 =>
          intro listed bb u hsz hn hwt hinv
          obtain ⟨x, rfl, hC, hU, h7, h8, p8, h9, hM⟩ := hinv
          simp only [putsX, Act.put, List.setIfInBounds_toArray, List.set_cons_zero, List.set_cons_succ]
          go_wp2_with fail
          refine stepQ_normal ⟨trivial, upd x 11 (.pointer (some ⟨u.heap.size, 0, none⟩)), ?_, hC.alloc hC.size _, hU.step (fun _ h => by cases h), h7.keep (by decide) (by decide) _ (fun ⟨b1, b2, b3, b4⟩ => ⟨b1, b2, b3, b4.below (below_allocT _)⟩), h8.keep (by decide) (by decide) _ (fun ⟨b1, b2, b3, b4⟩ => ⟨b1, b2, b3, b4.below (below_allocT _)⟩), p8.keep (by decide) _, h9.keep (by decide) (by decide) _ (fun ⟨b1, b2, b3, b4⟩ => ⟨b1, b2, b3, b4.below (below_allocT _)⟩), hM.new (by decide) hn hC.size⟩
          simp only [upd]
          rfl
        case s12 =>
          intro listed bb u hsz hn hwt hinv
          obtain ⟨x, rfl, hC, hU, h7, h8, p8, h9, hM⟩ := hinv
          simp only [putsX, Act.put, List.setIfInBounds_toArray, List.set_cons_zero, List.set_cons_succ]
          obtain ⟨g, fg, hg, hh⟩ := hM.there (hwt 11 (by kernel_rfl)) hn
          obtain ⟨ab, cb, fp, hown⟩ := h9 (hwt 9 (by kernel_rfl)) hn
          have FG := Lib.hid fg
          have FP := Lib.hid fp
          rw [FG.out, FP.out]
          obtain ⟨y0, y1⟩ := cells2 hh
          have t0 := thawed hh 0
          have t1 := thawed hh 1
          have hne := hown.apart hh
          have hfin := set_cells (set_cells hh 0 (.slice ab N cb)) 1 (.int .i64 pw')
          have hown2 := (hown.setCell (p := ⟨g, 0, none⟩) hne (.slice ab N cb)).setCell (p := ⟨g, 1, none⟩) hne (.int .i64 pw')
          clear hh fg fp hown hne
          go_wp2_with fail
          refine stepQ_normal ⟨trivial, upd x 12 undef, ?_, (hC.setCell (by exact hg) _).setCell (by exact hg) _, hU.step (fun _ h => by cases h), FactW.gone (hwt 8 (by kernel_rfl)), FactW.gone (hwt 9 (by kernel_rfl)), p8.keep (by decide) _, FactW.call (by rw [hsz]; decide), MadeR.fill (by decide) (hwt 11 (by kernel_rfl)) (by rw [hsz]; decide) FG.out hg hfin hown2⟩
          simp only [upd]
          simp only [FG.out, FP.out]
          (try rfl)
        case s13 =>
          intro listed bb u hsz hn hwt hinv
          obtain ⟨x, rfl, hC, hU, h7, h8, p8, h9, hM⟩ := hinv
          have f10 := Lib.hid (hU 10 _ rfl (hwt 10 (by kernel_rfl)))
          simp only [putsX, Act.put, List.setIfInBounds_toArray, List.set_cons_zero, List.set_cons_succ]
          rw [f10.out]
          go_wp2_with fail
          refine stepQ_normal ⟨trivial, upd x 13 (.bool v), ?_, hC, hU.step (fun _ h => Option.some.inj h), h7.keep (by decide) (by decide) _ id, h8.keep (by decide) (by decide) _ id, p8.keep (by decide) _, h9.keep (by decide) (by decide) _ id, hM.keep (by decide) (by decide) _ (Below.refl _ _)⟩
          simp only [upd]
          simp only [f10.out]
          (try rfl)
      case he =>
        intro listed q u hall hC hU hS
        obtain ⟨h7, h8, p8, h9, hM⟩ := hS
        obtain ⟨sP, ab, cb, fg, hg, hh, hown⟩ := hM.full (hall 11 (by decide)) (hall 12 (by decide))
        have fb := hU 13 _ rfl (hall 13 (by decide))
        simp only [putsX, Act.put, List.setIfInBounds_toArray, List.set_cons_zero, List.set_cons_succ]
        rw [fg, fb]
        clear hall hU h7 h8 p8 h9 hM fg fb
        generalize q 0 = _q0, q 1 = _q1, q 2 = _q2, q 3 = _q3, q 4 = _q4, q 5 = _q5, q 6 = _q6, q 7 = _q7, q 8 = _q8, q 9 = _q9, q 10 = _q10
        have g6 := keep_block hC gr (lt_of_block gr)
        have r6 := keep_block hC rr (lt_of_block rr)
        have s6 := keep_block hC sr (lt_of_block sr)
        have HB6 : Hid (Below w1.heap.size w1 u) := HBR.out.trans (hC.mono HBR.out.size)
        have HB6' : Hid (Below w.heap.size w u) := HB1.out.trans (HB6.out.mono HB1.out.size)
        have HOW := Lib.hid hown
        have HSP : Hid (wr.heap.size ≤ sP) := hg
        have HSZ : Hid (wr.heap.size ≤ u.heap.size) := hC.size
        clear hown hg hC
        cases v
        case false =>
          have HNO := Lib.hid (STOP.out HV.out)
          obtain ⟨y0, y1⟩ := cells2 s6
          have f0 := thawed s6 0
          have f1 := thawed s6 1
          go_wp2_with fail
          (try simp only [Exit.inBlock, Exit.then])
          obtain ⟨rfl, rfl, rfl, rfl⟩ := HNO.out
          refine bodyPost_ret (v := .tuple #[.agg #[.slice none 0 0, .int .i64 0], .bool false]) (by simp [results, Try.results14, go_sem, y0, y1]) rfl ⟨none, 0, rfl, World.ownsRow_nil _ _ _ _, (HB6'.out.setCell (by simp) _).setCell (by simp) _⟩
        case true =>
          obtain ⟨rfl, rfl⟩ := NEXT.out HV.out
          obtain ⟨y0, y1⟩ := cells2 hh
          obtain ⟨x0, x1⟩ := cells2 r6
          have f0 := thawed r6 0
          have f1 := thawed r6 1
          have G1 := (Below.heap_setCell (u.setCell ⟨w2.heap.size, 0, none⟩ (.slice ab N cb)) ⟨w2.heap.size, 1, none⟩ (.int .i64 (stP (L.take (m + 1)))) w.heap.size (by have := HS1.out; have := HS2.out; simp; omega)).trans ((Below.heap_setCell u ⟨w2.heap.size, 0, none⟩ (.slice ab N cb) w.heap.size (by have := HS1.out; have := HS2.out; simp; omega)).trans g6)
          have G2 := (Below.heap_setCell (u.setCell ⟨w2.heap.size, 0, none⟩ (.slice ab N cb)) ⟨w2.heap.size, 1, none⟩ (.int .i64 (stP (L.take (m + 1)))) (w.heap.size + 1) (by have := HS1.out; have := HS2.out; simp; omega)).trans ((Below.heap_setCell u ⟨w2.heap.size, 0, none⟩ (.slice ab N cb) (w.heap.size + 1) (by have := HS1.out; have := HS2.out; simp; omega)).trans s6)
          have G3 := set_cells (set_cells r6 0 (.slice ab N cb)) 1 (.int .i64 (stP (L.take (m + 1))))
          have hwr := lt_of_block rr
          have hab : ∀ x, ab = some x → x.block ≠ w2.heap.size := fun x hx => by have := (HOW.out.lo x hx).1; omega
          have G4 := ((HOW.out.mono (C := w1.heap.size) HBR.out.size).setCell (p := ⟨w2.heap.size, 0, none⟩) hab (.slice ab N cb)).setCell (p := ⟨w2.heap.size, 1, none⟩) hab (.int .i64 (stP (L.take (m + 1))))
          have G5 := (HB6.out.setCell (p := ⟨w2.heap.size, 0, none⟩) HS2.out (.slice ab N cb)).setCell (p := ⟨w2.heap.size, 1, none⟩) HS2.out (.int .i64 (stP (L.take (m + 1))))
          have GG := Lib.hid (And.intro G1 (And.intro G2 (And.intro G3 (And.intro G4 G5))))
          have HAB := Lib.hid hab
          clear G1 G2 G3 G4 G5 hab hwr
          go_wp2_with fail
          go_roundw
          case rel => exact ⟨m + 1, by omega, by go_num, GO.out HV.out, GG.out.1, GG.out.2.1, ⟨ab, cb, GG.out.2.2.1, GG.out.2.2.2.1, HAB.out⟩, GG.out.2.2.2.2⟩
          case measure => simp [intOf]; omega
    case neg =>
      obtain rfl : m = n := by omega
      have htk : L.take m = L := List.take_of_length_le (by rw [HL.out]; exact Nat.le_refl _)
      rw [htk] at rr HEND HON
      have hend := HEND.out
      have hle : le = stL N L := by rw [← HLE.out]; exact if_pos hend
      have hpe : pwe = stP L := by rw [← HPE.out]; exact if_pos hend
      have hne' : n' = N := by rw [← HNP.out, hle, stL_length]
      obtain ⟨gv, hgv⟩ : ∃ gv, decide (GeoOk g0 B g2 g3) = gv := ⟨_, rfl⟩
      have K := Lib.hid hgv
      have hvg : vv = gv := by rw [← HVV.out, hend, hgv]; rfl
      subst hle
      subst hpe
      subst hne'
      subst hvg
      have HBW : Hid (Below w.heap.size w wr) := HB1.out.trans (HBR.out.mono HB1.out.size)
      have HWR : Hid (w.heap.size + 1 < wr.heap.size) := lt_of_block sr
      have HSA : Hid (∀ x, aa = some x → x.block ≠ w.heap.size + 1) := fun x hx => by have := (HON.out.lo x hx).1; have := HS1.out; omega
      clear hend hgv
      obtain ⟨d0, d1⟩ := cells2 rr
      obtain ⟨y0, y1⟩ := cells2 sr
      have f0 := thawed sr 0
      have f1 := thawed sr 1
      have fin : Hid (OwnK w.heap.size (.slice aa n' cc) (stL n' L) ((wr.setCell ⟨w.heap.size + 1, 0, none⟩ (.slice aa n' cc)).setCell ⟨w.heap.size + 1, 1, none⟩ (.int .i64 (stP L))) ∧ Below w.heap.size w ((wr.setCell ⟨w.heap.size + 1, 0, none⟩ (.slice aa n' cc)).setCell ⟨w.heap.size + 1, 1, none⟩ (.int .i64 (stP L)))) :=
        ⟨((HON.out.setCell HSA.out _).setCell HSA.out _).mono (by have := HS1.out; omega), (HBW.out.setCell (by simp) _).setCell (by simp) _⟩
      have HVT : Hid (vv = true) := K.out.symm.trans (decide_eq_true hg)
      have ht := HVT.out
      subst ht
      go_wp2_with fail
      (try simp only [Exit.inBlock, Exit.then])
      refine bodyPost_ret (v := .tuple #[.agg #[.slice aa n' cc, .int .i64 (stP L)], .bool true]) ?_ rfl ⟨_, _, rfl, fin.out.1, fin.out.2⟩
      simp [results, Try.results14, go_sem, y0, y1]

end Go.Proofs.Ytihhcnckoeaihaa
