/-
  The laws' words on events.
-/
import Derived.Test.YtihhcnckoeaihaaTrcR
import Derived.Test.YtihhcnckoeaihaaTimC
import Derived.Test.YtihhcnckoeaihaaCmdW2
import Derived.Test.YtihhcnckoeaihaaFloat
import Derived.Test.YtihhcnckoeaihaaIntsT
namespace Go.Proofs.Ytihhcnckoeaihaa
open Go.RowKit Go.PlainAid

set_option linter.unusedVariables false

theorem cells5 {w : World} {c : Nat} {v0 v1 v2 v3 v4 : Value} {t : TypeId} {fr : Nat × Nat} (h : w.heap[c]? = some (.cells #[v0, v1, v2, v3, v4] t fr)) :
    w.cell? ⟨c, 0, none⟩ = some v0 ∧ w.cell? ⟨c, 1, none⟩ = some v1 ∧ w.cell? ⟨c, 2, none⟩ = some v2 ∧ w.cell? ⟨c, 3, none⟩ = some v3 ∧ w.cell? ⟨c, 4, none⟩ = some v4 := by
  simp [World.cell?, h]

/-- A whole event is loaded from a variable. -/
theorem ld_ev {ops : Array Oper} {rest : List Oper} {a : Act} {w : World} {Q : Exit → Act → World → Prop} {d : Tmp} {x : Operand} {y : TypeId} {p : String} {af : Array Edge} {gd : Option (Nat × Bool)} {c : Nat} {v0 v1 v2 v3 v4 : Value} {ty : TypeId} {fr : Nat × Nat}
    (hw : Region.wanted ⟨some d, .load 58 x, y, p, af, gd⟩ (yielded ops a.tmps) = true) (hx : a.eval x = .pointer (some ⟨c, 0, none⟩)) (h : w.heap[c]? = some (.cells #[v0, v1, v2, v3, v4] ty fr))
    (k : wpList Try.prog ops Q rest (a.put (some d) (.agg #[v0, v1, v2, v3, v4])) w) : wpList Try.prog ops Q (⟨some d, .load 58 x, y, p, af, gd⟩ :: rest) a w :=
  load_list Try.underlying58 rfl (by kernel_rfl) hw hx h k

set_option maxHeartbeats 2000000 in
theorem toEvent_is (t k x y z : Int) (w : World) :
    Calls Try.prog 32 #[.agg #[.int .i64 t, .int .i64 k, .int .i64 x, .int .i64 y, .int .i64 z]] w (Gives (.agg #[.int .i64 t, .int .i64 k, .int .i64 x, .int .i64 y, .int .i64 z]) w) := by
  obtain ⟨w1, hw1⟩ : ∃ u, ((w.alloc (.cells #[.int .i64 t, .int .i64 k, .int .i64 x, .int .i64 y, .int .i64 z] 68)).alloc (.cells #[.int .i64 0, .int .i64 0, .int .i64 0, .int .i64 0, .int .i64 0] 58)).alloc (.cells #[.int .i64 t, .int .i64 0, .int .i64 0, .int .i64 0, .int .i64 0] 58) = u := ⟨_, rfl⟩
  have HB1 : Hid (Below w.heap.size w w1) := by subst hw1; exact (((Below.refl _ _).alloc (Nat.le_refl _) _).alloc (by simp) _).alloc (by simp; omega) _
  have p1 : w1.heap[w.heap.size]? = some (.cells #[.int .i64 t, .int .i64 k, .int .i64 x, .int .i64 y, .int .i64 z] 68) := by subst hw1; exact box3_0 _ _ _ _
  have s1 : w1.heap[w.heap.size + 1]? = some (.cells #[.int .i64 0, .int .i64 0, .int .i64 0, .int .i64 0, .int .i64 0] 58) := by subst hw1; exact box3_1 _ _ _ _
  have o1 : w1.heap[w.heap.size + 1 + 1]? = some (.cells #[.int .i64 t, .int .i64 0, .int .i64 0, .int .i64 0, .int .i64 0] 58) := by subst hw1; exact box3_2 _ _ _ _
  obtain ⟨c0, c1, c2, c3, c4⟩ := cells5 p1
  go_enter Try.func32, Try.ntmps32
  go_wp2_with fail
  refine (toCommand_any _ _ _ _ _).mono ?_
  rintro e w2 ⟨rfl, hb2⟩
  have s2 := keep_block hb2 s1 (lt_of_block s1)
  have o2 := keep_block hb2 o1 (lt_of_block o1)
  have HB2 : Hid (Below w.heap.size w w2) := HB1.out.trans (hb2.mono HB1.out.size)
  clear hb2 s1 o1 p1 hw1 HB1 c0 c1 c2 c3 c4
  obtain ⟨x0, x1, x2, x3, x4⟩ := cells5 o2
  have f1 := thawed o2 1
  have f2 := thawed o2 2
  have f3 := thawed o2 3
  have f4 := thawed o2 4
  have o3 := set_cells (set_cells (set_cells (set_cells o2 1 (.int .i64 k)) 2 (.int .i64 x)) 3 (.int .i64 y)) 4 (.int .i64 z)
  have s3 := (Below.heap_setCell _ ⟨w.heap.size + 1 + 1, 4, none⟩ (.int .i64 z) (w.heap.size + 1) (by simp)).trans ((Below.heap_setCell _ ⟨w.heap.size + 1 + 1, 3, none⟩ (.int .i64 y) (w.heap.size + 1) (by simp)).trans ((Below.heap_setCell _ ⟨w.heap.size + 1 + 1, 2, none⟩ (.int .i64 x) (w.heap.size + 1) (by simp)).trans ((Below.heap_setCell w2 ⟨w.heap.size + 1 + 1, 1, none⟩ (.int .i64 k) (w.heap.size + 1) (by simp)).trans s2)))
  have HB3 : Hid (Below w.heap.size w ((((w2.setCell ⟨w.heap.size + 1 + 1, 1, none⟩ (.int .i64 k)).setCell ⟨w.heap.size + 1 + 1, 2, none⟩ (.int .i64 x)).setCell ⟨w.heap.size + 1 + 1, 3, none⟩ (.int .i64 y)).setCell ⟨w.heap.size + 1 + 1, 4, none⟩ (.int .i64 z))) :=
    (((HB2.out.setCell (by simp; omega) _).setCell (by simp; omega) _).setCell (by simp; omega) _).setCell (by simp; omega) _
  go_wp2_with (first | ((with_reducible refine ld_ev ?_ ?_ o3 ?_); kernel_rfl; kernel_rfl; go_simp) | ((with_reducible refine store_list (cells := #[.int .i64 t, .int .i64 k, .int .i64 x, .int .i64 y, .int .i64 z]) s3 ?_ ?_ ?_ ?_ ?_ ?_); kernel_rfl; kernel_rfl; kernel_rfl; kernel_rfl; kernel_rfl))
  have hr := setRow_same _ _ #[.int .i64 t, .int .i64 k, .int .i64 x, .int .i64 y, .int .i64 z] _ _ s3
  refine bodyPost_ret (v := .agg #[.int .i64 t, .int .i64 k, .int .i64 x, .int .i64 y, .int .i64 z]) (results_cell_row rfl _ _ (w.heap.size + 1) 58 #[.int .i64 t, .int .i64 k, .int .i64 x, .int .i64 y, .int .i64 z] (0, 0) _ rfl hr Try.underlying58 rfl (by kernel_rfl)) rfl ⟨rfl, ?_⟩
  exact below_setRow HB3.out (by omega) _

theorem szEventS_is (ad : Option Addr) (n cap : Nat) (k v : Int) (hn : n ≤ maxLen) (h0 : 0 ≤ k) (hk : k ≤ 1048576) (hv : (if k - n < 0 then -1 else k - n) = v) (w : World) :
    Calls Try.prog 6 #[.slice ad n cap, .int .i64 k] w (Gives (.int .i64 v) w) := by
  have HV := Lib.hid hv
  unfold maxLen at hn
  have e1 : IntKind.i64.wrap (k - (n : Int)) = k - (n : Int) := IntWalk.i64_in _ ⟨by omega, by omega⟩
  clear hv
  by_cases hlt : k - (n : Int) < 0
  · have HE : Hid (v = -1) := by show _ = _; rw [← HV.out]; exact if_pos hlt
    go_enter Try.func6, Try.ntmps6
    go_wp2
    go_ret
    exact ⟨ret_i HE.out.symm, Below.refl _ _⟩
  · have HE : Hid (v = k - n) := by show _ = _; rw [← HV.out]; exact if_neg hlt
    have hge : 0 ≤ k - (n : Int) := by omega
    go_enter Try.func6, Try.ntmps6
    go_wp2
    go_ret
    exact ⟨ret_i HE.out.symm, Below.refl _ _⟩

set_option maxHeartbeats 2000000 in
theorem eqEvent_is (t k x y z : Int) (w : World) :
    Calls Try.prog 38 #[.agg #[.int .i64 t, .int .i64 k, .int .i64 x, .int .i64 y, .int .i64 z], .agg #[.int .i64 t, .int .i64 k, .int .i64 x, .int .i64 y, .int .i64 z]] w (Gives (.bool true) w) := by
  obtain ⟨w1, hw1⟩ : ∃ u, (w.alloc (.cells #[.int .i64 t, .int .i64 k, .int .i64 x, .int .i64 y, .int .i64 z] 58)).alloc (.cells #[.int .i64 t, .int .i64 k, .int .i64 x, .int .i64 y, .int .i64 z] 58) = u := ⟨_, rfl⟩
  have HB1 : Hid (Below w.heap.size w w1) := by subst hw1; exact ((Below.refl _ _).alloc (Nat.le_refl _) _).alloc (by simp) _
  have p1 : w1.heap[w.heap.size]? = some (.cells #[.int .i64 t, .int .i64 k, .int .i64 x, .int .i64 y, .int .i64 z] 58) := by subst hw1; exact heap_alloc2_old _ _ _
  have s1 : w1.heap[w.heap.size + 1]? = some (.cells #[.int .i64 t, .int .i64 k, .int .i64 x, .int .i64 y, .int .i64 z] 58) := by subst hw1; exact heap_alloc2_new _ _ _
  obtain ⟨c0, c1, c2, c3, c4⟩ := cells5 p1
  obtain ⟨d0, d1, d2, d3, d4⟩ := cells5 s1
  have t1 : (t != t) = false := by simp
  go_enter Try.func38, Try.ntmps38
  go_wp2_with fail
  refine (eqCommand_same _ _ _ _ _).mono ?_
  rintro e w2 ⟨rfl, hb2⟩
  have HB2 : Hid (Below w.heap.size w w2) := HB1.out.trans (hb2.mono HB1.out.size)
  clear hb2
  go_wp2
  go_ret
  exact ⟨rfl, HB2.out⟩

set_option maxHeartbeats 2000000 in
/-- Two rows of events that are alike. -/
theorem eqEventS_is {a b : Option Addr} {ca cb : Nat} {l : List Ev} {w : World} {n : Nat} (hn : l.length = n) (ha : evK.Row w a l) (hb : evK.Row w b l) (hl : (n : Int) ≤ 9223372036854775807) :
    Calls Try.prog 12 #[.slice a n ca, .slice b n cb] w (Gives (.bool true) w) := by
  have HN := Lib.hid hn
  have HA := Lib.hid ha
  have HB := Lib.hid hb
  clear hn ha hb
  go_enter Try.func12, Try.ntmps12
  go_wp2_with fail
  go_loopw [5] (fun i wr => ∃ k : Nat, k ≤ n ∧ i = .int .i64 k ∧ Below w.heap.size w wr) (fun i _ => n - (intOf i).toNat)
  case atStart => exact ⟨0, Nat.zero_le _, rfl, Below.refl _ _⟩
  case round =>
    obtain ⟨m, hm, rfl, hbr⟩ := hrel
    have HBR := Lib.hid hbr
    clear hbr
    by_cases hlt : m < n
    · obtain ⟨ba, oa, rfl, a0, a1, a2, a3, a4⟩ := ev_at (HA.out.below HBR.out) (i := m) (by rw [HN.out]; exact hlt)
      obtain ⟨bb, ob, rfl, b0, b1, b2, b3, b4⟩ := ev_at (HB.out.below HBR.out) (i := m) (by rw [HN.out]; exact hlt)
      obtain ⟨e, he⟩ : ∃ e, l.getD m ev0 = e := ⟨_, rfl⟩
      rw [he] at a0 a1 a2 a3 a4 b0 b1 b2 b3 b4
      clear he
      have za0 := fun q : Later wr => q.cell a0
      have za1 := fun q : Later wr => q.cell a1
      have za2 := fun q : Later wr => q.cell a2
      have za3 := fun q : Later wr => q.cell a3
      have za4 := fun q : Later wr => q.cell a4
      have zb0 := fun q : Later wr => q.cell b0
      have zb1 := fun q : Later wr => q.cell b1
      have zb2 := fun q : Later wr => q.cell b2
      have zb3 := fun q : Later wr => q.cell b3
      have zb4 := fun q : Later wr => q.cell b4
      clear a0 a1 a2 a3 a4 b0 b1 b2 b3 b4
      go_wp2_with fail
      refine wp_region_later (by kernel_rfl) (by kernel_rfl) ?_
      repeat (go_big_quiet_step ((go_at_call 38; exact Gives.later _ (eqEvent_is _ _ _ _ _ _))))
      refine wpQuiet_nil ?_
      rintro w2 ⟨zz, hz⟩
      have HB2 : Hid (Below w.heap.size w w2) := HBR.out.trans ((hz ▸ zz.ok : Below wr.heap.size wr w2).mono HBR.out.size)
      clear za0 za1 za2 za3 za4 zb0 zb1 zb2 zb3 zb4 hz zz
      go_wp2
      go_roundw
      case rel => exact ⟨m + 1, by omega, by go_num, HB2.out⟩
      case measure => simp [intOf]; omega
    · go_wp2_with fail
      go_ret
      exact ⟨rfl, HBR.out⟩

set_option maxHeartbeats 2000000 in
set_option maxRecDepth 100000 in
theorem toEventS_is (ad : Option Addr) (n cap : Nat) (zs : List Ev) (hz : zs.length = n) (h1 : n ≤ 3000000) (w : World) (hr : evK.Row w ad zs) :
    Calls Try.prog 10 #[.slice ad n cap] w fun e w' => ∃ a c, e = .returned (.slice a n c) ∧ evK.Own 58 w.heap.size (.slice a n c) zs w' ∧ Below w.heap.size w w' := by
  have HZ := Lib.hid hz
  have HR := Lib.hid hr
  clear hz hr
  obtain ⟨i0, hi, hz0, hz1, hz2⟩ := info_parts infoE
  go_enter Try.func10, Try.ntmps10
  go_wp2_with (at_make; refine wpList_make_full _ rfl _ _ 34 rfl w.heap.size 58 i0 (.agg #[.int .i64 0, .int .i64 0, .int .i64 0, .int .i64 0, .int .i64 0]) 5 Try.underlying34 hi hz0 hz1 _ _ _ _ n rfl rfl rfl rfl (by rw [hz2]; omega) (by unfold maxLen; omega) (Nat.le_refl _) ?_)
  intro w1 hown hgr
  have hb1 : Below w.heap.size w w1 := (Below.refl _ _).grown hgr (Nat.le_refl _) (fun k hk => by cases hk)
  have hO : Hid (evK.Own 58 w.heap.size (.slice (some ⟨w.heap.size, 0, none⟩) n n) (zs.take 0 ++ List.replicate (n - 0) ev0) w1) := by
    show World.ownsRow _ _ _ _ _ _ _
    have hmd : (madeCells #[.int .i64 0, .int .i64 0, .int .i64 0, .int .i64 0, .int .i64 0] (n * 5)).toList = (List.replicate n ev0).flatMap evK.vs := evK.made n
    rw [show (zs.take 0 ++ List.replicate (n - 0) ev0 : List Ev) = List.replicate n ev0 by simp, List.length_replicate, ← hmd]
    exact hown
  have HB1 := Lib.hid hb1
  clear hgr hown hb1
  go_wp2_with fail
  go_loopw [4] (fun i wr => ∃ k : Nat, k ≤ n ∧ i = .int .i64 k ∧ evK.Own 58 w.heap.size (.slice (some ⟨w.heap.size, 0, none⟩) n n) (zs.take k ++ List.replicate (n - k) ev0) wr ∧ Below w.heap.size w wr) (fun i _ => n - (intOf i).toNat)
  case atStart => exact ⟨0, Nat.zero_le _, rfl, hO.out, HB1.out⟩
  case round =>
    obtain ⟨m, hm, rfl, hown, hbk⟩ := hrel
    have HB2 := Lib.hid hbk
    have HO2 := Lib.hid hown
    clear hbk hO HB1 hown
    by_cases hlt : m < n
    · have hlen : (zs.take m ++ List.replicate (n - m) ev0).length = n := by have := HZ.out; simp; omega
      have HL := Lib.hid hlen
      have HST := Lib.hid (take_setG ev0 zs n m HZ.out hlt)
      obtain ⟨pb, off, rfl, a0, a1, a2, a3, a4⟩ := ev_at (HR.out.below HB2.out) (i := m) (by rw [HZ.out]; exact hlt)
      obtain ⟨e, he⟩ : ∃ e, zs.getD m ev0 = e := ⟨_, rfl⟩
      rw [he] at a0 a1 a2 a3 a4 HST
      clear hlen he
      go_wp2_with fail
      refine (toEvent_is e.t e.k e.x e.y e.z _).mono ?_
      rintro e' w3 ⟨rfl, hb3⟩
      have HO3 : Hid (evK.Own 58 w.heap.size (.slice (some ⟨w.heap.size, 0, none⟩) n n) (zs.take m ++ List.replicate (n - m) ev0) w3) := HO2.out.below hb3
      have HB3 : Hid (Below w.heap.size w w3) := HB2.out.trans (hb3.mono HB2.out.size)
      obtain ⟨g, hg, hc, hf, hB, hgl⟩ := HO3.out.at (i := m) (by rw [HL.out]; exact hlt)
      obtain rfl : w.heap.size = g := by simpa using hg
      obtain ⟨c0, c1, c2, c3, c4⟩ := ev_cells hc
      have f0 := hf (m * 5)
      have f1 := hf (m * 5 + 1)
      have f2 := hf (m * 5 + 2)
      have f3 := hf (m * 5 + 3)
      have f4 := hf (m * 5 + 4)
      obtain ⟨u0, k0⟩ : ∃ u, w3.cell? ⟨w.heap.size, m * 5, none⟩ = some u := ⟨_, c0⟩
      obtain ⟨u1, k1⟩ : ∃ u, w3.cell? ⟨w.heap.size, m * 5 + 1, none⟩ = some u := ⟨_, c1⟩
      obtain ⟨u2, k2⟩ : ∃ u, w3.cell? ⟨w.heap.size, m * 5 + 2, none⟩ = some u := ⟨_, c2⟩
      obtain ⟨u3, k3⟩ : ∃ u, w3.cell? ⟨w.heap.size, m * 5 + 3, none⟩ = some u := ⟨_, c3⟩
      obtain ⟨u4, k4⟩ : ∃ u, w3.cell? ⟨w.heap.size, m * 5 + 4, none⟩ = some u := ⟨_, c4⟩
      clear c0 c1 c2 c3 c4 hf hc a0 a1 a2 a3 a4 hb3 HB2 HO2 hg
      go_wp2_with fail
      have R : evK.Own 58 w.heap.size (.slice (some ⟨w.heap.size, 0, none⟩) n n) (zs.take (m + 1) ++ List.replicate (n - (m + 1)) ev0) (putW w3 w.heap.size (m * 5) (evK.vs e)) := by
        rw [← HST.out]
        exact HO3.out.put HL.out hlt e
      go_roundw
      case rel => exact ⟨m + 1, by omega, by go_num, R, putW_below (Nat.le_refl _) (evK.vs e) _ _ (m * 5) HB3.out⟩
      case measure => simp [intOf]; omega
    · obtain rfl : m = n := by omega
      go_wp2_with fail
      go_ret
      have hO2 := HO2.out
      have hzk := HZ.out
      rw [Nat.sub_self, List.replicate_zero, List.append_nil, List.take_of_length_le (by omega)] at hO2
      exact ⟨_, _, rfl, hO2, HB2.out⟩

set_option maxHeartbeats 4000000 in
set_option maxRecDepth 100000 in
/-- Marks are written over a row of the call's own: only its block turns. -/
theorem markEventS_is {B : Nat} {a : Option Addr} {c : Nat} {l : List Ev} {w : World} {n : Nat} (hn : l.length = n) (h : evK.Own 58 B (.slice a n c) l w) (k0 : Nat) (h1 : k0 + n ≤ 1000000000) (g0 : Nat) (hg0 : ∀ x, a = some x → x.block = g0) :
    Calls Try.prog 16 #[.slice a n c, .int .i64 k0] w fun e w' => e = .returned (.int .i64 ((k0 + 5 * n : Nat) : Int)) ∧ Only g0 w w' := by
  have HN := Lib.hid hn
  have HO := Lib.hid h
  have HG0 := Lib.hid hg0
  clear hn h hg0
  go_enter Try.func16, Try.ntmps16
  go_wp2_with fail
  go_loopw [1, 5] (fun q i wr => ∃ k : Nat, k ≤ n ∧ i = .int .i64 k ∧ q = .int .i64 ((k0 + 5 * k : Nat) : Int) ∧ (∃ l' : List Ev, l'.length = n ∧ evK.Own 58 B (.slice a n c) l' wr) ∧ Only g0 w wr) (fun _ i _ => n - (intOf i).toNat)
  case atStart => exact ⟨0, Nat.zero_le _, rfl, rfl, ⟨l, HN.out, HO.out⟩, Only.refl _ _⟩
  case round =>
    obtain ⟨m, hm, rfl, rfl, ⟨l', hl', hown⟩, hok⟩ := hrel
    have HO2 := Lib.hid hown
    have HK2 := Lib.hid hok
    have HL := Lib.hid hl'
    clear hown hok hl' HO
    by_cases hlt : m < n
    · obtain ⟨g, rfl, hc, hf, hB, hgl⟩ := HO2.out.at (i := m) (by rw [HL.out]; exact hlt)
      have HGG : Hid (g = g0) := HG0.out _ rfl
      obtain ⟨q, hq⟩ : ∃ q : Int, ((k0 + 5 * m : Nat) : Int) = q := ⟨_, rfl⟩
      have HS : Hid (((k0 + 5 * (m + 1) : Nat) : Int) = q + 1 + 1 + 1 + 1 + 1) := by show _ = _; omega
      have hq0 : 0 ≤ q ∧ q ≤ 8000000000 := by omega
      have e1 : IntKind.i64.wrap (q + 1) = q + 1 := IntWalk.i64_in _ (by omega)
      have e2 : IntKind.i64.wrap (q + 1 + 1) = q + 1 + 1 := IntWalk.i64_in _ (by omega)
      have e3 : IntKind.i64.wrap (q + 1 + 1 + 1) = q + 1 + 1 + 1 := IntWalk.i64_in _ (by omega)
      have e4 : IntKind.i64.wrap (q + 1 + 1 + 1 + 1) = q + 1 + 1 + 1 + 1 := IntWalk.i64_in _ (by omega)
      have e5 : IntKind.i64.wrap (q + 1 + 1 + 1 + 1 + 1) = q + 1 + 1 + 1 + 1 + 1 := IntWalk.i64_in _ (by omega)
      rw [hq]
      clear hq
      obtain ⟨c0, c1, c2, c3, c4⟩ := ev_cells hc
      have f0 := hf (m * 5)
      have f1 := hf (m * 5 + 1)
      have f2 := hf (m * 5 + 2)
      have f3 := hf (m * 5 + 3)
      have f4 := hf (m * 5 + 4)
      obtain ⟨v0, k0'⟩ : ∃ u, wr.cell? ⟨g, m * 5, none⟩ = some u := ⟨_, c0⟩
      obtain ⟨v1, k1⟩ : ∃ u, wr.cell? ⟨g, m * 5 + 1, none⟩ = some u := ⟨_, c1⟩
      obtain ⟨v2, k2⟩ : ∃ u, wr.cell? ⟨g, m * 5 + 2, none⟩ = some u := ⟨_, c2⟩
      obtain ⟨v3, k3⟩ : ∃ u, wr.cell? ⟨g, m * 5 + 3, none⟩ = some u := ⟨_, c3⟩
      obtain ⟨v4, k4⟩ : ∃ u, wr.cell? ⟨g, m * 5 + 4, none⟩ = some u := ⟨_, c4⟩
      clear c0 c1 c2 c3 c4 hf hc
      go_wp2_with fail
      have R2 : Hid (evK.Own 58 B (.slice (some ⟨g, 0, none⟩) n c) (l'.set m ⟨q, q + 1, q + 1 + 1, q + 1 + 1 + 1, q + 1 + 1 + 1 + 1⟩) (putW wr g (m * 5) (evK.vs ⟨q, q + 1, q + 1 + 1, q + 1 + 1 + 1, q + 1 + 1 + 1 + 1⟩))) :=
        HO2.out.put HL.out hlt _
      have HK3 : Hid (Only g0 w (putW wr g (m * 5) (evK.vs ⟨q, q + 1, q + 1 + 1, q + 1 + 1 + 1, q + 1 + 1 + 1 + 1⟩))) :=
        ((((HK2.out.setCell (p := ⟨g, m * 5, none⟩) HGG.out _).setCell (p := ⟨g, m * 5 + 1, none⟩) HGG.out _).setCell (p := ⟨g, m * 5 + 2, none⟩) HGG.out _).setCell (p := ⟨g, m * 5 + 3, none⟩) HGG.out _).setCell (p := ⟨g, m * 5 + 4, none⟩) HGG.out _
      go_roundw
      case rel => exact ⟨m + 1, by omega, by go_num, by rw [HS.out], ⟨_, by rw [List.length_set]; exact HL.out, R2.out⟩, HK3.out⟩
      case measure => simp [intOf]; omega
    · obtain rfl : m = n := by omega
      go_wp2_with fail
      go_ret
      exact ⟨rfl, HK2.out⟩

end Go.Proofs.Ytihhcnckoeaihaa
