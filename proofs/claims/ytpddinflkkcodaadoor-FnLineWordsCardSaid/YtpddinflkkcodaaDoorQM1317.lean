/-
  Texts of one proof, merged: CodR.
-/
import Derived.Test.YtpddinflkkcodaaDoorQM131
import Derived.Test.YtpddinflkkcodaaDoorQM135
import Derived.Test.YtpddinflkkcodaaDoorQM1316
import Derived.Laws.EntriesVeiled
import Derived.LoopIn
import Derived.LoopNIn
import Derived.OwnWalkIn
import Derived.RangeFuncBound
import Derived.RangeFuncCalls
import Derived.RangeFuncFrom
import Derived.RangeFuncLeaves
import Derived.RangeFuncNested
import Derived.Shelf.Abstract
import Derived.Shelf.RegionOpen
import Derived.TacticsInMore
import Derived.WalkKit
namespace Go.Proofs.YtpddinflkkcodaaDoor
open Go.RowKit Go.Shelf

set_option linter.unusedVariables false
set_option linter.unusedSimpArgs false

attribute [local go_sem] Oper.semAt_some

/-- What has come of a row from behind when k rounds are over: places and symbols. -/
def backF (u : List Nat) (k : Nat) : List (Int × Fin 16) := (List.range k).map fun j => (((u.length - 1 - j : Nat) : Int), ⟨u.getD (u.length - 1 - j) 0 % 16, Nat.mod_lt _ (by decide)⟩)

theorem backF_succ (u : List Nat) (k : Nat) : backF u (k + 1) = backF u k ++ [(((u.length - 1 - k : Nat) : Int), ⟨u.getD (u.length - 1 - k) 0 % 16, Nat.mod_lt _ (by decide)⟩)] := by simp [backF, List.range_succ]

theorem backF_length (u : List Nat) (k : Nat) : (backF u k).length = k := by simp [backF]

/-- The value when these have come. -/
def valP (x : Nat) (pre : List (Int × Fin 16)) : Nat := pre.foldl (fun v p => gm x v ^^^ p.2.1) 0

theorem valP_snoc (x : Nat) (pre : List (Int × Fin 16)) (p : Int × Fin 16) : valP x (pre ++ [p]) = gm x (valP x pre) ^^^ p.2.1 := by simp [valP]

theorem valP_lt {x : Nat} (hx : x < 16) (pre : List (Int × Fin 16)) : valP x pre < 16 := by
  have : ∀ (l : List (Int × Fin 16)) (v : Nat), v < 16 → l.foldl (fun v p => gm x v ^^^ p.2.1) v < 16 := by
    intro l
    induction l with
    | nil => exact fun v h => h
    | cons p l ih => exact fun v h => ih _ (xor_lt (gm_lt hx h) p.2.2)
  exact this pre 0 (by omega)

theorem valP_back (x : Nat) {u : List Nat} (h : Lt16 u) : ∀ k, k ≤ u.length → valP x (backF u k) = hor x (u.drop (u.length - k))
  | 0, _ => by
    rw [Nat.sub_zero, List.drop_length]
    rfl
  | k + 1, hk => by
    rw [backF_succ, valP_snoc, valP_back x h k (by omega), hor_drop (k := u.length - (k + 1)) (by omega)]
    show _ ^^^ (u.getD (u.length - 1 - k) 0 % 16) = _
    rw [Nat.mod_eq_of_lt (getDn_lt h _), show u.length - (k + 1) + 1 = u.length - k from by omega, show u.length - 1 - k = u.length - (k + 1) from by omega]

theorem valP_all (x : Nat) {u : List Nat} (h : Lt16 u) : valP x (backF u u.length) = hor x u := by
  rw [valP_back x h _ (Nat.le_refl _), Nat.sub_self]
  rfl

/-- What a round must keep: all below, and the block of the iterator's own variable. -/
def KeptB (n₀ B : Nat) (W W' : World) : Prop := Below n₀ W W' ∧ W'.heap[B]? = W.heap[B]?

theorem KeptB.refl (n₀ B : Nat) (W : World) : KeptB n₀ B W W := ⟨Below.refl _ _, rfl⟩

theorem KeptB.trans {n₀ B : Nat} {A W W' : World} (h : KeptB n₀ B A W) (k : KeptB n₀ B W W') : KeptB n₀ B A W' := ⟨h.1.trans k.1, k.2.trans h.2⟩

theorem keptB_b {n₀ B : Nat} {w : World} (hn : n₀ ≤ w.heap.size) (hB : B < w.heap.size) (W : World) (l : Nat) (o o' : Obj) (hl : w.heap.size ≤ l) (h : W.heap[l]? = some o) (h1 : o.isCells = false) (h2 : o.isWalk = false) : KeptB n₀ B W (W.putObj l o') :=
  ⟨belowK_b hn W l o o' hl h h1 h2, (grownBy_putObj' W l o').block B (by have := (Array.getElem?_eq_some_iff.1 h).1; omega) (fun e => by cases e; omega)⟩

theorem cell_of_block {w w' : World} {p : Addr} (h : w'.heap[p.block]? = w.heap[p.block]?) : w'.cell? p = w.cell? p := by
  simp only [World.cell?, h]

theorem three_new (w : World) (oa ob oc : Obj) : (((w.alloc oa).alloc ob).alloc oc).heap[w.heap.size]? = some oa ∧ (((w.alloc oa).alloc ob).alloc oc).heap[w.heap.size + 1]? = some ob ∧ (((w.alloc oa).alloc ob).alloc oc).heap[w.heap.size + 1 + 1]? = some oc ∧ (((w.alloc oa).alloc ob).alloc oc).heap.size = w.heap.size + 3 := by
  have s1 : (w.alloc oa).heap.size = w.heap.size + 1 := by simp
  have s2 : ((w.alloc oa).alloc ob).heap.size = (w.alloc oa).heap.size + 1 := by simp
  have e : ((w.alloc oa).alloc ob).heap.size = w.heap.size + 1 + 1 := by omega
  refine ⟨?_, ?_, ?_, by simp⟩
  · first | exact (heap_alloc_old _ _ _ (by omega)).trans (heap_alloc2_old _ _ _) | exact (heap_alloc_old _ _ (by omega)).trans (heap_alloc2_old _ _ _)
  · first | exact (heap_alloc_old _ _ _ (by omega)).trans (heap_alloc2_new _ _ _) | exact (heap_alloc_old _ _ (by omega)).trans (heap_alloc2_new _ _ _)
  · rw [← e]
    exact heap_alloc_new _ _

theorem keeps_below {W W' : World} (h : Below W.heap.size W W') : KeepsOthers W W' := ⟨h.size, fun k o hk _ => (h.block k (lt_of_block hk)).trans hk⟩

theorem kept_from {W W' : World} {row : Option Nat} {B k : Nat} {o : Obj} (h : W.heap[k]? = some o) (hg : W.grownBy W' row) (hr : ∀ r, row = some r → B ≤ r ∧ ∃ o : Obj, W.heap[r]? = some o ∧ o.isCells = false) (hk : k < B) : W'.heap[k]? = some o :=
  (hg.block k (lt_of_block h) (fun e => by have := (hr k e.symm).1; omega)).trans h

set_option maxRecDepth 100000 in
set_option maxHeartbeats 2000000 in
theorem implBack1_in (F : Fence) (n : Nat) (hf : F.fn 57) (hro : F.round = none) (hn : 1 ≤ n) (lp Bs n₀ b off c : Nat) (u : List Nat) (hu : Lt16 u) (ln : Nat) (hln : u.length = ln) (hlen : ln ≤ 3000000) (hb : b < n₀) (J Jx : List (Int × Fin 16) → World → Prop)
    (hY : ∀ pre x W, J pre W → pre.length < ln → YieldAt F (n - 1) Tryd.prog lp #[.int .i64 x.1, .int .i64 ((x.2.1 : Nat) : Int)] W fun e W' =>
      (e = .returned (.bool true) ∧ J (pre ++ [x]) W' ∧ KeptB n₀ Bs W W') ∨ (e = .returned (.bool false) ∧ Jx (pre ++ [x]) W'))
    (W : World) (hBs : W.cell? ⟨Bs, 0, none⟩ = some (.slice (some ⟨b, off, none⟩) ln c)) (hc : ∀ j, j < ln → W.cell? ⟨b, off + j, none⟩ = some (.int .i64 ((u.getD j 0 : Nat) : Int))) (h0 : J [] W) :
    CallsIn F n Tryd.prog 57 #[.func (.yield lp) #[] #[], .pointer (some ⟨Bs, 0, none⟩)] W fun e W' => (∃ v, e = .returned v) ∧
      ((∃ ys, ys = backF u ln ∧ J ys W') ∨ (∃ pre, (∃ k, k ≤ ln ∧ pre = backF u k) ∧ Jx pre W')) := by
  have w0 : wrap64 ((ln : Int) - 1) = (ln : Int) - 1 := by unfold wrap64; omega
  have e0 : IntKind.i64.wrap ((ln : Int) - 1) = (ln : Int) - 1 := IntWalk.i64_in _ (by omega)
  refine callsIn_of_wp Tryd.func57 rfl hf ?_ hro
  simp only [Tryd.ntmps57, List.size_toArray, List.length_cons, List.length_nil, Nat.reduceAdd, Nat.reduceSub, Array.replicate_succ, Array.replicate_zero, List.push_toArray, List.append_toArray, List.nil_append, List.cons_append]
  gi_wp2
  gi_loopw [3] (fun i wr => ∃ (k : Nat) (z : Int), k ≤ ln ∧ i = .int .i64 z ∧ z + 1 + (k : Int) = (ln : Int) ∧ J (backF u k) wr ∧ KeptB n₀ Bs W wr)
    (fun i _ => (intOf i + 1).toNat)
  case atStart => exact ⟨0, (ln : Int) - 1, Nat.zero_le _, rfl, by omega, h0, KeptB.refl _ _ _⟩
  case round =>
    obtain ⟨k, z, hk, rfl, hz, hJs, hnx⟩ := hrel
    have hBx : wr.cell? ⟨Bs, 0, none⟩ = some (.slice (some ⟨b, off, none⟩) ln c) := (cell_of_block (p := ⟨Bs, 0, none⟩) hnx.2).trans hBs
    by_cases hlt : k < ln
    · obtain ⟨m, rfl⟩ : ∃ m : Nat, z = (m : Int) := ⟨z.toNat, by omega⟩
      have hmk : m + 1 + k = ln := by omega
      have hm : (m : Int) < (ln : Int) := by omega
      have hmn : m < ln := by omega
      have hm0 : decide (0 ≤ (m : Int)) = true := decide_eq_true (by omega)
      have hm0' : (0 : Int) ≤ (m : Int) := by omega
      have w1 : wrap64 ((m : Int) - 1) = (m : Int) - 1 := by unfold wrap64; omega
      have e1 : IntKind.i64.wrap ((m : Int) - 1) = (m : Int) - 1 := IntWalk.i64_in _ (by omega)
      obtain ⟨p, hp⟩ : ∃ p : Fin 16, p.1 = u.getD m 0 := ⟨⟨_, getDn_lt hu m⟩, rfl⟩
      have hcx : wr.cell? ⟨b, off + m, none⟩ = some (.int .i64 ((p.1 : Nat) : Int)) := by rw [hp]; exact (hnx.1.cell (p := ⟨b, off + m, none⟩) hb).trans (hc m hmn)
      have HNX : Hid (backF u (k + 1) = backF u k ++ [((m : Int), p)]) := by
        show _ = _
        rw [backF_succ, show u.length - 1 - k = m by omega]
        have : (⟨u.getD m 0 % 16, Nat.mod_lt _ (by decide)⟩ : Fin 16) = p := Fin.ext (by show _ % 16 = _; rw [hp]; exact Nat.mod_eq_of_lt (getDn_lt hu m))
        rw [this]
      obtain ⟨fn, tmps, assign, body, hy, hR⟩ := hY _ ((m : Int), p) wr hJs (by rw [backF_length]; exact hlt)
      dsimp only at hy
      have HKN := Lib.hid hnx
      clear hc hnx hp
      gi_wp2
      refine hR.mono ?_
      rintro e W3 (⟨rfl, hJ3, hk3⟩ | ⟨rfl, hJx3⟩)
      · gi_wp2
        go_roundw
        case rel => exact ⟨k + 1, (m : Int) - 1, by omega, rfl, by omega, by rw [HNX.out]; exact hJ3, HKN.out.trans hk3⟩
        case measure => simp [intOf] <;> omega
      · gi_wp2
        refine bodyPost_ret (results_none rfl _ _ _) rfl ?_
        exact ⟨⟨_, rfl⟩, .inr ⟨_, ⟨k + 1, by omega, HNX.out.symm⟩, hJx3⟩⟩
    · obtain rfl : k = ln := by omega
      obtain rfl : z = -1 := by omega
      gi_wp2
      go_end0
      exact ⟨⟨_, rfl⟩, .inl ⟨_, rfl, hJs⟩⟩

set_option maxHeartbeats 1000000 in
theorem implBack_in (F : Fence) (n : Nat) (hf : F.fn 56) (hro : F.round = none) (a : Option Addr) (len cap : Nat) (w : World) :
    CallsIn F n Tryd.prog 56 #[.slice a len cap] w fun e w' => e = .returned (.func (.func 57) #[] #[.pointer (some ⟨w.heap.size, 0, none⟩)]) ∧ w' = w.alloc (.cells #[.slice a len cap] 25) := by
  refine callsIn_of_wp Tryd.func56 rfl hf ?_ hro
  simp only [Tryd.ntmps56, List.size_toArray, List.length_cons, List.length_nil, Nat.reduceAdd, Nat.reduceSub, Array.replicate_succ, Array.replicate_zero, List.push_toArray, List.append_toArray, List.nil_append, List.cons_append]
  gi_wp2
  go_ret
  exact ⟨rfl, rfl⟩

theorem implBack_stops (F : Fence) (n : Nat) (hf : F.fn 57) (hro : F.round = none) (hn : 1 ≤ n) (Bs n₀ b off c : Nat) (u : List Nat) (hu : Lt16 u) (ln : Nat) (hln : u.length = ln) (hlen : ln ≤ 3000000) (hb : b < n₀) (w : World) (hBw : Bs < w.heap.size) (hnw : n₀ ≤ w.heap.size)
    (hBs : w.cell? ⟨Bs, 0, none⟩ = some (.slice (some ⟨b, off, none⟩) ln c)) (hc : ∀ j, j < ln → w.cell? ⟨b, off + j, none⟩ = some (.int .i64 ((u.getD j 0 : Nat) : Int))) :
    SeqStopsK F n Tryd.prog 57 #[.pointer (some ⟨Bs, 0, none⟩)] (fun x : Int × Fin 16 => #[Value.int .i64 x.1, Value.int .i64 ((x.2.1 : Nat) : Int)]) (KeptB n₀ Bs) (fun ys => ys = backF u ln) (fun pre => ∃ k, k ≤ ln ∧ pre = backF u k) ln w := fun lp J Jx W hW _ _ hY h0 => by
  refine (implBack1_in F n hf hro hn lp Bs n₀ b off c u hu ln hln hlen hb J Jx hY W ((hW.cell (p := ⟨Bs, 0, none⟩) hBw).trans hBs) (fun j hj => (hW.cell (p := ⟨b, off + j, none⟩) (by show b < _; omega)).trans (hc j hj)) h0).mono ?_
  rintro e W' ⟨he, h⟩
  exact ⟨he, h⟩

set_option maxRecDepth 100000 in
set_option maxHeartbeats 4000000 in
theorem implPoly_is (g o c : Nat) (l : List Int) (u : List Nat) (hu : nats l = u) (hels : Els l) (hlen : l.length = 11) (x : Nat) (hx : x < 16) (y : Nat) (hy : hor x u = y) (w : World) (hr : RowI w (some ⟨g, o, none⟩) l) :
    Calls Tryd.prog 53 #[.slice (some ⟨g, o, none⟩) 11 c, .int .i64 (x : Int)] w (Gives (.int .i64 (y : Int)) w) := by
  have hul : u.length = 11 := by rw [← hu, nats_length]; exact hlen
  have hult : Lt16 u := by rw [← hu]; exact nats_lt hels
  have hc : ∀ j, j < 11 → w.cell? ⟨g, o + j, none⟩ = some (.int .i64 ((u.getD j 0 : Nat) : Int)) := fun j hj => by
    obtain ⟨g', o', he, h⟩ := hr.at (k := j) (by omega)
    cases he
    rw [h, nats_getD hels (by omega), hu]
  have hgw : g < w.heap.size := World.block_lt_of_cell? _ _ (hc 0 (by omega))
  have HC := Lib.hid hc
  have HU := Lib.hid hult
  have HUL := Lib.hid hul
  have HX := Lib.hid hx
  have HY : Hid (valP x (backF u 11) = y) := by show _ = _; rw [← hy, ← hul]; exact valP_all x hult
  have HGW := Lib.hid hgw
  clear hc hult hul hu hels hlen hr hy
  refine (callsIn_wide (n := 6)).1 ?_
  refine callsIn_of_wp_marks Tryd.func53 rfl trivial ?_ rfl
  simp only [Tryd.ntmps53, List.size_toArray, List.length_cons, List.length_nil, Nat.reduceAdd, Nat.reduceSub, Array.replicate_succ, Array.replicate_zero, List.push_toArray, List.append_toArray, List.nil_append, List.cons_append]
  gi_wp2_with fail
  refine ⟨trivial, ?_⟩
  refine (callsIn_wide.2 (implMultiplierBy_is x HX.out _)).mono ?_
  rintro e w1 ⟨gb, rfl, hm, hb1⟩
  have HM1 := Lib.hid hm
  have HB1 := Lib.hid hb1
  clear hm hb1
  gi_wp2_with fail
  refine ⟨trivial, ?_⟩
  refine (implBack_in Fence.wide _ trivial rfl _ _ _ _).mono ?_
  rintro e w2 ⟨rfl, rfl⟩
  gi_wp2_with fail
  obtain ⟨q0, q1, q2, qs⟩ := three_new w1 (.cells #[.func (.func 51) #[] #[.pointer (some ⟨gb, 0, none⟩)]] 58) (.cells #[.int .i64 0] 3) (.cells #[.slice (some ⟨g, o, none⟩) 11 c] 25)
  have hbC : Below w1.heap.size w1 (((w1.alloc (.cells #[.func (.func 51) #[] #[.pointer (some ⟨gb, 0, none⟩)]] 58)).alloc (.cells #[.int .i64 0] 3)).alloc (.cells #[.slice (some ⟨g, o, none⟩) 11 c] 25)) := (((Below.refl _ w1).alloc (Nat.le_refl _) _).alloc (by simp) _).alloc (by simp; omega) _
  generalize ((w1.alloc (.cells #[.func (.func 51) #[] #[.pointer (some ⟨gb, 0, none⟩)]] 58)).alloc (.cells #[.int .i64 0] 3)).alloc (.cells #[.slice (some ⟨g, o, none⟩) 11 c] 25) = wC at q0 q1 q2 qs hbC ⊢
  have hmC := HM1.out.below hbC
  have hg1 : gb < w1.heap.size := lt_of_block HM1.out
  have hw1 : w.heap.size ≤ w1.heap.size := HB1.out.size
  have HBC : Hid (Below w.heap.size w wC) := HB1.out.trans (hbC.mono hw1)
  generalize w1.heap.size = sA at q0 q1 q2 qs hg1 hw1 ⊢
  have hcC : ∀ j, j < 11 → wC.cell? ⟨g, o + j, none⟩ = some (.int .i64 ((u.getD j 0 : Nat) : Int)) := fun j hj => (HBC.out.cell (p := ⟨g, o + j, none⟩) hgw).trans (HC.out j hj)
  refine wpIn_rangeFunc_ownF rfl (by omega) (gf := 57) (lb := #[.pointer (some ⟨sA + 1 + 1, 0, none⟩)]) rfl trivial (enters_of Tryd.func57 (by kernel_rfl) rfl)
    (implBack_stops Fence.wide _ trivial rfl (by omega) (sA + 1 + 1) w.heap.size g o c u HU.out 11 HUL.out (by omega) hgw wC (by omega) (by omega) (cell1 q2) hcC)
    KeptB.trans (keptB_b (by omega) (by omega)) (Below.refl _ _) (fun _ => rfl)
    (fun pre W => W.heap[sA + 1]? = some (.cells #[.int .i64 ((valP x pre : Nat) : Int)] 3) ∧ W.heap[sA]? = some (.cells #[.func (.func 51) #[] #[.pointer (some ⟨gb, 0, none⟩)]] 58) ∧ MulAt W gb x ∧ Below w.heap.size w W ∧ sA + 3 ≤ W.heap.size)
    (fun _ _ _ => False)
    (fun s A B row hs hg hr => ⟨kept_from hs.1 hg hr (by omega), kept_from hs.2.1 hg hr (by omega), kept_from hs.2.2.1 hg hr (by omega), hs.2.2.2.1.grown hg hs.2.2.2.1.size (fun k e => by have := (hr k e).1; omega), Nat.le_trans hs.2.2.2.2 hg.size⟩)
    (fun _ _ _ _ _ hs _ _ => hs)
    ⟨q1, q0, hmC, HBC.out, by omega⟩
    (fun p => { tmps := #[.slice (some ⟨g, o, none⟩) 11 c, .int .i64 (x : Int), undef, undef, .int .i64 0, .pointer (some ⟨sA, 0, none⟩), .pointer (some ⟨sA + 1, 0, none⟩), undef, .int .i64 ((p.2.1 : Nat) : Int), .int .i64 (x : Int), .func (.func 51) #[] #[.pointer (some ⟨gb, 0, none⟩)], .slice (some ⟨g, o, none⟩) 11 c, .func (.func 57) #[] #[.pointer (some ⟨sA + 1 + 1, 0, none⟩)], .int .i64 p.1, .int .i64 ((p.2.1 : Nat) : Int), undef, undef, undef, undef, undef, undef], defers := [] }) ?assign ?body ?done ?stop
  case assign =>
    intro lp p W K hK
    gi_wp2
    exact hK
  case body =>
    rintro lp pre p W ⟨h1, h0, hm, hB, hS⟩ hlt
    have hv := valP_lt hx pre
    have hp := p.2.2
    have HN : Hid (valP x (pre ++ [p]) = gm x (valP x pre) ^^^ p.2.1) := valP_snoc x pre p
    generalize valP x pre = v at h1 hv HN
    generalize p.2.1 = t at hp HN
    have HADD : Hid (gfAdd ((gm x v : Nat) : Int) (t : Int) = ((gm x v ^^^ t : Nat) : Int)) := gfAdd_nat (gm_lt hx hv) hp
    have HV := Lib.hid hv
    have H1 := Lib.hid h1
    have H0 := Lib.hid h0
    have HM := Lib.hid hm
    have HB := Lib.hid hB
    have c0 := cell1 h0
    have c1 := cell1 h1
    clear h1 h0 hm hB hv hp
    gi_wp2_with fail
    refine ⟨trivial, ?_⟩
    refine (CallsIn.inRound lp (callsIn_wide.2 (implBy_is x v HX.out HV.out gb _ HM.out))).mono ?_
    rintro e w5 ⟨rfl, rfl⟩
    gi_wp2_with fail
    refine ⟨trivial, ?_⟩
    refine (CallsIn.inRound lp (callsIn_wide.2 (implGfAdd_is _ _ _ HADD.out _))).mono ?_
    rintro e w6 ⟨rfl, hb6⟩
    have p1 := keep_block hb6 H1.out (lt_of_block H1.out)
    have d1 := cell1 p1
    have f1 := thawed p1 0
    have HB6 := Lib.hid hb6
    clear c0 c1 hb6
    gi_wp2_with fail
    have hs6 := HB6.out.size
    refine ⟨(keeps_below HB6.out).trans (KeepsOthers.setCell _ _ _), ⟨(HB6.out.mono HB.out.size).setCell (by show w.heap.size ≤ sA + 1; omega) _, ?_⟩, ?_, ?_, ?_, ?_, ?_⟩
    · exact (Below.heap_setCell _ _ _ _ (by show sA + 1 + 1 ≠ sA + 1; omega)).trans (HB6.out.block _ (by omega))
    · rw [HN.out]
      exact set_cells p1 0 _
    · exact (Below.heap_setCell _ _ _ _ (by show sA ≠ sA + 1; omega)).trans (keep_block HB6.out H0.out (lt_of_block H0.out))
    · exact (Below.heap_setCell _ _ _ _ (by show gb ≠ sA + 1; omega)).trans (HM.out.below HB6.out)
    · exact (HB.out.trans (HB6.out.mono HB.out.size)).setCell (by show w.heap.size ≤ sA + 1; omega) _
    · show sA + 3 ≤ (w6.setCell _ _).heap.size
      simp
      omega
  case done =>
    rintro D ys W hD rfl ⟨h1, h0, hm, hB, hS⟩ hK
    rw [HY.out] at h1
    have c1 := cell1 h1
    clear h0 hm
    gi_wp2_with fail
    refine ⟨by simp, .inl ⟨_, _, rfl, run_takeDeferred hK, ?_⟩⟩
    exact ⟨_, results_tmp rfl _ _ _, rfl, hB.trans (belowK_b (w := w) (Nat.le_refl _) W D _ _ (by omega) hK rfl rfl)⟩
  case stop =>
    rintro D cc pre W hD _ h _
    exact h.elim

end Go.Proofs.YtpddinflkkcodaaDoor
