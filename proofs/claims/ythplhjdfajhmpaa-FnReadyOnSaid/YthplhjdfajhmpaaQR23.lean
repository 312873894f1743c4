/-
  Texts of one proof, merged: RdyY, RdyT, RdyW, RdyZ, RdyB, RdyN.
-/
import Derived.Test.YthplhjdfajhmpaaQR14
import Derived.Test.YthplhjdfajhmpaaQR17
import Derived.Test.YthplhjdfajhmpaaQR18
import Derived.Test.YthplhjdfajhmpaaQR19
import Derived.Test.YthplhjdfajhmpaaQR21
import Derived.Test.YthplhjdfajhmpaaQR22
import Derived.Laws.AppendOwnNone
namespace Go.Proofs.Ythplhjdfajhmpaa
open Go.RowKit Go.PlainAid

set_option linter.unusedVariables false

set_option maxHeartbeats 8000000 in
set_option maxRecDepth 100000 in
theorem implAccepts_is (g0 B g2 g3 : Int) (N : Nat) (hN : bankN g0 B g2 g3 = (N : Int)) (a1 : Option Addr) (n1 c1 : Nat) (la : List Int) (a2 : Option Addr) (n2 c2 : Nat) (ac : List Int) (e : Ev) (v : Bool) (hv : decide (CanAdd g0 B g2 g3 N la ac e) = v) (hl1 : la.length = n1) (h1 : n1 ≤ 3000000) (hl2 : ac.length = n2) (h2 : n2 ≤ 3000000) (hc1 : n1 ≤ c1) (w : World) (hr1 : RowI w a1 la) (hr2 : RowI w a2 ac) :
    Calls Try.prog 46 #[.agg #[.slice a1 n1 c1, .slice a2 n2 c2], .agg #[.int .i64 g0, .int .i64 B, .int .i64 g2, .int .i64 g3], .agg #[.int .i64 e.t, .int .i64 e.k, .int .i64 e.x, .int .i64 e.y, .int .i64 e.z]] w (Gives (.bool v) w) := by
  obtain ⟨w1, hw1⟩ : ∃ u, ((w.alloc (.cells #[.slice a1 n1 c1, .slice a2 n2 c2] 33)).alloc (.cells #[.int .i64 g0, .int .i64 B, .int .i64 g2, .int .i64 g3] 25)).alloc (.cells #[.int .i64 e.t, .int .i64 e.k, .int .i64 e.x, .int .i64 e.y, .int .i64 e.z] 41) = u := ⟨_, rfl⟩
  have HB1 : Hid (Below w.heap.size w w1) := by subst hw1; exact (((Below.refl _ _).alloc (Nat.le_refl _) _).alloc (by simp) _).alloc (by simp; omega) _
  have p1 : w1.heap[w.heap.size]? = some (.cells #[.slice a1 n1 c1, .slice a2 n2 c2] 33) := by subst hw1; exact box3_0 _ _ _ _
  have g1 : w1.heap[w.heap.size + 1]? = some (.cells #[.int .i64 g0, .int .i64 B, .int .i64 g2, .int .i64 g3] 25) := by subst hw1; exact box3_1 _ _ _ _
  have e1 : w1.heap[w.heap.size + 1 + 1]? = some (.cells #[.int .i64 e.t, .int .i64 e.k, .int .i64 e.x, .int .i64 e.y, .int .i64 e.z] 41) := by subst hw1; exact box3_2 _ _ _ _
  have HR1 := Lib.hid (hr1.below HB1.out)
  have HR2 := Lib.hid (hr2.below HB1.out)
  have HN := Lib.hid hN
  have HV := Lib.hid hv
  have HL1 := Lib.hid hl1
  have HL2 := Lib.hid hl2
  obtain ⟨rv, hrv⟩ : ∃ rv, decide (RdOk g0 B g2 g3 N la ac) = rv := ⟨_, rfl⟩
  have HRV := Lib.hid hrv
  obtain ⟨cv, hcv⟩ : ∃ cv, decide (CmOk e.k e.x e.y e.z ∧ AdOk g0 B g2 g3 e.x e.y e.z) = cv := ⟨_, rfl⟩
  have HCV := Lib.hid hcv
  obtain ⟨c0, c1', c2', c3⟩ := cells4 g1
  obtain ⟨d0, d1⟩ := cells2 p1
  obtain ⟨q0, q1, q2, q3, q4⟩ := cells5 e1
  clear hr1 hr2 hv hN hl1 hl2 hrv hcv
  go_enter Try.func46, Try.ntmps46
  go_wp2_with fail
  refine (implReadyOk_is _ _ _ _ N HN.out _ n1 _ la _ n2 _ ac rv HRV.out HL1.out h1 HL2.out h2 hc1 _ HR1.out HR2.out).mono ?_
  rintro e' w2 ⟨rfl, hb2⟩
  have p2 := keep_block hb2 p1 (lt_of_block p1)
  have g2' := keep_block hb2 g1 (lt_of_block g1)
  have e2 := keep_block hb2 e1 (lt_of_block e1)
  have HB2 : Hid (Below w.heap.size w w2) := HB1.out.trans (hb2.mono HB1.out.size)
  have HX2 := Lib.hid (HR2.out.below hb2)
  clear hb2 c0 c1' c2' c3 d0 d1 q0 q1 q2 q3 q4 p1 g1 e1 HB1 HR1 HR2 hw1
  obtain ⟨c0, c1', c2', c3⟩ := cells4 g2'
  obtain ⟨d0, d1⟩ := cells2 p2
  obtain ⟨q0, q1, q2, q3, q4⟩ := cells5 e2
  cases rv
  case false =>
    have HE : Hid (false = v) := by show _ = _; rw [← HV.out]; exact (decide_eq_false (fun h => of_decide_eq_false HRV.out h.1)).symm
    go_wp2_with fail
    go_ret
    exact ⟨ret_b HE.out, HB2.out⟩
  have HRO : Hid (RdOk g0 B g2 g3 N la ac) := (of_decide_eq_true HRV.out : RdOk g0 B g2 g3 N la ac)
  go_wp2_with fail
  refine (implCommandOk_is g0 B g2 g3 e.k e.x e.y e.z cv HCV.out _).mono ?_
  rintro e' w3 ⟨rfl, hb3⟩
  have p3 := keep_block hb3 p2 (lt_of_block p2)
  have e3 := keep_block hb3 e2 (lt_of_block e2)
  have HB3 : Hid (Below w.heap.size w w3) := HB2.out.trans (hb3.mono HB2.out.size)
  have HX3 := Lib.hid (HX2.out.below hb3)
  clear hb3 c0 c1' c2' c3 d0 d1 q0 q1 q2 q3 q4 p2 g2' e2 HB2 HX2
  obtain ⟨d0, d1⟩ := cells2 p3
  obtain ⟨q0, q1, q2, q3, q4⟩ := cells5 e3
  cases cv
  case false =>
    have HE : Hid (false = v) := by show _ = _; rw [← HV.out]; exact (decide_eq_false (fun h => of_decide_eq_false HCV.out h.2.1)).symm
    go_wp2_with fail
    go_ret
    exact ⟨ret_b HE.out, HB3.out⟩
  have HCO : Hid (CmdIn g0 B g2 g3 e) := (of_decide_eq_true HCV.out : CmOk e.k e.x e.y e.z ∧ AdOk g0 B g2 g3 e.x e.y e.z)
  by_cases hT0 : e.t < 0
  case pos =>
    have HE : Hid (false = v) := by show _ = _; rw [← HV.out]; exact (decide_eq_false (fun h => by have := h.2.2.1.1; omega)).symm
    have t0 : decide (e.t < 0) = true := decide_eq_true hT0
    clear hT0
    go_wp2_with fail
    go_ret
    exact ⟨ret_b HE.out, HB3.out⟩
  have t0 : decide (e.t < 0) = false := decide_eq_false hT0
  by_cases hT1 : 1000000 < e.t
  case pos =>
    have HE : Hid (false = v) := by show _ = _; rw [← HV.out]; exact (decide_eq_false (fun h => by have := h.2.2.1.2; omega)).symm
    have t1 : decide (1000000 < e.t) = true := decide_eq_true hT1
    clear hT0 hT1
    go_wp2_with fail
    go_ret
    exact ⟨ret_b HE.out, HB3.out⟩
  have t1 : decide (1000000 < e.t) = false := decide_eq_false hT1
  have HX : Hid (decide (¬ (e.k = 1 ∧ 0 < ac.length ∧ e.t ≤ ac.getD (ac.length - 1) 0)) = v) := by
    show _ = _
    rw [← HV.out]
    exact decide_eq_decide.2 ⟨fun h => ⟨HRO.out, HCO.out, ⟨by omega, by omega⟩, h⟩, fun h => h.2.2.2⟩
  have zd0 := fun q : Later w3 => q.cell d0
  have zd1 := fun q : Later w3 => q.cell d1
  have zq0 := fun q : Later w3 => q.cell q0
  have zq1 := fun q : Later w3 => q.cell q1
  have zq2 := fun q : Later w3 => q.cell q2
  have zq3 := fun q : Later w3 => q.cell q3
  have zq4 := fun q : Later w3 => q.cell q4
  by_cases hk1 : e.k = 1
  case neg =>
    have tk : (e.k != 1) = true := by simp [hk1]
    have HE : Hid (true = v) := by show _ = _; rw [← HX.out]; exact (decide_eq_true (p := ¬ (e.k = 1 ∧ 0 < ac.length ∧ e.t ≤ ac.getD (ac.length - 1) 0)) (fun h => hk1 h.1)).symm
    clear hk1 hT0 hT1
    go_wp2_with fail
    refine wp_region_later (by kernel_rfl) (by kernel_rfl) ?_
    repeat (go_big_quiet_step (fail))
    refine wpQuiet_nil ?_
    rintro w4 ⟨zz, rfl⟩
    have HB4 : Hid (Below w.heap.size w zz.to) := HB3.out.trans (zz.ok.mono HB3.out.size)
    go_wp2_with fail
    go_ret
    exact ⟨ret_b HE.out, HB4.out⟩
  have tk : (e.k != 1) = false := by simp [hk1]
  by_cases hn0 : n2 = 0
  case pos =>
    have tn : ((n2 : Int) == 0) = true := by simp [hn0]
    have tn' : (n2 == 0) = true := by simp [hn0]
    have HE : Hid (true = v) := by show _ = _; rw [← HX.out]; exact (decide_eq_true (p := ¬ (e.k = 1 ∧ 0 < ac.length ∧ e.t ≤ ac.getD (ac.length - 1) 0)) (fun h => by have := h.2.1; have := HL2.out; omega)).symm
    clear hk1 hT0 hT1 hn0
    go_wp2_with fail
    refine wp_region_later (by kernel_rfl) (by kernel_rfl) ?_
    repeat (go_big_quiet_step (fail))
    refine wpQuiet_nil ?_
    rintro w4 ⟨zz, rfl⟩
    have HB4 : Hid (Below w.heap.size w zz.to) := HB3.out.trans (zz.ok.mono HB3.out.size)
    go_wp2_with fail
    go_ret
    exact ⟨ret_b HE.out, HB4.out⟩
  have tn : ((n2 : Int) == 0) = false := by rw [beq_eq_false_iff_ne]; omega
  have tn' : (n2 == 0) = false := by rw [beq_eq_false_iff_ne]; exact hn0
  have hlt : n2 - 1 < n2 := by omega
  have wn : IntKind.i64.wrap ((n2 : Int) - 1) = ((n2 - 1 : Nat) : Int) := by rw [IntWalk.i64_in _ (by omega)]; omega
  obtain ⟨b, off, rfl, hc⟩ := HX3.out.at (k := n2 - 1) (by rw [HL2.out]; exact hlt)
  obtain ⟨A, hA⟩ : ∃ A, ac.getD (n2 - 1) 0 = A := ⟨_, rfl⟩
  rw [hA] at hc
  have HE : Hid (decide (A < e.t) = v) := by
    show _ = _
    rw [← HX.out]
    refine decide_eq_decide.2 ⟨fun h hh => ?_, fun h => ?_⟩
    · have := hh.2.2
      rw [HL2.out, hA] at this
      omega
    · rcases Int.lt_or_le A e.t with h3 | h3
      · exact h3
      · exact absurd ⟨hk1, by rw [HL2.out]; omega, by rw [HL2.out, hA]; exact h3⟩ h
  have zc := fun q : Later w3 => q.cell hc
  clear hk1 hT0 hT1 hn0 hA hc
  go_wp2_with fail
  refine wp_region_later (by kernel_rfl) (by kernel_rfl) ?_
  repeat (go_big_quiet_step (fail))
  refine wpQuiet_nil ?_
  rintro w4 ⟨zz, rfl⟩
  have HB4 : Hid (Below w.heap.size w zz.to) := HB3.out.trans (zz.ok.mono HB3.out.size)
  go_wp2_with fail
  go_ret
  exact ⟨ret_b HE.out, HB4.out⟩

set_option maxHeartbeats 4000000 in
theorem implLastIndex_is (g0 B g2 g3 : Int) (N : Nat) (hN : bankN g0 B g2 g3 = (N : Int)) (k x y z : Int) (hk : 1 ≤ k ∧ k ≤ 9) (hx : 0 ≤ x ∧ x < (N : Int)) (v : Nat) (hv : slotI N k x = v) (w : World) :
    Calls Try.prog 47 #[.agg #[.int .i64 g0, .int .i64 B, .int .i64 g2, .int .i64 g3], .agg #[.int .i64 k, .int .i64 x, .int .i64 y, .int .i64 z]] w (Gives (.int .i64 (v : Int)) w) := by
  obtain ⟨w1, hw1⟩ : ∃ u, (w.alloc (.cells #[.int .i64 g0, .int .i64 B, .int .i64 g2, .int .i64 g3] 25)).alloc (.cells #[.int .i64 k, .int .i64 x, .int .i64 y, .int .i64 z] 39) = u := ⟨_, rfl⟩
  have HB1 : Hid (Below w.heap.size w w1) := by subst hw1; exact ((Below.refl _ _).alloc (Nat.le_refl _) _).alloc (by simp) _
  have g1 : w1.heap[w.heap.size]? = some (.cells #[.int .i64 g0, .int .i64 B, .int .i64 g2, .int .i64 g3] 25) := by subst hw1; exact heap_alloc2_old _ _ _
  have q1 : w1.heap[w.heap.size + 1]? = some (.cells #[.int .i64 k, .int .i64 x, .int .i64 y, .int .i64 z] 39) := by subst hw1; exact heap_alloc2_new _ _ _
  have hr := bankN_range g0 B g2 g3
  have HN := Lib.hid hN
  obtain ⟨c0, c1, c2, c3⟩ := cells4 g1
  obtain ⟨u, hu⟩ : ∃ u, decide (k < 6) = u := ⟨_, rfl⟩
  have HU := Lib.hid hu
  unfold slotI at hv
  have w5 : ∀ b : Int, 0 ≤ b ∧ b ≤ 8 → IntKind.i64.wrap (9 * b) = 9 * b ∧ IntKind.i64.wrap (9 * b + k) = 9 * b + k ∧ IntKind.i64.wrap (9 * b + k - 1) = 9 * b + k - 1 := fun b hb => ⟨IntWalk.i64_in _ (by omega), IntWalk.i64_in _ (by omega), IntWalk.i64_in _ (by omega)⟩
  go_enter Try.func47, Try.ntmps47
  go_wp2_with fail
  refine (implBank_is _ _ _ _ _ HN.out _).mono ?_
  rintro e w2 ⟨rfl, hb2⟩
  have q2 := keep_block hb2 q1 (lt_of_block q1)
  have HB2 : Hid (Below w.heap.size w w2) := HB1.out.trans (hb2.mono HB1.out.size)
  clear hb2 c0 c1 c2 c3 g1 q1 HB1 hw1
  obtain ⟨e0, e1, e2, e3⟩ := cells4 q2
  go_wp2_with fail
  refine (implUses_is k u HU.out _).mono ?_
  rintro e w3 ⟨rfl, rfl⟩
  cases u
  case false =>
    obtain ⟨a1, a2, a3⟩ := w5 (N : Int) ⟨by omega, by omega⟩
    have HE : Hid (9 * (N : Int) + k - 1 = (v : Int)) := by show _ = _; rw [if_neg (by have := of_decide_eq_false hu; omega)] at hv; omega
    clear hu hv hr w5 hk hx
    go_wp2_with fail
    go_ret
    exact ⟨ret_i HE.out, HB2.out⟩
  case true =>
    obtain ⟨a1, a2, a3⟩ := w5 x ⟨by omega, by omega⟩
    have HE : Hid (9 * x + k - 1 = (v : Int)) := by show _ = _; rw [if_pos (by have := of_decide_eq_true hu; omega)] at hv; omega
    clear hu hv hr w5 hk hx
    go_wp2_with fail
    go_ret
    exact ⟨ret_i HE.out, HB2.out⟩

end Go.Proofs.Ythplhjdfajhmpaa

namespace Go.Proofs.Ythplhjdfajhmpaa
open Go.RowKit Go.PlainAid

set_option linter.unusedVariables false

theorem mul64_9 (N : Nat) (hN : N ≤ 8) (w : World) : Calls Try.prog 110 #[.int .u64 1, .int .u64 ((9 * (N + 1) : Nat) : Int)] w (fun e w' => e = .returned (.tuple #[.int .u64 0, .int .u64 ((9 * (N + 1) : Nat) : Int)]) ∧ w' = w) := by
  have cls : N = 0 ∨ N = 1 ∨ N = 2 ∨ N = 3 ∨ N = 4 ∨ N = 5 ∨ N = 6 ∨ N = 7 ∨ N = 8 := by omega
  rcases cls with rfl | rfl | rfl | rfl | rfl | rfl | rfl | rfl | rfl
  all_goals
    go_enter Try.func110, Try.ntmps110
    go_wp2
    first | exact bodyPost_ret (v := .tuple #[_, _]) (by simp [results, Try.results110]; rfl) rfl ⟨rfl, rfl⟩ | exact bodyPost_ret (v := .tuple #[_, _]) (by simp [results, Try.results110]) rfl ⟨rfl, rfl⟩

theorem mul_9 (N : Nat) (hN : N ≤ 8) (w : World) : Calls Try.prog 81 #[.int .u64 1, .int .u64 ((9 * (N + 1) : Nat) : Int)] w (fun e w' => e = .returned (.tuple #[.int .u64 0, .int .u64 ((9 * (N + 1) : Nat) : Int)]) ∧ w' = w) := by
  have H := Lib.hid (fun u => mul64_9 N hN u)
  obtain ⟨M, hM⟩ : ∃ M : Int, ((9 * (N + 1) : Nat) : Int) = M := ⟨_, rfl⟩
  rw [hM] at H ⊢
  clear hM
  go_enter Try.func81, Try.ntmps81
  go_wp2_with fail
  refine (H.out _).mono ?_
  rintro e w2 ⟨rfl, rfl⟩
  go_wp2_with fail
  first | exact bodyPost_ret (v := .tuple #[_, _]) (by simp [results, Try.results81]; rfl) rfl ⟨rfl, rfl⟩ | exact bodyPost_ret (v := .tuple #[_, _]) (by simp [results, Try.results81]) rfl ⟨rfl, rfl⟩

/-- What a slot holds till operation k has come up. -/
def UnlV (k : Nat) (v : Value) (listed : Array Bool) (x : Nat → Value) : Prop := listed.getD k false = false → x k = v

theorem UnlV.keep {k i : Nat} {v u : Value} {listed : Array Bool} {x : Nat → Value} (h : UnlV k v listed x) (hi : i ≠ k) : UnlV k v (listed.setIfInBounds i true) (upd x i u) := fun h1 => by
  rw [upd_other _ _ (Ne.symm hi)]
  exact h (by rwa [getD_set_ne false hi] at h1)

theorem UnlV.gone {k : Nat} {v : Value} {listed : Array Bool} {x : Nat → Value} (h : k < listed.size) : UnlV k v (listed.setIfInBounds k true) x := fun h1 => by
  rw [get_set_same false h] at h1
  cases h1

theorem TillW.keepT {L i : Nat} {F : World → Prop} {listed : Array Bool} {u : World} (h : TillW L F listed u) (hi : i ≠ L) : TillW L F (listed.setIfInBounds i true) u := fun h1 => h (by rwa [getD_set_ne false hi] at h1)

theorem FromW.keepT {L i : Nat} {F : World → Prop} {listed : Array Bool} {u : World} (h : FromW L F listed u) (hi : i ≠ L) : FromW L F (listed.setIfInBounds i true) u := fun h1 => h (by rwa [getD_set_ne false hi] at h1)

/-- A row of which the first k numbers are there. -/
def upto (M k : Nat) : List Value := List.replicate k (.int .i64 (-1)) ++ List.replicate (M - k) (.int .i64 0)

theorem upto_len {M k : Nat} (h : k ≤ M) : (upto M k).length = M := by unfold upto; rw [List.length_append, List.length_replicate, List.length_replicate]; omega

theorem upto_more {M k m : Nat} (h : k + m ≤ M) : (upto M k).take k ++ (List.replicate m (Value.int .i64 (-1)) ++ (upto M k).drop (k + m)) = upto M (k + m) := by
  unfold upto
  rw [List.take_left' (by simp), List.drop_append, List.length_replicate]
  rw [List.drop_of_length_le (by simp), List.nil_append, List.drop_replicate, ← List.append_assoc, List.replicate_append_replicate]
  congr 2
  omega

theorem upto_get {M k j : Nat} (h : k ≤ M) (hj : j < k) : (upto M k)[j]? = some (.int .i64 (-1)) := by
  unfold upto
  rw [List.getElem?_append_left (by simpa using hj), List.getElem?_replicate, if_pos hj]

set_option maxHeartbeats 4000000 in
set_option maxRecDepth 100000 in
theorem implRepeat_is (N : Nat) (hN : N ≤ 8) (g : Nat) (w : World) (hg : w.heap[g]? = some (.cells #[.int .i64 (-1)] 3)) :
    Calls Try.prog 42 #[.slice (some ⟨g, 0, none⟩) 1 1, .int .i64 ((9 * (N + 1) : Nat) : Int)] w (GivesI (List.replicate (9 * (N + 1)) (-1)) w) := by
  obtain ⟨i0, hi, hz0, hz1, hz2⟩ := info_parts infoI
  have H := Lib.hid (fun u => mul_9 N hN u)
  obtain ⟨M, hM⟩ : ∃ M, 9 * (N + 1) = M := ⟨_, rfl⟩
  have hM1 : 1 ≤ M := by omega
  have hM2 : M ≤ 81 := by omega
  rw [hM] at H ⊢
  clear hM hN
  have t0 : decide ((M : Int) < 0) = false := decide_eq_false (by omega)
  have u0 : IntKind.u64.wrap (M : Int) = (M : Int) := IntWalk.u64_in _ (by omega)
  have t1 : decide ((9223372036854775807 : Int) < (M : Int)) = false := decide_eq_false (by omega)
  go_enter Try.func42, Try.ntmps42
  go_wp2_with fail
  refine (H.out _).mono ?_
  rintro e w2 ⟨rfl, rfl⟩
  go_wp2_with (at_make; refine wpList_make_full _ rfl _ _ 31 rfl w2.heap.size 3 i0 (.int .i64 0) 1 Try.underlying31 hi hz0 hz1 _ _ _ _ M rfl rfl rfl rfl (by rw [hz2]; omega) (by unfold maxLen; omega) (Nat.le_refl _) ?_)
  intro w1 hown hgr
  have HB1 : Hid (Below w2.heap.size w2 w1) := (Below.refl _ _).grown hgr (Nat.le_refl _) (fun k hk => by cases hk)
  have hg1 := keep_block HB1.out hg (lt_of_block hg)
  have hgl := lt_of_block hg
  obtain ⟨hP, hhP⟩ : ∃ p, w2.heap.size = p := ⟨_, rfl⟩
  have hB1 : w1.heap[hP]? = some (.cells (upto M 0).toArray 3 (0, 0)) := by
    have e0 : upto M 0 = List.replicate M (.int .i64 0) := rfl
    rw [e0]
    rcases hown.2 with ⟨hv, _⟩ | ⟨g', cap, cur, hv, _, hh, _, _, hs, ht⟩
    · cases hv
    · have e : g' = hP := by rw [← hhP]; cases hv; rfl
      have e2 : cap = M := by cases hv; rfl
      subst e e2
      rw [hh]
      have e3 : cur.toList = List.replicate cap (.int .i64 0) := by
        rw [List.take_of_length_le (by rw [Array.length_toList, hs]; omega)] at ht
        rw [ht, made_one]
      rw [← e3]
  have hne : g ≠ hP := by omega
  rw [hhP]
  have HG0 : Hid (w2.heap.size = hP) := hhP
  clear hown hgr hhP
  have hl0 := upto_len (M := M) (k := 0) (by omega)
  have hm0 := upto_more (M := M) (k := 0) (m := 1) (by omega)
  have hc0 : w1.cell? ⟨g, 0, none⟩ = some (.int .i64 (-1)) := by simp [World.cell?, hg1]
  go_wp2_with (refine wpList_copy_own rfl (.tmp 31) (.tmp 32) 31 31 rfl 3 Try.underlying31 (by kernel_rfl) hP 0 M M ⟨g, 0, none⟩ 1 1 rfl rfl (upto M 0).toArray 3 hB1 (List.replicate 1 (.int .i64 (-1))) (show 1 = Nat.min 1 M from (Nat.min_eq_left hM1).symm) (fun j v hv => (by match j, hv with | 0, hv => (cases hv; exact hc0) | j + 1, hv => simp at hv)) (show 0 + 1 ≤ (upto M 0).toArray.size by rw [List.size_toArray, hl0]; omega) (fun v hv => (by rw [List.eq_of_mem_replicate hv]; rfl)) ?_)
  generalize hW : w1.setRow hP _ = w3
  have h3 : w3.heap[hP]? = some (.cells (upto M 1).toArray 3 (0, 0)) := by
    have e : upto M 1 = Value.int .i64 (-1) :: (upto M 0).tail := by rw [show (1 : Nat) = 0 + 1 from rfl, ← hm0]; simp
    rw [e, ← hW]
    exact setRow_same _ _ _ _ _ hB1
  have HB3 : Hid (Below w2.heap.size w2 w3) := by show Below _ _ _; rw [← hW]; exact below_setRow HB1.out (by have := HG0.out; omega) _
  clear hW hm0 hl0 hB1 hg1 HB1 hc0 hg hgl hne
  go_loopw [8] (fun v wr => ∃ n : Nat, (1 ≤ n ∧ n ≤ M) ∧ v = .int .i64 n ∧ wr.heap[hP]? = some (.cells (upto M n).toArray 3 (0, 0)) ∧ Below w2.heap.size w2 wr) (fun v _ => M - (intOf v).toNat)
  case atStart => exact ⟨1, ⟨Nat.le_refl _, hM1⟩, rfl, h3, HB3.out⟩
  case round =>
    obtain ⟨n, ⟨hn1, hnM⟩, rfl, hr, hbr⟩ := hrel
    have HBR := Lib.hid hbr
    clear hbr h3 HB3
    by_cases hlt : n < M
    case neg =>
      obtain rfl : n = M := by omega
      go_wp2_with fail
      go_ret
      refine ⟨some ⟨hP, 0, none⟩, n, by rw [List.length_replicate]; rfl, ?_, HBR.out⟩
      rw [List.length_replicate]
      refine ⟨by simp, .inr ⟨hP, n, (upto n n).toArray, by rw [List.length_replicate], by have := HG0.out; omega, hr, by rw [List.length_replicate]; exact Nat.le_refl _, by unfold maxLen; omega, by rw [List.size_toArray, upto_len (Nat.le_refl _), Nat.mul_one], ?_⟩⟩
      rw [List.length_replicate, Nat.mul_one, List.take_of_length_le (by simp [upto_len])]
      unfold upto
      simp
    obtain ⟨m, hm⟩ : ∃ m, Nat.min n (M - n) = m := ⟨_, rfl⟩
    have HM := Lib.hid hm
    have hm1 : 1 ≤ m ∧ n + m ≤ M := by have : m = min n (M - n) := hm.symm; omega
    have hmn : m ≤ n := by have : m = min n (M - n) := hm.symm; omega
    have hne : ¬ n = M := by omega
    have wm : IntKind.i64.wrap ((n : Int) + (m : Int)) = ((n + m : Nat) : Int) := by rw [IntWalk.i64_in _ (by omega)]; omega
    have hlen := upto_len hnM
    have hup := upto_more hm1.2
    have HR_ := Lib.hid hr
    have HLEN := Lib.hid hlen
    have HUP := Lib.hid hup
    have HM12 : Hid (1 ≤ m ∧ n + m ≤ M) := hm1
    clear hm hr hlen hup H hi hz0 hz1 hz2
    go_wp2_with fail
    refine wp_region_flowG (fun i' => match i' with | 0 => some (.int .i64 (n : Int)) | 1 => some (.slice (some ⟨hP, 0, none⟩) M M) | 2 => some (.int .i64 (n : Int)) | 3 => some (.slice (some ⟨hP, n, none⟩) (M - n) (M - n)) | 4 => some (.slice (some ⟨hP, 0, none⟩) M M) | 5 => some (.int .i64 (n : Int)) | 6 => some (.slice (some ⟨hP, 0, none⟩) n M) | 7 => some (.int .i64 (m : Int)) | 8 => some (.int .i64 ((n + m : Nat) : Int)) | 9 => some (.int .i64 ((n + m : Nat) : Int)) | _ => none) (fun listed x u => Below w2.heap.size w2 u ∧ UnlV 9 (.int .i64 (n : Int)) listed x ∧ AllW 9 listed ∧ TillW 7 (fun u => u.heap[hP]? = some (.cells (upto M n).toArray 3 (0, 0))) listed u ∧ FromW 7 (fun u => u.heap[hP]? = some (.cells (upto M (n + m)).toArray 3 (0, 0))) listed u) (upd (upd (upd (upd (upd (upd (upd (upd (upd (upd (fun _ => undef) 0 u38) 1 u39) 2 u40) 3 u41) 4 u42) 5 u43) 6 u44) 7 u45) 8 u46) 9 (.int .i64 (n : Int))) (by kernel_rfl) (by kernel_rfl) ?hx ?hS ?hs ?he
    case hx => simp only [putsX, Act.put, List.setIfInBounds_toArray, List.set_cons_zero, List.set_cons_succ, upd, Nat.reduceEqDiff, reduceIte]
    case hS => exact ⟨HBR.out.drew, fun _ => rfl, fun j _ => Aft.zero _ _ _, fun _ => HR_.out, FromW.zero _ _ _ _⟩
    case hs =>
      simp only [flowSteps]
      refine ⟨?r0, ?r1, ?r2, ?r3, ?r4, ?r5, ?r6, ?r7, ?r8, ?r9, trivial⟩
      case r0 =>
        intro listed bb u hsz hn hwt hinv
        obtain ⟨x, rfl, hU, hB, hX, hA, hT, hF⟩ := hinv
        have fx := Lib.hid (hX ((hA 0 (by decide)).no hn))
        simp only [putsX, Act.put, List.setIfInBounds_toArray, List.set_cons_zero, List.set_cons_succ]
        rw [fx.out]
        go_wp2_with fail
        refine stepQ_normal ⟨trivial, upd x 0 (.int .i64 (n : Int)), ?_, hU.step (fun _ h => Option.some.inj h), hB, hX.keep (by decide), hA.keep (by decide), hT.keepT (by decide), hF.keepT (by decide)⟩
        simp only [upd]
        simp only [fx.out]
        (try rfl)
      case r1 =>
        intro listed bb u hsz hn hwt hinv
        obtain ⟨x, rfl, hU, hB, hX, hA, hT, hF⟩ := hinv
        simp only [putsX, Act.put, List.setIfInBounds_toArray, List.set_cons_zero, List.set_cons_succ]
        go_wp2_with fail
        refine stepQ_normal ⟨trivial, upd x 1 (.slice (some ⟨hP, 0, none⟩) M M), ?_, hU.step (fun _ h => Option.some.inj h), hB, hX.keep (by decide), hA.keep (by decide), hT.keepT (by decide), hF.keepT (by decide)⟩
        simp only [upd]
        rfl
      case r2 =>
        intro listed bb u hsz hn hwt hinv
        obtain ⟨x, rfl, hU, hB, hX, hA, hT, hF⟩ := hinv
        have fx := Lib.hid (hX ((hA 2 (by decide)).no hn))
        simp only [putsX, Act.put, List.setIfInBounds_toArray, List.set_cons_zero, List.set_cons_succ]
        rw [fx.out]
        go_wp2_with fail
        refine stepQ_normal ⟨trivial, upd x 2 (.int .i64 (n : Int)), ?_, hU.step (fun _ h => Option.some.inj h), hB, hX.keep (by decide), hA.keep (by decide), hT.keepT (by decide), hF.keepT (by decide)⟩
        simp only [upd]
        simp only [fx.out]
        (try rfl)
      case r3 =>
        intro listed bb u hsz hn hwt hinv
        obtain ⟨x, rfl, hU, hB, hX, hA, hT, hF⟩ := hinv
        have f1 := Lib.hid (hU 1 _ rfl (hwt 1 (by kernel_rfl)))
        have f2 := Lib.hid (hU 2 _ rfl (hwt 2 (by kernel_rfl)))
        simp only [putsX, Act.put, List.setIfInBounds_toArray, List.set_cons_zero, List.set_cons_succ]
        rw [f1.out]
        rw [f2.out]
        go_wp2_with fail
        refine stepQ_normal ⟨trivial, upd x 3 (.slice (some ⟨hP, n, none⟩) (M - n) (M - n)), ?_, hU.step (fun _ h => Option.some.inj h), hB, hX.keep (by decide), hA.keep (by decide), hT.keepT (by decide), hF.keepT (by decide)⟩
        simp only [upd]
        simp only [f1.out, f2.out]
        (try rfl)
      case r4 =>
        intro listed bb u hsz hn hwt hinv
        obtain ⟨x, rfl, hU, hB, hX, hA, hT, hF⟩ := hinv
        simp only [putsX, Act.put, List.setIfInBounds_toArray, List.set_cons_zero, List.set_cons_succ]
        go_wp2_with fail
        refine stepQ_normal ⟨trivial, upd x 4 (.slice (some ⟨hP, 0, none⟩) M M), ?_, hU.step (fun _ h => Option.some.inj h), hB, hX.keep (by decide), hA.keep (by decide), hT.keepT (by decide), hF.keepT (by decide)⟩
        simp only [upd]
        rfl
      case r5 =>
        intro listed bb u hsz hn hwt hinv
        obtain ⟨x, rfl, hU, hB, hX, hA, hT, hF⟩ := hinv
        have fx := Lib.hid (hX ((hA 5 (by decide)).no hn))
        simp only [putsX, Act.put, List.setIfInBounds_toArray, List.set_cons_zero, List.set_cons_succ]
        rw [fx.out]
        go_wp2_with fail
        refine stepQ_normal ⟨trivial, upd x 5 (.int .i64 (n : Int)), ?_, hU.step (fun _ h => Option.some.inj h), hB, hX.keep (by decide), hA.keep (by decide), hT.keepT (by decide), hF.keepT (by decide)⟩
        simp only [upd]
        simp only [fx.out]
        (try rfl)
      case r6 =>
        intro listed bb u hsz hn hwt hinv
        obtain ⟨x, rfl, hU, hB, hX, hA, hT, hF⟩ := hinv
        have f4 := Lib.hid (hU 4 _ rfl (hwt 4 (by kernel_rfl)))
        have f5 := Lib.hid (hU 5 _ rfl (hwt 5 (by kernel_rfl)))
        simp only [putsX, Act.put, List.setIfInBounds_toArray, List.set_cons_zero, List.set_cons_succ]
        rw [f4.out]
        rw [f5.out]
        go_wp2_with fail
        refine stepQ_normal ⟨trivial, upd x 6 (.slice (some ⟨hP, 0, none⟩) n M), ?_, hU.step (fun _ h => Option.some.inj h), hB, hX.keep (by decide), hA.keep (by decide), hT.keepT (by decide), hF.keepT (by decide)⟩
        simp only [upd]
        simp only [f4.out, f5.out]
        (try rfl)
      case r7 =>
        intro listed bb u hsz hn hwt hinv
        obtain ⟨x, rfl, hU, hB, hX, hA, hT, hF⟩ := hinv
        have f3 := Lib.hid (hU 3 _ rfl (hwt 3 (by kernel_rfl)))
        have f6 := Lib.hid (hU 6 _ rfl (hwt 6 (by kernel_rfl)))
        simp only [putsX, Act.put, List.setIfInBounds_toArray, List.set_cons_zero, List.set_cons_succ]
        rw [f3.out]
        rw [f6.out]
        have hr := hT hn
        have hcl : ∀ j v, (List.replicate m (Value.int .i64 (-1)))[j]? = some v → u.cell? ((⟨hP, 0, none⟩ : Addr).add j) = some v := fun j v hv => by
          rw [List.getElem?_replicate] at hv
          split at hv
          · rename_i hj
            cases hv
            have := upto_get (M := M) (k := n) (j := j) hnM (by omega)
            rw [Addr.add_lit, Nat.zero_add]
            simp [World.cell?, hr, this]
          · cases hv
        go_wp2_with (refine wpList_copy_splice rfl (.tmp 41) (.tmp 44) 31 31 rfl 3 Try.underlying31 (by kernel_rfl) (some ⟨hP, n, none⟩) (some ⟨hP, 0, none⟩) (M - n) (M - n) n M rfl rfl hP n (upto M n) 3 hr (List.replicate m (.int .i64 (-1))) (by rw [List.length_replicate]; exact HM.out.symm) (fun _ => ⟨rfl, _, rfl, hcl⟩) (by rw [List.length_replicate, HLEN.out]; exact HM12.out.2) (fun v hv => (by rw [List.eq_of_mem_replicate hv]; rfl)) w2.heap.size w2 hB (by have := HG0.out; omega) ?_)
        intro w4 hg4 hb4
        have hg5 : w4.heap[hP]? = some (.cells (upto M (n + m)).toArray 3 (0, 0)) := by
          rw [← HUP.out]
          have := hg4.out
          unfold splice at this
          rw [List.length_replicate] at this
          exact this
        (try rw [List.length_replicate])
        go_wp2_with fail
        refine stepQ_normal ⟨trivial, upd x 7 (.int .i64 (m : Int)), ?_, hU.step (fun _ h => Option.some.inj h), hb4, hX.keep (by decide), hA.keep (by decide), TillW.gone (by rw [hsz]; decide), (fun _ => hg5)⟩
        simp only [upd]
        simp only [f3.out, f6.out]
        (try rfl)
      case r8 =>
        intro listed bb u hsz hn hwt hinv
        obtain ⟨x, rfl, hU, hB, hX, hA, hT, hF⟩ := hinv
        have f0 := Lib.hid (hU 0 _ rfl (hwt 0 (by kernel_rfl)))
        have f7 := Lib.hid (hU 7 _ rfl (hwt 7 (by kernel_rfl)))
        simp only [putsX, Act.put, List.setIfInBounds_toArray, List.set_cons_zero, List.set_cons_succ]
        rw [f0.out]
        rw [f7.out]
        go_wp2_with fail
        refine stepQ_normal ⟨trivial, upd x 8 (.int .i64 ((n + m : Nat) : Int)), ?_, hU.step (fun _ h => Option.some.inj h), hB, hX.keep (by decide), hA.keep (by decide), hT.keepT (by decide), hF.keepT (by decide)⟩
        simp only [upd]
        simp only [f0.out, f7.out]
        (try rfl)
      case r9 =>
        intro listed bb u hsz hn hwt hinv
        obtain ⟨x, rfl, hU, hB, hX, hA, hT, hF⟩ := hinv
        have f8 := Lib.hid (hU 8 _ rfl (hwt 8 (by kernel_rfl)))
        simp only [putsX, Act.put, List.setIfInBounds_toArray, List.set_cons_zero, List.set_cons_succ]
        rw [f8.out]
        go_wp2_with fail
        refine stepQ_normal ⟨trivial, upd x 9 (.int .i64 ((n + m : Nat) : Int)), ?_, hU.step (fun _ h => Option.some.inj h), hB, UnlV.gone (by rw [hsz]; decide), (fun j hj => match j, hj with | 0, _ => Aft.new (hwt 0 (by kernel_rfl)) | 1, _ => Aft.new (hwt 1 (by kernel_rfl)) | 2, _ => Aft.new (hwt 2 (by kernel_rfl)) | 3, _ => Aft.new (hwt 3 (by kernel_rfl)) | 4, _ => Aft.new (hwt 4 (by kernel_rfl)) | 5, _ => Aft.new (hwt 5 (by kernel_rfl)) | 6, _ => Aft.new (hwt 6 (by kernel_rfl)) | 7, _ => Aft.new (hwt 7 (by kernel_rfl)) | 8, _ => Aft.new (hwt 8 (by kernel_rfl)) | j + 9, hj => absurd hj (by omega)), hT.keepT (by decide), hF.keepT (by decide)⟩
        simp only [upd]
        simp only [f8.out]
        (try rfl)
    case he =>
      intro listed q u hall hU hS
      obtain ⟨hB, hX, hA, hT, hF⟩ := hS
      have fq := hU 9 _ rfl (hall 9 (by decide))
      have hF7 := hF (hall 7 (by decide))
      simp only [putsX, Act.put, List.setIfInBounds_toArray, List.set_cons_zero, List.set_cons_succ]
      rw [fq]
      clear hall hU hX hA hT hF fq
      generalize q 0 = _q0, q 1 = _q1, q 2 = _q2, q 3 = _q3, q 4 = _q4, q 5 = _q5, q 6 = _q6, q 7 = _q7, q 8 = _q8
      have HB9 := Lib.hid hB
      have HF9 := Lib.hid hF7
      have HN9 : Hid (1 ≤ n + m ∧ n + m ≤ M) := by have := HM12.out; exact ⟨by omega, by omega⟩
      clear hB hF7
      go_wp2_with fail
      go_roundw
      case rel => exact ⟨n + m, HN9.out, by go_num, HF9.out, HB9.out⟩
      case measure => simp [intOf]; have := HM12.out; omega

end Go.Proofs.Ythplhjdfajhmpaa

namespace Go.Proofs.Ythplhjdfajhmpaa
open Go.RowKit Go.PlainAid

set_option linter.unusedVariables false

set_option maxHeartbeats 4000000 in
set_option maxRecDepth 100000 in
theorem implReadyNew_is : IReadyNew := by
  intro g0 B g2 g3 N hN la hla n1 hn1 w
  obtain ⟨w1, hw1⟩ : ∃ u, (w.alloc (.cells #[.int .i64 g0, .int .i64 B, .int .i64 g2, .int .i64 g3] 25)).alloc (.cells #[.slice none 0 0, .slice none 0 0] 33) = u := ⟨_, rfl⟩
  have HB1 : Hid (Below w.heap.size w w1) := by subst hw1; exact ((Below.refl _ _).alloc (Nat.le_refl _) _).alloc (by simp) _
  have g1 : w1.heap[w.heap.size]? = some (.cells #[.int .i64 g0, .int .i64 B, .int .i64 g2, .int .i64 g3] 25) := by subst hw1; exact heap_alloc2_old _ _ _
  have p1 : w1.heap[w.heap.size + 1]? = some (.cells #[.slice none 0 0, .slice none 0 0] 33) := by subst hw1; exact heap_alloc2_new _ _ _
  have HS1 : Hid (w.heap.size + 1 < w1.heap.size) := lt_of_block p1
  obtain ⟨c0, c1, c2, c3⟩ := cells4 g1
  by_cases hg : GeoOk g0 B g2 g3
  case neg =>
    obtain rfl : la = [] := by rw [← hla]; exact if_neg hg
    obtain rfl : n1 = 0 := hn1.symm
    have K := Lib.hid (decide_eq_false hg)
    clear hg hla hn1 hN
    go_enter Try.func12, Try.ntmps12
    go_wp2_with fail
    refine (implGeoOk_is _ _ _ _ _ K.out _).mono ?_
    rintro e w2 ⟨rfl, hb2⟩
    have p2 := keep_block hb2 p1 (lt_of_block p1)
    have HB2 : Hid (Below w.heap.size w w2) := HB1.out.trans (hb2.mono HB1.out.size)
    obtain ⟨x0, x1⟩ := cells2 p2
    have f0 := thawed p2 0
    have f1 := thawed p2 1
    clear hb2 c0 c1 c2 c3 hw1 g1 p1 HB1
    go_wp2_with fail
    (try simp only [Exit.inBlock, Exit.then])
    refine bodyPost_ret (v := .agg #[.slice none 0 0, .slice none 0 0]) (by simp [results, Try.results12, go_sem, x0, x1]) rfl ⟨none, 0, none, 0, rfl, ownI_nil _ _, ownI_nil _ _, apt_none _, ?_⟩
    repeat' (first | exact HB2.out | refine Below.drew ?_ | refine Below.setCell ?_ (by simp <;> omega) _)
  have K := Lib.hid (decide_eq_true hg)
  have hr := bankN_range g0 B g2 g3
  have hN8 : N ≤ 8 := by omega
  obtain ⟨m, hm⟩ : ∃ m : Nat, 9 * (N + 1) = m := ⟨_, rfl⟩
  have hla2 : la = List.replicate m (-1) := by rw [← hla, ← hm]; exact if_pos hg
  obtain rfl : n1 = m := by rw [← hn1, hla2, List.length_replicate]
  have HLL : Hid (∀ u, Calls Try.prog 43 #[.agg #[.int .i64 g0, .int .i64 B, .int .i64 g2, .int .i64 g3]] u (Gives (.int .i64 (n1 : Int)) u)) := fun u => by rw [← hm]; exact implLastLen_is _ _ _ _ N hN u
  have HREP : Hid (∀ (g : Nat) (u : World), u.heap[g]? = some (.cells #[.int .i64 (-1)] 3) → Calls Try.prog 42 #[.slice (some ⟨g, 0, none⟩) 1 1, .int .i64 (n1 : Int)] u (GivesI (List.replicate n1 (-1)) u)) := fun g u h => by rw [← hm]; exact implRepeat_is N hN8 g u h
  have HLA := Lib.hid hla2
  clear hg hla hn1 hN hr hla2 hm
  go_enter Try.func12, Try.ntmps12
  go_wp2_with fail
  refine (implGeoOk_is _ _ _ _ _ K.out _).mono ?_
  rintro e w2 ⟨rfl, hb2⟩
  have g2' := keep_block hb2 g1 (lt_of_block g1)
  have p2 := keep_block hb2 p1 (lt_of_block p1)
  have HB2 : Hid (Below w.heap.size w w2) := HB1.out.trans (hb2.mono HB1.out.size)
  have HS2 : Hid (w1.heap.size ≤ w2.heap.size) := hb2.size
  clear hb2 c0 c1 c2 c3 hw1 g1 p1 HB1
  have hba : Below w2.heap.size w2 (w2.alloc (.cells #[.int .i64 (-1)] 3)) := (Below.refl _ _).alloc (Nat.le_refl _) _
  have ga := keep_block hba g2' (lt_of_block g2')
  have pa := keep_block hba p2 (lt_of_block p2)
  have HBA : Hid (Below w.heap.size w (w2.alloc (.cells #[.int .i64 (-1)] 3))) := HB2.out.trans (hba.mono HB2.out.size)
  have sa := heap_alloc_new w2 (.cells #[.int .i64 (-1)] 3)
  have HSA : Hid (w1.heap.size ≤ (w2.alloc (.cells #[.int .i64 (-1)] 3)).heap.size) := by have := HS2.out; show _ ≤ _; simp; omega
  obtain ⟨c0, c1, c2, c3⟩ := cells4 ga
  go_wp2_with fail
  clear hba c0 c1 c2 c3
  generalize w2.alloc (.cells #[.int .i64 (-1)] 3) = w3 at ga pa HBA sa HSA ⊢
  generalize w2.heap.size = sP at sa ⊢
  refine (HLL.out _).mono ?_
  rintro e w4 ⟨rfl, hb4⟩
  have p4 := keep_block hb4 pa (lt_of_block pa)
  have s4 := keep_block hb4 sa (lt_of_block sa)
  have HB4 : Hid (Below w.heap.size w w4) := HBA.out.trans (hb4.mono HBA.out.size)
  have HS4 : Hid (w1.heap.size ≤ w4.heap.size) := Nat.le_trans HSA.out hb4.size
  clear hb4 ga pa sa HBA HSA g2' p2 HB2 HS2
  go_wp2_with fail
  refine (HREP.out _ _ s4).mono ?_
  rintro e w5 ⟨aa, cc, rfl, own5, hb5⟩
  rw [List.length_replicate] at own5 ⊢
  rw [← HLA.out] at own5
  have p5 := keep_block hb5 p4 (lt_of_block p4)
  have HB5 : Hid (Below w.heap.size w w5) := HB4.out.trans (hb5.mono HB4.out.size)
  have HO5 : Hid (OwnI (w.heap.size + 1 + 1) (.slice aa n1 cc) la w5) := own5.mono (by have := HS1.out; have := HS4.out; omega)
  obtain ⟨x0, x1⟩ := cells2 p5
  have f0 := thawed p5 0
  have f1 := thawed p5 1
  clear hb5 own5 p4 s4 HB4
  go_wp2_with fail
  (try simp only [Exit.inBlock, Exit.then])
  refine bodyPost_ret (v := .agg #[.slice aa n1 cc, .slice none 0 0]) (by simp [results, Try.results12, go_sem, x0, x1]) rfl ⟨aa, cc, none, 0, rfl, ?_, ownI_nil _ _, apt_none _, ?_⟩
  · refine OwnI.mono (B := w.heap.size + 1 + 1) ?_ (by omega)
    repeat' (first | exact HO5.out | refine ownI_set (by simp) ?_ _)
  · repeat' (first | exact HB5.out | refine Below.drew ?_ | refine Below.setCell ?_ (by simp <;> omega) _)

set_option maxHeartbeats 4000000 in
theorem implCloneI_is (a : Option Addr) (n c : Nat) (l : List Int) (hl : l.length = n) (h1 : n ≤ 3000000) (hnc : a = none → c = 0) (w : World) (hr : RowI w a l) :
    Calls Try.prog 45 #[.slice a n c] w (GivesI l w) := by
  obtain ⟨i0, hi, hz0, hz1, hz2⟩ := info_parts infoI
  have q0 : ∀ (w : World) (a : Option Addr) (n c n' c' : Nat), (Go.binOp .eql 31 (.slice a n c) (.slice none n' c')).run Try.prog w = .ok (.bool a.isNone) w := fun w a n c n' c' => Lib.run_eql_slice_nil w _ _ a n c n' c' Try.underlying31
  rcases a with _ | ad
  · have hl0 : l = [] := by rcases hr with h | ⟨_, _, h, _⟩; exact h; cases h
    subst hl0
    obtain rfl : n = 0 := hl.symm
    obtain rfl : c = 0 := hnc rfl
    clear hr hl hnc
    go_enter Try.func45, Try.ntmps45
    go_wp2
    go_ret
    exact givesI_nil (Below.refl _ _)
  · have HR := Lib.hid hr
    have HL := Lib.hid hl
    clear hr hl hnc
    go_enter Try.func45, Try.ntmps45
    have hb3 : Below w.heap.size w (w.alloc (.cells #[] 3)) := (Below.refl _ _).alloc (Nat.le_refl _) _
    have own3 : OwnI w.heap.size (.slice (some ⟨w.heap.size, 0, none⟩) 0 0) [] (w.alloc (.cells #[] 3)) := World.ownsRow_made (base := w.heap.size) (e := 3) (size := 1) w #[] 0 (Nat.le_refl _) (by decide) rfl
    have HR3 := Lib.hid (HR.out.below hb3)
    have hS3 : w.heap.size ≤ (w.alloc (.cells #[] 3)).heap.size := by simp
    go_wp2_with (at_builtin; refine append_int rfl _ _ rfl w.heap.size _ 0 [] rfl own3 rfl (some ad) n c l rfl HL.out (fun h => by cases h) HR3.out (by omega) hS3 ?_)
    intro v' w4 hown4 hgrow _
    (try rw [List.nil_append] at hown4)
    have HB4 : Hid (Below w.heap.size w w4) := hb3.grown hgrow hS3 (fun j hj => by have := Option.some.inj hj; have h2 : w.heap.size = j := this; omega)
    obtain ⟨aa, cc, hv⟩ := hown4.shape
    subst hv
    have HO4 := Lib.hid hown4
    clear hown4 hgrow own3 hb3
    go_wp2_with fail
    go_ret
    exact ⟨aa, cc, rfl, HO4.out, HB4.out⟩

end Go.Proofs.Ythplhjdfajhmpaa

namespace Go.Proofs.Ythplhjdfajhmpaa
open Go.RowKit Go.PlainAid

set_option linter.unusedVariables false

/-- A call that answers a row of so many numbers, its own. -/
def GivesIn (n : Nat) (l : List Int) (w : World) (e : Ending) (w' : World) : Prop :=
  ∃ a c, e = .returned (.slice a n c) ∧ OwnI w.heap.size (.slice a n c) l w' ∧ Below w.heap.size w w'

theorem GivesI.at {n : Nat} {l : List Int} {w w' : World} {e : Ending} (h : GivesI l w e w') (hl : l.length = n) : GivesIn n l w e w' := by
  obtain ⟨a, c, h1, h2, h3⟩ := h
  rw [hl] at h1 h2
  exact ⟨a, c, h1, h2, h3⟩

theorem OwnJ.dropk {B n c g off k : Nat} {l : List Int} {w : World} (h : OwnJ B (.slice (some ⟨g, off, none⟩) n c) l w) (hk : k ≤ n) : OwnJ B (.slice (some ⟨g, off + k, none⟩) (n - k) (c - k)) (l.drop k) w := by
  obtain ⟨_, _, _, hv, hl, ⟨h1, _, _⟩ | ⟨g', off', cur, hg, hB, hh, hc⟩⟩ := h
  · cases hv; cases h1
  · cases hv
    cases hg
    refine ⟨_, _, _, rfl, by rw [List.length_drop, hl], .inr ⟨g, off + k, cur, rfl, hB, hh, fun i hi => ?_⟩⟩
    rw [Nat.add_assoc, drop_getD]
    exact hc (k + i) (by omega)

theorem rowI_cell1 {w : World} {g : Nat} {x : Int} {ty : TypeId} {fr : Nat × Nat} (h : w.heap[g]? = some (.cells #[.int .i64 x] ty fr)) : RowI w (some ⟨g, 0, none⟩) [x] := by
  refine .inr ⟨g, 0, rfl, fun i hi => ?_⟩
  have : i = 0 := by simpa using hi
  subst this
  simp [World.cell?, h]

set_option maxHeartbeats 16000000 in
set_option maxRecDepth 100000 in
theorem implReadyAfter_is : IReadyAfter := by
  intro g0 B g2 g3 N hN a1 n1 c1 la a2 n2 c2 ac e l' a' n2' hl' ha' hn2' hl1 h1 hl2 h2' hnc1 hnc2 hc1 w hr1 hr2
  obtain ⟨w1, hw1⟩ : ∃ u, (((w.alloc (.cells #[.int .i64 g0, .int .i64 B, .int .i64 g2, .int .i64 g3] 25)).alloc (.cells #[.slice a1 n1 c1, .slice a2 n2 c2] 33)).alloc (.cells #[.int .i64 e.t, .int .i64 e.k, .int .i64 e.x, .int .i64 e.y, .int .i64 e.z] 41)).alloc (.cells #[.slice none 0 0, .slice none 0 0] 33) = u := ⟨_, rfl⟩
  have HB1 : Hid (Below w.heap.size w w1) := by subst hw1; exact ((((Below.refl _ _).alloc (by simp) _).alloc (by simp) _).alloc (by simp; omega) _).alloc (by simp; omega) _
  have g1 : w1.heap[w.heap.size]? = some (.cells #[.int .i64 g0, .int .i64 B, .int .i64 g2, .int .i64 g3] 25) := by subst hw1; exact box4_0 _ _ _ _ _
  have p1 : w1.heap[w.heap.size + 1]? = some (.cells #[.slice a1 n1 c1, .slice a2 n2 c2] 33) := by subst hw1; exact box4_1 _ _ _ _ _
  have e1 : w1.heap[w.heap.size + 1 + 1]? = some (.cells #[.int .i64 e.t, .int .i64 e.k, .int .i64 e.x, .int .i64 e.y, .int .i64 e.z] 41) := by subst hw1; exact box4_2 _ _ _ _ _
  have t1 : w1.heap[w.heap.size + 1 + 1 + 1]? = some (.cells #[.slice none 0 0, .slice none 0 0] 33) := by subst hw1; exact box4_3 _ _ _ _ _
  have HT : Hid (w.heap.size + 1 + 1 + 1 < w1.heap.size) := lt_of_block t1
  have HS : Hid (w.heap.size ≤ w1.heap.size) := HB1.out.size
  have HR1 := Lib.hid (hr1.below HB1.out)
  have HR2 := Lib.hid (hr2.below HB1.out)
  have HN := Lib.hid hN
  have HL1 := Lib.hid hl1
  have HL2 := Lib.hid hl2
  have HNC1 := Lib.hid hnc1
  have HNC2 := Lib.hid hnc2
  have HLP := Lib.hid hl'
  have HAP' := Lib.hid ha'
  have HN2 := Lib.hid hn2'
  obtain ⟨av, hav⟩ : ∃ av, decide (CanAdd g0 B g2 g3 N la ac e) = av := ⟨_, rfl⟩
  have HAV := Lib.hid hav
  have hrg := bankN_range g0 B g2 g3
  have hN8 : N ≤ 8 := by omega
  clear hr1 hr2 hN hl1 hl2 hnc1 hnc2 hl' ha' hn2' hav hrg
  go_enter Try.func15, Try.ntmps15
  go_wp2_with fail
  refine wp_region_flowV (fun k => match k with | 0 => some (.pointer (some ⟨w.heap.size + 1, 0, none⟩)) | 1 => some (.slice a1 n1 c1) | 3 => some (.pointer (some ⟨w.heap.size + 1, 1, none⟩)) | 4 => some (.slice a2 n2 c2) | _ => none) (fun listed x u => FactW 2 6 (fun q u => ∃ ab cb, q = .slice ab n1 cb ∧ OwnI w1.heap.size (.slice ab n1 cb) (la) u) listed x u ∧ FactW 5 6 (fun q u => ∃ ab cb, q = .slice ab n2 cb ∧ OwnI w1.heap.size (.slice ab n2 cb) (ac) u) listed x u ∧ FactW 6 8 (fun q u => ∃ aa ca ab cb, q = .agg #[.slice aa n1 ca, .slice ab n2 cb] ∧ OwnI w1.heap.size (.slice aa n1 ca) la u ∧ OwnI w1.heap.size (.slice ab n2 cb) ac u ∧ Apt aa ab) listed x u ∧ AptR 2 5 6 n1 n2 listed x ∧ Aft 5 2 listed ∧ Aft 6 5 listed ∧ MadeD 7 8 (w1.heap.size) n1 n2 la ac listed x u) (fun _ => undef) (by kernel_rfl) (by kernel_rfl) ?hxA ?hSA ?hsA ?heA
  case hxA => simp only [putsX, Act.put, List.setIfInBounds_toArray, List.set_cons_zero, List.set_cons_succ]
  case hSA => exact ⟨FactW.zero _ _ _ _ _ _, FactW.zero _ _ _ _ _ _, FactW.zero _ _ _ _ _ _, AptR.zero _ _ _ _ _ _ _, Aft.zero _ _ _, Aft.zero _ _ _, MadeD.zero _ _ _ _ _ _ _ _ _ _⟩
  case hsA =>
    simp only [flowSteps]
    refine ⟨?sA_0, ?sA_1, ?sA_2, ?sA_3, ?sA_4, ?sA_5, ?sA_6, ?sA_7, ?sA_8, trivial⟩
    case sA_0 =>
      intro listed bb u hsz hn hwt hinv
      obtain ⟨x, rfl, hC, hU, h2, h5, h6, hAp, hA52, hA65, hM⟩ := hinv
      simp only [putsX, Act.put, List.setIfInBounds_toArray, List.set_cons_zero, List.set_cons_succ]
      go_wp2_with fail
      refine stepQ_normal ⟨trivial, upd x 0 (.pointer (some ⟨w.heap.size + 1, 0, none⟩)), ?_, hC, hU.step (fun _ h => Option.some.inj h), h2.keep (by decide) (by decide) _ id, h5.keep (by decide) (by decide) _ id, h6.keep (by decide) (by decide) _ id, hAp.keep (by decide) (by decide) (by decide) _, hA52.keep (by decide), hA65.keep (by decide), hM.keep (by decide) (by decide) _ (Below.refl _ _)⟩
      simp only [upd]
      rfl
    case sA_1 =>
      intro listed bb u hsz hn hwt hinv
      obtain ⟨x, rfl, hC, hU, h2, h5, h6, hAp, hA52, hA65, hM⟩ := hinv
      have f0 := Lib.hid (hU 0 _ rfl (hwt 0 (by kernel_rfl)))
      simp only [putsX, Act.put, List.setIfInBounds_toArray, List.set_cons_zero, List.set_cons_succ]
      rw [f0.out]
      obtain ⟨d0, d1⟩ := cells2 (keep_block hC p1 (lt_of_block p1))
      go_wp2_with fail
      refine stepQ_normal ⟨trivial, upd x 1 (.slice a1 n1 c1), ?_, hC, hU.step (fun _ h => Option.some.inj h), h2.keep (by decide) (by decide) _ id, h5.keep (by decide) (by decide) _ id, h6.keep (by decide) (by decide) _ id, hAp.keep (by decide) (by decide) (by decide) _, hA52.keep (by decide), hA65.keep (by decide), hM.keep (by decide) (by decide) _ (Below.refl _ _)⟩
      simp only [upd]
      simp only [f0.out]
      (try rfl)
    case sA_2 =>
      intro listed bb u hsz hn hwt hinv
      obtain ⟨x, rfl, hC, hU, h2, h5, h6, hAp, hA52, hA65, hM⟩ := hinv
      have f1 := Lib.hid (hU 1 _ rfl (hwt 1 (by kernel_rfl)))
      simp only [putsX, Act.put, List.setIfInBounds_toArray, List.set_cons_zero, List.set_cons_succ]
      have hcall : Calls Try.prog 45 #[x 1] u (GivesIn n1 la u) := by rw [f1.out]; exact (implCloneI_is _ _ _ _ HL1.out h1 HNC1.out _ (HR1.out.below hC)).mono (fun _ _ h => h.at HL1.out)
      go_wp2_with fail
      refine hcall.mono ?_
      rintro e' u' ⟨ab, cb, rfl, own, hb⟩
      go_wp2_with fail
      refine stepQ_normal ⟨trivial, upd x 2 (.slice ab n1 cb), ?_, hC.trans (hb.mono hC.size), hU.step (fun _ h => by cases h), FactW.new ⟨ab, cb, rfl, own.mono hC.size⟩, h5.keep (by decide) (by decide) _ (fun ⟨b1, b2, b3, b4⟩ => ⟨b1, b2, b3, b4.below (hb)⟩), h6.keep (by decide) (by decide) _ (fun ⟨b1, b2, b3, b4, b5, b6, b7, b8⟩ => ⟨b1, b2, b3, b4, b5, b6.below (hb), b7.below (hb), b8⟩), AptR.no (hA52.no hn) (by decide) _, hA52.keep (by decide), hA65.keep (by decide), hM.keep (by decide) (by decide) _ (hb)⟩
      simp only [upd]
      rfl
    case sA_3 =>
      intro listed bb u hsz hn hwt hinv
      obtain ⟨x, rfl, hC, hU, h2, h5, h6, hAp, hA52, hA65, hM⟩ := hinv
      simp only [putsX, Act.put, List.setIfInBounds_toArray, List.set_cons_zero, List.set_cons_succ]
      go_wp2_with fail
      refine stepQ_normal ⟨trivial, upd x 3 (.pointer (some ⟨w.heap.size + 1, 1, none⟩)), ?_, hC, hU.step (fun _ h => Option.some.inj h), h2.keep (by decide) (by decide) _ id, h5.keep (by decide) (by decide) _ id, h6.keep (by decide) (by decide) _ id, hAp.keep (by decide) (by decide) (by decide) _, hA52.keep (by decide), hA65.keep (by decide), hM.keep (by decide) (by decide) _ (Below.refl _ _)⟩
      simp only [upd]
      rfl
    case sA_4 =>
      intro listed bb u hsz hn hwt hinv
      obtain ⟨x, rfl, hC, hU, h2, h5, h6, hAp, hA52, hA65, hM⟩ := hinv
      have f3 := Lib.hid (hU 3 _ rfl (hwt 3 (by kernel_rfl)))
      simp only [putsX, Act.put, List.setIfInBounds_toArray, List.set_cons_zero, List.set_cons_succ]
      rw [f3.out]
      obtain ⟨d0, d1⟩ := cells2 (keep_block hC p1 (lt_of_block p1))
      go_wp2_with fail
      refine stepQ_normal ⟨trivial, upd x 4 (.slice a2 n2 c2), ?_, hC, hU.step (fun _ h => Option.some.inj h), h2.keep (by decide) (by decide) _ id, h5.keep (by decide) (by decide) _ id, h6.keep (by decide) (by decide) _ id, hAp.keep (by decide) (by decide) (by decide) _, hA52.keep (by decide), hA65.keep (by decide), hM.keep (by decide) (by decide) _ (Below.refl _ _)⟩
      simp only [upd]
      simp only [f3.out]
      (try rfl)
    case sA_5 =>
      intro listed bb u hsz hn hwt hinv
      obtain ⟨x, rfl, hC, hU, h2, h5, h6, hAp, hA52, hA65, hM⟩ := hinv
      have f4 := Lib.hid (hU 4 _ rfl (hwt 4 (by kernel_rfl)))
      simp only [putsX, Act.put, List.setIfInBounds_toArray, List.set_cons_zero, List.set_cons_succ]
      have n6 := hA65.no hn
      obtain ⟨aa, ca, e2, own2⟩ := h2 (hwt 2 (by kernel_rfl)) n6
      have HLO := Lib.hid own2.lo
      have E2 := Lib.hid e2
      clear e2 own2
      have hcall : Calls Try.prog 45 #[x 4] u (GivesIn n2 ac u) := by rw [f4.out]; exact (implCloneI_is _ _ _ _ HL2.out h2' HNC2.out _ (HR2.out.below hC)).mono (fun _ _ h => h.at HL2.out)
      go_wp2_with fail
      refine hcall.mono ?_
      rintro e' u' ⟨ad, cd, rfl, own, hb⟩
      go_wp2_with fail
      refine stepQ_normal ⟨trivial, upd x 5 (.slice ad n2 cd), ?_, hC.trans (hb.mono hC.size), hU.step (fun _ h => by cases h), h2.keep (by decide) (by decide) _ (fun ⟨b1, b2, b3, b4⟩ => ⟨b1, b2, b3, b4.below (hb)⟩), FactW.new ⟨ad, cd, rfl, own.mono hC.size⟩, h6.keep (by decide) (by decide) _ (fun ⟨b1, b2, b3, b4, b5, b6, b7, b8⟩ => ⟨b1, b2, b3, b4, b5, b6.below (hb), b7.below (hb), b8⟩), AptR.new (by decide) ⟨aa, ca, E2.out, fun x y hx hy => by have := (HLO.out x hx).2; have := (own.lo y hy).1; omega⟩, Aft.new (hwt 2 (by kernel_rfl)), hA65.keep (by decide), hM.keep (by decide) (by decide) _ (hb)⟩
      simp only [upd]
      rfl
    case sA_6 =>
      intro listed bb u hsz hn hwt hinv
      obtain ⟨x, rfl, hC, hU, h2, h5, h6, hAp, hA52, hA65, hM⟩ := hinv
      simp only [putsX, Act.put, List.setIfInBounds_toArray, List.set_cons_zero, List.set_cons_succ]
      obtain ⟨aa, ca, ab, cb, e2, e5, hap⟩ := hAp (hwt 5 (by kernel_rfl)) hn
      have o2 : OwnI w1.heap.size (.slice aa n1 ca) la u := by
        obtain ⟨a', c', e', o⟩ := h2 (hwt 2 (by kernel_rfl)) hn
        rw [e2] at e'
        cases e'
        exact o
      have o5 : OwnI w1.heap.size (.slice ab n2 cb) ac u := by
        obtain ⟨a', c', e', o⟩ := h5 (hwt 5 (by kernel_rfl)) hn
        rw [e5] at e'
        cases e'
        exact o
      have E2 := Lib.hid e2
      have E5 := Lib.hid e5
      rw [E2.out, E5.out]
      clear e2 e5
      go_wp2_with fail
      refine stepQ_normal ⟨trivial, upd x 6 (.agg #[.slice aa n1 ca, .slice ab n2 cb]), ?_, hC, hU.step (fun _ h => by cases h), FactW.call (by rw [hsz]; decide), FactW.call (by rw [hsz]; decide), FactW.new ⟨aa, ca, ab, cb, rfl, o2, o5, hap⟩, AptR.call (by rw [hsz]; decide), hA52.keep (by decide), Aft.new (hwt 5 (by kernel_rfl)), hM.keep (by decide) (by decide) _ (Below.refl _ _)⟩
      simp only [upd]
      simp only [E2.out, E5.out]
      (try rfl)
    case sA_7 =>
      intro listed bb u hsz hn hwt hinv
      obtain ⟨x, rfl, hC, hU, h2, h5, h6, hAp, hA52, hA65, hM⟩ := hinv
      simp only [putsX, Act.put, List.setIfInBounds_toArray, List.set_cons_zero, List.set_cons_succ]
      go_wp2_with fail
      refine stepQ_normal ⟨trivial, upd x 7 (.pointer (some ⟨u.heap.size, 0, none⟩)), ?_, hC.alloc hC.size _, hU.step (fun _ h => by cases h), h2.keep (by decide) (by decide) _ (fun ⟨b1, b2, b3, b4⟩ => ⟨b1, b2, b3, b4.below (below_allocI _)⟩), h5.keep (by decide) (by decide) _ (fun ⟨b1, b2, b3, b4⟩ => ⟨b1, b2, b3, b4.below (below_allocI _)⟩), h6.keep (by decide) (by decide) _ (fun ⟨b1, b2, b3, b4, b5, b6, b7, b8⟩ => ⟨b1, b2, b3, b4, b5, b6.below (below_allocI _), b7.below (below_allocI _), b8⟩), hAp.keep (by decide) (by decide) (by decide) _, hA52.keep (by decide), hA65.keep (by decide), hM.new (by decide) hn hC.size⟩
      simp only [upd]
      rfl
    case sA_8 =>
      intro listed bb u hsz hn hwt hinv
      obtain ⟨x, rfl, hC, hU, h2, h5, h6, hAp, hA52, hA65, hM⟩ := hinv
      simp only [putsX, Act.put, List.setIfInBounds_toArray, List.set_cons_zero, List.set_cons_succ]
      obtain ⟨g, fg, hg, hh⟩ := hM.there (hwt 7 (by kernel_rfl)) hn
      obtain ⟨aa, ca, ab, cb, fp, o1, o2, hap⟩ := h6 (hwt 6 (by kernel_rfl)) hn
      have FG := Lib.hid fg
      have FP := Lib.hid fp
      rw [FG.out, FP.out]
      obtain ⟨y0, y1⟩ := cells2 hh
      have t0 := thawed hh 0
      have t1 := thawed hh 1
      have hne1 := o1.apartRd hh
      have hne2 := o2.apartRd hh
      have hfin := set_cells (set_cells hh 0 (.slice aa n1 ca)) 1 (.slice ab n2 cb)
      have O1 := Lib.hid (ownI_same (ownI_same o1 (fun x hx => Below.heap_setCell u ⟨g, 0, none⟩ (.slice aa n1 ca) _ (hne1 x hx))) (fun x hx => Below.heap_setCell _ ⟨g, 1, none⟩ (.slice ab n2 cb) _ (hne1 x hx)))
      have O2 := Lib.hid (ownI_same (ownI_same o2 (fun x hx => Below.heap_setCell u ⟨g, 0, none⟩ (.slice aa n1 ca) _ (hne2 x hx))) (fun x hx => Below.heap_setCell _ ⟨g, 1, none⟩ (.slice ab n2 cb) _ (hne2 x hx)))
      clear hh fg fp o1 o2 hne1 hne2
      go_wp2_with fail
      refine stepQ_normal ⟨trivial, upd x 8 undef, ?_, (hC.setCell (by exact hg) _).setCell (by exact hg) _, hU.step (fun _ h => by cases h), FactW.gone (hwt 6 (by kernel_rfl)), FactW.gone (hwt 6 (by kernel_rfl)), FactW.call (by rw [hsz]; decide), hAp.keep (by decide) (by decide) (by decide) _, hA52.keep (by decide), hA65.keep (by decide), MadeD.fill (by decide) (hwt 7 (by kernel_rfl)) (by rw [hsz]; decide) FG.out hg hfin O1.out O2.out hap⟩
      simp only [upd]
      simp only [FG.out, FP.out]
      (try rfl)
  case heA =>
  intro listed q u hall hC hU hS
  obtain ⟨h2, h5, h6, hAp, hA52, hA65, hM⟩ := hS
  obtain ⟨gP, aa, ca, ab, cb, fg, hg, hh, o1, o2, hap⟩ := hM.full (hall 7 (by decide)) (hall 8 (by decide))
  simp only [putsX, Act.put, List.setIfInBounds_toArray, List.set_cons_zero, List.set_cons_succ]
  rw [fg]
  clear hall hU h2 h5 h6 hAp hA52 hA65 hM fg
  generalize q 0 = _q0, q 1 = _q1, q 2 = _q2, q 3 = _q3, q 4 = _q4, q 5 = _q5, q 6 = _q6
  have g2' := keep_block hC g1 (lt_of_block g1)
  have p2 := keep_block hC p1 (lt_of_block p1)
  have e2 := keep_block hC e1 (lt_of_block e1)
  have t2 := keep_block hC t1 (lt_of_block t1)
  have n2_ := hh
  have HB2 : Hid (Below w.heap.size w u) := HB1.out.trans (hC.mono HB1.out.size)
  have HC2 : Hid (w1.heap.size ≤ u.heap.size) := hC.size
  have HX1 := Lib.hid (HR1.out.below hC)
  have HX2 := Lib.hid (HR2.out.below hC)
  have OA2 := Lib.hid o1
  have OB2 := Lib.hid o2
  have HAP := Lib.hid hap
  have HG := Lib.hid hg
  clear hh hC o1 o2 hap hg g1 p1 e1 t1 HB1 HR1 HR2 hw1
  generalize u = w2 at g2' p2 e2 t2 n2_ HB2 HC2 HX1 HX2 OA2 OB2 ⊢
  obtain ⟨c0, c1', c2', c3⟩ := cells4 g2'
  obtain ⟨d0, d1⟩ := cells2 p2
  obtain ⟨q0, q1, q2, q3, q4⟩ := cells5 e2
  go_wp2_with fail
  refine (implAccepts_is g0 B g2 g3 N HN.out a1 n1 c1 la a2 n2 c2 ac e av HAV.out HL1.out h1 HL2.out h2' hc1 _ HX1.out HX2.out).mono ?_
  rintro e' w3 ⟨rfl, hb3⟩
  have g3' := keep_block hb3 g2' (lt_of_block g2')
  have e3 := keep_block hb3 e2 (lt_of_block e2)
  have t3 := keep_block hb3 t2 (lt_of_block t2)
  have n3 := keep_block hb3 n2_ (lt_of_block n2_)
  have HB3 : Hid (Below w.heap.size w w3) := HB2.out.trans (hb3.mono HB2.out.size)
  have HC3 : Hid (w1.heap.size ≤ w3.heap.size) := Nat.le_trans HC2.out hb3.size
  have OA3 := Lib.hid (OA2.out.below hb3)
  have OB3 := Lib.hid (OB2.out.below hb3)
  clear hb3 c0 c1' c2' c3 d0 d1 q0 q1 q2 q3 q4 g2' p2 e2 t2 n2_ HB2 HC2 HX1 HX2 OA2 OB2
  cases av
  case false =>
    have hno : ¬ CanAdd g0 B g2 g3 N la ac e := of_decide_eq_false HAV.out
    obtain rfl : l' = la := by rw [← HLP.out]; exact if_neg hno
    obtain rfl : a' = ac := by rw [← HAP'.out]; exact if_neg hno
    obtain rfl : n2' = n2 := by rw [← HN2.out, HL2.out]
    clear hno
    obtain ⟨y0, y1⟩ := cells2 n3
    obtain ⟨x0, x1⟩ := cells2 t3
    have f0 := thawed t3 0
    have f1 := thawed t3 1
    go_wp2_with fail
    (try simp only [Exit.inBlock, Exit.then])
    refine bodyPost_ret (v := .agg #[.slice aa n1 ca, .slice ab n2' cb]) (by simp [results, Try.results15, go_sem, x0, x1]) rfl ⟨_, _, _, _, rfl, ?_, ?_, HAP.out, ?_⟩
    · refine OwnI.mono (B := w1.heap.size) ?_ HS.out
      repeat' (first | exact OA3.out | refine ownI_set (by have := HT.out; simp; omega) ?_ _)
    · refine OwnJ.mono (B := w1.heap.size) ?_ HS.out
      repeat' (first | exact (OB3.out.toJ HL2.out) | refine ownJ_set (by have := HT.out; simp; omega) ?_ _)
    · repeat' (first | exact HB3.out | refine Below.drew ?_ | refine Below.setCell ?_ (by simp <;> omega) _)
  have hcan : CanAdd g0 B g2 g3 N la ac e := of_decide_eq_true HAV.out
  have hxx : 0 ≤ e.x ∧ e.x < (N : Int) := ad_bank HN.out hcan.2.1.2
  have hkk : 1 ≤ e.k ∧ e.k ≤ 9 := hcan.2.1.1.1
  have hn24 : n2 ≤ 4 := by have := hcan.1.2.2.1; have := HL2.out; omega
  obtain ⟨s, hs⟩ : ∃ s, slotI N e.k e.x = s := ⟨_, rfl⟩
  have hsl : s < n1 := by have := slot_lt hkk (fun _ => hxx); have := hcan.1.2.1; have := HL1.out; omega
  have HLS : Hid (l' = la.set s e.t) := by show _ = _; rw [← HLP.out, ← hs]; exact if_pos hcan
  have HAS : Hid (a' = addA ac e) := by show _ = _; rw [← HAP'.out]; exact if_pos hcan
  have HSL := Lib.hid hs
  have HLOB : Hid (∀ x, ab = some x → w1.heap.size ≤ x.block) := fun x hx => (OB3.out.lo x hx).1
  have HK := Lib.hid hkk
  have HX := Lib.hid hxx
  clear hcan hxx hkk hs
  obtain ⟨b1, rfl, hcell, hfro, hbb, hbs⟩ := OA3.out.at (k := s) (by rw [HL1.out]; exact hsl)
  obtain ⟨old, hold⟩ : ∃ o, la[s]'(by rw [HL1.out]; exact hsl) = o := ⟨_, rfl⟩
  rw [hold] at hcell
  have hgb : gP ≠ b1 := fun h => OA3.out.apartRd n3 _ rfl h.symm
  have HGB := Lib.hid hgb
  obtain ⟨c0, c1', c2', c3⟩ := cells4 g3'
  obtain ⟨d0, d1⟩ := cells2 n3
  obtain ⟨q0, q1, q2, q3, q4⟩ := cells5 e3
  have zc0 := fun z : Later w3 => z.cell c0
  have zc1 := fun z : Later w3 => z.cell c1'
  have zc2 := fun z : Later w3 => z.cell c2'
  have zc3 := fun z : Later w3 => z.cell c3
  have zd0 := fun z : Later w3 => z.cell d0
  have zd1 := fun z : Later w3 => z.cell d1
  have zq0 := fun z : Later w3 => z.cell q0
  have zq1 := fun z : Later w3 => z.cell q1
  have zq2 := fun z : Later w3 => z.cell q2
  have zq3 := fun z : Later w3 => z.cell q3
  have zq4 := fun z : Later w3 => z.cell q4
  clear hgb hold c0 c1' c2' c3 d0 d1 q0 q1 q2 q3 q4
  go_wp2_with fail
  refine wp_region_later_tail 9 (by kernel_rfl) (by kernel_rfl) ?_
  simp only [List.take_succ_cons, List.take_zero, List.drop_succ_cons, List.drop_zero]
  repeat (go_big_quiet_step ((go_at_call 47; exact Gives.later _ (implLastIndex_is g0 B g2 g3 N HN.out e.k e.x e.y e.z HK.out HX.out s HSL.out _))))
  refine wpQuiet_nil ?_
  rintro w4 ⟨zz, rfl⟩
  have e4 := zz.block e3
  have t4 := zz.block t3
  have n4 := zz.block n3
  have HB4 : Hid (Below w.heap.size w zz.to) := HB3.out.trans (zz.ok.mono HB3.out.size)
  have HC4 : Hid (w1.heap.size ≤ zz.to.heap.size) := Nat.le_trans HC3.out zz.ok.size
  have OA4 := Lib.hid (OA3.out.below zz.ok)
  have OB4 := Lib.hid (OB3.out.below zz.ok)
  have hc4 := zz.cell hcell
  obtain ⟨b4, hb4, _, hf4, _, _⟩ := OA4.out.at (k := s) (by rw [HL1.out]; exact hsl)
  cases hb4
  have e5 : (zz.to.setCell ⟨b1, s, none⟩ (.int .i64 e.t)).heap[w.heap.size + 1 + 1]? = some (.cells #[.int .i64 e.t, .int .i64 e.k, .int .i64 e.x, .int .i64 e.y, .int .i64 e.z] 41) := (Below.heap_setCell _ _ _ _ (by have := HT.out; simp; omega)).trans e4
  have t5 : (zz.to.setCell ⟨b1, s, none⟩ (.int .i64 e.t)).heap[w.heap.size + 1 + 1 + 1]? = some (.cells #[.slice none 0 0, .slice none 0 0] 33) := (Below.heap_setCell _ _ _ _ (by have := HT.out; simp; omega)).trans t4
  have n5 : (zz.to.setCell ⟨b1, s, none⟩ (.int .i64 e.t)).heap[gP]? = some (.cells #[.slice (some ⟨b1, 0, none⟩) n1 ca, .slice ab n2 cb] 33) := (Below.heap_setCell _ _ _ _ (by exact HGB.out)).trans n4
  have HB5 : Hid (Below w.heap.size w (zz.to.setCell ⟨b1, s, none⟩ (.int .i64 e.t))) := HB4.out.setCell (by have := HS.out; simp; omega) _
  have OA5 : Hid (OwnI w1.heap.size (.slice (some ⟨b1, 0, none⟩) n1 ca) l' (zz.to.setCell ⟨b1, s, none⟩ (.int .i64 e.t))) := by show OwnI _ _ _ _; rw [HLS.out]; exact OA4.out.stored HL1.out s e.t
  have OB5 : Hid (OwnI w1.heap.size (.slice ab n2 cb) ac (zz.to.setCell ⟨b1, s, none⟩ (.int .i64 e.t))) := ownI_same OB4.out (fun x hx => Below.heap_setCell _ _ _ _ (fun h => HAP.out ⟨b1, 0, none⟩ x rfl hx h.symm))
  have HC5 : Hid (w1.heap.size ≤ (zz.to.setCell ⟨b1, s, none⟩ (.int .i64 e.t)).heap.size) := by have := HC4.out; show _ ≤ _; simpa [World.setCell] using this
  obtain ⟨q0, q1, q2, q3, q4⟩ := cells5 e5
  obtain ⟨m0, m1⟩ := cells2 n5
  clear e4 t4 n4 HB4 HC4 OA4 OB4 zc0 zc1 zc2 zc3 zd0 zd1 zq0 zq1 zq2 zq3 zq4 hcell hfro e3 t3 n3 g3' HB3 HC3 OA3 OB3
  by_cases hk1 : e.k = 1
  case neg =>
    have tk : (e.k == 1) = false := by simp [hk1]
    obtain rfl : a' = ac := by rw [HAS.out]; exact if_neg hk1
    obtain rfl : n2' = n2 := by rw [← HN2.out, HL2.out]
    clear hk1
    obtain ⟨y0, y1⟩ := cells2 n5
    obtain ⟨x0, x1⟩ := cells2 t5
    have f0 := thawed t5 0
    have f1 := thawed t5 1
    go_wp2_with fail
    (try simp only [Exit.inBlock, Exit.then])
    refine bodyPost_ret (v := .agg #[.slice (some ⟨b1, 0, none⟩) n1 ca, .slice ab n2' cb]) (by simp [results, Try.results15, go_sem, x0, x1]) rfl ⟨_, _, _, _, rfl, ?_, ?_, HAP.out, ?_⟩
    · refine OwnI.mono (B := w1.heap.size) ?_ HS.out
      repeat' (first | exact OA5.out | refine ownI_set (by have := HT.out; simp; omega) ?_ _)
    · refine OwnJ.mono (B := w1.heap.size) ?_ HS.out
      repeat' (first | exact (OB5.out.toJ HL2.out) | refine ownJ_set (by have := HT.out; simp; omega) ?_ _)
    · repeat' (first | exact HB5.out | refine Below.drew ?_ | refine Below.setCell ?_ (by simp <;> omega) _)

  have tk : (e.k == 1) = true := by simp [hk1]
  have hba : Below (zz.to.setCell ⟨b1, s, none⟩ (.int .i64 e.t)).heap.size (zz.to.setCell ⟨b1, s, none⟩ (.int .i64 e.t)) ((zz.to.setCell ⟨b1, s, none⟩ (.int .i64 e.t)).alloc (.cells #[.int .i64 e.t] 3)) := (Below.refl _ _).alloc (Nat.le_refl _) _
  have t6 := keep_block hba t5 (lt_of_block t5)
  have n6 := keep_block hba n5 (lt_of_block n5)
  have HB6 : Hid (Below w.heap.size w ((zz.to.setCell ⟨b1, s, none⟩ (.int .i64 e.t)).alloc (.cells #[.int .i64 e.t] 3))) := HB5.out.trans (hba.mono HB5.out.size)
  have OA6 := Lib.hid (OA5.out.below hba)
  have OB6 := OB5.out.below hba
  have hC6 : w1.heap.size ≤ ((zz.to.setCell ⟨b1, s, none⟩ (.int .i64 e.t)).alloc (.cells #[.int .i64 e.t] 3)).heap.size := Nat.le_trans HC5.out hba.size
  have HC6 := Lib.hid hC6
  have hrow6 : RowI ((zz.to.setCell ⟨b1, s, none⟩ (.int .i64 e.t)).alloc (.cells #[.int .i64 e.t] 3)) (some ⟨zz.to.heap.size, 0, none⟩) [e.t] := by
    have h := heap_alloc_new (zz.to.setCell ⟨b1, s, none⟩ (.int .i64 e.t)) (.cells #[.int .i64 e.t] 3)
    rw [show (zz.to.setCell ⟨b1, s, none⟩ (.int .i64 e.t)).heap.size = zz.to.heap.size by simp [World.setCell]] at h
    exact rowI_cell1 h
  have HAC : Hid (a' = if 4 < (ac ++ [e.t]).length then (ac ++ [e.t]).drop 1 else ac ++ [e.t]) := by show _ = _; rw [HAS.out]; exact if_pos hk1
  have hap' : ∀ x, ab = some x → b1 ≠ x.block := fun x hx => HAP.out ⟨b1, 0, none⟩ x rfl hx
  have HAB := Lib.hid hap'
  have HZ6 : Hid (((zz.to.setCell ⟨b1, s, none⟩ (.int .i64 e.t)).alloc (.cells #[.int .i64 e.t] 3)).heap.size = zz.to.heap.size + 1) := by show _ = _; simp [World.setCell]
  have HGA : Hid (∀ x, ab = some x → x.block ≠ gP) := OB5.out.apartRd n5
  clear hk1 hba e5 t5 n5 HB5 HC5 OA5 OB5 hap'
  go_wp2_with (at_builtin; refine append_int rfl _ _ rfl w1.heap.size _ n2 ac rfl OB6 HL2.out (some ⟨zz.to.heap.size, 0, none⟩) 1 1 [e.t] rfl rfl (fun h => by cases h) hrow6 (by omega) hC6 ?_)
  intro v' w7 hown7 hgrow hat
  clear q0 q1 q2 q3 q4 m0 m1 hrow6 OB6 hC6 hc4 hf4
  generalize ((zz.to.setCell ⟨b1, s, none⟩ (.int .i64 e.t)).alloc (.cells #[.int .i64 e.t] 3)) = w6 at t6 n6 HB6 OA6 HC6 HZ6 hgrow ⊢
  obtain ⟨va, vc, rfl⟩ := hown7.shape
  rw [List.length_append, HL2.out, List.length_singleton] at hown7 hat ⊢
  have hkeep : ∀ i, i < w6.heap.size → (∀ x, ab = some x → x.block ≠ i) → w7.heap[i]? = w6.heap[i]? := fun i hi hn => hgrow.block i hi (fun e' => by
    cases hab : ab with
    | none => rw [hab] at e'; cases e'
    | some x => rw [hab] at e'; exact hn x hab (Option.some.inj e').symm)
  have t7 := (hkeep _ (lt_of_block t6) (fun x hx => by have := (HLOB.out x hx); have := HT.out; omega)).trans t6
  have n7 := (hkeep _ (lt_of_block n6) (fun x hx => HGA.out x hx)).trans n6
  have OA7 : Hid (OwnI w1.heap.size (.slice (some ⟨b1, 0, none⟩) n1 ca) l' w7) := ownI_same OA6.out (fun x hx => hkeep _ (OA6.out.lo x hx).2 (fun y hy => by cases hx; exact fun h => HAB.out y hy h.symm))
  have HB7 : Hid (Below w.heap.size w w7) := HB6.out.grown hgrow HB6.out.size (fun j hj => by
    cases hab : ab with
    | none => rw [hab] at hj; cases hj
    | some x => rw [hab] at hj; have h1 := Option.some.inj hj; have h2 := HLOB.out x hab; have h3 := HS.out; have h4 : x.block = j := h1; omega)
  obtain ⟨bv, rfl, _, _, hbv, _⟩ := hown7.at (k := 0) (by simp)
  have hbv1 : b1 ≠ bv := by
    rcases hat with h | h
    · cases hab : ab with
      | none => rw [hab] at h; cases h
      | some x => rw [hab] at h; have := HAB.out x hab; have h2 : bv = x.block := Option.some.inj h; omega
    · have h2 : bv = zz.to.heap.size + 1 := Option.some.inj h
      have := HZ6.out
      have := (OA6.out.lo _ rfl).2
      have h3 : b1 < w6.heap.size := this
      omega
  have hvc := hown7.capI
  have OV := Lib.hid (hown7.toJ (by simp [HL2.out]))
  have hgv : gP ≠ bv := fun h => hown7.apartRd n7 _ rfl h.symm
  have HGV := Lib.hid hgv
  have HBV := Lib.hid hbv
  obtain ⟨m0, m1⟩ := cells2 n7
  have k1 := thawed n7 1
  clear hown7 hgrow hat hkeep t6 n6 OA6 HB6 hgv hbv
  by_cases h4 : n2 = 4
  case pos =>
    have hlen5 : 4 < (ac ++ [e.t]).length := by have := HL2.out; simp; omega
    have HA5 : Hid (a' = (ac ++ [e.t]).drop 1) := by have := HAC.out; rw [if_pos hlen5] at this; exact this
    obtain rfl : n2' = n2 := by rw [← HN2.out, HA5.out]; have := HL2.out; simp; omega
    have w4a : IntKind.i64.wrap (((n2' + 1 : Nat) : Int) - 4) = 1 := by rw [IntWalk.i64_in _ (by omega)]; omega
    have w4b : IntKind.i64.wrap ((n2' : Int) + 1 - 4) = 1 := by rw [IntWalk.i64_in _ (by omega)]; omega
    have v1 : 1 ≤ n2' + 1 := by omega
    have v2 : 1 ≤ vc := by omega
    have v3 : ¬ (1 = vc) := by omega
    have v4 : (1 : Int) ≤ (n2' : Int) + 1 := by omega
    have OD := Lib.hid (OV.out.dropk (k := 1) (by omega))
    have n8 : (w7.setCell ⟨gP, 1, none⟩ (.slice (some ⟨bv, 1, none⟩) n2' (vc - 1))).heap[gP]? = some (.cells #[.slice (some ⟨b1, 0, none⟩) n1 ca, .slice (some ⟨bv, 1, none⟩) n2' (vc - 1)] 33) := set_cells n7 1 (.slice (some ⟨bv, 1, none⟩) n2' (vc - 1))
    have t8 : (w7.setCell ⟨gP, 1, none⟩ (.slice (some ⟨bv, 1, none⟩) n2' (vc - 1))).heap[w.heap.size + 1 + 1 + 1]? = some (.cells #[.slice none 0 0, .slice none 0 0] 33) := (Below.heap_setCell _ _ _ _ (by have := HT.out; have := HG.out; simp; omega)).trans t7
    have OA8 : Hid (OwnI w1.heap.size (.slice (some ⟨b1, 0, none⟩) n1 ca) l' (w7.setCell ⟨gP, 1, none⟩ (.slice (some ⟨bv, 1, none⟩) n2' (vc - 1)))) := ownI_same OA7.out (fun x hx => Below.heap_setCell _ _ _ _ (by cases hx; exact fun h => HGB.out h.symm))
    have OV8 : Hid (OwnJ w1.heap.size (.slice (some ⟨bv, 1, none⟩) n2' (vc - 1)) a' (w7.setCell ⟨gP, 1, none⟩ (.slice (some ⟨bv, 1, none⟩) n2' (vc - 1)))) := OwnJ.set (show OwnJ w1.heap.size (.slice (some ⟨bv, 1, none⟩) n2' (vc - 1)) a' w7 by rw [HA5.out]; exact OD.out) (fun x hx => by cases hx; exact fun h => HGV.out h.symm) _
    have HB8 : Hid (Below w.heap.size w (w7.setCell ⟨gP, 1, none⟩ (.slice (some ⟨bv, 1, none⟩) n2' (vc - 1)))) := HB7.out.setCell (by have := HG.out; have := HS.out; simp; omega) _
    have HAPV : Hid (Apt (some ⟨b1, 0, none⟩) (some ⟨bv, 1, none⟩)) := fun x y hx hy => by cases hx; cases hy; exact hbv1
    clear hlen5 h4 n7 t7 OA7 HB7
    obtain ⟨y0, y1⟩ := cells2 n8
    obtain ⟨x0, x1⟩ := cells2 t8
    have f0 := thawed t8 0
    have f1 := thawed t8 1
    go_wp2_with fail
    (try simp only [Exit.inBlock, Exit.then])
    refine bodyPost_ret (v := .agg #[.slice (some ⟨b1, 0, none⟩) n1 ca, .slice (some ⟨bv, 1, none⟩) n2' (vc - 1)]) (by simp [results, Try.results15, go_sem, x0, x1]) rfl ⟨_, _, _, _, rfl, ?_, ?_, HAPV.out, ?_⟩
    · refine OwnI.mono (B := w1.heap.size) ?_ HS.out
      repeat' (first | exact OA8.out | refine ownI_set (by have := HT.out; simp; omega) ?_ _)
    · refine OwnJ.mono (B := w1.heap.size) ?_ HS.out
      repeat' (first | exact OV8.out | refine ownJ_set (by have := HT.out; simp; omega) ?_ _)
    · repeat' (first | exact HB8.out | refine Below.drew ?_ | refine Below.setCell ?_ (by simp <;> omega) _)
  case neg =>
    have hlen5 : ¬ (4 < (ac ++ [e.t]).length) := by have := HL2.out; simp; omega
    have HA5 : Hid (a' = ac ++ [e.t]) := by have := HAC.out; rw [if_neg hlen5] at this; exact this
    obtain rfl : n2' = n2 + 1 := by rw [← HN2.out, HA5.out]; have := HL2.out; simp; omega
    have w4a : IntKind.i64.wrap (((n2 + 1 : Nat) : Int) - 4) = (n2 : Int) - 3 := by rw [IntWalk.i64_in _ (by omega)]; omega
    have w4b : IntKind.i64.wrap ((n2 : Int) + 1 - 4) = (n2 : Int) - 3 := by rw [IntWalk.i64_in _ (by omega)]; omega
    have t9 : decide ((0 : Int) < (n2 : Int) - 3) = false := decide_eq_false (by omega)
    have t9' : ¬ ((0 : Int) < (n2 : Int) - 3) := by omega
    have v3 : ¬ (0 = vc) := by omega
    have n8 : (w7.setCell ⟨gP, 1, none⟩ (.slice (some ⟨bv, 0, none⟩) (n2 + 1) vc)).heap[gP]? = some (.cells #[.slice (some ⟨b1, 0, none⟩) n1 ca, .slice (some ⟨bv, 0, none⟩) (n2 + 1) vc] 33) := set_cells n7 1 (.slice (some ⟨bv, 0, none⟩) (n2 + 1) vc)
    have t8 : (w7.setCell ⟨gP, 1, none⟩ (.slice (some ⟨bv, 0, none⟩) (n2 + 1) vc)).heap[w.heap.size + 1 + 1 + 1]? = some (.cells #[.slice none 0 0, .slice none 0 0] 33) := (Below.heap_setCell _ _ _ _ (by have := HT.out; have := HG.out; simp; omega)).trans t7
    have OA8 : Hid (OwnI w1.heap.size (.slice (some ⟨b1, 0, none⟩) n1 ca) l' (w7.setCell ⟨gP, 1, none⟩ (.slice (some ⟨bv, 0, none⟩) (n2 + 1) vc))) := ownI_same OA7.out (fun x hx => Below.heap_setCell _ _ _ _ (by cases hx; exact fun h => HGB.out h.symm))
    have OV8 : Hid (OwnJ w1.heap.size (.slice (some ⟨bv, 0, none⟩) (n2 + 1) vc) a' (w7.setCell ⟨gP, 1, none⟩ (.slice (some ⟨bv, 0, none⟩) (n2 + 1) vc))) := OwnJ.set (show OwnJ w1.heap.size (.slice (some ⟨bv, 0, none⟩) (n2 + 1) vc) a' w7 by rw [HA5.out]; exact OV.out) (fun x hx => by cases hx; exact fun h => HGV.out h.symm) _
    have HB8 : Hid (Below w.heap.size w (w7.setCell ⟨gP, 1, none⟩ (.slice (some ⟨bv, 0, none⟩) (n2 + 1) vc))) := HB7.out.setCell (by have := HG.out; have := HS.out; simp; omega) _
    have HAPV : Hid (Apt (some ⟨b1, 0, none⟩) (some ⟨bv, 0, none⟩)) := fun x y hx hy => by cases hx; cases hy; exact hbv1
    clear hlen5 h4 n7 t7 OA7 HB7
    obtain ⟨y0, y1⟩ := cells2 n8
    obtain ⟨x0, x1⟩ := cells2 t8
    have f0 := thawed t8 0
    have f1 := thawed t8 1
    go_wp2_with fail
    (try simp only [Exit.inBlock, Exit.then])
    refine bodyPost_ret (v := .agg #[.slice (some ⟨b1, 0, none⟩) n1 ca, .slice (some ⟨bv, 0, none⟩) (n2 + 1) vc]) (by simp [results, Try.results15, go_sem, x0, x1]) rfl ⟨_, _, _, _, rfl, ?_, ?_, HAPV.out, ?_⟩
    · refine OwnI.mono (B := w1.heap.size) ?_ HS.out
      repeat' (first | exact OA8.out | refine ownI_set (by have := HT.out; simp; omega) ?_ _)
    · refine OwnJ.mono (B := w1.heap.size) ?_ HS.out
      repeat' (first | exact OV8.out | refine ownJ_set (by have := HT.out; simp; omega) ?_ _)
    · repeat' (first | exact HB8.out | refine Below.drew ?_ | refine Below.setCell ?_ (by simp <;> omega) _)

end Go.Proofs.Ythplhjdfajhmpaa

namespace Go.Proofs.Ythplhjdfajhmpaa
open Go.RowKit Go.PlainAid

set_option linter.unusedVariables false

set_option maxHeartbeats 16000000 in
set_option maxRecDepth 100000 in
theorem implReadyOf_is : IReadyOf := by
  intro g0 B g2 g3 N hN a n c L la ac n1 n2 hla hac hn1 hn2 hl h1 hnc w hr
  obtain ⟨w1, hw1⟩ : ∃ u, (w.alloc (.cells #[.int .i64 g0, .int .i64 B, .int .i64 g2, .int .i64 g3] 25)).alloc (.cells #[.slice none 0 0, .slice none 0 0] 33) = u := ⟨_, rfl⟩
  have HB1 : Hid (Below w.heap.size w w1) := by subst hw1; exact ((Below.refl _ _).alloc (Nat.le_refl _) _).alloc (by simp) _
  have g1 : w1.heap[w.heap.size]? = some (.cells #[.int .i64 g0, .int .i64 B, .int .i64 g2, .int .i64 g3] 25) := by subst hw1; exact heap_alloc2_old _ _ _
  have t1 : w1.heap[w.heap.size + 1]? = some (.cells #[.slice none 0 0, .slice none 0 0] 33) := by subst hw1; exact heap_alloc2_new _ _ _
  have HS1 : Hid (w.heap.size + 1 < w1.heap.size) := lt_of_block t1
  have HR := Lib.hid (hr.below HB1.out)
  have HL := Lib.hid hl
  have HN := Lib.hid hN
  have HLA := Lib.hid hla
  have HAC := Lib.hid hac
  have HN1 := Lib.hid hn1
  have HN2 := Lib.hid hn2
  have hr8 := bankN_range g0 B g2 g3
  have hN8 : N ≤ 8 := by omega
  have HLEN : Hid (∀ m, (ofT g0 B g2 g3 N (L.take m)).1.length = (newL g0 B g2 g3 N).length ∧ (ofT g0 B g2 g3 N (L.take m)).2.length ≤ 4) := fun m => by
    induction m with
    | zero => exact ⟨rfl, Nat.zero_le _⟩
    | succ m ih =>
      by_cases hm : m < L.length
      · rw [take_snoc hm, ofT_snoc]
        exact ⟨(rdL_len _ _ _ _ _ _ _ _).trans ih.1, rdA_len _ _ _ _ _ _ _ _ ih.2⟩
      · rw [List.take_of_length_le (by omega)] at ih ⊢
        exact ih
  have HNL : Hid ((newL g0 B g2 g3 N).length = n1) := by
    show _ = _
    rw [← hn1, ← hla, ← (HLEN.out n).1, List.take_of_length_le (by omega)]
  have hn1b : n1 ≤ 81 := by
    rw [← HNL.out]
    unfold newL
    split
    · rw [List.length_replicate]; omega
    · simp
  obtain ⟨c0, c1, c2, c3⟩ := cells4 g1
  clear hr hl hN hla hac hn1 hn2 hr8
  go_enter Try.func14, Try.ntmps14
  go_wp2_with fail
  refine (implReadyNew_is g0 B g2 g3 N HN.out _ rfl n1 HNL.out _).mono ?_
  rintro e w2 ⟨ao, co, bo, dq, rfl, oa, ob, ap, hb2⟩
  have hb3 : Below w2.heap.size w2 (w2.alloc (.cells #[.slice ao n1 co, .slice bo 0 dq] 33)) := (Below.refl _ _).alloc (Nat.le_refl _) _
  have HS2 : Hid (w1.heap.size ≤ w2.heap.size) := hb2.size
  have ST : Hid ((w2.alloc (.cells #[.slice ao n1 co, .slice bo 0 dq] 33)).heap[w.heap.size]? = some (.cells #[.int .i64 g0, .int .i64 B, .int .i64 g2, .int .i64 g3] 25) ∧ (w2.alloc (.cells #[.slice ao n1 co, .slice bo 0 dq] 33)).heap[w.heap.size + 1]? = some (.cells #[.slice none 0 0, .slice none 0 0] 33) ∧ (w2.alloc (.cells #[.slice ao n1 co, .slice bo 0 dq] 33)).heap[w2.heap.size]? = some (.cells #[.slice ao n1 co, .slice bo 0 dq] 33) ∧ OwnI w1.heap.size (.slice ao n1 co) (newL g0 B g2 g3 N) (w2.alloc (.cells #[.slice ao n1 co, .slice bo 0 dq] 33)) ∧ OwnJ w1.heap.size (.slice bo 0 dq) [] (w2.alloc (.cells #[.slice ao n1 co, .slice bo 0 dq] 33)) ∧ Apt ao bo ∧ Below w1.heap.size w1 (w2.alloc (.cells #[.slice ao n1 co, .slice bo 0 dq] 33))) :=
    have k := fun (i : Nat) (o : Obj) (h : w1.heap[i]? = some o) => keep_block hb3 (keep_block hb2 h (lt_of_block h)) (by have := lt_of_block h; have := hb2.size; omega)
    ⟨k _ _ g1, k _ _ t1, heap_alloc_new _ _, oa.below hb3, (ob.below hb3).toJ rfl, ap, hb2.trans (hb3.mono hb2.size)⟩
  clear hb2 hb3 oa ob ap c0 c1 c2 c3
  go_wp2_with fail
  generalize (w2.alloc (.cells #[.slice ao n1 co, .slice bo 0 dq] 33)) = w3 at ST ⊢
  go_loopw [11] (fun i wr => ∃ (m n2 : Nat) (aa : Option Addr) (ca : Nat) (ab : Option Addr) (cb : Nat), m ≤ n ∧ i = .int .i64 m ∧ Hid ((ofT g0 B g2 g3 N (L.take m)).2.length = n2) ∧ wr.heap[w.heap.size]? = some (.cells #[.int .i64 g0, .int .i64 B, .int .i64 g2, .int .i64 g3] 25) ∧ wr.heap[w.heap.size + 1]? = some (.cells #[.slice none 0 0, .slice none 0 0] 33) ∧ wr.heap[w2.heap.size]? = some (.cells #[.slice aa n1 ca, .slice ab n2 cb] 33) ∧ OwnI w1.heap.size (.slice aa n1 ca) (ofT g0 B g2 g3 N (L.take m)).1 wr ∧ OwnJ w1.heap.size (.slice ab n2 cb) (ofT g0 B g2 g3 N (L.take m)).2 wr ∧ Apt aa ab ∧ Below w1.heap.size w1 wr) (fun i _ => n - (intOf i).toNat)
  case atStart =>
    obtain ⟨s1, s2, s3, s4, s5, s6, s7⟩ := ST.out
    exact ⟨0, 0, ao, co, bo, _, Nat.zero_le _, rfl, rfl, s1, s2, s3, s4, s5, s6, s7⟩
  case round =>
    clear ST
    obtain ⟨m, k2, aa, ca, ab, cb, hm, rfl, hk2, gr, tr, sr, oa, ob, ap, hbr⟩ := hrel
    have HK2 : Hid ((ofT g0 B g2 g3 N (L.take m)).2.length = k2) := hk2
    have HOA := Lib.hid oa
    have HOB := Lib.hid ob
    have HAP := Lib.hid ap
    have HBR := Lib.hid hbr
    clear oa ob ap hbr hk2
    by_cases hlt : m < n
    case pos =>
      have hml : m < L.length := by rw [HL.out]; exact hlt
      have HT := Lib.hid (take_snoc hml)
      obtain ⟨b, off, rfl, a0, a1, a2, a3, a4⟩ := ev_at (HR.out.below HBR.out) (i := m) hml
      obtain ⟨e, he⟩ : ∃ e, L.getD m ev0 = e := ⟨_, rfl⟩
      rw [he] at a0 a1 a2 a3 a4 HT
      clear he
      obtain ⟨c0, c1, c2, c3⟩ := cells4 gr
      obtain ⟨d0, d1⟩ := cells2 sr
      have zg0 := fun u : Later wr => u.cell c0
      have zg1 := fun u : Later wr => u.cell c1
      have zg2 := fun u : Later wr => u.cell c2
      have zg3 := fun u : Later wr => u.cell c3
      have zd0 := fun u : Later wr => u.cell d0
      have zd1 := fun u : Later wr => u.cell d1
      have za0 := fun u : Later wr => u.cell a0
      have za1 := fun u : Later wr => u.cell a1
      have za2 := fun u : Later wr => u.cell a2
      have za3 := fun u : Later wr => u.cell a3
      have za4 := fun u : Later wr => u.cell a4
      have hc := (HLEN.out m).1.trans HNL.out
      have HLM := Lib.hid hc
      have hk4 : k2 ≤ 4 := by rw [← HK2.out]; exact (HLEN.out m).2
      obtain ⟨k3, hk3⟩ : ∃ k3, (ofT g0 B g2 g3 N (L.take (m + 1))).2.length = k3 := ⟨_, rfl⟩
      have HK3 := Lib.hid hk3
      have HSN : Hid (rdL g0 B g2 g3 N (ofT g0 B g2 g3 N (L.take m)).1 (ofT g0 B g2 g3 N (L.take m)).2 e = (ofT g0 B g2 g3 N (L.take (m + 1))).1 ∧ rdA g0 B g2 g3 N (ofT g0 B g2 g3 N (L.take m)).1 (ofT g0 B g2 g3 N (L.take m)).2 e = (ofT g0 B g2 g3 N (L.take (m + 1))).2) := by
        show _ ∧ _
        rw [HT.out, ofT_snoc]
        exact ⟨rfl, rfl⟩
      clear hk3 hc
      go_wp2_with fail
      refine wp_region_later_tail 6 (by kernel_rfl) (by kernel_rfl) ?_
      simp only [List.take_succ_cons, List.take_zero, List.drop_succ_cons, List.drop_zero]
      repeat (go_big_quiet_step (fail))
      refine wpQuiet_nil ?_
      rintro w4 ⟨zz, hz⟩
      have hb4 : Below wr.heap.size wr w4 := hz ▸ zz.ok
      have g4 := keep_block hb4 gr (lt_of_block gr)
      have t4 := keep_block hb4 tr (lt_of_block tr)
      have s4 := keep_block hb4 sr (lt_of_block sr)
      have HOA4 := Lib.hid (HOA.out.below hb4)
      have HOB4 := Lib.hid (HOB.out.below hb4)
      have HB4 : Hid (Below w1.heap.size w1 w4) := HBR.out.trans (hb4.mono HBR.out.size)
      clear zg0 zg1 zg2 zg3 zd0 zd1 za0 za1 za2 za3 za4 hz zz hb4 a0 a1 a2 a3 a4 c0 c1 c2 c3 d0 d1 gr tr sr HOA HOB HBR
      go_wp2_with fail
      refine (implReadyAfter_is g0 B g2 g3 N HN.out aa n1 ca _ ab k2 cb _ e _ _ k3 HSN.out.1 HSN.out.2 HK3.out HLM.out (by omega) HK2.out (by omega) HOA4.out.nil HOB4.out.nil HOA4.out.capI _ HOA4.out.row HOB4.out.row).mono ?_
      rintro e' w5 ⟨ac', cc, ad, cd, rfl, oc, od, ap5, hb5⟩
      have g5 := keep_block hb5 g4 (lt_of_block g4)
      have t5 := keep_block hb5 t4 (lt_of_block t4)
      have s5 := keep_block hb5 s4 (lt_of_block s4)
      have HB5 : Hid (Below w1.heap.size w1 w5) := HB4.out.trans (hb5.mono HB4.out.size)
      have HLT : Hid (w2.heap.size < w4.heap.size) := lt_of_block s4
      obtain ⟨d0, d1⟩ := cells2 s5
      have f0 := thawed s5 0
      have f1 := thawed s5 1
      have FIN : Hid (∀ W, (w5.setCell ⟨w2.heap.size, 0, none⟩ (.slice ac' n1 cc)).setCell ⟨w2.heap.size, 1, none⟩ (.slice ad k3 cd) = W → W.heap[w.heap.size]? = some (.cells #[.int .i64 g0, .int .i64 B, .int .i64 g2, .int .i64 g3] 25) ∧ W.heap[w.heap.size + 1]? = some (.cells #[.slice none 0 0, .slice none 0 0] 33) ∧ W.heap[w2.heap.size]? = some (.cells #[.slice ac' n1 cc, .slice ad k3 cd] 33) ∧ OwnI w1.heap.size (.slice ac' n1 cc) (ofT g0 B g2 g3 N (L.take (m + 1))).1 W ∧ OwnJ w1.heap.size (.slice ad k3 cd) (ofT g0 B g2 g3 N (L.take (m + 1))).2 W ∧ Apt ac' ad ∧ Below w1.heap.size w1 W) := by
        rintro W rfl
        have hs1 := HS1.out
        have hs2 := HS2.out
        have hlt := HLT.out
        refine ⟨?_, ?_, set_cells (set_cells s5 0 _) 1 _, ?_, ?_, ap5, (HB5.out.setCell (by exact hs2) _).setCell (by exact hs2) _⟩
        · exact (Below.heap_setCell _ _ _ _ (by simp; omega)).trans ((Below.heap_setCell _ _ _ _ (by simp; omega)).trans g5)
        · exact (Below.heap_setCell _ _ _ _ (by simp; omega)).trans ((Below.heap_setCell _ _ _ _ (by simp; omega)).trans t5)
        · exact (ownI_set (by exact hlt) (ownI_set (by exact hlt) oc _) _).mono (by omega)
        · exact (ownJ_set (by exact hlt) (ownJ_set (by exact hlt) od _) _).mono (by omega)
      clear hb5 oc od ap5 g4 t4 s4 s5 g5 t5 HOA4 HOB4 HB4 HB5
      go_wp2_with fail
      have FF := FIN.out _ rfl
      go_roundw
      case rel =>
        obtain ⟨s1, s2, s3, s4, s5, s6, s7⟩ := FF
        exact ⟨m + 1, k3, ac', cc, ad, cd, by omega, by go_num, HK3.out, s1, s2, s3, s4, s5, s6, s7⟩
      case measure => simp [intOf]; omega
    obtain rfl : m = n := by omega
    have hfull : L.take m = L := List.take_of_length_le (by rw [HL.out]; exact Nat.le_refl _)
    obtain rfl : k2 = n2 := by rw [← HK2.out, hfull, HAC.out]; exact HN2.out
    have HO1 : Hid (OwnI w1.heap.size (.slice aa n1 ca) la wr) := by have h := HOA.out; rw [hfull, HLA.out] at h; exact h
    have HO2 : Hid (OwnJ w1.heap.size (.slice ab k2 cb) ac wr) := by have h := HOB.out; rw [hfull, HAC.out] at h; exact h
    obtain ⟨d0, d1⟩ := cells2 sr
    obtain ⟨x0, x1⟩ := cells2 tr
    have f0 := thawed tr 0
    have f1 := thawed tr 1
    clear hfull hlt
    go_wp2_with fail
    (try simp only [Exit.inBlock, Exit.then])
    refine bodyPost_ret (v := .agg #[.slice aa n1 ca, .slice ab k2 cb]) (by simp [results, Try.results14, go_sem, x0, x1]) rfl ?_
    have hs := HS1.out
    refine ⟨aa, ca, ab, cb, rfl, ?_, ?_, HAP.out, ?_⟩
    · refine OwnI.mono (B := w1.heap.size) ?_ (by omega)
      repeat' (first | exact HO1.out | refine ownI_set (by simp; omega) ?_ _)
    · refine OwnJ.mono (B := w1.heap.size) ?_ (by omega)
      repeat' (first | exact HO2.out | refine ownJ_set (by simp; omega) ?_ _)
    · have hB := HB1.out.trans (HBR.out.mono HB1.out.size)
      repeat' (first | exact hB | refine Below.drew ?_ | refine Below.setCell ?_ (by simp <;> omega) _)

end Go.Proofs.Ythplhjdfajhmpaa

namespace Go.Proofs.Ythplhjdfajhmpaa
open Go.RowKit Go.PlainAid

set_option linter.unusedVariables false

set_option maxHeartbeats 2000000 in
theorem sameIntsR_is {a b : Option Addr} {ca cb : Nat} {l : List Int} {w : World} {n : Nat} (hn : l.length = n) (ha : RowI w a l) (hb : RowI w b l) (hl : (n : Int) ≤ 9223372036854775807) :
    Calls Try.prog 16 #[.slice a n ca, .slice b n cb] w (Gives (.bool true) w) := by
  have HN := Lib.hid hn
  have HA := Lib.hid ha
  have HB := Lib.hid hb
  clear hn ha hb
  go_enter Try.func16, Try.ntmps16
  go_wp2_with fail
  go_loopw [5] (fun i wr => ∃ k : Nat, k ≤ n ∧ i = .int .i64 k ∧ Below w.heap.size w wr) (fun i _ => n - (intOf i).toNat)
  case atStart => exact ⟨0, Nat.zero_le _, rfl, Below.refl _ _⟩
  case round =>
    obtain ⟨k, hk, rfl, hbr⟩ := hrel
    have HBR := Lib.hid hbr
    clear hbr
    by_cases hlt : k < n
    · obtain ⟨ba, oa, rfl, ha0⟩ := (HA.out.below HBR.out).at (k := k) (by rw [HN.out]; exact hlt)
      obtain ⟨bb, ob, rfl, hb0⟩ := (HB.out.below HBR.out).at (k := k) (by rw [HN.out]; exact hlt)
      generalize l.getD k 0 = r at ha0 hb0
      have za0 := fun q : Later wr => q.cell ha0
      have zb0 := fun q : Later wr => q.cell hb0
      have te : (r != r) = false := by simp
      clear ha0 hb0
      go_wp2_with fail
      refine wp_region_later (by kernel_rfl) (by kernel_rfl) ?_
      repeat (go_big_quiet_step (fail))
      refine wpQuiet_nil ?_
      rintro w2 ⟨zz, hz⟩
      have HB2 : Hid (Below w.heap.size w w2) := HBR.out.trans ((hz ▸ zz.ok : Below wr.heap.size wr w2).mono HBR.out.size)
      clear za0 zb0 hz zz
      go_wp2
      go_roundw
      case rel => exact ⟨k + 1, by omega, by go_num, HB2.out⟩
      case measure => simp [intOf]; omega
    · go_wp2_with fail
      go_ret
      exact ⟨rfl, HBR.out⟩

theorem ofT_lenR (g0 B g2 g3 : Int) (N : Nat) (L : List Ev) (m : Nat) : (ofT g0 B g2 g3 N (L.take m)).1.length = (newL g0 B g2 g3 N).length ∧ (ofT g0 B g2 g3 N (L.take m)).2.length ≤ 4 := by
  induction m with
  | zero => exact ⟨rfl, Nat.zero_le _⟩
  | succ m ih =>
    by_cases hm : m < L.length
    · rw [take_snoc hm, ofT_snoc]
      exact ⟨(rdL_len _ _ _ _ _ _ _ _).trans ih.1, rdA_len _ _ _ _ _ _ _ _ ih.2⟩
    · rw [List.take_of_length_le (by omega)] at ih ⊢
      exact ih

theorem field_rd0 (a1 : Option Addr) (n1 c1 : Nat) (a2 : Option Addr) (n2 c2 : Nat) (w : World) : (Instr.field 33 (.agg #[.slice a1 n1 c1, .slice a2 n2 c2]) 0).run Try.prog w = .ok (.slice a1 n1 c1) w := by kernel_rfl
theorem Below.cellR {w u : World} (hb : Below w.heap.size w u) {p : Addr} {v : Value} (h : w.cell? p = some v) : u.cell? p = some v :=
  (World.cell?_of_block (hb.block p.block (World.block_lt_of_cell? w p h))).trans h

theorem evRow_take {w : World} {a : Option Addr} {L : List Ev} (h : evK.Row w a L) (n : Nat) : evK.Row w a (L.take n) := by
  rcases h with rfl | ⟨b, off, ha, h⟩
  · exact .inl (by simp)
  · refine .inr ⟨b, off, ha, fun i hi j hj => ?_⟩
    rw [List.length_take] at hi
    have := h i (by omega) j hj
    rw [this, List.getD_eq_getElem?_getD, List.getD_eq_getElem?_getD, List.getElem?_take_of_lt (by omega)]

theorem OwnJ.apartRk {B n c g : Nat} {a : Option Addr} {l : List Int} {u : World} {vs : Array Value} {fr : Nat × Nat} (h : OwnJ B (.slice a n c) l u) (hh : u.heap[g]? = some (.cells vs 33 fr)) : ∀ x, a = some x → x.block ≠ g := by
  rintro x rfl e
  obtain ⟨_, _, _, hv, _, ⟨h1, _, _⟩ | ⟨g', off, cur, hg, _, hb, _⟩⟩ := h
  · cases hv; cases h1
  · cases hv
    cases hg
    subst e
    rw [hb] at hh
    injection hh with h1
    injection h1 with _ h2 _
    exact absurd h2 (by decide)

set_option maxHeartbeats 16000000 in
set_option maxRecDepth 100000 in
theorem fnReadyOn_walk (a0 : Option Addr) (len cap : Nat) (zs : List Int) (w : World) (hr : IsRow .u8 w a0 len cap zs) :
    Calls Try.prog 3 #[.slice a0 len cap] w fun e w' => e = .returned (.bool true) ∧ Below w.heap.size w w' := by
  have hl := hr.len_le
  unfold maxLen at hl
  by_cases hbig : (1048576 : Int) < (len : Int)
  · go_enter Try.func3, Try.ntmps3
    go_wp2_with (go_at_call 10; refine (big_any _ _ _ _ (by omega)).mono ?_; rintro e w' ⟨rfl, rfl⟩)
    go_ret
    exact ⟨rfl, Below.refl _ _⟩
  go_enter Try.func3, Try.ntmps3
  go_wp2_with (go_at_call 10; refine (big_any _ _ _ _ (by omega)).mono ?_; rintro e w' ⟨rfl, rfl⟩)
  refine (drawTrace_any hr).mono ?_
  rintro e w1 ⟨g0, B, g2, g3, t, N, a, cp, L, rfl, hok, hto, hN, hdr, hown, hb1⟩
  have HG : Hid (GeoOk g0 B g2 g3) := by
    obtain ⟨h1, h2, h4, h5⟩ := hok
    exact ⟨h1, h2, ⟨by omega, by omega⟩, ⟨by omega, by omega⟩⟩
  have HTO := Lib.hid hto
  have HNN := Lib.hid hN
  have HTR := Lib.hid hdr.ok
  have HLOW : Hid (∀ e ∈ L, e.t ≤ 4060) := fun e he => by have := hdr.low e he; omega
  have hfew := hdr.few
  have HNC := Lib.hid hown.nil
  have hcap := hown.cap
  obtain ⟨ln, hln⟩ : ∃ ln, L.length = ln := ⟨_, rfl⟩
  have HL := Lib.hid hln
  rw [hln] at hown hfew hcap ⊢
  have hN8 : N ≤ 8 := by have := bankN_range g0 B g2 g3; omega
  obtain ⟨w2, hw2⟩ : ∃ u, (w1.alloc (.cells #[.int .i64 0, .int .i64 0, .int .i64 0, .int .i64 0] 25)).alloc (.cells #[.int .i64 0, .int .i64 0, .int .i64 0, .int .i64 0, .int .i64 0, .int .i64 0, .int .i64 0, .int .i64 0, .int .i64 0, .int .i64 0, .int .i64 0, .int .i64 0, .int .i64 0, .int .i64 0, .int .i64 0, .int .i64 0, .int .i64 0] 27) = u := ⟨_, rfl⟩
  have hb2 : Below w1.heap.size w1 w2 := by subst hw2; exact ((Below.refl _ _).alloc (Nat.le_refl _) _).alloc (by simp) _
  have y2 : w2.heap[w1.heap.size]? = some (.cells #[.int .i64 0, .int .i64 0, .int .i64 0, .int .i64 0] 25) := by subst hw2; exact heap_alloc2_old _ _ _
  have z2 : w2.heap[w1.heap.size + 1]? = some (.cells #[.int .i64 0, .int .i64 0, .int .i64 0, .int .i64 0, .int .i64 0, .int .i64 0, .int .i64 0, .int .i64 0, .int .i64 0, .int .i64 0, .int .i64 0, .int .i64 0, .int .i64 0, .int .i64 0, .int .i64 0, .int .i64 0, .int .i64 0] 27) := by subst hw2; exact heap_alloc2_new _ _ _
  have z3 := (setRow_other w2 w1.heap.size (w1.heap.size + 1) #[.int .i64 g0, .int .i64 B, .int .i64 g2, .int .i64 g3] (by omega)).trans z2
  have y4 := (setRow_other (w2.setRow w1.heap.size #[.int .i64 g0, .int .i64 B, .int .i64 g2, .int .i64 g3]) (w1.heap.size + 1) w1.heap.size #[.int .i64 t.rcd, .int .i64 t.rp, .int .i64 t.ras, .int .i64 t.rrds, .int .i64 t.rrdl, .int .i64 t.faw, .int .i64 t.ccds, .int .i64 t.ccdl, .int .i64 t.rtp, .int .i64 t.wr, .int .i64 t.wtrs, .int .i64 t.wtrl, .int .i64 t.rtw, .int .i64 t.rfc, .int .i64 t.cke, .int .i64 t.xp, .int .i64 t.xs] (by omega)).trans (setRow_same _ _ #[.int .i64 g0, .int .i64 B, .int .i64 g2, .int .i64 g3] _ _ y2)
  have z4 := setRow_same _ _ #[.int .i64 t.rcd, .int .i64 t.rp, .int .i64 t.ras, .int .i64 t.rrds, .int .i64 t.rrdl, .int .i64 t.faw, .int .i64 t.ccds, .int .i64 t.ccdl, .int .i64 t.rtp, .int .i64 t.wr, .int .i64 t.wtrs, .int .i64 t.wtrl, .int .i64 t.rtw, .int .i64 t.rfc, .int .i64 t.cke, .int .i64 t.xp, .int .i64 t.xs] _ _ z3
  have HB4 : Hid (Below w.heap.size w ((w2.setRow w1.heap.size #[.int .i64 g0, .int .i64 B, .int .i64 g2, .int .i64 g3]).setRow (w1.heap.size + 1) #[.int .i64 t.rcd, .int .i64 t.rp, .int .i64 t.ras, .int .i64 t.rrds, .int .i64 t.rrdl, .int .i64 t.faw, .int .i64 t.ccds, .int .i64 t.ccdl, .int .i64 t.rtp, .int .i64 t.wr, .int .i64 t.wtrs, .int .i64 t.wtrl, .int .i64 t.rtw, .int .i64 t.rfc, .int .i64 t.cke, .int .i64 t.xp, .int .i64 t.xs])) := below_setRow (below_setRow (hb1.trans (hb2.mono hb1.size)) hb1.size _) (by have := hb1.size; omega) _
  have OWN4 : Hid (evK.Own 41 w.heap.size (.slice a ln cp) L ((w2.setRow w1.heap.size #[.int .i64 g0, .int .i64 B, .int .i64 g2, .int .i64 g3]).setRow (w1.heap.size + 1) #[.int .i64 t.rcd, .int .i64 t.rp, .int .i64 t.ras, .int .i64 t.rrds, .int .i64 t.rrdl, .int .i64 t.faw, .int .i64 t.ccds, .int .i64 t.ccdl, .int .i64 t.rtp, .int .i64 t.wr, .int .i64 t.wtrs, .int .i64 t.wtrl, .int .i64 t.rtw, .int .i64 t.rfc, .int .i64 t.cke, .int .i64 t.xp, .int .i64 t.xs])) := (hown.below hb2).frame (fun x hx => (setRow_other _ _ _ _ (by have := (hown.lo x hx).2; omega)).trans (setRow_other _ _ _ _ (by have := (hown.lo x hx).2; omega)))
  clear hok hto hN hdr hown hb1 hb2 hln z2
  have w1' : IntKind.i64.wrap ((N : Int) + 1) = (N : Int) + 1 := IntWalk.i64_in _ (by omega)
  have w9' : IntKind.i64.wrap (9 * ((N : Int) + 1)) = 9 * ((N : Int) + 1) := IntWalk.i64_in _ (by omega)
  have hN1 : 1 ≤ N := by
    have h1 := HG.out.1
    have h2 := HG.out.2.1
    have h3 : bankN g0 B g2 g3 = g0 * B := if_pos HG.out
    have h4 : 0 < g0 * B := Int.mul_pos (by omega) (by omega)
    have := HNN.out
    omega
  have HNL : Hid ((newL g0 B g2 g3 N).length = 9 * (N + 1)) := by
    show _ = _
    unfold newL
    rw [if_pos HG.out, List.length_replicate]
  by_cases h0 : ln = 0
  case pos =>
    obtain ⟨la, hla⟩ : ∃ l, newL g0 B g2 g3 N = l := ⟨_, rfl⟩
    obtain ⟨n1, hn1⟩ : ∃ m, la.length = m := ⟨_, rfl⟩
    have HLA := Lib.hid hla
    have HN1 := Lib.hid hn1
    have t9 : ((n1 : Int) == 9 * ((N : Int) + 1)) = true := by
      have := HNL.out
      rw [hla, hn1] at this
      rw [beq_iff_eq]
      omega
    have t0 : ((ln : Int) == 0) = true := by rw [beq_iff_eq]; omega
    have t0' : (ln == 0) = true := by rw [beq_iff_eq]; exact h0
    clear hla hn1 h0
    go_wp2_with (first | ((with_reducible refine store_list (cells := #[.int .i64 g0, .int .i64 B, .int .i64 g2, .int .i64 g3]) y2 ?_ ?_ ?_ ?_ ?_ ?_); kernel_rfl; kernel_rfl; kernel_rfl; kernel_rfl; kernel_rfl) | ((with_reducible refine store_list (cells := #[.int .i64 t.rcd, .int .i64 t.rp, .int .i64 t.ras, .int .i64 t.rrds, .int .i64 t.rrdl, .int .i64 t.faw, .int .i64 t.ccds, .int .i64 t.ccdl, .int .i64 t.rtp, .int .i64 t.wr, .int .i64 t.wtrs, .int .i64 t.wtrl, .int .i64 t.rtw, .int .i64 t.rfc, .int .i64 t.cke, .int .i64 t.xp, .int .i64 t.xs]) z3 ?_ ?_ ?_ ?_ ?_ ?_); kernel_rfl; kernel_rfl; kernel_rfl; kernel_rfl; kernel_rfl))
    clear y2 z3 hw2
    generalize (w2.setRow w1.heap.size #[.int .i64 g0, .int .i64 B, .int .i64 g2, .int .i64 g3]).setRow (w1.heap.size + 1) #[.int .i64 t.rcd, .int .i64 t.rp, .int .i64 t.ras, .int .i64 t.rrds, .int .i64 t.rrdl, .int .i64 t.faw, .int .i64 t.ccds, .int .i64 t.ccdl, .int .i64 t.rtp, .int .i64 t.wr, .int .i64 t.wtrs, .int .i64 t.wtrl, .int .i64 t.rtw, .int .i64 t.rfc, .int .i64 t.cke, .int .i64 t.xp, .int .i64 t.xs] = w4 at y4 z4 HB4 OWN4 ⊢
    obtain ⟨G, hG⟩ : ∃ G, w1.heap.size = G := ⟨_, rfl⟩
    rw [hG] at y4 z4
    (try simp only [hG])
    clear hG
    refine wp_region_flowV (fun k => match k with | 0 => some (.agg #[.int .i64 g0, .int .i64 B, .int .i64 g2, .int .i64 g3]) | 3 => some (.int .i64 (n1 : Int)) | 4 => some (.agg #[.int .i64 g0, .int .i64 B, .int .i64 g2, .int .i64 g3]) | 5 => some (.int .i64 (N : Int)) | 6 => some (.int .i64 ((N : Int) + 1)) | 7 => some (.int .i64 (9 * ((N : Int) + 1))) | 8 => some (.bool true) | 9 => some (.bool true) | _ => none) (fun listed x u => Fact 1 (fun q => ∃ (aa : Option Addr) (ca : Nat) (ab : Option Addr) (cb : Nat), q = .agg #[.slice aa n1 ca, .slice ab 0 cb]) listed x ∧ Fact 2 (fun q => ∃ (aa : Option Addr) (ca : Nat), q = .slice aa n1 ca) listed x) (upd (fun _ => undef) 9 (.bool false)) (by kernel_rfl) (by kernel_rfl) ?hxA ?hSA ?hsA ?heA
    case hxA => simp only [putsX, Act.put, List.setIfInBounds_toArray, List.set_cons_zero, List.set_cons_succ, upd, Nat.reduceEqDiff, reduceIte]
    case hSA => exact ⟨Fact.zero _ _ _ _, Fact.zero _ _ _ _⟩
    case hsA =>
      simp only [flowSteps]
      refine ⟨?sA_0, ?sA_1, ?sA_2, ?sA_3, ?sA_4, ?sA_5, ?sA_6, ?sA_7, ?sA_8, ?sA_9, trivial⟩
      case sA_0 =>
        intro listed bb u hsz hn hwt hinv
        obtain ⟨x, rfl, hC, hU, p1, p2⟩ := hinv
        simp only [putsX, Act.put, List.setIfInBounds_toArray, List.set_cons_zero, List.set_cons_succ]
        obtain ⟨c0, c1, c2, c3⟩ := cells4 (keep_block hC y4 (lt_of_block y4))
        go_wp2_with fail
        refine stepQ_normal ⟨trivial, upd x 0 (.agg #[.int .i64 g0, .int .i64 B, .int .i64 g2, .int .i64 g3]), ?_, hC, hU.step (fun _ h => Option.some.inj h), p1.keep (by decide) _, p2.keep (by decide) _⟩
        simp only [upd]
        rfl
      case sA_1 =>
        intro listed bb u hsz hn hwt hinv
        obtain ⟨x, rfl, hC, hU, p1, p2⟩ := hinv
        have f0 := Lib.hid (hU 0 _ rfl (hwt 0 (by kernel_rfl)))
        simp only [putsX, Act.put, List.setIfInBounds_toArray, List.set_cons_zero, List.set_cons_succ]
        have hcall : Calls Try.prog 12 #[x 0] u (GivesRd n1 0 la [] u) := by rw [f0.out]; exact implReadyNew_is g0 B g2 g3 N HNN.out la HLA.out n1 HN1.out u
        go_wp2_with fail
        refine hcall.mono ?_
        rintro e' u' ⟨aa, ca, ab, cb, rfl, _, _, _, hb⟩
        go_wp2_with fail
        refine stepQ_normal ⟨trivial, upd x 1 (.agg #[.slice aa n1 ca, .slice ab 0 cb]), ?_, hC.trans (hb.mono hC.size), hU.step (fun _ h => by cases h), Fact.new ⟨aa, ca, ab, cb, rfl⟩, p2.keep (by decide) _⟩
        simp only [upd]
        rfl
      case sA_2 =>
        intro listed bb u hsz hn hwt hinv
        obtain ⟨x, rfl, hC, hU, p1, p2⟩ := hinv
        simp only [putsX, Act.put, List.setIfInBounds_toArray, List.set_cons_zero, List.set_cons_succ]
        obtain ⟨aa, ca, ab, cb, fp⟩ := p1 (hwt 1 (by kernel_rfl))
        have FP := Lib.hid fp
        rw [FP.out]
        have fd := field_rd0 aa n1 ca ab 0 cb
        clear fp
        go_wp2_with fail
        refine stepQ_normal ⟨trivial, upd x 2 (.slice aa n1 ca), ?_, hC, hU.step (fun _ h => by cases h), p1.keep (by decide) _, Fact.new ⟨aa, ca, rfl⟩⟩
        simp only [upd]
        simp only [FP.out]
        (try rfl)
      case sA_3 =>
        intro listed bb u hsz hn hwt hinv
        obtain ⟨x, rfl, hC, hU, p1, p2⟩ := hinv
        simp only [putsX, Act.put, List.setIfInBounds_toArray, List.set_cons_zero, List.set_cons_succ]
        obtain ⟨aa, ca, fp⟩ := p2 (hwt 2 (by kernel_rfl))
        have FP := Lib.hid fp
        rw [FP.out]
        clear fp
        go_wp2_with fail
        refine stepQ_normal ⟨trivial, upd x 3 (.int .i64 (n1 : Int)), ?_, hC, hU.step (fun _ h => Option.some.inj h), p1.keep (by decide) _, p2.keep (by decide) _⟩
        simp only [upd]
        simp only [FP.out]
        (try rfl)
      case sA_4 =>
        intro listed bb u hsz hn hwt hinv
        obtain ⟨x, rfl, hC, hU, p1, p2⟩ := hinv
        simp only [putsX, Act.put, List.setIfInBounds_toArray, List.set_cons_zero, List.set_cons_succ]
        obtain ⟨c0, c1, c2, c3⟩ := cells4 (keep_block hC y4 (lt_of_block y4))
        go_wp2_with fail
        refine stepQ_normal ⟨trivial, upd x 4 (.agg #[.int .i64 g0, .int .i64 B, .int .i64 g2, .int .i64 g3]), ?_, hC, hU.step (fun _ h => Option.some.inj h), p1.keep (by decide) _, p2.keep (by decide) _⟩
        simp only [upd]
        rfl
      case sA_5 =>
        intro listed bb u hsz hn hwt hinv
        obtain ⟨x, rfl, hC, hU, p1, p2⟩ := hinv
        have f4 := Lib.hid (hU 4 _ rfl (hwt 4 (by kernel_rfl)))
        simp only [putsX, Act.put, List.setIfInBounds_toArray, List.set_cons_zero, List.set_cons_succ]
        have hcall : Calls Try.prog 13 #[x 4] u (Gives (.int .i64 (N : Int)) u) := by rw [f4.out]; exact specBank_is _ _ _ _ _ HNN.out _
        go_wp2_with fail
        refine hcall.mono ?_
        rintro e' u' ⟨rfl, hb⟩
        go_wp2_with fail
        refine stepQ_normal ⟨trivial, upd x 5 (.int .i64 (N : Int)), ?_, hC.trans (hb.mono hC.size), hU.step (fun _ h => Option.some.inj h), p1.keep (by decide) _, p2.keep (by decide) _⟩
        simp only [upd]
        rfl
      case sA_6 =>
        intro listed bb u hsz hn hwt hinv
        obtain ⟨x, rfl, hC, hU, p1, p2⟩ := hinv
        have f5 := Lib.hid (hU 5 _ rfl (hwt 5 (by kernel_rfl)))
        simp only [putsX, Act.put, List.setIfInBounds_toArray, List.set_cons_zero, List.set_cons_succ]
        rw [f5.out]
        go_wp2_with fail
        refine stepQ_normal ⟨trivial, upd x 6 (.int .i64 ((N : Int) + 1)), ?_, hC, hU.step (fun _ h => Option.some.inj h), p1.keep (by decide) _, p2.keep (by decide) _⟩
        simp only [upd]
        simp only [f5.out]
        (try rfl)
      case sA_7 =>
        intro listed bb u hsz hn hwt hinv
        obtain ⟨x, rfl, hC, hU, p1, p2⟩ := hinv
        have f6 := Lib.hid (hU 6 _ rfl (hwt 6 (by kernel_rfl)))
        simp only [putsX, Act.put, List.setIfInBounds_toArray, List.set_cons_zero, List.set_cons_succ]
        rw [f6.out]
        go_wp2_with fail
        refine stepQ_normal ⟨trivial, upd x 7 (.int .i64 (9 * ((N : Int) + 1))), ?_, hC, hU.step (fun _ h => Option.some.inj h), p1.keep (by decide) _, p2.keep (by decide) _⟩
        simp only [upd]
        simp only [f6.out]
        (try rfl)
      case sA_8 =>
        intro listed bb u hsz hn hwt hinv
        obtain ⟨x, rfl, hC, hU, p1, p2⟩ := hinv
        have f3 := Lib.hid (hU 3 _ rfl (hwt 3 (by kernel_rfl)))
        have f7 := Lib.hid (hU 7 _ rfl (hwt 7 (by kernel_rfl)))
        simp only [putsX, Act.put, List.setIfInBounds_toArray, List.set_cons_zero, List.set_cons_succ]
        rw [f3.out]
        rw [f7.out]
        go_wp2_with fail
        refine stepQ_normal ⟨trivial, upd x 8 (.bool true), ?_, hC, hU.step (fun _ h => Option.some.inj h), p1.keep (by decide) _, p2.keep (by decide) _⟩
        simp only [upd]
        simp only [f3.out, f7.out]
        (try rfl)
      case sA_9 =>
        intro listed bb u hsz hn hwt hinv
        obtain ⟨x, rfl, hC, hU, p1, p2⟩ := hinv
        have f8 := Lib.hid (hU 8 _ rfl (hwt 8 (by kernel_rfl)))
        simp only [putsX, Act.put, List.setIfInBounds_toArray, List.set_cons_zero, List.set_cons_succ]
        rw [f8.out]
        go_wp2_with fail
        refine stepQ_normal ⟨trivial, upd x 9 (.bool true), ?_, hC, hU.step (fun _ h => Option.some.inj h), p1.keep (by decide) _, p2.keep (by decide) _⟩
        simp only [upd]
        simp only [f8.out]
        (try rfl)
    case heA =>
    intro listed q u hall hC hU hS
    have fq := hU 9 _ rfl (hall 9 (by decide))
    simp only [putsX, Act.put, List.setIfInBounds_toArray, List.set_cons_zero, List.set_cons_succ]
    rw [fq]
    clear hall hU hS fq
    have HB5 : Hid (Below w.heap.size w u) := HB4.out.trans (hC.mono HB4.out.size)
    go_wp2_with fail
    go_ret
    exact ⟨rfl, HB5.out⟩
  have t0 : ((ln : Int) == 0) = false := by rw [beq_eq_false_iff_ne]; omega
  have t0' : (ln == 0) = false := by rw [beq_eq_false_iff_ne]; exact h0
  have hlt : ln - 1 < ln := by omega
  have wl : IntKind.i64.wrap ((ln : Int) - 1) = ((ln - 1 : Nat) : Int) := by rw [IntWalk.i64_in _ (by omega)]; omega
  obtain ⟨la, hla⟩ : ∃ l, (ofT g0 B g2 g3 N L).1 = l := ⟨_, rfl⟩
  obtain ⟨ac, hac⟩ : ∃ l, (ofT g0 B g2 g3 N L).2 = l := ⟨_, rfl⟩
  obtain ⟨lb, hlb⟩ : ∃ l, (ofT g0 B g2 g3 N (L.take (ln - 1))).1 = l := ⟨_, rfl⟩
  obtain ⟨lc, hlc⟩ : ∃ l, (ofT g0 B g2 g3 N (L.take (ln - 1))).2 = l := ⟨_, rfl⟩
  obtain ⟨n1, hn1⟩ : ∃ m, la.length = m := ⟨_, rfl⟩
  obtain ⟨n2, hn2⟩ : ∃ m, ac.length = m := ⟨_, rfl⟩
  obtain ⟨k2, hk2⟩ : ∃ m, lc.length = m := ⟨_, rfl⟩
  obtain ⟨e, he⟩ : ∃ e, L.getD (ln - 1) ev0 = e := ⟨_, rfl⟩
  have hLe : L = L.take (ln - 1) ++ [e] := by
    have h := take_snoc (L := L) (i := ln - 1) (by rw [HL.out]; exact hlt)
    rw [he, List.take_of_length_le (by rw [HL.out]; omega)] at h
    exact h
  have hsn : ofT g0 B g2 g3 N L = (rdL g0 B g2 g3 N lb lc e, rdA g0 B g2 g3 N lb lc e) := by
    conv => lhs; rw [hLe]
    rw [ofT_snoc, hlb, hlc]
  have HRL : Hid (rdL g0 B g2 g3 N lb lc e = la) := by show _ = _; rw [← hla, hsn]
  have HRA : Hid (rdA g0 B g2 g3 N lb lc e = ac) := by show _ = _; rw [← hac, hsn]
  have hl1 := ofT_lenR g0 B g2 g3 N L ln
  rw [List.take_of_length_le (by rw [HL.out]; exact Nat.le_refl _), hla, hac, hn1, hn2, HNL.out] at hl1
  have hl2 := ofT_lenR g0 B g2 g3 N L (ln - 1)
  rw [hlb, hlc, hk2, HNL.out] at hl2
  have HLA := Lib.hid hla
  have HAC := Lib.hid hac
  have HLB := Lib.hid hlb
  have HLC := Lib.hid hlc
  have HN1 := Lib.hid hn1
  have HN2 := Lib.hid hn2
  have HK2 := Lib.hid hk2
  have HNB : Hid (lb.length = n1) := by show _ = _; omega
  have HTL : Hid ((L.take (ln - 1)).length = ln - 1) := by show _ = _; rw [List.length_take, HL.out]; omega
  have hn1r : 9 < n1 ∧ n1 ≤ 81 := by omega
  have hn2r : n2 ≤ 4 := hl1.2
  have hk2r : k2 ≤ 4 := hl2.2
  have HEE := Lib.hid he
  clear hla hac hlb hlc hn1 hn2 hk2 he hLe hsn hl1 hl2 h0 hN1
  obtain ⟨c0, c1, c2, c3⟩ := cells4 y4
  go_wp2_with (first | ((with_reducible refine store_list (cells := #[.int .i64 g0, .int .i64 B, .int .i64 g2, .int .i64 g3]) y2 ?_ ?_ ?_ ?_ ?_ ?_); kernel_rfl; kernel_rfl; kernel_rfl; kernel_rfl; kernel_rfl) | ((with_reducible refine store_list (cells := #[.int .i64 t.rcd, .int .i64 t.rp, .int .i64 t.ras, .int .i64 t.rrds, .int .i64 t.rrdl, .int .i64 t.faw, .int .i64 t.ccds, .int .i64 t.ccdl, .int .i64 t.rtp, .int .i64 t.wr, .int .i64 t.wtrs, .int .i64 t.wtrl, .int .i64 t.rtw, .int .i64 t.rfc, .int .i64 t.cke, .int .i64 t.xp, .int .i64 t.xs]) z3 ?_ ?_ ?_ ?_ ?_ ?_); kernel_rfl; kernel_rfl; kernel_rfl; kernel_rfl; kernel_rfl))
  clear y2 z3 hw2 c0 c1 c2 c3
  generalize (w2.setRow w1.heap.size #[.int .i64 g0, .int .i64 B, .int .i64 g2, .int .i64 g3]).setRow (w1.heap.size + 1) #[.int .i64 t.rcd, .int .i64 t.rp, .int .i64 t.ras, .int .i64 t.rrds, .int .i64 t.rrdl, .int .i64 t.faw, .int .i64 t.ccds, .int .i64 t.ccdl, .int .i64 t.rtp, .int .i64 t.wr, .int .i64 t.wtrs, .int .i64 t.wtrl, .int .i64 t.rtw, .int .i64 t.rfc, .int .i64 t.cke, .int .i64 t.xp, .int .i64 t.xs] = w4 at y4 z4 HB4 OWN4 ⊢
  obtain ⟨G, hG⟩ : ∃ G, w1.heap.size = G := ⟨_, rfl⟩
  rw [hG] at y4 z4
  (try simp only [hG])
  clear hG
  refine (implReadyOf_is g0 B g2 g3 N HNN.out a ln cp L la ac n1 n2 HLA.out HAC.out HN1.out HN2.out HL.out (by omega) HNC.out _ OWN4.out.row).mono ?_
  rintro e' w5 ⟨Aa, Ac, Ab, Ad, rfl, oa, ob, ap, hb5⟩
  have y5 := keep_block hb5 y4 (lt_of_block y4)
  have OWN5 := Lib.hid (OWN4.out.below hb5)
  have HB5 : Hid (Below w.heap.size w w5) := HB4.out.trans (hb5.mono HB4.out.size)
  clear hb5 ap y4 z4 OWN4 HB4
  have A5 := oa
  have J5 := ob
  have hbv : Below w5.heap.size w5 (w5.alloc (.cells #[.slice Aa n1 Ac, .slice Ab n2 Ad] 33)) := (Below.refl _ _).alloc (Nat.le_refl _) _
  have y6 := keep_block hbv y5 (lt_of_block y5)
  have OWN6 := Lib.hid (OWN5.out.below hbv)
  have HB6 : Hid (Below w.heap.size w (w5.alloc (.cells #[.slice Aa n1 Ac, .slice Ab n2 Ad] 33))) := HB5.out.trans (hbv.mono HB5.out.size)
  have A6 := Lib.hid (A5.below hbv)
  have J6 := Lib.hid (J5.below hbv)
  have v6 := heap_alloc_new w5 (.cells #[.slice Aa n1 Ac, .slice Ab n2 Ad] 33)
  go_wp2_with fail
  clear hbv y5 OWN5 HB5 A5 J5 oa ob
  generalize (w5.alloc (.cells #[.slice Aa n1 Ac, .slice Ab n2 Ad] 33)) = w6 at y6 OWN6 HB6 A6 J6 v6 ⊢
  generalize w5.heap.size = vP at v6 ⊢
  obtain ⟨eb, eo, rfl, z0, z1, z2, z3, z4⟩ := ev_at OWN6.out.row (i := ln - 1) (by rw [HL.out]; exact hlt)
  rw [HEE.out] at z0 z1 z2 z3 z4
  have EVC := Lib.hid (fun (u : World) (hb : Below w6.heap.size w6 u) => And.intro (Lib.hid (Below.cellR hb z0)).out (And.intro (Below.cellR hb z1) (And.intro (Below.cellR hb z2) (And.intro (Below.cellR hb z3) (Below.cellR hb z4)))))
  clear z0 z1 z2 z3 z4
  (try rw [t0])
  refine wp_region_flowV (fun k => match k with | 0 => some (.agg #[.int .i64 g0, .int .i64 B, .int .i64 g2, .int .i64 g3]) | 1 => some (.agg #[.int .i64 g0, .int .i64 B, .int .i64 g2, .int .i64 g3]) | 2 => some (.slice (some ⟨eb, eo, none⟩) ln cp) | 3 => some (.int .i64 ((ln - 1 : Nat) : Int)) | 4 => some (.slice (some ⟨eb, eo, none⟩) (ln - 1) cp) | 6 => some (.slice (some ⟨eb, eo, none⟩) ln cp) | 7 => some (.int .i64 ((ln - 1 : Nat) : Int)) | 8 => some (.pointer (some ⟨eb, eo + (ln - 1) * 5, none⟩)) | 9 => some (.agg #[.int .i64 e.t, .int .i64 e.k, .int .i64 e.x, .int .i64 e.y, .int .i64 e.z]) | _ => none) (fun listed x u => FactW 5 10 (fun q u => ∃ aa ca ab cb, q = .agg #[.slice aa n1 ca, .slice ab k2 cb] ∧ OwnI w6.heap.size (.slice aa n1 ca) lb u ∧ OwnJ w6.heap.size (.slice ab k2 cb) lc u ∧ Apt aa ab) listed x u ∧ FactW 10 12 (fun q u => ∃ aa ca ab cb, q = .agg #[.slice aa n1 ca, .slice ab n2 cb] ∧ OwnI w6.heap.size (.slice aa n1 ca) la u ∧ OwnJ w6.heap.size (.slice ab n2 cb) ac u ∧ Apt aa ab) listed x u ∧ MadeJ 11 12 (w6.heap.size) n1 n2 la ac listed x u) (fun _ => undef) (by kernel_rfl) (by kernel_rfl) ?hxB ?hSB ?hsB ?heB
  case hxB => simp only [putsX, Act.put, List.setIfInBounds_toArray, List.set_cons_zero, List.set_cons_succ]
  case hSB => exact ⟨FactW.zero _ _ _ _ _ _, FactW.zero _ _ _ _ _ _, MadeJ.zero _ _ _ _ _ _ _ _ _ _⟩
  case hsB =>
    simp only [flowSteps]
    refine ⟨?sB_0, ?sB_1, ?sB_2, ?sB_3, ?sB_4, ?sB_5, ?sB_6, ?sB_7, ?sB_8, ?sB_9, ?sB_10, ?sB_11, ?sB_12, trivial⟩
    case sB_0 =>
      intro listed bb u hsz hn hwt hinv
      obtain ⟨x, rfl, hC, hU, hR, hO, hM⟩ := hinv
      simp only [putsX, Act.put, List.setIfInBounds_toArray, List.set_cons_zero, List.set_cons_succ]
      obtain ⟨c0, c1, c2, c3⟩ := cells4 (keep_block hC y6 (lt_of_block y6))
      go_wp2_with fail
      refine stepQ_normal ⟨trivial, upd x 0 (.agg #[.int .i64 g0, .int .i64 B, .int .i64 g2, .int .i64 g3]), ?_, hC, hU.step (fun _ h => Option.some.inj h), hR.keep (by decide) (by decide) _ id, hO.keep (by decide) (by decide) _ id, hM.keep (by decide) (by decide) _ (Below.refl _ _)⟩
      simp only [upd]
      rfl
    case sB_1 =>
      intro listed bb u hsz hn hwt hinv
      obtain ⟨x, rfl, hC, hU, hR, hO, hM⟩ := hinv
      simp only [putsX, Act.put, List.setIfInBounds_toArray, List.set_cons_zero, List.set_cons_succ]
      obtain ⟨c0, c1, c2, c3⟩ := cells4 (keep_block hC y6 (lt_of_block y6))
      go_wp2_with fail
      refine stepQ_normal ⟨trivial, upd x 1 (.agg #[.int .i64 g0, .int .i64 B, .int .i64 g2, .int .i64 g3]), ?_, hC, hU.step (fun _ h => Option.some.inj h), hR.keep (by decide) (by decide) _ id, hO.keep (by decide) (by decide) _ id, hM.keep (by decide) (by decide) _ (Below.refl _ _)⟩
      simp only [upd]
      rfl
    case sB_2 =>
      intro listed bb u hsz hn hwt hinv
      obtain ⟨x, rfl, hC, hU, hR, hO, hM⟩ := hinv
      simp only [putsX, Act.put, List.setIfInBounds_toArray, List.set_cons_zero, List.set_cons_succ]
      go_wp2_with fail
      refine stepQ_normal ⟨trivial, upd x 2 (.slice (some ⟨eb, eo, none⟩) ln cp), ?_, hC, hU.step (fun _ h => Option.some.inj h), hR.keep (by decide) (by decide) _ id, hO.keep (by decide) (by decide) _ id, hM.keep (by decide) (by decide) _ (Below.refl _ _)⟩
      simp only [upd]
      rfl
    case sB_3 =>
      intro listed bb u hsz hn hwt hinv
      obtain ⟨x, rfl, hC, hU, hR, hO, hM⟩ := hinv
      simp only [putsX, Act.put, List.setIfInBounds_toArray, List.set_cons_zero, List.set_cons_succ]
      go_wp2_with fail
      refine stepQ_normal ⟨trivial, upd x 3 (.int .i64 ((ln - 1 : Nat) : Int)), ?_, hC, hU.step (fun _ h => Option.some.inj h), hR.keep (by decide) (by decide) _ id, hO.keep (by decide) (by decide) _ id, hM.keep (by decide) (by decide) _ (Below.refl _ _)⟩
      simp only [upd]
      rfl
    case sB_4 =>
      intro listed bb u hsz hn hwt hinv
      obtain ⟨x, rfl, hC, hU, hR, hO, hM⟩ := hinv
      have f2 := Lib.hid (hU 2 _ rfl (hwt 2 (by kernel_rfl)))
      have f3 := Lib.hid (hU 3 _ rfl (hwt 3 (by kernel_rfl)))
      simp only [putsX, Act.put, List.setIfInBounds_toArray, List.set_cons_zero, List.set_cons_succ]
      rw [f2.out]
      rw [f3.out]
      go_wp2_with fail
      refine stepQ_normal ⟨trivial, upd x 4 (.slice (some ⟨eb, eo, none⟩) (ln - 1) cp), ?_, hC, hU.step (fun _ h => Option.some.inj h), hR.keep (by decide) (by decide) _ id, hO.keep (by decide) (by decide) _ id, hM.keep (by decide) (by decide) _ (Below.refl _ _)⟩
      simp only [upd]
      simp only [f2.out, f3.out]
      (try rfl)
    case sB_5 =>
      intro listed bb u hsz hn hwt hinv
      obtain ⟨x, rfl, hC, hU, hR, hO, hM⟩ := hinv
      have f1 := Lib.hid (hU 1 _ rfl (hwt 1 (by kernel_rfl)))
      have f4 := Lib.hid (hU 4 _ rfl (hwt 4 (by kernel_rfl)))
      simp only [putsX, Act.put, List.setIfInBounds_toArray, List.set_cons_zero, List.set_cons_succ]
      have hcall : Calls Try.prog 14 #[x 1, x 4] u (GivesRj n1 k2 lb lc u) := by rw [f1.out, f4.out]; exact implReadyOf_is g0 B g2 g3 N HNN.out _ (ln - 1) cp (L.take (ln - 1)) lb lc n1 k2 HLB.out HLC.out HNB.out HK2.out HTL.out (by omega) (fun h => by cases h) u (evRow_take (OWN6.out.below hC).row _)
      go_wp2_with fail
      refine hcall.mono ?_
      rintro e' u' ⟨aa, ca, ab, cb, rfl, own1, own2, ap, hb⟩
      go_wp2_with fail
      refine stepQ_normal ⟨trivial, upd x 5 (.agg #[.slice aa n1 ca, .slice ab k2 cb]), ?_, hC.trans (hb.mono hC.size), hU.step (fun _ h => by cases h), FactW.new ⟨aa, ca, ab, cb, rfl, own1.mono hC.size, own2.mono hC.size, ap⟩, hO.keep (by decide) (by decide) _ (fun ⟨b1, b2, b3, b4, b5, b6, b7, b8⟩ => ⟨b1, b2, b3, b4, b5, b6.below (hb), b7.below (hb), b8⟩), hM.keep (by decide) (by decide) _ (hb)⟩
      simp only [upd]
      rfl
    case sB_6 =>
      intro listed bb u hsz hn hwt hinv
      obtain ⟨x, rfl, hC, hU, hR, hO, hM⟩ := hinv
      simp only [putsX, Act.put, List.setIfInBounds_toArray, List.set_cons_zero, List.set_cons_succ]
      go_wp2_with fail
      refine stepQ_normal ⟨trivial, upd x 6 (.slice (some ⟨eb, eo, none⟩) ln cp), ?_, hC, hU.step (fun _ h => Option.some.inj h), hR.keep (by decide) (by decide) _ id, hO.keep (by decide) (by decide) _ id, hM.keep (by decide) (by decide) _ (Below.refl _ _)⟩
      simp only [upd]
      rfl
    case sB_7 =>
      intro listed bb u hsz hn hwt hinv
      obtain ⟨x, rfl, hC, hU, hR, hO, hM⟩ := hinv
      simp only [putsX, Act.put, List.setIfInBounds_toArray, List.set_cons_zero, List.set_cons_succ]
      go_wp2_with fail
      refine stepQ_normal ⟨trivial, upd x 7 (.int .i64 ((ln - 1 : Nat) : Int)), ?_, hC, hU.step (fun _ h => Option.some.inj h), hR.keep (by decide) (by decide) _ id, hO.keep (by decide) (by decide) _ id, hM.keep (by decide) (by decide) _ (Below.refl _ _)⟩
      simp only [upd]
      rfl
    case sB_8 =>
      intro listed bb u hsz hn hwt hinv
      obtain ⟨x, rfl, hC, hU, hR, hO, hM⟩ := hinv
      have f6 := Lib.hid (hU 6 _ rfl (hwt 6 (by kernel_rfl)))
      have f7 := Lib.hid (hU 7 _ rfl (hwt 7 (by kernel_rfl)))
      simp only [putsX, Act.put, List.setIfInBounds_toArray, List.set_cons_zero, List.set_cons_succ]
      rw [f6.out]
      rw [f7.out]
      go_wp2_with fail
      refine stepQ_normal ⟨trivial, upd x 8 (.pointer (some ⟨eb, eo + (ln - 1) * 5, none⟩)), ?_, hC, hU.step (fun _ h => Option.some.inj h), hR.keep (by decide) (by decide) _ id, hO.keep (by decide) (by decide) _ id, hM.keep (by decide) (by decide) _ (Below.refl _ _)⟩
      simp only [upd]
      simp only [f6.out, f7.out]
      (try rfl)
    case sB_9 =>
      intro listed bb u hsz hn hwt hinv
      obtain ⟨x, rfl, hC, hU, hR, hO, hM⟩ := hinv
      have f8 := Lib.hid (hU 8 _ rfl (hwt 8 (by kernel_rfl)))
      simp only [putsX, Act.put, List.setIfInBounds_toArray, List.set_cons_zero, List.set_cons_succ]
      rw [f8.out]
      obtain ⟨z0, z1, z2, z3, z4⟩ := EVC.out u hC
      go_wp2_with fail
      refine stepQ_normal ⟨trivial, upd x 9 (.agg #[.int .i64 e.t, .int .i64 e.k, .int .i64 e.x, .int .i64 e.y, .int .i64 e.z]), ?_, hC, hU.step (fun _ h => Option.some.inj h), hR.keep (by decide) (by decide) _ id, hO.keep (by decide) (by decide) _ id, hM.keep (by decide) (by decide) _ (Below.refl _ _)⟩
      simp only [upd]
      simp only [f8.out]
      (try rfl)
    case sB_10 =>
      intro listed bb u hsz hn hwt hinv
      obtain ⟨x, rfl, hC, hU, hR, hO, hM⟩ := hinv
      have f0 := Lib.hid (hU 0 _ rfl (hwt 0 (by kernel_rfl)))
      have f9 := Lib.hid (hU 9 _ rfl (hwt 9 (by kernel_rfl)))
      simp only [putsX, Act.put, List.setIfInBounds_toArray, List.set_cons_zero, List.set_cons_succ]
      obtain ⟨aa, ca, ab, cb, fp, ow1, ow2, _⟩ := hR (hwt 5 (by kernel_rfl)) hn
      have hcall : Calls Try.prog 15 #[x 0, x 5, x 9] u (GivesRj n1 n2 la ac u) := by rw [fp, f0.out, f9.out]; exact implReadyAfter_is g0 B g2 g3 N HNN.out aa n1 ca lb ab k2 cb lc e la ac n2 HRL.out HRA.out HN2.out HNB.out (by omega) HK2.out (by omega) ow1.nil ow2.nil ow1.capI u ow1.row ow2.row
      clear fp
      go_wp2_with fail
      refine hcall.mono ?_
      rintro e' u' ⟨Ya, Yc, Yb, Yd, rfl, own1, own2, ap, hb⟩
      go_wp2_with fail
      refine stepQ_normal ⟨trivial, upd x 10 (.agg #[.slice Ya n1 Yc, .slice Yb n2 Yd]), ?_, hC.trans (hb.mono hC.size), hU.step (fun _ h => by cases h), FactW.call (by rw [hsz]; decide), FactW.new ⟨Ya, Yc, Yb, Yd, rfl, own1.mono hC.size, own2.mono hC.size, ap⟩, hM.keep (by decide) (by decide) _ (hb)⟩
      simp only [upd]
      rfl
    case sB_11 =>
      intro listed bb u hsz hn hwt hinv
      obtain ⟨x, rfl, hC, hU, hR, hO, hM⟩ := hinv
      simp only [putsX, Act.put, List.setIfInBounds_toArray, List.set_cons_zero, List.set_cons_succ]
      go_wp2_with fail
      refine stepQ_normal ⟨trivial, upd x 11 (.pointer (some ⟨u.heap.size, 0, none⟩)), ?_, hC.alloc hC.size _, hU.step (fun _ h => by cases h), hR.keep (by decide) (by decide) _ (fun ⟨b1, b2, b3, b4, b5, b6, b7, b8⟩ => ⟨b1, b2, b3, b4, b5, b6.below (below_allocI _), b7.below (below_allocI _), b8⟩), hO.keep (by decide) (by decide) _ (fun ⟨b1, b2, b3, b4, b5, b6, b7, b8⟩ => ⟨b1, b2, b3, b4, b5, b6.below (below_allocI _), b7.below (below_allocI _), b8⟩), hM.new (by decide) hn hC.size⟩
      simp only [upd]
      rfl
    case sB_12 =>
      intro listed bb u hsz hn hwt hinv
      obtain ⟨x, rfl, hC, hU, hR, hO, hM⟩ := hinv
      simp only [putsX, Act.put, List.setIfInBounds_toArray, List.set_cons_zero, List.set_cons_succ]
      obtain ⟨g, fg, hg, hh⟩ := hM.there (hwt 11 (by kernel_rfl)) hn
      obtain ⟨aa, ca, ab, cb, fp, o1, o2, hap⟩ := hO (hwt 10 (by kernel_rfl)) hn
      have FG := Lib.hid fg
      have FP := Lib.hid fp
      rw [FG.out, FP.out]
      obtain ⟨y0, y1⟩ := cells2 hh
      have t0 := thawed hh 0
      have t1 := thawed hh 1
      have hne1 := o1.apartRd hh
      have hne2 := o2.apartRk hh
      have hfin := set_cells (set_cells hh 0 (.slice aa n1 ca)) 1 (.slice ab n2 cb)
      have O1 := Lib.hid (ownI_same (ownI_same o1 (fun x hx => Below.heap_setCell u ⟨g, 0, none⟩ (.slice aa n1 ca) _ (hne1 x hx))) (fun x hx => Below.heap_setCell _ ⟨g, 1, none⟩ (.slice ab n2 cb) _ (hne1 x hx)))
      have O2 := Lib.hid ((o2.same (fun x hx => Below.heap_setCell u ⟨g, 0, none⟩ (.slice aa n1 ca) _ (hne2 x hx))).same (fun x hx => Below.heap_setCell _ ⟨g, 1, none⟩ (.slice ab n2 cb) _ (hne2 x hx)))
      clear hh fg fp o1 o2 hne1 hne2
      go_wp2_with fail
      refine stepQ_normal ⟨trivial, upd x 12 undef, ?_, (hC.setCell (by exact hg) _).setCell (by exact hg) _, hU.step (fun _ h => by cases h), FactW.gone (hwt 10 (by kernel_rfl)), FactW.call (by rw [hsz]; decide), MadeJ.fill (by decide) (hwt 11 (by kernel_rfl)) (by rw [hsz]; decide) FG.out hg hfin O1.out O2.out hap⟩
      simp only [upd]
      simp only [FG.out, FP.out]
      (try rfl)
  case heB =>
  intro listed q u hall hC hU hS
  obtain ⟨hR, hO, hM⟩ := hS
  obtain ⟨bP, Ba, Bc, Bb, Bd, fg, hg, hh, o1, o2, hap⟩ := hM.full (hall 11 (by decide)) (hall 12 (by decide))
  simp only [putsX, Act.put, List.setIfInBounds_toArray, List.set_cons_zero, List.set_cons_succ]
  rw [fg]
  clear hall hU hR hO hM fg
  have v7 := keep_block hC v6 (lt_of_block v6)
  have b7 := hh
  have HB7 : Hid (Below w.heap.size w u) := HB6.out.trans (hC.mono HB6.out.size)
  have A7 := Lib.hid (A6.out.below hC).row
  have J7 := Lib.hid (J6.out.below hC).row
  have C7 := Lib.hid o1.row
  have D7 := Lib.hid o2.row
  clear hC hg hap hh o1 o2
  generalize q 0 = _q0, q 1 = _q1, q 2 = _q2, q 3 = _q3, q 4 = _q4, q 5 = _q5, q 6 = _q6, q 7 = _q7, q 8 = _q8, q 9 = _q9, q 10 = _q10
  generalize u = w7 at v7 b7 HB7 A7 J7 C7 D7 ⊢
  obtain ⟨v0, v1⟩ := cells2 v7
  obtain ⟨b0, b1⟩ := cells2 b7
  go_wp2_with fail
  refine (sameIntsR_is HN1.out A7.out C7.out (by omega)).mono ?_
  rintro e' w8 ⟨rfl, hb8⟩
  have v8 := keep_block hb8 v7 (lt_of_block v7)
  have b8 := keep_block hb8 b7 (lt_of_block b7)
  have HB8 : Hid (Below w.heap.size w w8) := HB7.out.trans (hb8.mono HB7.out.size)
  have J8 := Lib.hid (J7.out.below hb8)
  have D8 := Lib.hid (D7.out.below hb8)
  clear hb8 v0 v1 b0 b1 v7 b7 HB7
  obtain ⟨v0, v1⟩ := cells2 v8
  obtain ⟨b0, b1⟩ := cells2 b8
  go_wp2_with fail
  refine (sameIntsR_is HN2.out J8.out D8.out (by omega)).mono ?_
  rintro e' w9 ⟨rfl, hb9⟩
  have v9 := keep_block hb9 v8 (lt_of_block v8)
  have HB9 : Hid (Below w.heap.size w w9) := HB8.out.trans (hb9.mono HB8.out.size)
  clear hb9 v0 v1 b0 b1 v8 b8 HB8
  obtain ⟨v0, v1⟩ := cells2 v9
  have t4 : decide ((n2 : Int) ≤ 4) = true := decide_eq_true (by omega)
  have t4' : decide (n2 ≤ 4) = true := decide_eq_true (by omega)
  have t9 : decide ((9 : Int) < (n1 : Int)) = true := decide_eq_true (by omega)
  have t9' : decide (9 < n1) = true := decide_eq_true (by omega)
  go_wp2_with fail
  go_ret
  exact ⟨rfl, HB9.out⟩

end Go.Proofs.Ythplhjdfajhmpaa
