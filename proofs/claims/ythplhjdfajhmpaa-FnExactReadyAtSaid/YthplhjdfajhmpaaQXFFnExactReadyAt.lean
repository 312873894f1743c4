/-
  FnExactReadyAt: on every input the law's function answers true and its arguments read afterwards as they did; no condition.
-/
import Derived.Test.YthplhjdfajhmpaaQX24
namespace Go.Proofs.Ythplhjdfajhmpaa.fnExactReadyAt
open Go.ChangeShapes Go.WideShapes Go.ChangeAt Go.RowKit
open Go.ChangeMaps (open_string shut_string)
set_option linter.unusedVariables false

set_option maxRecDepth 100000 in
theorem lifted (os : Os) (started : os.Started) (H : Type) (enc : TypeId × Value → H) :
    ReturnsInHanded {} Try.checked os 9 .any (Rows.fnExactReadyAtSpec.pre6 enc Try.prog Try.f9 Rows.fnExactReadyAtRow.domain false) (Rows.fnExactReadyAtSpec.post enc Try.prog Try.f9 false true false false) := by
  refine returnsInHanded_of_change (C := Try.checked) ownK started (by kernel_rfl) Try.func9
    (ChangeSpec.witness6 (enc := enc) (C := Try.checked) false ⟨#[], #[.agg #[.int .i64 0, .int .i64 0, .int .i64 0, .int .i64 0], .agg #[.int .i64 0, .int .i64 0, .int .i64 0, .int .i64 0, .int .i64 0, .int .i64 0, .int .i64 0, .int .i64 0, .int .i64 0, .int .i64 0, .int .i64 0, .int .i64 0, .int .i64 0, .int .i64 0, .int .i64 0, .int .i64 0, .int .i64 0], .agg #[.slice none 0 0, .slice none 0 0], .agg #[.int .i64 0, .int .i64 0, .int .i64 0, .int .i64 0]], []⟩ 8 (by kernel_rfl) (by kernel_rfl) (by kernel_rfl) (by kernel_rfl)) ?_
  intro W base args ds gs before hval0 hW hcnd _
  have hval : ∀ (j : Nat) t v, Try.f9.params[j]? = some t → args[j]? = some v → Value.okWide Try.prog W .any base t v := hval0
  have hW' := hW
  obtain ⟨p, q, hA0, hV, rfl, hfz, hnd⟩ := hW
  have hA : DataW.TrodAll enc Try.prog W 0 (fun _ => true) true Try.f9.params.toList args.toList ds p := hA0
  rw [Try.params9] at hA hval
  obtain ⟨v0, vs0, d0, ds0, p0, q0, hargs, rfl, rfl, h0, r0⟩ := trodAll_cons hA
  obtain ⟨v1, vs1, d1, ds1, p1, q1, rfl, rfl, rfl, h1, r1⟩ := trodAll_cons r0
  obtain ⟨v2, vs2, d2, ds2, p2, q2, rfl, rfl, rfl, h2, r2⟩ := trodAll_cons r1
  obtain ⟨v3, vs3, d3, ds3, p3, q3, rfl, rfl, rfl, h3, r3⟩ := trodAll_cons r2
  obtain ⟨rfl, rfl, rfl⟩ := trodAll_nil r3
  obtain rfl : args = #[v0, v1, v2, v3] := by cases args; simp_all
  obtain ⟨rfl, rfl⟩ := trodVars_none hV
  obtain ⟨cs0, rfl, _⟩ := okWide_struct Try.underlying43 (hval 0 43 v0 rfl rfl)
  obtain ⟨l0⟩ := cs0
  have k0 := h0
  have lt0 : ∀ x ∈ p0, x.block < W.heap.size := by obtain ⟨m, hm⟩ := k0; exact DataW.trod_lt m _ _ _ hm
  have s0 : Sh.Fits W (.and (.num .i64) (.and (.num .i64) (.and (.num .i64) (.and (.num .i64) .fin)))) l0 := Sh.open_arg (.and (.num .i64) (.and (.num .i64) (.and (.num .i64) (.and (.num .i64) .fin)))) (by kernel_rfl) h0
  obtain ⟨_, r0_0, he0_0, ⟨a0_0, hc0_0, w0_0⟩, _, r0_1, he0_1, ⟨a0_1, hc0_1, w0_1⟩, _, r0_2, he0_2, ⟨a0_2, hc0_2, w0_2⟩, _, r0_3, he0_3, ⟨a0_3, hc0_3, w0_3⟩, hfin⟩ := s0
  obtain rfl : l0 = [.int .i64 a0_0, .int .i64 a0_1, .int .i64 a0_2, .int .i64 a0_3] := by rw [he0_0, hc0_0, he0_1, hc0_1, he0_2, hc0_2, he0_3, hc0_3]; rw [show r0_3 = [] from hfin]; rfl
  clear hfin he0_0 he0_1 he0_2 he0_3
  obtain ⟨cs1, rfl, _⟩ := okWide_struct Try.underlying44 (hval 1 44 v1 rfl rfl)
  obtain ⟨l1⟩ := cs1
  have k1 := h1
  have lt1 : ∀ x ∈ p1, x.block < W.heap.size := by obtain ⟨m, hm⟩ := k1; exact DataW.trod_lt m _ _ _ hm
  have s1 : Sh.Fits W (.and (.num .i64) (.and (.num .i64) (.and (.num .i64) (.and (.num .i64) (.and (.num .i64) (.and (.num .i64) (.and (.num .i64) (.and (.num .i64) (.and (.num .i64) (.and (.num .i64) (.and (.num .i64) (.and (.num .i64) (.and (.num .i64) (.and (.num .i64) (.and (.num .i64) (.and (.num .i64) (.and (.num .i64) .fin))))))))))))))))) l1 := Sh.open_arg (.and (.num .i64) (.and (.num .i64) (.and (.num .i64) (.and (.num .i64) (.and (.num .i64) (.and (.num .i64) (.and (.num .i64) (.and (.num .i64) (.and (.num .i64) (.and (.num .i64) (.and (.num .i64) (.and (.num .i64) (.and (.num .i64) (.and (.num .i64) (.and (.num .i64) (.and (.num .i64) (.and (.num .i64) .fin))))))))))))))))) (by kernel_rfl) h1
  obtain ⟨_, r1_0, he1_0, ⟨a1_0, hc1_0, w1_0⟩, _, r1_1, he1_1, ⟨a1_1, hc1_1, w1_1⟩, _, r1_2, he1_2, ⟨a1_2, hc1_2, w1_2⟩, _, r1_3, he1_3, ⟨a1_3, hc1_3, w1_3⟩, _, r1_4, he1_4, ⟨a1_4, hc1_4, w1_4⟩, _, r1_5, he1_5, ⟨a1_5, hc1_5, w1_5⟩, _, r1_6, he1_6, ⟨a1_6, hc1_6, w1_6⟩, _, r1_7, he1_7, ⟨a1_7, hc1_7, w1_7⟩, _, r1_8, he1_8, ⟨a1_8, hc1_8, w1_8⟩, _, r1_9, he1_9, ⟨a1_9, hc1_9, w1_9⟩, _, r1_10, he1_10, ⟨a1_10, hc1_10, w1_10⟩, _, r1_11, he1_11, ⟨a1_11, hc1_11, w1_11⟩, _, r1_12, he1_12, ⟨a1_12, hc1_12, w1_12⟩, _, r1_13, he1_13, ⟨a1_13, hc1_13, w1_13⟩, _, r1_14, he1_14, ⟨a1_14, hc1_14, w1_14⟩, _, r1_15, he1_15, ⟨a1_15, hc1_15, w1_15⟩, _, r1_16, he1_16, ⟨a1_16, hc1_16, w1_16⟩, hfin⟩ := s1
  obtain rfl : l1 = [.int .i64 a1_0, .int .i64 a1_1, .int .i64 a1_2, .int .i64 a1_3, .int .i64 a1_4, .int .i64 a1_5, .int .i64 a1_6, .int .i64 a1_7, .int .i64 a1_8, .int .i64 a1_9, .int .i64 a1_10, .int .i64 a1_11, .int .i64 a1_12, .int .i64 a1_13, .int .i64 a1_14, .int .i64 a1_15, .int .i64 a1_16] := by rw [he1_0, hc1_0, he1_1, hc1_1, he1_2, hc1_2, he1_3, hc1_3, he1_4, hc1_4, he1_5, hc1_5, he1_6, hc1_6, he1_7, hc1_7, he1_8, hc1_8, he1_9, hc1_9, he1_10, hc1_10, he1_11, hc1_11, he1_12, hc1_12, he1_13, hc1_13, he1_14, hc1_14, he1_15, hc1_15, he1_16, hc1_16]; rw [show r1_16 = [] from hfin]; rfl
  clear hfin he1_0 he1_1 he1_2 he1_3 he1_4 he1_5 he1_6 he1_7 he1_8 he1_9 he1_10 he1_11 he1_12 he1_13 he1_14 he1_15 he1_16
  obtain ⟨cs2, rfl, _⟩ := okWide_struct Try.underlying57 (hval 2 57 v2 rfl rfl)
  obtain ⟨l2⟩ := cs2
  have k2 := h2
  have lt2 : ∀ x ∈ p2, x.block < W.heap.size := by obtain ⟨m, hm⟩ := k2; exact DataW.trod_lt m _ _ _ hm
  have s2 : Sh.Fits W (.and (.row (.num .i64)) (.and (.row (.num .i64)) .fin)) l2 := Sh.open_arg (.and (.row (.num .i64)) (.and (.row (.num .i64)) .fin)) (by kernel_rfl) h2
  obtain ⟨cs3, rfl, _⟩ := okWide_struct Try.underlying62 (hval 3 62 v3 rfl rfl)
  obtain ⟨l3⟩ := cs3
  have k3 := h3
  have lt3 : ∀ x ∈ p3, x.block < W.heap.size := by obtain ⟨m, hm⟩ := k3; exact DataW.trod_lt m _ _ _ hm
  have s3 : Sh.Fits W (.and (.num .i64) (.and (.num .i64) (.and (.num .i64) (.and (.num .i64) .fin)))) l3 := Sh.open_arg (.and (.num .i64) (.and (.num .i64) (.and (.num .i64) (.and (.num .i64) .fin)))) (by kernel_rfl) h3
  obtain ⟨_, r3_0, he3_0, ⟨a3_0, hc3_0, w3_0⟩, _, r3_1, he3_1, ⟨a3_1, hc3_1, w3_1⟩, _, r3_2, he3_2, ⟨a3_2, hc3_2, w3_2⟩, _, r3_3, he3_3, ⟨a3_3, hc3_3, w3_3⟩, hfin⟩ := s3
  obtain rfl : l3 = [.int .i64 a3_0, .int .i64 a3_1, .int .i64 a3_2, .int .i64 a3_3] := by rw [he3_0, hc3_0, he3_1, hc3_1, he3_2, hc3_2, he3_3, hc3_3]; rw [show r3_3 = [] from hfin]; rfl
  clear hfin he3_0 he3_1 he3_2 he3_3
  clear hA0 hval0
  refine (exReadyAt_walk a0_0 a0_1 a0_2 a0_3 a1_0 a1_1 a1_2 a1_3 a1_4 a1_5 a1_6 a1_7 a1_8 a1_9 a1_10 a1_11 a1_12 a1_13 a1_14 a1_15 a1_16 l2 a3_0 a3_1 a3_2 a3_3 W w0_0 w0_1 w0_2 w0_3 w1_0 w1_1 w1_2 w1_3 w1_4 w1_5 w1_6 w1_7 w1_8 w1_9 w1_10 w1_11 w1_12 w1_13 w1_14 w1_15 w1_16 s2 w3_0 w3_1 w3_2 w3_3).mono fun e W' ⟨he, bel⟩ => ?_
  subst he
  exact ⟨_, rfl, _, _, _, [], _, [], hW', trodAll_mk1 (shut_bool Try.underlying4 _), (trodAll_cons_mk (Below.trod laidOutK (by kernel_rfl) (of_decide_eq_true (by kernel_rfl)) k0 bel lt0) (trodAll_cons_mk (Below.trod laidOutK (by kernel_rfl) (of_decide_eq_true (by kernel_rfl)) k1 bel lt1) (trodAll_cons_mk (Below.trod laidOutK (by kernel_rfl) (of_decide_eq_true (by kernel_rfl)) k2 bel lt2) (trodAll_cons_mk (Below.trod laidOutK (by kernel_rfl) (of_decide_eq_true (by kernel_rfl)) k3 bel lt3) trodAll_mk0)))), rfl, bel.frame _, fun h => by cases h⟩

theorem over : Rows.fnExactReadyAtRow.holds Try.pinned (OpenSpec.ofChange Rows.fnExactReadyAtSpec) :=
  OpenClaim.holds_of_wide 9 Try.f9 rfl rfl rfl rfl rfl rfl rfl ⟨rfl, rfl, rfl, rfl, rfl⟩ rfl rfl rfl rfl rfl (by kernel_rfl) Try.func9 (by kernel_rfl)
    (of_decide_eq_true (by kernel_rfl)) (by unfold Func.isWrapper; first | (rw [if_pos (by decide +kernel)]; kernel_rfl) | (rw [if_neg (by decide +kernel)]; exact ⟨rfl, rfl⟩))
    (fun os started H enc _ => lifted os started H enc)

/-- The statement. -/
theorem proved : Rows.FnExactReadyAtSaid := over
#print axioms proved
end Go.Proofs.Ythplhjdfajhmpaa.fnExactReadyAt
