/-
  FnExactRankGap: on every input the law's function answers true and its arguments read afterwards as they did; no condition.
-/
import Derived.Test.YtcjeobagjhjbmaaTimY
namespace Go.Proofs.Ytcjeobagjhjbmaa.fnExactRankGap
open Go.ChangeShapes Go.WideShapes Go.ChangeAt Go.RowKit
open Go.ChangeMaps (open_string shut_string)
set_option linter.unusedVariables false

set_option maxRecDepth 100000 in
theorem lifted (os : Os) (started : os.Started) (H : Type) (enc : TypeId × Value → H) :
    ReturnsInHanded {} Try.checked os 9 .any (Rows.fnExactRankGapSpec.pre6 enc Try.prog Try.f9 Rows.fnExactRankGapRow.domain false) (Rows.fnExactRankGapSpec.post enc Try.prog Try.f9 false true false false) := by
  refine returnsInHanded_of_change (C := Try.checked) ownK started (by kernel_rfl) Try.func9
    (ChangeSpec.witness6 (enc := enc) (C := Try.checked) false ⟨#[], #[.agg #[.int .i64 0, .int .i64 0, .int .i64 0, .int .i64 0, .int .i64 0, .int .i64 0, .int .i64 0, .int .i64 0, .int .i64 0, .int .i64 0, .int .i64 0, .int .i64 0, .int .i64 0, .int .i64 0, .int .i64 0, .int .i64 0, .int .i64 0], .int .i64 0, .int .i64 0, .bool false], []⟩ 8 (by kernel_rfl) (by kernel_rfl) (by kernel_rfl) (by kernel_rfl)) ?_
  intro W base args ds gs before hval0 hW hcnd _
  have hval : ∀ (j : Nat) t v, Try.f9.params[j]? = some t → args[j]? = some v → Value.okWide Try.prog W .any base t v := hval0
  have hW' := hW
  obtain ⟨p, q, hA0, hV, rfl, hfz, hnd⟩ := hW
  have hA : DataW.TrodAll enc Try.prog W 0 (fun _ => true) true Try.f9.params.toList args.toList ds p := hA0
  rw [Try.params9] at hA hval
  obtain ⟨v0, vs0, d0, ds0, p0, q0, hargs, rfl, rfl, h0, r0⟩ := trodAll_cons hA
  obtain ⟨v1, vs1, d1, ds1, p1, q1, rfl, rfl, rfl, h1, r1⟩ := trodAll_cons r0
  obtain ⟨v2, vs2, d2, ds2, p2, q2, rfl, rfl, rfl, h2, r2⟩ := trodAll_cons r1
  obtain ⟨v3, vs3, d3, ds3, p3, q3, rfl, rfl, rfl, h3, r3⟩ := trodAll_cons r2
  obtain ⟨rfl, rfl, rfl⟩ := trodAll_nil r3
  obtain rfl : args = #[v0, v1, v2, v3] := by cases args; simp_all
  obtain ⟨rfl, rfl⟩ := trodVars_none hV
  obtain ⟨cs0, rfl, _⟩ := okWide_struct Try.underlying42 (hval 0 42 v0 rfl rfl)
  obtain ⟨l0⟩ := cs0
  have k0 := h0
  have lt0 : ∀ x ∈ p0, x.block < W.heap.size := by obtain ⟨m, hm⟩ := k0; exact DataW.trod_lt m _ _ _ hm
  have s0 : Sh.Fits W (.and (.num .i64) (.and (.num .i64) (.and (.num .i64) (.and (.num .i64) (.and (.num .i64) (.and (.num .i64) (.and (.num .i64) (.and (.num .i64) (.and (.num .i64) (.and (.num .i64) (.and (.num .i64) (.and (.num .i64) (.and (.num .i64) (.and (.num .i64) (.and (.num .i64) (.and (.num .i64) (.and (.num .i64) .fin))))))))))))))))) l0 := Sh.open_arg (.and (.num .i64) (.and (.num .i64) (.and (.num .i64) (.and (.num .i64) (.and (.num .i64) (.and (.num .i64) (.and (.num .i64) (.and (.num .i64) (.and (.num .i64) (.and (.num .i64) (.and (.num .i64) (.and (.num .i64) (.and (.num .i64) (.and (.num .i64) (.and (.num .i64) (.and (.num .i64) (.and (.num .i64) .fin))))))))))))))))) (by kernel_rfl) h0
  obtain ⟨_, r0_0, he0_0, ⟨a0_0, hc0_0, w0_0⟩, _, r0_1, he0_1, ⟨a0_1, hc0_1, w0_1⟩, _, r0_2, he0_2, ⟨a0_2, hc0_2, w0_2⟩, _, r0_3, he0_3, ⟨a0_3, hc0_3, w0_3⟩, _, r0_4, he0_4, ⟨a0_4, hc0_4, w0_4⟩, _, r0_5, he0_5, ⟨a0_5, hc0_5, w0_5⟩, _, r0_6, he0_6, ⟨a0_6, hc0_6, w0_6⟩, _, r0_7, he0_7, ⟨a0_7, hc0_7, w0_7⟩, _, r0_8, he0_8, ⟨a0_8, hc0_8, w0_8⟩, _, r0_9, he0_9, ⟨a0_9, hc0_9, w0_9⟩, _, r0_10, he0_10, ⟨a0_10, hc0_10, w0_10⟩, _, r0_11, he0_11, ⟨a0_11, hc0_11, w0_11⟩, _, r0_12, he0_12, ⟨a0_12, hc0_12, w0_12⟩, _, r0_13, he0_13, ⟨a0_13, hc0_13, w0_13⟩, _, r0_14, he0_14, ⟨a0_14, hc0_14, w0_14⟩, _, r0_15, he0_15, ⟨a0_15, hc0_15, w0_15⟩, _, r0_16, he0_16, ⟨a0_16, hc0_16, w0_16⟩, hfin⟩ := s0
  obtain rfl : l0 = [.int .i64 a0_0, .int .i64 a0_1, .int .i64 a0_2, .int .i64 a0_3, .int .i64 a0_4, .int .i64 a0_5, .int .i64 a0_6, .int .i64 a0_7, .int .i64 a0_8, .int .i64 a0_9, .int .i64 a0_10, .int .i64 a0_11, .int .i64 a0_12, .int .i64 a0_13, .int .i64 a0_14, .int .i64 a0_15, .int .i64 a0_16] := by rw [he0_0, hc0_0, he0_1, hc0_1, he0_2, hc0_2, he0_3, hc0_3, he0_4, hc0_4, he0_5, hc0_5, he0_6, hc0_6, he0_7, hc0_7, he0_8, hc0_8, he0_9, hc0_9, he0_10, hc0_10, he0_11, hc0_11, he0_12, hc0_12, he0_13, hc0_13, he0_14, hc0_14, he0_15, hc0_15, he0_16, hc0_16]; rw [show r0_16 = [] from hfin]; rfl
  clear hfin he0_0 he0_1 he0_2 he0_3 he0_4 he0_5 he0_6 he0_7 he0_8 he0_9 he0_10 he0_11 he0_12 he0_13 he0_14 he0_15 he0_16
  obtain ⟨a1, rfl, rfl, rfl, w1⟩ := open_int Try.underlying3 (hval 1 3 v1 rfl rfl) h1
  obtain ⟨a2, rfl, rfl, rfl, w2⟩ := open_int Try.underlying3 (hval 2 3 v2 rfl rfl) h2
  obtain ⟨a3, rfl, rfl, rfl⟩ := open_bool Try.underlying4 (hval 3 4 v3 rfl rfl) h3
  clear hA0 hval0
  refine (exRankGap_walk a0_0 a0_1 a0_2 a0_3 a0_4 a0_5 a0_6 a0_7 a0_8 a0_9 a0_10 a0_11 a0_12 a0_13 a0_14 a0_15 a0_16 a1 a2 a3 W w0_0 w0_1 w0_2 w0_3 w0_4 w0_5 w0_6 w0_7 w0_8 w0_9 w0_10 w0_11 w0_12 w0_13 w0_14 w0_15 w0_16 w1 w2).mono fun e W' ⟨he, bel⟩ => ?_
  subst he
  exact ⟨_, rfl, _, _, _, [], _, [], hW', trodAll_mk1 (shut_bool Try.underlying4 _), (trodAll_cons_mk (Below.trod laidOutK (by kernel_rfl) (of_decide_eq_true (by kernel_rfl)) k0 bel lt0) (trodAll_cons_mk (shut_int Try.underlying3 w1) (trodAll_cons_mk (shut_int Try.underlying3 w2) (trodAll_cons_mk (shut_bool Try.underlying4 a3) trodAll_mk0)))), rfl, bel.frame _, fun h => by cases h⟩

theorem over : Rows.fnExactRankGapRow.holds Try.pinned (OpenSpec.ofChange Rows.fnExactRankGapSpec) :=
  OpenClaim.holds_of_wide 9 Try.f9 rfl rfl rfl rfl rfl rfl rfl ⟨rfl, rfl, rfl, rfl, rfl⟩ rfl rfl rfl rfl rfl (by kernel_rfl) Try.func9 (by kernel_rfl)
    (of_decide_eq_true (by kernel_rfl)) (by unfold Func.isWrapper; first | (rw [if_pos (by decide +kernel)]; kernel_rfl) | (rw [if_neg (by decide +kernel)]; exact ⟨rfl, rfl⟩))
    (fun os started H enc _ => lifted os started H enc)

/-- The statement. -/
theorem proved : Rows.FnExactRankGapSaid := over
#print axioms proved
end Go.Proofs.Ytcjeobagjhjbmaa.fnExactRankGap
