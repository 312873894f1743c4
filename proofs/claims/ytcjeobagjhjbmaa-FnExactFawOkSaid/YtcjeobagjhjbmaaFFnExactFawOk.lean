/-
  FnExactFawOk: on every input the law's function answers true and its arguments read afterwards as they did; no condition.
-/
import Derived.Test.YtcjeobagjhjbmaaTimY
namespace Go.Proofs.Ytcjeobagjhjbmaa.fnExactFawOk
open Go.ChangeShapes Go.WideShapes Go.ChangeAt Go.RowKit
open Go.ChangeMaps (open_string shut_string)
set_option linter.unusedVariables false

set_option maxRecDepth 100000 in
theorem lifted (os : Os) (started : os.Started) (H : Type) (enc : TypeId × Value → H) :
    ReturnsInHanded {} Try.checked os 11 .any (Rows.fnExactFawOkSpec.pre6 enc Try.prog Try.f11 Rows.fnExactFawOkRow.domain false) (Rows.fnExactFawOkSpec.post enc Try.prog Try.f11 false true false false) := by
  refine returnsInHanded_of_change (C := Try.checked) ownK started (by kernel_rfl) Try.func11
    (ChangeSpec.witness6 (enc := enc) (C := Try.checked) false ⟨#[], #[.agg #[.int .i64 0, .int .i64 0, .int .i64 0, .int .i64 0, .int .i64 0, .int .i64 0, .int .i64 0, .int .i64 0, .int .i64 0, .int .i64 0, .int .i64 0, .int .i64 0, .int .i64 0, .int .i64 0, .int .i64 0, .int .i64 0, .int .i64 0], .slice none 0 0], []⟩ 8 (by kernel_rfl) (by kernel_rfl) (by kernel_rfl) (by kernel_rfl)) ?_
  intro W base args ds gs before hval0 hW hcnd _
  have hval : ∀ (j : Nat) t v, Try.f11.params[j]? = some t → args[j]? = some v → Value.okWide Try.prog W .any base t v := hval0
  have hW' := hW
  obtain ⟨p, q, hA0, hV, rfl, hfz, hnd⟩ := hW
  have hA : DataW.TrodAll enc Try.prog W 0 (fun _ => true) true Try.f11.params.toList args.toList ds p := hA0
  rw [Try.params11] at hA hval
  obtain ⟨v0, vs0, d0, ds0, p0, q0, hargs, rfl, rfl, h0, r0⟩ := trodAll_cons hA
  obtain ⟨v1, vs1, d1, ds1, p1, q1, rfl, rfl, rfl, h1, r1⟩ := trodAll_cons r0
  obtain ⟨rfl, rfl, rfl⟩ := trodAll_nil r1
  obtain rfl : args = #[v0, v1] := by cases args; simp_all
  obtain ⟨rfl, rfl⟩ := trodVars_none hV
  obtain ⟨cs0, rfl, _⟩ := okWide_struct Try.underlying42 (hval 0 42 v0 rfl rfl)
  obtain ⟨l0⟩ := cs0
  have k0 := h0
  have lt0 : ∀ x ∈ p0, x.block < W.heap.size := by obtain ⟨m, hm⟩ := k0; exact DataW.trod_lt m _ _ _ hm
  have s0 : Sh.Fits W (.and (.num .i64) (.and (.num .i64) (.and (.num .i64) (.and (.num .i64) (.and (.num .i64) (.and (.num .i64) (.and (.num .i64) (.and (.num .i64) (.and (.num .i64) (.and (.num .i64) (.and (.num .i64) (.and (.num .i64) (.and (.num .i64) (.and (.num .i64) (.and (.num .i64) (.and (.num .i64) (.and (.num .i64) .fin))))))))))))))))) l0 := Sh.open_arg (.and (.num .i64) (.and (.num .i64) (.and (.num .i64) (.and (.num .i64) (.and (.num .i64) (.and (.num .i64) (.and (.num .i64) (.and (.num .i64) (.and (.num .i64) (.and (.num .i64) (.and (.num .i64) (.and (.num .i64) (.and (.num .i64) (.and (.num .i64) (.and (.num .i64) (.and (.num .i64) (.and (.num .i64) .fin))))))))))))))))) (by kernel_rfl) h0
  obtain ⟨_, r0_0, he0_0, ⟨a0_0, hc0_0, w0_0⟩, _, r0_1, he0_1, ⟨a0_1, hc0_1, w0_1⟩, _, r0_2, he0_2, ⟨a0_2, hc0_2, w0_2⟩, _, r0_3, he0_3, ⟨a0_3, hc0_3, w0_3⟩, _, r0_4, he0_4, ⟨a0_4, hc0_4, w0_4⟩, _, r0_5, he0_5, ⟨a0_5, hc0_5, w0_5⟩, _, r0_6, he0_6, ⟨a0_6, hc0_6, w0_6⟩, _, r0_7, he0_7, ⟨a0_7, hc0_7, w0_7⟩, _, r0_8, he0_8, ⟨a0_8, hc0_8, w0_8⟩, _, r0_9, he0_9, ⟨a0_9, hc0_9, w0_9⟩, _, r0_10, he0_10, ⟨a0_10, hc0_10, w0_10⟩, _, r0_11, he0_11, ⟨a0_11, hc0_11, w0_11⟩, _, r0_12, he0_12, ⟨a0_12, hc0_12, w0_12⟩, _, r0_13, he0_13, ⟨a0_13, hc0_13, w0_13⟩, _, r0_14, he0_14, ⟨a0_14, hc0_14, w0_14⟩, _, r0_15, he0_15, ⟨a0_15, hc0_15, w0_15⟩, _, r0_16, he0_16, ⟨a0_16, hc0_16, w0_16⟩, hfin⟩ := s0
  obtain rfl : l0 = [.int .i64 a0_0, .int .i64 a0_1, .int .i64 a0_2, .int .i64 a0_3, .int .i64 a0_4, .int .i64 a0_5, .int .i64 a0_6, .int .i64 a0_7, .int .i64 a0_8, .int .i64 a0_9, .int .i64 a0_10, .int .i64 a0_11, .int .i64 a0_12, .int .i64 a0_13, .int .i64 a0_14, .int .i64 a0_15, .int .i64 a0_16] := by rw [he0_0, hc0_0, he0_1, hc0_1, he0_2, hc0_2, he0_3, hc0_3, he0_4, hc0_4, he0_5, hc0_5, he0_6, hc0_6, he0_7, hc0_7, he0_8, hc0_8, he0_9, hc0_9, he0_10, hc0_10, he0_11, hc0_11, he0_12, hc0_12, he0_13, hc0_13, he0_14, hc0_14, he0_15, hc0_15, he0_16, hc0_16]; rw [show r0_16 = [] from hfin]; rfl
  clear hfin he0_0 he0_1 he0_2 he0_3 he0_4 he0_5 he0_6 he0_7 he0_8 he0_9 he0_10 he0_11 he0_12 he0_13 he0_14 he0_15 he0_16
  obtain ⟨a1, len1, cap1, rfl⟩ := okWide_slice Try.underlying36 (hval 1 36 v1 rfl rfl)
  have k1 := h1
  have lt1 : ∀ x ∈ p1, x.block < W.heap.size := by obtain ⟨m, hm⟩ := k1; exact DataW.trod_lt m _ _ _ hm
  obtain ⟨z1, w1⟩ : ∃ zs, IsRow .i64 W a1 len1 cap1 zs := by
    obtain ⟨fuel, hf⟩ := h1
    rcases open_ints Try.underlying36 Try.underlying3 (by kernel_rfl) hf with ⟨hcs, _⟩ | ⟨x, l, c, zs, hcs, _, hl, hm, hz, _, hcell, hwz⟩
    · simp [Value.cells] at hcs
      obtain ⟨rfl, rfl, rfl⟩ := hcs
      exact ⟨[], .inl ⟨rfl, rfl, rfl, rfl⟩⟩
    · simp [Value.cells] at hcs
      obtain ⟨rfl, rfl, rfl⟩ := hcs
      exact ⟨zs, .inr ⟨_, rfl, hl, hm, by simpa using hz, hcell, hwz⟩⟩
  clear hA0 hval0
  refine (exFawOk_walk a0_0 a0_1 a0_2 a0_3 a0_4 a0_5 a0_6 a0_7 a0_8 a0_9 a0_10 a0_11 a0_12 a0_13 a0_14 a0_15 a0_16 a1 len1 cap1 z1 W w0_0 w0_1 w0_2 w0_3 w0_4 w0_5 w0_6 w0_7 w0_8 w0_9 w0_10 w0_11 w0_12 w0_13 w0_14 w0_15 w0_16 w1).mono fun e W' ⟨he, bel⟩ => ?_
  subst he
  exact ⟨_, rfl, _, _, _, [], _, [], hW', trodAll_mk1 (shut_bool Try.underlying4 _), (trodAll_cons_mk (Below.trod laidOutK (by kernel_rfl) (of_decide_eq_true (by kernel_rfl)) k0 bel lt0) (trodAll_cons_mk (Below.trod laidOutK (by kernel_rfl) (of_decide_eq_true (by kernel_rfl)) k1 bel lt1) trodAll_mk0)), rfl, bel.frame _, fun h => by cases h⟩

theorem over : Rows.fnExactFawOkRow.holds Try.pinned (OpenSpec.ofChange Rows.fnExactFawOkSpec) :=
  OpenClaim.holds_of_wide 11 Try.f11 rfl rfl rfl rfl rfl rfl rfl ⟨rfl, rfl, rfl, rfl, rfl⟩ rfl rfl rfl rfl rfl (by kernel_rfl) Try.func11 (by kernel_rfl)
    (of_decide_eq_true (by kernel_rfl)) (by unfold Func.isWrapper; first | (rw [if_pos (by decide +kernel)]; kernel_rfl) | (rw [if_neg (by decide +kernel)]; exact ⟨rfl, rfl⟩))
    (fun os started H enc _ => lifted os started H enc)

/-- The statement. -/
theorem proved : Rows.FnExactFawOkSaid := over
#print axioms proved
end Go.Proofs.Ytcjeobagjhjbmaa.fnExactFawOk
