/-
  FnExactFlipSymbol: on every input the law's function answers true and its arguments read afterwards as they did; no condition.
-/
import Derived.Test.YtfpfgaifhmgpiaaQM1417
namespace Go.Proofs.Ytfpfgaifhmgpiaa.fnExactFlipSymbol
open Go.ChangeShapes Go.WideShapes Go.ChangeAt Go.RowKit
open Go.ChangeMaps (open_string shut_string)
set_option linter.unusedVariables false

set_option maxRecDepth 100000 in
theorem lifted (os : Os) (started : os.Started) (H : Type) (enc : TypeId × Value → H) :
    ReturnsInHanded {} Try.checked os 8 .any (Rows.fnExactFlipSymbolSpec.pre6 enc Try.prog Try.f8 Rows.fnExactFlipSymbolRow.domain false) (Rows.fnExactFlipSymbolSpec.post enc Try.prog Try.f8 false true false false) := by
  refine returnsInHanded_of_change (C := Try.checked) ownK started (by kernel_rfl) Try.func8
    (ChangeSpec.witness6 (enc := enc) (C := Try.checked) false ⟨#[], #[.agg #[.int .i64 0, .int .i64 0, .int .i64 0, .int .i64 0], .agg #[.slice none 0 0, .slice none 0 0, .slice none 0 0], .agg #[.int .i64 0, .int .i64 0, .int .i64 0], .int .i64 0, .int .i64 0], []⟩ 8 (by kernel_rfl) (by kernel_rfl) (by kernel_rfl) (by kernel_rfl)) ?_
  intro W base args ds gs before hval0 hW hcnd _
  have hval : ∀ (j : Nat) t v, Try.f8.params[j]? = some t → args[j]? = some v → Value.okWide Try.prog W .any base t v := hval0
  have hW' := hW
  obtain ⟨p, q, hA0, hV, rfl, hfz, hnd⟩ := hW
  have hA : DataW.TrodAll enc Try.prog W 0 (fun _ => true) true Try.f8.params.toList args.toList ds p := hA0
  rw [Try.params8] at hA hval
  obtain ⟨v0, vs0, d0, ds0, p0, q0, hargs, rfl, rfl, h0, r0⟩ := trodAll_cons hA
  obtain ⟨v1, vs1, d1, ds1, p1, q1, rfl, rfl, rfl, h1, r1⟩ := trodAll_cons r0
  obtain ⟨v2, vs2, d2, ds2, p2, q2, rfl, rfl, rfl, h2, r2⟩ := trodAll_cons r1
  obtain ⟨v3, vs3, d3, ds3, p3, q3, rfl, rfl, rfl, h3, r3⟩ := trodAll_cons r2
  obtain ⟨v4, vs4, d4, ds4, p4, q4, rfl, rfl, rfl, h4, r4⟩ := trodAll_cons r3
  obtain ⟨rfl, rfl, rfl⟩ := trodAll_nil r4
  obtain rfl : args = #[v0, v1, v2, v3, v4] := by cases args; simp_all
  obtain ⟨rfl, rfl⟩ := trodVars_none hV
  obtain ⟨cs0, rfl, _⟩ := okWide_struct Try.underlying48 (hval 0 48 v0 rfl rfl)
  obtain ⟨l0⟩ := cs0
  have k0 := h0
  have lt0 : ∀ x ∈ p0, x.block < W.heap.size := by obtain ⟨m, hm⟩ := k0; exact DataW.trod_lt m _ _ _ hm
  have s0 : Sh.Fits W (.and (.num .i64) (.and (.num .i64) (.and (.num .i64) (.and (.num .i64) .fin)))) l0 := Sh.open_arg (.and (.num .i64) (.and (.num .i64) (.and (.num .i64) (.and (.num .i64) .fin)))) (by kernel_rfl) h0
  obtain ⟨_, r0_0, he0_0, ⟨a0_0, hc0_0, w0_0⟩, _, r0_1, he0_1, ⟨a0_1, hc0_1, w0_1⟩, _, r0_2, he0_2, ⟨a0_2, hc0_2, w0_2⟩, _, r0_3, he0_3, ⟨a0_3, hc0_3, w0_3⟩, hfin⟩ := s0
  obtain rfl : l0 = [.int .i64 a0_0, .int .i64 a0_1, .int .i64 a0_2, .int .i64 a0_3] := by rw [he0_0, hc0_0, he0_1, hc0_1, he0_2, hc0_2, he0_3, hc0_3]; rw [show r0_3 = [] from hfin]; rfl
  clear hfin he0_0 he0_1 he0_2 he0_3
  obtain ⟨cs1, rfl, _⟩ := okWide_struct Try.underlying51 (hval 1 51 v1 rfl rfl)
  obtain ⟨l1⟩ := cs1
  have k1 := h1
  have lt1 : ∀ x ∈ p1, x.block < W.heap.size := by obtain ⟨m, hm⟩ := k1; exact DataW.trod_lt m _ _ _ hm
  have s1 : Sh.Fits W (.and (.row (.and (.row (.num .i64)) (.and .flag .fin))) (.and (.row (.num .i64)) (.and (.row (.num .i64)) .fin))) l1 := Sh.open_arg (.and (.row (.and (.row (.num .i64)) (.and .flag .fin))) (.and (.row (.num .i64)) (.and (.row (.num .i64)) .fin))) (by kernel_rfl) h1
  obtain ⟨cs2, rfl, _⟩ := okWide_struct Try.underlying65 (hval 2 65 v2 rfl rfl)
  obtain ⟨l2⟩ := cs2
  have k2 := h2
  have lt2 : ∀ x ∈ p2, x.block < W.heap.size := by obtain ⟨m, hm⟩ := k2; exact DataW.trod_lt m _ _ _ hm
  have s2 : Sh.Fits W (.and (.num .i64) (.and (.num .i64) (.and (.num .i64) .fin))) l2 := Sh.open_arg (.and (.num .i64) (.and (.num .i64) (.and (.num .i64) .fin))) (by kernel_rfl) h2
  obtain ⟨_, r2_0, he2_0, ⟨a2_0, hc2_0, w2_0⟩, _, r2_1, he2_1, ⟨a2_1, hc2_1, w2_1⟩, _, r2_2, he2_2, ⟨a2_2, hc2_2, w2_2⟩, hfin⟩ := s2
  obtain rfl : l2 = [.int .i64 a2_0, .int .i64 a2_1, .int .i64 a2_2] := by rw [he2_0, hc2_0, he2_1, hc2_1, he2_2, hc2_2]; rw [show r2_2 = [] from hfin]; rfl
  clear hfin he2_0 he2_1 he2_2
  obtain ⟨a3, rfl, rfl, rfl, w3⟩ := open_int Try.underlying3 (hval 3 3 v3 rfl rfl) h3
  obtain ⟨a4, rfl, rfl, rfl, w4⟩ := open_int Try.underlying3 (hval 4 3 v4 rfl rfl) h4
  clear hA0 hval0
  refine (exFlipSymbol_walk a0_0 a0_1 a0_2 a0_3 l1 a2_0 a2_1 a2_2 a3 a4 W w0_0 w0_1 w0_2 w0_3 s1 w2_0 w2_1 w2_2 w3 w4).mono fun e W' ⟨he, bel⟩ => ?_
  subst he
  exact ⟨_, rfl, _, _, _, [], _, [], hW', trodAll_mk1 (shut_bool Try.underlying4 _), (trodAll_cons_mk (Below.trod laidOutK (by kernel_rfl) (of_decide_eq_true (by kernel_rfl)) k0 bel lt0) (trodAll_cons_mk (Below.trod laidOutK (by kernel_rfl) (of_decide_eq_true (by kernel_rfl)) k1 bel lt1) (trodAll_cons_mk (Below.trod laidOutK (by kernel_rfl) (of_decide_eq_true (by kernel_rfl)) k2 bel lt2) (trodAll_cons_mk (shut_int Try.underlying3 w3) (trodAll_cons_mk (shut_int Try.underlying3 w4) trodAll_mk0))))), rfl, bel.frame _, fun h => by cases h⟩

theorem over : Rows.fnExactFlipSymbolRow.holds Try.pinned (OpenSpec.ofChange Rows.fnExactFlipSymbolSpec) :=
  OpenClaim.holds_of_wide 8 Try.f8 rfl rfl rfl rfl rfl rfl rfl ⟨rfl, rfl, rfl, rfl, rfl⟩ rfl rfl rfl rfl rfl (by kernel_rfl) Try.func8 (by kernel_rfl)
    (of_decide_eq_true (by kernel_rfl)) (by unfold Func.isWrapper; first | (rw [if_pos (by decide +kernel)]; kernel_rfl) | (rw [if_neg (by decide +kernel)]; exact ⟨rfl, rfl⟩))
    (fun os started H enc _ => lifted os started H enc)

/-- The statement. -/
theorem proved : Rows.FnExactFlipSymbolSaid := over
#print axioms proved
end Go.Proofs.Ytfpfgaifhmgpiaa.fnExactFlipSymbol
