/-
  Texts of one proof, merged: PartX.
-/
import Derived.Test.YthplhjdfajhmpaaQX6
import Derived.Test.YthplhjdfajhmpaaQX7
import Derived.Test.YthplhjdfajhmpaaQX10
namespace Go.Proofs.Ythplhjdfajhmpaa
open Go.RowKit Go.PlainAid

set_option linter.unusedVariables false

/-- What comes in as a partition shows a row of numbers. -/
theorem part_in {w : World} {l : List Value} (h : Sh.Fits w (.and (.row (.num .i64)) .fin) l) : ∃ ad n cap zs, l = [.slice ad n cap] ∧ zs.length = n ∧ RowI w ad zs ∧ (∀ x ∈ zs, (Lit.int .i64 x).wf = true) ∧ n ≤ maxLen := by
  obtain ⟨c1, c2, rfl, h1, h2⟩ := h
  obtain rfl : c2 = [] := h2
  rcases h1 with rfl | ⟨a, len, cap, rfl, hl, hm, hc⟩
  · exact ⟨none, 0, 0, [], rfl, rfl, .inl rfl, (fun x h => by cases h), Nat.zero_le _⟩
  · have key : ∀ k, k ≤ len → ∃ zs : List Int, zs.length = k ∧ (∀ i, i < k → w.cell? (a.add i) = some (.int .i64 (zs.getD i 0))) ∧ ∀ x ∈ zs, (Lit.int .i64 x).wf = true := by
      intro k
      induction k with
      | zero => intro _; exact ⟨[], rfl, fun i h => absurd h (Nat.not_lt_zero _), fun x h => by cases h⟩
      | succ k ih =>
        intro hk
        obtain ⟨zs, h1, h2, h3⟩ := ih (by omega)
        obtain ⟨cs', hl', hc', z, rfl, hz⟩ := hc k (by omega)
        have hck := hc' 0 (by decide)
        have e : k * (Sh.num .i64).size + 0 = k := by simp [Sh.size]
        rw [e] at hck
        refine ⟨zs ++ [z], by simp [h1], fun i hi => ?_, fun x hx => ?_⟩
        · by_cases hik : i = k
          · subst hik
            rw [hck, List.getD_eq_getElem?_getD, List.getElem?_append_right (by omega), h1]
            simp
          · rw [h2 i (by omega), List.getD_eq_getElem?_getD, List.getD_eq_getElem?_getD, List.getElem?_append_left (by omega)]
        · rcases List.mem_append.1 hx with hx | hx
          · exact h3 x hx
          · rw [List.mem_singleton.1 hx]; exact hz
    obtain ⟨zs, h1, h2, h3⟩ := key len (Nat.le_refl _)
    refine ⟨some a, len, cap, zs, rfl, h1, ?_, h3, by omega⟩
    by_cases h0 : len = 0
    · exact .inl (List.length_eq_zero_iff.1 (by omega))
    · obtain ⟨b, off, spot⟩ := a
      have hspot : spot = none := by simpa [Addr.add] using World.cell?_spot (h2 0 (by omega))
      subst hspot
      refine .inr ⟨b, off, rfl, fun i hi => ?_⟩
      rw [← Addr.add_lit]
      exact h2 i (by omega)

theorem szIntS_is (ad : Option Addr) (n cap : Nat) (k v : Int) (hn : n ≤ maxLen) (h0 : 0 ≤ k) (hk : k ≤ 1048576) (hv : (if k - n < 0 then -1 else k - n) = v) (w : World) :
    Calls Try.prog 64 #[.slice ad n cap, .int .i64 k] w (Gives (.int .i64 v) w) := by
  have HV := Lib.hid hv
  unfold maxLen at hn
  have e1 : IntKind.i64.wrap (k - (n : Int)) = k - (n : Int) := IntWalk.i64_in _ ⟨by omega, by omega⟩
  clear hv
  by_cases hlt : k - (n : Int) < 0
  · have HE : Hid (v = -1) := by show _ = _; rw [← HV.out]; exact if_pos hlt
    go_enter Try.func64, Try.ntmps64
    go_wp2
    go_ret
    exact ⟨ret_i HE.out.symm, Below.refl _ _⟩
  · have HE : Hid (v = k - n) := by show _ = _; rw [← HV.out]; exact if_neg hlt
    have hge : 0 ≤ k - (n : Int) := by omega
    go_enter Try.func64, Try.ntmps64
    go_wp2
    go_ret
    exact ⟨ret_i HE.out.symm, Below.refl _ _⟩

end Go.Proofs.Ythplhjdfajhmpaa
