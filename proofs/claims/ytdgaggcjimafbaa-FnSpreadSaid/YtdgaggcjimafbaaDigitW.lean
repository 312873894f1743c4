/-
  impl's digits of a line number: a table of functions.
-/
import Derived.Test.YtdgaggcjimafbaaGeoI
import Derived.Laws.EntriesVeiled
namespace Go.Proofs.Ytdgaggcjimafbaa
open Go.RowKit

set_option linter.unusedVariables false

theorem below_drewN {B : Nat} {a w : World} (h : Below B a w) (n : Nat) : Below B a (w.drewN n) := ⟨h.os, h.tape, h.output, h.size, h.block⟩

theorem set_cells3_0 {w : World} {c : Nat} {v0 v1 v2 : Value} {t : TypeId} (h : w.heap[c]? = some (.cells #[v0, v1, v2] t (0, 0))) (u : Value) : (w.setCell ⟨c, 0, none⟩ u).heap[c]? = some (.cells #[u, v1, v2] t (0, 0)) := by
  have hlt := lt_of_block h
  have h' : w.heap[c] = .cells #[v0, v1, v2] t (0, 0) := by simpa [Array.getElem?_eq_getElem hlt] using h
  show (w.heap.modify c _)[c]? = _
  rw [Array.getElem?_eq_getElem (by simpa using hlt), Array.getElem_modify_self, h']
  rfl

theorem set_cells3_1 {w : World} {c : Nat} {v0 v1 v2 : Value} {t : TypeId} (h : w.heap[c]? = some (.cells #[v0, v1, v2] t (0, 0))) (u : Value) : (w.setCell ⟨c, 1, none⟩ u).heap[c]? = some (.cells #[v0, u, v2] t (0, 0)) := by
  have hlt := lt_of_block h
  have h' : w.heap[c] = .cells #[v0, v1, v2] t (0, 0) := by simpa [Array.getElem?_eq_getElem hlt] using h
  show (w.heap.modify c _)[c]? = _
  rw [Array.getElem?_eq_getElem (by simpa using hlt), Array.getElem_modify_self, h']
  rfl

theorem set_cells3_2 {w : World} {c : Nat} {v0 v1 v2 : Value} {t : TypeId} (h : w.heap[c]? = some (.cells #[v0, v1, v2] t (0, 0))) (u : Value) : (w.setCell ⟨c, 2, none⟩ u).heap[c]? = some (.cells #[v0, v1, u] t (0, 0)) := by
  have hlt := lt_of_block h
  have h' : w.heap[c] = .cells #[v0, v1, v2] t (0, 0) := by simpa [Array.getElem?_eq_getElem hlt] using h
  show (w.heap.modify c _)[c]? = _
  rw [Array.getElem?_eq_getElem (by simpa using hlt), Array.getElem_modify_self, h']
  rfl

theorem implMappingOk_is (o : Int) (h : Bool) (v : Bool) (hv : decide (0 ≤ o ∧ o ≤ 2) = v) (w : World) :
    Calls Try.prog 16 #[.agg #[.int .i64 o, .bool h]] w (Gives (.bool v) w) := by
  have HV := Lib.hid hv
  clear hv
  by_cases h0 : 0 ≤ o
  · by_cases h1 : o < 3
    · have HE : Hid (v = true) := by show _ = _; rw [← HV.out]; exact decide_eq_true ⟨h0, by omega⟩
      go_enter Try.func16, Try.ntmps16
      go_wp2
      go_ret
      refine ⟨ret_b HE.out.symm, ?_⟩
      repeat' (first | exact Below.refl _ _ | refine Below.drew ?_ | refine Below.alloc ?_ (by simp <;> omega) _)
    · have HE : Hid (v = false) := by show _ = _; rw [← HV.out]; exact decide_eq_false (by omega)
      go_enter Try.func16, Try.ntmps16
      go_wp2
      go_ret
      refine ⟨ret_b HE.out.symm, ?_⟩
      repeat' (first | exact Below.refl _ _ | refine Below.drew ?_ | refine Below.alloc ?_ (by simp <;> omega) _)
  · have HE : Hid (v = false) := by show _ = _; rw [← HV.out]; exact decide_eq_false (by omega)
    go_enter Try.func16, Try.ntmps16
    go_wp2
    go_ret
    refine ⟨ret_b HE.out.symm, ?_⟩
    repeat' (first | exact Below.refl _ _ | refine Below.drew ?_ | refine Below.alloc ?_ (by simp <;> omega) _)

theorem colDigit_is (a b r d : Int) (c : Nat) (w : World) :
    Calls Try.prog 48 #[.agg #[.int .i64 a, .int .i64 b, .int .i64 r, .int .i64 d], .pointer (some ⟨c, 0, none⟩)] w (Gives (.tuple #[.pointer (some ⟨c, 2, none⟩), .int .i64 d]) w) := by
  go_enter Try.func48, Try.ntmps48
  go_wp2
  go_quiet (fail)
  go_wp2
  go_ret2
  refine ⟨rfl, ?_⟩
  exact below_drewN ((Below.refl _ _).alloc (Nat.le_refl _) _) _

theorem rowDigit_is (a b r d : Int) (c : Nat) (w : World) :
    Calls Try.prog 50 #[.agg #[.int .i64 a, .int .i64 b, .int .i64 r, .int .i64 d], .pointer (some ⟨c, 0, none⟩)] w (Gives (.tuple #[.pointer (some ⟨c, 1, none⟩), .int .i64 r]) w) := by
  go_enter Try.func50, Try.ntmps50
  go_wp2
  go_quiet (fail)
  go_wp2
  go_ret2
  refine ⟨rfl, ?_⟩
  exact below_drewN ((Below.refl _ _).alloc (Nat.le_refl _) _) _

theorem bankDigit_is (a b r d n : Int) (hn : bankN a b r d = n) (c : Nat) (w : World) :
    Calls Try.prog 49 #[.agg #[.int .i64 a, .int .i64 b, .int .i64 r, .int .i64 d], .pointer (some ⟨c, 0, none⟩)] w (Gives (.tuple #[.pointer (some ⟨c, 0, none⟩), .int .i64 n]) w) := by
  have HN := Lib.hid hn
  clear hn
  obtain ⟨w1, hw1⟩ : ∃ w1, w.alloc (.cells #[.int .i64 a, .int .i64 b, .int .i64 r, .int .i64 d] 25) = w1 := ⟨_, rfl⟩
  have HB : Hid (Below w.heap.size w w1) := by subst hw1; exact (Below.refl _ _).alloc (Nat.le_refl _) _
  have hA : w1.heap[w.heap.size]? = some (.cells #[.int .i64 a, .int .i64 b, .int .i64 r, .int .i64 d] 25) := hw1 ▸ heap_alloc_new w _
  obtain ⟨a0, a1, a2, a3⟩ := cells4 hA
  have za0 := fun zz : Later w1 => zz.cell a0
  have za1 := fun zz : Later w1 => zz.cell a1
  have za2 := fun zz : Later w1 => zz.cell a2
  have za3 := fun zz : Later w1 => zz.cell a3
  clear hA a0 a1 a2 a3
  go_enter Try.func49, Try.ntmps49
  go_wp2_with fail
  refine wp_region_later (by kernel_rfl) (by kernel_rfl) ?_
  repeat (go_big_quiet_step (first | (go_at_call 42; exact Gives.later _ (implBank_is _ _ _ _ _ HN.out _))))
  refine wpQuiet_nil ?_
  rintro w2 ⟨zz, rfl⟩
  go_wp2
  go_ret2
  exact ⟨rfl, HB.out.trans (zz.ok.mono HB.out.size)⟩

/-- The functions of the digits. -/
def colV : Value := .func (.func 48) #[] #[]
def bankV : Value := .func (.func 49) #[] #[]
def rowV : Value := .func (.func 50) #[] #[]

theorem digitsOf_0 (w : World) :
    Calls Try.prog 38 #[.int .i64 0] w (Gives (.agg #[.func (.func 48) #[] #[], .func (.func 49) #[] #[], .func (.func 50) #[] #[]]) w) := by
  go_enter Try.func38, Try.ntmps38
  go_wp2
  refine bodyPost_ret (v := .agg #[.func (.func 48) #[] #[], .func (.func 49) #[] #[], .func (.func 50) #[] #[]]) ?_ rfl ⟨rfl, ?_⟩
  · rw [results_cell1 rfl]
    go_simp
  · repeat' (first | exact Below.refl _ _ | refine Below.drew ?_ | refine Below.alloc ?_ (by simp <;> omega) _)

theorem digitsOf_1 (w : World) :
    Calls Try.prog 38 #[.int .i64 1] w (Gives (.agg #[.func (.func 49) #[] #[], .func (.func 48) #[] #[], .func (.func 50) #[] #[]]) w) := by
  go_enter Try.func38, Try.ntmps38
  go_wp2
  refine bodyPost_ret (v := .agg #[.func (.func 49) #[] #[], .func (.func 48) #[] #[], .func (.func 50) #[] #[]]) ?_ rfl ⟨rfl, ?_⟩
  · rw [results_cell1 rfl]
    go_simp
  · repeat' (first | exact Below.refl _ _ | refine Below.drew ?_ | refine Below.alloc ?_ (by simp <;> omega) _)

theorem digitsOf_2 (w : World) :
    Calls Try.prog 38 #[.int .i64 2] w (Gives (.agg #[.func (.func 48) #[] #[], .func (.func 50) #[] #[], .func (.func 49) #[] #[]]) w) := by
  go_enter Try.func38, Try.ntmps38
  go_wp2
  refine bodyPost_ret (v := .agg #[.func (.func 48) #[] #[], .func (.func 50) #[] #[], .func (.func 49) #[] #[]]) ?_ rfl ⟨rfl, ?_⟩
  · rw [results_cell1 rfl]
    go_simp
  · repeat' (first | exact Below.refl _ _ | refine Below.drew ?_ | refine Below.alloc ?_ (by simp <;> omega) _)

theorem rotatedBank_is (a b r d n x y : Int) (hn : bankN a b r d = n) (hn1 : 1 ≤ n) (h0 : 0 ≤ x + y) (h1 : x + y ≤ 1000) (w : World) :
    Calls Try.prog 39 #[.agg #[.int .i64 a, .int .i64 b, .int .i64 r, .int .i64 d], .int .i64 x, .int .i64 y] w (Gives (.int .i64 ((x + y) % n)) w) := by
  have HN := Lib.hid hn
  clear hn
  have e1 : IntKind.i64.wrap (x + y) = x + y := IntWalk.i64_in _ ⟨by omega, by omega⟩
  have e2 : (x + y).tmod n = (x + y) % n := Int.tmod_eq_emod_of_nonneg h0
  have n0 : ¬ n = 0 := by omega
  obtain ⟨w1, hw1⟩ : ∃ w1, w.alloc (.cells #[.int .i64 a, .int .i64 b, .int .i64 r, .int .i64 d] 25) = w1 := ⟨_, rfl⟩
  have HB : Hid (Below w.heap.size w w1) := by subst hw1; exact (Below.refl _ _).alloc (Nat.le_refl _) _
  have hA : w1.heap[w.heap.size]? = some (.cells #[.int .i64 a, .int .i64 b, .int .i64 r, .int .i64 d] 25) := hw1 ▸ heap_alloc_new w _
  obtain ⟨a0, a1, a2, a3⟩ := cells4 hA
  clear hA
  go_enter Try.func39, Try.ntmps39
  go_wp2_with fail
  refine (implBank_is _ _ _ _ _ HN.out _).mono ?_
  rintro e w2 ⟨rfl, hb2⟩
  go_wp2
  go_ret
  refine ⟨rfl, ?_⟩
  exact HB.out.trans (hb2.mono HB.out.size)

end Go.Proofs.Ytdgaggcjimafbaa
