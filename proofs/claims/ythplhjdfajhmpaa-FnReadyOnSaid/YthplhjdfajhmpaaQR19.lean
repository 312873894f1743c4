/-
  Texts of one proof, merged: TimJ, RdyP, RdyR, RdyS.
-/
import Derived.Test.YthplhjdfajhmpaaQR9
import Derived.Test.YthplhjdfajhmpaaQR10
import Derived.Test.YthplhjdfajhmpaaQR17
import Derived.Test.YthplhjdfajhmpaaQR18
import Derived.Laws.CopyOwn
import Derived.Deep.WholeRow
import Derived.Laws.EntriesVeiled
import Derived.LoopN
namespace Go.Proofs.Ythplhjdfajhmpaa
open Go.RowKit

set_option linter.unusedVariables false

theorem implUses_is (k : Int) (v : Bool) (hv : decide (k < 6) = v) (w : World) : Calls Try.prog 84 #[.int .i64 k] w (Says (.bool v) w) := by
  have HV := Lib.hid hv
  clear hv
  go_enter Try.func84, Try.ntmps84
  go_wp2
  go_ret
  exact ⟨ret_b HV.out, rfl⟩

end Go.Proofs.Ythplhjdfajhmpaa

namespace Go.Proofs.Ythplhjdfajhmpaa
open Go.RowKit Go.PlainAid

set_option linter.unusedVariables false

/-- Is the time of this kind allowed? -/
def KindFit (bb : Bool) (xs : List Int) (j : Nat) : Prop := xs.getD j 0 = -1 ∨ ((decide (j + 1 < 6) == bb) = true ∧ 0 ≤ xs.getD j 0 ∧ xs.getD j 0 ≤ 1000000)

instance (bb : Bool) (xs : List Int) (j : Nat) : Decidable (KindFit bb xs j) := inferInstanceAs (Decidable (_ ∨ _))

def KindsFit (bb : Bool) (xs : List Int) : Prop := ∀ j, j < 9 → KindFit bb xs j

instance (bb : Bool) (xs : List Int) : Decidable (KindsFit bb xs) := inferInstanceAs (Decidable (∀ j, j < 9 → _))

theorem times_index (x0 x1 x2 x3 x4 x5 x6 x7 x8 : Int) (j : Nat) (hj : j < 9) (w : World) : (Instr.index 133 (.agg #[.int .i64 x0, .int .i64 x1, .int .i64 x2, .int .i64 x3, .int .i64 x4, .int .i64 x5, .int .i64 x6, .int .i64 x7, .int .i64 x8]) (.int .i64 (j : Int))).run Try.prog w = .ok (.int .i64 ([x0, x1, x2, x3, x4, x5, x6, x7, x8].getD j 0)) w :=
  match j, hj with
  | 0, _ => by kernel_rfl
  | 1, _ => by kernel_rfl
  | 2, _ => by kernel_rfl
  | 3, _ => by kernel_rfl
  | 4, _ => by kernel_rfl
  | 5, _ => by kernel_rfl
  | 6, _ => by kernel_rfl
  | 7, _ => by kernel_rfl
  | 8, _ => by kernel_rfl
  | n + 9, h => absurd h (by omega)

set_option maxHeartbeats 4000000 in
set_option maxRecDepth 100000 in
theorem implFit_is (x0 x1 x2 x3 x4 x5 x6 x7 x8 : Int) (bb : Bool) (v : Bool) (hv : decide (KindsFit bb [x0, x1, x2, x3, x4, x5, x6, x7, x8]) = v) (w : World) :
    Calls Try.prog 98 #[.agg #[.int .i64 x0, .int .i64 x1, .int .i64 x2, .int .i64 x3, .int .i64 x4, .int .i64 x5, .int .i64 x6, .int .i64 x7, .int .i64 x8], .bool bb] w (Gives (.bool v) w) := by
  have HV := Lib.hid hv
  have IX := Lib.hid (times_index x0 x1 x2 x3 x4 x5 x6 x7 x8)
  clear hv
  go_enter Try.func98, Try.ntmps98
  go_wp2_with fail
  obtain ⟨w1, hw1⟩ : ∃ u, w.alloc (.cells #[.int .i64 x0, .int .i64 x1, .int .i64 x2, .int .i64 x3, .int .i64 x4, .int .i64 x5, .int .i64 x6, .int .i64 x7, .int .i64 x8] 133) = u := ⟨_, rfl⟩
  have HB1 : Hid (Below w.heap.size w w1) := by subst hw1; exact (Below.refl _ _).alloc (Nat.le_refl _) _
  (try simp only [hw1])
  clear hw1
  go_loopw [9] (fun i wr => ∃ j : Nat, j ≤ 9 ∧ i = .int .i64 j ∧ wr = w1 ∧ ∀ m, m < j → KindFit bb [x0, x1, x2, x3, x4, x5, x6, x7, x8] m) (fun i _ => 10 - (intOf i).toNat)
  case atStart => exact ⟨0, by omega, rfl, rfl, fun m hm => absurd hm (Nat.not_lt_zero _)⟩
  case round =>
    obtain ⟨j, hj, rfl, rfl, hno⟩ := hrel
    have HNO := Lib.hid hno
    clear hno
    by_cases hlt : j < 9
    case neg =>
      obtain rfl : j = 9 := by omega
      (try rw [show ((9 : Nat) : Int) = 9 from rfl])
      have HE : Hid (true = v) := by show _ = _; rw [← HV.out]; exact (decide_eq_true (fun m hm => HNO.out m hm)).symm
      go_wp2_with fail
      go_ret
      exact ⟨ret_b HE.out, HB1.out⟩
    have hI : decide ((j : Int) < 9) = true := decide_eq_true (by omega)
    have hI' : (j : Int) < 9 := by omega
    have ix := IX.out j hlt
    obtain ⟨x, hx⟩ : ∃ x, [x0, x1, x2, x3, x4, x5, x6, x7, x8].getD j 0 = x := ⟨_, rfl⟩
    rw [hx] at ix
    have HX := Lib.hid hx
    have wj : IntKind.i64.wrap ((j : Int) + 1) = (j : Int) + 1 := IntWalk.i64_in _ (by omega)
    obtain ⟨uv, huv⟩ : ∃ uv, decide ((j : Int) + 1 < 6) = uv := ⟨_, rfl⟩
    have HUV := Lib.hid huv
    have HF : Hid (KindFit bb [x0, x1, x2, x3, x4, x5, x6, x7, x8] j ↔ (x = -1 ∨ ((uv == bb) = true ∧ 0 ≤ x ∧ x ≤ 1000000))) := by
      show _ ↔ _
      unfold KindFit
      rw [hx, ← huv, show decide (j + 1 < 6) = decide ((j : Int) + 1 < 6) from decide_eq_decide.2 (by omega)]
    have BAD : Hid (¬ KindFit bb [x0, x1, x2, x3, x4, x5, x6, x7, x8] j → false = v) := fun h => by rw [← HV.out]; exact (decide_eq_false (fun hh => h (hh j hlt))).symm
    have GOOD : Hid (KindFit bb [x0, x1, x2, x3, x4, x5, x6, x7, x8] j → ∀ m, m < j + 1 → KindFit bb [x0, x1, x2, x3, x4, x5, x6, x7, x8] m) := fun h m hm => by
      rcases Nat.lt_succ_iff_lt_or_eq.1 hm with h1 | h1
      · exact HNO.out m h1
      · subst h1; exact h
    clear hx huv
    by_cases h1 : x = -1
    case pos =>
      subst h1
      have HG := Lib.hid (GOOD.out (HF.out.2 (.inl rfl)))
      clear HF BAD GOOD
      go_wp2_with fail
      refine (implUses_is _ _ HUV.out _).mono ?_
      rintro e w2 ⟨rfl, rfl⟩
      go_wp2_with fail
      go_roundw
      case rel => exact ⟨j + 1, by omega, by go_num, by trivial, HG.out⟩
      case measure => simp [intOf]; omega
    have t1 : (x != -1) = true := by simp [h1]
    by_cases hG : (uv == bb) = true ∧ 0 ≤ x ∧ x ≤ 1000000
    case pos =>
      have HG := Lib.hid (GOOD.out (HF.out.2 (.inr hG)))
      have t2 : decide (x < 0) = false := decide_eq_false (by omega)
      have t3 : decide (1000000 < x) = false := decide_eq_false (by omega)
      have t4 : (uv == bb) = true := hG.1
      clear HF BAD GOOD hG h1
      go_wp2_with fail
      refine (implUses_is _ _ HUV.out _).mono ?_
      rintro e w2 ⟨rfl, rfl⟩
      go_wp2_with fail
      go_roundw
      case rel => exact ⟨j + 1, by omega, by go_num, by trivial, HG.out⟩
      case measure => simp [intOf]; omega
    have HE := Lib.hid (BAD.out (fun h => by rcases HF.out.1 h with h2 | h2; exact h1 h2; exact hG h2))
    clear HF BAD GOOD
    by_cases hu : (uv == bb) = true
    case neg =>
      have t4 : (uv == bb) = false := by simpa using hu
      clear hu hG h1
      go_wp2_with fail
      refine (implUses_is _ _ HUV.out _).mono ?_
      rintro e w2 ⟨rfl, rfl⟩
      go_wp2_with fail
      go_ret
      exact ⟨ret_b HE.out, HB1.out⟩
    by_cases h0 : x < 0
    case pos =>
      have t2 : decide (x < 0) = true := decide_eq_true h0
      clear hG h1 h0
      go_wp2_with fail
      refine (implUses_is _ _ HUV.out _).mono ?_
      rintro e w2 ⟨rfl, rfl⟩
      go_wp2_with fail
      go_ret
      exact ⟨ret_b HE.out, HB1.out⟩
    have t2 : decide (x < 0) = false := decide_eq_false h0
    have t3 : decide (1000000 < x) = true := decide_eq_true (by have : ¬ (0 ≤ x ∧ x ≤ 1000000) := fun h => hG ⟨hu, h⟩; omega)
    clear hG h1 h0
    go_wp2_with fail
    refine (implUses_is _ _ HUV.out _).mono ?_
    rintro e w2 ⟨rfl, rfl⟩
    go_wp2_with fail
    go_ret
    exact ⟨ret_b HE.out, HB1.out⟩

end Go.Proofs.Ythplhjdfajhmpaa

namespace Go.Proofs.Ythplhjdfajhmpaa
open Go.RowKit Go.PlainAid

set_option linter.unusedVariables false

theorem lastOk_is {N : Nat} {la : List Int} (hl : la.length = 9 * (N + 1)) : LastOk N la ↔ ∀ b, b < N + 1 → KindsFit (decide (b < N)) (blkL la b) := by
  have key : ∀ b j, j < 9 → (blkL la b).getD j 0 = la.getD (9 * b + j) 0 := fun b j hj => by
    match j, hj with
    | 0, _ => rfl
    | 1, _ => rfl
    | 2, _ => rfl
    | 3, _ => rfl
    | 4, _ => rfl
    | 5, _ => rfl
    | 6, _ => rfl
    | 7, _ => rfl
    | 8, _ => rfl
    | n + 9, h => exact absurd h (by omega)
  have us : ∀ b j, j < 9 → usedI N (9 * b + j) = (decide (j + 1 < 6) == decide (b < N)) := fun b j hj => by
    unfold usedI
    rw [show (9 * b + j) % 9 = j by omega, show (9 * b + j) / 9 = b by omega, show decide (j + 1 ≤ 5) = decide (j + 1 < 6) from decide_eq_decide.2 (by omega)]
  constructor
  · intro h b hb j hj
    have := h (9 * b + j) (by omega)
    unfold KindFit
    rw [key b j hj, ← us b j hj]
    rcases this with ⟨⟨h1, h2⟩, h3⟩
    by_cases h4 : la.getD (9 * b + j) 0 = -1
    · exact .inl h4
    · rcases h3 with h3 | h3
      · exact .inr ⟨h3, by omega, h2⟩
      · exact absurd h3 h4
  · intro h i hi
    have hd : i = 9 * (i / 9) + i % 9 := by omega
    have hj : i % 9 < 9 := by omega
    have := h (i / 9) (by omega) (i % 9) hj
    unfold KindFit at this
    rw [key _ _ hj, ← us _ _ hj, ← hd] at this
    rcases this with h1 | ⟨h1, h2, h3⟩
    · rw [h1]; exact ⟨by decide, .inr rfl⟩
    · exact ⟨⟨by omega, h3⟩, .inl h1⟩

set_option maxHeartbeats 2000000 in
theorem implBlocks_is (g0 B g2 g3 : Int) (N : Nat) (hN : bankN g0 B g2 g3 = (N : Int)) (w : World) :
    Calls Try.prog 82 #[.agg #[.int .i64 g0, .int .i64 B, .int .i64 g2, .int .i64 g3]] w (Gives (.int .i64 ((N + 1 : Nat) : Int)) w) := by
  obtain ⟨w1, hw1⟩ : ∃ u, w.alloc (.cells #[.int .i64 g0, .int .i64 B, .int .i64 g2, .int .i64 g3] 25) = u := ⟨_, rfl⟩
  have HB1 : Hid (Below w.heap.size w w1) := by subst hw1; exact (Below.refl _ _).alloc (Nat.le_refl _) _
  have g1 : w1.heap[w.heap.size]? = some (.cells #[.int .i64 g0, .int .i64 B, .int .i64 g2, .int .i64 g3] 25) := by subst hw1; exact heap_alloc_new _ _
  obtain ⟨c0, c1, c2, c3⟩ := cells4 g1
  have hr := bankN_range g0 B g2 g3
  have HN := Lib.hid hN
  have wn : IntKind.i64.wrap ((N : Int) + 1) = (N : Int) + 1 := IntWalk.i64_in _ (by omega)
  clear hr hN
  go_enter Try.func82, Try.ntmps82
  go_wp2_with fail
  refine (implBank_is _ _ _ _ _ HN.out _).mono ?_
  rintro e w2 ⟨rfl, hb2⟩
  have HB2 : Hid (Below w.heap.size w w2) := HB1.out.trans (hb2.mono HB1.out.size)
  clear hb2
  go_wp2_with fail
  go_ret
  exact ⟨rfl, HB2.out⟩

set_option maxHeartbeats 2000000 in
theorem implLastLen_is (g0 B g2 g3 : Int) (N : Nat) (hN : bankN g0 B g2 g3 = (N : Int)) (w : World) :
    Calls Try.prog 43 #[.agg #[.int .i64 g0, .int .i64 B, .int .i64 g2, .int .i64 g3]] w (Gives (.int .i64 ((9 * (N + 1) : Nat) : Int)) w) := by
  obtain ⟨w1, hw1⟩ : ∃ u, w.alloc (.cells #[.int .i64 g0, .int .i64 B, .int .i64 g2, .int .i64 g3] 25) = u := ⟨_, rfl⟩
  have HB1 : Hid (Below w.heap.size w w1) := by subst hw1; exact (Below.refl _ _).alloc (Nat.le_refl _) _
  have g1 : w1.heap[w.heap.size]? = some (.cells #[.int .i64 g0, .int .i64 B, .int .i64 g2, .int .i64 g3] 25) := by subst hw1; exact heap_alloc_new _ _
  obtain ⟨c0, c1, c2, c3⟩ := cells4 g1
  have hr := bankN_range g0 B g2 g3
  have HN := Lib.hid hN
  obtain ⟨M, hM⟩ : ∃ M, N + 1 = M := ⟨_, rfl⟩
  have HC : Hid (∀ u, Calls Try.prog 82 #[.agg #[.int .i64 g0, .int .i64 B, .int .i64 g2, .int .i64 g3]] u (Gives (.int .i64 (M : Int)) u)) := fun u => by rw [← hM]; exact implBlocks_is _ _ _ _ N HN.out u
  have wn : IntKind.i64.wrap (9 * (M : Int)) = ((9 * M : Nat) : Int) := by rw [IntWalk.i64_in _ (by omega)]; omega
  rw [hM]
  clear hr hN hM
  go_enter Try.func43, Try.ntmps43
  go_wp2_with fail
  refine (HC.out _).mono ?_
  rintro e w2 ⟨rfl, hb2⟩
  have HB2 : Hid (Below w.heap.size w w2) := HB1.out.trans (hb2.mono HB1.out.size)
  clear hb2
  go_wp2_with fail
  go_ret
  exact ⟨by first | rfl | (rw [wn]; rfl) | simp, HB2.out⟩

set_option maxHeartbeats 8000000 in
set_option maxRecDepth 100000 in
theorem implLastFits_is (g0 B g2 g3 : Int) (N : Nat) (hN : bankN g0 B g2 g3 = (N : Int)) (a1 : Option Addr) (n1 c1 : Nat) (la : List Int) (a2 : Option Addr) (n2 c2 : Nat) (v : Bool) (hv : decide (∀ b, b < N + 1 → KindsFit (decide (b < N)) (blkL la b)) = v) (hl : la.length = n1) (hn : n1 = 9 * (N + 1)) (hc1 : n1 ≤ c1) (w : World) (hr1 : RowI w a1 la) :
    Calls Try.prog 67 #[.agg #[.slice a1 n1 c1, .slice a2 n2 c2], .agg #[.int .i64 g0, .int .i64 B, .int .i64 g2, .int .i64 g3]] w (Gives (.bool v) w) := by
  obtain ⟨w1, hw1⟩ : ∃ u, (w.alloc (.cells #[.slice a1 n1 c1, .slice a2 n2 c2] 33)).alloc (.cells #[.int .i64 g0, .int .i64 B, .int .i64 g2, .int .i64 g3] 25) = u := ⟨_, rfl⟩
  have HB1 : Hid (Below w.heap.size w w1) := by subst hw1; exact ((Below.refl _ _).alloc (Nat.le_refl _) _).alloc (by simp) _
  have p1 : w1.heap[w.heap.size]? = some (.cells #[.slice a1 n1 c1, .slice a2 n2 c2] 33) := by subst hw1; exact heap_alloc2_old _ _ _
  have g1 : w1.heap[w.heap.size + 1]? = some (.cells #[.int .i64 g0, .int .i64 B, .int .i64 g2, .int .i64 g3] 25) := by subst hw1; exact heap_alloc2_new _ _ _
  have HR := Lib.hid (hr1.below HB1.out)
  have hrg := bankN_range g0 B g2 g3
  have hN8 : N ≤ 8 := by omega
  have HN := Lib.hid hN
  have HV := Lib.hid hv
  have HL := Lib.hid hl
  obtain ⟨c0, c1', c2', c3⟩ := cells4 g1
  obtain ⟨M, hM⟩ : ∃ M, N + 1 = M := ⟨_, rfl⟩
  have HC : Hid (∀ u, Calls Try.prog 82 #[.agg #[.int .i64 g0, .int .i64 B, .int .i64 g2, .int .i64 g3]] u (Gives (.int .i64 (M : Int)) u)) := fun u => by rw [← hM]; exact implBlocks_is _ _ _ _ N HN.out u
  have hn9 : 9 * M ≤ n1 := by omega
  have hn3 : n1 ≤ 3000000 := by omega
  have HM := Lib.hid hM
  clear hrg hN hv hl hr1 hn hM
  go_enter Try.func67, Try.ntmps67
  go_wp2_with fail
  refine (HC.out _).mono ?_
  rintro e w2 ⟨rfl, hb2⟩
  have p2 := keep_block hb2 p1 (lt_of_block p1)
  have g2' := keep_block hb2 g1 (lt_of_block g1)
  have HB2 : Hid (Below w.heap.size w w2) := HB1.out.trans (hb2.mono HB1.out.size)
  have HR2 := Lib.hid (HR.out.below hb2)
  clear hb2 c0 c1' c2' c3 p1 g1 HB1 HR hw1
  go_wp2_with fail
  go_loopw [8] (fun i wr => ∃ b : Nat, b ≤ M ∧ i = .int .i64 b ∧ Below w2.heap.size w2 wr ∧ ∀ m, m < b → KindsFit (decide (m < N)) (blkL la m)) (fun i _ => M - (intOf i).toNat)
  case atStart => exact ⟨0, by omega, rfl, Below.refl _ _, fun m hm => absurd hm (Nat.not_lt_zero _)⟩
  case round =>
    obtain ⟨b, hbM, rfl, hbr, hno⟩ := hrel
    have HNO := Lib.hid hno
    have HBW : Hid (Below w.heap.size w wr) := HB2.out.trans (hbr.mono HB2.out.size)
    have HBR := Lib.hid hbr
    have pr := keep_block hbr p2 (lt_of_block p2)
    have gr := keep_block hbr g2' (lt_of_block g2')
    have HRR := Lib.hid (HR2.out.below hbr)
    clear hno hbr
    by_cases hlt : b < M
    case neg =>
      obtain rfl : b = M := by omega
      have HE : Hid (true = v) := by show _ = _; rw [← HV.out]; exact (decide_eq_true (fun m hm => HNO.out m (by have := HM.out; omega))).symm
      clear HNO
      go_wp2_with fail
      go_ret
      exact ⟨ret_b HE.out, HBW.out⟩
    have hb9 : 9 * b + 9 ≤ n1 := by omega
    obtain ⟨bb, hbb⟩ : ∃ bb, decide ((b : Int) < (N : Int)) = bb := ⟨_, rfl⟩
    have hbb' : decide (b < N) = bb := by rw [← hbb]; exact decide_eq_decide.2 (by omega)
    obtain ⟨x0, x1, x2, x3, x4, x5, x6, x7, x8, hx⟩ : ∃ x0 x1 x2 x3 x4 x5 x6 x7 x8, blkL la b = [x0, x1, x2, x3, x4, x5, x6, x7, x8] := ⟨_, _, _, _, _, _, _, _, _, rfl⟩
    have HX := Lib.hid hx
    obtain ⟨fv, hfv⟩ : ∃ fv, decide (KindsFit bb (blkL la b)) = fv := ⟨_, rfl⟩
    have HFV : Hid (decide (KindsFit bb [x0, x1, x2, x3, x4, x5, x6, x7, x8]) = fv) := by show _ = _; rw [← hx]; exact hfv
    clear hx
    have BAD : Hid (fv = false → false = v) := fun h => by rw [← HV.out]; exact (decide_eq_false (fun hh => of_decide_eq_false (hfv.trans h) (hbb' ▸ hh b (by have := HM.out; omega)))).symm
    have GOOD : Hid (fv = true → ∀ m, m < b + 1 → KindsFit (decide (m < N)) (blkL la m)) := fun h m hm => by
      rcases Nat.lt_succ_iff_lt_or_eq.1 hm with h1 | h1
      · exact HNO.out m h1
      · subst h1; rw [hbb']; exact of_decide_eq_true (hfv.trans h)
    obtain ⟨d0, d1⟩ := cells2 pr
    obtain ⟨c0, c1', c2', c3⟩ := cells4 gr
    have zd0 := fun q : Later wr => q.cell d0
    have zd1 := fun q : Later wr => q.cell d1
    have zc0 := fun q : Later wr => q.cell c0
    have zc1 := fun q : Later wr => q.cell c1'
    have zc2 := fun q : Later wr => q.cell c2'
    have zc3 := fun q : Later wr => q.cell c3
    clear hfv d0 d1 c0 c1' c2' c3
    have hno : decide ((b : Int) < (M : Int)) = true := decide_eq_true (by omega)
    go_wp2_with fail
    refine wp_region_later (by kernel_rfl) (by kernel_rfl) ?_
    repeat (go_big_quiet_step (first | (go_at_call 97; exact Gives.later _ (implTimesOf_at _ n1 _ la _ _ _ b hb9 HL.out hn3 hc1 x0 x1 x2 x3 x4 x5 x6 x7 x8 HX.out _ (HRR.out.below (Later.ok _)))) | (go_at_call 83; exact Gives.later _ (implBank_is _ _ _ _ _ HN.out _)) | (go_at_call 98; exact Gives.later _ (implFit_is x0 x1 x2 x3 x4 x5 x6 x7 x8 bb fv HFV.out _))))
    refine wpQuiet_nil ?_
    rintro wz ⟨zz, hzz⟩
    have hbz : Below wr.heap.size wr wz := hzz ▸ zz.ok
    have HBZ : Hid (Below w2.heap.size w2 wz) := HBR.out.trans (hbz.mono HBR.out.size)
    have HBY : Hid (Below w.heap.size w wz) := HBW.out.trans (hbz.mono HBW.out.size)
    clear hzz zz hbz zd0 zd1 zc0 zc1 zc2 zc3
    cases fv
    case false =>
      have HE := Lib.hid (BAD.out rfl)
      go_wp2_with fail
      go_ret
      exact ⟨ret_b HE.out, HBY.out⟩
    case true =>
      have HG := Lib.hid (GOOD.out rfl)
      have wb : IntKind.i64.wrap ((b : Int) + 1) = (b : Int) + 1 := IntWalk.i64_in _ (by omega)
      clear BAD GOOD
      go_wp2_with fail
      go_roundw
      case rel => exact ⟨b + 1, by omega, by go_num, HBZ.out, HG.out⟩
      case measure => simp [intOf]; omega

set_option maxHeartbeats 8000000 in
set_option maxRecDepth 100000 in
theorem implActsFit_is (a : Option Addr) (n c : Nat) (ac : List Int) (v : Bool) (hv : decide (ac.length ≤ 4 ∧ ActsOk ac) = v) (hl : ac.length = n) (h1 : n ≤ 3000000) (w : World) (hr : RowI w a ac) :
    Calls Try.prog 68 #[.slice a n c] w (Gives (.bool v) w) := by
  have HR := Lib.hid hr
  have HV := Lib.hid hv
  have HL := Lib.hid hl
  clear hv hl hr
  go_enter Try.func68, Try.ntmps68
  go_wp2_with fail
  go_loopw [7] (fun i wr => ∃ k : Nat, k ≤ n ∧ i = .int .i64 k ∧ wr = w ∧ ∀ m, m < k → ((0 ≤ ac.getD m 0 ∧ ac.getD m 0 ≤ 1000000) ∧ (0 < m → ac.getD (m - 1) 0 < ac.getD m 0))) (fun i _ => n - (intOf i).toNat)
  case atStart => exact ⟨0, by omega, rfl, rfl, fun m hm => absurd hm (Nat.not_lt_zero _)⟩
  case round =>
    obtain ⟨k, hk, rfl, rfl, hno⟩ := hrel
    have HNO := Lib.hid hno
    clear hno
    by_cases hlt : k < n
    case neg =>
      obtain rfl : k = n := by omega
      have HA : Hid (ActsOk ac) := fun i hi => HNO.out i (by have := HL.out; omega)
      have HE : Hid (decide ((k : Int) ≤ 4) = v) := by show _ = _; rw [← HV.out]; exact decide_eq_decide.2 ⟨fun h => ⟨by have := HL.out; omega, HA.out⟩, fun h => by have := HL.out; have := h.1; omega⟩
      have HE2 : Hid (decide (k ≤ 4) = v) := by show _ = _; rw [← HE.out]; exact decide_eq_decide.2 (by omega)
      clear HNO
      go_wp2_with fail
      go_ret
      exact ⟨by first | exact ret_b HE.out | exact ret_b HE2.out, Below.refl _ _⟩
    have hno : decide ((k : Int) < (n : Int)) = true := decide_eq_true (by omega)
    obtain ⟨b, off, rfl, hcell⟩ := HR.out.at (k := k) (by rw [HL.out]; exact hlt)
    obtain ⟨x, hx⟩ : ∃ x, ac.getD k 0 = x := ⟨_, rfl⟩
    rw [hx] at hcell
    have BAD : Hid (¬ ((0 ≤ x ∧ x ≤ 1000000) ∧ (0 < k → ac.getD (k - 1) 0 < x)) → false = v) := fun h => by rw [← HV.out]; exact (decide_eq_false (fun hh => h (hx ▸ hh.2 k (by rw [HL.out]; exact hlt)))).symm
    have GOOD : Hid (((0 ≤ x ∧ x ≤ 1000000) ∧ (0 < k → ac.getD (k - 1) 0 < x)) → ∀ m, m < k + 1 → ((0 ≤ ac.getD m 0 ∧ ac.getD m 0 ≤ 1000000) ∧ (0 < m → ac.getD (m - 1) 0 < ac.getD m 0))) := fun h m hm => by
      rcases Nat.lt_succ_iff_lt_or_eq.1 hm with h1 | h1
      · exact HNO.out m h1
      · subst h1; rw [hx]; exact h
    have wk : IntKind.i64.wrap ((k : Int) + 1) = (k : Int) + 1 := IntWalk.i64_in _ (by omega)
    by_cases h0 : x < 0
    case pos =>
      have t0 : decide (x < 0) = true := decide_eq_true h0
      have HE := Lib.hid (BAD.out (fun h => by omega))
      clear BAD GOOD hx h0
      go_wp2_with fail
      go_ret
      exact ⟨ret_b HE.out, Below.refl _ _⟩
    have t0 : decide (x < 0) = false := decide_eq_false h0
    by_cases h2 : 1000000 < x
    case pos =>
      have t2 : decide (1000000 < x) = true := decide_eq_true h2
      have HE := Lib.hid (BAD.out (fun h => by omega))
      clear BAD GOOD hx h0 h2
      go_wp2_with fail
      go_ret
      exact ⟨ret_b HE.out, Below.refl _ _⟩
    have t2 : decide (1000000 < x) = false := decide_eq_false h2
    by_cases hk0 : k = 0
    case pos =>
      have t3 : decide ((0 : Int) < (k : Int)) = false := decide_eq_false (by omega)
      have t3' : decide (0 < k) = false := decide_eq_false (by omega)
      have HG := Lib.hid (GOOD.out ⟨⟨by omega, by omega⟩, fun h => by omega⟩)
      clear BAD GOOD hx h0 h2 hk0
      go_wp2_with fail
      go_roundw
      case rel => exact ⟨k + 1, by omega, by go_num, by trivial, HG.out⟩
      case measure => simp [intOf]; omega
    have t3 : decide ((0 : Int) < (k : Int)) = true := decide_eq_true (by omega)
    have t3' : decide (0 < k) = true := decide_eq_true (by omega)
    have wk1 : IntKind.i64.wrap ((k : Int) - 1) = ((k - 1 : Nat) : Int) := by rw [IntWalk.i64_in _ (by omega)]; omega
    have hk1 : k - 1 < n := by omega
    obtain ⟨b', off', hbb, hcell'⟩ := HR.out.at (k := k - 1) (by rw [HL.out]; exact hk1)
    cases hbb
    obtain ⟨y, hy⟩ : ∃ y, ac.getD (k - 1) 0 = y := ⟨_, rfl⟩
    rw [hy] at hcell' BAD GOOD
    by_cases h3 : x ≤ y
    case pos =>
      have t4 : decide (x ≤ y) = true := decide_eq_true h3
      have HE := Lib.hid (BAD.out (fun h => by have := h.2 (by omega); omega))
      clear BAD GOOD hx hy h0 h2 h3
      go_wp2_with fail
      go_ret
      exact ⟨ret_b HE.out, Below.refl _ _⟩
    have t4 : decide (x ≤ y) = false := decide_eq_false h3
    have HG := Lib.hid (GOOD.out ⟨⟨by omega, by omega⟩, fun h => by omega⟩)
    clear BAD GOOD hx hy h0 h2 h3
    go_wp2_with fail
    go_roundw
    case rel => exact ⟨k + 1, by omega, by go_num, by trivial, HG.out⟩
    case measure => simp [intOf]; omega

end Go.Proofs.Ythplhjdfajhmpaa

namespace Go.Proofs.Ythplhjdfajhmpaa
open Go.RowKit Go.PlainAid

set_option linter.unusedVariables false

set_option maxHeartbeats 8000000 in
set_option maxRecDepth 100000 in
theorem implReadyOk_is (g0 B g2 g3 : Int) (N : Nat) (hN : bankN g0 B g2 g3 = (N : Int)) (a1 : Option Addr) (n1 c1 : Nat) (la : List Int) (a2 : Option Addr) (n2 c2 : Nat) (ac : List Int) (v : Bool) (hv : decide (RdOk g0 B g2 g3 N la ac) = v) (hl1 : la.length = n1) (h1 : n1 ≤ 3000000) (hl2 : ac.length = n2) (h2 : n2 ≤ 3000000) (hc1 : n1 ≤ c1) (w : World) (hr1 : RowI w a1 la) (hr2 : RowI w a2 ac) :
    Calls Try.prog 31 #[.agg #[.int .i64 g0, .int .i64 B, .int .i64 g2, .int .i64 g3], .agg #[.slice a1 n1 c1, .slice a2 n2 c2]] w (Gives (.bool v) w) := by
  obtain ⟨w1, hw1⟩ : ∃ u, (w.alloc (.cells #[.int .i64 g0, .int .i64 B, .int .i64 g2, .int .i64 g3] 25)).alloc (.cells #[.slice a1 n1 c1, .slice a2 n2 c2] 33) = u := ⟨_, rfl⟩
  have HB1 : Hid (Below w.heap.size w w1) := by subst hw1; exact ((Below.refl _ _).alloc (Nat.le_refl _) _).alloc (by simp) _
  have g1 : w1.heap[w.heap.size]? = some (.cells #[.int .i64 g0, .int .i64 B, .int .i64 g2, .int .i64 g3] 25) := by subst hw1; exact heap_alloc2_old _ _ _
  have p1 : w1.heap[w.heap.size + 1]? = some (.cells #[.slice a1 n1 c1, .slice a2 n2 c2] 33) := by subst hw1; exact heap_alloc2_new _ _ _
  have HR1 := Lib.hid (hr1.below HB1.out)
  have HR2 := Lib.hid (hr2.below HB1.out)
  have hrg := bankN_range g0 B g2 g3
  have hN8 : N ≤ 8 := by omega
  have HN := Lib.hid hN
  have HV := Lib.hid hv
  have HL1 := Lib.hid hl1
  have HL2 := Lib.hid hl2
  obtain ⟨M, hM⟩ : ∃ M, 9 * (N + 1) = M := ⟨_, rfl⟩
  have HM := Lib.hid hM
  have HLL : Hid (∀ u, Calls Try.prog 43 #[.agg #[.int .i64 g0, .int .i64 B, .int .i64 g2, .int .i64 g3]] u (Gives (.int .i64 (M : Int)) u)) := fun u => by rw [← hM]; exact implLastLen_is _ _ _ _ N HN.out u
  obtain ⟨c0, c1', c2', c3⟩ := cells4 g1
  obtain ⟨d0, d1⟩ := cells2 p1
  have z0 := fun q : Later w1 => q.cell c0
  have z1 := fun q : Later w1 => q.cell c1'
  have z2 := fun q : Later w1 => q.cell c2'
  have z3 := fun q : Later w1 => q.cell c3
  have y0 := fun q : Later w1 => q.cell d0
  have y1 := fun q : Later w1 => q.cell d1
  clear hr1 hr2 hv hN hrg c0 c1' c2' c3 d0 d1 hM hl1 hl2
  by_cases hg : GeoOk g0 B g2 g3
  case neg =>
    have HE : Hid (false = v) := by show _ = _; rw [← HV.out]; exact (decide_eq_false (fun h => hg h.1)).symm
    have K := Lib.hid (decide_eq_false hg)
    clear hg
    go_enter Try.func31, Try.ntmps31
    go_wp2_with fail
    refine wp_region_later (by kernel_rfl) (by kernel_rfl) ?_
    repeat (go_big_quiet_step (first | (go_at_call 41; exact Gives.later _ (implGeoOk_is _ _ _ _ _ K.out _))))
    refine wpQuiet_nil ?_
    rintro w2 ⟨zz, hz⟩
    have HB2 : Hid (Below w.heap.size w w2) := HB1.out.trans ((hz ▸ zz.ok : Below w1.heap.size w1 w2).mono HB1.out.size)
    go_wp2
    go_ret
    exact ⟨ret_b HE.out, HB2.out⟩
  have K := Lib.hid (decide_eq_true hg)
  by_cases hnm : n1 = M
  case neg =>
    have HE : Hid (false = v) := by show _ = _; rw [← HV.out]; exact (decide_eq_false (fun h => hnm (by have := h.2.1; have := HL1.out; have := HM.out; omega))).symm
    have t1 : ((n1 : Int) == (M : Int)) = false := by rw [beq_eq_false_iff_ne]; omega
    have t1' : (n1 == M) = false := by rw [beq_eq_false_iff_ne]; exact hnm
    clear hg hnm
    go_enter Try.func31, Try.ntmps31
    go_wp2_with fail
    refine wp_region_later (by kernel_rfl) (by kernel_rfl) ?_
    repeat (go_big_quiet_step (first | (go_at_call 41; exact Gives.later _ (implGeoOk_is _ _ _ _ _ K.out _)) | (go_at_call 43; exact Gives.later _ (HLL.out _))))
    refine wpQuiet_nil ?_
    rintro w2 ⟨zz, hz⟩
    have HB2 : Hid (Below w.heap.size w w2) := HB1.out.trans ((hz ▸ zz.ok : Below w1.heap.size w1 w2).mono HB1.out.size)
    go_wp2
    go_ret
    exact ⟨ret_b HE.out, HB2.out⟩
  have t1 : ((n1 : Int) == (M : Int)) = true := by rw [hnm]; exact beq_self_eq_true _
  have t1' : (n1 == M) = true := by rw [hnm]; exact beq_self_eq_true _
  have HN9 : Hid (n1 = 9 * (N + 1)) := by show _ = _; rw [hnm]; exact HM.out.symm
  have HG := Lib.hid hg
  clear hg hnm
  obtain ⟨lv, hlv⟩ : ∃ lv, decide (∀ b, b < N + 1 → KindsFit (decide (b < N)) (blkL la b)) = lv := ⟨_, rfl⟩
  have HLV := Lib.hid hlv
  have HLK : Hid (decide (LastOk N la) = lv) := by show _ = _; rw [← hlv]; exact decide_eq_decide.2 (lastOk_is (by rw [HL1.out]; exact HN9.out))
  clear hlv
  cases lv
  case false =>
    have HE : Hid (false = v) := by show _ = _; rw [← HV.out]; exact (decide_eq_false (fun h => of_decide_eq_false HLK.out h.2.2.2.1)).symm
    go_enter Try.func31, Try.ntmps31
    go_wp2_with fail
    refine wp_region_later (by kernel_rfl) (by kernel_rfl) ?_
    repeat (go_big_quiet_step (first | (go_at_call 41; exact Gives.later _ (implGeoOk_is _ _ _ _ _ K.out _)) | (go_at_call 43; exact Gives.later _ (HLL.out _)) | (go_at_call 67; exact Gives.later _ (implLastFits_is _ _ _ _ N HN.out a1 n1 _ la _ _ _ false HLV.out HL1.out HN9.out hc1 _ (HR1.out.below (Later.ok _))))))
    refine wpQuiet_nil ?_
    rintro w2 ⟨zz, hz⟩
    have HB2 : Hid (Below w.heap.size w w2) := HB1.out.trans ((hz ▸ zz.ok : Below w1.heap.size w1 w2).mono HB1.out.size)
    go_wp2
    go_ret
    exact ⟨ret_b HE.out, HB2.out⟩
  obtain ⟨av, hav⟩ : ∃ av, decide (ac.length ≤ 4 ∧ ActsOk ac) = av := ⟨_, rfl⟩
  have HAV := Lib.hid hav
  have HE : Hid (av = v) := by
    show _ = _
    rw [← HV.out, ← hav]
    exact decide_eq_decide.2 ⟨fun h => ⟨HG.out, by rw [HL1.out]; exact HN9.out, h.1, of_decide_eq_true HLK.out, h.2⟩, fun h => ⟨h.2.2.1, h.2.2.2.2⟩⟩
  clear hav
  go_enter Try.func31, Try.ntmps31
  go_wp2_with fail
  refine wp_region_later (by kernel_rfl) (by kernel_rfl) ?_
  repeat (go_big_quiet_step (first | (go_at_call 41; exact Gives.later _ (implGeoOk_is _ _ _ _ _ K.out _)) | (go_at_call 43; exact Gives.later _ (HLL.out _)) | (go_at_call 67; exact Gives.later _ (implLastFits_is _ _ _ _ N HN.out a1 n1 _ la _ _ _ true HLV.out HL1.out HN9.out hc1 _ (HR1.out.below (Later.ok _)))) | (go_at_call 68; exact Gives.later _ (implActsFit_is _ _ _ ac av HAV.out HL2.out h2 _ (HR2.out.below (Later.ok _))))))
  refine wpQuiet_nil ?_
  rintro w2 ⟨zz, hz⟩
  have HB2 : Hid (Below w.heap.size w w2) := HB1.out.trans ((hz ▸ zz.ok : Below w1.heap.size w1 w2).mono HB1.out.size)
  go_wp2
  go_ret
  exact ⟨ret_b HE.out, HB2.out⟩

end Go.Proofs.Ythplhjdfajhmpaa
