/-
  The laws' own words on slices of ints: equal, marked, held.
-/
import Derived.Test.YtcjeobagjhjbmaaDraw2W
import Derived.Test.YtcjeobagjhjbmaaLater
namespace Go.Proofs.Ytcjeobagjhjbmaa
open Go.RowKit Go.PlainAid

set_option linter.unusedVariables false

/-- A row of numbers of the call's own, at an index. -/
theorem OwnI.at {B n c : Nat} {a : Option Addr} {l : List Int} {w : World} (h : OwnI B (.slice a n c) l w) {k : Nat} (hk : k < l.length) :
    ∃ g, a = some ⟨g, 0, none⟩ ∧ w.cell? ⟨g, k, none⟩ = some (.int .i64 l[k]) ∧ w.frozen? ⟨g, k, none⟩ = false ∧ B ≤ g ∧ g < w.heap.size := by
  have hc := fun g hg => World.ownsRow.cells h (g := g) hg k (.int .i64 l[k]) (by simp [hk])
  rcases h.2 with ⟨_, h0⟩ | ⟨g, cap, cur, hv, hB, hh, _⟩
  · omega
  · cases hv
    refine ⟨g, rfl, ?_, ?_, hB, lt_of_block hh⟩
    · have := hc g rfl
      rwa [Addr.add_lit, Nat.zero_add] at this
    · simp [World.frozen?, hh]

theorem OwnI.stored {B n c g : Nat} {l : List Int} {w : World} (h : OwnI B (.slice (some ⟨g, 0, none⟩) n c) l w) (hl : l.length = n) (k : Nat) (x : Int) : OwnI B (.slice (some ⟨g, 0, none⟩) n c) (l.set k x) (w.setCell ⟨g, k, none⟩ (.int .i64 x)) := by
  unfold OwnI at h ⊢
  rw [hl] at h
  rw [List.length_set, List.map_set, hl]
  exact (World.ownsRow.stored h k (.int .i64 x)).1

theorem OwnI.keep {B c n : Nat} {a : Option Addr} {l : List Int} {w w' : World} {g : Nat} (h : OwnI B (.slice a n c) l w) (ho : Only g w w') (hne : ∀ x, a = some x → x.block ≠ g) : OwnI B (.slice a n c) l w' := by
  refine ⟨h.1, ?_⟩
  rcases h.2 with ⟨hv, h0⟩ | ⟨b, cap, cur, hv, hB, hh, r⟩
  · exact .inl ⟨hv, h0⟩
  · cases hv
    exact .inr ⟨b, c, cur, rfl, hB, by rw [ho.block b (lt_of_block hh) (hne _ rfl)]; exact hh, r⟩

theorem OwnI.lo {B c n : Nat} {a : Option Addr} {l : List Int} {w : World} (h : OwnI B (.slice a n c) l w) : ∀ x, a = some x → B ≤ x.block ∧ x.block < w.heap.size := by
  rintro x rfl
  exact World.ownsRow.lt h x.block rfl

theorem Only.later {c : Nat} {a w w' : World} (h : Only c a w) (hb : Below w.heap.size w w') : Only c a w' :=
  h.trans ⟨hb.os, hb.tape, hb.output, hb.size, fun k hk _ => hb.block k hk⟩


set_option maxHeartbeats 1000000 in
/-- Two rows of numbers that are alike. -/
theorem eqIntS_any {B C : Nat} {a b : Option Addr} {ca cb : Nat} {l : List Int} {w : World} {n : Nat} (hn : l.length = n) (ha : OwnI B (.slice a n ca) l w) (hb : OwnI C (.slice b n cb) l w) (hl : (n : Int) ≤ 9223372036854775807) :
    Calls Try.prog 34 #[.slice a n ca, .slice b n cb] w (Gives (.bool true) w) := by
  have HN := Lib.hid hn
  have HA := Lib.hid ha
  have HB := Lib.hid hb
  clear hn ha hb
  go_enter Try.func34, Try.ntmps34
  go_wp2_with fail
  go_loopw [5] (fun i wr => ∃ k : Nat, k ≤ n ∧ i = .int .i64 k ∧ ∃ q, wr = w.drewN q) (fun i _ => n - (intOf i).toNat)
  case atStart => exact ⟨0, Nat.zero_le _, rfl, 0, rfl⟩
  case round =>
    obtain ⟨k, hk, rfl, q, rfl⟩ := hrel
    by_cases hlt : k < n
    · obtain ⟨ga, rfl, hca, _, _, _⟩ := HA.out.at (k := k) (by rw [HN.out]; exact hlt)
      obtain ⟨gb, rfl, hcb, _, _, _⟩ := HB.out.at (k := k) (by rw [HN.out]; exact hlt)
      obtain ⟨x, hx⟩ : ∃ x, l[k]'(by rw [HN.out]; exact hlt) = x := ⟨_, rfl⟩
      rw [hx] at hca hcb
      have txx : (x != x) = false := by simp
      clear hx
      go_wp2_with fail
      go_quiet (fail)
      go_wp2
      go_roundw
      case rel => exact ⟨k + 1, by omega, by go_num, _, rfl⟩
      case measure => simp [intOf]; omega
    · go_wp2_with fail
      go_ret
      exact ⟨rfl, rfl, rfl, rfl, Nat.le_refl _, fun _ _ => rfl⟩


/-- n numbers, from k on. -/
def marksI (k n : Nat) : List Int := (List.range n).map fun (i : Nat) => ((k + i : Nat) : Int)

theorem marksI_length (k n : Nat) : (marksI k n).length = n := by simp [marksI]

theorem marksI_get (k n i : Nat) (h : i < (marksI k n).length) : (marksI k n)[i] = ((k + i : Nat) : Int) := by simp [marksI]

theorem marksI_step (k j : Nat) (l : List Int) (h : j < l.length) : (marksI k j ++ l.drop j).set j ((k + j : Nat) : Int) = marksI k (j + 1) ++ l.drop (j + 1) := by
  rw [List.set_append_right _ _ (by rw [marksI_length]; omega), marksI_length, Nat.sub_self, List.drop_eq_getElem_cons h, List.set_cons_zero]
  simp [marksI, List.range_succ]



end Go.Proofs.Ytcjeobagjhjbmaa
