/-
  The model's times of activations and earliest time.
-/
import Derived.Test.YtihhcnckoeaihaaTrcF
namespace Go.Proofs.Ytihhcnckoeaihaa
open Go.RowKit Go.PlainAid

set_option linter.unusedVariables false

set_option maxHeartbeats 4000000 in
theorem specActs_is (a : Option Addr) (n c : Nat) (L : List Ev) (hl : L.length = n) (h1 : n ≤ 3000000) (w : World) (hr : evK.Row w a L) :
    Calls Try.prog 19 #[.slice a n c] w (GivesI (actsT L) w) := by
  obtain ⟨i0, hi, hz0, hz1, hz2⟩ := info_parts infoI
  have HR := Lib.hid hr
  have HL := Lib.hid hl
  clear hr hl
  go_enter Try.func19, Try.ntmps19
  go_wp2_with fail
  go_loopw [3, 4] (fun v i wr => ∃ k : Nat, k ≤ n ∧ i = .int .i64 k ∧ OwnI w.heap.size v (actsT (L.take k)) wr ∧ Below w.heap.size w wr) (fun _ i _ => n - (intOf i).toNat)
  case atStart => exact ⟨0, Nat.zero_le _, rfl, World.ownsRow_made w #[] 0 (Nat.le_refl _) (by decide) rfl, (Below.refl _ _).alloc (Nat.le_refl _) _⟩
  case round =>
    obtain ⟨m, hm, rfl, hown, hbr⟩ := hrel
    have HO := Lib.hid hown
    have HBR := Lib.hid hbr
    clear hown hbr
    by_cases hlt : m < n
    · obtain ⟨b, off, rfl, a0, a1, _⟩ := ev_at (HR.out.below HBR.out) (i := m) (by rw [HL.out]; exact hlt)
      have HT := Lib.hid (take_snoc (L := L) (i := m) (by rw [HL.out]; exact hlt))
      have hll : (actsT (L.take m)).length ≤ n := Nat.le_trans (actsT_length _) (by rw [List.length_take]; omega)
      obtain ⟨e, he⟩ : ∃ e, L.getD m ev0 = e := ⟨_, rfl⟩
      rw [he] at a0 a1 HT
      clear he
      by_cases hk1 : e.k = 1
      · have tk : (e.k == 1) = true := by simp [hk1]
        have RA : Hid (actsT (L.take (m + 1)) = actsT (L.take m) ++ [e.t]) := by show _ = _; rw [HT.out, actsT_snoc, if_pos hk1]
        have own7 := HO.out
        have hbs := HBR.out.size
        clear HO hk1
        go_wp2_with (at_builtin; refine wpList_append_own _ rfl _ _ 47 rfl w.heap.size 3 i0 (.int .i64 0) 1 8 Try.underlying47 hi hz0 hz1 hz2 rfl (by decide) _ _ _ rfl (World.ownsRow.alloc own7 _) ⟨wr.heap.size, 0, none⟩ 1 1 [.int .i64 e.t] rfl rfl (cell_one_new _ _ _) (by intro u hu; simp at hu; subst hu; rfl) (by unfold maxLen; omega) (by omega) (by rw [World.size_alloc]; omega) ?_)
        intro v' w8 hown8 hgrow _
        have R : Hid (OwnI w.heap.size v' (actsT (L.take (m + 1))) w8) := by
          have := ownI_more hown8
          rw [← RA.out] at this
          exact this
        have hrow : ∀ j, Value.ownBlock u3 = some j → w.heap.size ≤ j := fun j hj => (World.ownsRow.lt own7 j hj).1
        have HB8 : Hid (Below w.heap.size w w8) := HBR.out.trans (((Below.refl w.heap.size wr).alloc hbs _).grown hgrow (by rw [World.size_alloc]; omega) hrow)
        clear hown8 hgrow own7 hrow HBR
        go_wp2_with fail
        go_roundw
        case rel => exact ⟨m + 1, by omega, by go_num, R.out, HB8.out⟩
        case measure => simp [intOf]; omega
      · have tk : (e.k == 1) = false := by simp [hk1]
        have RA : Hid (actsT (L.take (m + 1)) = actsT (L.take m)) := by show _ = _; rw [HT.out, actsT_snoc, if_neg hk1]
        clear hk1
        go_wp2_with fail
        go_roundw
        case rel => exact ⟨m + 1, by omega, by go_num, by rw [RA.out]; exact HO.out, HBR.out⟩
        case measure => simp [intOf]; omega
    · obtain rfl : m = n := by omega
      have hO := HO.out
      rw [List.take_of_length_le (by rw [HL.out]; exact Nat.le_refl _)] at hO
      obtain ⟨aa, cc, hv⟩ := hO.shape
      have HO2 := Lib.hid hO
      have HV := Lib.hid hv
      clear hO hv
      go_wp2_with fail
      go_ret
      refine ⟨aa, cc, by first | rfl | (rw [HV.out]; rfl), ?_, HBR.out⟩
      have := HO2.out
      rw [HV.out] at this
      exact this

/-- What spec.TraceEnd answers. -/
def EndL (g0 B g2 g3 : Int) (N : Nat) (L : List Ev) : List Bk := if endOk g0 B g2 g3 N L = true then stL N L else []

def EndP (g0 B g2 g3 : Int) (N : Nat) (L : List Ev) : Int := if endOk g0 B g2 g3 N L = true then stP L else 0

def SEnd : Prop := ∀ (g0 B g2 g3 : Int) (a : Option Addr) (n c : Nat) (L : List Ev) (N : Nat) (hN : bankN g0 B g2 g3 = (N : Int)) (n' : Nat) (l' : List Bk) (pw' : Int) (v : Bool) (hn' : l'.length = n') (hl' : EndL g0 B g2 g3 N L = l') (hp' : EndP g0 B g2 g3 N L = pw') (hv : (endOk g0 B g2 g3 N L && decide (GeoOk g0 B g2 g3)) = v) (hl : L.length = n) (h1 : n ≤ 3000000) (w : World) (hr : evK.Row w a L),
    Calls Try.prog 13 #[.agg #[.int .i64 g0, .int .i64 B, .int .i64 g2, .int .i64 g3], .slice a n c] w (GivesA n' l' pw' v w)

end Go.Proofs.Ytihhcnckoeaihaa
