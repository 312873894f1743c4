/-
  impl's reading of traces: the times of activations, the near events, the times that the distances and FAW leave.
-/
import Derived.Test.YtihhcnckoeaihaaTrcI
import Derived.Test.YtihhcnckoeaihaaTrcN
import Derived.Test.YtihhcnckoeaihaaTimH
namespace Go.Proofs.Ytihhcnckoeaihaa
open Go.RowKit Go.PlainAid

set_option linter.unusedVariables false

set_option maxHeartbeats 4000000 in
theorem implActs_is : IActs := by
  intro a n c L hl h1 hc hnc w hr
  obtain ⟨i0, hi, hz0, hz1, hz2⟩ := info_parts infoI
  have HR := Lib.hid hr
  have HL := Lib.hid hl
  clear hr hl hnc
  go_enter Try.func20, Try.ntmps20
  go_wp2_with fail
  go_loopw [3, 7] (fun v i wr => ∃ k : Nat, k ≤ n ∧ i = .int .i64 k ∧ OwnI w.heap.size v (actsT (L.take k)) wr ∧ Below w.heap.size w wr) (fun _ i _ => n - (intOf i).toNat)
  case atStart => exact ⟨0, Nat.zero_le _, rfl, World.ownsRow_nil _ _ _ _, Below.refl _ _⟩
  case round =>
    obtain ⟨m, hm, rfl, hown, hbr⟩ := hrel
    have HO := Lib.hid hown
    have HBR := Lib.hid hbr
    clear hown hbr
    by_cases hlt : m < n
    · obtain ⟨b, off, rfl, a0, a1, _⟩ := ev_at (HR.out.below HBR.out) (i := m) (by rw [HL.out]; exact hlt)
      have HT := Lib.hid (take_snoc (L := L) (i := m) (by rw [HL.out]; exact hlt))
      have hll : (actsT (L.take m)).length ≤ n := Nat.le_trans (actsT_length _) (by rw [List.length_take]; omega)
      obtain ⟨e, he⟩ : ∃ e, L.getD m ev0 = e := ⟨_, rfl⟩
      rw [he] at a0 a1 HT
      clear he
      by_cases hk1 : e.k = 1
      · have tk : (e.k == 1) = true := by simp [hk1]
        have RA : Hid (actsT (L.take (m + 1)) = actsT (L.take m) ++ [e.t]) := by show _ = _; rw [HT.out, actsT_snoc, if_pos hk1]
        have own7 := HO.out
        have hbs := HBR.out.size
        clear HO hk1
        go_wp2_with (at_builtin; refine wpList_append_own _ rfl _ _ 47 rfl w.heap.size 3 i0 (.int .i64 0) 1 8 Try.underlying47 hi hz0 hz1 hz2 rfl (by decide) _ _ _ rfl (World.ownsRow.alloc own7 _) ⟨wr.heap.size, 0, none⟩ 1 1 [.int .i64 e.t] rfl rfl (cell_one_new _ _ _) (by intro u hu; simp at hu; subst hu; rfl) (by unfold maxLen; omega) (by omega) (by rw [World.size_alloc]; omega) ?_)
        intro v' w8 hown8 hgrow _
        have R : Hid (OwnI w.heap.size v' (actsT (L.take (m + 1))) w8) := by
          have := ownI_more hown8
          rw [← RA.out] at this
          exact this
        have hrow : ∀ j, Value.ownBlock u3 = some j → w.heap.size ≤ j := fun j hj => (World.ownsRow.lt own7 j hj).1
        have HB8 : Hid (Below w.heap.size w w8) := HBR.out.trans (((Below.refl w.heap.size wr).alloc hbs _).grown hgrow (by rw [World.size_alloc]; omega) hrow)
        clear hown8 hgrow own7 hrow HBR
        go_wp2_with fail
        go_roundw
        case rel => exact ⟨m + 1, by omega, by go_num, R.out, HB8.out⟩
        case measure => simp [intOf]; omega
      · have tk : (e.k == 1) = false := by simp [hk1]
        have RA : Hid (actsT (L.take (m + 1)) = actsT (L.take m)) := by show _ = _; rw [HT.out, actsT_snoc, if_neg hk1]
        clear hk1
        go_wp2_with fail
        go_roundw
        case rel => exact ⟨m + 1, by omega, by go_num, by rw [RA.out]; exact HO.out, HBR.out⟩
        case measure => simp [intOf]; omega
    · obtain rfl : m = n := by omega
      have hO := HO.out
      rw [List.take_of_length_le (by rw [HL.out]; exact Nat.le_refl _)] at hO
      obtain ⟨aa, cc, hv⟩ := hO.shape
      have HO2 := Lib.hid hO
      have HV := Lib.hid hv
      clear hO hv
      go_wp2_with fail
      go_ret
      refine ⟨aa, cc, by first | rfl | (rw [HV.out]; rfl), ?_, HBR.out⟩
      have := HO2.out
      rw [HV.out] at this
      exact this

/-- The tail of a row that is read. -/
theorem Kd.Row.drop {α : Type} {k : Kd α} {w : World} {b off : Nat} {l : List α} (h : k.Row w (some ⟨b, off, none⟩) l) (n : Nat) : k.Row w (some ⟨b, off + n * k.K, none⟩) (l.drop n) := by
  by_cases hn : n < l.length
  · obtain ⟨b', off', hb, _⟩ := h.at (i := 0) (by omega)
    cases hb
    refine .inr ⟨b, _, rfl, fun i hi j hj => ?_⟩
    rw [List.length_drop] at hi
    obtain ⟨b', off', hb, hc⟩ := h.at (i := n + i) (by omega)
    cases hb
    have := hc j hj
    rw [Nat.add_mul, ← Nat.add_assoc off] at this
    rw [this, List.getD_eq_getElem?_getD, List.getD_eq_getElem?_getD, List.getElem?_drop]
  · exact .inl (List.drop_of_length_le (by omega))

/-- A call that answers the near ones of these events. -/
def GivesR (n c : Nat) (L : List Ev) (w : World) (e : Ending) (w' : World) : Prop :=
  ∃ a' : Option Addr, e = .returned (.slice a' (n - recK L) (c - recK L)) ∧ (a' = none → c - recK L = 0) ∧ evK.Row w' a' (L.drop (recK L)) ∧ Below w.heap.size w w'

set_option maxHeartbeats 4000000 in
theorem implRecent_is (a : Option Addr) (n c : Nat) (L : List Ev) (hl : L.length = n) (h1 : n ≤ 3000000) (hc : n ≤ c) (hnc : a = none → c = 0) (w : World) (hr : evK.Row w a L) :
    Calls Try.prog 72 #[.slice a n c] w (GivesR n c L w) := by
  have HR := Lib.hid hr
  have HL := Lib.hid hl
  have HNC := Lib.hid hnc
  obtain ⟨K, hK⟩ : ∃ u, recK L = u := ⟨_, rfl⟩
  have HKK := Lib.hid hK
  have hkn : recG L n = K := by rw [← hK, ← hl]; rfl
  have HKN := Lib.hid hkn
  clear hr hl hnc hkn hK
  go_enter Try.func72, Try.ntmps72
  go_wp2_with fail
  go_loopw [3] (fun v wr => ∃ k : Nat, k ≤ n ∧ v = .int .i64 k ∧ recG L k = K ∧ Below w.heap.size w wr) (fun v _ => (intOf v).toNat)
  case atStart => exact ⟨n, Nat.le_refl _, rfl, HKN.out, Below.refl _ _⟩
  case round =>
    obtain ⟨k, hk, rfl, hg, hbr⟩ := hrel
    have HG := Lib.hid hg
    have HBR := Lib.hid hbr
    have HRR := Lib.hid (HR.out.below hbr)
    clear hg hbr
    by_cases h0 : k = 0
    case pos =>
      subst h0
      have HE : Hid (K = 0) := by show _ = _; rw [← HG.out]; rfl
      have t0 : decide ((0 : Int) < ((0 : Nat) : Int)) = false := by decide
      go_wp2_with fail
      refine wp_region_later (by kernel_rfl) (by kernel_rfl) ?_
      repeat (go_big_quiet_step (fail))
      refine wpQuiet_nil ?_
      rintro wz ⟨zz, hzz⟩
      have HBZ : Hid (Below w.heap.size w wz) := HBR.out.trans ((hzz ▸ zz.ok : Below wr.heap.size wr wz).mono HBR.out.size)
      clear hzz zz
      go_wp2_with fail
      go_ret
      refine ⟨a, ?_, by rw [HKK.out, HE.out]; intro h; rw [HNC.out h], by rw [HKK.out, HE.out]; exact HR.out.below HBZ.out, HBZ.out⟩
      rw [HKK.out, HE.out]
      simp
    have hkm : k - 1 < n := by omega
    have hnm : n - 1 < n := by omega
    have t0 : decide ((0 : Int) < (k : Int)) = true := decide_eq_true (by omega)
    have t0' : decide (0 < k) = true := decide_eq_true (by omega)
    have wk : IntKind.i64.wrap ((k : Int) - 1) = ((k - 1 : Nat) : Int) := by rw [IntWalk.i64_in _ (by omega)]; omega
    have wn : IntKind.i64.wrap ((n : Int) - 1) = ((n - 1 : Nat) : Int) := by rw [IntWalk.i64_in _ (by omega)]; omega
    obtain ⟨b, off, rfl, a0, _⟩ := ev_at HRR.out (i := k - 1) (by rw [HL.out]; exact hkm)
    obtain ⟨b', off', hbb, l0, _⟩ := ev_at HRR.out (i := n - 1) (by rw [HL.out]; exact hnm)
    cases hbb
    have YES := Lib.hid (recG_yes (L := L) (k := k) (by omega))
    have NO := Lib.hid (recG_no (L := L) (k := k) (by omega))
    rw [HL.out] at YES NO
    obtain ⟨T1, hT1⟩ : ∃ u, (L.getD (k - 1) ev0).t = u := ⟨_, rfl⟩
    obtain ⟨T2, hT2⟩ : ∃ u, (L.getD (n - 1) ev0).t = u := ⟨_, rfl⟩
    rw [hT1] at a0 YES NO
    rw [hT2] at l0 YES NO
    have za := fun q : Later wr => q.cell a0
    have zl := fun q : Later wr => q.cell l0
    clear a0 l0 hT1 hT2
    obtain ⟨S, hS⟩ : ∃ S, IntKind.i64.wrap (T1 + 128) = S := ⟨_, rfl⟩
    rw [hS] at YES NO
    by_cases hx : T2 < S
    case pos =>
      have tx : decide (T2 < S) = true := decide_eq_true hx
      have NEXT : Hid (recG L (k - 1) = K) := (YES.out hx).trans HG.out
      clear hx YES NO
      go_wp2_with fail
      refine wp_region_later (by kernel_rfl) (by kernel_rfl) ?_
      repeat (go_big_quiet_step (fail))
      refine wpQuiet_nil ?_
      rintro wz ⟨zz, hzz⟩
      have HBZ : Hid (Below w.heap.size w wz) := HBR.out.trans ((hzz ▸ zz.ok : Below wr.heap.size wr wz).mono HBR.out.size)
      clear hzz zz za zl
      go_wp2_with fail
      go_roundw
      case rel => exact ⟨k - 1, by omega, by first | rfl | rw [wk], NEXT.out, HBZ.out⟩
      case measure => simp [intOf]; omega
    case neg =>
      have tx : decide (T2 < S) = false := decide_eq_false hx
      have HE : Hid (K = k) := HG.out.symm.trans (NO.out hx)
      clear hx YES NO
      go_wp2_with fail
      refine wp_region_later (by kernel_rfl) (by kernel_rfl) ?_
      repeat (go_big_quiet_step (fail))
      refine wpQuiet_nil ?_
      rintro wz ⟨zz, hzz⟩
      have HBZ : Hid (Below w.heap.size w wz) := HBR.out.trans ((hzz ▸ zz.ok : Below wr.heap.size wr wz).mono HBR.out.size)
      clear hzz zz za zl
      have HRZ := HR.out.below HBZ.out
      by_cases hck : c = k
      · obtain rfl : k = n := by omega
        subst hck
        go_wp2_with fail
        go_ret
        refine ⟨some ⟨b, off, none⟩, ?_, (fun h => by cases h), .inl (by rw [HKK.out, HE.out]; exact List.drop_of_length_le (by rw [HL.out]; exact Nat.le_refl _)), HBZ.out⟩
        rw [HKK.out, HE.out]
        simp
      · have ROW : Hid (evK.Row wz (some ⟨b, off + k * 5, none⟩) (L.drop k)) := Kd.Row.drop (k := evK) HRZ k
        have hck' : ¬ (k = c) := fun h => hck h.symm
        clear HRZ
        go_wp2_with fail
        all_goals try (exfalso; omega)
        go_ret
        refine ⟨some ⟨b, off + k * 5, none⟩, ?_, (fun h => by cases h), by rw [HKK.out, HE.out]; exact ROW.out, HBZ.out⟩
        rw [HKK.out, HE.out]
        try simp

end Go.Proofs.Ytihhcnckoeaihaa
