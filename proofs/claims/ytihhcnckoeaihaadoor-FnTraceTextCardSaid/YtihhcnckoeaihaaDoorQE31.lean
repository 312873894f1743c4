/-
  Texts of one proof, merged: TxtL.
-/
import Derived.Test.YtihhcnckoeaihaaDoorQE2
import Derived.Test.YtihhcnckoeaihaaDoorQE21
import Derived.Test.YtihhcnckoeaihaaDoorQE25
import Derived.Test.YtihhcnckoeaihaaDoorQE29
import Derived.Test.YtihhcnckoeaihaaDoorQE30
namespace Go.Proofs.YtihhcnckoeaihaaDoor
open Go.RowKit Go.PlainAid

set_option linter.unusedVariables false

theorem TrOk.lt {g0 B g2 g3 : Int} {t : Tm} {n : Nat} {L : List Ev} (h : TrOk g0 B g2 g3 t n L) {i j : Nat} (hij : i < j) (hj : j < L.length) : (L.getD i ev0).t < (L.getD j ev0).t := by
  obtain ⟨m, rfl⟩ : ∃ m, j = m + 1 := ⟨j - 1, by omega⟩
  have h1 := h.asc (i := i) (j := m) (by omega) (by omega)
  have h2 := (evF_zero.1 (h.at hj)).1.2.2
  rw [past_iff (Nat.succ_pos m) (Nat.le_of_lt hj)] at h2
  have h3 : (L.getD m ev0).t < (L.getD (m + 1) ev0).t := h2
  omega

theorem acts_asc {g0 B g2 g3 : Int} {t : Tm} {n : Nat} {L : List Ev} (h : TrOk g0 B g2 g3 t n L) {k : Nat} (h0 : 0 < k) (hk : k < (actsT L).length) : (actsT L).getD (k - 1) 0 < (actsT L).getD k 0 := by
  have hp : L.Pairwise (fun a b => a.t < b.t) := by
    rw [List.pairwise_iff_getElem]
    intro i j hi hj hij
    have := h.lt hij hj
    rw [List.getD_eq_getElem?_getD, List.getD_eq_getElem?_getD, List.getElem?_eq_getElem hi, List.getElem?_eq_getElem hj] at this
    exact this
  have hq : (actsT L).Pairwise (· < ·) := by
    unfold actsT
    rw [List.pairwise_map]
    exact hp.filter _
  rw [List.pairwise_iff_getElem] at hq
  have := hq (k - 1) k (by omega) hk (by omega)
  rw [List.getD_eq_getElem?_getD, List.getD_eq_getElem?_getD, List.getElem?_eq_getElem (show k - 1 < (actsT L).length by omega), List.getElem?_eq_getElem hk]
  exact this

/-- Newlines among the first bytes. -/
def nlsT (s : ByteArray) (k : Nat) : Nat := (s.data.toList.take k).countP (· == 10)

theorem nls_le (s : ByteArray) (k : Nat) : nlsT s k ≤ k := by
  unfold nlsT
  have h1 := List.countP_le_length (p := fun x : UInt8 => x == 10) (l := s.data.toList.take k)
  rw [List.length_take] at h1
  omega

theorem nls_step {s : ByteArray} {k : Nat} (hk : k < s.size) : ((bt s k == 10) = true → nlsT s (k + 1) = nlsT s k + 1) ∧ ((bt s k == 10) = false → nlsT s (k + 1) = nlsT s k) := by
  have hl : k < s.data.toList.length := by simpa using hk
  have e : bt s k = ((s.data.toList[k]).toNat : Int) := by unfold bt; rw [dif_pos hk]; rfl
  have ht : s.data.toList.take (k + 1) = s.data.toList.take k ++ [s.data.toList[k]] := by rw [List.take_add_one, List.getElem?_eq_getElem hl]; rfl
  have hx : (bt s k == 10) = (s.data.toList[k] == 10) := by
    rw [e, Bool.eq_iff_iff, beq_iff_eq, beq_iff_eq]
    constructor
    · intro h
      have h2 : (s.data.toList[k]).toNat = 10 := by omega
      exact UInt8.toNat_inj.1 h2
    · intro h
      rw [h]; rfl
  unfold nlsT
  rw [ht, List.countP_append, List.countP_singleton, hx]
  constructor
  · intro h; rw [if_pos h]
  · intro h; rw [if_neg (by rw [h]; simp)]; rfl

set_option maxHeartbeats 16000000 in
set_option maxRecDepth 100000 in
theorem fnTraceText_walk (a0 : Option Addr) (len cap : Nat) (zs : List Int) (w : World) (hr : IsRow .u8 w a0 len cap zs) (htab : Tab10 w) (hwv : WordsVar w) :
    Calls Tryd.prog 3 #[.slice a0 len cap] w fun e w' => e = .returned (.bool true) ∧ Below w.heap.size w w' := by
  have HTB := Lib.hid (Lib.tabBelow_of_tabIs htab)
  have HWV := Lib.hid hwv
  clear htab hwv
  have hl := hr.len_le
  unfold maxLen at hl
  by_cases hbig : (1048576 : Int) < (len : Int)
  · go_enter Tryd.func3, Tryd.ntmps3
    go_wp2_with (go_at_call 5; refine (big_any _ _ _ _ (by omega)).mono ?_; rintro e w' ⟨rfl, rfl⟩)
    go_ret
    exact ⟨rfl, Below.refl _ _⟩
  go_enter Tryd.func3, Tryd.ntmps3
  go_wp2_with (go_at_call 5; refine (big_any _ _ _ _ (by omega)).mono ?_; rintro e w' ⟨rfl, rfl⟩)
  refine (drawTrace_any hr).mono ?_
  rintro e w1 ⟨g0, B, g2, g3, t, N, a, cp, L, rfl, hok, hto, hN, hdr, hown, hb1⟩
  have HG : Hid (GeoOk g0 B g2 g3) := by
    obtain ⟨h1, h2, h4, h5⟩ := hok
    exact ⟨h1, h2, ⟨by omega, by omega⟩, ⟨by omega, by omega⟩⟩
  have HTO := Lib.hid hto
  have HNN := Lib.hid hN
  have HTR := Lib.hid hdr.ok
  have HLOW : Hid (∀ e ∈ L, e.t ≤ 4060) := fun e he => by have := hdr.low e he; omega
  have hfew := hdr.few
  have HNC := Lib.hid hown.nil
  have hcap := hown.cap
  obtain ⟨ln, hln⟩ : ∃ ln, L.length = ln := ⟨_, rfl⟩
  have HL := Lib.hid hln
  rw [hln] at hown hfew hcap ⊢
  have hN8 : N ≤ 8 := by have := bankN_range g0 B g2 g3; omega
  obtain ⟨w2, hw2⟩ : ∃ u, (w1.alloc (.cells #[.int .i64 0, .int .i64 0, .int .i64 0, .int .i64 0] 25)).alloc (.cells #[.int .i64 0, .int .i64 0, .int .i64 0, .int .i64 0, .int .i64 0, .int .i64 0, .int .i64 0, .int .i64 0, .int .i64 0, .int .i64 0, .int .i64 0, .int .i64 0, .int .i64 0, .int .i64 0, .int .i64 0, .int .i64 0, .int .i64 0] 27) = u := ⟨_, rfl⟩
  have hb2 : Below w1.heap.size w1 w2 := by subst hw2; exact ((Below.refl _ _).alloc (Nat.le_refl _) _).alloc (by simp) _
  have y2 : w2.heap[w1.heap.size]? = some (.cells #[.int .i64 0, .int .i64 0, .int .i64 0, .int .i64 0] 25) := by subst hw2; exact heap_alloc2_old _ _ _
  have z2 : w2.heap[w1.heap.size + 1]? = some (.cells #[.int .i64 0, .int .i64 0, .int .i64 0, .int .i64 0, .int .i64 0, .int .i64 0, .int .i64 0, .int .i64 0, .int .i64 0, .int .i64 0, .int .i64 0, .int .i64 0, .int .i64 0, .int .i64 0, .int .i64 0, .int .i64 0, .int .i64 0] 27) := by subst hw2; exact heap_alloc2_new _ _ _
  have z3 := (setRow_other w2 w1.heap.size (w1.heap.size + 1) #[.int .i64 g0, .int .i64 B, .int .i64 g2, .int .i64 g3] (by omega)).trans z2
  have y4 := (setRow_other (w2.setRow w1.heap.size #[.int .i64 g0, .int .i64 B, .int .i64 g2, .int .i64 g3]) (w1.heap.size + 1) w1.heap.size #[.int .i64 t.rcd, .int .i64 t.rp, .int .i64 t.ras, .int .i64 t.rrds, .int .i64 t.rrdl, .int .i64 t.faw, .int .i64 t.ccds, .int .i64 t.ccdl, .int .i64 t.rtp, .int .i64 t.wr, .int .i64 t.wtrs, .int .i64 t.wtrl, .int .i64 t.rtw, .int .i64 t.rfc, .int .i64 t.cke, .int .i64 t.xp, .int .i64 t.xs] (by omega)).trans (setRow_same _ _ #[.int .i64 g0, .int .i64 B, .int .i64 g2, .int .i64 g3] _ _ y2)
  have z4 := setRow_same _ _ #[.int .i64 t.rcd, .int .i64 t.rp, .int .i64 t.ras, .int .i64 t.rrds, .int .i64 t.rrdl, .int .i64 t.faw, .int .i64 t.ccds, .int .i64 t.ccdl, .int .i64 t.rtp, .int .i64 t.wr, .int .i64 t.wtrs, .int .i64 t.wtrl, .int .i64 t.rtw, .int .i64 t.rfc, .int .i64 t.cke, .int .i64 t.xp, .int .i64 t.xs] _ _ z3
  have HB4 : Hid (Below w.heap.size w ((w2.setRow w1.heap.size #[.int .i64 g0, .int .i64 B, .int .i64 g2, .int .i64 g3]).setRow (w1.heap.size + 1) #[.int .i64 t.rcd, .int .i64 t.rp, .int .i64 t.ras, .int .i64 t.rrds, .int .i64 t.rrdl, .int .i64 t.faw, .int .i64 t.ccds, .int .i64 t.ccdl, .int .i64 t.rtp, .int .i64 t.wr, .int .i64 t.wtrs, .int .i64 t.wtrl, .int .i64 t.rtw, .int .i64 t.rfc, .int .i64 t.cke, .int .i64 t.xp, .int .i64 t.xs])) := below_setRow (below_setRow (hb1.trans (hb2.mono hb1.size)) hb1.size _) (by have := hb1.size; omega) _
  have OWN4 : Hid (evK.Own 37 w.heap.size (.slice a ln cp) L ((w2.setRow w1.heap.size #[.int .i64 g0, .int .i64 B, .int .i64 g2, .int .i64 g3]).setRow (w1.heap.size + 1) #[.int .i64 t.rcd, .int .i64 t.rp, .int .i64 t.ras, .int .i64 t.rrds, .int .i64 t.rrdl, .int .i64 t.faw, .int .i64 t.ccds, .int .i64 t.ccdl, .int .i64 t.rtp, .int .i64 t.wr, .int .i64 t.wtrs, .int .i64 t.wtrl, .int .i64 t.rtw, .int .i64 t.rfc, .int .i64 t.cke, .int .i64 t.xp, .int .i64 t.xs])) := (hown.below hb2).frame (fun x hx => (setRow_other _ _ _ _ (by have := (hown.lo x hx).2; omega)).trans (setRow_other _ _ _ _ (by have := (hown.lo x hx).2; omega)))
  clear hok hto hN hdr hown hb1 hb2 hln z2
  go_wp2_with (first | ((with_reducible refine store_list (cells := #[.int .i64 g0, .int .i64 B, .int .i64 g2, .int .i64 g3]) y2 ?_ ?_ ?_ ?_ ?_ ?_); kernel_rfl; kernel_rfl; kernel_rfl; kernel_rfl; kernel_rfl) | ((with_reducible refine store_list (cells := #[.int .i64 t.rcd, .int .i64 t.rp, .int .i64 t.ras, .int .i64 t.rrds, .int .i64 t.rrdl, .int .i64 t.faw, .int .i64 t.ccds, .int .i64 t.ccdl, .int .i64 t.rtp, .int .i64 t.wr, .int .i64 t.wtrs, .int .i64 t.wtrl, .int .i64 t.rtw, .int .i64 t.rfc, .int .i64 t.cke, .int .i64 t.xp, .int .i64 t.xs]) z3 ?_ ?_ ?_ ?_ ?_ ?_); kernel_rfl; kernel_rfl; kernel_rfl; kernel_rfl; kernel_rfl))
  clear y2 z3 hw2
  generalize (w2.setRow w1.heap.size #[.int .i64 g0, .int .i64 B, .int .i64 g2, .int .i64 g3]).setRow (w1.heap.size + 1) #[.int .i64 t.rcd, .int .i64 t.rp, .int .i64 t.ras, .int .i64 t.rrds, .int .i64 t.rrdl, .int .i64 t.faw, .int .i64 t.ccds, .int .i64 t.ccdl, .int .i64 t.rtp, .int .i64 t.wr, .int .i64 t.wtrs, .int .i64 t.wtrl, .int .i64 t.rtw, .int .i64 t.rfc, .int .i64 t.cke, .int .i64 t.xp, .int .i64 t.xs] = w4 at y4 z4 HB4 OWN4 ⊢
  obtain ⟨G, hG⟩ : ∃ G, w1.heap.size = G := ⟨_, rfl⟩
  rw [hG] at y4 z4
  (try simp only [hG])
  clear hG
  have HET : Hid (∀ e ∈ L, EvT e) := fun e he => by have h := (HTR.out.mem he).1; exact ⟨by omega, by omega⟩
  have HR4 := Lib.hid OWN4.out.row
  clear OWN4
  obtain ⟨S, hS⟩ : ∃ S, (⟨(textT L).toArray⟩ : ByteArray) = S := ⟨_, rfl⟩
  have HS := Lib.hid hS
  have hsz : S.size ≤ 1200 := by
    have h := text_len HET.out
    rw [HL.out] at h
    rw [← hS]
    show (textT L).length ≤ 1200
    omega
  have HNL : Hid (nlsT S S.size = ln) := by
    show _ = _
    unfold nlsT
    rw [← HL.out, ← text_count L, ← hS, List.take_of_length_le (by show (textT L).length ≤ (textT L).length; omega)]
  clear hS
  refine (implTraceTxt_is _ _ _ L HET.out HL.out (by omega) _ HR4.out (HTB.out.on HB4.out).here (HWV.out.below HB4.out)).mono ?_
  rintro e w5 ⟨rfl, hb5⟩
  have HB5 : Hid (Below w.heap.size w w5) := HB4.out.trans (hb5.mono HB4.out.size)
  have HR5 := Lib.hid (HR4.out.below hb5)
  clear hb5 y4 z4 HB4 HR4
  rw [HS.out]
  have hbt := get_bt S
  go_wp2_with fail
  go_loop [7, 8] (fun v i => ∃ k : Nat, k ≤ S.size ∧ i = .int .i64 k ∧ v = .int .i64 (nlsT S k : Int)) (fun _ i => S.size - (intOf i).toNat)
  case atStart => exact ⟨0, Nat.zero_le _, rfl, rfl⟩
  case round =>
    obtain ⟨k, hk, rfl, rfl⟩ := hrel
    by_cases hlt : k < S.size
    · have hn := nls_le S k
      obtain ⟨s1, s2⟩ := nls_step hlt
      have wk : IntKind.i64.wrap ((nlsT S k : Int) + 1) = (nlsT S k : Int) + 1 := IntWalk.i64_in _ (by omega)
      cases hb : (bt S k == 10) with
      | true =>
        have h1 := s1 hb
        go_wp2_with fail
        go_round
        case rel => exact ⟨k + 1, by omega, by go_num, by (rw [h1]) <;> (congr 1 <;> omega)⟩
        case measure => simp [intOf]; omega
      | false =>
        have h1 := s2 hb
        go_wp2_with fail
        go_round
        case rel => exact ⟨k + 1, by omega, by go_num, by rw [h1]⟩
        case measure => simp [intOf]; omega
    · obtain rfl : k = S.size := by omega
      rw [HNL.out]
      clear hbt
      go_wp2_with fail
      refine (implActs_is _ _ _ _ HL.out (by omega) (by omega) HNC.out _ HR5.out).mono ?_
      rintro e w6 ⟨ua, uc, rfl, own6, hb6⟩
      have HB6 : Hid (Below w.heap.size w w6) := HB5.out.trans (hb6.mono HB5.out.size)
      have HR6 := Lib.hid (HR5.out.below hb6)
      obtain ⟨al, hal⟩ : ∃ al, (actsT L).length = al := ⟨_, rfl⟩
      have HAL := Lib.hid hal
      have hall : al ≤ ln := by have := actsT_length L; rw [hal, HL.out] at this; exact this
      rw [hal] at own6 ⊢
      have HO6 := Lib.hid own6
      clear hb6 own6 hal HB5 HR5
      go_wp2_with fail
      go_loopw [10] (fun i wr => ∃ k : Nat, 1 ≤ k ∧ (k ≤ al ∨ k = 1) ∧ i = .int .i64 k ∧ Below w6.heap.size w6 wr) (fun i _ => al - (intOf i).toNat)
      case atStart => exact ⟨1, Nat.le_refl _, .inr rfl, rfl, Below.refl _ _⟩
      case round =>
        obtain ⟨k, hk1, hka, rfl, hbr⟩ := hrel
        have HBR := Lib.hid hbr
        have HBW : Hid (Below w.heap.size w wr) := HB6.out.trans (hbr.mono HB6.out.size)
        have HOR := Lib.hid (HO6.out.below hbr)
        have HRR := Lib.hid (HR6.out.below hbr)
        clear hbr
        by_cases hlt : k < al
        · have hasc := acts_asc HTR.out (k := k) (by omega) (by rw [HAL.out]; exact hlt)
          have hk2 : k - 1 < al := by omega
          obtain ⟨A1, hA1⟩ : ∃ A, (actsT L).getD (k - 1) 0 = A := ⟨_, rfl⟩
          obtain ⟨A2, hA2⟩ : ∃ A, (actsT L).getD k 0 = A := ⟨_, rfl⟩
          rw [hA1, hA2] at hasc
          obtain ⟨ga, rfl, hc1, _⟩ := HOR.out.at (k := k - 1) (by rw [HAL.out]; exact hk2)
          obtain ⟨ga', hga, hc2, _⟩ := HOR.out.at (k := k) (by rw [HAL.out]; exact hlt)
          cases hga
          have d1 : wr.cell? ⟨ga, k - 1, none⟩ = some (.int .i64 A1) := by
            rw [hc1, ← hA1, List.getD_eq_getElem?_getD, List.getElem?_eq_getElem (by rw [HAL.out]; exact hk2)]
            rfl
          have d2 : wr.cell? ⟨ga, k, none⟩ = some (.int .i64 A2) := by
            rw [hc2, ← hA2, List.getD_eq_getElem?_getD, List.getElem?_eq_getElem (by rw [HAL.out]; exact hlt)]
            rfl
          have z1 := fun q : Later wr => q.cell d1
          have z2 := fun q : Later wr => q.cell d2
          have wk : IntKind.i64.wrap ((k : Int) - 1) = ((k - 1 : Nat) : Int) := by rw [IntWalk.i64_in _ (by omega)]; omega
          have tx : decide (A2 ≤ A1) = false := decide_eq_false (by omega)
          clear hA1 hA2 hc1 hc2 d1 d2 hasc
          go_wp2_with fail
          refine wp_region_later (by kernel_rfl) (by kernel_rfl) ?_
          repeat (go_big_quiet_step (fail))
          refine wpQuiet_nil ?_
          rintro wz ⟨zz, hzz⟩
          have HBZ : Hid (Below w6.heap.size w6 wz) := HBR.out.trans ((hzz ▸ zz.ok : Below wr.heap.size wr wz).mono HBR.out.size)
          clear hzz zz z1 z2
          go_wp2_with fail
          go_roundw
          case rel => exact ⟨k + 1, by omega, .inl (by omega), by go_num, HBZ.out⟩
          case measure => simp [intOf]; omega
        · have tl : decide ((k : Int) < (al : Int)) = false := decide_eq_false (by omega)
          go_wp2_with fail
          refine (specTraceTxt_is _ _ _ L HET.out HL.out (by omega) _ HRR.out).mono ?_
          rintro e w7 ⟨rfl, hb7⟩
          have HB7 : Hid (Below w.heap.size w w7) := HBW.out.trans (hb7.mono HBW.out.size)
          clear hb7
          rw [HS.out]
          obtain ⟨w8, hw8⟩ : ∃ u, w7.alloc (.cells #[.int .i64 4, .int .i64 1, .int .i64 0, .int .i64 0, .int .i64 0] 37) = u := ⟨_, rfl⟩
          have HB8 : Hid (Below w.heap.size w w8) := by subst hw8; exact HB7.out.alloc HB7.out.size _
          have HONE : Hid (evK.Row w8 (some ⟨w7.heap.size, 0, none⟩) [⟨4, 1, 0, 0, 0⟩]) := by subst hw8; exact one_ev (e := ⟨4, 1, 0, 0, 0⟩) (heap_alloc_new _ _)
          go_wp2_with fail
          refine (implActs_is _ 1 1 [⟨4, 1, 0, 0, 0⟩] rfl (by omega) (by omega) (fun h => by cases h) _ HONE.out).mono ?_
          rintro e w9 ⟨va, vc, rfl, own9, hb9⟩
          have HB9 : Hid (Below w.heap.size w w9) := HB8.out.trans (hb9.mono HB8.out.size)
          clear hb9 own9
          have e1 : (actsT [⟨4, 1, 0, 0, 0⟩]).length = 1 := rfl
          (try rw [e1])
          go_wp2
          go_ret
          exact ⟨rfl, HB9.out⟩

end Go.Proofs.YtihhcnckoeaihaaDoor
